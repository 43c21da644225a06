/- Package slab: slabs as they lie; isMade, Len, Slab, Most. Package slab: at, Crossings, In. Package slab: newEdge, fills, edgesOf; rows of edges. Package slab: heightsOf. Package slab: divide. Package slab: Build. -/
import Derived.Test.YthphdiigjimchaaGreatSbMath
import Derived.Test.YthphdiigjimchaaGreatBtRef
import Derived.Test.YthphdiigjimchaaGreatKitTwo
import Derived.Test.YthphdiigjimchaaGreatShelf
import Derived.Test.YthphdiigjimchaaGreatPtFew
import Derived.Test.YthphdiigjimchaaGreatReOne
import Derived.Test.YthphdiigjimchaaGreatReTwo
import Derived.Lib.SlicesCompact
namespace Go.Proofs.YthphdiigjimchaaGreat
section
set_option linter.unusedVariables false
set_option linter.unusedSimpArgs false
open Go.RowKit
structure SlabB (w : World) (base top sb : Nat) (R : List (List Pt)) : Prop where
  fine : regFine R
  lo : base ≤ sb
  hi : sb < top
  size : top ≤ w.heap.size
  self : w.cell? ⟨sb, 0, none⟩ = some (.pointer (some ⟨sb, 0, none⟩))
  hts : ∃ hb hc, base ≤ hb ∧ hb < top ∧ w.cell? ⟨sb, 1, none⟩ = some (.slice (some ⟨hb, 0, none⟩) (hgtL R).length hc) ∧ ∀ i, i < (hgtL R).length → w.cell? ⟨hb, i, none⟩ = some (.int .i64 ((hgtL R).getD i 0))
  eds : ∃ pb pc, base ≤ pb ∧ pb < top ∧ w.cell? ⟨sb, 2, none⟩ = some (.slice (some ⟨pb, 0, none⟩) ((hgtL R).length - 1) pc) ∧ ∀ i, i + 1 < (hgtL R).length → ∃ ab o c, base ≤ ab ∧ ab < top ∧ w.cell? ⟨pb, i, none⟩ = some (.slice (some ⟨ab, o, none⟩) (slabN R i) c) ∧ XReads w (some ⟨ab, o, none⟩) (slabN R i) (slabE R i)
section
variable {w w' : World} {base top sb : Nat} {R : List (List Pt)}
theorem SlabB.only (h : SlabB w base top sb R) (hk : ∀ k, base ≤ k → k < top → w'.heap[k]? = w.heap[k]?) (hs : top ≤ w'.heap.size) : SlabB w' base top sb R := by
  obtain ⟨h1, h2, h3, h4, h5, ⟨hb, hc, k1, k2, k3, k4⟩, ⟨pb, pc, q1, q2, q3, q4⟩⟩ := h
  refine ⟨h1, h2, h3, hs, (World.cell?_of_block (a := ⟨sb, 0, none⟩) (hk sb h2 h3)).trans h5, ⟨hb, hc, k1, k2, (World.cell?_of_block (a := ⟨sb, 1, none⟩) (hk sb h2 h3)).trans k3, fun i hi => (World.cell?_of_block (a := ⟨hb, i, none⟩) (hk hb k1 k2)).trans (k4 i hi)⟩,
    ⟨pb, pc, q1, q2, (World.cell?_of_block (a := ⟨sb, 2, none⟩) (hk sb h2 h3)).trans q3, fun i hi => ?_⟩⟩
  obtain ⟨ab, o, c, e1, e2, e3, e4⟩ := q4 i hi
  exact ⟨ab, o, c, e1, e2, (World.cell?_of_block (a := ⟨pb, i, none⟩) (hk pb q1 q2)).trans e3, e4.only (v := .slice none 0 0) fun x hx => by injection hx with hx; rw [← hx]; exact hk ab e1 e2⟩
theorem SlabB.below (h : SlabB w base top sb R) (hb : Below w.heap.size w w') : SlabB w' base top sb R :=
  h.only (fun k _ hk => hb.block k (Nat.lt_of_lt_of_le hk h.size)) (Nat.le_trans h.size hb.size)
theorem SlabB.rings (h : SlabB w base top sb R) : ∀ K ∈ R, 0 < K.length := fun K hK => by have := (h.fine.each K hK).few; omega
theorem SlabB.lens (h : SlabB w base top sb R) : ∃ m, (hgtL R).length = m + 1 ∧ 0 < m := ⟨(hgtL R).length - 1, by have := hgtL_len h.fine; omega, by have := hgtL_len h.fine; omega⟩
end
theorem hgtL_few (R : List (List Pt)) : (hgtL R).length ≤ allN R := by
  have key : ∀ (ys l : List Int), (ys.foldl insH l).length ≤ ys.length + l.length := by
    intro ys
    induction ys with
    | nil => intro l; simp
    | cons y ys ih =>
      intro l
      have h1 := ih (insH l y)
      have h2 : (insH l y).length ≤ l.length + 1 := by
        unfold insH
        split
        · omega
        · rw [List.length_append, List.length_cons, List.length_take, List.length_drop]
          have := at_le l y
          omega
      rw [List.foldl_cons, List.length_cons]
      omega
  have h := key (R.flatten.map fun p : Pt => p.2) []
  rw [List.length_map, List.length_flatten, List.length_nil, Nat.add_zero] at h
  exact h
theorem slabs_self (w : World) (a : Addr) : (binOp .eql 103 (.pointer (some a)) (.pointer (some a))).run Tryz.prog w = .ok (.bool true) w := by
  have h : (Tryz.prog.info? 138).isSome = true := by kernel_rfl
  obtain ⟨j, hj⟩ := Option.isSome_iff_exists.1 h
  exact run_eql_ptr_same w a Tryz.underlying103 hj
set_option maxRecDepth 100000 in
theorem n_slMade (sb : Nat) (w : World) (h : w.cell? ⟨sb, 0, none⟩ = some (.pointer (some ⟨sb, 0, none⟩))) : Calls Tryz.prog 153 #[.pointer (some ⟨sb, 0, none⟩)] w fun e w' => e = .returned (.bool true) ∧ w' = w := by
  have hl : sb < w.heap.size := World.block_lt_of_cell? _ _ h
  have hpe := slabs_self
  go_enter Tryz.func153, Tryz.ntmps153
  go_wp2
  go_ret
  exact ⟨rfl, rfl⟩
section
variable {w : World} {base top sb : Nat} {R : List (List Pt)}
def slabV (R : List (List Pt)) (i : Int) : Value := if 0 ≤ i ∧ i + 1 < (hgtL R).length then .tuple #[.int .i64 ((hgtL R).getD i.toNat 0), .int .i64 ((hgtL R).getD (i.toNat + 1) 0), .int .i64 ((slabN R i.toNat : Nat) : Int), .int .i64 0] else .tuple #[.int .i64 0, .int .i64 0, .int .i64 0, .int .i64 6]
def MsAt (W : World) (R : List (List Pt)) (m : Nat) (x y : Value) (wr : World) : Prop := ∃ k : Nat, y = .int .i64 (k : Int) ∧ x = .int .i64 ((mostK R k : Nat) : Int) ∧ k ≤ m ∧ Cls W wr
end
end

section
set_option linter.unusedVariables false
set_option linter.unusedSimpArgs false
open Go.RowKit Go.Shelf
theorem asc_le {l : List Int} (h : AscH l) : l.Pairwise (· ≤ ·) := h.imp fun h => Int.le_of_lt h
section
variable {w : World} {base top sb : Nat} {R : List (List Pt)}
set_option maxRecDepth 100000 in
set_option maxHeartbeats 2000000 in
theorem n_slAt (h : SlabB w base top sb R) (y : Int) : Calls Tryz.prog 120 #[.pointer (some ⟨sb, 0, none⟩), .int .i64 y] w fun e w' => (∃ a n c, e = .returned (.slice a n c) ∧ XReads w' a n (atE R y) ∧ n ≤ 400) ∧ Junk w w' := by
  have HM := Lib.hid (n_slMade sb w h.self)
  obtain ⟨pb, pc, _, _, c2, hE⟩ := h.eds
  obtain ⟨hb, hc, _, _, c1, hH⟩ := h.hts
  obtain ⟨m, hm, hm0⟩ := h.lens
  have hfew := hgtL_few R
  have hmany := h.fine.many
  have hl : sb < w.heap.size := World.block_lt_of_cell? _ _ c2
  have hlen := slab_len h.rings
  have HS := Lib.hid (Tryz.slices_BinarySearch_int hb 0 (hgtL R).length hc (hgtL R) y w (Nat.le_refl _) (by omega) (fun j hj => by rw [Nat.zero_add]; exact hH j hj) (by rw [List.take_length]; exact asc_le (hgt_asc _)))
  rw [List.take_length] at HS
  obtain ⟨P, hP⟩ : ∃ P, plcH (hgtL R) y = P := ⟨_, rfl⟩
  have hP2 : P = if (hgtL R).contains y then (((hgtL R).countP (· < y) : Nat) : Int) else (((hgtL R).countP (· < y) : Nat) : Int) - 1 := by rw [← hP]; rfl
  have hcl : (hgtL R).countP (· < y) ≤ m + 1 := by rw [← hm]; exact List.countP_le_length
  have eat : atE R y = if 0 ≤ P ∧ P + 1 < (hgtL R).length then slabE R P.toNat else [] := by unfold atE; rw [hP]
  rw [eat]
  have hsl := slab_le R
  clear eat hP
  generalize (hgtL R).countP (· < y) = c at *
  generalize (hgtL R).contains y = g at *
  rw [hm] at c1 c2 hE HS ⊢
  rw [show m + 1 - 1 = m from rfl] at c2
  have HE := Lib.hid hE
  have HLn := Lib.hid hlen
  have HSl := Lib.hid hsl
  have mm : m ≤ 400 := by omega
  have hmn := Lib.hid hmany
  clear hE hH hlen hsl hm hfew hmany h
  have w1 : ∀ z : Int, -2 ≤ z → z ≤ 1000 → IntKind.i64.wrap z = z := fun z h1 h2 => by simp [IntKind.wrap, IntKind.signed, IntKind.bits]; omega
  obtain ⟨q1, q2⟩ : -1 ≤ P ∧ P ≤ m + 1 := by rw [hP2]; split <;> omega
  by_cases hlo : P < 0
  · rw [if_neg (by omega)]
    cases g with
    | true => simp only [if_true] at hP2; omega
    | false =>
      simp only [Bool.false_eq_true, if_false] at hP2
      obtain rfl : c = 0 := by omega
      have e1 : IntKind.i64.wrap (((0 : Nat) : Int) - 1) = -1 := w1 _ (by omega) (by omega)
      clear hP2 hlo q1 q2 w1 HE HLn HSl
      go_enter Tryz.func120, Tryz.ntmps120
      go_wp2_with (first | (go_at_call 153; refine HM.out.mono ?_; rintro e w1 ⟨rfl, hw⟩; rw [hw]; clear hw) | (go_at_call 154; refine HS.out.mono ?_; rintro e w1 ⟨rfl, q, rfl⟩))
      go_ret
      exact ⟨⟨_, _, _, rfl, xreads_nil _, by decide⟩, junk_of_below (by (repeat' first | with_reducible (first | apply Below.refl | assumption | apply bw_a | apply bw_d | apply bw_n | apply bw_p | apply bw_c | apply bw_r) | go_size))⟩
  · obtain ⟨j, rfl⟩ : ∃ j : Nat, P = j := ⟨P.toNat, by omega⟩
    rw [Int.toNat_natCast]
    by_cases hhi : (j : Int) + 1 < ((m + 1 : Nat) : Int)
    · rw [if_pos ⟨by omega, hhi⟩]
      obtain ⟨ab, o, ec, _, _, p2, hX⟩ := HE.out j (by omega)
      have lp := World.block_lt_of_cell? _ _ p2
      have hn : slabN R j ≤ 400 := by rw [← HLn.out]; exact Nat.le_trans (HSl.out j) hmn.out
      have HX := Lib.hid hX
      generalize slabE R j = E at *
      generalize slabN R j = sn at *
      have i1 : ¬ (j : Int) < 0 := by omega
      have i2 : ¬ (m : Int) ≤ (j : Int) := by omega
      have i2' : ¬ (j : Int) ≥ (m : Int) := by omega
      have i3 : (j : Int) < (m : Int) := by omega
      clear hX
      cases g with
      | true =>
        simp only [if_true] at hP2
        obtain rfl : j = c := by omega
        clear hP2 hlo q1 q2 w1 HE HLn HSl hhi
        go_enter Tryz.func120, Tryz.ntmps120
        go_wp2_with (first | (go_at_call 153; refine HM.out.mono ?_; rintro e w1 ⟨rfl, hw⟩; rw [hw]; clear hw) | (go_at_call 154; refine HS.out.mono ?_; rintro e w1 ⟨rfl, q, rfl⟩))
        go_ret
        exact ⟨⟨_, _, _, rfl, HX.out.below (by (repeat' first | with_reducible (first | apply Below.refl | assumption | apply bw_a | apply bw_d | apply bw_n | apply bw_p | apply bw_c | apply bw_r) | go_size)), hn⟩, junk_of_below (by (repeat' first | with_reducible (first | apply Below.refl | assumption | apply bw_a | apply bw_d | apply bw_n | apply bw_p | apply bw_c | apply bw_r) | go_size))⟩
      | false =>
        simp only [Bool.false_eq_true, if_false] at hP2
        obtain rfl : c = j + 1 := by omega
        have e1 : IntKind.i64.wrap (((j + 1 : Nat) : Int) - 1) = (j : Int) := by rw [w1 _ (by omega) (by omega)]; omega
        clear hP2 hlo q1 q2 w1 HE HLn HSl hhi
        go_enter Tryz.func120, Tryz.ntmps120
        go_wp2_with (first | (go_at_call 153; refine HM.out.mono ?_; rintro e w1 ⟨rfl, hw⟩; rw [hw]; clear hw) | (go_at_call 154; refine HS.out.mono ?_; rintro e w1 ⟨rfl, q, rfl⟩))
        go_ret
        exact ⟨⟨_, _, _, rfl, HX.out.below (by (repeat' first | with_reducible (first | apply Below.refl | assumption | apply bw_a | apply bw_d | apply bw_n | apply bw_p | apply bw_c | apply bw_r) | go_size)), hn⟩, junk_of_below (by (repeat' first | with_reducible (first | apply Below.refl | assumption | apply bw_a | apply bw_d | apply bw_n | apply bw_p | apply bw_c | apply bw_r) | go_size))⟩
    · rw [if_neg (by omega)]
      have i1 : ¬ (j : Int) < 0 := by omega
      have i2 : (m : Int) ≤ (j : Int) := by omega
      have i2' : (j : Int) ≥ (m : Int) := by omega
      cases g with
      | true =>
        simp only [if_true] at hP2
        obtain rfl : j = c := by omega
        clear hP2 hlo q1 q2 w1 HE HLn HSl hhi
        go_enter Tryz.func120, Tryz.ntmps120
        go_wp2_with (first | (go_at_call 153; refine HM.out.mono ?_; rintro e w1 ⟨rfl, hw⟩; rw [hw]; clear hw) | (go_at_call 154; refine HS.out.mono ?_; rintro e w1 ⟨rfl, q, rfl⟩))
        go_ret
        exact ⟨⟨_, _, _, rfl, xreads_nil _, by decide⟩, junk_of_below (by (repeat' first | with_reducible (first | apply Below.refl | assumption | apply bw_a | apply bw_d | apply bw_n | apply bw_p | apply bw_c | apply bw_r) | go_size))⟩
      | false =>
        simp only [Bool.false_eq_true, if_false] at hP2
        obtain rfl : c = j + 1 := by omega
        have e1 : IntKind.i64.wrap (((j + 1 : Nat) : Int) - 1) = (j : Int) := by rw [w1 _ (by omega) (by omega)]; omega
        clear hP2 hlo q1 q2 w1 HE HLn HSl hhi
        go_enter Tryz.func120, Tryz.ntmps120
        go_wp2_with (first | (go_at_call 153; refine HM.out.mono ?_; rintro e w1 ⟨rfl, hw⟩; rw [hw]; clear hw) | (go_at_call 154; refine HS.out.mono ?_; rintro e w1 ⟨rfl, q, rfl⟩))
        go_ret
        exact ⟨⟨_, _, _, rfl, xreads_nil _, by decide⟩, junk_of_below (by (repeat' first | with_reducible (first | apply Below.refl | assumption | apply bw_a | apply bw_d | apply bw_n | apply bw_p | apply bw_c | apply bw_r) | go_size))⟩
theorem filt_take {f : Bx → Bool} {E : List Bx} {k : Nat} (hk : k < E.length) : ((E.take (k + 1)).filter f).length = ((E.take k).filter f).length + oneN (f (E.getD k Bx0)) := by
  rw [List.take_succ_eq_append_getElem hk, List.filter_append, List.length_append]
  congr 1
  rw [List.getD_eq_getElem?_getD, List.getElem?_eq_getElem hk, Option.getD_some]
  unfold oneN
  cases h : f E[k] <;> simp [h]
def CgAt (W : World) (p : Pt) (E : List Bx) (x y : Value) (wr : World) : Prop := ∃ k : Nat, y = .int .i64 (k : Int) ∧ x = .int .i64 (((E.take k).filter (turnsE p)).length : Nat) ∧ k ≤ E.length ∧ Cls W wr
set_option maxRecDepth 100000 in
set_option maxHeartbeats 2000000 in
theorem n_slCross (h : SlabB w base top sb R) (px py : Int) : Calls Tryz.prog 92 #[.pointer (some ⟨sb, 0, none⟩), pt px py] w fun e w' => e = .returned (.int .i64 ((crossR (px, py) R : Nat) : Int)) ∧ Junk w w' := by
  rw [← at_cross h.rings (hgtL_len h.fine) (px, py)]
  have HT := Lib.hid h
  have HA := Lib.hid (fun (W : World) (hW : SlabB W base top sb R) => n_slAt hW py)
  show Calls _ _ _ _ fun e w' => e = .returned (.int .i64 ((((atE R py).filter (turnsE (px, py))).length : Nat) : Int)) ∧ Junk w w'
  generalize atE R py = E at *
  clear h
  unfold pt
  go_enter Tryz.func92, Tryz.ntmps92
  go_wp2_with (go_at_call 120; refine (HA.out _ (HT.out.below (by ((try simp only [← Array.append_assoc]); repeat' first | with_reducible (first | apply Below.refl | assumption | apply bw_a | apply bw_d | apply bw_n | apply bw_e | apply bw_s | apply bw_p | apply bw_c | apply bw_r) | go_size)))).mono ?_; rintro e w1 ⟨⟨a, n, c, rfl, hx, hn⟩, J1, d1, rfl⟩; have HX := Lib.hid hx; have HN := Lib.hid hn; clear hx hn)
  obtain ⟨W, hW⟩ : ∃ W, (w.alloc (.cells #[.int .i64 px, .int .i64 py] 42)).plus J1 d1 = W := ⟨_, rfl⟩
  have c0 : W.cell? ⟨w.heap.size, 0, none⟩ = some (.int .i64 px) := by rw [← hW]; simp [go_sem]
  have c1 : W.cell? ⟨w.heap.size, 1, none⟩ = some (.int .i64 py) := by rw [← hW]; simp [go_sem]
  have hj : Below w.heap.size w W := by rw [← hW]; ((try simp only [← Array.append_assoc]); repeat' first | with_reducible (first | apply Below.refl | assumption | apply bw_a | apply bw_d | apply bw_n | apply bw_e | apply bw_s | apply bw_p | apply bw_c | apply bw_r) | go_size)
  have l0 : w.heap.size < W.heap.size := World.block_lt_of_cell? _ _ c0
  rw [hW] at HX
  rw [hW]
  have L1 := Lib.hid HX.out.1
  have hnn := HN.out
  have HJ := Lib.hid hj
  clear hW hj HT HA
  go_loopw [5, 13] (fun x y wr => CgAt W (px, py) E x y wr) (fun _ y _ => n - (intOf y).toNat)
  case atStart => exact ⟨0, rfl, rfl, by omega, #[], _, (plus_nil _).symm⟩
  case round =>
    obtain ⟨k, rfl, rfl, k1, J, d, rfl⟩ := hrel
    have hq : ((E.take k).filter (turnsE (px, py))).length ≤ k := Nat.le_trans (List.length_filter_le _ _) (by rw [List.length_take]; omega)
    rw [L1.out] at k1
    by_cases hlt : k < n
    · obtain ⟨b, o, x1, x2, x3, x4, rfl, hx, p1, p2, p3, p4, lb⟩ := xreads_at HX.out (k := k) hlt
      have hN := filt_take (f := turnsE (px, py)) (show k < E.length by rw [L1.out]; exact hlt)
      rw [hx] at hN
      have hg : turnsE (px, py) (x1, x2, x3, x4) = decide (turnF x1 x2 x3 x4 px py = 1) := rfl
      rw [hg] at hN
      have HC := Lib.hid (fun W' => n_ptTurn x1 x2 x3 x4 px py W')
      unfold pt at HC
      generalize turnF x1 x2 x3 x4 px py = t at *
      have HNN := Lib.hid hN
      have i1 : (k : Int) < (n : Int) := by omega
      generalize ((E.take k).filter (turnsE (px, py))).length = q at *
      clear hN hg hx
      by_cases ht : t = 1
      · subst ht
        go_wp2_with (go_at_call 97; refine (HC.out _).mono ?_; rintro e w1 ⟨rfl, J3, d3, rfl⟩)
        go_roundw
        case rel => exact ⟨k + 1, by go_num, by rw [HNN.out]; show _ = Value.int .i64 ((q + 1 : Nat) : Int); go_num, by rw [L1.out]; omega, by exact junk_of_below (by ((try simp only [← Array.append_assoc]); repeat' first | with_reducible (first | apply Below.refl | assumption | apply bw_a | apply bw_d | apply bw_n | apply bw_e | apply bw_s | apply bw_p | apply bw_c | apply bw_r) | go_size))⟩
        case measure => simp [intOf]; omega
      · have e1 : (t == 1) = false := by rw [beq_eq_false_iff_ne]; exact ht
        have HF := Lib.hid (decide_eq_false ht)
        clear ht
        go_wp2_with (go_at_call 97; refine (HC.out _).mono ?_; rintro e w1 ⟨rfl, J3, d3, rfl⟩)
        go_roundw
        case rel => exact ⟨k + 1, by go_num, by rw [HNN.out, HF.out]; rfl, by rw [L1.out]; omega, by exact junk_of_below (by ((try simp only [← Array.append_assoc]); repeat' first | with_reducible (first | apply Below.refl | assumption | apply bw_a | apply bw_d | apply bw_n | apply bw_e | apply bw_s | apply bw_p | apply bw_c | apply bw_r) | go_size))⟩
        case measure => simp [intOf]; omega
    · obtain rfl : k = n := by omega
      rw [List.take_of_length_le (by rw [L1.out]; omega)]
      have i1 : ¬ (k : Int) < (k : Int) := by omega
      clear hq
      go_wp2_with fail
      go_ret
      exact ⟨rfl, junk_of_below (HJ.out.trans ((Junk.below ⟨_, _, rfl⟩).mono HJ.out.size))⟩
set_option maxRecDepth 100000 in
theorem n_slIn (h : SlabB w base top sb R) (px py : Int) : Calls Tryz.prog 56 #[.pointer (some ⟨sb, 0, none⟩), pt px py] w fun e w' => e = .returned (.bool (regQ (px, py) R)) ∧ Junk w w' := by
  rw [reg_cross]
  have HT := Lib.hid h
  have HA := Lib.hid (fun (W : World) (hW : SlabB W base top sb R) => n_slCross hW px py)
  generalize crossR (px, py) R = c at *
  clear h
  unfold pt at *
  have HE := Lib.hid (show decide (c % 2 = 1) = (((c : Int) % 2) == 1) by
    rcases Nat.mod_two_eq_zero_or_one c with h | h
    · rw [h, show (c : Int) % 2 = 0 by omega]; rfl
    · rw [h, show (c : Int) % 2 = 1 by omega]; rfl)
  rw [HE.out]
  obtain ⟨r, hr⟩ : ∃ r, (c : Int) % 2 = r := ⟨_, rfl⟩
  rw [hr] at HE ⊢
  have e1 : ((c : Int)).tmod 2 = r := by rw [Int.tmod_eq_emod_of_nonneg (by omega)]; exact hr
  have e2 : IntKind.i64.wrap r = r := by simp [IntKind.wrap, IntKind.signed, IntKind.bits]; omega
  go_enter Tryz.func56, Tryz.ntmps56
  go_wp2_with (go_at_call 92; refine (HA.out _ (HT.out.below (by ((try simp only [← Array.append_assoc]); repeat' first | with_reducible (first | apply Below.refl | assumption | apply bw_a | apply bw_d | apply bw_n | apply bw_e | apply bw_s | apply bw_p | apply bw_c | apply bw_r) | go_size)))).mono ?_; rintro e w1 ⟨rfl, J1, d1, rfl⟩)
  go_ret
  exact ⟨rfl, junk_of_below (by (repeat' first | with_reducible (first | apply Below.refl | assumption | apply bw_a | apply bw_d | apply bw_n | apply bw_p | apply bw_c | apply bw_r) | go_size))⟩
end
end

section
set_option linter.unusedVariables false
set_option linter.unusedSimpArgs false
open Go.RowKit
theorem results_ed {fn : Func} {p : Tmp} (h : fn.results = #[.cell p 162]) (tmps : Array Value) (w : World) (g : Nat) (c : Array Value)
    (hp : tmps.getD p undef = .pointer (some ⟨g, 0, none⟩)) (hr : w.rowAt g = some c) (hc : c.size = 4) : (results fn tmps).run Tryz.prog w = .ok (.agg c) w := by
  obtain ⟨ty, hg⟩ := rowAt_some hr
  have hp' : tmps[p]?.getD undef = .pointer (some ⟨g, 0, none⟩) := by simpa using hp
  simp [results, h, hp', asAddr, run_loadVar_row w g ty _ c (0, 0) _ hg Tryz.underlying162 rfl (by rw [hc]; kernel_rfl)]
set_option maxRecDepth 100000 in
set_option maxHeartbeats 2000000 in
theorem n_sbNew (ax ay bx by_ : Int) (w : World) : Calls Tryz.prog 119 #[pt ax ay, pt bx by_] w fun e w' => e = .returned (bvB (newE (ax, ay) (bx, by_))) ∧ Junk w w' := by
  have HC := Lib.hid (fun w' => n_ptCompare ax ay bx by_ w')
  have hN : newE (ax, ay) (bx, by_) = if 0 < cmpF ax ay bx by_ then (bx, by_, ax, ay) else (ax, ay, bx, by_) := rfl
  rw [hN]
  generalize cmpF ax ay bx by_ = r at *
  unfold pt at *
  unfold bvB bxV
  clear hN
  by_cases h : 0 < r
  · rw [if_pos h]
    have h1 : r > 0 := h
    go_enter Tryz.func119, Tryz.ntmps119
    go_wp2_with (go_at_call 152; refine (HC.out _).mono ?_; rintro e w1 ⟨rfl, J1, d1, rfl⟩)
    refine bodyPost_ret (results_ed rfl _ _ (w.heap.size + 1 + 1) #[.int .i64 bx, .int .i64 by_, .int .i64 ax, .int .i64 ay] rfl (by simp [go_sem]) rfl) rfl ⟨rfl, junk_of_below (by (repeat' first | with_reducible (first | apply Below.refl | assumption | apply bw_a | apply bw_d | apply bw_n | apply bw_p | apply bw_c | apply bw_r) | go_size))⟩
  · rw [if_neg h]
    have h1 : ¬ r > 0 := h
    go_enter Tryz.func119, Tryz.ntmps119
    go_wp2_with (go_at_call 152; refine (HC.out _).mono ?_; rintro e w1 ⟨rfl, J1, d1, rfl⟩)
    refine bodyPost_ret (results_ed rfl _ _ (w.heap.size + 1 + 1) #[.int .i64 ax, .int .i64 ay, .int .i64 bx, .int .i64 by_] rfl (by simp [go_sem]) rfl) rfl ⟨rfl, junk_of_below (by (repeat' first | with_reducible (first | apply Below.refl | assumption | apply bw_a | apply bw_d | apply bw_n | apply bw_p | apply bw_c | apply bw_r) | go_size))⟩
set_option maxRecDepth 100000 in
set_option maxHeartbeats 2000000 in
theorem n_sbFills (x1 x2 x3 x4 lo hi : Int) (w : World) : Calls Tryz.prog 118 #[bxV x1 x2 x3 x4, .int .i64 lo, .int .i64 hi] w fun e w' => e = .returned (.bool (fillsE lo hi (x1, x2, x3, x4))) ∧ Junk w w' := by
  have hN : fillsE lo hi (x1, x2, x3, x4) = (decide (x2 ≤ lo) && decide (hi ≤ x4)) := rfl
  rw [hN]
  clear hN
  unfold bxV
  by_cases h1 : x2 ≤ lo
  · by_cases h2 : hi ≤ x4
    · rw [decide_eq_true h1, decide_eq_true h2]
      go_enter Tryz.func118, Tryz.ntmps118
      go_wp2
      go_ret
      exact ⟨rfl, junk_of_below (by (repeat' first | with_reducible (first | apply Below.refl | assumption | apply bw_a | apply bw_d | apply bw_n | apply bw_p | apply bw_c | apply bw_r) | go_size))⟩
    · rw [decide_eq_true h1, decide_eq_false h2]
      go_enter Tryz.func118, Tryz.ntmps118
      go_wp2
      go_ret
      exact ⟨rfl, junk_of_below (by (repeat' first | with_reducible (first | apply Below.refl | assumption | apply bw_a | apply bw_d | apply bw_n | apply bw_p | apply bw_c | apply bw_r) | go_size))⟩
  · rw [decide_eq_false h1]
    go_enter Tryz.func118, Tryz.ntmps118
    go_wp2
    go_ret
    exact ⟨rfl, junk_of_below (by (repeat' first | with_reducible (first | apply Below.refl | assumption | apply bw_a | apply bw_d | apply bw_n | apply bw_p | apply bw_c | apply bw_r) | go_size))⟩
theorem info_ed : ∃ i, Tryz.prog.info? 162 = some i ∧ i.zero = some (.agg #[.int .i64 0, .int .i64 0, .int .i64 0, .int .i64 0]) ∧ i.size = 4 ∧ i.bytes = 32 := by
  have h : (Tryz.prog.info? 162).map (fun i => (i.zero, i.size, i.bytes)) = some (some (.agg #[.int .i64 0, .int .i64 0, .int .i64 0, .int .i64 0]), 4, 32) := by kernel_rfl
  cases hi : Tryz.prog.info? 162 with
  | none => rw [hi] at h; cases h
  | some i =>
    rw [hi] at h
    simp at h
    exact ⟨i, rfl, h.1, h.2.1, h.2.2⟩
theorem ereads_of_owns {w : World} {base : Nat} {v : Value} {n : Nat} {L : List Bx} (h : w.ownsRow base 162 4 v n (boxcells L)) : ∃ a cap, v = .slice a n cap ∧ XReads w a n L ∧ SOk a n cap := by
  obtain ⟨hl, h⟩ := h
  rw [boxcells_len] at hl
  have hl' : L.length = n := by omega
  rcases h with ⟨rfl, rfl⟩ | ⟨g, cap, cur, rfl, _, hc, hnc, _, hs, ht⟩
  · exact ⟨none, 0, rfl, ⟨hl', .inl rfl⟩, ⟨Nat.le_refl _, fun _ => rfl⟩⟩
  · refine ⟨_, cap, rfl, ⟨hl', .inr ⟨g, 0, rfl, fun i hi => ?_⟩⟩, ⟨hnc, fun h => by cases h⟩⟩
    obtain ⟨h1, h2, h3, h4⟩ := boxcells_at L i (by omega)
    rw [← ht] at h1 h2 h3 h4
    rw [List.getElem?_take_of_lt (by omega)] at h1 h2 h3 h4
    have e : ∀ k v, cur.toList[k]? = some v → w.cell? ⟨g, 0 + k, none⟩ = some v := by
      intro k v hk
      simp [World.cell?, hc]
      simpa using hk
    exact ⟨e _ _ h1, e _ _ h2, e _ _ h3, e _ _ h4⟩
theorem enil_owns (w : World) (base : Nat) : w.ownsRow base 162 4 (.slice none 0 0) 0 (boxcells []) := ⟨rfl, .inl ⟨rfl, rfl⟩⟩
theorem wpList_eapp {ops : Array Oper} {rest : List Oper} {o : Oper} {a : Act} {w : World} {Q : Exit → Act → World → Prop} (hgd : o.guard = none) (s x : Operand)
    (ho : o.op = .call { callee := .builtin .append, args := #[s, x], argTypes := #[140, 140] }) (base : Nat) (v : Value) (n : Nat) (L : List Bx) (hs : a.eval s = v) (hown : w.ownsRow base 162 4 v n (boxcells L))
    (g : Nat) (e : Bx) (hx : a.eval x = .slice (some ⟨g, 0, none⟩) 1 1) (c0 : w.cell? ⟨g, 0, none⟩ = some (.int .i64 e.1)) (c1 : w.cell? ⟨g, 1, none⟩ = some (.int .i64 e.2.1)) (c2 : w.cell? ⟨g, 2, none⟩ = some (.int .i64 e.2.2.1)) (c3 : w.cell? ⟨g, 3, none⟩ = some (.int .i64 e.2.2.2)) (hm : n ≤ 1000000) (hb : base ≤ w.heap.size)
    (h : ∀ v' w', w'.ownsRow base 162 4 v' (n + 1) (boxcells (L ++ [e])) → w.grownBy w' v.ownBlock → wpList Tryz.prog ops Q rest (a.put o.dst v') w') : wpList Tryz.prog ops Q (o :: rest) a w := by
  obtain ⟨i0, hi0, hz0, hz1, hz2⟩ := info_ed
  refine wpList_append_own _ hgd s x _ ho base 162 i0 _ 4 32 Tryz.underlying140 hi0 hz0 hz1 hz2 rfl (by decide) v n (boxcells L) hs hown ⟨g, 0, none⟩ 1 1 (boxcells [e]) hx
    rfl (fun j u hu => by
      have ha : (⟨g, 0, none⟩ : Addr).add j = ⟨g, j, none⟩ := by unfold Addr.add; split <;> simp_all
      rw [ha]
      match j, hu with
      | 0, hu => simp [boxcells] at hu; subst hu; exact c0
      | 1, hu => simp [boxcells] at hu; subst hu; exact c1
      | 2, hu => simp [boxcells] at hu; subst hu; exact c2
      | 3, hu => simp [boxcells] at hu; subst hu; exact c3
      | j + 4, hu => simp [boxcells] at hu) (boxcells_one [e]) (by unfold maxLen; omega) (by omega) hb ?_
  intro v' w' hown' hg' _
  rw [← boxcells_app] at hown'
  exact h v' w' hown' hg'
theorem eowns_block {W : World} {base es : Nat} {e : TypeId} {v : Value} {k : Nat} {xs : List Value} (h : W.ownsRow base e es v k xs) : ∀ g, v.ownBlock = some g → base ≤ g := by
  intro g hg; exact (gown_block h g hg).1
def PBlk (w : World) (g : Nat) (p : Pt) : Prop := w.heap[g]? = some (.cells #[.int .i64 p.1, .int .i64 p.2] 42 (0, 0))
section
variable {w w' : World} {g : Nat} {p : Pt}
theorem PBlk.cell (h : PBlk w g p) : w.cell? ⟨g, 0, none⟩ = some (.int .i64 p.1) ∧ w.cell? ⟨g, 1, none⟩ = some (.int .i64 p.2) :=
  ⟨cell_of_row w g 0 _ _ _ h, cell_of_row w g 1 _ _ _ h⟩
theorem PBlk.frozen (h : PBlk w g p) (j : Nat) : w.frozen? ⟨g, j, none⟩ = false := by unfold PBlk at h; simp [World.frozen?, h]
theorem PBlk.below (h : PBlk w g p) (hb : Below w.heap.size w w') : PBlk w' g p := (hb.block g (heap_lt h)).trans h
theorem PBlk.grown {row : Option Nat} (h : PBlk w g p) (hg : w.grownBy w' row) (hne : row ≠ some g) : PBlk w' g p := (hg.block g (heap_lt h) (fun e => hne e.symm)).trans h
theorem PBlk.set0 (h : PBlk w g p) (x : Int) : PBlk (w.setCell ⟨g, 0, none⟩ (.int .i64 x)) g (x, p.2) := by
  obtain ⟨hlt, hk⟩ := Array.getElem?_eq_some_iff.1 h
  show (w.heap.modify g _)[g]? = _
  rw [Array.getElem?_eq_getElem (by rw [Array.size_modify]; exact hlt), Array.getElem_modify_self, hk]
  rfl
theorem PBlk.set1 (h : PBlk w g p) (y : Int) : PBlk (w.setCell ⟨g, 1, none⟩ (.int .i64 y)) g (p.1, y) := by
  obtain ⟨hlt, hk⟩ := Array.getElem?_eq_some_iff.1 h
  show (w.heap.modify g _)[g]? = _
  rw [Array.getElem?_eq_getElem (by rw [Array.size_modify]; exact hlt), Array.getElem_modify_self, hk]
  rfl
theorem PBlk.set (h : PBlk w g p) (x y : Int) : PBlk ((w.setCell ⟨g, 0, none⟩ (.int .i64 x)).setCell ⟨g, 1, none⟩ (.int .i64 y)) g (x, y) := (h.set0 x).set1 y
theorem own_pblk {base es : Nat} {e : TypeId} {v : Value} {k : Nat} {xs : List Value} (h : w.ownsRow base e es v k xs) (hp : PBlk w g p) (he : e ≠ 42) : v.ownBlock ≠ some g := by
  obtain ⟨_, h2⟩ := h
  intro hv
  rcases h2 with ⟨rfl, _⟩ | ⟨g', cap, cur, rfl, _, hc, _⟩
  · cases hv
  · simp [Value.ownBlock] at hv
    subst hv
    unfold PBlk at hp
    rw [hp] at hc
    injection hc with hc
    injection hc with _ hc _
    exact he hc.symm
end
theorem eown_set {w : World} {base es b o : Nat} {e : TypeId} {v u : Value} {k : Nat} {xs : List Value} (h : w.ownsRow base e es v k xs) (hb : v.ownBlock ≠ some b) : (w.setCell ⟨b, o, none⟩ u).ownsRow base e es v k xs := by
  obtain ⟨h1, h2⟩ := h
  refine ⟨h1, ?_⟩
  rcases h2 with h2 | ⟨g, cap, cur, rfl, hg, hc, hr⟩
  · exact .inl h2
  · exact .inr ⟨g, cap, cur, rfl, hg, (Below.heap_setCell _ _ _ g (fun e => hb (by have e2 : g = b := e; simp [Value.ownBlock, e2]))).trans hc, hr⟩
def EoO (W : World) (R : List (List Pt)) (v i : Value) (wr : World) : Prop := ∃ k : Nat, i = .int .i64 (k : Int) ∧ k ≤ R.length ∧ wr.ownsRow W.heap.size 162 4 v (allE (R.take k)).length (boxcells (allE (R.take k))) ∧ Below W.heap.size W wr
def EoI (W : World) (g : Nat) (L : List Bx) (z : Pt) (K : List Pt) (v i : Value) (wr : World) : Prop := ∃ k : Nat, i = .int .i64 (k : Int) ∧ k ≤ K.length ∧ wr.ownsRow W.heap.size 162 4 v (L.length + k) (boxcells (L ++ (ringE z K).take k)) ∧ PBlk wr g (befE z K k) ∧ Below W.heap.size W wr
theorem ring_inR {R : List (List Pt)} {k : Nat} (hk : k < R.length) : R.getD k [] ∈ R := by
  rw [List.getD_eq_getElem?_getD, List.getElem?_eq_getElem hk]; exact List.getElem_mem hk
theorem ring_leR {R : List (List Pt)} {K : List Pt} (hK : K ∈ R) : K.length ≤ allN R := by
  unfold allN
  induction R with
  | nil => cases hK
  | cons M R ih =>
    rw [List.map_cons, List.sum_cons]
    rcases List.mem_cons.1 hK with rfl | h
    · omega
    · have := ih h; omega
theorem alln_take (R : List (List Pt)) (k : Nat) : allN (R.take k) ≤ allN R := by
  conv => rhs; rw [← List.take_append_drop k R]
  unfold allN
  rw [List.map_append, List.sum_append]
  omega
set_option maxRecDepth 100000 in
set_option maxHeartbeats 4000000 in
theorem n_sbEdges (w : World) (a : Option Addr) (n ca : Nat) (R : List (List Pt)) (hR : GRC w a n ca R) (hs : n ≤ 1000) (hl : allN R ≤ 100000) (hp0 : ∀ K ∈ R, 0 < K.length) :
    Calls Tryz.prog 91 #[.slice a n ca] w fun e w' => (∃ v, e = .returned v ∧ w'.ownsRow w.heap.size 162 4 v (allE R).length (boxcells (allE R))) ∧ Below w.heap.size w w' := by
  have L1 := Lib.hid hR.len
  have HK := Lib.hid hR.cells
  have HP0 := Lib.hid hp0
  have HL := Lib.hid hl
  clear hR hp0 hl
  go_enter Tryz.func91, Tryz.ntmps91
  go_wp2_with fail
  go_loopw [3, 11] (fun v i wr => EoO w R v i wr) (fun _ i _ => n - (intOf i).toNat)
  case atStart => exact ⟨0, rfl, by omega, enil_owns _ _, Below.refl _ _⟩
  case round =>
    obtain ⟨k, rfl, k1, hown, hB⟩ := hrel
    rw [L1.out] at k1
    have hsz := hB.size
    by_cases hlt : k < n
    · rcases HK.out with h | ⟨b, o, rfl, hc⟩
      · omega
      obtain ⟨x, m, c, p1, hp⟩ := hc k hlt
      have hkR : k < R.length := by rw [L1.out]; exact hlt
      have hb : b < w.heap.size := World.block_lt_of_cell? _ _ p1
      have s1 := (World.cell?_of_block (hB.block _ hb)).trans p1
      have hbW : b < wr.heap.size := World.block_lt_of_cell? _ _ s1
      have hKR := ring_inR hkR
      have hm0 := HP0.out _ hKR
      have hmB := Nat.le_trans (ring_leR hKR) HL.out
      have hE := allE_step hkR
      have hKl := hp.rd.1
      generalize R.getD k [] = K at *
      rw [hKl] at hm0 hmB
      rcases hp.rd.2 with h | ⟨g0, f0, rfl, hpc⟩
      · omega
      have i1 : (k : Int) < (n : Int) := by omega
      have w1 : IntKind.i64.wrap ((m : Int) - 1) = ((m - 1 : Nat) : Int) := by simp [IntKind.wrap, IntKind.signed, IntKind.bits]; omega
      have i2 : ((m - 1 : Nat) : Int) < (m : Int) := by omega
      have i2' : (m : Int) - 1 < (m : Int) := by omega
      obtain ⟨q1, q2⟩ := hpc (m - 1) (by omega)
      have hz : edgeE K = ringE (K.getD (m - 1) (0, 0)) K := by unfold edgeE; rw [hKl]
      rw [hz] at hE
      obtain ⟨⟨zx, zy⟩, hzz⟩ : ∃ z, K.getD (m - 1) (0, 0) = z := ⟨_, rfl⟩
      rw [hzz] at q1 q2 hE
      simp only at q1 q2
      have hg0 : g0 < w.heap.size := World.block_lt_of_cell? _ _ q1
      have t1 := (World.cell?_of_block (hB.block _ hg0)).trans q1
      have t2 := (World.cell?_of_block (hB.block _ hg0)).trans q2
      have hg0W : g0 < wr.heap.size := World.block_lt_of_cell? _ _ t1
      have hL : (allE (R.take k)).length ≤ 100000 := by rw [allE_len]; exact Nat.le_trans (alln_take R k) HL.out
      generalize allE (R.take k) = L at *
      have HE := Lib.hid hE
      have HKl := Lib.hid hKl
      have HPC := Lib.hid hpc
      have HOW := Lib.hid hown
      have HB := Lib.hid hB
      clear hc p1 hp hown hB hE hKl hpc q1 q2 hz hzz hKR
      obtain ⟨wo, rfl⟩ : ∃ wo : World, wo = wr := ⟨_, rfl⟩
      go_wp2_with fail
      go_loopw [3, 23] (fun v i wr => EoI w wo.heap.size L (zx, zy) K v i wr) (fun _ i _ => m - (intOf i).toNat)
      case atStart => exact ⟨0, rfl, by omega, by rw [List.take_zero, List.append_nil, Nat.add_zero]; exact HOW.out.alloc _, World.alloc_heap_new wo _, HB.out.trans (by ((try simp only [← Array.append_assoc]); repeat' first | with_reducible (first | apply Below.refl | assumption | apply bw_a | apply bw_d | apply bw_n | apply bw_e | apply bw_s | apply bw_p | apply bw_c | apply bw_r) | go_size))⟩
      case round =>
        obtain ⟨j, rfl, j1, ho2, hP, hB2⟩ := hrel
        rw [HKl.out] at j1
        by_cases hjt : j < m
        · have hS := ringE_step (zx, zy) K (k := j) (by rw [HKl.out]; exact hjt)
          obtain ⟨r1, r2⟩ := HPC.out j hjt
          have hbef : befE (zx, zy) K (j + 1) = K.getD j (0, 0) := rfl
          obtain ⟨⟨bx, by_⟩, hbz⟩ : ∃ z, befE (zx, zy) K j = z := ⟨_, rfl⟩
          obtain ⟨⟨px, py⟩, hpz⟩ : ∃ z, K.getD j (0, 0) = z := ⟨_, rfl⟩
          rw [hpz] at r1 r2 hbef hS
          rw [hbz] at hP hS
          simp only at r1 r2
          have u1 := (World.cell?_of_block (hB2.block _ hg0)).trans r1
          have u2 := (World.cell?_of_block (hB2.block _ hg0)).trans r2
          have lg0 := World.block_lt_of_cell? _ _ u1
          obtain ⟨v1, v2⟩ := hP.cell
          simp only at v1 v2
          have lg := World.block_lt_of_cell? _ _ v1
          have HN := Lib.hid (fun w' => n_sbNew bx by_ px py w')
          obtain ⟨⟨e1, e2, e3, e4⟩, hez⟩ : ∃ e, newE (bx, by_) (px, py) = e := ⟨_, rfl⟩
          rw [hez] at HN hS
          unfold bvB bxV pt at HN
          simp only at HN
          have HVl := Lib.hid (fun g hg => (ho2.lt g hg).2)
          have HS := Lib.hid (show L ++ (ringE (zx, zy) K).take (j + 1) = (L ++ (ringE (zx, zy) K).take j) ++ [(e1, e2, e3, e4)] by rw [hS, List.append_assoc])
          generalize L ++ (ringE (zx, zy) K).take j = M at *
          have HO2 := Lib.hid ho2
          have HP := Lib.hid hP
          have HB2 := Lib.hid hB2
          have HBf := Lib.hid hbef
          have j2 : (j : Int) < (m : Int) := by omega
          obtain ⟨wi, rfl⟩ : ∃ wi : World, wi = wr := ⟨_, rfl⟩
          clear r1 r2 ho2 hP hB2 hbef hS hpz hbz hez
          go_wp2_with (first
            | (go_at_call 119; (with_reducible refine (HN.out _).mono ?_); rintro e w1 ⟨rfl, J1, d1, rfl⟩)
            | (at_builtin; refine wpList_eapp rfl (.tmp 27) (.tmp 31) rfl w.heap.size _ (L.length + j) M rfl (powns_below HO2.out (by ((try simp only [← Array.append_assoc]); repeat' first | with_reducible (first | apply Below.refl | assumption | apply bw_a | apply bw_d | apply bw_n | apply bw_e | apply bw_s | apply bw_p | apply bw_c | apply bw_r) | go_size))) _ (e1, e2, e3, e4) rfl (by simp [go_sem]) (by simp [go_sem]) (by simp [go_sem]) (by simp [go_sem]) (by omega) (by simp; have := HB2.out.size; omega) ?_; intro v' w' hown' hg'; have HO' := Lib.hid hown'; have HP' := Lib.hid (PBlk.grown (HP.out.below (by ((try simp only [← Array.append_assoc]); repeat' first | with_reducible (first | apply Below.refl | assumption | apply bw_a | apply bw_d | apply bw_n | apply bw_e | apply bw_s | apply bw_p | apply bw_c | apply bw_r) | go_size))) hg' (own_pblk HO2.out HP.out (by decide))); have HQ' := Lib.hid (PBlk.grown ((show PBlk (wi.alloc (.cells #[.int .i64 px, .int .i64 py] 42)) wi.heap.size (px, py) from World.alloc_heap_new wi _).below (by ((try simp only [← Array.append_assoc]); repeat' first | with_reducible (first | apply Below.refl | assumption | apply bw_a | apply bw_d | apply bw_n | apply bw_e | apply bw_s | apply bw_p | apply bw_c | apply bw_r) | go_size))) hg' (fun e => by have := HVl.out _ e; omega)); have HBg := Lib.hid (grown_below (B := w.heap.size) (a := w) (HB2.out.trans (by have := HB2.out.size; ((try simp only [← Array.append_assoc]); repeat' first | with_reducible (first | apply Below.refl | assumption | apply bw_a | apply bw_d | apply bw_n | apply bw_e | apply bw_s | apply bw_p | apply bw_c | apply bw_r) | go_size))) hg' (by simp; have := HB2.out.size; omega) (fun k hk => eowns_block HO2.out k hk)); have c0' := HP'.out.cell.1; have c1' := HP'.out.cell.2; have f0' := HP'.out.frozen 0; have f1' := HP'.out.frozen 1; have l0' := heap_lt HP'.out; have q0' := HQ'.out.cell.1; have q1' := HQ'.out.cell.2; have l1' := heap_lt HQ'.out; have HVP := Lib.hid (own_pblk HO'.out HP'.out (by decide)); simp only at c0' c1' q0' q1'; clear hown' hg'))
          go_roundw
          case rel => exact ⟨j + 1, by go_num, by rw [HKl.out]; omega, by rw [HS.out]; exact eown_set (eown_set HO'.out HVP.out) HVP.out, by rw [HBf.out]; exact HP'.out.set _ _, (HBg.out.setCell (by omega) _).setCell (by omega) _⟩
          case measure => simp [intOf]; omega
        · obtain rfl : j = m := by omega
          have i3 : ¬ (j : Int) < (j : Int) := by omega
          have HN := Lib.hid (show L ++ (ringE (zx, zy) K).take j = allE (R.take (k + 1)) ∧ L.length + j = (allE (R.take (k + 1))).length by
            rw [HE.out, List.take_of_length_le (by rw [ringE_len, HKl.out]; omega), List.length_append, ringE_len, HKl.out]
            exact ⟨rfl, rfl⟩)
          rw [HN.out.1, HN.out.2] at ho2
          have HO2 := Lib.hid ho2
          have HB2 := Lib.hid hB2
          clear ho2 hB2 hP
          go_wp2_with fail
          go_roundw
          case rel => exact ⟨k + 1, by go_num, by rw [L1.out]; omega, HO2.out, HB2.out⟩
          case measure => simp [intOf]; omega
    · obtain rfl : k = n := by omega
      have i1 : ¬ (k : Int) < (k : Int) := by omega
      rw [List.take_of_length_le (by rw [L1.out]; omega)] at hown
      have HO := Lib.hid hown
      have HB := Lib.hid hB
      clear hown hB
      go_wp2_with fail
      go_ret
      exact ⟨⟨_, rfl, HO.out⟩, HB.out⟩
end

section
set_option linter.unusedVariables false
set_option linter.unusedSimpArgs false
open Go.RowKit Go.Shelf Go.Lib Go.Sort
theorem comp_up {d : Array Int} (hs : ∀ i j, i ≤ j → j < d.size → d[i]! ≤ d[j]!) : ∀ m, m ≤ d.size → AscH (compactUpTo d m) ∧ ∀ x, x ∈ compactUpTo d m ↔ ∃ j, j < m ∧ d[j]! = x
  | 0, _ => ⟨by unfold AscH compactUpTo; simp, fun x => by unfold compactUpTo; simp⟩
  | m + 1, hm => by
    obtain ⟨h1, h2⟩ := comp_up hs m (by omega)
    rw [compactUpTo_succ]
    cases hk : keeps d m with
    | true =>
      simp only [if_true]
      have hlt : ∀ j, j < m → d[j]! < d[m]! := fun j hj => by
        have a1 := hs j (m - 1) (by omega) (by omega)
        have a2 := hs (m - 1) m (by omega) (by omega)
        have a3 : d[m]! ≠ d[m - 1]! := by
          unfold keeps at hk
          have := of_decide_eq_true hk
          rcases this with h | h
          · omega
          · exact h
        omega
      refine ⟨?_, fun x => ?_⟩
      · unfold AscH
        rw [List.pairwise_append]
        refine ⟨h1, List.pairwise_singleton _ _, fun a ha b hb => ?_⟩
        obtain ⟨j, hj, rfl⟩ := (h2 a).1 ha
        rw [List.mem_singleton.1 hb]
        exact hlt j hj
      · rw [List.mem_append, h2, List.mem_singleton]
        constructor
        · rintro (⟨j, hj, e⟩ | e)
          · exact ⟨j, by omega, e⟩
          · exact ⟨m, by omega, e.symm⟩
        · rintro ⟨j, hj, e⟩
          by_cases h : j = m
          · subst h; exact .inr e.symm
          · exact .inl ⟨j, by omega, e⟩
    | false =>
      simp only [Bool.false_eq_true, if_false, List.append_nil]
      have hm0 : m ≠ 0 ∧ d[m]! = d[m - 1]! := by
        unfold keeps at hk
        have := of_decide_eq_false hk
        exact ⟨fun e => this (.inl e), Classical.byContradiction fun e => this (.inr e)⟩
      refine ⟨h1, fun x => ?_⟩
      rw [h2]
      constructor
      · rintro ⟨j, hj, e⟩; exact ⟨j, by omega, e⟩
      · rintro ⟨j, hj, e⟩
        by_cases h : j = m
        · subst h; exact ⟨j - 1, by omega, by rw [← hm0.2]; exact e⟩
        · exact ⟨j, by omega, e⟩
theorem arr_get {l : List Int} {j : Nat} (h : j < l.length) : l.toArray[j]! = l.getD j 0 := by
  rw [getElem!_pos _ _ (by simpa using h), List.getD_eq_getElem?_getD, List.getElem?_eq_getElem h]
  simp
theorem comp_hgt (ys : List Int) : compact (ys.mergeSort fun x y => decide (x ≤ y)) = hgtS ys := by
  have hp := List.mergeSort_perm ys fun x y => decide (x ≤ y)
  have hw : (ys.mergeSort fun x y => decide (x ≤ y)).Pairwise (· ≤ ·) := (List.pairwise_mergeSort (le := fun (x y : Int) => decide (x ≤ y)) (fun a b c h1 h2 => by simp at *; omega) (fun a b => by simp; omega) ys).imp fun {a b} h => by simpa using h
  generalize (ys.mergeSort fun x y => decide (x ≤ y)) = zs at *
  have hs : ∀ i j, i ≤ j → j < zs.toArray.size → zs.toArray[i]! ≤ zs.toArray[j]! := fun i j h1 h2 => by
    have h2' : j < zs.length := by simpa using h2
    rw [arr_get (by omega), arr_get h2']
    by_cases e : i = j
    · subst e; omega
    · have := (List.pairwise_iff_getElem.1 hw) i j (by omega) h2' (by omega)
      rw [List.getD_eq_getElem?_getD, List.getElem?_eq_getElem (by omega), List.getD_eq_getElem?_getD, List.getElem?_eq_getElem h2']
      exact this
  obtain ⟨h1, h2⟩ := comp_up hs zs.length (by simp)
  refine hgt_one h1 fun x => ?_
  rw [← hp.mem_iff]
  show x ∈ compactUpTo zs.toArray zs.length ↔ _
  rw [h2, List.mem_iff_getElem]
  constructor
  · rintro ⟨j, hj, e⟩
    rw [arr_get hj, List.getD_eq_getElem?_getD, List.getElem?_eq_getElem hj] at e
    exact ⟨j, hj, e⟩
  · rintro ⟨j, hj, e⟩
    refine ⟨j, hj, ?_⟩
    rw [arr_get hj, List.getD_eq_getElem?_getD, List.getElem?_eq_getElem hj]
    exact e
theorem below_putRow {B : Nat} {w : World} {g n : Nat} (d : Array Int) (hg : B ≤ g) : Below B w (putRow (Value.int .i64) (Sort.ahead w n) g 0 d) :=
  ⟨rfl, rfl, rfl, by rw [size_putRow]; exact Nat.le_refl _, fun k hk => by
    unfold putRow mapBlock
    show (w.heap.modify g _)[k]? = _
    rw [Array.getElem?_modify, if_neg (by omega)]⟩
theorem below_grow {B : Nat} {a w : World} (h : Below B a w) (hB : B ≤ w.heap.size) (os : Array Obj) : Below B a (grow w os) :=
  h.trans ⟨rfl, rfl, rfl, by rw [size_grow]; omega, fun k hk => heap_grow_old w os (by omega)⟩
theorem n_sbSort (B g c : Nat) (zs : List Int) (w : World) (hH : Holds (Value.int .i64) w g 0 zs.toArray) (hg : g < w.heap.size) (hB : B ≤ g) (hl : zs.length ≤ 100000) :
    Calls Tryz.prog 74 #[.slice (some ⟨g, 0, none⟩) zs.length c] w fun e w' => e = .returned (.tuple #[]) ∧ Holds (Value.int .i64) w' g 0 (zs.mergeSort fun x y => decide (x ≤ y)).toArray ∧ g < w'.heap.size ∧ Below B w w' := by
  refine (Tryz.slices_Sort_int g 0 c zs w hH hg (by omega)).mono ?_
  rintro e w' ⟨rfl, n, os, rfl⟩
  have hb := below_putRow (B := B) (w := w) (n := n) (zs.mergeSort fun x y => decide (x ≤ y)).toArray hB
  refine ⟨rfl, holds_grow _ _ _ _ _ _ (by rw [size_putRow]; exact hg) (holds_putRow _ _ _ _ zs.toArray _ (holds_ahead _ _ _ _ _ _ hH) (by simp)), ?_, below_grow hb (by rw [size_putRow]; show B ≤ w.heap.size; omega) os⟩
  rw [size_grow, size_putRow]
  show g < w.heap.size + _
  omega
theorem comp_len (zs : List Int) : (compact zs).length ≤ zs.length := by
  unfold compact compactUpTo
  rw [List.length_map]
  have := List.length_filter_le (keeps zs.toArray) (List.range zs.length)
  rwa [List.length_range] at this
theorem n_sbCompact (B g c : Nat) (zs : List Int) (w : World) (hH : Holds (Value.int .i64) w g 0 zs.toArray) (hg : g < w.heap.size) (hB : B ≤ g) (hl : zs.length ≤ 100000) (hc : zs.length ≤ c) :
    Calls Tryz.prog 117 #[.slice (some ⟨g, 0, none⟩) zs.length c] w fun e w' => e = .returned (.slice (some ⟨g, 0, none⟩) (compact zs).length c) ∧ (∀ i, i < (compact zs).length → w'.cell? ⟨g, i, none⟩ = some (.int .i64 ((compact zs).getD i 0))) ∧ g < w'.heap.size ∧ Below B w w' := by
  refine (Tryz.slices_Compact_int g 0 c zs w hH (by omega) hc).mono ?_
  rintro e w' ⟨rfl, q, rfl⟩
  have hle := comp_len zs
  refine ⟨rfl, fun i hi => ?_, by rw [size_putRow]; exact hg, below_putRow _ hB⟩
  have h := (holds_putRow (Value.int .i64) (Sort.ahead w q) g 0 zs.toArray (compact zs ++ List.replicate (zs.length - (compact zs).length) 0).toArray (holds_ahead _ _ _ _ _ _ hH) (by simp; omega) i (by simp; omega)).1
  rw [Nat.zero_add, arr_get (by simp; omega), List.getD_eq_getElem?_getD, List.getElem?_append_left hi, ← List.getD_eq_getElem?_getD] at h
  exact h
theorem own_holds {w : World} {base n : Nat} {v : Value} {zs : List Int} (h : w.ownsRow base 3 1 v n (ints zs)) (h0 : 0 < n) : ∃ g c, v = .slice (some ⟨g, 0, none⟩) n c ∧ base ≤ g ∧ g < w.heap.size ∧ n ≤ c ∧ Holds (Value.int .i64) w g 0 zs.toArray := by
  have hz : zs.length = n := by have := h.1; rw [ints_len] at this; omega
  obtain ⟨_, h2⟩ := h
  rcases h2 with ⟨_, h2⟩ | ⟨g, cap, cur, rfl, hg, hc, hnc, hcap, hs, ht⟩
  · omega
  · refine ⟨g, cap, rfl, hg, heap_lt hc, hnc, fun j hj => ?_⟩
    have hj' : j < zs.length := by simpa using hj
    rw [arr_get hj', Nat.zero_add]
    constructor
    · have e : (ints zs)[j]? = some (.int .i64 (zs.getD j 0)) := by
        unfold ints
        rw [List.getElem?_map, List.getElem?_eq_getElem hj', List.getD_eq_getElem?_getD, List.getElem?_eq_getElem hj']
        rfl
      rw [← ht, List.getElem?_take_of_lt (by omega)] at e
      simp [World.cell?, hc]
      simpa using e
    · simp [World.frozen?, hc]
def HtAt (W : World) (F : List Pt) (v i : Value) (wr : World) : Prop := ∃ k : Nat, i = .int .i64 (k : Int) ∧ k ≤ F.length ∧ wr.ownsRow W.heap.size 3 1 v k (ints ((F.take k).map fun p : Pt => p.2)) ∧ Below W.heap.size W wr
set_option maxRecDepth 100000 in
set_option maxHeartbeats 4000000 in
theorem n_sbHeights (w : World) (a : Option Addr) (n ca : Nat) (R : List (List Pt)) (hR : GRC w a n ca R) (hs : n ≤ 1000) (hl : R.flatten.length ≤ 100000) (h0 : 0 < R.flatten.length) (hf : ∀ p ∈ R.flatten, -9223372036854775808 ≤ p.2 ∧ p.2 ≤ 9223372036854775807) :
    Calls Tryz.prog 89 #[.slice a n ca] w fun e w' => (∃ g c, e = .returned (.slice (some ⟨g, 0, none⟩) (hgtL R).length c) ∧ w.heap.size ≤ g ∧ g < w'.heap.size ∧ (hgtL R).length ≤ c ∧ ∀ i, i < (hgtL R).length → w'.cell? ⟨g, i, none⟩ = some (.int .i64 ((hgtL R).getD i 0))) ∧ Below w.heap.size w w' := by
  have HC := Lib.hid (c_slConcatG w a n ca R hR hs hl)
  have HH := Lib.hid (show compact ((R.flatten.map fun p : Pt => p.2).mergeSort fun x y => decide (x ≤ y)) = hgtL R from comp_hgt _)
  generalize hgtL R = H at *
  have HF := Lib.hid hf
  generalize hF : R.flatten = F at *
  obtain ⟨fn, hfn⟩ : ∃ fn, F.length = fn := ⟨_, rfl⟩
  rw [hfn] at HC hl h0
  have L1 := Lib.hid hfn
  clear hR hf hF hfn
  go_enter Tryz.func89, Tryz.ntmps89
  go_wp2_with (go_at_call 45; refine HC.out.mono ?_; rintro e w1 ⟨⟨v, rfl, hv⟩, hB⟩; obtain ⟨pa, pc, rfl, hpr⟩ := prc_owns hv; have HPR := Lib.hid hpr; have HB1 := Lib.hid hB; clear hv hpr hB)
  go_loopw [3, 9] (fun v i wr => HtAt w1 F v i wr) (fun _ i _ => fn - (intOf i).toNat)
  case atStart => exact ⟨0, rfl, by omega, inil_owns _ _, Below.refl _ _⟩
  case round =>
    obtain ⟨k, rfl, k1, hown, hB⟩ := hrel
    rw [L1.out] at k1
    have hsz := hB.size
    have HB := Lib.hid hB
    by_cases hlt : k < fn
    · rcases HPR.out.rd.2 with h | ⟨b, o, rfl, hpc⟩
      · omega
      obtain ⟨p1, p2⟩ := hpc k hlt
      have hkF : k < F.length := by rw [L1.out]; exact hlt
      have hN : (F.take (k + 1)).map (fun p : Pt => p.2) = (F.take k).map (fun p : Pt => p.2) ++ [(F.getD k (0, 0)).2] := by
        rw [List.take_succ_eq_append_getElem hkF, List.map_append, List.getD_eq_getElem?_getD, List.getElem?_eq_getElem hkF]; rfl
      have hfit := HF.out (F.getD k (0, 0)) (by rw [List.getD_eq_getElem?_getD, List.getElem?_eq_getElem hkF]; exact List.getElem_mem hkF)
      have hb := World.block_lt_of_cell? _ _ p1
      have q1 := (World.cell?_of_block (hB.block _ hb)).trans p1
      have q2 := (World.cell?_of_block (a := ⟨b, o + k * 2 + 1, none⟩) (hB.block _ hb)).trans p2
      have hbW := World.block_lt_of_cell? _ _ q1
      obtain ⟨⟨x, y⟩, hz⟩ : ∃ z, F.getD k (0, 0) = z := ⟨_, rfl⟩
      rw [hz] at q1 q2 hN hfit
      simp only at q1 q2 hN hfit
      generalize (F.take k).map (fun p : Pt => p.2) = M at *
      have HN := Lib.hid hN
      have HO := Lib.hid hown
      have HFt := Lib.hid (show Fit64 [y] 1 from fun i hi => by
        obtain rfl : i = 0 := by omega
        exact hfit)
      have i1 : (k : Int) < (fn : Int) := by omega
      obtain ⟨wo, rfl⟩ : ∃ wo : World, wo = wr := ⟨_, rfl⟩
      clear hown hB hN p1 p2 hpc hz hfit
      go_wp2_with (at_builtin; refine wpList_app rfl (.tmp 13) (.tmp 16) rfl w1.heap.size _ k M rfl (powns_below HO.out (by ((try simp only [← Array.append_assoc]); repeat' first | with_reducible (first | apply Below.refl | assumption | apply bw_a | apply bw_d | apply bw_n | apply bw_e | apply bw_s | apply bw_p | apply bw_c | apply bw_r) | go_size))) _ 1 1 [y] rfl (by intro h; cases h) (reads_cell (by simp [go_sem]) HFt.out) (by omega) (by simp; omega) ?_; intro v' w' hown' hg'; have HO' := Lib.hid hown'; have HBg := Lib.hid (grown_below (B := w1.heap.size) (a := w1) (HB.out.trans (by ((try simp only [← Array.append_assoc]); repeat' first | with_reducible (first | apply Below.refl | assumption | apply bw_a | apply bw_d | apply bw_n | apply bw_e | apply bw_s | apply bw_p | apply bw_c | apply bw_r) | go_size))) hg' (by simp; omega) (powns_block HO.out)); clear hown' hg')
      go_roundw
      case rel => exact ⟨k + 1, by go_num, by rw [L1.out]; omega, by rw [HN.out]; exact HO'.out, HBg.out⟩
      case measure => simp [intOf]; omega
    · obtain rfl : k = fn := by omega
      rw [List.take_of_length_le (by rw [L1.out]; omega)] at hown
      obtain ⟨zs, hzs⟩ : ∃ zs, F.map (fun p : Pt => p.2) = zs := ⟨_, rfl⟩
      have hzl : zs.length = k := by rw [← hzs, List.length_map]; exact L1.out
      rw [hzs] at hown HH
      obtain ⟨g, c, rfl, g1, g2, g3, hH⟩ := own_holds hown h0
      have HS := Lib.hid (n_sbSort w1.heap.size g c zs wr hH g2 g1 (by omega))
      have hml : (zs.mergeSort fun x y => decide (x ≤ y)).length = k := by rw [List.length_mergeSort]; exact hzl
      have HCm := Lib.hid (fun W' (h1 : Holds (Value.int .i64) W' g 0 (zs.mergeSort fun x y => decide (x ≤ y)).toArray) (h2 : g < W'.heap.size) => n_sbCompact w1.heap.size g c _ W' h1 h2 g1 (by omega) (by omega))
      rw [hzl] at HS
      rw [hml, HH.out] at HCm
      have i1 : ¬ (k : Int) < (k : Int) := by omega
      have HML := Lib.hid hml
      clear hown hB hH hzl hml hzs
      generalize (zs.mergeSort fun x y => decide (x ≤ y)) = ss at *
      go_wp2_with (first
        | (go_at_call 74; refine HS.out.mono ?_; rintro e w2 ⟨rfl, h1, h2, h3⟩; have HZ := Lib.hid h1; have HZ2 := Lib.hid h2; have HZ3 := Lib.hid h3; clear h1 h2 h3)
        | (go_at_call 117; refine (HCm.out _ HZ.out HZ2.out).mono ?_; rintro e w3 ⟨rfl, h1, h2, h3⟩; have HY := Lib.hid h1; have HY2 := Lib.hid h2; have HY3 := Lib.hid h3; clear h1 h2 h3))
      go_ret
      have z1 := HB1.out.size
      have hlc : H.length ≤ c := by rw [← HH.out]; exact Nat.le_trans (comp_len _) (by rw [HML.out]; exact g3)
      exact ⟨⟨g, c, rfl, by omega, HY2.out, hlc, HY.out⟩, HB1.out.trans ((HB.out.trans (HZ3.out.trans HY3.out)).mono z1)⟩
end

section
set_option linter.unusedVariables false
set_option linter.unusedSimpArgs false
open Go.RowKit
theorem eown_slice {w : World} {base es : Nat} {e : TypeId} {v : Value} {k : Nat} {xs : List Value} (h : w.ownsRow base e es v k xs) : ∃ a c, v = .slice a k c := by
  obtain ⟨_, h2⟩ := h
  rcases h2 with ⟨rfl, rfl⟩ | ⟨g, cap, cur, rfl, _⟩
  · exact ⟨_, _, rfl⟩
  · exact ⟨_, _, rfl⟩
theorem info_es : ∃ i, Tryz.prog.info? 140 = some i ∧ i.zero = some (.slice none 0 0) ∧ i.size = 1 ∧ i.bytes = 24 := by
  have h : (Tryz.prog.info? 140).map (fun i => (i.zero, i.size, i.bytes)) = some (some (.slice none 0 0), 1, 24) := by kernel_rfl
  cases hi : Tryz.prog.info? 140 with
  | none => rw [hi] at h; cases h
  | some i =>
    rw [hi] at h
    simp at h
    exact ⟨i, rfl, h.1, h.2.1, h.2.2⟩
theorem wpList_esapp {ops : Array Oper} {rest : List Oper} {o : Oper} {a : Act} {w : World} {Q : Exit → Act → World → Prop} (hgd : o.guard = none) (s x : Operand)
    (ho : o.op = .call { callee := .builtin .append, args := #[s, x], argTypes := #[136, 136] }) (base : Nat) (v : Value) (n : Nat) (xs : List Value) (hs : a.eval s = v) (hown : w.ownsRow base 140 1 v n xs)
    (g : Nat) (u : Value) (hx : a.eval x = .slice (some ⟨g, 0, none⟩) 1 1) (hc : w.cell? ⟨g, 0, none⟩ = some u) (hu : u.oneCell' = true) (hm : n ≤ 1000000) (hb : base ≤ w.heap.size)
    (h : ∀ v' w', w'.ownsRow base 140 1 v' (n + 1) (xs ++ [u]) → w.grownBy w' v.ownBlock → wpList Tryz.prog ops Q rest (a.put o.dst v') w') : wpList Tryz.prog ops Q (o :: rest) a w := by
  obtain ⟨i0, hi0, hz0, hz1, hz2⟩ := info_es
  refine wpList_append_own _ hgd s x _ ho base 140 i0 _ 1 24 Tryz.underlying136 hi0 hz0 hz1 hz2 rfl (by decide) v n xs hs hown ⟨g, 0, none⟩ 1 1 [u] hx
    rfl (fun j y hy => by
      cases j with
      | zero => simp at hy; subst hy; exact hc
      | succ j => simp at hy) (by intro y hy; simp at hy; subst hy; exact hu) (by unfold maxLen; omega) (by omega) hb ?_
  intro v' w' hown' hg' _
  exact h v' w' hown' hg'
theorem rows_apart {w : World} {b1 b2 s1 s2 : Nat} {e1 e2 : TypeId} {v v2 : Value} {k k2 : Nat} {xs ys : List Value} (h : w.ownsRow b1 e1 s1 v k xs) (h2 : w.ownsRow b2 e2 s2 v2 k2 ys) (he : e1 ≠ e2) : v.ownBlock = none ∨ v.ownBlock ≠ v2.ownBlock := by
  obtain ⟨_, h⟩ := h
  obtain ⟨_, h2⟩ := h2
  rcases h with ⟨rfl, _⟩ | ⟨g, cap, cur, rfl, _, hc, _⟩
  · exact .inl rfl
  · right
    rcases h2 with ⟨rfl, _⟩ | ⟨g2, cap2, cur2, rfl, _, hc2, _⟩
    · simp [Value.ownBlock]
    · intro hv
      simp [Value.ownBlock] at hv
      subst hv
      rw [hc] at hc2
      injection hc2 with hc2
      injection hc2 with _ hc2 _
      exact he hc2
def offL (R : List (List Pt)) (k : Nat) : List Nat := (List.range (k + 1)).map (offE R)
theorem offL_step (R : List (List Pt)) (k : Nat) : nums (offL R k) ++ [((offE R (k + 1) : Nat) : Int)] = nums (offL R (k + 1)) := by
  rw [← nums_snoc]; unfold offL; rw [List.range_succ (n := k + 1), List.map_append]; rfl
theorem offL_get (R : List (List Pt)) {k i : Nat} (h : i ≤ k) : (offL R k).getD i 0 = offE R i := by
  unfold offL
  rw [List.getD_eq_getElem?_getD, List.getElem?_map, List.getElem?_range (by omega)]
  rfl
theorem offL_len (R : List (List Pt)) (k : Nat) : (offL R k).length = k + 1 := by unfold offL; simp
theorem own_one {w : World} {B : Nat} (h : B ≤ w.heap.size) : (w.alloc (.cells #[.int .i64 0] 3)).ownsRow B 3 1 (.slice (some ⟨w.heap.size, 0, none⟩) 1 1) 1 (ints [0]) :=
  ⟨rfl, .inr ⟨w.heap.size, 1, #[.int .i64 0], rfl, h, World.alloc_heap_new w _, Nat.le_refl _, by decide, rfl, rfl⟩⟩
def DvO (W : World) (R : List (List Pt)) (m : Nat) (x y i : Value) (wr : World) : Prop := ∃ k : Nat, i = .int .i64 (k : Int) ∧ k ≤ m ∧ wr.ownsRow W.heap.size 162 4 x (offE R k) (boxcells (rowE R k)) ∧ wr.ownsRow W.heap.size 3 1 y (k + 1) (ints (nums (offL R k))) ∧ Below W.heap.size W wr
def DvI (W : World) (lo hi : Int) (E : List Bx) (M : List Bx) (y : Value) (n : Nat) (N : List Int) (x i : Value) (wr : World) : Prop := ∃ k : Nat, i = .int .i64 (k : Int) ∧ k ≤ E.length ∧ wr.ownsRow W.heap.size 162 4 x (M.length + (prtE lo hi (E.take k)).length) (boxcells (M ++ prtE lo hi (E.take k))) ∧ wr.ownsRow W.heap.size 3 1 y n (ints N) ∧ Below W.heap.size W wr
theorem prt_step {lo hi : Int} {E : List Bx} {k : Nat} (hk : k < E.length) : prtE lo hi (E.take (k + 1)) = if fillsE lo hi (E.getD k Bx0) then prtE lo hi (E.take k) ++ [E.getD k Bx0] else prtE lo hi (E.take k) := by
  unfold prtE
  rw [List.take_succ_eq_append_getElem hk, List.filter_append, List.getD_eq_getElem?_getD, List.getElem?_eq_getElem hk]
  show _ ++ List.filter (fillsE lo hi) [E[k]] = _
  cases h : fillsE lo hi E[k] with
  | true => simp [h]
  | false => simp [h]
def slcV (ab cp : Nat) (R : List (List Pt)) (i : Nat) : Value := .slice (some ⟨ab, offE R i * 4, none⟩) (slabE R i).length (cp - offE R i)
def PartsB (B : Nat) (w' : World) (m : Nat) (R : List (List Pt)) (v : Value) : Prop := ∃ pb pc, v = .slice (some ⟨pb, 0, none⟩) m pc ∧ B ≤ pb ∧ pb < w'.heap.size ∧ ∀ i, i < m → ∃ ab o c, B ≤ ab ∧ ab < w'.heap.size ∧ w'.cell? ⟨pb, i, none⟩ = some (.slice (some ⟨ab, o, none⟩) (slabN R i) c) ∧ XReads w' (some ⟨ab, o, none⟩) (slabN R i) (slabE R i)
def DvP (W : World) (ab cp : Nat) (R : List (List Pt)) (m : Nat) (v i : Value) (wr : World) : Prop := ∃ k : Nat, i = .int .i64 (k : Int) ∧ k ≤ m ∧ wr.ownsRow W.heap.size 140 1 v k ((List.range k).map (slcV ab cp R)) ∧ Below W.heap.size W wr
set_option maxRecDepth 100000 in
set_option maxHeartbeats 8000000 in
theorem n_sbDivide (w : World) (a : Option Addr) (n ca hg hc m : Nat) (R : List (List Pt)) (hR : regFine R) (hE : XReads w a n (allE R)) (hm : (hgtL R).length = m + 1) (hcc : m + 1 ≤ hc) (hH : ∀ i, i < m + 1 → w.cell? ⟨hg, i, none⟩ = some (.int .i64 ((hgtL R).getD i 0))) :
    Calls Tryz.prog 90 #[.slice a n ca, .slice (some ⟨hg, 0, none⟩) (m + 1) hc] w fun e w' => (∃ v, e = .returned v ∧ PartsB w.heap.size w' m R v) ∧ Below w.heap.size w w' := by
  have hpos : ∀ K ∈ R, 0 < K.length := fun K hK => by have := (hR.each K hK).few; omega
  have hl2 := hgtL_len hR
  have hAl : (allE R).length = n := hE.1
  have hn4 : n ≤ 400 := by rw [← hAl, allE_len]; exact hR.many
  have hm4 : m ≤ 400 := by have := hgtL_few R; have := hR.many; omega
  have hoff : ∀ k, k ≤ m → offE R k ≤ 160000 := fun k hk => by
    have h1 := off_le R k
    have : k * allN R ≤ 400 * 400 := Nat.mul_le_mul (by omega) hR.many
    omega
  have hlast : offE R (m - 1) < offE R m := by
    have h1 := tot_edge hR (i := m - 1) (by omega) (.inr (by omega))
    have h2 := slab_len hpos (m - 1)
    have h3 : offE R (m - 1 + 1) = offE R (m - 1) + (slabE R (m - 1)).length := rfl
    rw [show m - 1 + 1 = m by omega] at h1 h3
    unfold slabN at h2
    rw [show m - 1 + 1 = m by omega] at h2
    omega
  have HEr := Lib.hid hE
  have HHt := Lib.hid hH
  have HOff := Lib.hid hoff
  have HLast := Lib.hid hlast
  have HAl := Lib.hid hAl
  have HSn := Lib.hid (slab_len hpos)
  have HSe := Lib.hid (show ∀ i, slabE R i = prtE ((hgtL R).getD i 0) ((hgtL R).getD (i + 1) 0) (allE R) from fun i => rfl)
  have m0 : 0 < m := by omega
  have hlg : hg < w.heap.size := World.block_lt_of_cell? _ _ (hH 0 (by omega))
  generalize hgtL R = H at *
  generalize allE R = E at *
  have i1 : (1 : Int) ≤ (hc : Int) := by omega
  have i2 : (1 : Int) ≤ ((m + 1 : Nat) : Int) := by omega
  have i3 : ¬ (hc : Int) ≤ 1 := by omega
  have i4 : ¬ hc = 1 := by omega
  have e5 : ((m + 1 : Nat) : Int) - 1 = (m : Int) := by omega
  have e6 : (hc : Int) - 1 = ((hc - 1 : Nat) : Int) := by omega
  clear hR hE hH hpos hl2 hAl hoff hlast hm
  go_enter Tryz.func90, Tryz.ntmps90
  go_wp2_with fail
  go_loopw [5, 6, 18] (fun x y i wr => DvO w R m x y i wr) (fun _ _ i _ => m - (intOf i).toNat)
  case atStart => exact ⟨0, rfl, by omega, enil_owns _ _, own_one (by simp), by ((try simp only [← Array.append_assoc]); repeat' first | with_reducible (first | apply Below.refl | assumption | apply bw_a | apply bw_d | apply bw_n | apply bw_e | apply bw_s | apply bw_p | apply bw_c | apply bw_r) | go_size)⟩
  case round =>
    obtain ⟨k, rfl, k1, ho1, ho2, hB⟩ := hrel
    have hsz := hB.size
    have HB := Lib.hid hB
    have HO1 := Lib.hid ho1
    have HO2 := Lib.hid ho2
    clear ho1 ho2
    by_cases hlt : k < m
    · have p1 := (World.cell?_of_block (a := ⟨hg, k, none⟩) (hB.block hg hlg)).trans (HHt.out k (by omega))
      have p2 : wr.cell? ⟨hg, 1 + k, none⟩ = some (.int .i64 (H.getD (k + 1) 0)) := by
        rw [Nat.add_comm 1 k]
        exact (World.cell?_of_block (a := ⟨hg, k + 1, none⟩) (hB.block hg hlg)).trans (HHt.out (k + 1) (by omega))
      have hse := HSe.out k
      have hH0 := HHt.out k (by omega)
      generalize H.getD k 0 = lo at *
      generalize H.getD (k + 1) 0 = hi at *
      have HSk := Lib.hid hse
      have j1 : (k : Int) < (m : Int) := by omega
      have j2 : (k : Int) < ((m + 1 : Nat) : Int) := by omega
      have j2' : (k : Int) < (m : Int) + 1 := by omega
      have j2'' : ¬ m + 1 ≤ k := by omega
      have hok := HOff.out k k1
      have HRl := Lib.hid (row_len R k)
      have HRn := Lib.hid (show rowE R (k + 1) = rowE R k ++ slabE R k from rfl)
      have HOn := Lib.hid (show offE R (k + 1) = offE R k + (slabE R k).length from rfl)
      obtain ⟨wo, rfl⟩ : ∃ wo : World, wo = wr := ⟨_, rfl⟩
      have lgo := World.block_lt_of_cell? _ _ p1
      clear hB hse
      go_wp2_with fail
      go_loopw [5, 25] (fun x i wr => DvI w lo hi E (rowE R k) u6 (k + 1) (nums (offL R k)) x i wr ∧ Below w.heap.size wo wr) (fun _ i _ => n - (intOf i).toNat)
      case atStart => exact ⟨⟨0, rfl, by omega, by show World.ownsRow _ _ _ _ _ _ (boxcells (rowE R k ++ [])); rw [List.append_nil, HRl.out]; exact HO1.out, HO2.out, HB.out⟩, Below.refl _ _⟩
      case round =>
        obtain ⟨⟨j, rfl, q1, hx, hy, hB2⟩, hBw⟩ := hrel
        rw [HAl.out] at q1
        have HX := Lib.hid hx
        have HY := Lib.hid hy
        have HB2 := Lib.hid hB2
        have HBw := Lib.hid hBw
        have hz2 := hB2.size
        clear hx hy
        by_cases hjt : j < n
        · obtain ⟨b, o, x1, x2, x3, x4, rfl, hex, c1, c2, c3, c4, lb⟩ := xreads_at HEr.out (k := j) hjt
          have d1 := (World.cell?_of_block (a := ⟨b, o + j * 4, none⟩) (hB2.block b lb)).trans c1
          have d2 := (World.cell?_of_block (a := ⟨b, o + j * 4 + 1, none⟩) (hB2.block b lb)).trans c2
          have d3 := (World.cell?_of_block (a := ⟨b, o + j * 4 + 2, none⟩) (hB2.block b lb)).trans c3
          have d4 := (World.cell?_of_block (a := ⟨b, o + j * 4 + 3, none⟩) (hB2.block b lb)).trans c4
          have lb2 := World.block_lt_of_cell? _ _ d1
          have p3 := (World.cell?_of_block (a := ⟨hg, k, none⟩) (HBw.out.block hg (by omega))).trans p1
          have hps := prt_step (lo := lo) (hi := hi) (E := E) (k := j) (by rw [HAl.out]; exact hjt)
          rw [hex] at hps
          have HF := Lib.hid (fun w' => n_sbFills x1 x2 x3 x4 lo hi w')
          unfold bxV at HF
          obtain ⟨g, hg2⟩ : ∃ g, fillsE lo hi (x1, x2, x3, x4) = g := ⟨_, rfl⟩
          rw [hg2] at HF hps
          have hPl : (prtE lo hi (E.take j)).length ≤ 400 := by have := prt_le lo hi (E.take j); rw [List.length_take] at this; omega
          have hMl : (rowE R k).length ≤ 160000 := by rw [HRl.out]; exact hok
          obtain ⟨P, hP⟩ : ∃ P, prtE lo hi (E.take j) = P := ⟨_, rfl⟩
          rw [hP] at hps HX hPl
          have HPs := Lib.hid hps
          generalize rowE R k = M at *
          have j3 : (j : Int) < (n : Int) := by omega
          obtain ⟨wi, rfl⟩ : ∃ wi : World, wi = wr := ⟨_, rfl⟩
          clear hB2 hBw hex c1 c2 c3 c4 hg2 hps hP
          go_upto_region 9 with fail
          obtain ⟨W, hW⟩ : ∃ W, wi.alloc (.cells #[.int .i64 x1, .int .i64 x2, .int .i64 x3, .int .i64 x4] 162) = W := ⟨_, rfl⟩
          have b0 : W.cell? ⟨wi.heap.size, 0, none⟩ = some (.int .i64 x1) := by rw [← hW]; simp [go_sem]
          have b1 : W.cell? ⟨wi.heap.size, 1, none⟩ = some (.int .i64 x2) := by rw [← hW]; simp [go_sem]
          have b2 : W.cell? ⟨wi.heap.size, 2, none⟩ = some (.int .i64 x3) := by rw [← hW]; simp [go_sem]
          have b3 : W.cell? ⟨wi.heap.size, 3, none⟩ = some (.int .i64 x4) := by rw [← hW]; simp [go_sem]
          have b4 : W.cell? ⟨hg, k, none⟩ = some (.int .i64 lo) := by rw [← hW]; exact (World.cell?_of_block (a := ⟨hg, k, none⟩) (Below.heap_alloc wi _ hg (World.block_lt_of_cell? _ _ p3))).trans p3
          have l0 : wi.heap.size < W.heap.size := World.block_lt_of_cell? _ _ b0
          have l4 : hg < W.heap.size := World.block_lt_of_cell? _ _ b4
          rw [hW]
          refine region_quiet_all (C := Cls W) (by kernel_rfl) (by kernel_rfl) (by first | exact cls_drawn _ | exact ⟨#[], _, (plus_nil _).symm⟩) ?_
          repeat (first | (refine qw_skip (by rfl) ?_; simp only [Act.put, List.setIfInBounds_toArray, List.set_cons_succ, List.set_cons_zero]) | (refine qw_want (by rfl) (fun K hK => ?_); go_simp; first | (refine hK _ ?_; clear hK K) | (apply Exists.intro; refine ⟨?_, hK _ ?_⟩; (rintro w3_ ⟨J3_, d3_, rfl⟩; first | (with_reducible exact rfl) | (go_simp; with_reducible exact rfl) | (go_simp; (first | (with_reducible refine (HF.out _).mono ?_)); rintro e_ w_ ⟨rfl, J4_, d4_, rfl⟩; exact ⟨rfl, J3_ ++ J4_, d4_, by simp only [plus_plus, Array.append_assoc]⟩)); clear hK K)))
          refine qw_nil ?_
          rintro w4 ⟨J3, d3, rfl⟩
          subst hW
          clear b0 b1 b2 b3 b4 l0 l4
          cases g with
          | true =>
            simp only [if_true] at HPs
            go_wp2_with (at_builtin; refine wpList_eapp rfl (.tmp 36) (.tmp 38) rfl w.heap.size _ (M.length + P.length) (M ++ P) rfl (powns_below HX.out (by ((try simp only [← Array.append_assoc]); repeat' first | with_reducible (first | apply Below.refl | assumption | apply bw_a | apply bw_d | apply bw_n | apply bw_e | apply bw_s | apply bw_p | apply bw_c | apply bw_r) | go_size))) _ (x1, x2, x3, x4) rfl (by simp [go_sem]) (by simp [go_sem]) (by simp [go_sem]) (by simp [go_sem]) (by omega) (by simp; omega) ?_; intro v' w' hown' hg'; have HO' := Lib.hid hown'; have HY' := Lib.hid (World.ownsRow.kept (powns_below HY.out (by ((try simp only [← Array.append_assoc]); repeat' first | with_reducible (first | apply Below.refl | assumption | apply bw_a | apply bw_d | apply bw_n | apply bw_e | apply bw_s | apply bw_p | apply bw_c | apply bw_r) | go_size))) hg' (rows_apart HY.out HX.out (by decide))); have HBg := Lib.hid (grown_below (B := w.heap.size) (a := w) (HB2.out.trans (by ((try simp only [← Array.append_assoc]); repeat' first | with_reducible (first | apply Below.refl | assumption | apply bw_a | apply bw_d | apply bw_n | apply bw_e | apply bw_s | apply bw_p | apply bw_c | apply bw_r) | go_size))) hg' (by simp; omega) (eowns_block HX.out)); have HBh := Lib.hid (grown_below (B := w.heap.size) (a := wo) (HBw.out.trans (by ((try simp only [← Array.append_assoc]); repeat' first | with_reducible (first | apply Below.refl | assumption | apply bw_a | apply bw_d | apply bw_n | apply bw_e | apply bw_s | apply bw_p | apply bw_c | apply bw_r) | go_size))) hg' (by simp; omega) (eowns_block HX.out)); clear hown' hg')
            go_roundw
            case rel => exact ⟨⟨j + 1, by go_num, by rw [HAl.out]; omega, by rw [HPs.out, List.length_append, ← List.append_assoc]; exact HO'.out, HY'.out, HBg.out⟩, HBh.out⟩
            case measure => simp [intOf]; omega
          | false =>
            simp only [Bool.false_eq_true, if_false] at HPs
            go_wp2_with fail
            go_roundw
            case rel => exact ⟨⟨j + 1, by go_num, by rw [HAl.out]; omega, by rw [HPs.out]; exact powns_below HX.out (by ((try simp only [← Array.append_assoc]); repeat' first | with_reducible (first | apply Below.refl | assumption | apply bw_a | apply bw_d | apply bw_n | apply bw_e | apply bw_s | apply bw_p | apply bw_c | apply bw_r) | go_size)), powns_below HY.out (by ((try simp only [← Array.append_assoc]); repeat' first | with_reducible (first | apply Below.refl | assumption | apply bw_a | apply bw_d | apply bw_n | apply bw_e | apply bw_s | apply bw_p | apply bw_c | apply bw_r) | go_size)), HB2.out.trans (by ((try simp only [← Array.append_assoc]); repeat' first | with_reducible (first | apply Below.refl | assumption | apply bw_a | apply bw_d | apply bw_n | apply bw_e | apply bw_s | apply bw_p | apply bw_c | apply bw_r) | go_size))⟩, HBw.out.trans (by ((try simp only [← Array.append_assoc]); repeat' first | with_reducible (first | apply Below.refl | assumption | apply bw_a | apply bw_d | apply bw_n | apply bw_e | apply bw_s | apply bw_p | apply bw_c | apply bw_r) | go_size))⟩
            case measure => simp [intOf]; omega
        · obtain rfl : j = n := by omega
          have hx := HX.out
          rw [List.take_of_length_le (by rw [HAl.out]; omega), ← HSk.out, ← HRn.out, HRl.out, ← HOn.out] at hx
          have HX := Lib.hid hx
          have hq1 := HOff.out (k + 1) (by omega)
          have HN := Lib.hid (offL_step R k)
          have i7 : ¬ (j : Int) < (j : Int) := by omega
          obtain ⟨q, hq⟩ : ∃ q, offE R (k + 1) = q := ⟨_, rfl⟩
          rw [hq] at hq1 HN hx HX
          have HQ := Lib.hid hq
          clear hq
          have HFt := Lib.hid (show Fit64 [(q : Int)] 1 from fun i hi => by
            obtain rfl : i = 0 := by omega
            show _ ≤ (q : Int) ∧ (q : Int) ≤ _
            omega)
          obtain ⟨va, vc, rfl⟩ := eown_slice hx
          obtain ⟨wi, rfl⟩ : ∃ wi : World, wi = wr := ⟨_, rfl⟩
          clear hx hB2 hBw
          go_wp2_with (at_builtin; refine wpList_app rfl (.tmp 41) (.tmp 44) rfl w.heap.size _ (k + 1) (nums (offL R k)) rfl (powns_below HY.out (by ((try simp only [← Array.append_assoc]); repeat' first | with_reducible (first | apply Below.refl | assumption | apply bw_a | apply bw_d | apply bw_n | apply bw_e | apply bw_s | apply bw_p | apply bw_c | apply bw_r) | go_size))) _ 1 1 [(q : Int)] rfl (by intro h; cases h) (reads_cell (by simp [go_sem]) HFt.out) (by omega) (by simp; omega) ?_; intro v' w' hown' hg'; have HO' := Lib.hid hown'; have HX' := Lib.hid (World.ownsRow.kept (powns_below HX.out (by ((try simp only [← Array.append_assoc]); repeat' first | with_reducible (first | apply Below.refl | assumption | apply bw_a | apply bw_d | apply bw_n | apply bw_e | apply bw_s | apply bw_p | apply bw_c | apply bw_r) | go_size))) hg' (rows_apart HX.out HY.out (by decide))); have HBg := Lib.hid (grown_below (B := w.heap.size) (a := w) (HB2.out.trans (by ((try simp only [← Array.append_assoc]); repeat' first | with_reducible (first | apply Below.refl | assumption | apply bw_a | apply bw_d | apply bw_n | apply bw_e | apply bw_s | apply bw_p | apply bw_c | apply bw_r) | go_size))) hg' (by simp; omega) (eowns_block HY.out)); clear hown' hg')
          go_roundw
          case rel => exact ⟨k + 1, by go_num, by omega, by rw [HQ.out]; exact HX'.out, by rw [← HN.out]; exact HO'.out, HBg.out⟩
          case measure => simp [intOf]; omega
    · obtain rfl : k = m := by omega
      have i7 : ¬ (k : Int) < (k : Int) := by omega
      have hok := HOff.out k k1
      have hop : 0 < offE R k := by have := HLast.out; omega
      have hx := HO1.out
      obtain ⟨_, hx2⟩ := hx
      rcases hx2 with ⟨_, hx2⟩ | ⟨ab, cp, cur, rfl, g1, g2, g3, g4, g5, g6⟩
      · omega
      obtain ⟨_, _, _, hrd, _⟩ := ereads_of_owns HO1.out
      have hoh := HO2.out
      obtain ⟨_, hx3⟩ := hoh
      rcases hx3 with ⟨_, hx3⟩ | ⟨og, oc, cur2, rfl, f1, f2, f3, f4, f5, f6⟩
      · omega
      have HOg := Lib.hid (show ∀ i, i < k + 1 → wr.cell? ⟨og, i, none⟩ = some (.int .i64 ((offE R i : Nat) : Int)) from fun i hi => by
        have e : (ints (nums (offL R k)))[i]? = some (.int .i64 ((offE R i : Nat) : Int)) := by
          have hl : i < (offL R k).length := by rw [offL_len]; exact hi
          unfold ints
          rw [List.getElem?_map]
          have e2 := nums_get hl
          rw [offL_get R (show i ≤ k by omega), List.getD_eq_getElem?_getD] at e2
          rw [List.getElem?_eq_getElem (by rw [nums_len]; exact hl)] at e2 ⊢
          exact congrArg (fun z => some (Value.int .i64 z)) e2
        have := HO2.out.cells (g := og) rfl i _ e
        have ha : (⟨og, 0, none⟩ : Addr).add i = ⟨og, i, none⟩ := by unfold Addr.add; split <;> simp_all
        rw [ha] at this
        exact this)
      have hog := heap_lt f2
      have hab := heap_lt g2
      have HG1 := Lib.hid g1
      have HCells := Lib.hid (fun j u hu => HO1.out.cells (g := ab) rfl j u hu)
      have y1 : (1 : Int) ≤ (oc : Int) := by omega
      have y2 : (1 : Int) ≤ ((k + 1 : Nat) : Int) := by omega
      have y3 : ¬ (oc : Int) ≤ 1 := by omega
      have y4 : ¬ oc = 1 := by omega
      have y6 : (oc : Int) - 1 = ((oc - 1 : Nat) : Int) := by omega
      have HCp := Lib.hid g3
      obtain ⟨wo, rfl⟩ : ∃ wo : World, wo = wr := ⟨_, rfl⟩
      clear hB g2 g4 g5 g6 f2 f4 f5 f6 hrd
      go_wp2_with fail
      go_loopw [11, 50] (fun v i wr => DvP wo ab cp R k v i wr) (fun _ i _ => k - (intOf i).toNat)
      case atStart => exact ⟨0, rfl, by omega, ⟨rfl, .inl ⟨rfl, rfl⟩⟩, Below.refl _ _⟩
      case round =>
        obtain ⟨j, rfl, q1, hv, hB2⟩ := hrel
        have HV := Lib.hid hv
        have HB2 := Lib.hid hB2
        have hz2 := hB2.size
        clear hv
        by_cases hjt : j < k
        · have o1 : wr.cell? ⟨og, j, none⟩ = some (.int .i64 ((offE R j : Nat) : Int)) := (World.cell?_of_block (a := ⟨og, j, none⟩) (hB2.block og hog)).trans (HOg.out j (by omega))
          have o2 : wr.cell? ⟨og, 1 + j, none⟩ = some (.int .i64 ((offE R (j + 1) : Nat) : Int)) := by
            rw [Nat.add_comm 1 j]
            exact (World.cell?_of_block (a := ⟨og, j + 1, none⟩) (hB2.block og hog)).trans (HOg.out (j + 1) (by omega))
          have h1 : offE R (j + 1) = offE R j + (slabE R j).length := rfl
          have h2 := off_up R (show j + 1 ≤ k by omega)
          have h3 := off_up R (show j ≤ k - 1 by omega)
          have h4 := HLast.out
          have hcp := HCp.out
          have HN := Lib.hid (show (List.range (j + 1)).map (slcV ab cp R) = (List.range j).map (slcV ab cp R) ++ [.slice (some ⟨ab, offE R j * 4, none⟩) (slabE R j).length (cp - offE R j)] by rw [List.range_succ, List.map_append]; rfl)
          generalize offE R (j + 1) = oq at *
          generalize offE R j = op at *
          generalize (slabE R j).length = ln at *
          generalize offE R (k - 1) = ol at *
          generalize offE R k = ok at *
          subst h1
          have z1 : (op : Int) ≤ ((op + ln : Nat) : Int) := by omega
          have z2 : ((op + ln : Nat) : Int) ≤ (cp : Int) := by omega
          have z3 : ¬ (cp : Int) ≤ (op : Int) := by omega
          have z4 : ¬ cp = op := by omega
          have z5 : ((op + ln : Nat) : Int) - (op : Int) = (ln : Int) := by omega
          have z6 : (cp : Int) - (op : Int) = ((cp - op : Nat) : Int) := by omega
          have j1 : (j : Int) < (k : Int) := by omega
          have j2 : (j : Int) < ((k + 1 : Nat) : Int) := by omega
          have j2' : (j : Int) < (k : Int) + 1 := by omega
          have lg := World.block_lt_of_cell? _ _ o1
          obtain ⟨wi, rfl⟩ : ∃ wi : World, wi = wr := ⟨_, rfl⟩
          clear hB2
          go_wp2_with (at_builtin; refine wpList_esapp rfl (.tmp 55) (.tmp 63) rfl wo.heap.size _ j ((List.range j).map (slcV ab cp R)) rfl (powns_below HV.out (by ((try simp only [← Array.append_assoc]); repeat' first | with_reducible (first | apply Below.refl | assumption | apply bw_a | apply bw_d | apply bw_n | apply bw_e | apply bw_s | apply bw_p | apply bw_c | apply bw_r) | go_size))) _ (.slice (some ⟨ab, op * 4, none⟩) ln (cp - op)) rfl (by simp [go_sem]) rfl (by omega) (by simp; omega) ?_; intro v' w' hown' hg'; have HO' := Lib.hid hown'; have HBg := Lib.hid (grown_below (B := wo.heap.size) (a := wo) (HB2.out.trans (by ((try simp only [← Array.append_assoc]); repeat' first | with_reducible (first | apply Below.refl | assumption | apply bw_a | apply bw_d | apply bw_n | apply bw_e | apply bw_s | apply bw_p | apply bw_c | apply bw_r) | go_size))) hg' (by simp; omega) (eowns_block HV.out)); clear hown' hg')
          go_roundw
          case rel => exact ⟨j + 1, by go_num, by omega, by rw [HN.out]; exact HO'.out, HBg.out⟩
          case measure => simp [intOf]; omega
        · obtain rfl : j = k := by omega
          have i8 : ¬ (j : Int) < (j : Int) := by omega
          obtain ⟨_, hv3⟩ := HV.out
          rcases hv3 with ⟨_, hv3⟩ | ⟨pb, pc, cur3, rfl, r1, r2, r3, r4, r5, r6⟩
          · omega
          have hpb := heap_lt r2
          have HPb := Lib.hid (fun u c hu => HV.out.cells (g := pb) rfl u c hu)
          have hwo := HB.out.size
          have R1 := Lib.hid r1
          clear r1 r2 r3 r4 r5 r6
          go_wp2_with fail
          go_ret
          refine ⟨⟨_, rfl, pb, pc, rfl, by have := R1.out; omega, hpb, fun i hi => ⟨ab, offE R i * 4, cp - offE R i, HG1.out, by omega, ?_, ?_⟩⟩, HB.out.trans (HB2.out.mono hwo)⟩
          · have e : ((List.range j).map (slcV ab cp R))[i]? = some (slcV ab cp R i) := by rw [List.getElem?_map, List.getElem?_range hi]; rfl
            have := HPb.out i _ e
            have ha : (⟨pb, 0, none⟩ : Addr).add i = ⟨pb, i, none⟩ := by unfold Addr.add; split <;> simp_all
            rw [ha] at this
            rw [this]
            unfold slcV
            rw [HSn.out]
          · refine ⟨HSn.out i, .inr ⟨ab, offE R i * 4, rfl, fun t ht => ?_⟩⟩
            rw [← HSn.out i] at ht
            have hg := row_get R hi ht
            have hle : offE R i + t < (rowE R j).length := by
              have := off_up R (show i + 1 ≤ j by omega)
              have h5 : offE R (i + 1) = offE R i + (slabE R i).length := rfl
              rw [row_len]
              omega
            obtain ⟨m1, m2, m3, m4⟩ := boxcells_at (rowE R j) (offE R i + t) hle
            change (rowE R j).getD (offE R i + t) Bx0 = (slabE R i).getD t Bx0 at hg
            rw [hg] at m1 m2 m3 m4
            have ha : ∀ s, (⟨ab, 0, none⟩ : Addr).add s = ⟨ab, s, none⟩ := fun s => by unfold Addr.add; split <;> simp_all
            have hbk := HB2.out.block ab hab
            have key : ∀ s u, (boxcells (rowE R j))[s]? = some u → wr.cell? ⟨ab, s, none⟩ = some u := fun s u hu => by
              have h6 := HCells.out s u hu
              rw [ha] at h6
              exact (World.cell?_of_block (a := ⟨ab, s, none⟩) hbk).trans h6
            have k1 := key _ _ m1
            have k2 := key _ _ m2
            have k3 := key _ _ m3
            have k4 := key _ _ m4
            rw [Nat.add_mul] at k1 k2 k3 k4
            exact ⟨k1, k2, k3, k4⟩
end

section
set_option linter.unusedVariables false
set_option linter.unusedSimpArgs false
open Go.RowKit
theorem check_zero {R : List (List Pt)} (h : (checkR R).1 = 0) : checkR R = (0, 0) := by
  have hf := checkR_fine.1 h
  have e := check_tail (R := R) (by have := hf.long; omega) (by have := hf.few; omega) (by have := hf.many; omega)
  rw [e] at h ⊢
  by_cases h0 : (eachR R).1 = 0
  · rw [if_pos h0] at h ⊢
    cases hq : firstQ (ringsAt R) R.length with
    | some i => rw [hq] at h; exact absurd (show (210 : Int) = 0 from h) (by decide)
    | none => rfl
  · rw [if_neg h0] at h
    exact absurd h h0
def SBlk (w : World) (sb : Nat) (p h e : Value) : Prop := w.heap[sb]? = some (.cells #[p, h, e] 138 (0, 0))
theorem SBlk.cell {w : World} {sb : Nat} {p h e : Value} (k : SBlk w sb p h e) : w.cell? ⟨sb, 0, none⟩ = some p ∧ w.cell? ⟨sb, 1, none⟩ = some h ∧ w.cell? ⟨sb, 2, none⟩ = some e :=
  ⟨cell_of_row w sb 0 _ _ _ k, cell_of_row w sb 1 _ _ _ k, cell_of_row w sb 2 _ _ _ k⟩
theorem SBlk.frozen {w : World} {sb : Nat} {p h e : Value} (k : SBlk w sb p h e) (j : Nat) : w.frozen? ⟨sb, j, none⟩ = false := by unfold SBlk at k; simp [World.frozen?, k]
theorem SBlk.below {w w' : World} {sb : Nat} {p h e : Value} (k : SBlk w sb p h e) (hb : Below w.heap.size w w') : SBlk w' sb p h e := (hb.block sb (heap_lt k)).trans k
theorem SBlk.set2 {w : World} {sb : Nat} {p h e : Value} (k : SBlk w sb p h e) (u : Value) : SBlk (w.setCell ⟨sb, 2, none⟩ u) sb p h u := by
  obtain ⟨hlt, hk⟩ := Array.getElem?_eq_some_iff.1 k
  show (w.heap.modify sb _)[sb]? = _
  rw [Array.getElem?_eq_getElem (by rw [Array.size_modify]; exact hlt), Array.getElem_modify_self, hk]
  rfl
theorem frz_of_block {w w' : World} {a : Addr} (h : w'.heap[a.block]? = w.heap[a.block]?) : w'.frozen? a = w.frozen? a := by unfold World.frozen?; rw [h]
theorem PartsB.base {B B' m : Nat} {w : World} {R : List (List Pt)} {v : Value} (h : PartsB B w m R v) (hb : B' ≤ B) : PartsB B' w m R v := by
  obtain ⟨pb, pc, h1, h2, h3, h4⟩ := h
  refine ⟨pb, pc, h1, by omega, h3, fun i hi => ?_⟩
  obtain ⟨ab, o, c, k1, k2⟩ := h4 i hi
  exact ⟨ab, o, c, by omega, k2⟩
theorem results_pf {fn : Func} {t p : Tmp} (h : fn.results = #[.tmp t, .cell p 33]) (tmps : Array Value) (w : World) (g : Nat) (c : Array Value)
    (hp : tmps.getD p undef = .pointer (some ⟨g, 0, none⟩)) (hr : w.rowAt g = some c) (hc : c.size = 2) : (results fn tmps).run Tryz.prog w = .ok (.tuple #[tmps.getD t undef, .agg c]) w := by
  obtain ⟨ty, hg⟩ := rowAt_some hr
  have hp' : tmps[p]?.getD undef = .pointer (some ⟨g, 0, none⟩) := by simpa using hp
  simp [results, h, hp', asAddr, run_loadVar_row w g ty _ c (0, 0) _ hg Tryz.underlying33 rfl (by rw [hc]; kernel_rfl)]
set_option maxRecDepth 100000 in
set_option maxHeartbeats 4000000 in
theorem n_sbBuildBad (w : World) (a : Option Addr) (n ca : Nat) (R : List (List Pt)) (hR : GRC w a n ca R) (hs : n ≤ 1000) (hl : ∀ K ∈ R, K.length ≤ 100000) (hbad : (checkR R).1 ≠ 0) :
    Calls Tryz.prog 55 #[.agg #[.slice a n ca]] w fun e w' => e = .returned (.tuple #[.pointer none, fltV (checkR R)]) ∧ Junk w w' := by
  have HR := Lib.hid hR
  have HC := Lib.hid (fun (W : World) (h : GRC W a n ca R) => c_reCheck W a n ca R h hs hl)
  obtain ⟨⟨x, y⟩, hxy⟩ : ∃ z, checkR R = z := ⟨_, rfl⟩
  rw [hxy] at hbad HC ⊢
  unfold fltV at *
  simp only at HC hbad
  have e1 : (x != 0) = true := by simpa using hbad
  have e2 : (x == 0) = false := by simpa using hbad
  clear hR hl hxy hbad
  go_enter Tryz.func55, Tryz.ntmps55
  go_upto_region 3 with (go_at_call 43; (with_reducible refine (HC.out _ (HR.out.below (by ((try simp only [← Array.append_assoc]); repeat' first | with_reducible (first | apply Below.refl | assumption | apply bw_a | apply bw_d | apply bw_n | apply bw_e | apply bw_s | apply bw_p | apply bw_c | apply bw_r) | go_size)))).mono ?_); rintro e w1 ⟨rfl, J1, d1, rfl⟩)
  go_region
  all_goals go_wp2_with fail
  all_goals refine bodyPost_ret (results_pf rfl _ _ (w.heap.size + 1) #[.int .i64 x, .int .i64 (y : Int)] rfl (by simp [go_sem]) rfl) rfl ⟨rfl, junk_of_below (by (repeat' first | with_reducible (first | apply Below.refl | assumption | apply bw_a | apply bw_d | apply bw_n | apply bw_p | apply bw_c | apply bw_r) | go_size))⟩
set_option maxRecDepth 100000 in
set_option maxHeartbeats 4000000 in
theorem n_sbBuild (w : World) (a : Option Addr) (n ca : Nat) (R : List (List Pt)) (hR : GRC w a n ca R) (hs : n ≤ 1000) (hf : regFine R) (hfit : ∀ p ∈ R.flatten, -9223372036854775808 ≤ p.2 ∧ p.2 ≤ 9223372036854775807) :
    Calls Tryz.prog 55 #[.agg #[.slice a n ca]] w fun e w' => (∃ sb, e = .returned (.tuple #[.pointer (some ⟨sb, 0, none⟩), .agg #[.int .i64 0, .int .i64 0]]) ∧ SlabB w' w.heap.size w'.heap.size sb R) ∧ Junk w w' := by
  have HR := Lib.hid hR
  have hal : allN R = R.flatten.length := by unfold allN; rw [List.length_flatten]
  have hmany := hf.many
  have hpos : ∀ K ∈ R, 0 < K.length := fun K hK => by have := (hf.each K hK).few; omega
  have hl : ∀ K ∈ R, K.length ≤ 100000 := fun K hK => by have := ring_leR hK; omega
  have h0 := flat_pos hf
  have HC := Lib.hid (fun (W : World) (h : GRC W a n ca R) => c_reCheck W a n ca R h hs hl)
  rw [check_zero (checkR_fine.2 hf)] at HC
  have HHt := Lib.hid (fun (W : World) (h : GRC W a n ca R) => n_sbHeights W a n ca R h hs (by omega) h0 hfit)
  have HEd := Lib.hid (fun (W : World) (h : GRC W a n ca R) => n_sbEdges W a n ca R h hs (by omega) hpos)
  have HF := Lib.hid hf
  unfold fltV at HC
  obtain ⟨m, hm⟩ : ∃ m, (hgtL R).length = m + 1 := ⟨(hgtL R).length - 1, by have := hgtL_len hf; omega⟩
  have HDv := Lib.hid (fun (W : World) (a2 : Option Addr) (n2 ca2 hg hc : Nat) (h1 : XReads W a2 n2 (allE R)) (h2 : m + 1 ≤ hc) (h3 : ∀ i, i < m + 1 → W.cell? ⟨hg, i, none⟩ = some (.int .i64 ((hgtL R).getD i 0))) => n_sbDivide W a2 n2 ca2 hg hc m R hf h1 hm h2 h3)
  have HM := Lib.hid hm
  rw [hm] at HHt
  clear hR hl hf hfit hpos hm h0 hal hmany
  go_enter Tryz.func55, Tryz.ntmps55
  go_upto_region 6 with (first
    | (go_at_call 43; (with_reducible refine (HC.out _ (HR.out.below (by ((try simp only [← Array.append_assoc]); repeat' first | with_reducible (first | apply Below.refl | assumption | apply bw_a | apply bw_d | apply bw_n | apply bw_e | apply bw_s | apply bw_p | apply bw_c | apply bw_r) | go_size)))).mono ?_); rintro e w1 ⟨rfl, J1, d1, rfl⟩)
    | (go_at_call 89; (with_reducible refine (HHt.out _ (HR.out.below (by ((try simp only [← Array.append_assoc]); repeat' first | with_reducible (first | apply Below.refl | assumption | apply bw_a | apply bw_d | apply bw_n | apply bw_e | apply bw_s | apply bw_p | apply bw_c | apply bw_r) | go_size)))).mono ?_); rintro e w1 ⟨⟨hg, hc, rfl, g1, g2, g3, g4⟩, hB⟩; have HG1 := Lib.hid g1; have HG4 := Lib.hid g4; have HB1 := Lib.hid hB; clear g1 g4 hB))
  obtain ⟨W, hW⟩ : ∃ W, w1.alloc (Obj.cells #[Value.pointer (some ⟨w1.heap.size, 0, none⟩), Value.slice (some ⟨hg, 0, none⟩) (m + 1) hc, Value.slice none 0 0] 138) = W := ⟨_, rfl⟩
  obtain ⟨W0, hW0⟩ : ∃ W0, ((((w.alloc (Obj.cells #[Value.slice a n ca] 28)).alloc (Obj.cells #[Value.int IntKind.i64 0, Value.int IntKind.i64 0] 33)).plus J1 d1).alloc (Obj.cells #[Value.int IntKind.i64 0, Value.int IntKind.i64 0] 33)) = W0 := ⟨_, rfl⟩
  have c0 : W0.cell? ⟨w.heap.size, 0, none⟩ = some (.slice a n ca) := by rw [← hW0]; simp [go_sem]
  have r0 : W0.rowAt (w.heap.size + 1) = some #[.int .i64 0, .int .i64 0] := by rw [← hW0]; simp [go_sem]
  have hB0 : Below w.heap.size w W0 := by rw [← hW0]; ((try simp only [← Array.append_assoc]); repeat' first | with_reducible (first | apply Below.refl | assumption | apply bw_a | apply bw_d | apply bw_n | apply bw_e | apply bw_s | apply bw_p | apply bw_c | apply bw_r) | go_size)
  have z0 : w.heap.size + 2 ≤ W0.heap.size := by rw [← hW0]; simp; omega
  rw [hW0] at HG1 HB1
  have hB1 := HB1.out
  have z1 := hB1.size
  have hb2 : Below W0.heap.size W0 W := by rw [← hW]; exact hB1.trans (by ((try simp only [← Array.append_assoc]); repeat' first | with_reducible (first | apply Below.refl | assumption | apply bw_a | apply bw_d | apply bw_n | apply bw_e | apply bw_s | apply bw_p | apply bw_c | apply bw_r) | go_size))
  have hSB : SBlk W w1.heap.size (.pointer (some ⟨w1.heap.size, 0, none⟩)) (.slice (some ⟨hg, 0, none⟩) (m + 1) hc) (.slice none 0 0) := by rw [← hW]; exact World.alloc_heap_new w1 _
  have HT := Lib.hid (show ∀ i, i < m + 1 → W.cell? ⟨hg, i, none⟩ = some (.int .i64 ((hgtL R).getD i 0)) from fun i hi => by rw [← hW]; exact (World.cell?_of_block (a := ⟨hg, i, none⟩) (Below.heap_alloc w1 _ hg g2)).trans (HG4.out i hi))
  have p0 : W.cell? ⟨w.heap.size, 0, none⟩ = some (.slice a n ca) := (World.cell?_of_block (a := ⟨w.heap.size, 0, none⟩) (hb2.block w.heap.size (by omega))).trans c0
  have hr0 : W.rowAt (w.heap.size + 1) = some #[.int .i64 0, .int .i64 0] := (rowAt_of_block (hb2.block (w.heap.size + 1) (by omega))).trans r0
  have HBW := Lib.hid (show Below w.heap.size w W from hB0.trans (hb2.mono (by omega)))
  have hsz : W.heap.size = w1.heap.size + 1 := by rw [← hW]; simp
  rw [hW]
  have hG1 := HG1.out
  obtain ⟨B, hBe⟩ : ∃ B, W0.heap.size = B := ⟨_, rfl⟩
  rw [hBe] at hG1 z0 z1
  obtain ⟨sb, hsb⟩ : ∃ s, w1.heap.size = s := ⟨_, rfl⟩
  rw [hsb] at hSB hsz g2 z1
  simp only [hsb]
  have HR := Lib.hid (HR.out.below (show Below w.heap.size w W from HBW.out))
  have HRo := Lib.hid hr0
  have HSB := Lib.hid hSB
  obtain ⟨_, s1, s4⟩ := hSB.cell
  have s2 := hSB.frozen 2
  have s3 := heap_lt hSB
  have s0 := World.block_lt_of_cell? _ _ p0
  have HE2 := Lib.hid (show ∀ W', Below W.heap.size W W' → Calls Tryz.prog 91 #[.slice a n ca] W' fun e w' => (∃ ea en ec, e = .returned (.slice ea en ec) ∧ XReads w' ea en (allE R)) ∧ Below W.heap.size W w' ∧ w'.cell? ⟨sb, 1, none⟩ = some (.slice (some ⟨hg, 0, none⟩) (m + 1) hc) ∧ w'.frozen? ⟨sb, 2, none⟩ = false ∧ sb < w'.heap.size from fun W' hW' => (HEd.out W' (HR.out.below hW')).mono fun e w' ⟨⟨v, h1, h2⟩, h3⟩ => by
    obtain ⟨ea, ec, rfl, hx, _⟩ := ereads_of_owns h2
    have hb := hW'.trans (h3.mono hW'.size)
    exact ⟨⟨ea, _, ec, h1, hx⟩, hb, (World.cell?_of_block (a := ⟨sb, 1, none⟩) (hb.block sb s3)).trans s1, (frz_of_block (hb.block sb s3)).trans s2, Nat.lt_of_lt_of_le s3 hb.size⟩)
  have HD2 := Lib.hid (show ∀ W' a2 n2 ca2, Below W.heap.size W W' → XReads W' a2 n2 (allE R) → Calls Tryz.prog 90 #[.slice a2 n2 ca2, .slice (some ⟨hg, 0, none⟩) (m + 1) hc] W' fun e w' => (∃ v, e = .returned v ∧ PartsB W.heap.size w' m R v) ∧ Below W.heap.size W w' ∧ w'.frozen? ⟨sb, 2, none⟩ = false ∧ sb < w'.heap.size ∧ w'.cell? ⟨sb, 2, none⟩ = some (.slice none 0 0) from fun W' a2 n2 ca2 hW' hx => (HDv.out W' a2 n2 ca2 hg hc hx g3 (fun i hi => (World.cell?_of_block (a := ⟨hg, i, none⟩) (hW'.block hg (by omega))).trans (HT.out i hi))).mono fun e w' ⟨⟨v, h1, h2⟩, h3⟩ => by
    have hb := hW'.trans (h3.mono hW'.size)
    exact ⟨⟨v, h1, h2.base hW'.size⟩, hb, (frz_of_block (hb.block sb s3)).trans s2, Nat.lt_of_lt_of_le s3 hb.size, (World.cell?_of_block (a := ⟨sb, 2, none⟩) (hb.block sb s3)).trans s4⟩)
  have HSz := Lib.hid hsz
  clear c0 r0 hB0 hB1 hb2 HG1 HG4 HB1 hr0 hSB HC HHt hW0 hW hsb hBe HEd HDv hsz
  go_region_with (first
    | (go_at_call 91; (refine (HE2.out _ (by ((try simp only [← Array.append_assoc]); repeat' first | with_reducible (first | apply Below.refl | assumption | apply bw_a | apply bw_d | apply bw_n | apply bw_e | apply bw_s | apply bw_p | apply bw_c | apply bw_r) | go_size))).mono ?_); rintro e w2 ⟨⟨ea, en, ec, rfl, hx⟩, hB, s1', s2', s3'⟩; have HX := Lib.hid hx; have HB2 := Lib.hid hB; clear hx hB)
    | (go_at_call 90; (refine (HD2.out _ _ _ _ (HB2.out.trans (by ((try simp only [← Array.append_assoc]); repeat' first | with_reducible (first | apply Below.refl | assumption | apply bw_a | apply bw_d | apply bw_n | apply bw_e | apply bw_s | apply bw_p | apply bw_c | apply bw_r) | go_size))) (HX.out.below (by ((try simp only [← Array.append_assoc]); repeat' first | with_reducible (first | apply Below.refl | assumption | apply bw_a | apply bw_d | apply bw_n | apply bw_e | apply bw_s | apply bw_p | apply bw_c | apply bw_r) | go_size)))).mono ?_); rintro e w3 ⟨⟨pv, rfl, hpv⟩, hB, s2'', s3'', s4''⟩; obtain ⟨pb, pc, rfl, h1, h2, h3⟩ := hpv; have HPV := Lib.hid (And.intro h1 (And.intro h2 h3)); have HB3 := Lib.hid hB; clear h1 h2 h3 hB))
  all_goals
    have hs3 := HSB.out.below HB3.out
    have hs4 := hs3.set2 (.slice (some ⟨pb, 0, none⟩) m pc)
    have hr4 : (w3.setCell ⟨sb, 2, none⟩ (.slice (some ⟨pb, 0, none⟩) m pc)).rowAt (w.heap.size + 1) = some #[.int .i64 0, .int .i64 0] :=
      (rowAt_of_block (Below.heap_setCell _ _ _ _ (show w.heap.size + 1 ≠ sb by omega))).trans ((rowAt_of_block (HB3.out.block (w.heap.size + 1) (by have := HSz.out; omega))).trans HRo.out)
    have hw3 := HB3.out.size
    have hws := HSz.out
    obtain ⟨h1, h2, h3⟩ := HPV.out
    have hoth : ∀ k, k ≠ sb → (w3.setCell ⟨sb, 2, none⟩ (.slice (some ⟨pb, 0, none⟩) m pc)).heap[k]? = w3.heap[k]? := fun k hk => Below.heap_setCell _ _ _ _ hk
    have hz4 : (w3.setCell ⟨sb, 2, none⟩ (.slice (some ⟨pb, 0, none⟩) m pc)).heap.size = w3.heap.size := by simp
    have hB4 : Below w.heap.size w (w3.setCell ⟨sb, 2, none⟩ (.slice (some ⟨pb, 0, none⟩) m pc)) := (HBW.out.trans (HB3.out.mono HBW.out.size)).setCell (by show w.heap.size ≤ sb; omega) _
    obtain ⟨W4, hW4⟩ : ∃ W4, w3.setCell ⟨sb, 2, none⟩ (.slice (some ⟨pb, 0, none⟩) m pc) = W4 := ⟨_, rfl⟩
    rw [hW4] at hs4 hr4 hoth hz4 hB4 ⊢
    have HS := Lib.hid (show SlabB W4 w.heap.size W4.heap.size sb R from {
      fine := HF.out
      lo := by omega
      hi := by omega
      size := Nat.le_refl _
      self := hs4.cell.1
      hts := ⟨hg, hc, by omega, by omega, by rw [HM.out]; exact hs4.cell.2.1, fun i hi => by
        rw [HM.out] at hi
        exact (World.cell?_of_block (a := ⟨hg, i, none⟩) (hoth hg (by omega))).trans ((World.cell?_of_block (a := ⟨hg, i, none⟩) (HB3.out.block hg (by omega))).trans (HT.out i hi))⟩
      eds := ⟨pb, pc, by omega, by omega, by rw [HM.out]; exact hs4.cell.2.2, fun i hi => by
        rw [HM.out] at hi
        obtain ⟨ab, o, c, k1, k2, k3, k4⟩ := h3 i (by omega)
        exact ⟨ab, o, c, by omega, by omega, (World.cell?_of_block (a := ⟨pb, i, none⟩) (hoth pb (by omega))).trans k3, k4.only (v := .slice none 0 0) fun x hx => by injection hx with hx; rw [← hx]; exact hoth ab (by omega)⟩⟩ })
    have HR4 := Lib.hid hr4
    have HB4 := Lib.hid hB4
    have e0 := ucell_of_row hr4 0
    have e1 := ucell_of_row hr4 1
    simp at e0 e1
    have e2 := World.block_lt_of_cell? _ _ e0
    have e3 : W4.frozen? ⟨w.heap.size + 1, 0, none⟩ = false := by
      obtain ⟨ty, h⟩ := rowAt_some hr4
      simp [World.frozen?, h]
    have e4 : W4.frozen? ⟨w.heap.size + 1, 1, none⟩ = false := by
      obtain ⟨ty, h⟩ := rowAt_some hr4
      simp [World.frozen?, h]
    clear hs3 hs4 hr4 hoth hz4 hB4 h1 h2 h3 hw3 hws hW4 s1' s2' s3' s2'' s3'' s4'' HX HB2 HPV HB3 HD2 HE2
    go_wp2_with fail
    rw [set2 HR4.out]
    simp only [List.setIfInBounds_toArray, List.set_cons_zero, List.set_cons_succ]
    rw [setRow_self HR4.out]
    refine bodyPost_ret (results_pf rfl _ _ (w.heap.size + 1) #[.int .i64 0, .int .i64 0] rfl HR4.out rfl) rfl ⟨⟨sb, rfl, HS.out⟩, junk_of_below HB4.out⟩
end
end Go.Proofs.YthphdiigjimchaaGreat

/- Contracts of frame's recordEnd, isTorn, stateOf, split; bytes.Clone. -/
import Derived.Test.YtfapldajodobhaaFrB
namespace Go.Proofs.Ytfapldajodobhaa
set_option linter.unusedVariables false
set_option linter.unusedSimpArgs false
open Go.RowKit

theorem drew_more (w : World) (n k : Nat) : (w.drewN n).drewN k = w.drewN (n + k) := by
  unfold World.drewN; simp [Nat.add_assoc]

theorem quiet_drew {P : Program} {f : FuncId} {args : Array Value} {w : World} {n : Nat} {v : Value} (h : Calls P f args (w.drewN n) fun e w' => e = .returned v ∧ ∃ k, w' = (w.drewN n).drewN k) :
    Calls P f args (w.drewN n) fun e w'' => e = .returned v ∧ ∃ m, w'' = w.drewN m :=
  h.mono fun _ _ ⟨he, k, hk⟩ => ⟨he, n + k, by rw [hk, drew_more]⟩
/-- A part of bytes that came in. -/
theorem bin_from {w : World} {b off len cap : Nat} {L : List UInt8} (h : BIn w (some ⟨b, off, none⟩) len L cap) (i j : Nat) (hij : i ≤ j) (hj : j ≤ len) :
    BIn w (some ⟨b, off + i, none⟩) (j - i) ((L.take j).drop i) (cap - i) := by
  obtain ⟨hR, hn, hs, hr⟩ := h
  obtain ⟨hL, hc⟩ := hR
  refine ⟨⟨by simp; omega, ?_⟩, (fun h => by cases h), by omega, by omega⟩
  by_cases h0 : j - i = 0
  · exact .inl h0
  refine .inr ⟨b, off + i, rfl, fun k hk => ?_⟩
  rcases hc with h0 | ⟨b', off', he, hc⟩
  · omega
  injection he with he; injection he with he1 he2 he3
  subst he1; subst he2
  rw [Nat.add_assoc, hc (i + k) (by omega)]
  congr 2
  unfold byteAt
  simp [List.getD_eq_getElem?_getD, List.getElem?_drop, List.getElem?_take_of_lt (show i + k < j by omega)]
theorem bin_tail {w : World} {b off len cap : Nat} {L : List UInt8} (h : BIn w (some ⟨b, off, none⟩) len L cap) (i : Nat) (hi : i ≤ len) :
    BIn w (some ⟨b, off + i, none⟩) (len - i) (L.drop i) (cap - i) := by
  have := bin_from h i len hi (Nat.le_refl _)
  rwa [List.take_of_length_le (by rw [h.reads.1]; omega)] at this
theorem bin_some {w : World} {a : Option Addr} {len cap : Nat} {L : List UInt8} (h : BIn w a len L cap) (hl : 0 < len) : ∃ b off, a = some ⟨b, off, none⟩ := by
  rcases h.reads.2 with h0 | ⟨b, off, he, _⟩
  · omega
  · exact ⟨b, off, he⟩

set_option maxRecDepth 100000 in
theorem n_recordEnd (w : World) (a : Option Addr) (len cap : Nat) (L : List UInt8) (h : BIn w a len L cap) (h8 : 8 ≤ len) :
    Calls Try.prog 39 #[.slice a len cap] w fun e w' => e = .returned (.tuple #[.int .i64 ((8 + num4 L : Nat) : Int), .bool (formF L)]) ∧ ∃ n, w' = w.drewN n := by
  obtain ⟨b, off, rfl⟩ := bin_some h (by omega)
  have hroom := h.room
  have HN0 := Lib.hid (fun n => n_frNumber (w.drewN n) (some ⟨b, off, none⟩) len cap L (h.reads.below (below_drewN (Below.refl _ _) n)) (by omega))
  have HN4 := Lib.hid (fun n => n_frNumber (w.drewN n) (some ⟨b, off + 4, none⟩) (len - 4) (cap - 4) (L.drop 4) ((bin_tail h 4 (by omega)).reads.below (below_drewN (Below.refl _ _) n)) (by omega))
  have hf : formF L = (num4 L + num4 (L.drop 4) == 4294967295 && decide (num4 L ≤ 65536)) := rfl
  rw [hf]
  clear hf
  have l1 := num4_lt L
  have l2 := num4_lt (L.drop 4)
  generalize num4 L = x at *
  generalize num4 (L.drop 4) = y at *
  have i1 : (4 : Int) ≤ (len : Int) := by omega
  have i2 : (len : Int) ≤ (cap : Int) := by omega
  have i3 : (4 : Int) ≤ (cap : Int) := by omega
  have i4 : (4 : Nat) ≠ cap := by omega
  have e1 : IntKind.i64.wrap (x : Int) = (x : Int) := by simp [IntKind.wrap, IntKind.signed, IntKind.bits]; omega
  have e2 : IntKind.i64.wrap (8 + (x : Int)) = 8 + (x : Int) := by simp [IntKind.wrap, IntKind.signed, IntKind.bits]; omega
  have e3 : bits .xor .u32 IntKind.u32.max (x : Int) = ((4294967295 - x : Nat) : Int) := by
    rw [← not32 x l1, Nat.xor_comm]; exact bits_xor32 4294967295 x (by decide) l1
  obtain ⟨g, hg⟩ : ∃ g, (x + y == 4294967295 && decide (x ≤ 65536)) = g := ⟨_, rfl⟩
  have hc8 : ((8 + x : Nat) : Int) = 8 + (x : Int) := by omega
  rw [hg, hc8]
  have HG := Lib.hid hg
  clear h hg hc8
  go_enter Try.func39, Try.ntmps39
  go_wp2_with fail
  go_quiet (first | (with_reducible refine quiet_drew (HN0.out _)) | (with_reducible refine quiet_drew (HN4.out _)))
  by_cases c1 : x + y = 4294967295
  · have e4 : (y : Int) = bits .xor .u32 IntKind.u32.max (x : Int) := by rw [e3]; omega
    clear e3 HN0 HN4
    have hb : (x + y == 4294967295) = true := by rw [beq_iff_eq]; exact c1
    by_cases c2 : x ≤ 65536
    · have e5 : (x : Int) ≤ 65536 := by omega
      have HGt := Lib.hid (show g = true by rw [← HG.out, hb, decide_eq_true c2]; rfl)
      clear c1 hb c2 HG
      go_wp2
      go_ret2
      exact ⟨by have hg := HGt.out; subst hg; rfl, _, rfl⟩
    · have e5 : ¬ (x : Int) ≤ 65536 := by omega
      have HGt := Lib.hid (show g = false by rw [← HG.out, hb, decide_eq_false c2]; rfl)
      clear c1 hb c2 HG
      go_wp2
      go_ret2
      exact ⟨by have hg := HGt.out; subst hg; rfl, _, rfl⟩
  · have e4 : ¬ (y : Int) = bits .xor .u32 IntKind.u32.max (x : Int) := by rw [e3]; omega
    clear e3 HN0 HN4
    have hb : (x + y == 4294967295) = false := by rw [beq_eq_false_iff_ne]; exact c1
    have HGt := Lib.hid (show g = false by rw [← HG.out, hb]; rfl)
    clear c1 hb HG
    go_wp2
    go_ret2
    exact ⟨by have hg := HGt.out; subst hg; rfl, _, rfl⟩

set_option maxRecDepth 100000 in
theorem n_isTorn (w : World) (a : Option Addr) (len cap : Nat) (L : List UInt8) (h : BIn w a len L cap) :
    Calls Try.prog 38 #[.slice a len cap] w fun e w' => e = .returned (.bool (tornF L)) ∧ Junk w w' := by
  have hL := h.reads.1
  by_cases c0 : len < 8
  · have e0 : (len : Int) < 8 := by omega
    have ht : tornF L = true := by unfold tornF; rw [decide_eq_true (by omega)]; rfl
    rw [ht]
    clear h
    go_enter Try.func38, Try.ntmps38
    go_wp2
    go_ret
    exact ⟨rfl, junk_of_below (by (repeat' (first | (with_reducible exact Below.refl _ _) | (with_reducible assumption) | (with_reducible refine Below.alloc ?_ ?_ _) | (with_reducible refine Below.drew ?_) | (with_reducible refine below_drewN ?_ _) | (with_reducible refine below_plus ?_ ?_ _ _) | (with_reducible refine Below.setCell ?_ ?_ _) | (with_reducible refine Below.setRow ?_ ?_ _) | go_size)))⟩
  have e0 : ¬ (len : Int) < 8 := by omega
  have HE := Lib.hid (n_recordEnd w a len cap L h (by omega))
  have ht : tornF L = (formF L && decide (len < num4 L + 12)) := by unfold tornF; rw [decide_eq_false (by omega), hL]; rfl
  rw [ht]
  have l1 := num4_lt L
  generalize num4 L = x at *
  have hs := h.small
  clear h ht
  have e1 : IntKind.i64.wrap (((8 + x : Nat) : Int) + 4) = ((8 + x : Nat) : Int) + 4 := by simp [IntKind.wrap, IntKind.signed, IntKind.bits]; omega
  generalize formF L = g at *
  obtain ⟨r, hr⟩ : ∃ r, (g && decide (len < x + 12)) = r := ⟨_, rfl⟩
  rw [hr]
  have HR := Lib.hid hr
  clear hr
  go_enter Try.func38, Try.ntmps38
  go_wp2_with fail
  refine (HE.out).mono ?_
  rintro e w1 ⟨rfl, n, rfl⟩
  generalize hy : ((8 + x : Nat) : Int) = y at *
  cases g
  · have HGt := Lib.hid (show r = false by rw [← HR.out]; rfl)
    clear HR
    go_wp2
    go_ret
    exact ⟨by have hg := HGt.out; subst hg; rfl, junk_of_below (by (repeat' (first | (with_reducible exact Below.refl _ _) | (with_reducible assumption) | (with_reducible refine Below.alloc ?_ ?_ _) | (with_reducible refine Below.drew ?_) | (with_reducible refine below_drewN ?_ _) | (with_reducible refine below_plus ?_ ?_ _ _) | (with_reducible refine Below.setCell ?_ ?_ _) | (with_reducible refine Below.setRow ?_ ?_ _) | go_size)))⟩
  · have HGt := Lib.hid (show decide ((len : Int) < y + 4) = r by
      rw [← HR.out, Bool.true_and, ← hy]
      exact decide_eq_decide.2 (by omega))
    clear hy HR
    go_wp2
    go_ret
    exact ⟨retb HGt.out, junk_of_below (by (repeat' (first | (with_reducible exact Below.refl _ _) | (with_reducible assumption) | (with_reducible refine Below.alloc ?_ ?_ _) | (with_reducible refine Below.drew ?_) | (with_reducible refine below_drewN ?_ _) | (with_reducible refine below_plus ?_ ?_ _ _) | (with_reducible refine Below.setCell ?_ ?_ _) | (with_reducible refine Below.setRow ?_ ?_ _) | go_size)))⟩

theorem n_stateOf (w : World) (a : Option Addr) (len cap : Nat) (L : List UInt8) (h : BIn w a len L cap) :
    Calls Try.prog 33 #[.slice a len cap] w fun e w' => e = .returned (.int .i64 ((stateF L : Nat) : Int)) ∧ Junk w w' := by
  have hL := h.reads.1
  have hs := h.small
  have HT := Lib.hid (fun n => n_isTorn (w.drewN n) a len cap L (h.below (below_drewN (Below.refl _ _) n)))
  have HT0 := Lib.hid (n_isTorn w a len cap L h)
  unfold stateF
  rw [hL]
  clear h
  by_cases c0 : len = 0
  · subst c0
    rw [if_pos rfl]
    go_enter Try.func33, Try.ntmps33
    go_wp2
    go_ret
    exact ⟨rfl, junk_of_below (by (repeat' (first | (with_reducible exact Below.refl _ _) | (with_reducible assumption) | (with_reducible refine Below.alloc ?_ ?_ _) | (with_reducible refine Below.drew ?_) | (with_reducible refine below_drewN ?_ _) | (with_reducible refine below_plus ?_ ?_ _ _) | (with_reducible refine Below.setCell ?_ ?_ _) | (with_reducible refine Below.setRow ?_ ?_ _) | go_size)))⟩
  · rw [if_neg c0]
    have e0 : ((len : Int) == 0) = false := by rw [beq_eq_false_iff_ne]; omega
    generalize tornF L = g at *
    obtain ⟨r, hr⟩ : ∃ r : Int, (((if g = true then 1 else 2 : Nat)) : Int) = r := ⟨_, rfl⟩
    rw [hr]
    have HR := Lib.hid hr
    clear hr
    go_enter Try.func33, Try.ntmps33
    go_wp2_with fail
    refine (HT0.out).mono ?_
    rintro e w1 ⟨rfl, J, d, rfl⟩
    cases g
    · go_wp2
      go_ret
      exact ⟨by rw [← HR.out]; rfl, junk_of_below (by (repeat' (first | (with_reducible exact Below.refl _ _) | (with_reducible assumption) | (with_reducible refine Below.alloc ?_ ?_ _) | (with_reducible refine Below.drew ?_) | (with_reducible refine below_drewN ?_ _) | (with_reducible refine below_plus ?_ ?_ _ _) | (with_reducible refine Below.setCell ?_ ?_ _) | (with_reducible refine Below.setRow ?_ ?_ _) | go_size)))⟩
    · go_wp2
      go_ret
      exact ⟨by rw [← HR.out]; rfl, junk_of_below (by (repeat' (first | (with_reducible exact Below.refl _ _) | (with_reducible assumption) | (with_reducible refine Below.alloc ?_ ?_ _) | (with_reducible refine Below.drew ?_) | (with_reducible refine below_drewN ?_ _) | (with_reducible refine below_plus ?_ ?_ _ _) | (with_reducible refine Below.setCell ?_ ?_ _) | (with_reducible refine Below.setRow ?_ ?_ _) | go_size)))⟩

theorem eqn_nil (d : Nat) (w : World) : Sem.run Try.prog (Op.equalIn (d + 1) 22 (Value.slice none 0 0) (Value.slice none 0 0)) w = .ok true w := by
  rw [Op.equalIn]
  simp [Try.runUnderlying22]
theorem eqn_some (d : Nat) (w : World) (a : Addr) (n c : Nat) : Sem.run Try.prog (Op.equalIn (d + 1) 22 (Value.slice (some a) n c) (Value.slice none 0 0)) w = .ok false w := by
  rw [Op.equalIn]
  simp [Try.runUnderlying22]
theorem nil_is_nil (w : World) : Sem.run Try.prog (binOp BinOp.eql 22 (Value.slice none 0 0) (Value.slice none 0 0)) w = .ok (.bool true) w := by
  have h := eqn_nil 9999 w
  rw [show 9999 + 1 = Op.maxDepth from rfl] at h
  simp [binOp, Op.equal, h]
theorem some_is_not_nil (w : World) (a : Addr) (n c : Nat) : Sem.run Try.prog (binOp BinOp.eql 22 (Value.slice (some a) n c) (Value.slice none 0 0)) w = .ok (.bool false) w := by
  have h := eqn_some 9999 w a n c
  rw [show 9999 + 1 = Op.maxDepth from rfl] at h
  simp [binOp, Op.equal, h]
/-- bytes.Clone. -/
theorem n_Clone (w : World) (a : Option Addr) (len cap : Nat) (L : List UInt8) (h : BIn w a len L cap) :
    Calls Try.prog 32 #[.slice a len cap] w (FrRes w w.heap.size L) := by
  have HB := Lib.hid h
  rcases a with _ | ad
  · obtain ⟨rfl, rfl⟩ := h.none rfl
    obtain rfl : L = [] := List.eq_nil_of_length_eq_zero h.reads.1
    clear h
    have hb := nil_is_nil
    go_enter Try.func32, Try.ntmps32
    go_wp2
    go_ret
    exact ⟨_, rfl, bowns_nil _ _, allbytes_nil _, Below.refl _ _⟩
  · clear h
    have hb := some_is_not_nil
    go_enter Try.func32, Try.ntmps32
    go_wp2_with (at_builtin; refine wpList_fappo rfl _ _ rfl w.heap.size _ [] rfl (bowns_empty w) (allbytes_new w #[] _ _ (by simp)) (some ad) len cap L rfl HB.out.none (HB.out.reads.below (by (repeat' (first | (with_reducible exact Below.refl _ _) | (with_reducible assumption) | (with_reducible refine Below.alloc ?_ ?_ _) | (with_reducible refine Below.drew ?_) | (with_reducible refine below_drewN ?_ _) | (with_reducible refine below_plus ?_ ?_ _ _) | (with_reducible refine Below.setCell ?_ ?_ _) | (with_reducible refine Below.setRow ?_ ?_ _) | go_size)))) (by have := HB.out.small; simp; omega) (by simp) ?_; intro v3 w3 ho3 ha3 hg3)
    go_ret
    exact ⟨_, rfl, ho3, ha3, ((Below.refl _ w).alloc (Nat.le_refl _) _).grown hg3 (by simp) (fun k hk => (bowns_empty w).block k hk)⟩
end Go.Proofs.Ytfapldajodobhaa

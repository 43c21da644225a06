/- Contracts of token's join and Text. -/
import Derived.Test.YtpoahdfhhnlghaaTkV
import Derived.Test.YtpoahdfhhnlghaaTkF
namespace Go.Proofs.Ytpoahdfhhnlghaa
set_option linter.unusedVariables false
set_option linter.unusedSimpArgs false
open Go.RowKit

theorem txt_snoc (t : Tk) : ∀ (l : List Tk) (a : Tk), txT ((a :: l) ++ [t]) = txT (a :: l) ++ (gapT ((a :: l).getLastD tkZ) t ++ t.2)
  | [], a => by show txT [a, t] = _; simp [txT]
  | b :: l, a => by
    have ih := txt_snoc t l b
    show txT (a :: b :: (l ++ [t])) = _
    rw [show txT (a :: b :: (l ++ [t])) = a.2 ++ (gapT a b ++ txT ((b :: l) ++ [t])) from rfl, ih]
    rw [show txT (a :: b :: l) = a.2 ++ (gapT a b ++ txT (b :: l)) from rfl]
    simp [List.getLastD]
theorem txt_first {K : List Tk} (h : 0 < K.length) : txT (K.take 1) = (K.getD 0 tkZ).2 := by
  cases K with
  | nil => cases h
  | cons a l => rfl
theorem txt_step {K : List Tk} {k : Nat} (h : k + 1 < K.length) : txT (K.take (k + 1 + 1)) = txT (K.take (k + 1)) ++ (gapT (K.getD k tkZ) (K.getD (k + 1) tkZ) ++ (K.getD (k + 1) tkZ).2) := by
  rw [List.take_succ_eq_append_getElem h]
  have e : K.getD (k + 1) tkZ = K[k + 1] := by rw [List.getD_eq_getElem?_getD, List.getElem?_eq_getElem h]; rfl
  rw [e]
  have hl : (K.take (k + 1)).getLastD tkZ = K.getD k tkZ := by
    rw [List.take_succ_eq_append_getElem (show k < K.length by omega), List.getLastD_concat, List.getD_eq_getElem?_getD, List.getElem?_eq_getElem (show k < K.length by omega)]; rfl
  cases hK : K.take (k + 1) with
  | nil =>
    have := congrArg List.length hK
    rw [List.length_take, List.length_nil] at this
    omega
  | cons a l =>
    rw [txt_snoc, ← hK, hl]
theorem siz_le {K : List Tk} (hs : ShortT K) : sizT K ≤ 1000000 * K.length := by
  induction K with
  | nil => exact Nat.le_refl _
  | cons a l ih =>
    have h1 := ih fun t ht => hs t (List.mem_cons_of_mem _ ht)
    have h2 := hs a (List.mem_cons_self ..)
    unfold sizT at *
    rw [List.map_cons, List.sum_cons, List.length_cons]
    omega
theorem short_take {K : List Tk} (hs : ShortT K) (k : Nat) : ShortT (K.take k) := fun t ht => hs t (List.mem_of_mem_take ht)
theorem txt_bound {K : List Tk} (hs : ShortT K) (hn : K.length ≤ 1000) (k : Nat) : (txT (K.take k)).length ≤ 1001000000 := by
  have h1 := txt_len (K.take k)
  have h2 := siz_le (short_take hs k)
  have h3 : (K.take k).length ≤ 1000 := by rw [List.length_take]; omega
  omega
theorem BdA.below {B b : Nat} {L : List UInt8} {w w' : World} (h : BdA B b L w) (hb : Below w.heap.size w w') : BdA B b L w' := by
  have one : ∀ p, Lib.BuilderAt 67 5 B b p (bcells L) w → Lib.BuilderAt 67 5 B b p (bcells L) w' := by
    rintro p ⟨hB, v, h1, h2, h3⟩
    refine ⟨hB, v, (hb.block b (Array.getElem?_eq_some_iff.1 h1).1).trans h1, ?_, h3⟩
    obtain ⟨h4, h5⟩ := h2
    refine ⟨h4, ?_⟩
    rcases h5 with h5 | ⟨g, cap, cur, hv, hg, hc, h6⟩
    · exact .inl h5
    · exact .inr ⟨g, cap, cur, hv, hg, (hb.block g (Array.getElem?_eq_some_iff.1 hc).1).trans hc, h6⟩
  exact h.elim (fun x => .inl (one _ x)) (fun x => .inr (one _ x))
theorem BdA.lt {B b : Nat} {L : List UInt8} {w : World} (h : BdA B b L w) : b < w.heap.size := h.elim (fun x => x.lt) (fun x => x.lt)
set_option maxRecDepth 100000 in
set_option maxHeartbeats 2000000 in
theorem n_tkJoin (w : World) (a : Option Addr) (n ca : Nat) (K : List Tk) (hK : TReads w a n K) (hs : ShortT K) (hn : n ≤ 1000) :
    Calls Try.prog 30 #[.slice a n ca] w fun e w' => e = .returned (.string ⟨(txT K).toArray⟩) ∧ Junk w w' := by
  obtain ⟨hKl, hKc⟩ := hK
  have HKc := Lib.hid hKc; have HKl := Lib.hid hKl
  have HS := Lib.hid hs
  have HBN := Lib.hid (bd_new w)
  have HTB := Lib.hid (fun k => txt_bound hs (by omega) k)
  clear hKc hKl hs
  go_enter Try.func30, Try.ntmps30
  go_wp2_with fail
  go_loopw [8, 4] (fun i _ wr => ∃ (k : Nat), i = .int .i64 (k : Int) ∧ k ≤ n ∧ BdA w.heap.size w.heap.size (txT (K.take k)) wr ∧ Below w.heap.size w wr) (fun i _ _ => n - (intOf i).toNat)
  case atStart => exact ⟨0, rfl, Nat.zero_le _, HBN.out, by (repeat' first | with_reducible (first | apply Below.refl | assumption | apply bw_a | apply bw_d | apply bw_n | apply bw_p | apply bw_c | apply bw_r) | go_size)⟩
  case round =>
    obtain ⟨k, rfl, hk, ht, hb⟩ := hrel
    have HT := Lib.hid ht
    have HB := Lib.hid hb
    have hsz := hb.size
    have hwl := ht.lt
    clear ht hb
    by_cases hlt : k < n
    · obtain ⟨b1, o1, rfl, hc1⟩ : ∃ b off, a = some ⟨b, off, none⟩ ∧ ∀ i, i < n → w.cell? ⟨b, off + i * 2, none⟩ = some (.int .i64 (K.getD i tkZ).1) ∧ w.cell? ⟨b, off + i * 2 + 1, none⟩ = some (.string ⟨(K.getD i tkZ).2.toArray⟩) := HKc.out.resolve_left (by omega)
      obtain ⟨c1, c2⟩ := hc1 k hlt
      have hbs : b1 < w.heap.size := World.block_lt_of_cell? _ _ c1
      rw [← (World.cell?_of_block (HB.out.block b1 hbs) : wr.cell? ⟨b1, o1 + k * 2, none⟩ = _)] at c1
      rw [← (World.cell?_of_block (HB.out.block b1 hbs) : wr.cell? ⟨b1, o1 + k * 2 + 1, none⟩ = _)] at c2
      have hbs2 : b1 < wr.heap.size := by omega
      have hsh := HS.out _ (getD_mem (K := K) (k := k) (by have := HKl.out; omega))
      have HL := Lib.hid (HTB.out k)
      rcases Nat.eq_zero_or_pos k with h0 | h0
      · subst h0
        have HF := Lib.hid (show txT (K.take (0 + 1)) = txT (K.take 0) ++ (K.getD 0 tkZ).2 by rw [show txT (K.take (0 + 1)) = (K.getD 0 tkZ).2 from txt_first (by have := HKl.out; omega)]; rfl)
        generalize K.getD 0 tkZ = p at *
        obtain ⟨kd, x⟩ := p
        simp only [Nat.zero_mul, Nat.add_zero] at c1 c2 hsh HF
        have HW := Lib.hid (fun W (h : BdA w.heap.size w.heap.size (txT (K.take 0)) W) hw => bd_text w.heap.size w.heap.size (txT (K.take 0)) x W h (by have := HL.out; omega) (by omega) hw)
        generalize txT (K.take 0) = D at *
        clear hc1 hsh
        go_wp2_with fail
        refine (HW.out _ (HT.out.below (by (repeat' first | with_reducible (first | apply Below.refl | assumption | apply bw_a | apply bw_d | apply bw_n | apply bw_p | apply bw_c | apply bw_r) | go_size))) (by simp; omega)).mono ?_; rintro e w' ⟨rfl, hd, hb2⟩
        have HD := Lib.hid hd
        have HB2 := Lib.hid hb2
        clear hd hb2
        go_wp2_with fail
        go_roundw
        case rel => exact ⟨1, by go_num, by omega, by rw [HF.out]; exact HD.out, by have hb3 := HB.out; exact Below.trans (by (repeat' first | with_reducible (first | apply Below.refl | assumption | apply bw_a | apply bw_d | apply bw_n | apply bw_p | apply bw_c | apply bw_r) | go_size)) HB2.out⟩
        case measure => simp [intOf]; omega
      · obtain ⟨m, rfl⟩ : ∃ m, k = m + 1 := ⟨k - 1, by omega⟩
        have hm : m < n := by omega
        obtain ⟨c3, _⟩ := hc1 m hm
        rw [← (World.cell?_of_block (HB.out.block b1 hbs) : wr.cell? ⟨b1, o1 + m * 2, none⟩ = _)] at c3
        have HF := Lib.hid (txt_step (K := K) (k := m) (by have := HKl.out; omega))
        have HGP := Lib.hid (show gapT (K.getD m tkZ) (K.getD (m + 1) tkZ) = if (K.getD (m + 1) tkZ).1 ≠ 4 ∧ (K.getD m tkZ).1 ≠ 5 then [32] else [] from rfl)
        generalize K.getD (m + 1) tkZ = p at *
        generalize K.getD m tkZ = q at *
        obtain ⟨kd, x⟩ := p
        obtain ⟨kp, y⟩ := q
        simp only at c1 c2 c3 hsh HF HGP
        have HW := Lib.hid (fun W (h : BdA w.heap.size w.heap.size (txT (K.take (m + 1))) W) hw => bd_text w.heap.size w.heap.size (txT (K.take (m + 1))) x W h (by have := HL.out; omega) (by omega) hw)
        have HY := Lib.hid (fun W (h : BdA w.heap.size w.heap.size (txT (K.take (m + 1))) W) hw => (bd_byte w.heap.size w.heap.size (txT (K.take (m + 1))) 32 W h (by have := HL.out; omega) hw : Calls Try.prog 39 #[.pointer (some ⟨w.heap.size, 0, none⟩), .int .u8 32] W _))
        have HX := Lib.hid (fun W (h : BdA w.heap.size w.heap.size (txT (K.take (m + 1)) ++ [32]) W) hw => bd_text w.heap.size w.heap.size (txT (K.take (m + 1)) ++ [32]) x W h (by have := HL.out; simp; omega) (by omega) hw)
        generalize txT (K.take (m + 1)) = D at *
        clear hc1 hsh
        by_cases g5 : kp = 5
        · subst g5
          have HG := Lib.hid (show gapT (5, y) (kd, x) = [] by unfold gapT; rw [if_neg (by simp)])
          clear HGP
          go_wp2_with fail
          refine (HW.out _ (HT.out.below (by (repeat' first | with_reducible (first | apply Below.refl | assumption | apply bw_a | apply bw_d | apply bw_n | apply bw_p | apply bw_c | apply bw_r) | go_size))) (by simp; omega)).mono ?_; rintro e w' ⟨rfl, hd, hb2⟩
          have HD := Lib.hid hd
          have HB2 := Lib.hid hb2
          clear hd hb2
          go_wp2_with fail
          go_roundw
          case rel => exact ⟨m + 1 + 1, by go_num, by omega, by rw [HF.out, HG.out, List.nil_append]; exact HD.out, by have hb3 := HB.out; exact Below.trans (by (repeat' first | with_reducible (first | apply Below.refl | assumption | apply bw_a | apply bw_d | apply bw_n | apply bw_p | apply bw_c | apply bw_r) | go_size)) HB2.out⟩
          case measure => simp [intOf]; omega
        have e5 : (kp != 5) = true := bne_iff_ne.2 g5
        by_cases g4 : kd = 4
        · subst g4
          have HG := Lib.hid (show gapT (kp, y) (4, x) = [] by unfold gapT; rw [if_neg (by simp)])
          clear HGP g5
          go_wp2_with fail
          refine (HW.out _ (HT.out.below (by (repeat' first | with_reducible (first | apply Below.refl | assumption | apply bw_a | apply bw_d | apply bw_n | apply bw_p | apply bw_c | apply bw_r) | go_size))) (by simp; omega)).mono ?_; rintro e w' ⟨rfl, hd, hb2⟩
          have HD := Lib.hid hd
          have HB2 := Lib.hid hb2
          clear hd hb2
          go_wp2_with fail
          go_roundw
          case rel => exact ⟨m + 1 + 1, by go_num, by omega, by rw [HF.out, HG.out, List.nil_append]; exact HD.out, by have hb3 := HB.out; exact Below.trans (by (repeat' first | with_reducible (first | apply Below.refl | assumption | apply bw_a | apply bw_d | apply bw_n | apply bw_p | apply bw_c | apply bw_r) | go_size)) HB2.out⟩
          case measure => simp [intOf]; omega
        · have e4 : (kd != 4) = true := bne_iff_ne.2 g4
          have HG := Lib.hid (show gapT (kp, y) (kd, x) = [32] by unfold gapT; rw [if_pos ⟨g4, g5⟩])
          clear HGP g5 g4
          go_wp2_with fail
          refine (HY.out _ (HT.out.below (by (repeat' first | with_reducible (first | apply Below.refl | assumption | apply bw_a | apply bw_d | apply bw_n | apply bw_p | apply bw_c | apply bw_r) | go_size))) (by simp; omega)).mono ?_; rintro e w1 ⟨rfl, hd1, hb1, hk1⟩
          have HD1 := Lib.hid hd1
          have HB1 := Lib.hid (show Below w.heap.size w w1 by have hb3 := HB.out; exact Below.trans (by (repeat' first | with_reducible (first | apply Below.refl | assumption | apply bw_a | apply bw_d | apply bw_n | apply bw_p | apply bw_c | apply bw_r) | go_size)) hb1)
          have hs1 := hb1.size
          have hk5 := hk1 wr.heap.size _ (heap_alloc_new wr _) (fun e => by injection e with e; omega) (fun c fz h => by injection h with _ h2 _; exact absurd h2 (by decide))
          have c5 : w1.cell? ⟨wr.heap.size, 1, none⟩ = some (.string ⟨x.toArray⟩) := by rw [Lib.cell_of_heap hk5]; rfl
          clear hd1 hb1 hk1 hk5
          go_wp2_with fail
          refine (HX.out _ (HD1.out.below (by (repeat' first | with_reducible (first | apply Below.refl | assumption | apply bw_a | apply bw_d | apply bw_n | apply bw_p | apply bw_c | apply bw_r) | go_size))) HB1.out.size).mono ?_; rintro e w' ⟨rfl, hd, hb2⟩
          have HD := Lib.hid hd
          have HB2 := Lib.hid hb2
          clear hd hb2
          go_wp2_with fail
          go_roundw
          case rel => exact ⟨m + 1 + 1, by go_num, by omega, by rw [HF.out, HG.out, ← List.append_assoc]; exact HD.out, by have hb3 := HB1.out; exact Below.trans (by (repeat' first | with_reducible (first | apply Below.refl | assumption | apply bw_a | apply bw_d | apply bw_n | apply bw_p | apply bw_c | apply bw_r) | go_size)) HB2.out⟩
          case measure => simp [intOf]; omega
    · obtain rfl : k = n := by omega
      have HE := Lib.hid (show txT (K.take k) = txT K by rw [List.take_of_length_le (by have := HKl.out; omega)])
      have HW := Lib.hid (bd_string w.heap.size w.heap.size (txT (K.take k)) wr HT.out hsz)
      generalize txT (K.take k) = D at *
      go_wp2_with fail
      refine HW.out.mono ?_; rintro e w' ⟨rfl, hb2⟩
      have HB2 := Lib.hid hb2
      clear hb2
      go_wp2
      go_ret
      exact ⟨by rw [← HE.out]; rfl, junk_of_below (HB.out.trans HB2.out)⟩
end Go.Proofs.Ytpoahdfhhnlghaa

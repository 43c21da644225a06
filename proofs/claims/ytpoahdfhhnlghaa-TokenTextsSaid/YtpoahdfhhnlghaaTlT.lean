/- The law TokenTells. -/
import Derived.Test.YtpoahdfhhnlghaaTlK
namespace Go.Proofs.Ytpoahdfhhnlghaa
set_option linter.unusedVariables false
set_option linter.unusedSimpArgs false
open Go.RowKit

theorem text_of (a : ByteArray) : ∃ L : List UInt8, a = ⟨L.toArray⟩ := ⟨a.data.toList, by simp⟩
/-- A row of the call's own, as it lies. -/
theorem TOwns.lies {w : World} {base : Nat} {a : Option Addr} {n cap : Nat} {K : List Tk} (h : TOwns w base (.slice a n cap) K) : n = 0 ∨ ∃ g cur, a = some ⟨g, 0, none⟩ ∧ w.rowAt g = some cur ∧ cur.size = cap * 2 ∧ n ≤ cap ∧ g < w.heap.size ∧ base ≤ g := by
  obtain ⟨_, h⟩ := h
  rcases h with ⟨h, h0⟩ | ⟨g, cap', cur, h, hg, hc, hn, _, hs, _⟩
  · injection h with _ h _; exact .inl h
  · injection h with h1 h2 h3
    subst h1 h3
    refine .inr ⟨g, cur, rfl, ?_, hs, by rw [h2]; exact hn, (Array.getElem?_eq_some_iff.1 hc).1, hg⟩
    show (match w.heap[g]? with | some (.cells c _ (0, 0)) => some c | _ => none) = _
    rw [hc]
    rfl
theorem row_at {c : Array Value} {k : Nat} (h : k < c.size) : ∃ v, c[k]? = some v := ⟨c[k], Array.getElem?_eq_getElem h⟩
set_option maxRecDepth 100000 in
set_option maxHeartbeats 4000000 in
theorem l_tokenTells (s : List UInt8) (w : World) (hs : s.length ≤ 9223372036854775807) : Calls Try.prog 3 #[.string ⟨s.toArray⟩] w fun e w' => e = .returned (.bool true) ∧ Junk w w' := by
  by_cases h1000 : 1000 < s.length
  · go_enter Try.func3, Try.ntmps3
    go_wp2
    go_ret
    exact ⟨rfl, junk_of_below (by (repeat' first | with_reducible (first | apply Below.refl | assumption | apply bw_a | apply bw_d | apply bw_n | apply bw_p | apply bw_c | apply bw_r) | go_size))⟩
  have hl : s.length ≤ 1000 := by omega
  have HT := Lib.hid (fun W => p_tkTokens s W (by omega))
  have HR := Lib.hid (fun W => q_tkTokens s W (by omega))
  have HU := Lib.hid (fun W => n_tkUpper s W (by omega))
  have HV := Lib.hid (fun W => r_tkUpper s W (by omega))
  have HA := Lib.hid l_tkAwake
  have hT := told_len s
  unfold TkP at HT HR
  generalize toldT s = T at *
  have HS := Lib.hid (fun W a1 a2 cap1 cap2 (h : TReads W a1 T.length T) (h2 : TReads W a2 T.length T) => (k_SameTokens W a1 a2 T.length T.length cap1 cap2 T T h h2 (by omega) (by omega)).mono fun e w' h => (⟨by rw [h.1, decide_eq_true rfl], h.2⟩ : e = .returned (.bool true) ∧ Junk W w'))
  generalize (faultT s).1 = f at *
  generalize ((faultT s).2 : Int) = f2 at *
  generalize s.map upB = U at *
  clear hs h1000
  go_enter Try.func3, Try.ntmps3
  go_wp2_with fail
  refine (HT.out _).mono ?_; rintro e w1 ⟨a, cap, J1, d1, rfl, rfl, hR1, hO1, _⟩
  have hR1 := Lib.hid hR1
  have HO1 := Lib.hid hO1
  have hX := hO1.lies
  clear hO1
  go_wp2_with fail
  refine (HR.out _).mono ?_; rintro e w2 ⟨a2, cap2, J2, d2, rfl, rfl, hR2, hO2, _⟩
  have hR2 := Lib.hid hR2
  have HO2 := Lib.hid hO2
  clear hO2
  go_wp2_with fail
  refine (HS.out _ _ _ _ _ (hR1.out.below (by (repeat' first | with_reducible (first | apply Below.refl | assumption | apply bw_a | apply bw_d | apply bw_n | apply bw_p | apply bw_c | apply bw_r) | go_size))) (hR2.out.below (by (repeat' first | with_reducible (first | apply Below.refl | assumption | apply bw_a | apply bw_d | apply bw_n | apply bw_p | apply bw_c | apply bw_r) | go_size)))).mono ?_; rintro e w' ⟨rfl, J3, d3, rfl⟩
  go_wp2_with fail
  refine (HU.out _).mono ?_; rintro e w' ⟨rfl, J4, d4, rfl⟩
  go_wp2_with fail
  refine (HV.out _).mono ?_; rintro e w' ⟨rfl, J5, d5, rfl⟩
  go_wp2_with fail
  have hb : Below w.heap.size w (((((w.plus J1 d1).alloc (.cells #[.int .i64 f, .int .i64 f2] 25)).plus J2 d2).alloc (.cells #[.int .i64 f, .int .i64 f2] 25)).plus (J3 ++ (J4 ++ J5)) d5) := by (repeat' first | with_reducible (first | apply Below.refl | assumption | apply bw_a | apply bw_d | apply bw_n | apply bw_p | apply bw_c | apply bw_r) | go_size)
  have ho2 := HO2.out.below (w' := ((((w.plus J1 d1).alloc (.cells #[.int .i64 f, .int .i64 f2] 25)).plus J2 d2).alloc (.cells #[.int .i64 f, .int .i64 f2] 25)).plus (J3 ++ (J4 ++ J5)) d5) (by (repeat' first | with_reducible (first | apply Below.refl | assumption | apply bw_a | apply bw_d | apply bw_n | apply bw_p | apply bw_c | apply bw_r) | go_size))
  have hbx : Below (w.plus J1 d1).heap.size (w.plus J1 d1) (((((w.plus J1 d1).alloc (.cells #[.int .i64 f, .int .i64 f2] 25)).plus J2 d2).alloc (.cells #[.int .i64 f, .int .i64 f2] 25)).plus (J3 ++ (J4 ++ J5)) d5) := by (repeat' first | with_reducible (first | apply Below.refl | assumption | apply bw_a | apply bw_d | apply bw_n | apply bw_p | apply bw_c | apply bw_r) | go_size)
  have hB2 : (w.plus J1 d1).heap.size < ((w.plus J1 d1).alloc (.cells #[.int .i64 f, .int .i64 f2] 25)).heap.size := by simp
  generalize ((w.plus J1 d1).alloc (.cells #[.int .i64 f, .int .i64 f2] 25)).heap.size = B2 at *
  generalize ((((w.plus J1 d1).alloc (.cells #[.int .i64 f, .int .i64 f2] 25)).plus J2 d2).alloc (.cells #[.int .i64 f, .int .i64 f2] 25)).plus (J3 ++ (J4 ++ J5)) d5 = W at *
  have HX := Lib.hid (show T.length = 0 ∨ ∃ g cur, a = some ⟨g, 0, none⟩ ∧ W.rowAt g = some cur ∧ cur.size = cap * 2 ∧ T.length ≤ cap ∧ g < B2 ∧ w.heap.size ≤ g from by
    rcases hX with h0 | ⟨g, cur, h1, h2, h3, h4, h5, h6⟩
    · exact .inl h0
    · exact .inr ⟨g, cur, h1, by rw [rowAt_of_block (hbx.block g h5)]; exact h2, h3, h4, by omega, h6⟩)
  have HB := Lib.hid hb
  have HO := Lib.hid ho2
  clear hX hb ho2 hbx hB2 HO2 hR1 hR2 HO1
  go_loopw [8] (fun i wr => ∃ k : Nat, i = .int .i64 (k : Int) ∧ k ≤ T.length ∧ (T.length = 0 ∨ ∃ g cur, a = some ⟨g, 0, none⟩ ∧ wr.rowAt g = some cur ∧ cur.size = cap * 2 ∧ T.length ≤ cap ∧ g < B2 ∧ w.heap.size ≤ g) ∧ TOwns wr B2 (.slice a2 T.length cap2) T ∧ Below w.heap.size w wr) (fun i _ => T.length - (intOf i).toNat)
  case atStart => exact ⟨0, rfl, Nat.zero_le _, HX.out, HO.out, HB.out⟩
  case round =>
    obtain ⟨k, rfl, hk, hx, ho, hb⟩ := hrel
    have HXr := Lib.hid hx; have HOr := Lib.hid ho; have HBr := Lib.hid hb
    clear hx ho hb HX HO HB
    by_cases hlt : k < T.length
    · obtain ⟨g, cur, rfl, hr, hsz, hcap, hg, hgw⟩ := HXr.out.resolve_left (by omega)
      obtain ⟨v0, hv0⟩ := row_at (c := cur) (k := k * 2) (by omega)
      obtain ⟨v1, hv1⟩ := row_at (c := cur) (k := k * 2 + 1) (by omega)
      have c0 := (ucell_of_row hr (k * 2)).trans hv0
      have c1 := (ucell_of_row hr (k * 2 + 1)).trans hv1
      have f0 := ufrozen_of_row hr (k * 2)
      have f1 := ufrozen_of_row hr (k * 2 + 1)
      have HRr := Lib.hid hr
      have HSz := Lib.hid hsz
      clear hr hv0 hv1 hsz
      go_wp2_with fail
      go_roundw
      case rel =>
        refine ⟨k + 1, by go_num, by omega, .inr ⟨g, (cur.setIfInBounds (k * 2) (.int .i64 0)).setIfInBounds (k * 2 + 1) (.string ⟨#[]⟩), rfl, ?_, by simp [HSz.out], hcap, hg, hgw⟩, (HOr.out.set hg).set hg, (HBr.out.setCell (p := ⟨g, k * 2, none⟩) hgw _).setCell (p := ⟨g, k * 2 + 1, none⟩) hgw _⟩
        rw [set2 HRr.out]
        exact rowAt_setRow HRr.out
      case measure => simp [intOf]; omega
    · obtain rfl : k = T.length := by omega
      obtain ⟨a3, cap3, he3, hR3, _⟩ := treads_of_owns HOr.out
      injection he3 with he1 he2 he3
      subst he1
      have hR3 := Lib.hid hR3
      clear HXr HOr he2 he3
      go_wp2_with fail
      refine (HT.out _).mono ?_; rintro e w1 ⟨a3, cap3, J6, d6, rfl, rfl, hR4, _, _⟩
      have hR4 := Lib.hid hR4
      go_wp2_with fail
      refine (HS.out _ _ _ _ _ (hR4.out.below (by (repeat' first | with_reducible (first | apply Below.refl | assumption | apply bw_a | apply bw_d | apply bw_n | apply bw_p | apply bw_c | apply bw_r) | go_size))) (hR3.out.below (by (repeat' first | with_reducible (first | apply Below.refl | assumption | apply bw_a | apply bw_d | apply bw_n | apply bw_p | apply bw_c | apply bw_r) | go_size)))).mono ?_; rintro e w' ⟨rfl, J7, d7, rfl⟩
      go_wp2_with fail
      refine (HA.out _).mono ?_; rintro e w' ⟨rfl, J8, d8, rfl⟩
      go_wp2
      go_ret
      exact ⟨rfl, junk_of_below (by have := HBr.out; have := HBr.out.size; (repeat' first | with_reducible (first | apply Below.refl | assumption | apply bw_a | apply bw_d | apply bw_n | apply bw_p | apply bw_c | apply bw_r) | go_size))⟩
end Go.Proofs.Ytpoahdfhhnlghaa

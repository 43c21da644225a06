/- The law WordsLarge. -/
import Derived.Test.YtngjkmjejijfiaaDoorWdJ
namespace Go.Proofs.YtngjkmjejijfiaaDoor
set_option linter.unusedVariables false
set_option linter.unusedSimpArgs false
open Go.RowKit

theorem app_back (p : Tx) : (⟨p.toArray⟩ : ByteArray) ++ ⟨#[32]⟩ = ⟨(p ++ [32]).toArray⟩ := ByteArray.ext (by simp)
theorem app_front (p : Tx) : (⟨#[32]⟩ : ByteArray) ++ ⟨p.toArray⟩ = ⟨(32 :: p).toArray⟩ := ByteArray.ext (by simp)
set_option maxRecDepth 100000 in
set_option maxHeartbeats 4000000 in
theorem l_wordsLarge (kd x y : Int) (hx : -9223372036854775808 ≤ x ∧ x ≤ 9223372036854775807) (hy : -9223372036854775808 ≤ y ∧ y ≤ 9223372036854775807) (w : World) (ht : LdW w) :
    Calls Tryd.prog 6 #[.int .i64 kd, .int .i64 x, .int .i64 y] w fun e w' => e = .returned (.bool true) ∧ Below w.heap.size w w' := by
  have HA := Lib.hid l_wdAwake
  have HAL := Lib.hid (@allat kd)
  have HT := Lib.hid ht
  clear ht
  have hfew : (allW (wdT kd)).length ≤ 51 := by have := sel_all kd; rw [← this, sel_len]; exact wd_few kd
  by_cases h0 : (allW (wdT kd)).length = 0
  · have e0 : allW (wdT kd) = [] := List.eq_nil_of_length_eq_zero h0
    rw [e0] at HAL
    clear e0 h0 hfew
    go_enter Tryd.func6, Tryd.ntmps6
    go_wp2_with fail
    refine (HA.out _ (HT.out.below (by (repeat' first | with_reducible (first | apply Below.refl | assumption | apply bw_a | apply bw_d | apply bw_n | apply bw_p | apply bw_c | apply bw_r) | go_size)))).mono ?_; rintro e w' ⟨rfl, J, d, rfl⟩
    go_wp2_with fail
    refine (HAL.out _ (HT.out.below (by (repeat' first | with_reducible (first | apply Below.refl | assumption | apply bw_a | apply bw_d | apply bw_n | apply bw_p | apply bw_c | apply bw_r) | go_size)))).mono ?_; rintro e w' ⟨a, ca, rfl, hv, J1, d1, rfl⟩
    clear hv
    go_wp2
    go_ret
    exact ⟨rfl, by (repeat' first | with_reducible (first | apply Below.refl | assumption | apply bw_a | apply bw_d | apply bw_n | apply bw_p | apply bw_c | apply bw_r) | go_size)⟩
  obtain ⟨j, hj, hpk⟩ := wd_place x _ hx (by omega : 0 < (allW (wdT kd)).length) (by omega)
  have hmem : (allW (wdT kd)).getD j [] ∈ allW (wdT kd) := by
    rw [List.getD_eq_getElem?_getD, List.getElem?_eq_getElem hj]
    exact List.getElem_mem hj
  obtain ⟨p, hp, hpj⟩ := all_mem.1 hmem
  obtain ⟨f1, _, f3, f4, f5, f6⟩ := fine_at hp
  obtain ⟨q1, q2⟩ := wd_short kd p hp
  have hl0 : 0 < p.1.length := List.length_pos_iff.2 f5
  obtain ⟨i, hi, hpk2⟩ := wd_place y _ hy hl0 (by omega)
  obtain ⟨g1, g2, g3⟩ := large_at hp hi
  have HL := Lib.hid (longAt (x := (allW (wdT kd)).getD j []) (told_some (by rw [← hpj]; exact f3)) (by rw [← hpj]; omega))
  have HS2 := Lib.hid (shortAt (tell_none g2) (by simp; omega))
  have HS3 := Lib.hid (shortAt (tell_none g3) (by simp; omega))
  have hsm : ∃ u sm, tellS (wdT kd) (p.1.set i (smallB (p.1.getD i 0))) = (u, sm) ∧ (sm = false ∨ p.1.set i (smallB (p.1.getD i 0)) = p.1) := by
    rcases g1 with g1 | g1
    · exact ⟨p.2, true, by rw [g1, tell_some f1], .inr g1⟩
    · exact ⟨[], false, tell_none g1, .inl rfl⟩
  obtain ⟨u, sm, hsm, hsm2⟩ := hsm
  have HS1 := Lib.hid (shortAt hsm (by rw [List.length_set]; omega))
  have HPK := Lib.hid hpk
  have HPK2 := Lib.hid hpk2
  have hbits : bits .or .u8 ((byteAt p.1 i : Nat) : Int) 32 = (((smallB (p.1.getD i 0)).toNat : Nat) : Int) := or_small (p.1.getD i 0)
  have HRS := Lib.hid (fun (g : Nat) (w : World) (h : RowB g p.1 w) => rowb_set (c := smallB (p.1.getD i 0)) h hi)
  have hne : (p.1 == []) = false := by simpa using f5
  clear hpk hpk2 hsm g1 g2 g3 f1 f3 f4 f6 hpj hmem q2
  obtain ⟨p1, p2⟩ := p
  replace hi : i < p1.length := hi
  replace hne : (p1 == []) = false := hne
  replace hl0 : 0 < p1.length := hl0
  replace q1 : p1.length ≤ 100 := q1
  replace f5 : p1 ≠ [] := f5
  replace hbits : bits .or .u8 ((byteAt p1 i : Nat) : Int) 32 = (((smallB (p1.getD i 0)).toNat : Nat) : Int) := hbits
  replace HRS : Hid (∀ (g : Nat) (w : World) (h : RowB g p1 w), RowB g (p1.set i (smallB (p1.getD i 0))) (w.setCell ⟨g, i, none⟩ (.int .u8 ((smallB (p1.getD i 0)).toNat : Nat)))) := HRS
  have hlen' : (p1.set i (smallB (p1.getD i 0))).length = p1.length := List.length_set
  have hne' : p1.set i (smallB (p1.getD i 0)) ≠ [] := fun e => by rw [e] at hlen'; simp at hlen'; omega
  generalize p1.set i (smallB (p1.getD i 0)) = S at *
  generalize smallB (p1.getD i 0) = cs at *
  generalize hK : allW (wdT kd) = K at *
  generalize hz : K.getD j [] = z at *
  have HZ := Lib.hid hz
  have HN := Lib.hid h0
  clear hK hz hp h0
  generalize wdT kd = T at *
  go_enter Tryd.func6, Tryd.ntmps6
  go_wp2_with fail
  refine (HA.out _ (HT.out.below (by (repeat' first | with_reducible (first | apply Below.refl | assumption | apply bw_a | apply bw_d | apply bw_n | apply bw_p | apply bw_c | apply bw_r) | go_size)))).mono ?_; rintro e w' ⟨rfl, J, d, rfl⟩
  go_wp2_with fail
  refine (HAL.out _ (HT.out.below (by (repeat' first | with_reducible (first | apply Below.refl | assumption | apply bw_a | apply bw_d | apply bw_n | apply bw_p | apply bw_c | apply bw_r) | go_size)))).mono ?_; rintro e W1 ⟨a, ca, rfl, hv, hj1⟩
  have HB1 := Lib.hid (bw_k (show Below w.heap.size w (w.plus J d) by (repeat' first | with_reducible (first | apply Below.refl | assumption | apply bw_a | apply bw_d | apply bw_n | apply bw_p | apply bw_c | apply bw_r) | go_size)) (by (repeat' first | with_reducible (first | apply Below.refl | assumption | apply bw_a | apply bw_d | apply bw_n | apply bw_p | apply bw_c | apply bw_r) | go_size)) hj1)
  have hR := sreads_of_slice hv.1
  clear hv hj1
  obtain ⟨g, off, rfl, hc⟩ : ∃ b off, a = some ⟨b, off, none⟩ ∧ ∀ i, i < K.length → W1.cell? ⟨b, off + i, none⟩ = some (sV (K.getD i [])) := hR.2.resolve_left HN.out
  have c1 := hc j hj
  rw [HZ.out] at c1
  have hg : g < W1.heap.size := World.block_lt_of_cell? _ _ c1
  have s1 := HB1.out.size
  have hK0 : ((K.length : Int) == 0) = false := beq_eq_false_iff_ne.2 (by have := HN.out; omega)
  clear hR hc
  go_wp2_with fail
  refine (HPK.out _).mono ?_; rintro e w' ⟨rfl, J2, d2, rfl⟩
  go_wp2_with fail
  refine (HL.out _ (HT.out.below (by have := HB1.out; (repeat' first | with_reducible (first | apply Below.refl | assumption | apply bw_a | apply bw_d | apply bw_n | apply bw_p | apply bw_c | apply bw_r) | go_size)))).mono ?_; rintro e W2 ⟨rfl, hj2⟩
  have HB2 := Lib.hid (bw_k (bw_k HB1.out s1 ⟨J2, d2, rfl⟩) (by simp [go_sem]; omega) hj2)
  have s2 := HB2.out.size
  clear hj2 c1 hg
  go_wp2_with fail
  rw [run_bytes_of_string _ 9 32 5 _ Tryd.underlying9 Tryd.underlying32 Tryd.underlying5]
  simp only [Result.andThen]
  rw [Oper.upon_value]
  have hsz : (⟨p1.toArray⟩ : ByteArray).size = p1.length := by simp [ByteArray.size]
  rw [hsz]
  have hr := rowb_start W2 p1 (grownCap W2 p1.length 0 5)
  generalize grownCap W2 p1.length 0 5 = cap at *
  have hb3 : Below w.heap.size w (W2.drew.alloc (.cells (bytesRow ⟨p1.toArray⟩ cap) 5 ((bytesRow ⟨p1.toArray⟩ cap).size, (bytesRow ⟨p1.toArray⟩ cap).size + 1))) := by have := HB2.out; (repeat' first | with_reducible (first | apply Below.refl | assumption | apply bw_a | apply bw_d | apply bw_n | apply bw_p | apply bw_c | apply bw_r) | go_size)
  generalize W2.drew.alloc (.cells (bytesRow ⟨p1.toArray⟩ cap) 5 ((bytesRow ⟨p1.toArray⟩ cap).size, (bytesRow ⟨p1.toArray⟩ cap).size + 1)) = W3 at *
  have HR3 := Lib.hid hr
  have HB3 := Lib.hid hb3
  generalize hg : W2.heap.size = gb at *
  clear hr hb3 hsz
  go_wp2_with fail
  refine (HPK2.out _).mono ?_; rintro e w' ⟨rfl, J4, d4, rfl⟩
  have HR4 := Lib.hid (HR3.out.below (show Below W3.heap.size W3 (W3.plus J4 d4) by (repeat' first | with_reducible (first | apply Below.refl | assumption | apply bw_a | apply bw_d | apply bw_n | apply bw_p | apply bw_c | apply bw_r) | go_size)))
  have s3 := HB3.out.size
  have HB4 := Lib.hid (bw_k HB3.out s3 ⟨J4, d4, rfl⟩)
  generalize W3.plus J4 d4 = W4 at *
  have c1 := HR4.out.1 i hi
  have fz := HR4.out.2.1 i hi
  have hgb := HR4.out.2.2
  have HR5 := Lib.hid (HRS gb W4 HR4.out)
  have HB5 := Lib.hid (HB4.out.setCell (p := ⟨gb, i, none⟩) (by omega) (.int .u8 (cs.toNat : Nat)))
  have hcv := HR5.out.conv hne' cap
  rw [hlen'] at hcv
  clear HRS
  go_wp2_with fail
  refine (HS1.out _ (HT.out.below HB5.out)).mono ?_; rintro e w' ⟨rfl, J6, d6, rfl⟩
  have s5 := HB5.out.size
  have HB6 := Lib.hid (bw_k HB5.out s5 ⟨J6, d6, rfl⟩)
  have HR6 := Lib.hid (HR5.out.below (show Below (W4.setCell ⟨gb, i, none⟩ (.int .u8 (cs.toNat : Nat))).heap.size (W4.setCell ⟨gb, i, none⟩ (.int .u8 (cs.toNat : Nat))) ((W4.setCell ⟨gb, i, none⟩ (.int .u8 (cs.toNat : Nat))).plus J6 d6) by (repeat' first | with_reducible (first | apply Below.refl | assumption | apply bw_a | apply bw_d | apply bw_n | apply bw_p | apply bw_c | apply bw_r) | go_size)))
  generalize (W4.setCell ⟨gb, i, none⟩ (.int .u8 (cs.toNat : Nat))).plus J6 d6 = W6 at *
  clear hcv c1 fz hgb
  go_wp2_with fail
  rw [app_back p1]
  refine (HS2.out _ (HT.out.below HB6.out)).mono ?_; rintro e w' ⟨rfl, J7, d7, rfl⟩
  have s6 := HB6.out.size
  have HB7 := Lib.hid (bw_k HB6.out s6 ⟨J7, d7, rfl⟩)
  have HR7 := Lib.hid (HR6.out.below (show Below W6.heap.size W6 (W6.plus J7 d7) by (repeat' first | with_reducible (first | apply Below.refl | assumption | apply bw_a | apply bw_d | apply bw_n | apply bw_p | apply bw_c | apply bw_r) | go_size)))
  generalize W6.plus J7 d7 = W7 at *
  go_wp2_with fail
  rw [app_front p1]
  refine (HS3.out _ (HT.out.below HB7.out)).mono ?_; rintro e w' ⟨rfl, J8, d8, rfl⟩
  have s7 := HB7.out.size
  have HB8 := Lib.hid (bw_k HB7.out s7 ⟨J8, d8, rfl⟩)
  have HR8 := Lib.hid (HR7.out.below (show Below W7.heap.size W7 (W7.plus J8 d8) by (repeat' first | with_reducible (first | apply Below.refl | assumption | apply bw_a | apply bw_d | apply bw_n | apply bw_p | apply bw_c | apply bw_r) | go_size)))
  generalize W7.plus J8 d8 = W8 at *
  have hcv := HR8.out.conv hne' cap
  rw [hlen'] at hcv
  have hEnd : sm = false ∨ (sm = true ∧ (S == p1) = true) := by
    rcases hsm2 with h | h
    · exact .inl h
    · cases sm
      · exact .inl rfl
      · exact .inr ⟨rfl, by rw [h]; simp⟩
  rcases hEnd with rfl | ⟨rfl, hEq⟩
  · go_wp2
    go_ret
    exact ⟨rfl, HB8.out⟩
  · go_wp2
    go_ret
    exact ⟨rfl, HB8.out⟩
end Go.Proofs.YtngjkmjejijfiaaDoor

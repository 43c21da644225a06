/- Package words: tableOf. -/
import Derived.Test.YtngjkmjejijfiaaDoorWdS
import Derived.Test.YtngjkmjejijfiaaDoorWdC
namespace Go.Proofs.YtngjkmjejijfiaaDoor
set_option linter.unusedVariables false
set_option linter.unusedSimpArgs false
open Go.RowKit Go.Maps

theorem lawS : Keyed Tryd.prog 9 := string_keyed Tryd.underlying9
abbrev MapW (w : World) (b n : Nat) (D : DataW Value) : Prop := w.ownsMap Tryd.prog 9 Rv b n D
theorem MapW.below {w w' : World} {b n : Nat} {D : DataW Value} (h : MapW w b n D) (hb : Below w.heap.size w w') : MapW w' b n D := by
  have hlt := World.ownsMap.lt h
  obtain ⟨es, clock, hx, rest⟩ := h
  exact ⟨es, clock, (hb.block b hlt).trans hx, rest⟩
theorem key_of {x : Tx} (hx : x.length ≤ 2000) : keyOf Tryd.prog 9 (.string ⟨x.toArray⟩) = some (kL x) := by
  rw [WideMaps.keyOf_string_mk Tryd.underlying9 (by show (x.toArray).size ≤ maxLen; unfold maxLen; simp; omega)]
def TabRes (T : List Wd) (w : World) (e : Ending) (w' : World) : Prop := ∃ b n, e = .returned (.map (some b)) ∧ w.heap.size ≤ b ∧ MapW w' b n (tabD T) ∧ Junk w w'
theorem tab_ret {T : List Wd} {F : List Tx} {w w' : World} {b n : Nat} (h : MapW w' b n (tabD ((F.map cutP).take F.length))) (hT : T = F.map cutP) (hb : w.heap.size ≤ b) (hj : Junk w w') : TabRes T w (.returned (.map (some b))) w' := by
  subst hT
  rw [List.take_of_length_le (by simp)] at h
  exact ⟨b, n, rfl, hb, h, hj⟩
theorem tab_step {F : List Tx} {k : Nat} (h : k < F.length) : tabD ((F.map cutP).take (k + 1)) = put2 (tabD ((F.map cutP).take k)) (cutP (F.getD k [])) := by
  unfold tabD
  rw [List.take_succ_eq_append_getElem (by simpa using h), List.foldl_append, List.getElem_map, List.getD_eq_getElem?_getD, List.getElem?_eq_getElem h]
  rfl
theorem sreads_block {w w' : World} {A off len : Nat} {K : List Tx} (h : SReads w (some ⟨A, off, none⟩) len K) (e : w'.heap[A]? = w.heap[A]?) : SReads w' (some ⟨A, off, none⟩) len K := by
  obtain ⟨h1, h2⟩ := h
  refine ⟨h1, h2.imp id ?_⟩
  rintro ⟨b, o, ha, hc⟩
  cases ha
  exact ⟨A, off, rfl, fun i hi => (World.cell?_of_block e).trans (hc i hi)⟩
theorem cut_len (x : Tx) : (Lib.cut x [61]).1.length ≤ x.length ∧ (Lib.cut x [61]).2.1.length ≤ x.length := by
  unfold Lib.cut
  split
  · simp
    omega
  · simp
set_option maxRecDepth 100000 in
set_option maxHeartbeats 2000000 in
theorem n_tableOf (kd : Int) (w : World) (ht : LdW w) : Calls Tryd.prog 18 #[.int .i64 kd] w (TabRes (wdT kd) w) := by
  have HX := Lib.hid (n_textOf kd)
  have HF := Lib.hid (s_Fields kd)
  have HC := Lib.hid s_Cut
  have HR := Lib.hid s_RepAll
  have hp := parts_of kd
  have hs : ∀ i, i < (Lib.fields (txT kd)).length → ((Lib.fields (txT kd)).getD i []).length ≤ 100 ∧ (cutP ((Lib.fields (txT kd)).getD i [])).1.length ≤ 100 := by
    intro i hi
    have e : (Lib.fields (txT kd)).getD i [] = (Lib.fields (txT kd))[i] := by rw [List.getD_eq_getElem?_getD, List.getElem?_eq_getElem hi]; rfl
    rw [e]
    refine ⟨by simpa using List.all_eq_true.1 (text_ascii kd).2.2 _ (List.getElem_mem hi), ?_⟩
    have hm : cutP ((Lib.fields (txT kd))[i]) ∈ wdT kd := by rw [← hp]; exact List.mem_map_of_mem (List.getElem_mem hi)
    exact (wd_short kd _ hm).1
  have hfew : (Lib.fields (txT kd)).length ≤ 51 := by have := wd_few kd; rw [← hp, List.length_map] at this; exact this
  rw [← hp]
  generalize Lib.fields (txT kd) = F at *
  generalize txT kd = X at *
  clear hp
  have HS := Lib.hid hs
  have HT := Lib.hid ht
  clear hs ht
  have hmm : ∀ (n : Int) (W : World), 0 ≤ n → (Instr.makeMap 37 (some (.int .i64 n))).run Tryd.prog W = .ok (.map (some W.heap.size)) (W.alloc (.map #[] 0)) := by
    intro n W hn
    rfl
  go_enter Tryd.func18, Tryd.ntmps18
  go_wp2_with fail
  refine (HX.out _).mono ?_; rintro e w' ⟨rfl, J, d, rfl⟩
  have HB0 := Lib.hid (show Below w.heap.size w (w.plus J d) by (repeat' first | with_reducible (first | apply Below.refl | assumption | apply bw_a | apply bw_d | apply bw_n | apply bw_p | apply bw_c | apply bw_r) | go_size))
  generalize w.plus J d = W0 at *
  go_wp2_with fail
  refine (HF.out _ (HT.out.below HB0.out)).mono ?_; rintro e w' ⟨rfl, rfl⟩
  have HR0 := Lib.hid (sreads_full W0 F (by omega))
  have hA := HB0.out.size
  have hA1 : W0.heap.size < (W0.alloc (.cells (scells F).toArray 9)).heap.size := by simp [go_sem]
  have HB1 := Lib.hid (show Below w.heap.size w (W0.alloc (.cells (scells F).toArray 9)) by have := HB0.out; (repeat' first | with_reducible (first | apply Below.refl | assumption | apply bw_a | apply bw_d | apply bw_n | apply bw_p | apply bw_c | apply bw_r) | go_size))
  generalize W0.alloc (.cells (scells F).toArray 9) = W1 at *
  generalize W0.heap.size = A at *
  clear HX HF HB0
  have h2 : 0 ≤ 2 * (F.length : Int) := by omega
  have h3 : (F.length : Int) ≤ 51 := by omega
  have hm2 := fun W => hmm (2 * (F.length : Int)) W h2
  go_wp2_with fail
  go_loopw [20] (fun i wr => ∃ k : Nat, k ≤ F.length ∧ i = .int .i64 (k : Int) ∧ MapW wr W1.heap.size (2 * k) (tabD ((F.map cutP).take k)) ∧ SReads wr (some ⟨A, 0, none⟩) F.length F ∧ Below w.heap.size w wr) (fun i _ => F.length - (intOf i).toNat)
  case atStart => exact ⟨0, Nat.zero_le _, rfl, World.ownsMap_made _ _ _ _, HR0.out.below (by (repeat' first | with_reducible (first | apply Below.refl | assumption | apply bw_a | apply bw_d | apply bw_n | apply bw_p | apply bw_c | apply bw_r) | go_size)), by have := HB1.out; (repeat' first | with_reducible (first | apply Below.refl | assumption | apply bw_a | apply bw_d | apply bw_n | apply bw_p | apply bw_c | apply bw_r) | go_size)⟩
  case round =>
    obtain ⟨k, hk, rfl, hown, hR, hb⟩ := hrel
    have HO := Lib.hid hown
    have HRr := Lib.hid hR
    have HB := Lib.hid hb
    clear hown hR hb
    by_cases hlt : k < F.length
    · obtain ⟨hl1, hl2⟩ := HS.out k hlt
      have hcell : wr.cell? ⟨A, k, none⟩ = some (sV (F.getD k [])) := by
        obtain ⟨_, hz | ⟨b, off, ha, hc⟩⟩ := HRr.out
        · omega
        · cases ha
          have := hc k hlt
          rwa [Nat.zero_add] at this
      have hst := Lib.hid (tab_step hlt)
      have HCf := Lib.hid (HC.out (F.getD k []) hl1)
      have hcl := cut_len (F.getD k [])
      have hcp : cutP (F.getD k []) = (Lib.replaceAll (Lib.cut (F.getD k []) [61]).1 [95] [32], (Lib.cut (F.getD k []) [61]).2.1) := rfl
      rw [hcp] at hst hl2
      clear hcp
      generalize F.getD k [] = f at *
      have HRf := Lib.hid (HR.out (Lib.cut f [61]).1 (by omega))
      generalize (Lib.cut f [61]).2.1 = x2 at *
      generalize (Lib.cut f [61]).1 = x1 at *
      generalize Lib.replaceAll x1 [95] [32] = y at *
      replace hl2 : y.length ≤ 100 := hl2
      go_wp2_with fail
      have hsw := HB.out.size
      refine (HCf.out _ (HT.out.below (by have := HB.out; (repeat' first | with_reducible (first | apply Below.refl | assumption | apply bw_a | apply bw_d | apply bw_n | apply bw_p | apply bw_c | apply bw_r) | go_size)))).mono ?_; rintro e w' ⟨⟨bb, rfl⟩, J1, d1, rfl⟩
      go_wp2_with fail
      refine (HRf.out _ (HT.out.below (by have := HB.out; (repeat' first | with_reducible (first | apply Below.refl | assumption | apply bw_a | apply bw_d | apply bw_n | apply bw_p | apply bw_c | apply bw_r) | go_size)))).mono ?_; rintro e w' ⟨rfl, J2, d2, rfl⟩
      have HB2 := Lib.hid (show Below wr.heap.size wr ((wr.plus J1 d1).plus J2 d2) by (repeat' first | with_reducible (first | apply Below.refl | assumption | apply bw_a | apply bw_d | apply bw_n | apply bw_p | apply bw_c | apply bw_r) | go_size))
      have HO2 := Lib.hid (HO.out.below HB2.out)
      have hs2 := HB2.out.size
      have hRs : W1.heap.size < wr.heap.size := World.ownsMap.lt HO.out
      have HB3 := Lib.hid (HB.out.trans (HB2.out.mono hsw))
      have HR2 := Lib.hid (HRr.out.below HB2.out)
      generalize (wr.plus J1 d1).plus J2 d2 = W2 at *
      have hE : W1.heap.size < W2.heap.size := by omega
      have hBE : Below W2.heap.size W2 (W2.alloc (.cells #[.string ⟨y.toArray⟩, .string ⟨x2.toArray⟩] 35)) := by (repeat' first | with_reducible (first | apply Below.refl | assumption | apply bw_a | apply bw_d | apply bw_n | apply bw_p | apply bw_c | apply bw_r) | go_size)
      obtain ⟨w3, hr3, ho3, hg3⟩ := World.ownsMap.update (t := 37) (HO2.out.below hBE) lawS Tryd.underlying37 (by unfold maxLen; omega) (key_of (x := y) (by omega)) (rv_at (y, x2))
      have hb3 : w3.heap[W2.heap.size]? = some (.cells #[.string ⟨y.toArray⟩, .string ⟨x2.toArray⟩] 35) := by
        rw [hg3.block W2.heap.size (by simp [go_sem]) (by intro e; injection e with e; omega)]
        exact (MapKept.heap_alloc W2 _).1
      obtain ⟨w4, hr4, ho4, hg4⟩ := World.ownsMap.update (t := 37) ho3 lawS Tryd.underlying37 (by unfold maxLen; omega) (key_of (x := x2) (by omega)) (rv_at (y, x2))
      have hr3' : (Instr.mapUpdate 37 (.map (some W1.heap.size)) (.string ⟨y.toArray⟩) (.agg #[.string ⟨y.toArray⟩, .string ⟨x2.toArray⟩])).run Tryd.prog (W2.alloc (.cells #[.string ⟨y.toArray⟩, .string ⟨x2.toArray⟩] 35)) = .ok () w3 := hr3
      have hr4' : (Instr.mapUpdate 37 (.map (some W1.heap.size)) (.string ⟨x2.toArray⟩) (.agg #[.string ⟨y.toArray⟩, .string ⟨x2.toArray⟩])).run Tryd.prog w3 = .ok () w4 := hr4
      have c0 : w3.cell? ⟨W2.heap.size, 0, none⟩ = some (.string ⟨y.toArray⟩) := by simp [World.cell?, hb3]
      have c1 : w3.cell? ⟨W2.heap.size, 1, none⟩ = some (.string ⟨x2.toArray⟩) := by simp [World.cell?, hb3]
      have HO4 := Lib.hid ho4
      have hbE : Below w.heap.size w (W2.alloc (.cells #[.string ⟨y.toArray⟩, .string ⟨x2.toArray⟩] 35)) := by have := HB3.out; (repeat' first | with_reducible (first | apply Below.refl | assumption | apply bw_a | apply bw_d | apply bw_n | apply bw_p | apply bw_c | apply bw_r) | go_size)
      have hb3w : Below w.heap.size w w3 := hbE.grown hg3 hbE.size (fun j hj => by cases hj; omega)
      have HB4 := Lib.hid (hb3w.grown hg4 hb3w.size (fun j hj => by cases hj; omega))
      have HR4 := Lib.hid (show SReads w4 (some ⟨A, 0, none⟩) F.length F by
        refine sreads_block (sreads_block (HR2.out.below hBE) (hg3.block A ?_ ?_)) (hg4.block A ?_ ?_)
        · have := hBE.size; omega
        · intro e; injection e with e; omega
        · have := hBE.size; have := hg3.size; omega
        · intro e; injection e with e; omega)
      clear hr3 hr4 ho3 ho4 hg3 hg4 hb3 hBE
      go_wp2_with fail
      go_roundw
      case rel => exact ⟨k + 1, by omega, by go_num, hst.out.symm ▸ HO4.out, HR4.out, HB4.out⟩
      case measure => simp [intOf]; omega
    · obtain rfl : k = F.length := by omega
      go_wp2_with fail
      go_ret
      exact tab_ret HO.out rfl (by omega) (junk_of_below HB.out)
end Go.Proofs.YtngjkmjejijfiaaDoor

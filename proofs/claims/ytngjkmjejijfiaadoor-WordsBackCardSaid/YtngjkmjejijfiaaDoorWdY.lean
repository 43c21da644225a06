/- Package words: All. -/
import Derived.Test.YtngjkmjejijfiaaDoorWdX
namespace Go.Proofs.YtngjkmjejijfiaaDoor
set_option linter.unusedVariables false
set_option linter.unusedSimpArgs false
open Go.RowKit Go.Maps

theorem nodup_len : ∀ {K L : List Tx}, K.Nodup → (∀ x ∈ K, x ∈ L) → K.length ≤ L.length
  | [], _, _, _ => Nat.zero_le _
  | x :: K, L, hn, hs => by
    obtain ⟨hx, hn'⟩ := List.nodup_cons.1 hn
    have hxL := hs x List.mem_cons_self
    have h1 := nodup_len (L := L.erase x) hn' fun y hy => by
      have hne : y ≠ x := fun e => hx (by rw [← e]; exact hy)
      exact (List.mem_erase_of_ne hne).2 (hs y (List.mem_cons_of_mem _ hy))
    rw [List.length_erase_of_mem hxL] at h1
    have := List.length_pos_of_mem hxL
    rw [List.length_cons]
    omega
theorem inva_few {k : Int} {K : List Tx} {left : Lit → Bool} (h : InvA (tabD (wdT k)) left K) : K.length ≤ 51 ∧ ShortS K ∧ ∀ x p, HasP (tabD (wdT k)) x p → p.1.length ≤ 100 ∧ p.2.length ≤ 100 ∧ x.length ≤ 100 := by
  have hm : ∀ x p, HasP (tabD (wdT k)) x p → shortW (wdT k) x = some p := fun x p hp => by
    cases hs : shortW (wdT k) x with
    | none => have := (at_none hs .nil).symm.trans (hp .nil); cases this
    | some q => exact congrArg some (hasp_one (at_some hs) hp)
  have hsub : ∀ x ∈ K, x ∈ (wdT k).map (·.2) := fun x hx => by
    obtain ⟨⟨p, hp, hx2⟩, _⟩ := (h.2 x).1 hx
    exact List.mem_map.2 ⟨p, (short_mem (hm x p hp)).1, hx2⟩
  have hlen : K.length ≤ ((wdT k).map (·.2)).length := nodup_len h.1 hsub
  refine ⟨by have := wd_few k; rw [List.length_map] at hlen; omega, fun x hx => ?_, fun x p hp => ?_⟩
  · obtain ⟨p, hp, rfl⟩ := List.mem_map.1 (hsub x hx)
    have := (wd_short k p hp).2
    omega
  · obtain ⟨h1, h2⟩ := short_mem (hm x p hp)
    obtain ⟨h3, h4⟩ := wd_short k p h1
    refine ⟨h3, h4, ?_⟩
    rcases h2 with rfl | rfl
    · exact h3
    · exact h4
def RelA (D : DataW Value) (w W1 : World) (b r n : Nat) (o : Value) (wr : World) : Prop :=
  ∃ left cnt K, wr.ranges Tryd.prog 9 Rv b r n D left cnt ∧ SFull wr W1.heap.size o K ∧ InvA D left K ∧ Below w.heap.size w wr ∧ W1.heap.size ≤ wr.heap.size
set_option maxRecDepth 100000 in
set_option maxHeartbeats 2000000 in
theorem n_wdAll (kd : Int) (w : World) (ht : LdW w) : Calls Tryd.prog 12 #[.int .i64 kd] w (AllRes (allW (wdT kd)) w) := by
  have HTb := Lib.hid (n_tableOf kd w ht)
  have HF := Lib.hid (fun K left (h : InvA (tabD (wdT kd)) left K) => inva_few h)
  have HE := Lib.hid (fun K left (h : InvA (tabD (wdT kd)) left K) => inva_end h)
  have HSo := Lib.hid s_Sort
  have HI0 := Lib.hid (inva_start (tabD (wdT kd)))
  generalize allW (wdT kd) = KA at *
  unfold TabRes at HTb
  generalize tabD (wdT kd) = D at *
  clear ht
  go_enter Tryd.func12, Tryd.ntmps12
  go_wp2_with fail
  refine (HTb.out).mono ?_; rintro e w' ⟨b, n, rfl, hb, hm, J, d, rfl⟩
  have HB0 := Lib.hid (show Below w.heap.size w (w.plus J d) by (repeat' first | with_reducible (first | apply Below.refl | assumption | apply bw_a | apply bw_d | apply bw_n | apply bw_p | apply bw_c | apply bw_r) | go_size))
  have hbs : b < (w.plus J d).heap.size := World.ownsMap.lt hm
  generalize w.plus J d = W0 at *
  obtain ⟨W1, hrn, hrg, hg1, hs1⟩ := World.ownsMap.range hm lawS Tryd.underlying37
  have HB1 := Lib.hid (HB0.out.grown hg1 HB0.out.size (fun j hj => by cases hj))
  have hW0 := HB0.out.size
  have HRG := Lib.hid hrg
  clear hm hrg hg1
  go_wp2_with fail
  generalize hr : W0.heap.size = r at *
  go_loopw [3] (fun o wr => RelA D w W1 b r n o wr) (fun _ wr => wr.rangeLeft b r)
  case atStart => exact ⟨_, _, [], HRG.out, sfull_nil _ _, HI0.out, HB1.out, Nat.le_refl _⟩
  case round =>
    obtain ⟨left, cnt, K, hrg, ho, hI, hB, hS⟩ := hrel
    have HRr := Lib.hid hrg
    have HO := Lib.hid ho
    have HI := Lib.hid hI
    have HB := Lib.hid hB
    obtain ⟨hfew, hsh, hpp⟩ := HF.out _ _ hI
    have HPP := Lib.hid hpp
    have hrk := hrg.left_eq
    rcases hrg.next lawS 0 with ⟨h0, hl0, hrun⟩ | ⟨key, v, kl, y, w2, cnt2, hkey, hlk, hv, hat, hrun, hrg2, hlt, hg2, hs2, hen⟩
    · clear hrg ho hI hB hpp
      have hlen := hfew
      go_wp2_with fail
      refine (HSo.out W1.heap.size _ K wr HO.out (by omega)).mono ?_; rintro e w' ⟨rfl, hf, hg⟩
      rw [HE.out _ _ HI.out hl0] at hf
      have hf2 := Lib.hid (hf.base (show w.heap.size ≤ W1.heap.size by omega))
      have hs0 := HB.out.size
      have HB2 := Lib.hid (HB.out.grown hg hs0 (fun j hj => by have := (HO.out.1.block j hj).1; omega))
      clear hf hg
      go_wp2
      go_ret
      exact ⟨_, rfl, hf2.out, junk_of_below HB2.out⟩
    · obtain ⟨x, rfl, rfl, hxl⟩ := Maps.keyOf_str Tryd.underlying9 hkey
      obtain ⟨⟨p1, p2⟩, rfl, rfl⟩ := rv_inv hv
      have hat : HasP D x (p1, p2) := hat
      have HA := Lib.hid hat
      obtain ⟨hp1, hp2, hx⟩ := HPP.out x (p1, p2) hat
      have hs0 := HB.out.size
      have HRG2 := Lib.hid hrg2
      have HO2 := Lib.hid (HO.out.kept hg2 (fun k hk e => by have := (HO.out.1.block k hk).1; injection e with e; omega))
      have HB2 := Lib.hid (HB.out.grown hg2 hs0 (fun j hj => by cases hj; omega))
      have hs3 := HB2.out.size
      have hrun' : (Instr.next (.pointer (some ⟨r, 0, none⟩)) false 0).run Tryd.prog wr = .ok (.tuple #[.bool true, .string ⟨x.toArray⟩, .agg #[.string ⟨p1.toArray⟩, .string ⟨p2.toArray⟩]]) w2 := hrun
      have hen' : (Instr.entry (.pointer (some ⟨r, 0, none⟩))).run Tryd.prog w2 = .ok (.tuple #[.string ⟨x.toArray⟩, .agg #[.string ⟨p1.toArray⟩, .string ⟨p2.toArray⟩]]) w2 := hen
      clear hrg ho hI hB hpp hrun hen hrg2 hat hv hkey
      by_cases hq : p2 = x
      · subst hq
        have HXS := Lib.hid (show ShortS [p2] from fun z hz => by rw [List.mem_singleton.1 hz]; omega)
        go_wp2_with (at_builtin; refine wpList_sapp rfl _ _ rfl W1.heap.size _ K rfl (HO2.out.below (by (repeat' first | with_reducible (first | apply Below.refl | assumption | apply bw_a | apply bw_d | apply bw_n | apply bw_p | apply bw_c | apply bw_r) | go_size))) ⟨_, 0, none⟩ 1 1 [p2] rfl (sreads_at _ _ (by simp [hs2]) p2) HXS.out (by omega) (by simp; omega) ?_; intro v' w' hown hg)
        have HRG3 := Lib.hid (((HRG2.out.alloc _).alloc _).kept hg (row_ne_low HO2.out.1 (by omega)) (row_ne_low HO2.out.1 (by omega)))
        have HB3 := Lib.hid (Below.grown (w := (w2.alloc (.cells #[.string ⟨p1.toArray⟩, .string ⟨p2.toArray⟩] 35)).alloc (.cells #[.string ⟨p2.toArray⟩] 9)) (show Below w.heap.size w _ by have := HB2.out; (repeat' first | with_reducible (first | apply Below.refl | assumption | apply bw_a | apply bw_d | apply bw_n | apply bw_p | apply bw_c | apply bw_r) | go_size)) hg (by simp; omega) (fun j hj => by have := (HO2.out.1.block j hj).1; omega))
        have hs4 := hg.size
        have HI3 := Lib.hid (inva_yes HI.out hlk HA.out rfl)
        go_roundw
        case rel => exact ⟨_, _, _, HRG3.out, hown, HI3.out, HB3.out, by simp at hs4; omega⟩
        case measure => rw [HRG3.out.left_eq, HRr.out.left_eq]; omega
      · have hne : (x == p2) = false := by simpa using fun e => hq e.symm
        have HRG3 := Lib.hid (HRG2.out.alloc (.cells #[.string ⟨p1.toArray⟩, .string ⟨p2.toArray⟩] 35))
        have HO3 := Lib.hid (show SFull (w2.alloc (.cells #[.string ⟨p1.toArray⟩, .string ⟨p2.toArray⟩] 35)) W1.heap.size _ K from HO2.out.below (by (repeat' first | with_reducible (first | apply Below.refl | assumption | apply bw_a | apply bw_d | apply bw_n | apply bw_p | apply bw_c | apply bw_r) | go_size)))
        have HB3 := Lib.hid (show Below w.heap.size w (w2.alloc (.cells #[.string ⟨p1.toArray⟩, .string ⟨p2.toArray⟩] 35)) by have := HB2.out; (repeat' first | with_reducible (first | apply Below.refl | assumption | apply bw_a | apply bw_d | apply bw_n | apply bw_p | apply bw_c | apply bw_r) | go_size))
        have HI3 := Lib.hid (inva_no HI.out HA.out hq)
        go_wp2_with fail
        go_roundw
        case rel => exact ⟨_, _, _, HRG3.out, HO3.out, HI3.out, HB3.out, by simp; omega⟩
        case measure => rw [HRG3.out.left_eq, HRr.out.left_eq]; omega
end Go.Proofs.YtngjkmjejijfiaaDoor

/- Contract of apportionref16's All. -/
import Derived.Test.YtngjkmjejijfiaaDoorWdB
namespace Go.Proofs.YtngjkmjejijfiaaDoor
set_option linter.unusedVariables false
set_option linter.unusedSimpArgs false
open Go.RowKit

theorem take_fold {α : Type} (f : α → Wd → α) (b : α) {T : List Wd} {k : Nat} (h : k < T.length) : (T.take (k + 1)).foldl f b = f ((T.take k).foldl f b) (T.getD k dZ) := by
  rw [List.take_succ_eq_append_getElem h, List.foldl_append, List.getD_eq_getElem?_getD, List.getElem?_eq_getElem h]
  rfl
def ShortD (T : List Wd) : Prop := ∀ p ∈ T, p.1.length ≤ 100 ∧ p.2.length ≤ 100
theorem wd_short (k : Int) : ShortD (wdT k) := by
  have : (wdT k).all (fun p => decide (p.1.length ≤ 100) && decide (p.2.length ≤ 100)) = true := by
    unfold wdT
    split
    · decide +kernel
    · split
      · decide +kernel
      · split
        · decide +kernel
        · split
          · decide +kernel
          · rfl
  intro p hp
  have h := List.all_eq_true.1 this p hp
  simpa using h
theorem selS_short {T : List Wd} (h : ShortD T) (o : List Tx) : ∀ b : Tx, b.length ≤ 100 → (T.foldl (selS o) b).length ≤ 100 := by
  induction T with
  | nil => intro b hb; exact hb
  | cons p T ih =>
    intro b hb
    refine ih (fun q hq => h q (List.mem_cons_of_mem _ hq)) _ ?_
    unfold selS
    split
    · exact (h p List.mem_cons_self).2
    · exact hb
theorem take_short {T : List Wd} (h : ShortD T) (k : Nat) : ShortD (T.take k) := fun p hp => h p (List.mem_of_mem_take hp)
def AllRes (K : List Tx) (w : World) (e : Ending) (w' : World) : Prop := ∃ v, e = .returned v ∧ SFull w' w.heap.size v K ∧ Junk w w'
def AOut (T : List Wd) (W0 : World) (o i : Value) (wr : World) : Prop := ∃ k : Nat, i = .int .i64 (k : Int) ∧ k ≤ T.length ∧ SFull wr W0.heap.size o (selN T k) ∧ Below W0.heap.size W0 wr
def AIn (T : List Wd) (D : List Tx) (W : World) (b i : Value) (wr : World) : Prop := ∃ k : Nat, i = .int .i64 (k : Int) ∧ k ≤ T.length ∧ b = sV ((T.take k).foldl (selS D) []) ∧ wr = W
theorem sel_yes {D : List Tx} {b : Tx} {p : Wd} (h1 : D = [] ∨ ltW (D.getLastD []) p.2 = true) (h2 : b = [] ∨ ltW p.2 b = true) : selS D b p = p.2 := by
  unfold selS
  rw [if_pos]
  rw [Bool.and_eq_true, Bool.or_eq_true, Bool.or_eq_true, decide_eq_true_eq, decide_eq_true_eq]
  exact ⟨h1, h2⟩
theorem sel_no1 {D : List Tx} {b : Tx} {p : Wd} (h1 : D ≠ []) (h2 : ltW (D.getLastD []) p.2 = false) : selS D b p = b := by
  unfold selS
  rw [if_neg]
  rw [h2, decide_eq_false h1]; simp
theorem sel_no2 {D : List Tx} {b : Tx} {p : Wd} (h1 : b ≠ []) (h2 : ltW p.2 b = false) : selS D b p = b := by
  unfold selS
  rw [if_neg]
  rw [h2, decide_eq_false h1]; simp
theorem last_at {D : List Tx} {m : Nat} (h : D.length = m + 1) : D.getLastD [] = D.getD m [] := by
  rw [List.getLastD_eq_getLast?, List.getLast?_eq_getElem?, List.getD_eq_getElem?_getD, h]
  rfl
set_option maxRecDepth 100000 in
set_option maxHeartbeats 4000000 in
theorem r_wdAll (kd : Int) (w : World) : Calls Tryd.prog 13 #[.int .i64 kd] w (AllRes (allW (wdT kd)) w) := by
  have HP := Lib.hid (fun W => r_wdPairs kd W)
  have HF := Lib.hid (wd_few kd)
  have HA := Lib.hid (sel_all kd)
  have HS := Lib.hid (wd_short kd)
  generalize wdT kd = T at *
  generalize allW T = K at *
  go_enter Tryd.func13, Tryd.ntmps13
  go_wp2_with fail
  refine (HP.out _).mono ?_; rintro e w' ⟨a, cap, rfl, hT, J, d, rfl⟩
  have HT := Lib.hid hT
  have HB0 := Lib.hid (show Below w.heap.size w (w.plus J d) by (repeat' first | with_reducible (first | apply Below.refl | assumption | apply bw_a | apply bw_d | apply bw_n | apply bw_p | apply bw_c | apply bw_r) | go_size))
  clear hT
  generalize w.plus J d = W0 at *
  go_wp2_with fail
  go_loopw [4, 5] (fun o i wr => AOut T W0 o i wr) (fun _ i _ => T.length - (intOf i).toNat)
  case atStart => exact ⟨0, rfl, Nat.zero_le _, sfull_nil _ _, Below.refl _ _⟩
  case round =>
    obtain ⟨n, rfl, hn, ho, hb⟩ := hrel
    have HO := Lib.hid ho
    have HB := Lib.hid hb
    have HTr := Lib.hid (HT.out.below hb)
    have hfew := HF.out
    obtain ⟨g, ca, rfl, hR, hna⟩ := sreads_of_owns ho.1
    have HR := Lib.hid hR
    rw [sel_len] at *
    have HL := Lib.hid (sel_len T n)
    clear ho hb hR hna
    by_cases hlt : n < T.length
    · have HNX := Lib.hid (show selN T (n + 1) = selN T n ++ [selR T (selN T n)] from rfl)
      generalize selN T n = D at *
      go_wp2_with fail
      go_loopw [6, 7] (fun b i wr' => AIn T D wr b i wr') (fun _ i _ => T.length - (intOf i).toNat)
      case atStart => exact ⟨0, rfl, Nat.zero_le _, rfl, rfl⟩
      case round =>
        obtain ⟨j, rfl, hj, rfl, rfl⟩ := hrel
        by_cases hjt : j < T.length
        · obtain ⟨b1, off, rfl, hc⟩ : ∃ b off, a = some ⟨b, off, none⟩ ∧ ∀ i, i < T.length → wr.cell? ⟨b, off + i * 2, none⟩ = some (sV (T.getD i dZ).1) ∧ wr.cell? ⟨b, off + i * 2 + 1, none⟩ = some (sV (T.getD i dZ).2) := HTr.out.2.resolve_left (by omega)
          obtain ⟨c1, c2⟩ := hc j hjt
          have HSt := Lib.hid (take_fold (selS D) [] hjt)
          clear hc
          generalize T.getD j dZ = p at *
          generalize (T.take j).foldl (selS D) [] = b at *
          obtain ⟨l, s⟩ := p
          simp only at c1 c2
          by_cases hn0 : n = 0
          · subst hn0
            obtain rfl : D = [] := List.eq_nil_of_length_eq_zero HL.out
            clear c1
            by_cases hb0 : b = []
            · subst hb0
              have HV := Lib.hid (sel_yes (D := []) (b := []) (p := (l, s)) (.inl rfl) (.inl rfl))
              go_wp2_with fail
              go_roundw
              case rel => exact ⟨j + 1, by go_num, by omega, by rw [HSt.out, HV.out], rfl⟩
              case measure => simp [intOf]; omega
            · have hb1 : (b == []) = false := beq_eq_false_iff_ne.2 hb0
              cases hlb : ltW s b with
              | true =>
                have HV := Lib.hid (sel_yes (D := []) (b := b) (p := (l, s)) (.inl rfl) (.inr hlb))
                have hlb : Go.Op.bytesLess s b = true := hlb
                clear hb0
                go_wp2_with fail
                go_roundw
                case rel => exact ⟨j + 1, by go_num, by omega, by rw [HSt.out, HV.out], rfl⟩
                case measure => simp [intOf]; omega
              | false =>
                have HV := Lib.hid (sel_no2 (D := []) (b := b) (p := (l, s)) hb0 hlb)
                have hlb : Go.Op.bytesLess s b = false := hlb
                clear hb0
                go_wp2_with fail
                go_roundw
                case rel => exact ⟨j + 1, by go_num, by omega, by rw [HSt.out, HV.out], rfl⟩
                case measure => simp [intOf]; omega
          · obtain ⟨m, hm⟩ : ∃ m, n = m + 1 := ⟨n - 1, by omega⟩
            have hmi : (n : Int) - 1 = (m : Int) := by omega
            have hmn : (m : Int) < (n : Int) := by omega
            have hmn2 : m < n := by omega
            obtain ⟨b2, o2, rfl, hc3⟩ : ∃ b off, g = some ⟨b, off, none⟩ ∧ ∀ i, i < n → wr.cell? ⟨b, off + i, none⟩ = some (sV (D.getD i [])) := HR.out.2.resolve_left (by omega)
            have c3 := hc3 m (by omega)
            have HLa := Lib.hid (last_at (HL.out.trans hm))
            have HDn := Lib.hid (show D ≠ [] from fun h => by have := HL.out; rw [h] at this; simp at this; omega)
            have e0 : ((n : Int) == 0) = false := beq_eq_false_iff_ne.2 (by omega)
            have hlt := lt_total s (D.getD m [])
            rw [← HLa.out] at hlt c3
            generalize hla : D.getLastD [] = la at *
            clear hc3 hn0 c1 hm
            cases h1 : ltW s la with
            | true =>
              rw [h1] at hlt
              have HV := Lib.hid (sel_no1 (D := D) (b := b) (p := (l, s)) HDn.out (by rw [hla, ← hlt]; rfl))
              have h1 : Go.Op.bytesLess s la = true := h1
              clear hlt hla
              go_wp2_with fail
              go_roundw
              case rel => exact ⟨j + 1, by go_num, by omega, by rw [HSt.out, HV.out], rfl⟩
              case measure => simp [intOf]; omega
            | false =>
              cases h2 : s == la with
              | true =>
                rw [h1, h2] at hlt
                have HV := Lib.hid (sel_no1 (D := D) (b := b) (p := (l, s)) HDn.out (by rw [hla, ← hlt]; rfl))
                have h1 : Go.Op.bytesLess s la = false := h1
                clear hlt hla
                go_wp2_with fail
                go_roundw
                case rel => exact ⟨j + 1, by go_num, by omega, by rw [HSt.out, HV.out], rfl⟩
                case measure => simp [intOf]; omega
              | false =>
                rw [h1, h2] at hlt
                have HGT := (show D = [] ∨ ltW (D.getLastD []) s = true from .inr (by rw [hla, ← hlt]; rfl))
                have h1 : Go.Op.bytesLess s la = false := h1
                have HGT := Lib.hid HGT
                clear hlt hla
                by_cases hb0 : b = []
                · subst hb0
                  have HV := Lib.hid (sel_yes (D := D) (b := []) (p := (l, s)) HGT.out (.inl rfl))
                  go_wp2_with fail
                  go_roundw
                  case rel => exact ⟨j + 1, by go_num, by omega, by rw [HSt.out, HV.out], rfl⟩
                  case measure => simp [intOf]; omega
                · have hb1 : (b == []) = false := beq_eq_false_iff_ne.2 hb0
                  cases hlb : ltW s b with
                  | true =>
                    have HV := Lib.hid (sel_yes (D := D) (b := b) (p := (l, s)) HGT.out (.inr hlb))
                    have hlb : Go.Op.bytesLess s b = true := hlb
                    clear hb0
                    go_wp2_with fail
                    go_roundw
                    case rel => exact ⟨j + 1, by go_num, by omega, by rw [HSt.out, HV.out], rfl⟩
                    case measure => simp [intOf]; omega
                  | false =>
                    have HV := Lib.hid (sel_no2 (D := D) (b := b) (p := (l, s)) hb0 hlb)
                    have hlb : Go.Op.bytesLess s b = false := hlb
                    clear hb0
                    go_wp2_with fail
                    go_roundw
                    case rel => exact ⟨j + 1, by go_num, by omega, by rw [HSt.out, HV.out], rfl⟩
                    case measure => simp [intOf]; omega
        · obtain rfl : j = T.length := by omega
          have HE := Lib.hid (show (T.take T.length).foldl (selS D) [] = selR T D by rw [List.take_length]; rfl)
          have HSH := Lib.hid (show ((T.take T.length).foldl (selS D) []).length ≤ 100 by rw [List.take_length]; exact selS_short HS.out D [] (Nat.zero_le _))
          generalize (T.take T.length).foldl (selS D) [] = b at *
          have HBS := Lib.hid (show ShortS [b] from fun x hx => by rw [List.mem_singleton.1 hx]; have := HSH.out; omega)
          have hsz := HB.out.size
          go_wp2_with (at_builtin; refine wpList_sapp rfl _ _ rfl W0.heap.size _ D rfl (HO.out.below (by (repeat' first | with_reducible (first | apply Below.refl | assumption | apply bw_a | apply bw_d | apply bw_n | apply bw_p | apply bw_c | apply bw_r) | go_size))) ⟨_, 0, none⟩ 1 1 [b] rfl (sreads_at _ _ (by simp) b) HBS.out (by have := HL.out; omega) (by simp; omega) ?_; intro v' w' hown hg)
          have HG := Lib.hid (show Below W0.heap.size W0 w' from (by
            have := HB.out
            exact Below.grown (w := wr.alloc (.cells #[.string ⟨b.toArray⟩] 9)) (by (repeat' first | with_reducible (first | apply Below.refl | assumption | apply bw_a | apply bw_d | apply bw_n | apply bw_p | apply bw_c | apply bw_r) | go_size)) hg (by simp; omega) (fun k hk => (HO.out.1.block k hk).1)))
          go_roundw
          case rel => exact ⟨n + 1, by go_num, by omega, by rw [HNX.out, ← HE.out]; exact hown, HG.out⟩
          case measure => simp [intOf]; omega
    · obtain rfl : n = T.length := by omega
      have hsz := HB0.out.size
      have hsz2 := HB.out.size
      have HE := Lib.hid (show Below w.heap.size w wr from HB0.out.trans (HB.out.mono hsz))
      go_wp2
      go_ret
      exact ⟨_, rfl, by rw [← HA.out]; exact HO.out.base hsz, junk_of_below HE.out⟩
end Go.Proofs.YtngjkmjejijfiaaDoor

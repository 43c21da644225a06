/- The law TokenLoose. -/
import Derived.Test.YtpoahdfhhnlghaaTlM
namespace Go.Proofs.Ytpoahdfhhnlghaa
set_option linter.unusedVariables false
set_option linter.unusedSimpArgs false
open Go.RowKit

/-- A letter turned. -/
def flipN (n : Nat) : Nat := if n < 97 then n + 32 else n - 32
theorem flip_bits {n : Nat} (h : letN n = true) : bits .xor .u8 (n : Int) 32 = (flipN n : Int) := by
  have hn : n < 256 := by unfold letN at h; simp at h; omega
  have hall : (List.range 256).all (fun n => !letN n || decide (bits .xor .u8 (n : Int) 32 = (flipN n : Int))) = true := by decide +kernel
  have := List.all_eq_true.1 hall n (List.mem_range.2 hn)
  rw [h] at this
  simpa using this
theorem flip_lt {n : Nat} (h : letN n = true) : flipN n < 256 ∧ flipN n ≠ 32 := by
  unfold letN at h; simp at h
  unfold flipN
  split <;> omega
theorem flip_up {c : UInt8} (h : letN c.toNat = true) : upB (UInt8.ofNat (flipN c.toNat)) = upB c := by
  apply UInt8.toNat_inj.1
  obtain ⟨h1, _⟩ := flip_lt h
  rw [up_n, up_n, UInt8.toNat_ofNat']
  rw [Nat.mod_eq_of_lt (by omega)]
  unfold letN at h; simp at h
  unfold upN flipN
  (repeat' split) <;> omega
theorem dbl_snoc (c : UInt8) : ∀ l : List UInt8, dblB (l ++ [c]) = dblB l ++ dblB [c]
  | [] => rfl
  | x :: l => by
    have ih := dbl_snoc c l
    show dblB (x :: (l ++ [c])) = _
    rw [show dblB (x :: (l ++ [c])) = if x = 32 then 32 :: 9 :: dblB (l ++ [c]) else x :: dblB (l ++ [c]) from rfl, ih]
    rw [show dblB (x :: l) = if x = 32 then 32 :: 9 :: dblB l else x :: dblB l from rfl]
    split <;> rfl
theorem ls_step {s D : List UInt8} {k : Nat} (hk : k < s.length) (h : D.map upB = (dblB (s.take k)).map upB) (z : UInt8) (hz : upB z = upB (s.getD k 0)) (hc : s.getD k 0 ≠ 32) : (D ++ [z]).map upB = (dblB (s.take (k + 1))).map upB := by
  rw [List.take_succ_eq_append_getElem hk, dbl_snoc, List.map_append, List.map_append, h]
  have e : s[k] = s.getD k 0 := by rw [List.getD_eq_getElem?_getD, List.getElem?_eq_getElem hk]; rfl
  rw [e]
  rw [show dblB [s.getD k 0] = [s.getD k 0] by unfold dblB; rw [if_neg hc]; rfl]
  simp [hz]
theorem ls_blank {s D : List UInt8} {k : Nat} (hk : k < s.length) (h : D.map upB = (dblB (s.take k)).map upB) (hc : s.getD k 0 = 32) : ((D ++ [32]) ++ [9]).map upB = (dblB (s.take (k + 1))).map upB := by
  rw [List.take_succ_eq_append_getElem hk, dbl_snoc, List.append_assoc, List.map_append, List.map_append, h]
  have e : s[k] = 32 := by rw [← hc, List.getD_eq_getElem?_getD, List.getElem?_eq_getElem hk]; rfl
  rw [e, List.map_append]; rfl
theorem lines_up {s t : List UInt8} (h : s.map upB = t.map upB) : (∀ c ∈ s, lineB c = true) ↔ ∀ c ∈ t, lineB c = true := by
  have one : ∀ {s t : List UInt8}, s.map upB = t.map upB → (∀ c ∈ s, lineB c = true) → ∀ c ∈ t, lineB c = true := by
    intro s t h hs c hc
    have h1 : upB c ∈ s.map upB := by rw [h]; exact List.mem_map.2 ⟨c, hc, rfl⟩
    obtain ⟨d, hd, he⟩ := List.mem_map.1 h1
    rw [← line_up, ← he, line_up]
    exact hs d hd
  exact ⟨one h, one h.symm⟩
theorem loose_y {s D : List UInt8} (hs : s.length ≤ 90) (hD : D.length ≤ 180) (h : D.map upB = (dblB s).map upB) : toks D = toks s ∧ (faultT D).1 = (faultT s).1 := by
  have h1 : toks D = toks s := by rw [toks_same h, toks_dbl]
  exact ⟨h1, (fault_same (by omega) (by omega) ((dbl_bytes s).symm.trans (lines_up h).symm) (by rw [h1])).symm⟩
theorem loose_z {s : List UInt8} (hs : s.length ≤ 90) (h : (faultT s).1 = 0) : toks (s.map upB ++ [46, 32]) = toks s ∧ (faultT (s.map upB ++ [46, 32])).1 = 0 := by
  have h1 : toks (s.map upB ++ [46, 32]) = toks s := by rw [toks_point, toks_up]
  obtain ⟨_, h2, h3⟩ := fine_iff.1 h
  refine ⟨h1, fine_iff.2 ⟨by simp; omega, fun c hc => ?_, by rw [h1]; exact h3⟩⟩
  rcases List.mem_append.1 hc with hc | hc
  · obtain ⟨d, hd, rfl⟩ := List.mem_map.1 hc
    rw [line_up]; exact h2 d hd
  · simp at hc
    rcases hc with rfl | rfl <;> decide
/-- A slice of bools. -/
structure OArg (w : World) (a : Option Addr) (n cap : Nat) (f : Nat → Bool) : Prop where
  reads : n = 0 ∨ ∃ b off, a = some ⟨b, off, none⟩ ∧ ∀ i, i < n → w.cell? ⟨b, off + i, none⟩ = some (.bool (f i))
/-- Between two rounds. -/
def LsAt (s : List UInt8) (w : World) (o i : Value) (wr : World) : Prop := ∃ (k : Nat) (D : List UInt8), i = .int .i64 (k : Int) ∧ k ≤ s.length ∧ BOwns wr w.heap.size o D ∧ D.map upB = (dblB (s.take k)).map upB ∧ D.length ≤ 2 * k ∧ Below w.heap.size w wr
set_option maxRecDepth 100000 in
set_option maxHeartbeats 8000000 in
theorem l_tokenLoose (s : List UInt8) (w : World) (hs : s.length ≤ 9223372036854775807) (a : Option Addr) (n cap : Nat) (t : Nat → Bool) (ho : OArg w a n cap t) (hn : n ≤ maxLen) : Calls Try.prog 7 #[.string ⟨s.toArray⟩, .slice a n cap] w fun e w' => e = .returned (.bool true) ∧ Junk w w' := by
  have HA := Lib.hid l_tkAwake
  by_cases h90 : 90 < s.length
  · clear ho hn
    go_enter Try.func7, Try.ntmps7
    go_wp2_with fail
    refine (HA.out _).mono ?_; rintro e w' ⟨rfl, J, d, rfl⟩
    go_wp2
    go_ret
    exact ⟨rfl, junk_of_below (by (repeat' first | with_reducible (first | apply Below.refl | assumption | apply bw_a | apply bw_d | apply bw_n | apply bw_p | apply bw_c | apply bw_r) | go_size))⟩
  have hl : s.length ≤ 90 := by omega
  have HO := Lib.hid ho.reads
  have HT1 := Lib.hid (fun W => p_tkTokens s W (by omega))
  have HT2 := Lib.hid (fun (D : List UInt8) (hD : D.length ≤ 180) W => p_tkTokens D W (by omega))
  have HU := Lib.hid (fun W => n_tkUpper s W (by omega))
  have ec : ∀ U : List UInt8, (⟨U.toArray⟩ : ByteArray) ++ ⟨#[46, 32]⟩ = ⟨(U ++ [46, 32]).toArray⟩ := fun U => by simp [ba_app]
  have HT3 := Lib.hid (fun W => (by rw [ec]; exact p_tkTokens (s.map upB ++ [46, 32]) W (by simp; omega) : Calls Try.prog 11 #[.string ((⟨(s.map upB).toArray⟩ : ByteArray) ++ ⟨#[46, 32]⟩)] W (TkP (s.map upB ++ [46, 32]) W)))
  have HLY := Lib.hid (fun (D : List UInt8) (hD : D.length ≤ 180) (h : D.map upB = (dblB s).map upB) => loose_y (s := s) hl hD h)
  have HLZ := Lib.hid (fun (h : (faultT s).1 = 0) => loose_z hl h)
  have hul : (s.map upB).length = s.length := by simp
  have hnm : (n : Int) ≤ 9223372036854775807 := by simp only [maxLen] at hn; omega
  clear ho hs h90 ec hn
  go_enter Try.func7, Try.ntmps7
  go_wp2_with fail
  refine (HA.out _).mono ?_; rintro e w0 ⟨rfl, hj⟩
  have HB0 := Lib.hid hj.below
  have hw0 := hj.below.size
  have HO0 := Lib.hid (show n = 0 ∨ ∃ b off, a = some ⟨b, off, none⟩ ∧ b < w0.heap.size ∧ ∀ i, i < n → w0.cell? ⟨b, off + i, none⟩ = some (.bool (t i)) from by
    by_cases h0 : n = 0
    · exact .inl h0
    · obtain ⟨b, off, e, h⟩ := HO.out.resolve_left h0
      have hb : b < w.heap.size := World.block_lt_of_cell? _ _ (h 0 (by omega))
      exact .inr ⟨b, off, e, by omega, fun i hi => (World.cell?_of_block (hj.below.block b hb)).trans (h i hi)⟩)
  clear hj HO
  go_wp2_with fail
  go_loopw [6, 7, 8] (fun o i _ wr => LsAt s w0 o i wr) (fun _ i _ _ => s.length - (intOf i).toNat)
  case atStart => exact ⟨0, [], rfl, Nat.zero_le _, bowns_nil _ _, rfl, Nat.zero_le _, Below.refl _ _⟩
  case round =>
    obtain ⟨k, D, rfl, hk, hown, hD, hDl, hb⟩ := hrel
    have HOw := Lib.hid hown; have HD := Lib.hid hD; have HBr := Lib.hid hb
    have hsz := hb.size
    clear hown hD hb
    by_cases hlt : k < s.length
    · have hB := byte_lt s k
      have HSt := Lib.hid (fun z hz hc => ls_step hlt HD.out z hz hc)
      have HBl := Lib.hid (fun hc => ls_blank hlt HD.out hc)
      have h1 : (s.getD k 0).toNat = byteAt s k := rfl
      have hc32 : s.getD k 0 = 32 ↔ byteAt s k = 32 := by rw [← h1, ← UInt8.toNat_inj]; rfl
      have HC32 := Lib.hid hc32
      have HONE := Lib.hid (fun (W : World) (m : Nat) (hm : m = W.heap.size) (z : UInt8) => (by subst hm; exact breads_one W z : BReads (W.alloc (.cells #[.int .u8 (z.toNat : Int)] 5)) (some ⟨m, 0, none⟩) 1 [z]))
      clear h1 hc32
      by_cases hkn : k < n
      · obtain ⟨b1, o1, rfl, hbs, hc⟩ := HO0.out.resolve_left (by omega)
        have c1 := (World.cell?_of_block (HBr.out.block b1 hbs)).trans (hc k hkn)
        have hbs2 : b1 < wr.heap.size := by omega
        clear hc
        cases ht : t k with
        | false =>
          rw [ht] at c1
          clear ht
          by_cases h32 : byteAt s k = 32
          · have HRZ := Lib.hid (fun (W : World) (m : Nat) (hm : m = W.heap.size) => HONE.out W m hm 32)
            have HR9 := Lib.hid (fun (W : World) (m : Nat) (hm : m = W.heap.size) => HONE.out W m hm 9)
            have hE : ((32 : UInt8).toNat : Int) = 32 := rfl
            have hE9 : ((9 : UInt8).toNat : Int) = 9 := rfl
            rw [hE] at HRZ
            rw [hE9] at HR9
            clear hE hE9
            go_wp2_with (first
              | (at_builtin; refine wpList_bapp rfl (.tmp 57) (.tmp 59) rfl w0.heap.size _ D rfl (HOw.out.below (by (repeat' first | with_reducible (first | apply Below.refl | assumption | apply bw_a | apply bw_d | apply bw_n | apply bw_p | apply bw_c | apply bw_r) | go_size))) (some ⟨_, 0, none⟩) 1 1 _ rfl (fun h => nomatch h) (HRZ.out _ _ (by simp)) (by omega) (by simp; omega) ?_; intro v4 w4 hown4 hg4; have HO4 := Lib.hid hown4; have HB4 := Lib.hid (show Below w0.heap.size w0 w4 from Below.grown (by have := HBr.out; (repeat' first | with_reducible (first | apply Below.refl | assumption | apply bw_a | apply bw_d | apply bw_n | apply bw_p | apply bw_c | apply bw_r) | go_size)) hg4 (by simp; omega) (fun k hk => HOw.out.block k hk)); have hs4 := HB4.out.size; clear hown4 hg4)
              | (at_builtin; refine wpList_bapp rfl (.tmp 63) (.tmp 64) rfl w0.heap.size _ (D ++ [32]) rfl (HO4.out.below (by (repeat' first | with_reducible (first | apply Below.refl | assumption | apply bw_a | apply bw_d | apply bw_n | apply bw_p | apply bw_c | apply bw_r) | go_size))) (some ⟨_, 0, none⟩) 1 1 _ rfl (fun h => nomatch h) (HR9.out _ _ (by simp)) (by simp; omega) (by simp; omega) ?_; intro v5 w5 hown5 hg5; have HO5 := Lib.hid hown5; have HB5 := Lib.hid (show Below w0.heap.size w0 w5 from Below.grown (by have := HB4.out; (repeat' first | with_reducible (first | apply Below.refl | assumption | apply bw_a | apply bw_d | apply bw_n | apply bw_p | apply bw_c | apply bw_r) | go_size)) hg5 (by simp; omega) (fun k hk => HO4.out.block k hk)); clear hown5 hg5))
            go_roundw
            case rel => exact ⟨k + 1, (D ++ [32]) ++ [9], by go_num, by omega, HO5.out, HBl.out (HC32.out.2 h32), by simp; omega, HB5.out⟩
            case measure => simp [intOf]; omega
          · have HH32 := Lib.hid h32
            have e32 : ((byteAt s k : Int) == 32) = false := by rw [beq_eq_false_iff_ne]; omega
            clear h32
            have HRZ := Lib.hid (fun (W : World) (m : Nat) (hm : m = W.heap.size) => HONE.out W m hm (s.getD k 0))
            have HR9 := Lib.hid (fun (W : World) (m : Nat) (hm : m = W.heap.size) => HONE.out W m hm 9)
            go_wp2_with (at_builtin; refine wpList_bapp rfl (.tmp 57) (.tmp 59) rfl w0.heap.size _ D rfl (HOw.out.below (by (repeat' first | with_reducible (first | apply Below.refl | assumption | apply bw_a | apply bw_d | apply bw_n | apply bw_p | apply bw_c | apply bw_r) | go_size))) (some ⟨_, 0, none⟩) 1 1 _ rfl (fun h => nomatch h) (HRZ.out _ _ (by simp)) (by omega) (by simp; omega) ?_; intro v4 w4 hown4 hg4; have HO4 := Lib.hid hown4; have HB4 := Lib.hid (show Below w0.heap.size w0 w4 from Below.grown (by have := HBr.out; (repeat' first | with_reducible (first | apply Below.refl | assumption | apply bw_a | apply bw_d | apply bw_n | apply bw_p | apply bw_c | apply bw_r) | go_size)) hg4 (by simp; omega) (fun k hk => HOw.out.block k hk)); have hs4 := HB4.out.size; clear hown4 hg4)
            go_roundw
            case rel => exact ⟨k + 1, D ++ [(s.getD k 0)], by go_num, by omega, HO4.out, HSt.out (s.getD k 0) rfl (fun h => HH32.out (HC32.out.1 h)), by simp; omega, HB4.out⟩
            case measure => simp [intOf]; omega
        | true =>
          rw [ht] at c1
          clear ht
          have hcase : (byteAt s k < 65) ∨ (65 ≤ byteAt s k ∧ byteAt s k ≤ 90) ∨ (90 < byteAt s k ∧ byteAt s k < 97) ∨ (97 ≤ byteAt s k ∧ byteAt s k ≤ 122) ∨ 122 < byteAt s k := by omega
          rcases hcase with q | ⟨q, q2⟩ | ⟨q, q2⟩ | ⟨q, q2⟩ | q
          · have d1 : decide (97 ≤ (byteAt s k : Int)) = false := decide_eq_false (by omega)
            have d2 : decide (65 ≤ (byteAt s k : Int)) = false := decide_eq_false (by omega)
            by_cases h32 : byteAt s k = 32
            · have HRZ := Lib.hid (fun (W : World) (m : Nat) (hm : m = W.heap.size) => HONE.out W m hm 32)
              have HR9 := Lib.hid (fun (W : World) (m : Nat) (hm : m = W.heap.size) => HONE.out W m hm 9)
              have hE : ((32 : UInt8).toNat : Int) = 32 := rfl
              have hE9 : ((9 : UInt8).toNat : Int) = 9 := rfl
              rw [hE] at HRZ
              rw [hE9] at HR9
              clear hE hE9
              go_wp2_with (first
                | (at_builtin; refine wpList_bapp rfl (.tmp 57) (.tmp 59) rfl w0.heap.size _ D rfl (HOw.out.below (by (repeat' first | with_reducible (first | apply Below.refl | assumption | apply bw_a | apply bw_d | apply bw_n | apply bw_p | apply bw_c | apply bw_r) | go_size))) (some ⟨_, 0, none⟩) 1 1 _ rfl (fun h => nomatch h) (HRZ.out _ _ (by simp)) (by omega) (by simp; omega) ?_; intro v4 w4 hown4 hg4; have HO4 := Lib.hid hown4; have HB4 := Lib.hid (show Below w0.heap.size w0 w4 from Below.grown (by have := HBr.out; (repeat' first | with_reducible (first | apply Below.refl | assumption | apply bw_a | apply bw_d | apply bw_n | apply bw_p | apply bw_c | apply bw_r) | go_size)) hg4 (by simp; omega) (fun k hk => HOw.out.block k hk)); have hs4 := HB4.out.size; clear hown4 hg4)
                | (at_builtin; refine wpList_bapp rfl (.tmp 63) (.tmp 64) rfl w0.heap.size _ (D ++ [32]) rfl (HO4.out.below (by (repeat' first | with_reducible (first | apply Below.refl | assumption | apply bw_a | apply bw_d | apply bw_n | apply bw_p | apply bw_c | apply bw_r) | go_size))) (some ⟨_, 0, none⟩) 1 1 _ rfl (fun h => nomatch h) (HR9.out _ _ (by simp)) (by simp; omega) (by simp; omega) ?_; intro v5 w5 hown5 hg5; have HO5 := Lib.hid hown5; have HB5 := Lib.hid (show Below w0.heap.size w0 w5 from Below.grown (by have := HB4.out; (repeat' first | with_reducible (first | apply Below.refl | assumption | apply bw_a | apply bw_d | apply bw_n | apply bw_p | apply bw_c | apply bw_r) | go_size)) hg5 (by simp; omega) (fun k hk => HO4.out.block k hk)); clear hown5 hg5))
              go_roundw
              case rel => exact ⟨k + 1, (D ++ [32]) ++ [9], by go_num, by omega, HO5.out, HBl.out (HC32.out.2 h32), by simp; omega, HB5.out⟩
              case measure => simp [intOf]; omega
            · have HH32 := Lib.hid h32
              have e32 : ((byteAt s k : Int) == 32) = false := by rw [beq_eq_false_iff_ne]; omega
              clear h32
              have HRZ := Lib.hid (fun (W : World) (m : Nat) (hm : m = W.heap.size) => HONE.out W m hm (s.getD k 0))
              have HR9 := Lib.hid (fun (W : World) (m : Nat) (hm : m = W.heap.size) => HONE.out W m hm 9)
              go_wp2_with (at_builtin; refine wpList_bapp rfl (.tmp 57) (.tmp 59) rfl w0.heap.size _ D rfl (HOw.out.below (by (repeat' first | with_reducible (first | apply Below.refl | assumption | apply bw_a | apply bw_d | apply bw_n | apply bw_p | apply bw_c | apply bw_r) | go_size))) (some ⟨_, 0, none⟩) 1 1 _ rfl (fun h => nomatch h) (HRZ.out _ _ (by simp)) (by omega) (by simp; omega) ?_; intro v4 w4 hown4 hg4; have HO4 := Lib.hid hown4; have HB4 := Lib.hid (show Below w0.heap.size w0 w4 from Below.grown (by have := HBr.out; (repeat' first | with_reducible (first | apply Below.refl | assumption | apply bw_a | apply bw_d | apply bw_n | apply bw_p | apply bw_c | apply bw_r) | go_size)) hg4 (by simp; omega) (fun k hk => HOw.out.block k hk)); have hs4 := HB4.out.size; clear hown4 hg4)
              go_roundw
              case rel => exact ⟨k + 1, D ++ [(s.getD k 0)], by go_num, by omega, HO4.out, HSt.out (s.getD k 0) rfl (fun h => HH32.out (HC32.out.1 h)), by simp; omega, HB4.out⟩
              case measure => simp [intOf]; omega
          · have d1 : decide (97 ≤ (byteAt s k : Int)) = false := decide_eq_false (by omega)
            have d2 : decide (65 ≤ (byteAt s k : Int)) = true := decide_eq_true (by omega)
            have d3 : decide ((byteAt s k : Int) ≤ 90) = true := decide_eq_true (by omega)
            have hlet : letN (byteAt s k) = true := by unfold letN; simp; omega
            have hfb := flip_bits hlet
            obtain ⟨hf1, hf2⟩ := flip_lt hlet
            have HFU := Lib.hid (flip_up (c := s.getD k 0) hlet)
            have hzt : (UInt8.ofNat (flipN (byteAt s k))).toNat = flipN (byteAt s k) := by rw [UInt8.toNat_ofNat']; exact Nat.mod_eq_of_lt (by omega)
            have e32 : ((flipN (byteAt s k) : Int) == 32) = false := by rw [beq_eq_false_iff_ne]; omega
            have h32 : byteAt s k ≠ 32 := by omega
            have HH32 := Lib.hid h32
            have HRZ0 := HONE.out
            have HRZ := Lib.hid (fun (W : World) (m : Nat) (hm : m = W.heap.size) => (by have h := HONE.out W m hm (UInt8.ofNat (flipN (byteAt s k))); rw [hzt] at h; exact h : BReads (W.alloc (.cells #[.int .u8 (flipN (byteAt s k) : Int)] 5)) (some ⟨m, 0, none⟩) 1 [UInt8.ofNat (flipN (byteAt s k))]))
            clear hlet hzt h32 HRZ0 hf1 hf2
            have HR9 := Lib.hid (fun (W : World) (m : Nat) (hm : m = W.heap.size) => HONE.out W m hm 9)
            go_wp2_with (at_builtin; refine wpList_bapp rfl (.tmp 57) (.tmp 59) rfl w0.heap.size _ D rfl (HOw.out.below (by (repeat' first | with_reducible (first | apply Below.refl | assumption | apply bw_a | apply bw_d | apply bw_n | apply bw_p | apply bw_c | apply bw_r) | go_size))) (some ⟨_, 0, none⟩) 1 1 _ rfl (fun h => nomatch h) (HRZ.out _ _ (by simp)) (by omega) (by simp; omega) ?_; intro v4 w4 hown4 hg4; have HO4 := Lib.hid hown4; have HB4 := Lib.hid (show Below w0.heap.size w0 w4 from Below.grown (by have := HBr.out; (repeat' first | with_reducible (first | apply Below.refl | assumption | apply bw_a | apply bw_d | apply bw_n | apply bw_p | apply bw_c | apply bw_r) | go_size)) hg4 (by simp; omega) (fun k hk => HOw.out.block k hk)); have hs4 := HB4.out.size; clear hown4 hg4)
            go_roundw
            case rel => exact ⟨k + 1, D ++ [(UInt8.ofNat (flipN (byteAt s k)))], by go_num, by omega, HO4.out, HSt.out (UInt8.ofNat (flipN (byteAt s k))) HFU.out (fun h => HH32.out (HC32.out.1 h)), by simp; omega, HB4.out⟩
            case measure => simp [intOf]; omega
          · have d1 : decide (97 ≤ (byteAt s k : Int)) = false := decide_eq_false (by omega)
            have d2 : decide (65 ≤ (byteAt s k : Int)) = true := decide_eq_true (by omega)
            have d3 : decide ((byteAt s k : Int) ≤ 90) = false := decide_eq_false (by omega)
            have h32 : byteAt s k ≠ 32 := by omega
            have HH32 := Lib.hid h32
            have e32 : ((byteAt s k : Int) == 32) = false := by rw [beq_eq_false_iff_ne]; omega
            clear h32
            have HRZ := Lib.hid (fun (W : World) (m : Nat) (hm : m = W.heap.size) => HONE.out W m hm (s.getD k 0))
            have HR9 := Lib.hid (fun (W : World) (m : Nat) (hm : m = W.heap.size) => HONE.out W m hm 9)
            go_wp2_with (at_builtin; refine wpList_bapp rfl (.tmp 57) (.tmp 59) rfl w0.heap.size _ D rfl (HOw.out.below (by (repeat' first | with_reducible (first | apply Below.refl | assumption | apply bw_a | apply bw_d | apply bw_n | apply bw_p | apply bw_c | apply bw_r) | go_size))) (some ⟨_, 0, none⟩) 1 1 _ rfl (fun h => nomatch h) (HRZ.out _ _ (by simp)) (by omega) (by simp; omega) ?_; intro v4 w4 hown4 hg4; have HO4 := Lib.hid hown4; have HB4 := Lib.hid (show Below w0.heap.size w0 w4 from Below.grown (by have := HBr.out; (repeat' first | with_reducible (first | apply Below.refl | assumption | apply bw_a | apply bw_d | apply bw_n | apply bw_p | apply bw_c | apply bw_r) | go_size)) hg4 (by simp; omega) (fun k hk => HOw.out.block k hk)); have hs4 := HB4.out.size; clear hown4 hg4)
            go_roundw
            case rel => exact ⟨k + 1, D ++ [(s.getD k 0)], by go_num, by omega, HO4.out, HSt.out (s.getD k 0) rfl (fun h => HH32.out (HC32.out.1 h)), by simp; omega, HB4.out⟩
            case measure => simp [intOf]; omega
          · have d1 : decide (97 ≤ (byteAt s k : Int)) = true := decide_eq_true (by omega)
            have d4 : decide ((byteAt s k : Int) ≤ 122) = true := decide_eq_true (by omega)
            have hlet : letN (byteAt s k) = true := by unfold letN; simp; omega
            have hfb := flip_bits hlet
            obtain ⟨hf1, hf2⟩ := flip_lt hlet
            have HFU := Lib.hid (flip_up (c := s.getD k 0) hlet)
            have hzt : (UInt8.ofNat (flipN (byteAt s k))).toNat = flipN (byteAt s k) := by rw [UInt8.toNat_ofNat']; exact Nat.mod_eq_of_lt (by omega)
            have e32 : ((flipN (byteAt s k) : Int) == 32) = false := by rw [beq_eq_false_iff_ne]; omega
            have h32 : byteAt s k ≠ 32 := by omega
            have HH32 := Lib.hid h32
            have HRZ0 := HONE.out
            have HRZ := Lib.hid (fun (W : World) (m : Nat) (hm : m = W.heap.size) => (by have h := HONE.out W m hm (UInt8.ofNat (flipN (byteAt s k))); rw [hzt] at h; exact h : BReads (W.alloc (.cells #[.int .u8 (flipN (byteAt s k) : Int)] 5)) (some ⟨m, 0, none⟩) 1 [UInt8.ofNat (flipN (byteAt s k))]))
            clear hlet hzt h32 HRZ0 hf1 hf2
            have HR9 := Lib.hid (fun (W : World) (m : Nat) (hm : m = W.heap.size) => HONE.out W m hm 9)
            go_wp2_with (at_builtin; refine wpList_bapp rfl (.tmp 57) (.tmp 59) rfl w0.heap.size _ D rfl (HOw.out.below (by (repeat' first | with_reducible (first | apply Below.refl | assumption | apply bw_a | apply bw_d | apply bw_n | apply bw_p | apply bw_c | apply bw_r) | go_size))) (some ⟨_, 0, none⟩) 1 1 _ rfl (fun h => nomatch h) (HRZ.out _ _ (by simp)) (by omega) (by simp; omega) ?_; intro v4 w4 hown4 hg4; have HO4 := Lib.hid hown4; have HB4 := Lib.hid (show Below w0.heap.size w0 w4 from Below.grown (by have := HBr.out; (repeat' first | with_reducible (first | apply Below.refl | assumption | apply bw_a | apply bw_d | apply bw_n | apply bw_p | apply bw_c | apply bw_r) | go_size)) hg4 (by simp; omega) (fun k hk => HOw.out.block k hk)); have hs4 := HB4.out.size; clear hown4 hg4)
            go_roundw
            case rel => exact ⟨k + 1, D ++ [(UInt8.ofNat (flipN (byteAt s k)))], by go_num, by omega, HO4.out, HSt.out (UInt8.ofNat (flipN (byteAt s k))) HFU.out (fun h => HH32.out (HC32.out.1 h)), by simp; omega, HB4.out⟩
            case measure => simp [intOf]; omega
          · have d1 : decide (97 ≤ (byteAt s k : Int)) = true := decide_eq_true (by omega)
            have d4 : decide ((byteAt s k : Int) ≤ 122) = false := decide_eq_false (by omega)
            have d2 : decide (65 ≤ (byteAt s k : Int)) = true := decide_eq_true (by omega)
            have d3 : decide ((byteAt s k : Int) ≤ 90) = false := decide_eq_false (by omega)
            have h32 : byteAt s k ≠ 32 := by omega
            have HH32 := Lib.hid h32
            have e32 : ((byteAt s k : Int) == 32) = false := by rw [beq_eq_false_iff_ne]; omega
            clear h32
            have HRZ := Lib.hid (fun (W : World) (m : Nat) (hm : m = W.heap.size) => HONE.out W m hm (s.getD k 0))
            have HR9 := Lib.hid (fun (W : World) (m : Nat) (hm : m = W.heap.size) => HONE.out W m hm 9)
            go_wp2_with (at_builtin; refine wpList_bapp rfl (.tmp 57) (.tmp 59) rfl w0.heap.size _ D rfl (HOw.out.below (by (repeat' first | with_reducible (first | apply Below.refl | assumption | apply bw_a | apply bw_d | apply bw_n | apply bw_p | apply bw_c | apply bw_r) | go_size))) (some ⟨_, 0, none⟩) 1 1 _ rfl (fun h => nomatch h) (HRZ.out _ _ (by simp)) (by omega) (by simp; omega) ?_; intro v4 w4 hown4 hg4; have HO4 := Lib.hid hown4; have HB4 := Lib.hid (show Below w0.heap.size w0 w4 from Below.grown (by have := HBr.out; (repeat' first | with_reducible (first | apply Below.refl | assumption | apply bw_a | apply bw_d | apply bw_n | apply bw_p | apply bw_c | apply bw_r) | go_size)) hg4 (by simp; omega) (fun k hk => HOw.out.block k hk)); have hs4 := HB4.out.size; clear hown4 hg4)
            go_roundw
            case rel => exact ⟨k + 1, D ++ [(s.getD k 0)], by go_num, by omega, HO4.out, HSt.out (s.getD k 0) rfl (fun h => HH32.out (HC32.out.1 h)), by simp; omega, HB4.out⟩
            case measure => simp [intOf]; omega
      · 
        by_cases h32 : byteAt s k = 32
        · have HRZ := Lib.hid (fun (W : World) (m : Nat) (hm : m = W.heap.size) => HONE.out W m hm 32)
          have HR9 := Lib.hid (fun (W : World) (m : Nat) (hm : m = W.heap.size) => HONE.out W m hm 9)
          have hE : ((32 : UInt8).toNat : Int) = 32 := rfl
          have hE9 : ((9 : UInt8).toNat : Int) = 9 := rfl
          rw [hE] at HRZ
          rw [hE9] at HR9
          clear hE hE9
          go_wp2_with (first
            | (at_builtin; refine wpList_bapp rfl (.tmp 57) (.tmp 59) rfl w0.heap.size _ D rfl (HOw.out.below (by (repeat' first | with_reducible (first | apply Below.refl | assumption | apply bw_a | apply bw_d | apply bw_n | apply bw_p | apply bw_c | apply bw_r) | go_size))) (some ⟨_, 0, none⟩) 1 1 _ rfl (fun h => nomatch h) (HRZ.out _ _ (by simp)) (by omega) (by simp; omega) ?_; intro v4 w4 hown4 hg4; have HO4 := Lib.hid hown4; have HB4 := Lib.hid (show Below w0.heap.size w0 w4 from Below.grown (by have := HBr.out; (repeat' first | with_reducible (first | apply Below.refl | assumption | apply bw_a | apply bw_d | apply bw_n | apply bw_p | apply bw_c | apply bw_r) | go_size)) hg4 (by simp; omega) (fun k hk => HOw.out.block k hk)); have hs4 := HB4.out.size; clear hown4 hg4)
            | (at_builtin; refine wpList_bapp rfl (.tmp 63) (.tmp 64) rfl w0.heap.size _ (D ++ [32]) rfl (HO4.out.below (by (repeat' first | with_reducible (first | apply Below.refl | assumption | apply bw_a | apply bw_d | apply bw_n | apply bw_p | apply bw_c | apply bw_r) | go_size))) (some ⟨_, 0, none⟩) 1 1 _ rfl (fun h => nomatch h) (HR9.out _ _ (by simp)) (by simp; omega) (by simp; omega) ?_; intro v5 w5 hown5 hg5; have HO5 := Lib.hid hown5; have HB5 := Lib.hid (show Below w0.heap.size w0 w5 from Below.grown (by have := HB4.out; (repeat' first | with_reducible (first | apply Below.refl | assumption | apply bw_a | apply bw_d | apply bw_n | apply bw_p | apply bw_c | apply bw_r) | go_size)) hg5 (by simp; omega) (fun k hk => HO4.out.block k hk)); clear hown5 hg5))
          go_roundw
          case rel => exact ⟨k + 1, (D ++ [32]) ++ [9], by go_num, by omega, HO5.out, HBl.out (HC32.out.2 h32), by simp; omega, HB5.out⟩
          case measure => simp [intOf]; omega
        · have HH32 := Lib.hid h32
          have e32 : ((byteAt s k : Int) == 32) = false := by rw [beq_eq_false_iff_ne]; omega
          clear h32
          have HRZ := Lib.hid (fun (W : World) (m : Nat) (hm : m = W.heap.size) => HONE.out W m hm (s.getD k 0))
          have HR9 := Lib.hid (fun (W : World) (m : Nat) (hm : m = W.heap.size) => HONE.out W m hm 9)
          go_wp2_with (at_builtin; refine wpList_bapp rfl (.tmp 57) (.tmp 59) rfl w0.heap.size _ D rfl (HOw.out.below (by (repeat' first | with_reducible (first | apply Below.refl | assumption | apply bw_a | apply bw_d | apply bw_n | apply bw_p | apply bw_c | apply bw_r) | go_size))) (some ⟨_, 0, none⟩) 1 1 _ rfl (fun h => nomatch h) (HRZ.out _ _ (by simp)) (by omega) (by simp; omega) ?_; intro v4 w4 hown4 hg4; have HO4 := Lib.hid hown4; have HB4 := Lib.hid (show Below w0.heap.size w0 w4 from Below.grown (by have := HBr.out; (repeat' first | with_reducible (first | apply Below.refl | assumption | apply bw_a | apply bw_d | apply bw_n | apply bw_p | apply bw_c | apply bw_r) | go_size)) hg4 (by simp; omega) (fun k hk => HOw.out.block k hk)); have hs4 := HB4.out.size; clear hown4 hg4)
          go_roundw
          case rel => exact ⟨k + 1, D ++ [(s.getD k 0)], by go_num, by omega, HO4.out, HSt.out (s.getD k 0) rfl (fun h => HH32.out (HC32.out.1 h)), by simp; omega, HB4.out⟩
          case measure => simp [intOf]; omega
    · obtain rfl : k = s.length := by omega
      have hD2 : D.map upB = (dblB s).map upB := by have := HD.out; rwa [List.take_of_length_le (Nat.le_refl _)] at this
      have hD180 : D.length ≤ 180 := by omega
      obtain ⟨hy1, hy2⟩ := HLY.out D hD180 hD2
      have HBw := Lib.hid (HB0.out.trans (HBr.out.mono hw0))
      obtain ⟨aD, capD, rfl, hRD, _⟩ := breads_of_owns HOw.out
      have HCV := Lib.hid (fun W (h : Below wr.heap.size wr W) => conv_row (cap := capD) (hRD.below h))
      have HT2D := Lib.hid (HT2.out D hD180)
      have tl1 := told_len s
      have tf1 := told_fine (s := s)
      have tf2 := told_fine (s := D)
      have tf3 := told_fine (s := s.map upB ++ [46, 32])
      have tl2 := told_len D
      have tl3 := told_len (s.map upB ++ [46, 32])
      rw [hy1] at tf2
      have hLZ := HLZ.out
      have HTT1 := Lib.hid (HT1.out)
      have HTT3 := Lib.hid (HT3.out)
      unfold TkP at HTT1 HT2D HTT3
      clear hRD hD2 HOw HD HT1 HT2 HT3 HLY HLZ HO0 hy1
      generalize toldT s = X at *
      generalize toldT D = Y at *
      generalize toldT (s.map upB ++ [46, 32]) = Z at *
      generalize toks (s.map upB ++ [46, 32]) = Z' at *
      generalize toks s = X' at *
      generalize ((faultT s).2 : Int) = g1 at *
      generalize ((faultT D).2 : Int) = g2 at *
      generalize ((faultT (s.map upB ++ [46, 32])).2 : Int) = g3 at *
      generalize (faultT (s.map upB ++ [46, 32])).1 = f3 at *
      generalize (faultT s).1 = f1 at *
      generalize (faultT D).1 = f2 at *
      generalize s.map upB = U at *
      replace hy2 := hy2.symm
      subst hy2
      have HS := Lib.hid (fun W a1 a2 cap1 cap2 (m n : Nat) (hm : m ≤ 100) (hn : n ≤ 100) (h : TReads W a1 m X) (h2 : TReads W a2 n X) => (k_SameTokens W a1 a2 m n cap1 cap2 X X h h2 (by omega) (by omega)).mono fun e w' h => (⟨by rw [h.1, decide_eq_true rfl], h.2⟩ : e = .returned (.bool true) ∧ Junk W w'))
      have hulen : U.length + 2 ≤ 9223372036854775807 := by omega
      go_wp2_with fail
      refine (HTT1.out _).mono ?_; rintro e w' ⟨a1, cap1, J1, d1, rfl, rfl, hr1, ho1, hn1⟩
      go_wp2_with fail
      have hr1 := hr1.below (w' := (wr.plus J1 d1).alloc (.cells #[.int .i64 f1, .int .i64 g1] 25)) (by (repeat' first | with_reducible (first | apply Below.refl | assumption | apply bw_a | apply bw_d | apply bw_n | apply bw_p | apply bw_c | apply bw_r) | go_size))
      have hf1 := fla_new (wr.plus J1 d1) (wr.heap.size + J1.size) (by simp) f1 g1
      have hb1 : Below wr.heap.size wr ((wr.plus J1 d1).alloc (.cells #[.int .i64 f1, .int .i64 g1] 25)) := by (repeat' first | with_reducible (first | apply Below.refl | assumption | apply bw_a | apply bw_d | apply bw_n | apply bw_p | apply bw_c | apply bw_r) | go_size)
      have hN1 := Lib.hid hn1
      clear ho1 hn1
      generalize (wr.plus J1 d1).alloc (.cells #[.int .i64 f1, .int .i64 g1] 25) = W1 at *
      generalize wr.heap.size + J1.size = p1 at *
      have HR1 := Lib.hid hr1
      have HF1 := Lib.hid hf1
      have HB1 := Lib.hid hb1
      clear hr1 hf1 hb1
      rw [HCV.out _ HB1.out]
      simp only [Result.andThen]
      rw [Oper.upon_value]
      go_wp2_with fail
      refine (HT2D.out _).mono ?_; rintro e w' ⟨a2, cap2, J2, d2, rfl, rfl, hr2, ho2, hn2⟩
      go_wp2_with fail
      have hr2 := hr2.below (w' := (W1.plus J2 d2).alloc (.cells #[.int .i64 f1, .int .i64 g2] 25)) (by (repeat' first | with_reducible (first | apply Below.refl | assumption | apply bw_a | apply bw_d | apply bw_n | apply bw_p | apply bw_c | apply bw_r) | go_size))
      have hf2 := fla_new (W1.plus J2 d2) (W1.heap.size + J2.size) (by simp) f1 g2
      have hb2 : Below W1.heap.size W1 ((W1.plus J2 d2).alloc (.cells #[.int .i64 f1, .int .i64 g2] 25)) := by (repeat' first | with_reducible (first | apply Below.refl | assumption | apply bw_a | apply bw_d | apply bw_n | apply bw_p | apply bw_c | apply bw_r) | go_size)
      have hN2 := Lib.hid hn2
      clear ho2 hn2
      generalize (W1.plus J2 d2).alloc (.cells #[.int .i64 f1, .int .i64 g2] 25) = W2 at *
      generalize W1.heap.size + J2.size = p2 at *
      have HR2 := Lib.hid hr2
      have HF2 := Lib.hid hf2
      have HB2 := Lib.hid hb2
      clear hr2 hf2 hb2
      refine (HU.out _).mono ?_; rintro e w3 ⟨rfl, hj⟩
      have hb23 := HB2.out.trans (hj.below.mono HB2.out.size)
      have HF13 := Lib.hid (HF1.out.below hb23)
      have HF23 := Lib.hid (HF2.out.below hj.below)
      have HR13 := Lib.hid (HR1.out.below hb23)
      have HR23 := Lib.hid (HR2.out.below hj.below)
      have HBw3 := Lib.hid (HBw.out.trans ((HB1.out.trans (hb23.mono HB1.out.size)).mono HBw.out.size))
      clear hj hb23
      go_wp2_with fail
      refine (HTT3.out _).mono ?_; rintro e W4 ⟨a4, cap4, J4, d4, rfl, hw4, hR4, _, _⟩
      rw [← hw4] at hR4
      have hb4 : Below w3.heap.size w3 W4 := Junk.below ⟨J4, d4, hw4⟩
      have HBw4 := Lib.hid (HBw3.out.trans (hb4.mono HBw3.out.size))
      obtain ⟨c10, c11, q1⟩ := HF13.out.below hb4
      obtain ⟨c20, c21, q2⟩ := HF23.out.below hb4
      have HR14 := Lib.hid (HR13.out.below hb4)
      have HR24 := Lib.hid (HR23.out.below hb4)
      have HR4 := Lib.hid hR4
      have hws := HBw4.out.size
      clear hR4 hb4 hw4
      by_cases e1 : f1 = 0
      · subst e1
        obtain ⟨hz1, rfl⟩ := hLZ rfl
        obtain rfl := tf1 rfl
        obtain rfl := tf2 rfl
        obtain rfl := (tf3 rfl).trans hz1
        clear tf1 tf2 tf3 hLZ hz1
        go_wp2_with fail
        refine (HS.out _ _ _ _ _ _ _ (by omega) (by omega) (HR14.out.below (by (repeat' first | with_reducible (first | apply Below.refl | assumption | apply bw_a | apply bw_d | apply bw_n | apply bw_p | apply bw_c | apply bw_r) | go_size))) (HR24.out.below (by (repeat' first | with_reducible (first | apply Below.refl | assumption | apply bw_a | apply bw_d | apply bw_n | apply bw_p | apply bw_c | apply bw_r) | go_size)))).mono ?_; rintro e w' ⟨rfl, J6, d6, rfl⟩
        go_wp2_with fail
        refine (HS.out _ _ _ _ _ _ _ (by omega) (by omega) (HR14.out.below (by (repeat' first | with_reducible (first | apply Below.refl | assumption | apply bw_a | apply bw_d | apply bw_n | apply bw_p | apply bw_c | apply bw_r) | go_size))) (HR4.out.below (by (repeat' first | with_reducible (first | apply Below.refl | assumption | apply bw_a | apply bw_d | apply bw_n | apply bw_p | apply bw_c | apply bw_r) | go_size)))).mono ?_; rintro e w' ⟨rfl, J7, d7, rfl⟩
        go_wp2
        go_ret
        exact ⟨rfl, junk_of_below (by have := HBw4.out; (repeat' first | with_reducible (first | apply Below.refl | assumption | apply bw_a | apply bw_d | apply bw_n | apply bw_p | apply bw_c | apply bw_r) | go_size))⟩
      · have n1 : (f1 != 0) = true := bne_iff_ne.2 e1
        clear e1 tf1 tf2 tf3 hLZ
        go_wp2
        go_ret
        exact ⟨rfl, junk_of_below (by have := HBw4.out; (repeat' first | with_reducible (first | apply Below.refl | assumption | apply bw_a | apply bw_d | apply bw_n | apply bw_p | apply bw_c | apply bw_r) | go_size))⟩
end Go.Proofs.Ytpoahdfhhnlghaa

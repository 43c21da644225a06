/- Package words: Short, Long. -/
import Derived.Test.YtngjkmjejijfiaaDoorWdV
namespace Go.Proofs.YtngjkmjejijfiaaDoor
set_option linter.unusedVariables false
set_option linter.unusedSimpArgs false
open Go.RowKit Go.Maps

theorem zero_entry (w : World) : (zeroValue 35).run Tryd.prog w = .ok (.agg #[.string ⟨#[]⟩, .string ⟨#[]⟩]) w := by kernel_rfl
theorem look_yes {w : World} {b n : Nat} {D : DataW Value} (h : MapW w b n D) {x : Tx} (hx : x.length ≤ 2000) {p : Wd} (hat : ∀ z, D.atKey (kL x) z = .held (eV p)) :
    (Instr.lookup 37 (.map (some b)) (.string ⟨x.toArray⟩) true).run Tryd.prog w = .ok (.tuple #[.agg #[.string ⟨p.1.toArray⟩, .string ⟨p.2.toArray⟩], .bool true]) w := by
  obtain ⟨es, clock, hb, F, hs, rfl⟩ := h
  rcases Maps.fit_look true lawS Tryd.underlying37 (zero_entry w) hb F (key_of hx) with ⟨hrun, _, h2⟩ | ⟨e0, y, _, _, hrun, hRv, h2, _⟩
  · have := (h2 .nil).symm.trans (hat .nil)
    cases this
  · obtain ⟨q, hq, rfl⟩ := rv_inv hRv
    have := (h2 .nil).symm.trans (hat .nil)
    replace this := DataW.held.inj this
    rw [hrun, this]
    rfl
theorem look_no {w : World} {b n : Nat} {D : DataW Value} (h : MapW w b n D) {x : Tx} (hx : x.length ≤ 2000) (hat : ∀ z, D.atKey (kL x) z = z) :
    (Instr.lookup 37 (.map (some b)) (.string ⟨x.toArray⟩) true).run Tryd.prog w = .ok (.tuple #[.agg #[.string ⟨#[]⟩, .string ⟨#[]⟩], .bool false]) w := by
  obtain ⟨es, clock, hb, F, hs, rfl⟩ := h
  rcases Maps.fit_look true lawS Tryd.underlying37 (zero_entry w) hb F (key_of hx) with ⟨hrun, _, h2⟩ | ⟨e0, y, _, _, hrun, hRv, h2, _⟩
  · rw [hrun]; rfl
  · obtain ⟨q, hq, rfl⟩ := rv_inv hRv
    have := (h2 .nil).symm.trans (hat .nil)
    cases this
theorem at_some {k : Int} {x : Tx} {p : Wd} (h : shortW (wdT k) x = some p) (z : DataW Value) : (tabD (wdT k)).atKey (kL x) z = .held (eV p) := by rw [tab_short, h]
theorem at_none {k : Int} {x : Tx} (h : shortW (wdT k) x = none) (z : DataW Value) : (tabD (wdT k)).atKey (kL x) z = z := by rw [tab_short, h]
theorem tS_some {T : List Wd} {x : Tx} {p : Wd} (h : shortW T x = some p) : tellS T x = (p.2, true) := by unfold tellS; rw [h]
theorem tS_none {T : List Wd} {x : Tx} (h : shortW T x = none) : tellS T x = ([], false) := by unfold tellS; rw [h]
theorem tL_some {T : List Wd} {x : Tx} {p : Wd} (h : longW T x = some p) : tellL T x = (p.1, true) := by unfold tellL; rw [h]
theorem tL_none {T : List Wd} {x : Tx} (h : longW T x = none) : tellL T x = ([], false) := by unfold tellL; rw [h]
theorem long_not {k : Int} {x : Tx} {p : Wd} (h : shortW (wdT k) x = some p) (hne : p.2 ≠ x) : longW (wdT k) x = none := by
  cases hl : longW (wdT k) x with
  | none => rfl
  | some q =>
    obtain ⟨hq, rfl⟩ := long_mem hl
    have := (fine_at hq).2.1
    rw [h] at this
    replace this := Option.some.inj this
    exact absurd (congrArg Prod.snd this) hne
set_option maxRecDepth 100000 in
set_option maxHeartbeats 1000000 in
theorem n_wdShort (kd : Int) (x : Tx) (w : World) (ht : LdW w) (hx : x.length ≤ 1001) : Calls Tryd.prog 8 #[.int .i64 kd, sV x] w (SBRes (tellS (wdT kd) x) w) := by
  have HTb := Lib.hid (n_tableOf kd w ht)
  cases hs : shortW (wdT kd) x with
  | none =>
    have hat := at_none hs
    rw [tS_none hs]
    generalize wdT kd = T at *
    go_enter Tryd.func8, Tryd.ntmps8
    go_wp2_with fail
    refine (HTb.out).mono ?_; rintro e w' ⟨b, n, rfl, hb, hm, J, d, rfl⟩
    have hlk := look_no hm (by omega) hat
    go_wp2
    go_ret2
    exact sb_ret rfl rfl (junk_of_below (by (repeat' first | with_reducible (first | apply Below.refl | assumption | apply bw_a | apply bw_d | apply bw_n | apply bw_p | apply bw_c | apply bw_r) | go_size)))
  | some p =>
    have hat := at_some hs
    rw [tS_some hs]
    generalize wdT kd = T at *
    obtain ⟨p1, p2⟩ := p
    go_enter Tryd.func8, Tryd.ntmps8
    go_wp2_with fail
    refine (HTb.out).mono ?_; rintro e w' ⟨b, n, rfl, hb, hm, J, d, rfl⟩
    have hlk := look_yes hm (by omega) hat
    go_wp2
    go_ret2
    exact sb_ret rfl rfl (junk_of_below (by (repeat' first | with_reducible (first | apply Below.refl | assumption | apply bw_a | apply bw_d | apply bw_n | apply bw_p | apply bw_c | apply bw_r) | go_size)))
set_option maxRecDepth 100000 in
set_option maxHeartbeats 1000000 in
theorem n_wdLong (kd : Int) (x : Tx) (w : World) (ht : LdW w) (hx : x.length ≤ 1001) : Calls Tryd.prog 10 #[.int .i64 kd, sV x] w (SBRes (tellL (wdT kd) x) w) := by
  have HTb := Lib.hid (n_tableOf kd w ht)
  cases hs : shortW (wdT kd) x with
  | none =>
    have hat := at_none hs
    rw [tL_none (none_long hs)]
    generalize wdT kd = T at *
    go_enter Tryd.func10, Tryd.ntmps10
    go_wp2_with fail
    refine (HTb.out).mono ?_; rintro e w' ⟨b, n, rfl, hb, hm, J, d, rfl⟩
    have hlk := look_no hm (by omega) hat
    go_wp2
    go_ret2
    exact sb_ret rfl rfl (junk_of_below (by (repeat' first | with_reducible (first | apply Below.refl | assumption | apply bw_a | apply bw_d | apply bw_n | apply bw_p | apply bw_c | apply bw_r) | go_size)))
  | some p =>
    have hat := at_some hs
    by_cases hq : p.2 = x
    · rw [tL_some (p := p) (by rw [← hq]; exact (fine_at (short_mem hs).1).2.2.1)]
      generalize wdT kd = T at *
      obtain ⟨p1, p2⟩ := p
      replace hq : p2 = x := hq
      subst hq
      go_enter Tryd.func10, Tryd.ntmps10
      go_wp2_with fail
      refine (HTb.out).mono ?_; rintro e w' ⟨b, n, rfl, hb, hm, J, d, rfl⟩
      have hlk := look_yes hm (by omega) hat
      go_wp2
      go_ret2
      exact sb_ret rfl rfl (junk_of_below (by (repeat' first | with_reducible (first | apply Below.refl | assumption | apply bw_a | apply bw_d | apply bw_n | apply bw_p | apply bw_c | apply bw_r) | go_size)))
    · rw [tL_none (long_not hs hq)]
      generalize wdT kd = T at *
      obtain ⟨p1, p2⟩ := p
      have hne : (p2 == x) = false := by simpa using hq
      go_enter Tryd.func10, Tryd.ntmps10
      go_wp2_with fail
      refine (HTb.out).mono ?_; rintro e w' ⟨b, n, rfl, hb, hm, J, d, rfl⟩
      have hlk := look_yes hm (by omega) hat
      go_wp2
      go_ret2
      exact sb_ret rfl rfl (junk_of_below (by (repeat' first | with_reducible (first | apply Below.refl | assumption | apply bw_a | apply bw_d | apply bw_n | apply bw_p | apply bw_c | apply bw_r) | go_size)))
end Go.Proofs.YtngjkmjejijfiaaDoor

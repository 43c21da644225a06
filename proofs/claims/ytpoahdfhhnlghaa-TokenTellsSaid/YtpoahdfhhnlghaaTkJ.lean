/- Contracts of token's inside, joined; of each state as a function value; of a divider's divide. -/
import Derived.Test.YtpoahdfhhnlghaaTkI
namespace Go.Proofs.Ytpoahdfhhnlghaa
set_option linter.unusedVariables false
set_option linter.unusedSimpArgs false
open Go.RowKit

set_option maxRecDepth 100000 in
set_option maxHeartbeats 1000000 in
theorem n_dvIn (D : Nat) (s : List UInt8) (i : Nat) (M : MT) (w : World) (h : DvS D s i M w) (c : UInt8) (hs : M.st = 1) (hi : M.start < i) (hl : i ≤ s.length) (hm : s.length ≤ 200) (hM : M.out.length ≤ 900) (hP : M.pos.length ≤ 900) :
    Calls Try.prog 42 #[.pointer (some ⟨D, 0, none⟩), .int .u8 (c.toNat : Int)] w (DvR D s i (stepT s M i c) (stV (stepT s M i c).st) w) := by
  have hB : c.toNat < 256 := UInt8.toNat_lt c
  have HD := Lib.hid h
  have HA := Lib.hid (n_dvPart D s i M w h i hi (by omega) hm (by omega) (by omega))
  have HO := Lib.hid (fun W (hd : DvS D s i (addP s M i) W) => n_dvOut D s i (addP s M i) W hd c (by omega) (by unfold addP; simp; omega) (by unfold addP; simp; omega))
  obtain ⟨v, u, hr, _, _⟩ := h
  obtain ⟨hc, _, c2, c3, _, _, hf, hD⟩ := dv_facts hr
  have HC := Lib.hid hc
  clear hr hc hf hM hP
  rcases cls_cases c with ⟨h1, hcl⟩ | ⟨h1, hcl⟩ | ⟨h1, h2, hcl⟩ | ⟨h1, h2, h3, hcl⟩ | ⟨h1, h2, h3, hcl⟩ | ⟨h1, h2, h3, h4, hcl⟩ | ⟨h1, h2, h3, h4, hcl⟩
  · have c0 : w.cell? ⟨D, c.toNat, none⟩ = some (.int .u8 65) := by rw [HC.out _ hB, hcl]; rfl
    have HE := Lib.hid (show stepT s M i c = M from by unfold stepT; rw [hs, h1]; rfl)
    generalize c.toNat = n at *
    clear hcl h1
    go_enter Try.func42, Try.ntmps42
    go_wp2
    go_ret
    rw [HE.out, hs]
    exact ⟨rfl, HD.out, Below.refl _ _⟩
  · have c0 : w.cell? ⟨D, c.toNat, none⟩ = some (.int .u8 48) := by rw [HC.out _ hB, hcl]; rfl
    have HE := Lib.hid (show stepT s M i c = M from by unfold stepT; rw [hs, h1]; rfl)
    generalize c.toNat = n at *
    clear hcl h1
    go_enter Try.func42, Try.ntmps42
    go_wp2
    go_ret
    rw [HE.out, hs]
    exact ⟨rfl, HD.out, Below.refl _ _⟩
  · have c0 : w.cell? ⟨D, c.toNat, none⟩ = some (.int .u8 45) := by rw [HC.out _ hB, hcl]; rfl
    have HE := Lib.hid (show stepT s M i c = ⟨2, M.start, M.out, M.pos⟩ from by unfold stepT; rw [hs, h1, h2]; rfl)
    generalize c.toNat = n at *
    clear hcl h1 h2
    go_enter Try.func42, Try.ntmps42
    go_wp2
    go_ret
    rw [HE.out]
    exact ⟨rfl, HD.out.same rfl rfl rfl, Below.refl _ _⟩
  · have c0 : w.cell? ⟨D, c.toNat, none⟩ = some (.int .u8 44) := by rw [HC.out _ hB, hcl]; rfl
    have HE := Lib.hid (show stepT s M i c = outS (addP s M i) i c from by unfold stepT; rw [hs, h1]; rw [h2]; rfl)
    generalize c.toNat = n at *
    clear hcl h1 h2 h3
    go_enter Try.func42, Try.ntmps42
    go_wp2_with fail
    refine HA.out.mono ?_; rintro e w' ⟨rfl, hd, hb⟩
    have HB := Lib.hid hb
    have HOW := Lib.hid (HO.out _ hd)
    clear hd hb
    go_wp2_with fail
    refine HOW.out.mono ?_; rintro e w2 ⟨rfl, hd, hb⟩
    go_wp2
    go_ret
    rw [HE.out]
    exact ⟨rfl, hd, HB.out.trans hb⟩
  · have c0 : w.cell? ⟨D, c.toNat, none⟩ = some (.int .u8 35) := by rw [HC.out _ hB, hcl]; rfl
    have HE := Lib.hid (show stepT s M i c = outS (addP s M i) i c from by unfold stepT; rw [hs, h1]; rw [h2]; rfl)
    generalize c.toNat = n at *
    clear hcl h1 h2 h3
    go_enter Try.func42, Try.ntmps42
    go_wp2_with fail
    refine HA.out.mono ?_; rintro e w' ⟨rfl, hd, hb⟩
    have HB := Lib.hid hb
    have HOW := Lib.hid (HO.out _ hd)
    clear hd hb
    go_wp2_with fail
    refine HOW.out.mono ?_; rintro e w2 ⟨rfl, hd, hb⟩
    go_wp2
    go_ret
    rw [HE.out]
    exact ⟨rfl, hd, HB.out.trans hb⟩
  · have c0 : w.cell? ⟨D, c.toNat, none⟩ = some (.int .u8 32) := by rw [HC.out _ hB, hcl]; rfl
    have HE := Lib.hid (show stepT s M i c = outS (addP s M i) i c from by unfold stepT; rw [hs, h1]; rw [h2]; rfl)
    generalize c.toNat = n at *
    clear hcl h1 h2 h3 h4
    go_enter Try.func42, Try.ntmps42
    go_wp2_with fail
    refine HA.out.mono ?_; rintro e w' ⟨rfl, hd, hb⟩
    have HB := Lib.hid hb
    have HOW := Lib.hid (HO.out _ hd)
    clear hd hb
    go_wp2_with fail
    refine HOW.out.mono ?_; rintro e w2 ⟨rfl, hd, hb⟩
    go_wp2
    go_ret
    rw [HE.out]
    exact ⟨rfl, hd, HB.out.trans hb⟩
  · have c0 : w.cell? ⟨D, c.toNat, none⟩ = some (.int .u8 0) := by rw [HC.out _ hB, hcl]; rfl
    have HE := Lib.hid (show stepT s M i c = outS (addP s M i) i c from by unfold stepT; rw [hs, h1]; rw [h2]; rfl)
    generalize c.toNat = n at *
    clear hcl h1 h2 h3 h4
    go_enter Try.func42, Try.ntmps42
    go_wp2_with fail
    refine HA.out.mono ?_; rintro e w' ⟨rfl, hd, hb⟩
    have HB := Lib.hid hb
    have HOW := Lib.hid (HO.out _ hd)
    clear hd hb
    go_wp2_with fail
    refine HOW.out.mono ?_; rintro e w2 ⟨rfl, hd, hb⟩
    go_wp2
    go_ret
    rw [HE.out]
    exact ⟨rfl, hd, HB.out.trans hb⟩
set_option maxRecDepth 100000 in
set_option maxHeartbeats 1000000 in
theorem n_dvJoin (D : Nat) (s : List UInt8) (i : Nat) (M : MT) (w : World) (h : DvS D s i M w) (c : UInt8) (hs : M.st = 2) (hi : M.start < i - 1) (hl : i ≤ s.length) (hm : s.length ≤ 200) (hM : M.out.length ≤ 900) (hP : M.pos.length ≤ 900) :
    Calls Try.prog 49 #[.pointer (some ⟨D, 0, none⟩), .int .u8 (c.toNat : Int)] w (DvR D s i (stepT s M i c) (stV (stepT s M i c).st) w) := by
  have hB : c.toNat < 256 := UInt8.toNat_lt c
  have HD := Lib.hid h
  obtain ⟨m, rfl⟩ : ∃ m, i = m + 1 := ⟨i - 1, by omega⟩
  rw [Nat.add_sub_cancel] at hi
  have HA := Lib.hid (n_dvPart D s ((m + 1 : Nat) : Int) M w h m hi (by omega) hm (by omega) (by omega))
  have HO := Lib.hid (fun W (hd : DvS D s ((m + 1 : Nat) : Int) (addP s M m) W) => n_dvOut D s (m + 1) (addP s M m) W hd c (by omega) (by unfold addP; simp; omega) (by unfold addP; simp; omega))
  obtain ⟨v, u, hr, _, _⟩ := h
  obtain ⟨hc, _, c2, c3, _, _, hf, hD⟩ := dv_facts hr
  have HC := Lib.hid hc
  clear hr hc hf hM hP
  rcases cls_cases c with ⟨h1, hcl⟩ | ⟨h1, hcl⟩ | ⟨h1, h2, hcl⟩ | ⟨h1, h2, h3, hcl⟩ | ⟨h1, h2, h3, hcl⟩ | ⟨h1, h2, h3, h4, hcl⟩ | ⟨h1, h2, h3, h4, hcl⟩
  · have c0 : w.cell? ⟨D, c.toNat, none⟩ = some (.int .u8 65) := by rw [HC.out _ hB, hcl]; rfl
    have HE := Lib.hid (show stepT s M (m + 1) c = ⟨1, M.start, M.out, M.pos⟩ from by unfold stepT; rw [hs, h1]; rfl)
    generalize c.toNat = n at *
    clear hcl h1
    go_enter Try.func49, Try.ntmps49
    go_wp2
    go_ret
    rw [HE.out]
    exact ⟨rfl, HD.out.same rfl rfl rfl, Below.refl _ _⟩
  · have c0 : w.cell? ⟨D, c.toNat, none⟩ = some (.int .u8 48) := by rw [HC.out _ hB, hcl]; rfl
    have HE := Lib.hid (show stepT s M (m + 1) c = ⟨1, M.start, M.out, M.pos⟩ from by unfold stepT; rw [hs, h1]; rfl)
    generalize c.toNat = n at *
    clear hcl h1
    go_enter Try.func49, Try.ntmps49
    go_wp2
    go_ret
    rw [HE.out]
    exact ⟨rfl, HD.out.same rfl rfl rfl, Below.refl _ _⟩
  · have c0 : w.cell? ⟨D, c.toNat, none⟩ = some (.int .u8 45) := by rw [HC.out _ hB, hcl]; rfl
    have HE := Lib.hid (show stepT s M (m + 1) c = outS (addP s M m) (m + 1) c from by unfold stepT; rw [hs, h1]; rfl)
    generalize c.toNat = n at *
    clear hcl h1 h2
    go_enter Try.func49, Try.ntmps49
    go_wp2_with fail
    refine HA.out.mono ?_; rintro e w' ⟨rfl, hd, hb⟩
    have HB := Lib.hid hb
    have HOW := Lib.hid (HO.out _ hd)
    clear hd hb
    go_wp2_with fail
    refine HOW.out.mono ?_; rintro e w2 ⟨rfl, hd, hb⟩
    go_wp2
    go_ret
    rw [HE.out]
    exact ⟨rfl, hd, HB.out.trans hb⟩
  · have c0 : w.cell? ⟨D, c.toNat, none⟩ = some (.int .u8 44) := by rw [HC.out _ hB, hcl]; rfl
    have HE := Lib.hid (show stepT s M (m + 1) c = outS (addP s M m) (m + 1) c from by unfold stepT; rw [hs, h1]; rfl)
    generalize c.toNat = n at *
    clear hcl h1 h2 h3
    go_enter Try.func49, Try.ntmps49
    go_wp2_with fail
    refine HA.out.mono ?_; rintro e w' ⟨rfl, hd, hb⟩
    have HB := Lib.hid hb
    have HOW := Lib.hid (HO.out _ hd)
    clear hd hb
    go_wp2_with fail
    refine HOW.out.mono ?_; rintro e w2 ⟨rfl, hd, hb⟩
    go_wp2
    go_ret
    rw [HE.out]
    exact ⟨rfl, hd, HB.out.trans hb⟩
  · have c0 : w.cell? ⟨D, c.toNat, none⟩ = some (.int .u8 35) := by rw [HC.out _ hB, hcl]; rfl
    have HE := Lib.hid (show stepT s M (m + 1) c = outS (addP s M m) (m + 1) c from by unfold stepT; rw [hs, h1]; rfl)
    generalize c.toNat = n at *
    clear hcl h1 h2 h3
    go_enter Try.func49, Try.ntmps49
    go_wp2_with fail
    refine HA.out.mono ?_; rintro e w' ⟨rfl, hd, hb⟩
    have HB := Lib.hid hb
    have HOW := Lib.hid (HO.out _ hd)
    clear hd hb
    go_wp2_with fail
    refine HOW.out.mono ?_; rintro e w2 ⟨rfl, hd, hb⟩
    go_wp2
    go_ret
    rw [HE.out]
    exact ⟨rfl, hd, HB.out.trans hb⟩
  · have c0 : w.cell? ⟨D, c.toNat, none⟩ = some (.int .u8 32) := by rw [HC.out _ hB, hcl]; rfl
    have HE := Lib.hid (show stepT s M (m + 1) c = outS (addP s M m) (m + 1) c from by unfold stepT; rw [hs, h1]; rfl)
    generalize c.toNat = n at *
    clear hcl h1 h2 h3 h4
    go_enter Try.func49, Try.ntmps49
    go_wp2_with fail
    refine HA.out.mono ?_; rintro e w' ⟨rfl, hd, hb⟩
    have HB := Lib.hid hb
    have HOW := Lib.hid (HO.out _ hd)
    clear hd hb
    go_wp2_with fail
    refine HOW.out.mono ?_; rintro e w2 ⟨rfl, hd, hb⟩
    go_wp2
    go_ret
    rw [HE.out]
    exact ⟨rfl, hd, HB.out.trans hb⟩
  · have c0 : w.cell? ⟨D, c.toNat, none⟩ = some (.int .u8 0) := by rw [HC.out _ hB, hcl]; rfl
    have HE := Lib.hid (show stepT s M (m + 1) c = outS (addP s M m) (m + 1) c from by unfold stepT; rw [hs, h1]; rfl)
    generalize c.toNat = n at *
    clear hcl h1 h2 h3 h4
    go_enter Try.func49, Try.ntmps49
    go_wp2_with fail
    refine HA.out.mono ?_; rintro e w' ⟨rfl, hd, hb⟩
    have HB := Lib.hid hb
    have HOW := Lib.hid (HO.out _ hd)
    clear hd hb
    go_wp2_with fail
    refine HOW.out.mono ?_; rintro e w2 ⟨rfl, hd, hb⟩
    go_wp2
    go_ret
    rw [HE.out]
    exact ⟨rfl, hd, HB.out.trans hb⟩
end Go.Proofs.Ytpoahdfhhnlghaa

/- Contracts of a divider's addPart, of outside, inside, joined. -/
import Derived.Test.YtpoahdfhhnlghaaTkH
import Derived.Test.YtpoahdfhhnlghaaQAll
namespace Go.Proofs.Ytpoahdfhhnlghaa
set_option linter.unusedVariables false
set_option linter.unusedSimpArgs false
open Go.RowKit

/-- What a call leaves of a divider. -/
def DvR (D : Nat) (s : List UInt8) (i : Int) (M : MT) (x : Value) (w : World) (e : Ending) (w' : World) : Prop := e = .returned x ∧ DvS D s i M w' ∧ Below D w w'
theorem DvS.same {D : Nat} {s : List UInt8} {i : Int} {M N : MT} {w : World} (h : DvS D s i M w) (h1 : N.start = M.start) (h2 : N.out = M.out) (h3 : N.pos = M.pos) : DvS D s i N w := by
  unfold DvS at *
  rw [h1, h2, h3]
  exact h
set_option maxRecDepth 100000 in
set_option maxHeartbeats 1000000 in
theorem n_dvPart (D : Nat) (s : List UInt8) (i : Int) (M : MT) (w : World) (h : DvS D s i M w) (k : Nat) (h1 : M.start < k) (h2 : k ≤ s.length) (hl : s.length ≤ 200) (hM : M.out.length ≤ 1000) (hP : M.pos.length ≤ 1000) :
    Calls Try.prog 50 #[.pointer (some ⟨D, 0, none⟩), .int .i64 (k : Int)] w (DvR D s i (addP s M k) (.tuple #[]) w) := by
  have hpl := part_len (a := M.start) h2
  have HU := Lib.hid (fun W => (by rw [ex_part]; exact n_tkUpper _ W (by simp; omega) : Calls Try.prog 14 #[.string ((⟨s.toArray⟩ : ByteArray).extract M.start k)] W fun e w' => e = .returned (.string ⟨(partT s M.start k).toArray⟩) ∧ Junk W w'))
  have HK := Lib.hid (fun W (hc : ∀ c, c < 256 → W.cell? ⟨D, c, none⟩ = some (.int .u8 (clsF c : Nat))) => n_dvKind D (partT s M.start k) W hc (by omega) (by omega))
  have HA := Lib.hid (fun W (hd : DvS D s i M W) => n_dvAdd D s i M W hd (kindT (partT s M.start k)) (partT s M.start k) M.start (by omega) hM hP)
  have HD := Lib.hid h
  obtain ⟨v, u, hr, _, _⟩ := h
  obtain ⟨hc, c1, _, c3, _, _, hf, hD⟩ := dv_facts hr
  have HC := Lib.hid hc
  have HE := Lib.hid (show ∀ w' e, e = Ending.returned (.tuple #[]) ∧ DvS D s i ⟨M.st, M.start, M.out ++ [(kindT (partT s M.start k), partT s M.start k)], M.pos ++ [M.start]⟩ w' ∧ Below D w w' → DvR D s i (addP s M k) (.tuple #[]) w e w' from fun w' e he => ⟨he.1, he.2.1.same rfl rfl rfl, he.2.2⟩)
  generalize kindT (partT s M.start k) = kd at *
  generalize partT s M.start k = t at *
  generalize hst : M.start = st at *
  have h3 : st ≤ k := by omega
  have h4 : st ≤ s.length := by omega
  clear hr hc hf hpl hst hM hP
  go_enter Try.func50, Try.ntmps50
  go_wp2_with fail
  refine region_quiet_all (C := Cls w) (by kernel_rfl) (by kernel_rfl) (cls_drawn _) ?_
  repeat (first | (refine qw_skip (by rfl) ?_; simp only [Act.put, List.setIfInBounds_toArray, List.set_cons_succ, List.set_cons_zero]) | (refine qw_want (by rfl) (fun K hK => ?_); go_simp; first | (refine hK _ ?_; clear hK K) | (apply Exists.intro; refine ⟨?_, hK _ ?_⟩; (rintro w3_ ⟨J3_, d3_, rfl⟩; first | (with_reducible exact rfl) | (go_simp; with_reducible exact rfl) | (go_simp; (first | (with_reducible refine (HU.out _).mono ?_)); rintro e_ w_ ⟨rfl, J4_, d4_, rfl⟩; exact ⟨rfl, J3_ ++ J4_, d4_, by simp only [plus_plus, Array.append_assoc]⟩)); clear hK K)))
  refine qw_nil ?_
  rintro w3 ⟨J, d, rfl⟩
  go_wp2_with fail
  refine region_quiet_tail (C := Cls w) 9 (by kernel_rfl) (by kernel_rfl) ⟨J, _, rfl⟩ ?_
  simp only [List.take_succ_cons, List.take_zero, List.drop_succ_cons, List.drop_zero]
  iterate 9 (refine wpQuiet_step (fun K hK => ?_); go_simp; first | (refine hK _ ?_; clear hK K) | (apply Exists.intro; refine ⟨?_, hK _ ?_⟩; (rintro w3_ ⟨J3_, d3_, rfl⟩; first | (with_reducible exact rfl) | (go_simp; with_reducible exact rfl) | (go_simp; refine (HK.out _ (fun c hc => by rw [cell_plus _ _ _ _ _ hD]; exact HC.out c hc)).mono ?_; rintro e_ w_ ⟨rfl, J4_, d4_, rfl⟩; exact ⟨rfl, J3_ ++ J4_, d4_, by simp only [plus_plus]⟩)); clear hK K))
  refine wpQuiet_nil ?_
  rintro w3 ⟨J3, d3, rfl⟩
  go_wp2_with fail
  refine (HA.out _ (HD.out.below (by (repeat' first | with_reducible (first | apply Below.refl | assumption | apply bw_a | apply bw_d | apply bw_n | apply bw_p | apply bw_c | apply bw_r) | go_size)))).mono ?_; rintro e w' ⟨rfl, hd, hb⟩
  go_wp2_with fail
  go_end0
  exact HE.out _ _ ⟨rfl, hd, (show Below D w (w.plus J3 d3) by (repeat' first | with_reducible (first | apply Below.refl | assumption | apply bw_a | apply bw_d | apply bw_n | apply bw_p | apply bw_c | apply bw_r) | go_size)).trans hb⟩

/-- The states, as values. -/
def stV (st : Nat) : Value := .func (.func (if st = 0 then 32 else if st = 1 then 42 else 49)) #[] #[]
theorem cls_cases (c : UInt8) : (sndB c = true ∧ clsF c.toNat = 65) ∨ (sndB c = true ∧ clsF c.toNat = 48) ∨ (sndB c = false ∧ joinB c = true ∧ clsF c.toNat = 45) ∨ (sndB c = false ∧ joinB c = false ∧ c = 44 ∧ clsF c.toNat = 44) ∨ (sndB c = false ∧ joinB c = false ∧ c = 35 ∧ clsF c.toNat = 35) ∨
    (sndB c = false ∧ joinB c = false ∧ c ≠ 44 ∧ c ≠ 35 ∧ clsF c.toNat = 32) ∨ (sndB c = false ∧ joinB c = false ∧ c ≠ 44 ∧ c ≠ 35 ∧ clsF c.toNat = 0) := by
  have e44 : c = 44 ↔ c.toNat = 44 := by rw [← UInt8.toNat_inj]; rfl
  have e35 : c = 35 ↔ c.toNat = 35 := by rw [← UInt8.toNat_inj]; rfl
  rw [snd_n, join_n]
  simp only [ne_eq, e44, e35]
  unfold sndN clsF
  generalize c.toNat = n
  cases letN n with
  | true => exact .inl ⟨rfl, rfl⟩
  | false =>
    cases digN n with
    | true => exact .inr (.inl ⟨rfl, rfl⟩)
    | false =>
      cases joinN n with
      | true => exact .inr (.inr (.inl ⟨rfl, rfl, rfl⟩))
      | false =>
        by_cases h1 : n = 44
        · exact .inr (.inr (.inr (.inl ⟨rfl, rfl, h1, by simp [h1]⟩)))
        · by_cases h2 : n = 35
          · exact .inr (.inr (.inr (.inr (.inl ⟨rfl, rfl, h2, by simp [h2]⟩))))
          · cases h3 : lineN n with
            | true => exact .inr (.inr (.inr (.inr (.inr (.inl ⟨rfl, rfl, h1, h2, by simp [h1, h2]⟩)))))
            | false => exact .inr (.inr (.inr (.inr (.inr (.inr ⟨rfl, rfl, h1, h2, by simp [h1, h2]⟩)))))

set_option maxRecDepth 100000 in
set_option maxHeartbeats 1000000 in
theorem n_dvOut (D : Nat) (s : List UInt8) (i : Nat) (M : MT) (w : World) (h : DvS D s i M w) (c : UInt8) (hi : i ≤ 1000) (hM : M.out.length ≤ 1000) (hP : M.pos.length ≤ 1000) :
    Calls Try.prog 32 #[.pointer (some ⟨D, 0, none⟩), .int .u8 (c.toNat : Int)] w (DvR D s i (outS M i c) (stV (outS M i c).st) w) := by
  have hB : c.toNat < 256 := UInt8.toNat_lt c
  have HD := Lib.hid h
  have HA := Lib.hid (fun kd x => n_dvAdd D s i M w h kd x i (by omega) hM hP)
  obtain ⟨v, u, hr, hv, hu⟩ := h
  obtain ⟨hc, _, c2, c3, _, _, hf, hD⟩ := dv_facts hr
  have f3 := hf 258
  have HR := Lib.hid hr; have HV := Lib.hid hv; have HU := Lib.hid hu
  have HC := Lib.hid hc
  clear hr hc hf hv hu
  rcases cls_cases c with ⟨h1, hcl⟩ | ⟨h1, hcl⟩ | ⟨h1, h2, hcl⟩ | ⟨h1, h2, h3, hcl⟩ | ⟨h1, h2, h3, hcl⟩ | ⟨h1, h2, h3, h4, hcl⟩ | ⟨h1, h2, h3, h4, hcl⟩
  · have c0 : w.cell? ⟨D, c.toNat, none⟩ = some (.int .u8 65) := by rw [HC.out _ hB, hcl]; rfl
    have HE := Lib.hid (show outS M i c = ⟨1, i, M.out, M.pos⟩ by unfold outS; rw [h1]; rfl)
    generalize c.toNat = n at *
    clear hcl h1
    go_enter Try.func32, Try.ntmps32
    go_wp2
    go_ret
    rw [HE.out]
    exact ⟨rfl, ⟨v, u, dv_set_st HR.out _, HV.out.set (Nat.lt_succ_self _), HU.out.set (Nat.lt_succ_self _)⟩, (Below.refl _ _).setCell (p := ⟨D, 258, none⟩) (Nat.le_refl _) _⟩
  · have c0 : w.cell? ⟨D, c.toNat, none⟩ = some (.int .u8 48) := by rw [HC.out _ hB, hcl]; rfl
    have HE := Lib.hid (show outS M i c = ⟨1, i, M.out, M.pos⟩ by unfold outS; rw [h1]; rfl)
    generalize c.toNat = n at *
    clear hcl h1
    go_enter Try.func32, Try.ntmps32
    go_wp2
    go_ret
    rw [HE.out]
    exact ⟨rfl, ⟨v, u, dv_set_st HR.out _, HV.out.set (Nat.lt_succ_self _), HU.out.set (Nat.lt_succ_self _)⟩, (Below.refl _ _).setCell (p := ⟨D, 258, none⟩) (Nat.le_refl _) _⟩
  · have c0 : w.cell? ⟨D, c.toNat, none⟩ = some (.int .u8 45) := by rw [HC.out _ hB, hcl]; rfl
    have HE := Lib.hid (show outS M i c = ⟨0, M.start, M.out, M.pos⟩ by
      unfold outS; rw [h1]
      have e1 : sepT c = [] := by exact join_sep h2
      have e2 : sepP c i = [] := by exact join_pos h2 i
      rw [e1, e2]; simp)
    generalize c.toNat = n at *
    clear hcl h1 h2
    go_enter Try.func32, Try.ntmps32
    go_wp2
    go_ret
    rw [HE.out]
    exact ⟨rfl, HD.out.same rfl rfl rfl, Below.refl _ _⟩
  · have c0 : w.cell? ⟨D, c.toNat, none⟩ = some (.int .u8 44) := by rw [HC.out _ hB, hcl]; rfl
    have HE := Lib.hid (show outS M i c = ⟨0, M.start, M.out ++ [(4, [44])], M.pos ++ [i]⟩ by unfold outS; rw [h1, h3]; rfl)
    generalize c.toNat = n at *
    clear hcl h1 h2 h3
    go_enter Try.func32, Try.ntmps32
    go_wp2_with fail
    refine (HA.out 4 [44]).mono ?_; rintro e w' ⟨rfl, hd, hb⟩
    go_wp2
    go_ret
    rw [HE.out]
    exact ⟨rfl, hd.same rfl rfl rfl, hb⟩
  · have c0 : w.cell? ⟨D, c.toNat, none⟩ = some (.int .u8 35) := by rw [HC.out _ hB, hcl]; rfl
    have HE := Lib.hid (show outS M i c = ⟨0, M.start, M.out ++ [(5, [35])], M.pos ++ [i]⟩ by unfold outS; rw [h1, h3]; rfl)
    generalize c.toNat = n at *
    clear hcl h1 h2 h3
    go_enter Try.func32, Try.ntmps32
    go_wp2_with fail
    refine (HA.out 5 [35]).mono ?_; rintro e w' ⟨rfl, hd, hb⟩
    go_wp2
    go_ret
    rw [HE.out]
    exact ⟨rfl, hd.same rfl rfl rfl, hb⟩
  · have c0 : w.cell? ⟨D, c.toNat, none⟩ = some (.int .u8 32) := by rw [HC.out _ hB, hcl]; rfl
    have HE := Lib.hid (show outS M i c = ⟨0, M.start, M.out, M.pos⟩ by
      unfold outS; rw [h1]
      have e1 : sepT c = [] := by unfold sepT; rw [if_neg h3, if_neg h4]
      have e2 : sepP c i = [] := by unfold sepP; rw [if_neg (fun e => e.elim h3 h4)]
      rw [e1, e2]; simp)
    generalize c.toNat = n at *
    clear hcl h1 h2 h3 h4
    go_enter Try.func32, Try.ntmps32
    go_wp2
    go_ret
    rw [HE.out]
    exact ⟨rfl, HD.out.same rfl rfl rfl, Below.refl _ _⟩
  · have c0 : w.cell? ⟨D, c.toNat, none⟩ = some (.int .u8 0) := by rw [HC.out _ hB, hcl]; rfl
    have HE := Lib.hid (show outS M i c = ⟨0, M.start, M.out, M.pos⟩ by
      unfold outS; rw [h1]
      have e1 : sepT c = [] := by unfold sepT; rw [if_neg h3, if_neg h4]
      have e2 : sepP c i = [] := by unfold sepP; rw [if_neg (fun e => e.elim h3 h4)]
      rw [e1, e2]; simp)
    generalize c.toNat = n at *
    clear hcl h1 h2 h3 h4
    go_enter Try.func32, Try.ntmps32
    go_wp2
    go_ret
    rw [HE.out]
    exact ⟨rfl, HD.out.same rfl rfl rfl, Below.refl _ _⟩
end Go.Proofs.Ytpoahdfhhnlghaa

/- The law TokenKinds. -/
import Derived.Test.YtpoahdfhhnlghaaTlL
namespace Go.Proofs.Ytpoahdfhhnlghaa
set_option linter.unusedVariables false
set_option linter.unusedSimpArgs false
open Go.RowKit

/-- A byte of a part at a place: a digit, a capital letter, or within. -/
def PtB (L : List UInt8) (k : Nat) : Prop := (48 ≤ byteAt L k ∧ byteAt L k ≤ 57) ∨ (65 ≤ byteAt L k ∧ byteAt L k ≤ 90) ∨ (byteAt L k < 48 ∧ byteAt L k ≠ 32 ∧ byteAt L k ≠ 9 ∧ k ≠ 0 ∧ k + 1 ≠ L.length)
def PtL (L : List UInt8) : Prop := ∀ k, k < L.length → PtB L k
/-- What each token of a line is. -/
def KdT (t : Tk) : Prop := t.2 ≠ [] ∧ t.2.map upB = t.2 ∧
  ((t.1 = 1 ∧ PtL t.2 ∧ 65 ≤ byteAt t.2 0 ∧ byteAt t.2 0 ≤ 90) ∨ (t.1 = 2 ∧ PtL t.2 ∧ byteAt t.2 0 < 65 ∧ t.2.countP digB = t.2.length) ∨ (t.1 = 3 ∧ PtL t.2 ∧ byteAt t.2 0 < 65 ∧ t.2.countP digB ≠ t.2.length) ∨ t = (4, [44]) ∨ t = (5, [35]))
theorem snd_cap {n : Nat} (h : sndN n = true) (h2 : upN n = n) : (48 ≤ n ∧ n ≤ 57) ∨ (65 ≤ n ∧ n ≤ 90) := by
  unfold sndN letN digN at h
  unfold upN at h2
  simp at h
  split at h2 <;> omega
theorem join_low {n : Nat} (h : joinN n = true) : n < 48 ∧ n ≠ 32 ∧ n ≠ 9 := by
  unfold joinN at h; simp at h; omega
theorem at_get {L : List UInt8} {k : Nat} (h : k < L.length) : L.getD k 0 = L[k] := by rw [List.getD_eq_getElem?_getD, List.getElem?_eq_getElem h]; rfl
theorem up_at {L : List UInt8} (h : L.map upB = L) {k : Nat} (hk : k < L.length) : upN (byteAt L k) = byteAt L k := by
  have h1 : (L.map upB).getD k 0 = L.getD k 0 := by rw [h]
  rw [at_get (by simpa using hk), at_get hk, List.getElem_map] at h1
  show upN (L.getD k 0).toNat = (L.getD k 0).toNat
  rw [at_get hk, ← up_n, h1]
theorem kd_of {s : List UInt8} {t : Tk} (h : t ∈ toks s) : KdT t := by
  obtain ⟨h1, h2, h3⟩ := toks_bytes h
  refine ⟨h1, h2, ?_⟩
  rcases toks_part s t h with ⟨q, hq, hp, he⟩ | rfl | rfl
  · obtain ⟨p1, p2, p3⟩ := part_kind hq hp
    have hpb := pw_bytes q 0 0 hp
    have hT : t.2 = q.map upB := by rw [he]
    have hk : t.1 = kindT t.2 := by rw [he]
    rw [← hT] at p1 p2 p3
    generalize t.2 = L at *
    have hl : 0 < L.length := List.length_pos_iff.2 h1
    have hb : ∀ c ∈ L, sndB c = true ∨ joinB c = true := by
      intro c hc
      rw [hT] at hc
      obtain ⟨d, hd, rfl⟩ := List.mem_map.1 hc
      exact up_word (hpb d hd)
    have p1' : sndN (byteAt L 0) = true := by
      have : L.headD 0 = L.getD 0 0 := by cases L with | nil => rfl | cons a l => rfl
      rw [this] at p1
      exact p1
    have p2' : sndN (byteAt L (L.length - 1)) = true := by
      have : L.getLastD 0 = L.getD (L.length - 1) 0 := by
        rw [List.getD_eq_getElem?_getD, ← List.getLast?_eq_getElem?, List.getLastD_eq_getLast?]
      rw [this] at p2
      exact p2
    have hP : PtL L := by
      intro k hkl
      have hm := hb L[k] (List.getElem_mem hkl)
      have e : byteAt L k = L[k].toNat := by unfold byteAt; rw [at_get hkl]
      by_cases hs : sndN (byteAt L k) = true
      · rcases snd_cap hs (up_at h2 hkl) with h | h
        · exact .inl h
        · exact .inr (.inl h)
      · have hj : joinN (byteAt L k) = true := by
          rcases hm with hm | hm
          · rw [snd_n, ← e] at hm; exact absurd hm hs
          · rw [join_n, ← e] at hm; exact hm
        obtain ⟨j1, j2, j3⟩ := join_low hj
        refine .inr (.inr ⟨j1, j2, j3, fun h0 => ?_, fun h0 => ?_⟩)
        · subst h0; exact hs p1'
        · have : k = L.length - 1 := by omega
          subst this; exact hs p2'
    have h0 := snd_cap p1' (up_at h2 hl)
    have hlet : letB (L.headD 0) = letN (byteAt L 0) := head_n hl
    rw [hlet] at p3
    have hcnt : L.countP digB = L.length ↔ L.all digB = true := by rw [List.countP_eq_length, List.all_eq_true]
    rw [hk]
    rcases p3 with ⟨k1, k2⟩ | ⟨k1, k2, k3⟩ | ⟨k1, k2, k3⟩
    · refine .inl ⟨k1, hP, ?_⟩
      unfold letN at k2; simp at k2; omega
    · refine .inr (.inl ⟨k1, hP, ?_, hcnt.2 k3⟩)
      unfold letN at k2; simp at k2; omega
    · refine .inr (.inr (.inl ⟨k1, hP, ?_, fun e => by rw [hcnt.1 e] at k3; cases k3⟩))
      unfold letN at k2; simp at k2; omega
  · exact .inr (.inr (.inr (.inl rfl)))
  · exact .inr (.inr (.inr (.inr rfl)))
theorem cnt_step {L : List UInt8} {k : Nat} (hk : k < L.length) : (L.take (k + 1)).countP digB = (L.take k).countP digB + (if digN (byteAt L k) then 1 else 0) := by
  rw [List.take_succ_eq_append_getElem hk, List.countP_append]
  have e : digB L[k] = digN (byteAt L k) := by rw [dig_n]; unfold byteAt; rw [at_get hk]
  simp [List.countP_cons, e]
theorem told_kinds {s : List UInt8} : ∀ t ∈ toldT s, KdT t := by
  intro t ht
  unfold toldT at ht
  by_cases h : (faultT s).1 = 0
  · rw [if_pos h] at ht; exact kd_of ht
  · rw [if_neg h] at ht; cases ht
theorem n_tkLong (s : List UInt8) (w : World) (h200 : 200 < s.length) (hl : s.length ≤ 9223372036854775807) : Calls Try.prog 11 #[.string ⟨s.toArray⟩] w (TkRes s w) := by
  have HF := Lib.hid (fault_long h200)
  go_enter Try.func11, Try.ntmps11
  go_wp2
  refine bodyPost_ret (results_fault rfl _ _ w.heap.size #[.int .i64 3, .int .i64 0] rfl (by simp [go_sem]) rfl) rfl ?_
  exact res_fault HF.out (by decide) rfl (junk_of_below (by (repeat' first | with_reducible (first | apply Below.refl | assumption | apply bw_a | apply bw_d | apply bw_n | apply bw_p | apply bw_c | apply bw_r) | go_size)))
end Go.Proofs.Ytpoahdfhhnlghaa

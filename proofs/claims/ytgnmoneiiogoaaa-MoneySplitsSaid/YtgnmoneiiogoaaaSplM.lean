/- What the parts of a split come to: mathematics. No program. -/
import Derived.Test.YtgnmoneiiogoaaaStab
import Derived.Test.YtgnmoneiiogoaaaSums
namespace Go.Proofs.Ytgnmoneiiogoaaa
set_option linter.unusedVariables false
set_option linter.unusedSimpArgs false

def sumF (g : Nat → Int) : Nat → Int
  | 0 => 0
  | k + 1 => sumF g k + g k
theorem sumF_take (zs : List Int) : ∀ k, k ≤ zs.length → sumL (zs.take k) = sumF (fun i => zs.getD i 0) k
  | 0, _ => by simp [sumL, sumF]
  | k + 1, h => by rw [sumL_take zs k (by omega), sumF_take zs k (by omega)]; rfl
theorem sumF_nonneg (g : Nat → Int) : ∀ k, (∀ i, i < k → 0 ≤ g i) → 0 ≤ sumF g k
  | 0, _ => by simp [sumF]
  | k + 1, h => by
    have := sumF_nonneg g k (fun i hi => h i (by omega))
    have := h k (by omega)
    unfold sumF; omega
theorem sumF_le (g : Nat → Int) (c : Int) : ∀ k, (∀ i, i < k → g i ≤ c) → sumF g k ≤ c * (k : Int)
  | 0, _ => by simp [sumF]
  | k + 1, h => by
    have := sumF_le g c k (fun i hi => h i (by omega))
    have := h k (by omega)
    unfold sumF
    rw [show ((k + 1 : Nat) : Int) = (k : Int) + 1 by omega, Int.mul_add, Int.mul_one]; omega
theorem sumF_mono (g : Nat → Int) (j : Nat) : ∀ k, j ≤ k → (∀ i, i < k → 0 ≤ g i) → sumF g j ≤ sumF g k
  | 0, h, _ => by rw [show j = 0 by omega]; exact Int.le_refl _
  | k + 1, h, hp => by
    by_cases e : j = k + 1
    · rw [e]; exact Int.le_refl _
    · have := sumF_mono g j k (by omega) (fun i hi => hp i (by omega))
      have := hp k (by omega)
      show sumF g j ≤ sumF g k + g k
      omega

/-- The whole part of a weight's proportion, and its rest. -/
def Qf (t : Int) (zs : List Int) (W : Int) (i : Nat) : Int := t * zs.getD i 0 / W
def Ff (t : Int) (zs : List Int) (W : Int) (i : Nat) : Int := t * zs.getD i 0 % W

theorem qf_sum (t : Int) (zs : List Int) (W : Int) : ∀ k, W * sumF (Qf t zs W) k + sumF (Ff t zs W) k = t * sumF (fun i => zs.getD i 0) k
  | 0 => by simp [sumF]
  | k + 1 => by
    have ih := qf_sum t zs W k
    have h := Int.mul_ediv_add_emod (t * zs.getD k 0) W
    show W * (sumF (Qf t zs W) k + t * zs.getD k 0 / W) + (sumF (Ff t zs W) k + t * zs.getD k 0 % W) = t * (sumF (fun i => zs.getD i 0) k + zs.getD k 0)
    rw [Int.mul_add, Int.mul_add]; omega

theorem qf_bd (t : Int) (zs : List Int) (W : Int) (i : Nat) (t0 : 0 ≤ t) (z0 : 0 ≤ zs.getD i 0) (zW : zs.getD i 0 ≤ W) (W0 : 1 ≤ W) : 0 ≤ Qf t zs W i ∧ Qf t zs W i ≤ t :=
  ⟨Int.ediv_nonneg (Int.mul_nonneg t0 z0) (by omega), Int.ediv_le_of_le_mul (by omega) (Int.mul_le_mul_of_nonneg_left zW t0)⟩
theorem ff_bd (t : Int) (zs : List Int) (W : Int) (i : Nat) (W0 : 1 ≤ W) : 0 ≤ Ff t zs W i ∧ Ff t zs W i < W :=
  ⟨Int.emod_nonneg _ (by omega), Int.emod_lt_of_pos _ (by omega)⟩

theorem rem_bd (t : Int) (zs : List Int) (W : Int) (t0 : 0 ≤ t) (W0 : 1 ≤ W) (hz : ∀ i, i < zs.length → 0 ≤ zs.getD i 0) (hW : sumL zs = W) (k : Nat) (hk : k ≤ zs.length) :
    0 ≤ t - sumF (Qf t zs W) k ∧ t - sumF (Qf t zs W) k ≤ t := by
  have hs : sumF (fun i => zs.getD i 0) k ≤ W := by
    have := sumF_mono (fun i => zs.getD i 0) k zs.length hk hz
    rw [← sumF_take zs zs.length (Nat.le_refl _), List.take_length, hW] at this
    exact this
  have h1 := qf_sum t zs W k
  have h2 := sumF_nonneg (Ff t zs W) k (fun i _ => (ff_bd t zs W i W0).1)
  have h3 := Int.mul_le_mul_of_nonneg_left hs t0
  have h4 : 0 ≤ sumF (Qf t zs W) k := sumF_nonneg _ k (fun i hi => Int.ediv_nonneg (Int.mul_nonneg t0 (hz i (by omega))) (by omega))
  refine ⟨?_, by omega⟩
  by_cases h : 0 ≤ t - sumF (Qf t zs W) k
  · exact h
  · exfalso
    have := Int.mul_le_mul_of_nonneg_left (show t + 1 ≤ sumF (Qf t zs W) k by omega) (show 0 ≤ W by omega)
    rw [Int.mul_add, Int.mul_one, Int.mul_comm W t] at this
    omega

theorem rem_end (t : Int) (zs : List Int) (W : Int) (t0 : 0 ≤ t) (W0 : 1 ≤ W) (hz : ∀ i, i < zs.length → 0 ≤ zs.getD i 0) (hW : sumL zs = W) (hn : 1 ≤ zs.length) :
    ∃ r : Nat, t - sumF (Qf t zs W) zs.length = r ∧ r < zs.length ∧ sumF (Ff t zs W) zs.length = W * r := by
  obtain ⟨r0, _⟩ := rem_bd t zs W t0 W0 hz hW zs.length (Nat.le_refl _)
  obtain ⟨r, hr⟩ := Int.eq_ofNat_of_zero_le r0
  have h1 := qf_sum t zs W zs.length
  rw [← sumF_take zs zs.length (Nat.le_refl _), List.take_length, hW] at h1
  have e : sumF (Ff t zs W) zs.length = W * r := by rw [← hr, Int.mul_sub, Int.mul_comm W t]; omega
  refine ⟨r, hr, ?_, e⟩
  have h2 := sumF_le (Ff t zs W) (W - 1) zs.length (fun i _ => by have := (ff_bd t zs W i W0).2; omega)
  rw [e, Int.sub_mul] at h2
  by_cases h : r < zs.length
  · exact h
  · exfalso
    have := Int.mul_le_mul_of_nonneg_left (show ((zs.length : Nat) : Int) ≤ r by omega) (show 0 ≤ W by omega)
    omega

/-- Is i among the first r? -/
def Had {z : Nat} (d : Array (Fin (z + 1))) (r i : Nat) : Prop := ∃ k, k < r ∧ d[k]!.val = i
open Classical in
noncomputable def had1 {z : Nat} (d : Array (Fin (z + 1))) (r i : Nat) : Int := if Had d r i then 1 else 0
theorem had_zero {z : Nat} (d : Array (Fin (z + 1))) (i : Nat) : had1 d 0 i = 0 := if_neg (fun ⟨k, h, _⟩ => by omega)
theorem had_step {z : Nat} (d : Array (Fin (z + 1))) (r i : Nat) (hinj : ∀ j, j < r → d[j]!.val ≠ d[r]!.val) : had1 d (r + 1) i = if i = d[r]!.val then had1 d r i + 1 else had1 d r i := by
  unfold had1
  by_cases e : i = d[r]!.val
  · rw [if_pos e, if_pos ⟨r, by omega, e.symm⟩, if_neg (fun ⟨k, h, h'⟩ => hinj k h (by rw [h', e]))]; rfl
  · rw [if_neg e]
    by_cases h : Had d r i
    · rw [if_pos h, if_pos]; obtain ⟨k, h1, h2⟩ := h; exact ⟨k, by omega, h2⟩
    · rw [if_neg h, if_neg]
      rintro ⟨k, h1, h2⟩
      by_cases hk : k = r
      · subst hk; exact e h2.symm
      · exact h ⟨k, by omega, h2⟩

/-- The indices, as they rise. -/
def idx (z : Nat) : Array (Fin (z + 1)) := Array.ofFn (fun i => i)
theorem idx_size (z : Nat) : (idx z).size = z + 1 := by simp [idx]
theorem idx_get (z i : Nat) (h : i < z + 1) : (idx z)[i]!.val = i := by
  rw [getElem!_pos (idx z) i (by rw [idx_size]; exact h)]; simp [idx]

/-- What a sort leaves: the indices in the order of what F says of them. -/
def Sorted (F : Nat → Int) (z : Nat) (d : Array (Fin (z + 1))) : Prop := Sort.PermIn 0 (z + 1) (idx z) d ∧ SL F 0 (z + 1) d

theorem Sorted.size {F : Nat → Int} {z : Nat} {d : Array (Fin (z + 1))} (h : Sorted F z d) : d.size = z + 1 := by rw [h.1.1, idx_size]
theorem ext0 {β : Type} (a : Array β) (n : Nat) (h : n = a.size) : a.extract 0 n = a := by subst h; simp
theorem Sorted.perm {F : Nat → Int} {z : Nat} {d : Array (Fin (z + 1))} (h : Sorted F z d) : d.toList.Perm (List.ofFn (fun i : Fin (z + 1) => i)) := by
  have := h.1.2.2
  rw [ext0 d _ h.size.symm, ext0 (idx z) _ (idx_size z).symm] at this
  simpa [idx] using this
theorem Sorted.inj {F : Nat → Int} {z : Nat} {d : Array (Fin (z + 1))} (h : Sorted F z d) (j k : Nat) (hj : j < z + 1) (hk : k < z + 1) (e : d[j]!.val = d[k]!.val) : j = k := by
  have hn : d.toList.Nodup := by
    rw [h.perm.nodup_iff]
    rw [List.nodup_iff_pairwise_ne, List.pairwise_iff_getElem]
    intro i j hi hj hij
    simp only [List.getElem_ofFn, ne_eq, Fin.mk.injEq]; omega
  have hs := h.size
  rw [getElem!_pos d j (by omega), getElem!_pos d k (by omega)] at e
  have hp := List.pairwise_iff_getElem.1 hn
  by_cases hjk : j = k
  · exact hjk
  · exfalso
    have e2 : d[j] = d[k] := Fin.ext e
    rcases Nat.lt_or_ge j k with g | g
    · exact hp j k (by simpa using (by omega : j < d.size)) (by simpa using (by omega : k < d.size)) g (by simpa using e2)
    · exact hp k j (by simpa using (by omega : k < d.size)) (by simpa using (by omega : j < d.size)) (by omega) (by simpa using e2.symm)
theorem Sorted.surj {F : Nat → Int} {z : Nat} {d : Array (Fin (z + 1))} (h : Sorted F z d) (i : Nat) (hi : i < z + 1) : ∃ k, k < z + 1 ∧ d[k]!.val = i := by
  have : (⟨i, hi⟩ : Fin (z + 1)) ∈ d.toList := by rw [h.perm.mem_iff]; exact List.mem_ofFn.2 ⟨⟨i, hi⟩, rfl⟩
  obtain ⟨k, hk, e⟩ := List.mem_iff_getElem.1 this
  have hs := h.size
  simp only [Array.length_toList] at hk
  refine ⟨k, by omega, ?_⟩
  rw [getElem!_pos d k hk]
  simp only [Array.getElem_toList] at e
  rw [e]
end Go.Proofs.Ytgnmoneiiogoaaa

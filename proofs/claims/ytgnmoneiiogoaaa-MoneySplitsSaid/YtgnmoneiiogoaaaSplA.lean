/- What holds of all parts of a split: mathematics. No program. -/
import Derived.Test.YtgnmoneiiogoaaaSplM
namespace Go.Proofs.Ytgnmoneiiogoaaa
set_option linter.unusedVariables false
set_option linter.unusedSimpArgs false

theorem sumF_list (g : Nat → Int) : ∀ n, sumF g n = ((List.range n).map g).sum
  | 0 => by simp [sumF]
  | n + 1 => by rw [sumF, sumF_list g n, List.range_succ, List.map_append, List.sum_append]; simp
theorem perm_sum {l1 l2 : List Int} (h : l1.Perm l2) : l1.sum = l2.sum := by
  induction h with
  | nil => rfl
  | cons x _ ih => simp [ih]
  | swap x y l => simp only [List.sum_cons]; omega
  | trans _ _ h1 h2 => rw [h1, h2]
theorem sumF_congr {g h : Nat → Int} (n : Nat) (e : ∀ i, i < n → g i = h i) : sumF g n = sumF h n := by
  induction n with
  | zero => rfl
  | succ n ih => show sumF g n + g n = sumF h n + h n; rw [ih (fun i hi => e i (by omega)), e n (by omega)]
theorem sumF_add (g h : Nat → Int) : ∀ n, sumF (fun i => g i + h i) n = sumF g n + sumF h n
  | 0 => by simp [sumF]
  | n + 1 => by
    show sumF (fun i => g i + h i) n + (g n + h n) = sumF g n + g n + (sumF h n + h n)
    rw [sumF_add g h n]; omega

theorem Sorted.sum {F : Nat → Int} {z : Nat} {d : Array (Fin (z + 1))} (h : Sorted F z d) (g : Nat → Int) : sumF g (z + 1) = sumF (fun j => g d[j]!.val) (z + 1) := by
  rw [sumF_list, sumF_list]
  have h1 := (h.perm.map (fun x : Fin (z + 1) => g x.val))
  have e1 : (List.ofFn (fun i : Fin (z + 1) => i)).map (fun x : Fin (z + 1) => g x.val) = (List.range (z + 1)).map g := by
    apply List.ext_getElem
    · simp
    · intro i h1 h2
      simp only [List.getElem_map, List.getElem_ofFn, List.getElem_range]
  have e2 : d.toList.map (fun x : Fin (z + 1) => g x.val) = (List.range (z + 1)).map (fun j => g d[j]!.val) := by
    apply List.ext_getElem
    · simp [h.size]
    · intro i h1 h2
      have hi : i < d.size := by simpa using h1
      simp only [List.getElem_map, Array.getElem_toList, List.getElem_range]
      rw [getElem!_pos d i hi]
  rw [e1, e2] at h1
  exact (perm_sum h1).symm

theorem had1_d {F : Nat → Int} {z : Nat} {d : Array (Fin (z + 1))} (h : Sorted F z d) (r j : Nat) (hr : r ≤ z + 1) (hj : j < z + 1) : had1 d r d[j]!.val = if j < r then 1 else 0 := by
  unfold had1
  by_cases c : j < r
  · rw [if_pos c, if_pos ⟨j, c, rfl⟩]
  · rw [if_neg c, if_neg]
    rintro ⟨k, h1, h2⟩
    have := h.inj k j (by omega) hj h2
    omega
theorem sum_lt (r : Nat) : ∀ n, sumF (fun j => if j < r then (1 : Int) else 0) n = (min r n : Nat)
  | 0 => by simp [sumF]
  | n + 1 => by
    show sumF (fun j => if j < r then (1 : Int) else 0) n + (if n < r then (1 : Int) else 0) = _
    rw [sum_lt r n]
    by_cases h : n < r
    · rw [if_pos h]; omega
    · rw [if_neg h]; omega

section
variable {t : Int} {zs : List Int} {W : Int} {z r : Nat} {d : Array (Fin (z + 1))}

/-- All parts come to the total. -/
theorem all_sum (h : Sorted (Ff t zs W) z d) (hr : t - sumF (Qf t zs W) (z + 1) = r) (hr2 : r < z + 1) : sumF (fun i => Qf t zs W i + had1 d r i) (z + 1) = t := by
  rw [sumF_add, h.sum (had1 d r), sumF_congr (z + 1) (fun j hj => had1_d h r j (by omega) hj), sum_lt]
  omega

/-- Who gets a cent has a rest. -/
theorem had_rest (h : Sorted (Ff t zs W) z d) (W0 : 1 ≤ W) (hs : sumF (Ff t zs W) (z + 1) = W * r) (hr2 : r < z + 1) (i : Nat) (hi : Had d r i) : 0 < Ff t zs W i := by
  obtain ⟨k, hk, rfl⟩ := hi
  have f0 : ∀ i, 0 ≤ Ff t zs W i ∧ Ff t zs W i < W := fun i => ff_bd t zs W i W0
  by_cases c : 0 < Ff t zs W d[k]!.val
  · exact c
  · exfalso
    rw [h.sum] at hs
    have h1 : ∀ n, n ≤ z + 1 → sumF (fun j => Ff t zs W d[j]!.val) n ≤ (W - 1) * (min k n : Nat) := by
      intro n
      induction n with
      | zero => intro _; simp [sumF]
      | succ n ih =>
        intro hn
        have ih := ih (by omega)
        show sumF (fun j => Ff t zs W d[j]!.val) n + Ff t zs W d[n]!.val ≤ _
        by_cases hkn : n < k
        · have := (f0 d[n]!.val).2
          rw [show min k (n + 1) = min k n + 1 by omega, show ((min k n + 1 : Nat) : Int) = (min k n : Nat) + 1 by omega, Int.mul_add, Int.mul_one]
          omega
        · have : Ff t zs W d[n]!.val = 0 := by
            have h3 := (f0 d[n]!.val).1
            by_cases e : n = k
            · subst e; omega
            · have h4 := h.2 k n (Nat.zero_le _) (by omega) (by omega)
              unfold Rk at h4; omega
          rw [show min k (n + 1) = min k n by omega]; omega
    have h2 := h1 (z + 1) (Nat.le_refl _)
    rw [hs, show min k (z + 1) = k by omega] at h2
    have h3 := Int.mul_le_mul_of_nonneg_left (show (k : Int) + 1 ≤ r by omega) (show 0 ≤ W by omega)
    rw [Int.mul_add, Int.mul_one] at h3
    rw [Int.sub_mul, Int.one_mul] at h2
    omega

/-- A greater weight never has less. -/
theorem had_mono (h : Sorted (Ff t zs W) z d) (W0 : 1 ≤ W) (t0 : 0 ≤ t) (hr : t - sumF (Qf t zs W) (z + 1) = r) (hr2 : r < z + 1) (i k : Nat) (hi : i < z + 1) (hk : k < z + 1) (hg : zs.getD i 0 < zs.getD k 0) :
    Qf t zs W i + had1 d r i ≤ Qf t zs W k + had1 d r k := by
  have hb : ∀ i, 0 ≤ had1 d r i ∧ had1 d r i ≤ 1 := fun i => by unfold had1; split <;> omega
  have m1 : Qf t zs W i ≤ Qf t zs W k := Int.ediv_le_ediv (by omega) (Int.mul_le_mul_of_nonneg_left (by omega) t0)
  by_cases e : Qf t zs W i = Qf t zs W k
  · rcases Int.le_iff_lt_or_eq.1 t0 with t1 | t1
    · have e1 := Int.mul_ediv_add_emod (t * zs.getD i 0) W
      have e2 := Int.mul_ediv_add_emod (t * zs.getD k 0) W
      have e3 := Int.mul_lt_mul_of_pos_left hg t1
      have hF : Ff t zs W i < Ff t zs W k := by
        unfold Qf at e
        unfold Ff
        rw [e] at e1; omega
      by_cases c : Had d r i
      · obtain ⟨p, hp, rfl⟩ := c
        obtain ⟨q, hq, rfl⟩ := h.surj k hk
        have hqp : q < p := by
          rcases Nat.lt_trichotomy q p with g | g | g
          · exact g
          · subst g; omega
          · have := h.2 p q (Nat.zero_le _) g hq
            unfold Rk at this; omega
        have : had1 d r d[q]!.val = 1 := if_pos ⟨q, by omega, rfl⟩
        have := (hb d[p]!.val).2
        omega
      · have : had1 d r i = 0 := if_neg c
        have := (hb k).1
        omega
    · have hz : ∀ n, sumF (Qf t zs W) n = 0 := by
        intro n
        induction n with
        | zero => rfl
        | succ n ih => show sumF (Qf t zs W) n + Qf t zs W n = 0; rw [ih]; unfold Qf; rw [← t1]; simp
      rw [hz] at hr
      have : r = 0 := by omega
      subst this
      rw [had_zero, had_zero]; omega
  · have := (hb i).2; have := (hb k).1; omega
end
end Go.Proofs.Ytgnmoneiiogoaaa

/- Parity: mathematics: which edges count for a point, how many of a list do. -/
import Derived.Test.YthjjhfopmianoaaRiMath
namespace Go.Proofs.Ythjjhfopmianoaa
set_option linter.unusedVariables false
set_option linter.unusedSimpArgs false
open Go.RowKit

/-- Does an edge count for a point, its lower end given first? -/
def upC (p a b : Pt) : Bool := decide (a.2 ≤ p.2) && decide (p.2 < b.2) && decide (turnC a b p = 1)
def countC (p a b : Pt) : Bool := if b.2 < a.2 then upC p b a else upC p a b
theorem count_swap (p a b : Pt) : countC p b a = countC p a b := by
  unfold countC
  by_cases h1 : b.2 < a.2
  · rw [if_neg (by omega), if_pos h1]
  · rw [if_neg h1]
    by_cases h2 : a.2 < b.2
    · rw [if_pos h2]
    · rw [if_neg h2]
      have e : ∀ x y : Pt, x.2 = y.2 → upC p x y = false := by
        intro x y h
        unfold upC
        rw [Bool.and_eq_false_iff, Bool.and_eq_false_iff, decide_eq_false_iff_not, decide_eq_false_iff_not]
        left
        omega
      rw [e b a (by omega), e a b (by omega)]
def oneN (b : Bool) : Nat := if b then 1 else 0
/-- How many edges of a way count. -/
def pathN (p : Pt) : List Pt → Nat
  | [] => 0
  | [_] => 0
  | a :: b :: L => oneN (countC p a b) + pathN p (b :: L)
theorem path_join (p m : Pt) : ∀ (A B : List Pt), pathN p (A ++ m :: B) = pathN p (A ++ [m]) + pathN p (m :: B)
  | [], B => by simp [pathN]
  | [a], B => by simp [pathN]
  | a :: b :: A, B => by
    have := path_join p m (b :: A) B
    simp only [List.cons_append, pathN] at this ⊢
    omega
theorem path_rev (p : Pt) : ∀ L : List Pt, pathN p L.reverse = pathN p L
  | [] => rfl
  | [a] => rfl
  | a :: b :: L => by
    have ih := path_rev p (b :: L)
    rw [List.reverse_cons, List.reverse_cons, List.append_assoc]
    rw [show [b] ++ [a] = b :: [a] from rfl, path_join, ← List.reverse_cons, ih]
    simp only [pathN]
    rw [count_swap]
    omega
/-- How many edges of a list count. -/
def crossN (p : Pt) : List Pt → Nat
  | [] => 0
  | a :: L => pathN p (a :: L ++ [a])
def inQ (p : Pt) (K : List Pt) : Bool := decide (crossN p K % 2 = 1)
theorem cross_swap_parts (p : Pt) : ∀ A B : List Pt, crossN p (A ++ B) = crossN p (B ++ A)
  | [], B => by simp
  | a :: A, [] => by simp
  | a :: A, b :: B => by
    show pathN p (a :: A ++ b :: B ++ [a]) = pathN p (b :: B ++ a :: A ++ [b])
    rw [show a :: A ++ b :: B ++ [a] = (a :: A) ++ b :: (B ++ [a]) by simp, show b :: B ++ a :: A ++ [b] = (b :: B) ++ a :: (A ++ [b]) by simp, path_join p b (a :: A), path_join p a (b :: B), Nat.add_comm]
    rfl
theorem cross_rev (p : Pt) (K : List Pt) : crossN p K.reverse = crossN p K := by
  cases K with
  | nil => rfl
  | cons a L =>
    rw [List.reverse_cons, cross_swap_parts]
    show pathN p (a :: L.reverse ++ [a]) = pathN p (a :: L ++ [a])
    rw [← path_rev p (a :: L ++ [a])]
    simp
theorem rot_dt (K : List Pt) (k : Nat) (hk : k ≤ K.length) : rotF K (k : Int) = K.drop k ++ K.take k := by
  refine List.ext_getElem (by simp [rot_len]; omega) fun i h1 h2 => ?_
  rw [rot_len] at h1
  have e := rot_getD (K := K) (s := (k : Int)) h1
  rw [List.getD_eq_getElem?_getD, List.getElem?_eq_getElem (by rw [rot_len]; exact h1)] at e
  simp only [Option.getD_some] at e
  rw [e]
  by_cases h : i < K.length - k
  · rw [List.getElem_append_left (by rw [List.length_drop]; exact h), List.getElem_drop]
    rw [show (k : Int) + (i : Int) = ((k + i : Nat) : Int) by omega, cyc_nat (by omega), List.getD_eq_getElem?_getD, List.getElem?_eq_getElem (by omega)]
    rfl
  · rw [List.getElem_append_right (by rw [List.length_drop]; omega), List.getElem_take]
    have h3 : i - (K.drop k).length < K.length := by rw [List.length_drop]; omega
    rw [cyc_mod (i := (k : Int) + (i : Int)) (j := ((i - (K.drop k).length : Nat) : Int)) (by
      rw [List.length_drop, show (k : Int) + (i : Int) = ((i - (K.length - k) : Nat) : Int) + (K.length : Int) by omega, Int.add_emod_right]), cyc_nat h3, List.getD_eq_getElem?_getD, List.getElem?_eq_getElem h3]
    rfl
theorem cross_rot (p : Pt) (K : List Pt) (s : Int) : crossN p (rotF K s) = crossN p K := by
  by_cases hn : 0 < K.length
  · obtain ⟨k, hk, _, hm⟩ := cyc_at (K := K) hn s
    rw [rot_mod (b := (k : Int)) (by rw [hm, Int.emod_eq_of_lt (by omega) (by omega)]), rot_dt K k (by omega), cross_swap_parts, List.take_append_drop]
  · have : K = [] := by cases K with | nil => rfl | cons a l => simp at hn
    subst this
    rfl
theorem path_le (p : Pt) : ∀ L : List Pt, pathN p L ≤ L.length - 1
  | [] => by simp [pathN]
  | [a] => by simp [pathN]
  | a :: b :: L => by
    have := path_le p (b :: L)
    simp only [pathN, List.length_cons] at this ⊢
    unfold oneN
    split <;> omega
theorem cross_le (p : Pt) (K : List Pt) : crossN p K ≤ K.length := by
  cases K with
  | nil => exact Nat.le_refl _
  | cons a L =>
    have := path_le p (a :: L ++ [a])
    simp only [List.length_append, List.length_cons, List.length_nil] at this
    show pathN p (a :: L ++ [a]) ≤ _
    simp only [List.length_cons]
    omega
/-- As the loop reckons: the first k edges. -/
def crossK (p : Pt) (K : List Pt) : Nat → Nat
  | 0 => 0
  | k + 1 => crossK p K k + oneN (countC p (K.getD k (0, 0)) (K.getD ((k + 1) % K.length) (0, 0)))
theorem path_take (p : Pt) (K : List Pt) : ∀ k, k + 1 ≤ K.length → crossK p K k = pathN p (K.take (k + 1))
  | 0, h => by
    cases K with
    | nil => rfl
    | cons a L => rfl
  | k + 1, h => by
    have ih := path_take p K k (by omega)
    have e1 : K.take (k + 1) = K.take k ++ [K[k]'(by omega)] := by rw [List.take_succ_eq_append_getElem]
    have e2 : K.take (k + 1 + 1) = K.take k ++ K[k]'(by omega) :: [K[k + 1]'(by omega)] := by
      rw [List.take_succ_eq_append_getElem (show k + 1 < K.length by omega), e1, List.append_assoc]; rfl
    rw [e2, path_join, ← e1, ← ih]
    simp only [crossK, pathN]
    rw [Nat.mod_eq_of_lt (by omega), List.getD_eq_getElem?_getD, List.getD_eq_getElem?_getD, List.getElem?_eq_getElem (by omega), List.getElem?_eq_getElem (by omega)]
    rfl
theorem cross_all (p : Pt) (K : List Pt) : crossK p K K.length = crossN p K := by
  cases K with
  | nil => rfl
  | cons a L =>
    show crossK p (a :: L) (L.length + 1) = pathN p (a :: L ++ [a])
    have h := path_take p (a :: L) L.length (by simp)
    rw [List.take_of_length_le (by simp)] at h
    simp only [crossK]
    rw [h]
    have hl : ∃ A z, a :: L = A ++ [z] := ⟨(a :: L).dropLast, (a :: L).getLast (by simp), (List.dropLast_concat_getLast (by simp)).symm⟩
    obtain ⟨A, z, e⟩ := hl
    have hz : (a :: L).getD L.length (0, 0) = z := by
      have : L.length = A.length := by have := congrArg List.length e; simp at this; omega
      rw [e, this, List.getD_eq_getElem?_getD, List.getElem?_append_right (Nat.le_refl _)]; simp
    have ha : (a :: L).getD ((L.length + 1) % (a :: L).length) (0, 0) = a := by
      rw [List.length_cons, Nat.mod_self]; rfl
    rw [hz, ha, e, List.append_assoc, show [z] ++ [a] = z :: [a] from rfl, path_join p z A [a]]
    simp [pathN]
/-- Two lists with a part in common, and the list round both. -/
def joinL (a : Pt) (L : List Pt) (b : Pt) (M : List Pt) : List Pt := a :: L ++ b :: M
theorem cross_joinL (p a b : Pt) (L M : List Pt) : crossN p (joinL a L b M) = pathN p (a :: L ++ [b]) + pathN p (b :: M ++ [a]) := by
  show pathN p (a :: L ++ b :: M ++ [a]) = _
  rw [show a :: L ++ b :: M ++ [a] = (a :: L) ++ b :: (M ++ [a]) by simp, path_join p b (a :: L) (M ++ [a])]; rfl
theorem cross_adds (p f t : Pt) (part one two : List Pt) : (crossN p (joinL f part t one) + crossN p (joinL t part.reverse f two)) % 2 = crossN p (joinL f two t one) % 2 := by
  rw [cross_joinL, cross_joinL, cross_joinL]
  have : pathN p (t :: part.reverse ++ [f]) = pathN p (f :: part ++ [t]) := by
    rw [← path_rev p (f :: part ++ [t])]; simp
  rw [this]; omega
theorem in_adds (p f t : Pt) (part one two : List Pt) : (inQ p (joinL f part t one) != inQ p (joinL t part.reverse f two)) = inQ p (joinL f two t one) := by
  have h := cross_adds p f t part one two
  unfold inQ
  rw [Bool.eq_iff_iff]
  simp only [bne_iff_ne, ne_eq, decide_eq_decide, decide_eq_true_eq]
  omega
theorem path_map (p : Pt) (f : Pt → Pt) (q : Pt) : ∀ K : List Pt, (∀ a ∈ K, ∀ b ∈ K, countC q (f a) (f b) = countC p a b) → pathN q (K.map f) = pathN p K
  | [], _ => rfl
  | [a], _ => rfl
  | a :: b :: L, h => by
    have ih := path_map p f q (b :: L) (fun x hx y hy => h x (List.mem_cons_of_mem _ hx) y (List.mem_cons_of_mem _ hy))
    simp only [List.map_cons, pathN] at ih ⊢
    rw [h a (by simp) b (by simp), ih]
theorem cross_map (p : Pt) (f : Pt → Pt) (q : Pt) (K : List Pt) (h : ∀ a ∈ K, ∀ b ∈ K, countC q (f a) (f b) = countC p a b) : crossN q (K.map f) = crossN p K := by
  cases K with
  | nil => rfl
  | cons a L =>
    show pathN q (f a :: L.map f ++ [f a]) = pathN p (a :: L ++ [a])
    have := path_map p f q (a :: L ++ [a]) (fun x hx y hy => h x (by simp at hx; simp; rcases hx with h | h | h <;> simp [h]) y (by simp at hy; simp; rcases hy with h | h | h <;> simp [h]))
    simpa using this
theorem count_mov {u p a b : Pt} (hp : okC p = true) (ha : okC a = true) (hb : okC b = true) (hp' : okC (movQ u p) = true) (ha' : okC (movQ u a) = true) (hb' : okC (movQ u b) = true) : countC (movQ u p) (movQ u a) (movQ u b) = countC p a b := by
  have e : ∀ x y : Pt, okC x = true → okC y = true → okC (movQ u x) = true → okC (movQ u y) = true → upC (movQ u p) (movQ u x) (movQ u y) = upC p x y := by
    intro x y h1 h2 h3 h4
    unfold upC
    rw [turnC_eq h3 h4 hp', turnC_eq h1 h2 hp]
    have : detQ (movQ u x) (movQ u y) (movQ u p) = detQ x y p := det_move _ _ _ _ _ _ _ _
    rw [this]
    congr 1
    congr 1
    · exact decide_eq_decide.2 (by unfold movQ; simp only; omega)
    · exact decide_eq_decide.2 (by unfold movQ; simp only; omega)
  unfold countC
  rw [e b a hb ha hb' ha', e a b ha hb ha' hb']
  by_cases h : b.2 < a.2
  · rw [if_pos h, if_pos (by unfold movQ; simp only; omega)]
  · rw [if_neg h, if_neg (by unfold movQ; simp only; omega)]
end Go.Proofs.Ythjjhfopmianoaa

/- Numbers, texts and lists as bytes, read at a place: mathematics. -/
import Derived.Test.YtfapldajodobhaaOctM
namespace Go.Proofs.Ytfapldajodobhaa
set_option linter.unusedVariables false
set_option linter.unusedSimpArgs false
open Go.RowKit

def encN (n : Int) : List UInt8 := encR (rank n)
def encT (s : List UInt8) : List UInt8 := encN s.length ++ s
def encL (l : List Int) : List UInt8 := encN l.length ++ l.flatMap encN
def I64 (n : Int) : Prop := -9223372036854775808 ≤ n ∧ n ≤ 9223372036854775807

/-- Get: number, place behind, fault, its place. -/
def getP (L : List UInt8) (at' : Int) : Int × Int × Int × Int :=
  if at' < 0 ∨ (L.length : Int) < at' then (0, 0, 5, 0)
  else match getS 0 0 (L.drop at'.toNat) with
    | (0, r, k) => (numOf r, at' + (k : Nat), 0, 0)
    | (1, _, _) => (0, 0, 4, L.length)
    | (2, _, i) => (0, 0, 5, at' + (i : Nat))
    | (_, _, i) => (0, 0, 4, at' + (i : Nat))
/-- The length of what follows. -/
def lenP (L : List UInt8) (at' most : Int) : Int × Int × Int × Int :=
  if most < 0 then (0, 0, 2, 0)
  else if (getP L at').2.2.1 ≠ 0 then (0, 0, (getP L at').2.2.1, (getP L at').2.2.2)
  else if (getP L at').1 < 0 then (0, 0, 5, at')
  else if most < (getP L at').1 then (0, 0, 3, at')
  else ((getP L at').1, (getP L at').2.1, 0, 0)
def textP (L : List UInt8) (at' most : Int) : List UInt8 × Int × Int × Int :=
  if (lenP L at' most).2.2.1 ≠ 0 then ([], 0, (lenP L at' most).2.2.1, (lenP L at' most).2.2.2)
  else if (L.length : Int) - (lenP L at' most).2.1 < (lenP L at' most).1 then ([], 0, 4, L.length)
  else ((L.drop (lenP L at' most).2.1.toNat).take (lenP L at' most).1.toNat, (lenP L at' most).2.1 + (lenP L at' most).1, 0, 0)
/-- So many numbers, from a place on, behind those read before. -/
def listS (L : List UInt8) : Nat → Int → List Int → List Int × Int × Int × Int
  | 0, p, acc => (acc, p, 0, 0)
  | n + 1, p, acc => if (getP L p).2.2.1 ≠ 0 then ([], 0, (getP L p).2.2.1, (getP L p).2.2.2) else listS L n (getP L p).2.1 (acc ++ [(getP L p).1])
def listP (L : List UInt8) (at' most : Int) : List Int × Int × Int × Int :=
  if (lenP L at' most).2.2.1 ≠ 0 then ([], 0, (lenP L at' most).2.2.1, (lenP L at' most).2.2.2)
  else listS L (lenP L at' most).1.toNat (lenP L at' most).2.1 []

theorem encN_pos (n : Int) : 1 ≤ (encN n).length := enc_pos _
theorem encN_le {n : Int} (h : I64 n) : (encN n).length ≤ 10 := enc_len10 (rank_lt h.1 h.2)

/-- What was put is got, wherever it stands. -/
theorem get_back (A B : List UInt8) {n : Int} (h : I64 n) {p : Int} (hp : p = A.length) : getP (A ++ (encN n ++ B)) p = (n, p + (encN n).length, 0, 0) := by
  subst hp
  unfold getP
  rw [if_neg (by simp only [List.length_append]; omega)]
  have e := get_enc (rank n) (rank n) 0 0 B (Nat.le_refl _) (by omega) (by simpa using rank_lt h.1 h.2) (.inl rfl)
  rw [show ((A.length : Nat) : Int).toNat = A.length by omega, List.drop_left]
  unfold encN
  rw [e]
  simp [num_rank]

/-- What is got is put as the bytes from which it was got. -/
theorem get_canon {L : List UInt8} {p n q a : Int} (h : getP L p = (n, q, 0, a)) : I64 n ∧ a = 0 ∧ ∃ i k : Nat, p = i ∧ q = i + k ∧ i + k ≤ L.length ∧ (L.drop i).take k = encN n := by
  unfold getP at h
  by_cases hc : p < 0 ∨ (L.length : Int) < p
  · rw [if_pos hc] at h; simp at h
  rw [if_neg hc] at h
  obtain ⟨i, hi⟩ : ∃ i : Nat, p = i := ⟨p.toNat, by omega⟩
  subst hi
  rw [show ((i : Nat) : Int).toNat = i by omega] at h
  generalize hg : getS 0 0 (L.drop i) = g at h
  obtain ⟨c, r, k⟩ := g
  match c, h with
  | 0, h =>
    obtain ⟨x, e1, e2, e3, e4, e5, e6⟩ := get_ok (L.drop i) 0 0 r k (by omega) hg
    injection h with h1 h; injection h with h2 h; injection h with _ h3
    have hx : r = x := by rw [e1]; simp
    subst hx
    have hb : r < 18446744073709551616 := by
      have : (2 : Nat) * 128 ^ 9 = 18446744073709551616 := by decide
      omega
    subst h1
    refine ⟨num_bd hb, h3.symm, i, k, rfl, h2.symm, ?_, ?_⟩
    · simp at e4; omega
    · unfold encN; rw [rank_num]; simpa using e2
  | 1, h => simp at h
  | 2, h => simp at h
  | c + 3, h => simp at h

theorem get_err {L : List UInt8} {p : Int} (h : (getP L p).2.2.1 ≠ 0) : (getP L p).1 = 0 ∧ (getP L p).2.1 = 0 := by
  unfold getP at h ⊢
  by_cases hc : p < 0 ∨ (L.length : Int) < p
  · rw [if_pos hc]; exact ⟨rfl, rfl⟩
  rw [if_neg hc] at h ⊢
  generalize getS 0 0 (L.drop p.toNat) = g at h ⊢
  obtain ⟨c, r, k⟩ := g
  match c, h with
  | 0, h => exact absurd rfl h
  | 1, h => exact ⟨rfl, rfl⟩
  | 2, h => exact ⟨rfl, rfl⟩
  | c + 3, h => exact ⟨rfl, rfl⟩

theorem get_short {n : Int} (h : I64 n) {j : Nat} (hj : j < (encN n).length) : (getP ((encN n).take j) 0).2.2.1 = 4 := by
  unfold getP
  rw [if_neg (by omega)]
  have := get_cut (rank n) (rank n) 0 0 j (Nat.le_refl _) (by omega) (by simpa using rank_lt h.1 h.2) (.inl rfl) hj
  show (match getS 0 0 (((encR (rank n)).take j).drop 0) with
    | (0, r, k) => (numOf r, (0 : Int) + (k : Nat), (0 : Int), (0 : Int))
    | (1, _, _) => (0, 0, 4, _)
    | (2, _, i) => (0, 0, 5, 0 + (i : Nat))
    | (_, _, i) => (0, 0, 4, 0 + (i : Nat))).2.2.1 = 4
  rw [List.drop_zero]
  generalize getS 0 0 ((encR (rank n)).take j) = g at this ⊢
  obtain ⟨c, r, k⟩ := g
  simp at this
  subst this
  rfl

theorem len_back (A B : List UInt8) {n : Nat} {most : Int} (h : (n : Int) ≤ most) (hm : most ≤ 9223372036854775807) {p : Int} (hp : p = A.length) : lenP (A ++ (encN n ++ B)) p most = ((n : Int), p + (encN n).length, 0, 0) := by
  unfold lenP
  rw [get_back A B (show I64 (n : Int) from ⟨by omega, by omega⟩) hp, if_neg (by omega), if_neg (by simp), if_neg (by first | (simp; done) | (simp; omega)), if_neg (by first | (simp; done) | (simp; omega))]

theorem text_back (A s B : List UInt8) {most : Int} (h : (s.length : Int) ≤ most) (hm : most ≤ 9223372036854775807) {p : Int} (hp : p = A.length) : textP (A ++ (encT s ++ B)) p most = (s, p + (encT s).length, 0, 0) := by
  have e := len_back A (s ++ B) h hm hp
  rw [show A ++ (encN (s.length : Int) ++ (s ++ B)) = A ++ (encT s ++ B) by unfold encT; simp] at e
  unfold textP
  rw [e, if_neg (by simp), if_neg (by subst hp; unfold encT; simp; omega)]
  subst hp
  have hd : ((A.length : Int) + ((encN (s.length : Int)).length : Int)).toNat = (A ++ encN (s.length : Int)).length := by simp; omega
  simp only [hd]
  have hL : A ++ (encT s ++ B) = (A ++ encN (s.length : Int)) ++ (s ++ B) := by unfold encT; simp
  rw [hL, List.drop_left, show ((s.length : Nat) : Int).toNat = s.length by omega, List.take_left]
  unfold encT
  simp
  omega

theorem listS_back (A B : List UInt8) : ∀ (l acc : List Int) (C : List UInt8) (p : Int), p = (A ++ C).length → (∀ x ∈ l, I64 x) → listS (A ++ C ++ (l.flatMap encN ++ B)) l.length p acc = (acc ++ l, p + (l.flatMap encN).length, 0, 0) := by
  intro l
  induction l with
  | nil => intro acc C p hp _; simp [listS]
  | cons x l ih =>
    intro acc C p hp hx
    have e := get_back (A ++ C) (l.flatMap encN ++ B) (hx x (by simp)) hp
    have hL : A ++ C ++ ((x :: l).flatMap encN ++ B) = (A ++ C) ++ (encN x ++ (l.flatMap encN ++ B)) := by simp
    rw [hL]
    show listS _ (l.length + 1) p acc = _
    rw [listS, e, if_neg (by simp)]
    have := ih (acc ++ [x]) (C ++ encN x) (p + (encN x).length) (by rw [hp]; simp; omega) (fun y hy => hx y (by simp [hy]))
    rw [show A ++ C ++ (encN x ++ (l.flatMap encN ++ B)) = A ++ (C ++ encN x) ++ (l.flatMap encN ++ B) by simp]
    simp only
    rw [this]
    simp
    omega

theorem list_back (A B : List UInt8) {l : List Int} {most : Int} (hx : ∀ x ∈ l, I64 x) (h : (l.length : Int) ≤ most) (hm : most ≤ 9223372036854775807) {p : Int} (hp : p = A.length) : listP (A ++ (encL l ++ B)) p most = (l, p + (encL l).length, 0, 0) := by
  have e := len_back A (l.flatMap encN ++ B) h hm hp
  rw [show A ++ (encN (l.length : Int) ++ (l.flatMap encN ++ B)) = A ++ (encL l ++ B) by unfold encL; simp] at e
  unfold listP
  rw [e, if_neg (by simp)]
  have := listS_back A B l [] (encN (l.length : Int)) (p + (encN (l.length : Int)).length) (by rw [hp]; simp) hx
  rw [show A ++ encN (l.length : Int) ++ (l.flatMap encN ++ B) = A ++ (encL l ++ B) by unfold encL; simp] at this
  simp only
  rw [show ((l.length : Nat) : Int).toNat = l.length by omega, this]
  unfold encL
  simp
  omega
end Go.Proofs.Ytfapldajodobhaa

/- Contracts of apportionref08: Ends, Meets. -/
import Derived.Test.YtnpkhhchbahcpaaCrA
import Derived.Test.YtnpkhhchbahcpaaPtTwo
namespace Go.Proofs.Ytnpkhhchbahcpaa
set_option linter.unusedVariables false
set_option linter.unusedSimpArgs false
open Go.RowKit

/-- One point more, if it is on, and new. -/
def stepQ (O : List (Int × Int)) (x : Int × Int) (on : Bool) : List (Int × Int) := if on && O.all (fun y => decide (y ≠ x)) then O ++ [x] else O
def ptK (a b c d : Int × Int) : Nat → Int × Int
  | 0 => a
  | 1 => b
  | 2 => c
  | _ => d
def onK (a b c d : Int × Int) : Nat → Bool
  | 0 => onB a.1 a.2 c.1 c.2 d.1 d.2
  | 1 => onB b.1 b.2 c.1 c.2 d.1 d.2
  | 2 => onB c.1 c.2 a.1 a.2 b.1 b.2
  | _ => onB d.1 d.2 a.1 a.2 b.1 b.2
def outQ (a b c d : Int × Int) : Nat → List (Int × Int)
  | 0 => []
  | k + 1 => stepQ (outQ a b c d k) (ptK a b c d k) (onK a b c d k)
theorem out_len (a b c d : Int × Int) : ∀ k, (outQ a b c d k).length ≤ k
  | 0 => by simp [outQ]
  | k + 1 => by
    have h := out_len a b c d k
    unfold outQ stepQ
    split <;> simp <;> omega
theorem out_all {a b c d : Int × Int} (h : (mayQ a b && mayQ c d) = true) : outQ a b c d 4 = commonQ a b c d := by
  unfold commonQ
  rw [if_pos h]
  rw [Bool.and_eq_true] at h
  have hab := may_ne h.1
  have hcd := may_ne h.2
  have k : ∀ {p x y : Int × Int}, okP p.1 p.2 = true → okP x.1 x.2 = true → okP y.1 y.2 = true → onB p.1 p.2 x.1 x.2 y.1 y.2 = decide (onQ p x y) := by
    intro p x y h1 h2 h3
    unfold onB
    rw [h1, h2, h3]; rfl
  have h1 := h.1
  have h2 := h.2
  unfold mayQ at h1 h2
  rw [Bool.and_eq_true, Bool.and_eq_true] at h1 h2
  obtain ⟨⟨va, vb⟩, _⟩ := h1
  obtain ⟨⟨vc, vd⟩, _⟩ := h2
  simp only [outQ, ptK, onK]
  unfold endsQ
  rw [k va vc vd, k vb vc vd, k vc va vb, k vd va vb]
  have q1 : c = a → onQ a c d := fun e => by rw [e]; exact onQ_left
  have q2 : c = b → onQ b c d := fun e => by rw [e]; exact onQ_left
  have q3 : d = a → onQ a c d := fun e => by rw [e]; exact onQ_right
  have q4 : d = b → onQ b c d := fun e => by rw [e]; exact onQ_right
  unfold stepQ
  by_cases A : onQ a c d <;> by_cases B : onQ b c d <;> by_cases C : onQ c a b <;> by_cases D : onQ d a b <;> simp [A, B, C, D] <;> (try simp [hab, hcd]) <;> grind

theorem powns_below {w w' : World} {base e size n : Nat} {v : Value} {xs : List Value} (h : w.ownsRow base e size v n xs) (hb : Below w.heap.size w w') : w'.ownsRow base e size v n xs := by
  obtain ⟨h1, h2⟩ := h
  refine ⟨h1, ?_⟩
  rcases h2 with h2 | ⟨g, cap, cur, hv, hg, hc, hr⟩
  · exact .inl h2
  · exact .inr ⟨g, cap, cur, hv, hg, (hb.block g (Array.getElem?_eq_some_iff.1 hc).1).trans hc, hr⟩
theorem powns_block {w : World} {base e size n : Nat} {v : Value} {xs : List Value} (h : w.ownsRow base e size v n xs) : ∀ k, v.ownBlock = some k → base ≤ k := by
  obtain ⟨_, h2⟩ := h
  intro k hk
  rcases h2 with ⟨rfl, _⟩ | ⟨g, cap, cur, rfl, hg, _⟩
  · cases hk
  · simp [Value.ownBlock] at hk; omega
theorem pcells_app : ∀ (K M : List (Int × Int)), pcells (K ++ M) = pcells K ++ pcells M
  | [], M => rfl
  | p :: K, M => by simp [pcells, pcells_app K M]
theorem pnil_owns (w : World) (base : Nat) : w.ownsRow base 31 2 (.slice none 0 0) 0 (pcells []) := ⟨rfl, .inl ⟨rfl, rfl⟩⟩
theorem wpList_papp {ops : Array Oper} {rest : List Oper} {o : Oper} {a : Act} {w : World} {Q : Exit → Act → World → Prop} (hgd : o.guard = none) (s x : Operand)
    (ho : o.op = .call { callee := .builtin .append, args := #[s, x], argTypes := #[23, 23] }) (base : Nat) (v : Value) (n : Nat) (K : List (Int × Int)) (hs : a.eval s = v) (hown : w.ownsRow base 31 2 v n (pcells K))
    (g : Nat) (px py : Int) (hx : a.eval x = .slice (some ⟨g, 0, none⟩) 1 1) (h0 : w.cell? ⟨g, 0, none⟩ = some (.int .i64 px)) (h1 : w.cell? ⟨g, 1, none⟩ = some (.int .i64 py)) (hm : n ≤ 500) (hb : base ≤ w.heap.size)
    (h : ∀ v' w', w'.ownsRow base 31 2 v' (n + 1) (pcells (K ++ [(px, py)])) → w.grownBy w' v.ownBlock → wpList Try.prog ops Q rest (a.put o.dst v') w') : wpList Try.prog ops Q (o :: rest) a w := by
  obtain ⟨i0, hi0, hz0, hz1, hz2⟩ := info_pt
  refine wpList_append_own _ hgd s x _ ho base 31 i0 _ 2 16 Try.underlying23 hi0 hz0 hz1 hz2 rfl (by decide) _ n (pcells K) hs hown ⟨g, 0, none⟩ 1 1 (pcells [(px, py)]) hx
    rfl ?_ (pcells_one _) (by simp only [maxLen]; omega) (by omega) hb ?_
  · intro j u hu
    match j, hu with
    | 0, hu => simp [pcells] at hu; subst hu; exact h0
    | 1, hu => simp [pcells] at hu; subst hu; exact h1
  · intro v' w' hown' hg _
    rw [← pcells_app] at hown'
    exact h _ _ hown' hg
theorem grown_below {B : Nat} {a w w' : World} {row : Option Nat} (h : Below B a w) (hg : w.grownBy w' row) (hB : B ≤ w.heap.size) (hr : ∀ k, row = some k → B ≤ k) : Below B a w' := h.grown hg hB hr

/-- Between two rounds. -/
def EndsAt (W : World) (a b c d : Int × Int) (v i : Value) (wr : World) : Prop :=
  ∃ k : Nat, i = .int .i64 (k : Int) ∧ k ≤ 4 ∧ wr.ownsRow W.heap.size 31 2 v (outQ a b c d k).length (pcells (outQ a b c d k)) ∧ Below W.heap.size W wr
def NewAt (wr : World) (O : List (Int × Int)) (x : Int × Int) (on : Bool) (t i : Value) (wx : World) : Prop :=
  ∃ m : Nat, i = .int .i64 (m : Int) ∧ m ≤ O.length ∧ t = .bool (on && (O.take m).all (fun y => decide (y ≠ x))) ∧ Cls wr wx
theorem new_step {O : List (Int × Int)} {m : Nat} {u v : Int} (hm : m < O.length) (h : O.getD m (0, 0) = (u, v)) (x : Int × Int) (on : Bool) :
    (on && (O.take (m + 1)).all (fun y => decide (y ≠ x))) = ((on && (O.take m).all (fun y => decide (y ≠ x))) && decide ((u, v) ≠ x)) := by
  rw [List.take_succ_eq_append_getElem hm, List.all_append]
  rw [List.getD_eq_getElem?_getD, List.getElem?_eq_getElem hm] at h
  simp at h
  simp [h, Bool.and_assoc]

end Go.Proofs.Ytnpkhhchbahcpaa

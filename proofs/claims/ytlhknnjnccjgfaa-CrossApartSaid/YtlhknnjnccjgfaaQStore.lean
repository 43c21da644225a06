/- A region that draws its order: all its operations only read, or call what leaves further blocks alone behind, but one, which writes. One walk in the order of the text serves every order. -/
import Derived.Test.YtlhknnjnccjgfaaQTail
namespace Go.Proofs.Ytlhknnjnccjgfaa
set_option linter.unusedVariables false
set_option linter.unusedSimpArgs false
open Go.RowKit

section
variable {P : Program} {ops : Array Oper} {md : Region.Mode} {D : Bool → World → Prop} {s : Nat}

/-- What an operation does to the worlds of one class: it yields v and leaves one of another. -/
def stepUpon (P : Program) (D2 : World → Prop) (v : Value) : Result Next → Prop
  | .ok (.value u) w' => D2 w' ∧ u = v
  | .ok .skip w' => D2 w' ∧ v = undef
  | .ok (.enter f args) w' => Calls P f args w' (fun e w'' => e = .returned v ∧ D2 w'')
  | _ => False
def stepAt (P : Program) (o : Oper) (a : Act) (D1 D2 : World → Prop) (v : Value) : Prop := ∀ w, D1 w → stepUpon P D2 v ((execOp a.eval o).run P w)

/-- Operation i yields v: the writer turns the class, any other one keeps it. -/
def yields2 (P : Program) (D : Bool → World → Prop) (s i : Nat) (o : Oper) (v : Value) (a : Act) : Prop :=
  if i = s then stepAt P o a (D false) (D true) v else ∀ b, stepAt P o a (D b) (D b) v

def op2 (P : Program) (ops : Array Oper) (D : Bool → World → Prop) (s i : Nat) (K : Act → Prop) (a : Act) : Prop :=
  ∃ o v, ops[i]? = some o ∧ o.guard = none ∧ yields2 P D s i o v a ∧ K (a.put o.dst v)

theorem op2_mono {i : Nat} {a : Act} {K K' : Act → Prop} (h : ∀ a, K a → K' a) : op2 P ops D s i K a → op2 P ops D s i K' a :=
  fun ⟨o, v, h1, h2, h3, h4⟩ => ⟨o, v, h1, h2, h3, h _ h4⟩

theorem yields2_of_exec {i : Nat} {o : Oper} {v : Value} {a a' : Act} (h : yields2 P D s i o v a) (he : execOp a'.eval o = execOp a.eval o) : yields2 P D s i o v a' := by
  unfold yields2 stepAt at *; rw [he]; exact h

theorem wpOp_of_op2 {i : Nat} {a : Act} {K : Act → Prop} {K' : Act → World → Prop} {Q' : Exit → Act → World → Prop} {w : World} (b : Bool) (hb : i = s → b = false) (hw : D b w)
    (h : ∀ a w', D (b || i == s) w' → K a → K' a w') (hh : op2 P ops D s i K a) : wpOp P ops Q' i K' a w := by
  obtain ⟨o, v, h1, h2, h3, h4⟩ := hh
  unfold wpOp
  simp only [h1]
  rw [if_pos (by simp [Region.wanted, h2])]
  refine .inl ?_
  have hst : stepUpon P (D (b || i == s)) v ((execOp a.eval o).run P w) := by
    unfold yields2 at h3
    by_cases hi : i = s
    · rw [if_pos hi] at h3
      have := hb hi; subst this
      simpa [hi] using h3 w hw
    · rw [if_neg hi] at h3
      rw [show (i == s) = false by simpa using hi, Bool.or_false]
      exact h3 b w hw
  unfold Oper.wp
  generalize (execOp a.eval o).run P w = r at *
  cases r with
  | ok n w' =>
    cases n <;> simp only [stepUpon] at hst <;> simp only [Oper.upon]
    case value u => obtain ⟨e1, rfl⟩ := hst; exact h _ _ e1 h4
    case skip => obtain ⟨e1, rfl⟩ := hst; exact h _ _ e1 h4
    case enter f args => exact hst.mono fun e w'' ⟨he, hw''⟩ => by subst he; exact h _ _ hw'' h4
  | halt x w' => simp only [stepUpon] at hst

theorem op2_put {j i : Nat} {oi oj : Oper} {v : Value} (hj : ops[j]? = some oj) (hap : oi.apart ops oj = true)
    (hsi : ∀ cs b, oi.op ≠ .select cs b) (hsj : ∀ cs b, oj.op ≠ .select cs b) {K : Act → Prop} {a : Act}
    (hy : yields2 P D s i oi v a) (h : op2 P ops D s j K (a.put oi.dst v)) : op2 P ops D s j (fun a' => yields2 P D s i oi v a' ∧ K (a'.put oi.dst v)) a := by
  obtain ⟨h1, h2, h3⟩ := Oper.apart_spec hap
  obtain ⟨o, u, k1, k2, k3, k4⟩ := h
  obtain rfl : oj = o := by rw [hj] at k1; exact Option.some.inj k1
  refine ⟨oj, u, hj, k2, yields2_of_exec k3 (execOp_put oj hsj a oi.dst v h1).symm, yields2_of_exec hy (execOp_put oi hsi a oj.dst u h3), ?_⟩
  rw [← Act.put_comm a v u h2]; exact k4

/-- Whatever ready operation is taken. -/
def all2 (P : Program) (md : Region.Mode) (ops : Array Oper) (D : Bool → World → Prop) (s : Nat) (L : Array Bool → Act → Prop) : Nat → Array Bool → Act → Prop
  | 0, listed, a => L listed a
  | f + 1, listed, a => Region.ready md ops listed ≠ [] ∧ ∀ i ∈ Region.ready md ops listed, op2 P ops D s i (all2 P md ops D s L f (listed.setIfInBounds i true)) a

theorem any_of_all2 {L : Array Bool → Act → Prop} {Q' : Exit → Act → World → Prop} (hL : ∀ listed a w, listed.size = ops.size → D (listed.getD s false) w → L listed a → wpAny P md ops Q' 0 listed a w) :
    ∀ (f : Nat) (listed : Array Bool) (a : Act) (w : World), listed.size = ops.size → D (listed.getD s false) w → all2 P md ops D s L f listed a → wpAny P md ops Q' f listed a w := by
  intro f
  induction f with
  | zero => intro listed a w hs hw h; exact hL _ _ _ hs hw h
  | succ f ih =>
    intro listed a w hs hw h
    refine ⟨fun h0 => absurd h0 h.1, fun i hi => ?_⟩
    have hun := (mem_ready.1 hi).1
    have hil : i < listed.size := by
      obtain ⟨_, oi, hoi, _⟩ := mem_ready.1 hi
      rw [hs]; exact (Array.getElem?_eq_some_iff.1 hoi).1
    refine wpOp_of_op2 (listed.getD s false) (fun e => by subst e; exact getD_both hun) hw (fun a' w' hw' h' => ih _ a' w' (by simpa using hs) ?_ h') (h.2 i hi)
    by_cases hi' : i = s
    · subst hi'
      have : (listed.setIfInBounds i true).getD i false = true := by simp [hil]
      rw [this]; simpa using hw'
    · rw [getD_set_ne false hi']
      rw [show (i == s) = false by simpa using hi', Bool.or_false] at hw'
      exact hw'

theorem all2_first {i : Nat} {oi : Oper} {v : Value} {L : Array Bool → Act → Prop} (hi : ops[i]? = some oi) (hg : oi.guard = none) (hsel : ∀ (j : Nat) (o : Oper) cs b, ops[j]? = some o → o.op ≠ .select cs b)
    (hdone : ∀ listed a, L listed a → Region.ready md ops listed = []) :
    ∀ (f : Nat) (listed : Array Bool) (a : Act),
      (∀ j oj, ops[j]? = some oj → j ≠ i → listed.getD j true = false → (∀ e ∈ oj.after, Region.binds md e = true → e.on ≠ i) → oi.apart ops oj = true) →
      i ∈ Region.ready md ops listed → yields2 P D s i oi v a →
      all2 P md ops D s L f (listed.setIfInBounds i true) (a.put oi.dst v) → all2 P md ops D s L (f + 1) listed a := by
  intro f
  induction f with
  | zero =>
    intro listed a _ hr hy H
    constructor
    · intro h; rw [h] at hr; cases hr
    · intro j hj
      by_cases hji : j = i
      · subst hji; exact ⟨oi, v, hi, hg, hy, H⟩
      · have h1 := ready_mono hj hji
        rw [hdone _ _ H] at h1
        cases h1
  | succ f ih =>
    intro listed a hfree hr hy H
    have hun := (mem_ready.1 hr).1
    constructor
    · intro h; rw [h] at hr; cases hr
    · intro j hj
      by_cases hji : j = i
      · subst hji; exact ⟨oi, v, hi, hg, hy, H⟩
      · have h1 := H.2 j (ready_mono hj hji)
        obtain ⟨hjun, oj, hoj, hall⟩ := mem_ready.1 hj
        have hnot : ∀ e ∈ oj.after, Region.binds md e = true → e.on ≠ i := by
          intro e he hb heq
          have h2 := hall e he hb
          rw [heq, getD_both hun] at h2
          cases h2
        have h2 := op2_put hoj (hfree j oj hoj hji hjun hnot) (fun cs b => hsel i oi cs b hi) (fun cs b => hsel j oj cs b hoj) hy h1
        refine op2_mono (fun a' h3 => ih (listed.setIfInBounds j true) a' ?_ (ready_mono hr (Ne.symm hji)) h3.1 ?_) h2
        · intro k ok hk hki hunk hno
          refine hfree k ok hk hki ?_ hno
          by_cases hjk : j = k
          · subst hjk; exact hjun
          · rw [getD_set_ne true hjk] at hunk; exact hunk
        · rw [Array.setIfInBounds_comm _ _ hji]; exact h3.2

/-- The walk in the order of the text. -/
def walk2 (P : Program) (D : Bool → World → Prop) (s : Nat) (Q : Act → Prop) : List Oper → Nat → Act → Prop
  | [], _, a => Q a
  | o :: rest, k, a => o.guard = none ∧ ∃ v, yields2 P D s k o v a ∧ walk2 P D s Q rest (k + 1) (a.put o.dst v)

theorem all2_lex {Q : Act → Prop} (hsel : Region.noSelect ops = true) : ∀ (l : List Oper) (k : Nat) (listed : Array Bool) (a : Act), (∀ j, l[j]? = ops[k + j]?) → k + l.length = ops.size →
    listed.size = ops.size → (∀ j, j < k → listed.getD j false = true) →
    Region.lexFrom md ops l.length k listed = true → walk2 P D s Q l k a →
    all2 P md ops D s (fun listed' a' => Region.ready md ops listed' = [] ∧ (∀ j, j < ops.size → listed'.getD j false = true) ∧ Q a') l.length listed a := by
  intro l
  induction l with
  | nil =>
    intro k listed a _ hk _ hd hB h
    refine ⟨by simpa [Region.lexFrom] using hB, fun j hj => hd j (by simp at hk; omega), h⟩
  | cons o l ih =>
    intro k listed a hl hk hs hd hB h
    have h0 : ops[k]? = some o := by simpa using (hl 0).symm
    simp only [List.length_cons, Region.lexFrom, Bool.and_eq_true] at hB
    obtain ⟨⟨hr, hf⟩, hB'⟩ := hB
    obtain ⟨hg, v, hy, hK⟩ := h
    have hks : k < ops.size := (Array.getElem?_eq_some_iff.1 h0).1
    refine all2_first h0 hg (Region.noSelect_spec hsel) (fun listed' a' hL => hL.1) l.length listed a (Region.free_spec h0 hf) (by simpa using hr) hy ?_
    refine ih (k + 1) _ _ (fun j => ?_) (by simp only [List.length_cons] at hk; omega) (by simpa using hs) (fun j hj => ?_) hB' hK
    · have := hl (j + 1)
      simpa [Nat.add_assoc, Nat.add_comm 1 j] using this
    · by_cases hjk : k = j
      · subst hjk; simp [hs, hks]
      · rw [getD_set_ne false hjk]; exact hd j (by omega)

theorem region_store {id : Nat} {Q : Exit → Act → World → Prop} {a : Act} {w : World} {l : List Oper} (D : Bool → World → Prop) (s : Nat) (hsl : s < l.length) (hm : P.follows .mixedOrders = true) (hB : Region.lexB .any l.toArray = true)
    (hC : D false { w with drawn := w.drawn + 1 }) (h : walk2 P D s (fun a' => ∀ w', D true w' → Q .normal a' w') l 0 a) : (Code.region id l.toArray true).wp P Q a w := by
  simp only [Region.lexB, Bool.and_eq_true] at hB
  refine wp_region_any hm ?_
  have H := all2_lex (P := P) (D := D) (s := s) (md := .any) hB.1 l 0 (Array.replicate l.toArray.size false) a (by simp) (by simp) (by simp) (fun j hj => by omega) (by simpa using hB.2) h
  have H2 : all2 P .any l.toArray D s (fun listed' a' => Region.ready .any l.toArray listed' = [] ∧ (∀ j, j < l.toArray.size → listed'.getD j false = true) ∧ ∀ w', D true w' → Q .normal a' w') l.toArray.size (Array.replicate l.toArray.size false) a := by
    simpa using H
  refine any_of_all2 (Q' := Q) ?_ _ _ _ _ (by simp) (by rw [getD_replicate_false]; exact hC) H2
  intro listed a' w' hs hw hL
  have := hL.2.1 s (by simpa using hsl)
  rw [this] at hw
  exact ⟨hL.1, hL.2.2 w' hw⟩
end

/-- Ahead of the writer: W1 with blocks behind; behind it: W2. -/
def DD (W1 W2 : World) (b : Bool) (w : World) : Prop := Cls (if b then W2 else W1) w

section
variable {P : Program} {W1 W2 : World} {Q : Act → Prop} {rest : List Oper} {o : Oper} {a : Act} {s k : Nat}

theorem s_op (hgd : o.guard = none) (hk : (k == s) = false) (v : Value) (hv : ∀ W, W = W1 ∨ W = W2 → stepAt P o a (Cls W) (Cls W) v) (h : walk2 P (DD W1 W2) s Q rest (k + 1) (a.put o.dst v)) : walk2 P (DD W1 W2) s Q (o :: rest) k a := by
  refine ⟨hgd, v, ?_, h⟩
  unfold yields2
  rw [if_neg (by simpa using hk)]
  intro b
  cases b
  · exact hv W1 (.inl rfl)
  · exact hv W2 (.inr rfl)

/-- A plain operation: it yields v in whatever world. -/
theorem s_val (hgd : o.guard = none) (hk : (k == s) = false) (v : Value) (hv : ∀ w, (execOp a.eval o).run P w = .ok (.value v) w) (h : walk2 P (DD W1 W2) s Q rest (k + 1) (a.put o.dst v)) : walk2 P (DD W1 W2) s Q (o :: rest) k a :=
  s_op hgd hk v (fun W _ w hw => by rw [hv w]; exact ⟨hw, rfl⟩) h

theorem s_not (hgd : o.guard = none) (hk : (k == s) = false) (ty : TypeId) (x : Operand) (ho : o.op = .unOp .not ty x) (b : Bool) (hx : a.eval x = .bool b) (h : walk2 P (DD W1 W2) s Q rest (k + 1) (a.put o.dst (.bool (!b)))) : walk2 P (DD W1 W2) s Q (o :: rest) k a :=
  s_val hgd hk _ (fun w => by simp only [execOp, ho, hx]; rfl) h
theorem s_assign (hgd : o.guard = none) (hk : (k == s) = false) (x : Operand) (ho : o.op = .assign x) (v : Value) (hx : a.eval x = v) (h : walk2 P (DD W1 W2) s Q rest (k + 1) (a.put o.dst v)) : walk2 P (DD W1 W2) s Q (o :: rest) k a :=
  s_val hgd hk _ (fun w => by simp only [execOp, ho, hx]; rfl) h
theorem s_move (hgd : o.guard = none) (hk : (k == s) = false) (x : Operand) (ho : o.op = .move x) (v : Value) (hx : a.eval x = v) (h : walk2 P (DD W1 W2) s Q rest (k + 1) (a.put o.dst v)) : walk2 P (DD W1 W2) s Q (o :: rest) k a :=
  s_val hgd hk _ (fun w => by simp only [execOp, ho, hx]; rfl) h

theorem s_call (hgd : o.guard = none) (hk : (k == s) = false) (f : FuncId) (xs : Array Operand) (ts : Array TypeId) (ho : o.op = .call { callee := .value (.func f), args := xs, argTypes := ts }) (vs : Array Value) (hvs : xs.map a.eval = vs)
    (hcf : ∀ w, (callFunc f vs).run P w = .ok (.enter f vs) w) (v : Value) (hc : ∀ w, Calls P f vs w fun e w' => e = .returned v ∧ Junk w w')
    (h : walk2 P (DD W1 W2) s Q rest (k + 1) (a.put o.dst v)) : walk2 P (DD W1 W2) s Q (o :: rest) k a := by
  refine s_op hgd hk v (fun W _ w hw => ?_) h
  have : (execOp a.eval o).run P w = .ok (.enter f vs) w := by
    simp only [execOp, ho, resolve, hvs]
    simp [Act.eval, Deferred.ofValue, invoke, hcf, Sem.run_bind]
  rw [this]
  refine (hc w).mono ?_
  rintro e w' ⟨rfl, J, d, rfl⟩
  obtain ⟨J0, d0, rfl⟩ := hw
  exact ⟨rfl, J0 ++ J, d, by rw [plus_plus]⟩

theorem s_load (hgd : o.guard = none) (hk : (k == s) = false) (ty : TypeId) (x : Operand) (ho : o.op = .load ty x) (d : TypeDesc) (hu : P.underlying ty = some d) (hd : (match d with | .struct _ | .array _ _ => true | _ => false) = true)
    (n : Nat) (hi : (P.info? ty).map (·.size) = some n) (g : Nat) (hx : a.eval x = .pointer (some ⟨g, 0, none⟩)) (hg : g < W1.heap.size) (hg2 : g < W2.heap.size) (c : Array Value) (hr : W1.rowAt g = some c) (hr2 : W2.rowAt g = some c) (hc : c.size = n)
    (h : walk2 P (DD W1 W2) s Q rest (k + 1) (a.put o.dst (.agg c))) : walk2 P (DD W1 W2) s Q (o :: rest) k a := by
  refine s_op hgd hk _ (fun W hW w hw => ?_) h
  have hgW : g < W.heap.size := by rcases hW with rfl | rfl <;> assumption
  have hrW : W.rowAt g = some c := by rcases hW with rfl | rfl <;> assumption
  obtain ⟨J, e, rfl⟩ := hw
  have hr' : (W.plus J e).rowAt g = some c := by rw [rowAt_plus _ _ _ _ hgW]; exact hrW
  obtain ⟨t, hh⟩ := rowAt_some hr'
  have hl := run_loadVar_row (P := P) (W.plus J e) g t ty c (0, 0) d hh hu hd (by rw [hi, hc])
  have : (execOp a.eval o).run P (W.plus J e) = .ok (.value (.agg c)) (W.plus J e) := by
    simp only [execOp, ho, hx, Instr.loadAt, Instr.sureAddr, Sem.run_bind, Sem.run_pure, Result.andThen_ok, hl]
  rw [this]
  exact ⟨⟨J, e, rfl⟩, rfl⟩

/-- The writer: a whole struct or array into a block. -/
theorem s_store (hgd : o.guard = none) (hk : (k == s) = true) (ty : TypeId) (x y : Operand) (ho : o.op = .store ty x y)
    (n : Nat) (hi : (P.info? ty).map (·.size) = some n) (g : Nat) (hx : a.eval x = .pointer (some ⟨g, 0, none⟩)) (hg : g < W1.heap.size) (c : Array Value) (hy : a.eval y = .agg c) (hc : c.size = n) (h1 : c.all (·.oneCell') = true)
    (hr : (W1.rowAt g).any (fun c => c.size == n) = true) (hW : W2 = W1.setRow g c)
    (h : walk2 P (DD W1 W2) s Q rest (k + 1) (a.put o.dst undef)) : walk2 P (DD W1 W2) s Q (o :: rest) k a := by
  refine ⟨hgd, undef, ?_, h⟩
  unfold yields2
  rw [if_pos (by simpa using hk)]
  intro w hw
  obtain ⟨J, e, rfl⟩ := hw
  have hst := run_store_rowAt (P := P) (W1.plus J e) g n ty c hi hc h1 (by rw [rowAt_plus _ _ _ _ hg]; exact hr)
  have : (execOp a.eval o).run P (W1.plus J e) = .ok .skip ((W1.plus J e).setRow g c) := by
    simp only [execOp, ho, hx, hy, Instr.storeAt, Instr.sureAddr, Sem.run_bind, Sem.run_pure, Result.andThen_ok, hst]
  rw [show (if false = true then W2 else W1) = W1 from rfl] at *
  rw [this, setRow_plus _ _ _ _ _ hg]
  exact ⟨⟨J, e, by rw [hW]; rfl⟩, rfl⟩
end
end Go.Proofs.Ytlhknnjnccjgfaa

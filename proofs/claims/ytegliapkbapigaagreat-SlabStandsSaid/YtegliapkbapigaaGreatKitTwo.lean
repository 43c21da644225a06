/- A region that draws its order: its first n operations only read, or call what leaves further blocks alone behind; then its tail, in its one order. One walk in the order of the text serves every order. A region that draws its order: all its operations only read, or call what leaves further blocks alone behind, but one, which writes. One walk in the order of the text serves every order. Quiet operations of a drawn region, one by one: values, moves, assignments. A drawn region all of whose operations read, or call what makes memory of its own only: one walk. What is left to walk stands behind a structure, so that nothing unfolds it by the way. A drawn region inside a round, or inside the wide fence, by the plain walk of its operations: all quiet; or quiet ones and then a tail in its one order. -/
import Derived.Test.YtegliapkbapigaaGreatKitOne
import Derived.Deep.Quiet
import Derived.StillTail
import Derived.RangeFuncCalls
import Derived.OrdersIn
import Derived.RangeFuncNested
namespace Go.Proofs.YtegliapkbapigaaGreat
section
set_option linter.unusedVariables false
set_option linter.unusedSimpArgs false
open Go.RowKit

/-- The worlds that are W with blocks behind. -/
def Cls (W w : World) : Prop := ∃ J d, w = W.plus J d

section
variable {P : Program} {ops : Array Oper} {md : Region.Mode} {C : World → Prop}

/-- Whatever ready operation is taken, it is one of the first n, quiet; behind f of them L holds. -/
def headQ (P : Program) (md : Region.Mode) (ops : Array Oper) (C : World → Prop) (n : Nat) (L : Array Bool → Act → Prop) : Nat → Array Bool → Act → Prop
  | 0, listed, a => L listed a
  | f + 1, listed, a => Region.ready md ops listed ≠ [] ∧ ∀ i ∈ Region.ready md ops listed, i < n ∧ qOp P ops C i (headQ P md ops C n L f (listed.setIfInBounds i true)) a

theorem any_of_headQ {n g : Nat} {L : Array Bool → Act → Prop} {Q' : Exit → Act → World → Prop} (hL : ∀ listed a w, C w → L listed a → wpAny P md ops Q' g listed a w) :
    ∀ (f : Nat) (listed : Array Bool) (a : Act) (w : World), C w → headQ P md ops C n L f listed a → wpAny P md ops Q' (f + g) listed a w := by
  intro f
  induction f with
  | zero => intro listed a w hw h; rw [Nat.zero_add]; exact hL _ _ _ hw h
  | succ f ih =>
    intro listed a w hw h
    have e : f + 1 + g = (f + g) + 1 := by omega
    rw [e]
    refine ⟨fun h0 => absurd h0 h.1, fun i hi => ?_⟩
    exact wpOp_of_qOp hw (fun a' w' hw' h' => ih _ a' w' hw' h') (h.2 i hi).2

theorem headQ_first {n i : Nat} {oi : Oper} {v : Value} {L : Array Bool → Act → Prop} (hi : ops[i]? = some oi) (hsel : ∀ (j : Nat) (o : Oper) cs b, ops[j]? = some o → o.op ≠ .select cs b)
    (hs : Region.sinkB md ops n = true) (hc : Region.chainB md ops n = true) (hn : n < ops.size) (hin : i < n)
    (hdone : ∀ listed a, L listed a → ∀ j ∈ Region.ready md ops listed, n ≤ j) :
    ∀ (f : Nat) (listed : Array Bool) (a : Act), HeadInv md ops n listed →
      (∀ j oj, ops[j]? = some oj → j ≠ i → listed.getD j true = false → (∀ e ∈ oj.after, Region.binds md e = true → e.on ≠ i) → oi.apart ops oj = true) →
      i ∈ Region.ready md ops listed → YieldsIn P ops C oi v a →
      headQ P md ops C n L f (listed.setIfInBounds i true) (a.put oi.dst v) → headQ P md ops C n L (f + 1) listed a := by
  intro f
  induction f with
  | zero =>
    intro listed a inv _ hr hy H
    have hun := (mem_ready.1 hr).1
    constructor
    · intro h; rw [h] at hr; cases hr
    · intro j hj
      have hjn : j < n := Nat.lt_of_not_le fun h => tail_waits hs hc hn inv _ i rfl hin hun j h hj
      refine ⟨hjn, ?_⟩
      by_cases hji : j = i
      · subst hji; exact hy.qOp hi H
      · have := hdone _ _ H j (ready_mono hj hji); omega
  | succ f ih =>
    intro listed a inv hfree hr hy H
    have hun := (mem_ready.1 hr).1
    constructor
    · intro h; rw [h] at hr; cases hr
    · intro j hj
      have hjn : j < n := Nat.lt_of_not_le fun h => tail_waits hs hc hn inv _ i rfl hin hun j h hj
      refine ⟨hjn, ?_⟩
      by_cases hji : j = i
      · subst hji; exact hy.qOp hi H
      · have h1 := (H.2 j (ready_mono hj hji)).2
        obtain ⟨hjun, oj, hoj, hall⟩ := mem_ready.1 hj
        have hnot : ∀ e ∈ oj.after, Region.binds md e = true → e.on ≠ i := by
          intro e he hb heq
          have h2 := hall e he hb
          rw [heq, getD_both hun] at h2
          cases h2
        have h2 := qOp_put hoj (hfree j oj hoj hji hjun hnot) (fun cs b => hsel i oi cs b hi) (fun cs b => hsel j oj cs b hoj) hy h1
        refine qOp_mono (fun a' h3 => ih (listed.setIfInBounds j true) a' (inv.set hj hjn) ?_ (ready_mono hr (Ne.symm hji)) h3.1 ?_) h2
        · intro k ok hk hki hunk hno
          refine hfree k ok hk hki ?_ hno
          by_cases hjk : j = k
          · subst hjk; exact hjun
          · rw [getD_set_ne true hjk] at hunk; exact hunk
        · rw [Array.setIfInBounds_comm _ _ hji]; exact h3.2

theorem headQ_lex {n g : Nat} {Lq : Act → Prop} (hsel : Region.noSelect ops = true) (hs : Region.sinkB md ops n = true) (hc : Region.chainB md ops n = true) (hn : n < ops.size) :
    ∀ (l : List Oper) (k : Nat) (listed : Array Bool) (a : Act), (∀ j, j < l.length → l[j]? = ops[k + j]?) → k + l.length = n → HeadInv md ops n listed →
    Region.lexHead md ops g l.length k listed = true → wpQuiet P ops C Lq l a →
    headQ P md ops C n (fun listed' a' => Region.seqB md ops g n listed' = true ∧ Lq a') l.length listed a := by
  intro l
  induction l with
  | nil =>
    intro k listed a _ hk _ hB h
    obtain rfl : k = n := by simpa using hk
    exact ⟨by simpa [Region.lexHead] using hB, h⟩
  | cons o l ih =>
    intro k listed a hl hk inv hB h
    have h0 : ops[k]? = some o := by simpa using (hl 0 (by simp)).symm
    simp only [List.length_cons, Region.lexHead, Bool.and_eq_true] at hB
    obtain ⟨⟨hr, hf⟩, hB'⟩ := hB
    have hkn : k < n := by simp only [List.length_cons] at hk; omega
    have hr' : k ∈ Region.ready md ops listed := by simpa using hr
    have hst : qOp P ops C k (wpQuiet P ops C Lq l) a := by unfold qOp; simp only [h0]; exact h
    obtain ⟨v, hy, hK⟩ := yieldsIn_of_qOp h0 hst
    refine headQ_first h0 (Region.noSelect_spec hsel) hs hc hn hkn (fun listed' a' hL => seqB_ready hL.1) l.length listed a inv (Region.free_spec h0 hf) hr' hy ?_
    refine ih (k + 1) _ _ (fun j hj => ?_) (by simp only [List.length_cons] at hk; omega) (inv.set hr' hkn) hB' hK
    have := hl (j + 1) (by simp; omega)
    simpa [Nat.add_assoc, Nat.add_comm 1 j] using this

theorem region_quiet_tail {id : Nat} {Q : Exit → Act → World → Prop} {a : Act} {w : World} {l : List Oper} (n : Nat) (hm : P.follows .mixedOrders = true) (hB : Region.lexTailB .any l.toArray n = true)
    (hC : C { w with drawn := w.drawn + 1 }) (h : wpQuiet P l.toArray C (fun a' => ∀ w', C w' → wpList P l.toArray Q (l.drop n) a' w') (l.take n) a) : (Code.region id l.toArray true).wp P Q a w := by
  simp only [Region.lexTailB, Bool.and_eq_true, decide_eq_true_eq] at hB
  obtain ⟨⟨⟨⟨hsel, hn⟩, hs⟩, hc⟩, hlex⟩ := hB
  have hn' : n < l.length := by simpa using hn
  have htl : (l.take n).length = n := by simp; omega
  have hdl : (l.drop n).length = l.toArray.size - n := by simp
  have inv0 : HeadInv .any l.toArray n (Array.replicate l.toArray.size false) :=
    ⟨by simp, fun j oj _ hl => (by rw [getD_replicate_false] at hl; cases hl), fun t _ ht => getD_in (by simpa using ht) (getD_replicate_false _ _)⟩
  have H := headQ_lex (P := P) (C := C) (md := .any) (g := l.toArray.size - n) hsel hs hc hn (l.take n) 0 _ a (fun j hj => by
    have hj' : j < n := by rw [htl] at hj; exact hj
    simp [hj']) (by simpa using htl) inv0 (by rw [htl]; exact hlex) h
  refine wp_region_any hm ?_
  have := any_of_headQ (Q' := Q) (g := l.toArray.size - n) (fun listed a' w' hw' hL => by
    have := wpAny_of_seq (md := .any) (Q' := Q) (l.drop n) n listed a' w' (fun j => by simp [List.getElem?_drop]) (by rw [hdl]; exact hL.1) (hL.2 w' hw')
    rwa [hdl] at this) _ _ _ _ hC H
  rw [htl, show n + (l.toArray.size - n) = l.toArray.size by omega] at this
  exact this
end

section
variable {P : Program} {ops : Array Oper} {W : World} {Q : Act → Prop} {rest : List Oper} {o : Oper} {a : Act}

/-- One operation that yields v in each world of the class. -/
theorem q_op {C : World → Prop} (hgd : o.guard = none) (v : Value) (hv : ∀ w, C w → o.quietAt P a C w v) (h : wpQuiet P ops C Q rest (a.put o.dst v)) : wpQuiet P ops C Q (o :: rest) a := by
  unfold wpQuiet
  rw [if_pos (by simp [Region.wanted, hgd])]
  exact ⟨v, hv, h⟩

/-- A call by a contract that leaves blocks behind alone. -/
theorem q_call (hgd : o.guard = none) (f : FuncId) (xs : Array Operand) (ts : Array TypeId) (ho : o.op = .call { callee := .value (.func f), args := xs, argTypes := ts }) (vs : Array Value) (hvs : xs.map a.eval = vs)
    (hcf : ∀ w, (callFunc f vs).run P w = .ok (.enter f vs) w) (v : Value) (hc : ∀ w, Calls P f vs w fun e w' => e = .returned v ∧ Junk w w')
    (h : wpQuiet P ops (Cls W) Q rest (a.put o.dst v)) : wpQuiet P ops (Cls W) Q (o :: rest) a := by
  refine q_op hgd v (fun w hw => ?_) h
  unfold Oper.quietAt
  have : (execOp a.eval o).run P w = .ok (.enter f vs) w := by
    simp only [execOp, ho, resolve, hvs]
    simp [Act.eval, Deferred.ofValue, invoke, hcf, Sem.run_bind]
  rw [this]
  refine ⟨rfl, (hc w).mono ?_⟩
  rintro e w' ⟨rfl, J, d, rfl⟩
  obtain ⟨J0, d0, rfl⟩ := hw
  exact ⟨rfl, J0 ++ J, d, by rw [plus_plus]⟩

/-- A whole struct or array read out of a block of W. -/
theorem q_load (hgd : o.guard = none) (ty : TypeId) (x : Operand) (ho : o.op = .load ty x) (d : TypeDesc) (hu : P.underlying ty = some d) (hd : (match d with | .struct _ | .array _ _ => true | _ => false) = true)
    (n : Nat) (hi : (P.info? ty).map (·.size) = some n) (g : Nat) (hx : a.eval x = .pointer (some ⟨g, 0, none⟩)) (hg : g < W.heap.size) (c : Array Value) (hr : W.rowAt g = some c) (hc : c.size = n)
    (h : wpQuiet P ops (Cls W) Q rest (a.put o.dst (.agg c))) : wpQuiet P ops (Cls W) Q (o :: rest) a := by
  refine q_op hgd _ (fun w hw => ?_) h
  obtain ⟨J, e, rfl⟩ := hw
  have hr' : (W.plus J e).rowAt g = some c := by rw [rowAt_plus _ _ _ _ hg]; exact hr
  obtain ⟨t, hh⟩ := rowAt_some hr'
  have hl := run_loadVar_row (P := P) (W.plus J e) g t ty c (0, 0) d hh hu hd (by rw [hi, hc])
  unfold Oper.quietAt
  have : (execOp a.eval o).run P (W.plus J e) = .ok (.value (.agg c)) (W.plus J e) := by
    simp only [execOp, ho, hx, Instr.loadAt, Instr.sureAddr, Sem.run_bind, Sem.run_pure, Result.andThen_ok, hl]
  rw [this]
  exact ⟨rfl, rfl⟩
end
end

section
set_option linter.unusedVariables false
set_option linter.unusedSimpArgs false
open Go.RowKit

section
variable {P : Program} {ops : Array Oper} {md : Region.Mode} {D : Bool → World → Prop} {s : Nat}

/-- What an operation does to the worlds of one class: it yields v and leaves one of another. -/
def stepUpon (P : Program) (D2 : World → Prop) (v : Value) : Result Next → Prop
  | .ok (.value u) w' => D2 w' ∧ u = v
  | .ok .skip w' => D2 w' ∧ v = undef
  | .ok (.enter f args) w' => Calls P f args w' (fun e w'' => e = .returned v ∧ D2 w'')
  | _ => False
def stepAt (P : Program) (o : Oper) (a : Act) (D1 D2 : World → Prop) (v : Value) : Prop := ∀ w, D1 w → stepUpon P D2 v ((execOp a.eval o).run P w)

/-- Operation i yields v: the writer turns the class, any other one keeps it. -/
def yields2 (P : Program) (D : Bool → World → Prop) (s i : Nat) (o : Oper) (v : Value) (a : Act) : Prop :=
  if i = s then stepAt P o a (D false) (D true) v else ∀ b, stepAt P o a (D b) (D b) v

def op2 (P : Program) (ops : Array Oper) (D : Bool → World → Prop) (s i : Nat) (K : Act → Prop) (a : Act) : Prop :=
  ∃ o v, ops[i]? = some o ∧ o.guard = none ∧ yields2 P D s i o v a ∧ K (a.put o.dst v)

theorem op2_mono {i : Nat} {a : Act} {K K' : Act → Prop} (h : ∀ a, K a → K' a) : op2 P ops D s i K a → op2 P ops D s i K' a :=
  fun ⟨o, v, h1, h2, h3, h4⟩ => ⟨o, v, h1, h2, h3, h _ h4⟩

theorem yields2_of_exec {i : Nat} {o : Oper} {v : Value} {a a' : Act} (h : yields2 P D s i o v a) (he : execOp a'.eval o = execOp a.eval o) : yields2 P D s i o v a' := by
  unfold yields2 stepAt at *; rw [he]; exact h

theorem wpOp_of_op2 {i : Nat} {a : Act} {K : Act → Prop} {K' : Act → World → Prop} {Q' : Exit → Act → World → Prop} {w : World} (b : Bool) (hb : i = s → b = false) (hw : D b w)
    (h : ∀ a w', D (b || i == s) w' → K a → K' a w') (hh : op2 P ops D s i K a) : wpOp P ops Q' i K' a w := by
  obtain ⟨o, v, h1, h2, h3, h4⟩ := hh
  unfold wpOp
  simp only [h1]
  rw [if_pos (by simp [Region.wanted, h2])]
  refine .inl ?_
  have hst : stepUpon P (D (b || i == s)) v ((execOp a.eval o).run P w) := by
    unfold yields2 at h3
    by_cases hi : i = s
    · rw [if_pos hi] at h3
      have := hb hi; subst this
      simpa [hi] using h3 w hw
    · rw [if_neg hi] at h3
      rw [show (i == s) = false by simpa using hi, Bool.or_false]
      exact h3 b w hw
  unfold Oper.wp
  generalize (execOp a.eval o).run P w = r at *
  cases r with
  | ok n w' =>
    cases n <;> simp only [stepUpon] at hst <;> simp only [Oper.upon]
    case value u => obtain ⟨e1, rfl⟩ := hst; exact h _ _ e1 h4
    case skip => obtain ⟨e1, rfl⟩ := hst; exact h _ _ e1 h4
    case enter f args => exact hst.mono fun e w'' ⟨he, hw''⟩ => by subst he; exact h _ _ hw'' h4
  | halt x w' => simp only [stepUpon] at hst

theorem op2_put {j i : Nat} {oi oj : Oper} {v : Value} (hj : ops[j]? = some oj) (hap : oi.apart ops oj = true)
    (hsi : ∀ cs b, oi.op ≠ .select cs b) (hsj : ∀ cs b, oj.op ≠ .select cs b) {K : Act → Prop} {a : Act}
    (hy : yields2 P D s i oi v a) (h : op2 P ops D s j K (a.put oi.dst v)) : op2 P ops D s j (fun a' => yields2 P D s i oi v a' ∧ K (a'.put oi.dst v)) a := by
  obtain ⟨h1, h2, h3⟩ := Oper.apart_spec hap
  obtain ⟨o, u, k1, k2, k3, k4⟩ := h
  obtain rfl : oj = o := by rw [hj] at k1; exact Option.some.inj k1
  refine ⟨oj, u, hj, k2, yields2_of_exec k3 (execOp_put oj hsj a oi.dst v h1).symm, yields2_of_exec hy (execOp_put oi hsi a oj.dst u h3), ?_⟩
  rw [← Act.put_comm a v u h2]; exact k4

/-- Whatever ready operation is taken. -/
def all2 (P : Program) (md : Region.Mode) (ops : Array Oper) (D : Bool → World → Prop) (s : Nat) (L : Array Bool → Act → Prop) : Nat → Array Bool → Act → Prop
  | 0, listed, a => L listed a
  | f + 1, listed, a => Region.ready md ops listed ≠ [] ∧ ∀ i ∈ Region.ready md ops listed, op2 P ops D s i (all2 P md ops D s L f (listed.setIfInBounds i true)) a

theorem any_of_all2 {L : Array Bool → Act → Prop} {Q' : Exit → Act → World → Prop} (hL : ∀ listed a w, listed.size = ops.size → D (listed.getD s false) w → L listed a → wpAny P md ops Q' 0 listed a w) :
    ∀ (f : Nat) (listed : Array Bool) (a : Act) (w : World), listed.size = ops.size → D (listed.getD s false) w → all2 P md ops D s L f listed a → wpAny P md ops Q' f listed a w := by
  intro f
  induction f with
  | zero => intro listed a w hs hw h; exact hL _ _ _ hs hw h
  | succ f ih =>
    intro listed a w hs hw h
    refine ⟨fun h0 => absurd h0 h.1, fun i hi => ?_⟩
    have hun := (mem_ready.1 hi).1
    have hil : i < listed.size := by
      obtain ⟨_, oi, hoi, _⟩ := mem_ready.1 hi
      rw [hs]; exact (Array.getElem?_eq_some_iff.1 hoi).1
    refine wpOp_of_op2 (listed.getD s false) (fun e => by subst e; exact getD_both hun) hw (fun a' w' hw' h' => ih _ a' w' (by simpa using hs) ?_ h') (h.2 i hi)
    by_cases hi' : i = s
    · subst hi'
      have : (listed.setIfInBounds i true).getD i false = true := by simp [hil]
      rw [this]; simpa using hw'
    · rw [getD_set_ne false hi']
      rw [show (i == s) = false by simpa using hi', Bool.or_false] at hw'
      exact hw'

theorem all2_first {i : Nat} {oi : Oper} {v : Value} {L : Array Bool → Act → Prop} (hi : ops[i]? = some oi) (hg : oi.guard = none) (hsel : ∀ (j : Nat) (o : Oper) cs b, ops[j]? = some o → o.op ≠ .select cs b)
    (hdone : ∀ listed a, L listed a → Region.ready md ops listed = []) :
    ∀ (f : Nat) (listed : Array Bool) (a : Act),
      (∀ j oj, ops[j]? = some oj → j ≠ i → listed.getD j true = false → (∀ e ∈ oj.after, Region.binds md e = true → e.on ≠ i) → oi.apart ops oj = true) →
      i ∈ Region.ready md ops listed → yields2 P D s i oi v a →
      all2 P md ops D s L f (listed.setIfInBounds i true) (a.put oi.dst v) → all2 P md ops D s L (f + 1) listed a := by
  intro f
  induction f with
  | zero =>
    intro listed a _ hr hy H
    constructor
    · intro h; rw [h] at hr; cases hr
    · intro j hj
      by_cases hji : j = i
      · subst hji; exact ⟨oi, v, hi, hg, hy, H⟩
      · have h1 := ready_mono hj hji
        rw [hdone _ _ H] at h1
        cases h1
  | succ f ih =>
    intro listed a hfree hr hy H
    have hun := (mem_ready.1 hr).1
    constructor
    · intro h; rw [h] at hr; cases hr
    · intro j hj
      by_cases hji : j = i
      · subst hji; exact ⟨oi, v, hi, hg, hy, H⟩
      · have h1 := H.2 j (ready_mono hj hji)
        obtain ⟨hjun, oj, hoj, hall⟩ := mem_ready.1 hj
        have hnot : ∀ e ∈ oj.after, Region.binds md e = true → e.on ≠ i := by
          intro e he hb heq
          have h2 := hall e he hb
          rw [heq, getD_both hun] at h2
          cases h2
        have h2 := op2_put hoj (hfree j oj hoj hji hjun hnot) (fun cs b => hsel i oi cs b hi) (fun cs b => hsel j oj cs b hoj) hy h1
        refine op2_mono (fun a' h3 => ih (listed.setIfInBounds j true) a' ?_ (ready_mono hr (Ne.symm hji)) h3.1 ?_) h2
        · intro k ok hk hki hunk hno
          refine hfree k ok hk hki ?_ hno
          by_cases hjk : j = k
          · subst hjk; exact hjun
          · rw [getD_set_ne true hjk] at hunk; exact hunk
        · rw [Array.setIfInBounds_comm _ _ hji]; exact h3.2

/-- The walk in the order of the text. -/
def walk2 (P : Program) (D : Bool → World → Prop) (s : Nat) (Q : Act → Prop) : List Oper → Nat → Act → Prop
  | [], _, a => Q a
  | o :: rest, k, a => o.guard = none ∧ ∃ v, yields2 P D s k o v a ∧ walk2 P D s Q rest (k + 1) (a.put o.dst v)

theorem all2_lex {Q : Act → Prop} (hsel : Region.noSelect ops = true) : ∀ (l : List Oper) (k : Nat) (listed : Array Bool) (a : Act), (∀ j, l[j]? = ops[k + j]?) → k + l.length = ops.size →
    listed.size = ops.size → (∀ j, j < k → listed.getD j false = true) →
    Region.lexFrom md ops l.length k listed = true → walk2 P D s Q l k a →
    all2 P md ops D s (fun listed' a' => Region.ready md ops listed' = [] ∧ (∀ j, j < ops.size → listed'.getD j false = true) ∧ Q a') l.length listed a := by
  intro l
  induction l with
  | nil =>
    intro k listed a _ hk _ hd hB h
    refine ⟨by simpa [Region.lexFrom] using hB, fun j hj => hd j (by simp at hk; omega), h⟩
  | cons o l ih =>
    intro k listed a hl hk hs hd hB h
    have h0 : ops[k]? = some o := by simpa using (hl 0).symm
    simp only [List.length_cons, Region.lexFrom, Bool.and_eq_true] at hB
    obtain ⟨⟨hr, hf⟩, hB'⟩ := hB
    obtain ⟨hg, v, hy, hK⟩ := h
    have hks : k < ops.size := (Array.getElem?_eq_some_iff.1 h0).1
    refine all2_first h0 hg (Region.noSelect_spec hsel) (fun listed' a' hL => hL.1) l.length listed a (Region.free_spec h0 hf) (by simpa using hr) hy ?_
    refine ih (k + 1) _ _ (fun j => ?_) (by simp only [List.length_cons] at hk; omega) (by simpa using hs) (fun j hj => ?_) hB' hK
    · have := hl (j + 1)
      simpa [Nat.add_assoc, Nat.add_comm 1 j] using this
    · by_cases hjk : k = j
      · subst hjk; simp [hs, hks]
      · rw [getD_set_ne false hjk]; exact hd j (by omega)

theorem region_store {id : Nat} {Q : Exit → Act → World → Prop} {a : Act} {w : World} {l : List Oper} (D : Bool → World → Prop) (s : Nat) (hsl : s < l.length) (hm : P.follows .mixedOrders = true) (hB : Region.lexB .any l.toArray = true)
    (hC : D false { w with drawn := w.drawn + 1 }) (h : walk2 P D s (fun a' => ∀ w', D true w' → Q .normal a' w') l 0 a) : (Code.region id l.toArray true).wp P Q a w := by
  simp only [Region.lexB, Bool.and_eq_true] at hB
  refine wp_region_any hm ?_
  have H := all2_lex (P := P) (D := D) (s := s) (md := .any) hB.1 l 0 (Array.replicate l.toArray.size false) a (by simp) (by simp) (by simp) (fun j hj => by omega) (by simpa using hB.2) h
  have H2 : all2 P .any l.toArray D s (fun listed' a' => Region.ready .any l.toArray listed' = [] ∧ (∀ j, j < l.toArray.size → listed'.getD j false = true) ∧ ∀ w', D true w' → Q .normal a' w') l.toArray.size (Array.replicate l.toArray.size false) a := by
    simpa using H
  refine any_of_all2 (Q' := Q) ?_ _ _ _ _ (by simp) (by rw [getD_replicate_false]; exact hC) H2
  intro listed a' w' hs hw hL
  have := hL.2.1 s (by simpa using hsl)
  rw [this] at hw
  exact ⟨hL.1, hL.2.2 w' hw⟩
end

/-- Ahead of the writer: W1 with blocks behind; behind it: W2. -/
def DD (W1 W2 : World) (b : Bool) (w : World) : Prop := Cls (if b then W2 else W1) w

section
variable {P : Program} {W1 W2 : World} {Q : Act → Prop} {rest : List Oper} {o : Oper} {a : Act} {s k : Nat}

theorem s_op (hgd : o.guard = none) (hk : (k == s) = false) (v : Value) (hv : ∀ W, W = W1 ∨ W = W2 → stepAt P o a (Cls W) (Cls W) v) (h : walk2 P (DD W1 W2) s Q rest (k + 1) (a.put o.dst v)) : walk2 P (DD W1 W2) s Q (o :: rest) k a := by
  refine ⟨hgd, v, ?_, h⟩
  unfold yields2
  rw [if_neg (by simpa using hk)]
  intro b
  cases b
  · exact hv W1 (.inl rfl)
  · exact hv W2 (.inr rfl)

/-- A plain operation: it yields v in whatever world. -/
theorem s_val (hgd : o.guard = none) (hk : (k == s) = false) (v : Value) (hv : ∀ w, (execOp a.eval o).run P w = .ok (.value v) w) (h : walk2 P (DD W1 W2) s Q rest (k + 1) (a.put o.dst v)) : walk2 P (DD W1 W2) s Q (o :: rest) k a :=
  s_op hgd hk v (fun W _ w hw => by rw [hv w]; exact ⟨hw, rfl⟩) h

theorem s_not (hgd : o.guard = none) (hk : (k == s) = false) (ty : TypeId) (x : Operand) (ho : o.op = .unOp .not ty x) (b : Bool) (hx : a.eval x = .bool b) (h : walk2 P (DD W1 W2) s Q rest (k + 1) (a.put o.dst (.bool (!b)))) : walk2 P (DD W1 W2) s Q (o :: rest) k a :=
  s_val hgd hk _ (fun w => by simp only [execOp, ho, hx]; rfl) h
theorem s_assign (hgd : o.guard = none) (hk : (k == s) = false) (x : Operand) (ho : o.op = .assign x) (v : Value) (hx : a.eval x = v) (h : walk2 P (DD W1 W2) s Q rest (k + 1) (a.put o.dst v)) : walk2 P (DD W1 W2) s Q (o :: rest) k a :=
  s_val hgd hk _ (fun w => by simp only [execOp, ho, hx]; rfl) h
theorem s_move (hgd : o.guard = none) (hk : (k == s) = false) (x : Operand) (ho : o.op = .move x) (v : Value) (hx : a.eval x = v) (h : walk2 P (DD W1 W2) s Q rest (k + 1) (a.put o.dst v)) : walk2 P (DD W1 W2) s Q (o :: rest) k a :=
  s_val hgd hk _ (fun w => by simp only [execOp, ho, hx]; rfl) h

theorem s_call (hgd : o.guard = none) (hk : (k == s) = false) (f : FuncId) (xs : Array Operand) (ts : Array TypeId) (ho : o.op = .call { callee := .value (.func f), args := xs, argTypes := ts }) (vs : Array Value) (hvs : xs.map a.eval = vs)
    (hcf : ∀ w, (callFunc f vs).run P w = .ok (.enter f vs) w) (v : Value) (hc : ∀ w, Calls P f vs w fun e w' => e = .returned v ∧ Junk w w')
    (h : walk2 P (DD W1 W2) s Q rest (k + 1) (a.put o.dst v)) : walk2 P (DD W1 W2) s Q (o :: rest) k a := by
  refine s_op hgd hk v (fun W _ w hw => ?_) h
  have : (execOp a.eval o).run P w = .ok (.enter f vs) w := by
    simp only [execOp, ho, resolve, hvs]
    simp [Act.eval, Deferred.ofValue, invoke, hcf, Sem.run_bind]
  rw [this]
  refine (hc w).mono ?_
  rintro e w' ⟨rfl, J, d, rfl⟩
  obtain ⟨J0, d0, rfl⟩ := hw
  exact ⟨rfl, J0 ++ J, d, by rw [plus_plus]⟩

theorem s_load (hgd : o.guard = none) (hk : (k == s) = false) (ty : TypeId) (x : Operand) (ho : o.op = .load ty x) (d : TypeDesc) (hu : P.underlying ty = some d) (hd : (match d with | .struct _ | .array _ _ => true | _ => false) = true)
    (n : Nat) (hi : (P.info? ty).map (·.size) = some n) (g : Nat) (hx : a.eval x = .pointer (some ⟨g, 0, none⟩)) (hg : g < W1.heap.size) (hg2 : g < W2.heap.size) (c : Array Value) (hr : W1.rowAt g = some c) (hr2 : W2.rowAt g = some c) (hc : c.size = n)
    (h : walk2 P (DD W1 W2) s Q rest (k + 1) (a.put o.dst (.agg c))) : walk2 P (DD W1 W2) s Q (o :: rest) k a := by
  refine s_op hgd hk _ (fun W hW w hw => ?_) h
  have hgW : g < W.heap.size := by rcases hW with rfl | rfl <;> assumption
  have hrW : W.rowAt g = some c := by rcases hW with rfl | rfl <;> assumption
  obtain ⟨J, e, rfl⟩ := hw
  have hr' : (W.plus J e).rowAt g = some c := by rw [rowAt_plus _ _ _ _ hgW]; exact hrW
  obtain ⟨t, hh⟩ := rowAt_some hr'
  have hl := run_loadVar_row (P := P) (W.plus J e) g t ty c (0, 0) d hh hu hd (by rw [hi, hc])
  have : (execOp a.eval o).run P (W.plus J e) = .ok (.value (.agg c)) (W.plus J e) := by
    simp only [execOp, ho, hx, Instr.loadAt, Instr.sureAddr, Sem.run_bind, Sem.run_pure, Result.andThen_ok, hl]
  rw [this]
  exact ⟨⟨J, e, rfl⟩, rfl⟩

/-- The writer: a whole struct or array into a block. -/
theorem s_store (hgd : o.guard = none) (hk : (k == s) = true) (ty : TypeId) (x y : Operand) (ho : o.op = .store ty x y)
    (n : Nat) (hi : (P.info? ty).map (·.size) = some n) (g : Nat) (hx : a.eval x = .pointer (some ⟨g, 0, none⟩)) (hg : g < W1.heap.size) (c : Array Value) (hy : a.eval y = .agg c) (hc : c.size = n) (h1 : c.all (·.oneCell') = true)
    (hr : (W1.rowAt g).any (fun c => c.size == n) = true) (hW : W2 = W1.setRow g c)
    (h : walk2 P (DD W1 W2) s Q rest (k + 1) (a.put o.dst undef)) : walk2 P (DD W1 W2) s Q (o :: rest) k a := by
  refine ⟨hgd, undef, ?_, h⟩
  unfold yields2
  rw [if_pos (by simpa using hk)]
  intro w hw
  obtain ⟨J, e, rfl⟩ := hw
  have hst := run_store_rowAt (P := P) (W1.plus J e) g n ty c hi hc h1 (by rw [rowAt_plus _ _ _ _ hg]; exact hr)
  have : (execOp a.eval o).run P (W1.plus J e) = .ok .skip ((W1.plus J e).setRow g c) := by
    simp only [execOp, ho, hx, hy, Instr.storeAt, Instr.sureAddr, Sem.run_bind, Sem.run_pure, Result.andThen_ok, hst]
  rw [show (if false = true then W2 else W1) = W1 from rfl] at *
  rw [this, setRow_plus _ _ _ _ _ hg]
  exact ⟨⟨J, e, by rw [hW]; rfl⟩, rfl⟩
end
end

section
set_option linter.unusedVariables false
set_option linter.unusedSimpArgs false
open Go.RowKit

section
variable {P : Program} {ops : Array Oper} {Q : Act → Prop} {rest : List Oper} {o : Oper} {a : Act}
theorem q_val {C : World → Prop} (hgd : o.guard = none) (v : Value) (hv : ∀ w, C w → (execOp a.eval o).run P w = .ok (.value v) w) (h : wpQuiet P ops C Q rest (a.put o.dst v)) : wpQuiet P ops C Q (o :: rest) a :=
  q_op hgd v (fun w hw => by unfold Oper.quietAt; rw [hv w hw]; exact ⟨rfl, rfl⟩) h
theorem q_move {C : World → Prop} (hgd : o.guard = none) (x : Operand) (ho : o.op = .move x) (v : Value) (hx : a.eval x = v) (h : wpQuiet P ops C Q rest (a.put o.dst v)) : wpQuiet P ops C Q (o :: rest) a :=
  q_val hgd v (fun w _ => by simp only [execOp, ho, hx]; rfl) h
end

theorem q_assign {P : Program} {ops : Array Oper} {Q : Act → Prop} {rest : List Oper} {o : Oper} {a : Act} {C : World → Prop} (hgd : o.guard = none) (x : Operand) (ho : o.op = .assign x) (v : Value) (hx : a.eval x = v) (h : wpQuiet P ops C Q rest (a.put o.dst v)) : wpQuiet P ops C Q (o :: rest) a :=
  q_val hgd v (fun w _ => by simp only [execOp, ho, hx]; rfl) h

theorem lt_of_cell {w : World} {b i : Nat} {v : Value} (h : w.cell? ⟨b, i, none⟩ = some v) : b < w.heap.size := by
  by_cases hb : b < w.heap.size
  · exact hb
  · simp [World.cell?, Array.getElem?_eq_none (Nat.le_of_not_lt hb)] at h
end

section
set_option linter.unusedVariables false
set_option linter.unusedSimpArgs false
open Go.RowKit

structure QW (P : Program) (ops : Array Oper) (C : World → Prop) (Q : Act → Prop) (l : List Oper) (a : Act) : Prop where
  out : wpQuiet P ops C Q l a
section
variable {P : Program} {ops : Array Oper} {C : World → Prop} {Q : Act → Prop} {rest : List Oper} {o : Oper} {a : Act}
theorem qw_nil (h : Q a) : QW P ops C Q [] a := ⟨wpQuiet_nil h⟩
theorem qw_skip (hw : Region.wanted o (yielded ops a.tmps) = false) (h : QW P ops C Q rest (a.put o.dst undef)) : QW P ops C Q (o :: rest) a := ⟨BigFrame.wpQuiet_skip hw h.out⟩
theorem qw_want (hw : Region.wanted o (yielded ops a.tmps) = true) (h : ∀ K : Act → Prop, (∀ a, QW P ops C Q rest a → K a) → o.quiet P a C K) : QW P ops C Q (o :: rest) a :=
  ⟨BigFrame.wpQuiet_want hw fun K hK => h K fun a ha => hK a ha.out⟩
end

theorem region_quiet_all {P : Program} {C : World → Prop} {id : Nat} {Q : Exit → Act → World → Prop} {a : Act} {w : World} {l : List Oper} (hm : P.follows .mixedOrders = true) (hB : Region.lexB .any l.toArray = true) (hC : C { w with drawn := w.drawn + 1 })
    (h : QW P l.toArray C (fun a' => ∀ w', C w' → Q .normal a' w') l a) : (Code.region id l.toArray true).wp P Q a w :=
  wp_region_quiet (C := C) hm hB hC (by simpa using h.out)
theorem cls_drawn (w : World) : Cls w { w with drawn := w.drawn + 1 } := ⟨#[], _, by show _ = { w with heap := w.heap ++ #[], drawn := w.drawn + 1 }; rw [Array.append_empty]⟩
theorem cls_of {w w' : World} (h : Junk w w') : Cls w w' := h
end

section
set_option linter.unusedVariables false
set_option linter.unusedSimpArgs false
open Go.RowKit

/-- No operation is a defer statement. -/
def noDefer (ops : Array Oper) : Bool := ops.all fun o => match o.op with | .defer _ => false | _ => true
theorem noDefer_at {ops : Array Oper} (h : noDefer ops = true) {i : Nat} {o : Oper} (ho : ops[i]? = some o) : ∀ c, o.op ≠ .defer c := by
  intro c e
  obtain ⟨hi, he⟩ := Array.getElem?_eq_some_iff.1 ho
  have := (Array.all_eq_true.1 h) i hi
  rw [he, e] at this
  cases this

/-- The wide fence, or a round of it. -/
structure Wd (F : Fence) : Prop where
  fn : ∀ f, F.fn f
  depth : F.depth = none
  calls : ∀ (P : Program) (n : Nat) (f : FuncId) (args : Array Value) (w : World) (R : Ending → World → Prop), Calls P f args w R → CallsIn F n P f args w R
theorem wd_wide : Wd Fence.wide := ⟨fun _ => trivial, rfl, fun _ _ _ _ _ _ h => callsIn_wide.2 h⟩
theorem wd_round (l : Nat) : Wd (Fence.wide.inRound l) := ⟨fun _ => trivial, rfl, fun _ _ _ _ _ _ h => CallsIn.inRound l (callsIn_wide.2 h)⟩

section
variable {F : Fence} {n : Nat} {P : Program} {ops : Array Oper} {md : Region.Mode} {C : World → Prop}
theorem wpOpIn_of_qOp' (hF : Wd F) (hd : noDefer ops = true) {i : Nat} {a : Act} {K : Act → Prop} {K' : Act → World → Prop} {Q' : Exit → Act → World → Prop} {w : World} (hC : C w) (h : ∀ a w', C w' → K a → K' a w') (hh : qOp P ops C i K a) :
    wpOpIn F n P ops Q' i K' a w := by
  unfold qOp at hh
  unfold wpOpIn
  split
  · rename_i ho; simp only [ho] at hh; exact h _ _ hC hh
  · rename_i o ho
    simp only [ho] at hh
    split
    · rename_i hw
      simp only [hw, if_true] at hh
      obtain ⟨v, h1, h2⟩ := hh
      have h3 := h1 w hC
      unfold Oper.quietAt at h3
      unfold Oper.wpIn
      refine ⟨fun f _ => hF.fn f, ?_⟩
      rw [Oper.semAt_eq _ _ _ (noDefer_at hd ho)]
      generalize (execOp a.eval o).run P w = r at *
      cases r with
      | ok nx w' =>
        cases nx <;> simp only [Oper.quietUpon] at h3 <;> simp only [Oper.uponIn]
        case value u =>
          obtain ⟨e1, e2⟩ := h3
          rw [e1, e2]
          exact h _ _ hC h2
        case skip =>
          obtain ⟨e1, e2⟩ := h3
          rw [e1, ← e2]
          exact h _ _ hC h2
        case enter f args =>
          obtain ⟨e1, hc⟩ := h3
          rw [e1]
          refine ⟨fun hs => (by rw [hF.depth] at hs; cases hs), hF.calls _ _ _ _ _ _ (hc.mono fun e w'' he => ?_)⟩
          obtain ⟨he, hw''⟩ := he
          subst he
          exact h _ _ hw'' h2
      | halt x w' => simp only [Oper.quietUpon] at h3
    · rename_i hw
      simp only [hw] at hh
      exact ⟨fun f _ => hF.fn f, h _ _ hC hh⟩

theorem wpAnyIn_of_quiet' (hF : Wd F) (hd : noDefer ops = true) {Q : Act → Prop} {Q' : Exit → Act → World → Prop} (hQ : ∀ a w, C w → Q a → Q' .normal a w) : ∀ (fuel : Nat) (listed : Array Bool) (a : Act) (w : World), C w →
    wpAnyQ P md ops C Q fuel listed a → wpAnyIn F n P md ops Q' fuel listed a w
  | 0, _, _, _, hw, h => ⟨h.1, hQ _ _ hw h.2⟩
  | fuel + 1, _, _, _, hw, h => ⟨fun h0 => hQ _ _ hw (h.1 h0), fun i hi => wpOpIn_of_qOp' hF hd hw (fun a' w' hw' => wpAnyIn_of_quiet' hF hd hQ fuel _ a' w' hw') (h.2 i hi)⟩

/-- All operations quiet. -/
theorem region_quiet_in (hF : Wd F) {id : Nat} {Q : Exit → Act → World → Prop} {a : Act} {w : World} {l : List Oper} (hd : noDefer l.toArray = true) (hm : P.follows .mixedOrders = true) (hB : Region.lexB .any l.toArray = true) (hC : C { w with drawn := w.drawn + 1 })
    (h : QW P l.toArray C (fun a' => ∀ w', C w' → Q .normal a' w') l a) : (Code.region id l.toArray true).wpIn F n P Q a w := by
  simp only [Region.lexB, Bool.and_eq_true] at hB
  refine wpIn_region_any hm (wpAnyIn_of_quiet' (Q := fun a' => ∀ w', C w' → Q .normal a' w') hF hd (fun _ w' hw' h => h w' hw') _ _ _ _ hC ?_)
  have := wpAnyQ_lex (P := P) (C := C) (md := .any) hB.1 l 0 (Array.replicate l.toArray.size false) a (by simp) (by simpa using hB.2) h.out
  simpa using this

theorem anyIn_of_headQ (hF : Wd F) (hd : noDefer ops = true) {k g : Nat} {L : Array Bool → Act → Prop} {Q' : Exit → Act → World → Prop} (hL : ∀ listed a w, C w → L listed a → wpAnyIn F n P md ops Q' g listed a w) :
    ∀ (f : Nat) (listed : Array Bool) (a : Act) (w : World), C w → headQ P md ops C k L f listed a → wpAnyIn F n P md ops Q' (f + g) listed a w := by
  intro f
  induction f with
  | zero => intro listed a w hw h; rw [Nat.zero_add]; exact hL _ _ _ hw h
  | succ f ih =>
    intro listed a w hw h
    have e : f + 1 + g = (f + g) + 1 := by omega
    rw [e]
    refine ⟨fun h0 => absurd h0 h.1, fun i hi => ?_⟩
    exact wpOpIn_of_qOp' hF hd hw (fun a' w' hw' h' => ih _ a' w' hw' h') (h.2 i hi).2

theorem anyIn_of_seq {Q' : Exit → Act → World → Prop} : ∀ (l : List Oper) (k : Nat) (listed : Array Bool) (a : Act) (w : World), (∀ j, l[j]? = ops[k + j]?) →
    Region.seqB md ops l.length k listed = true → wpListIn F n P ops Q' l a w → wpAnyIn F n P md ops Q' l.length listed a w
  | [], _, _, _, _, _, hB, h => ⟨by simpa [Region.seqB] using hB, h⟩
  | o :: l, k, listed, a, w, hl, hB, h => by
    have h0 : ops[k]? = some o := by simpa using (hl 0).symm
    simp only [List.length_cons, Region.seqB, Bool.and_eq_true, decide_eq_true_eq] at hB
    refine ⟨fun h1 => (by rw [hB.1] at h1; cases h1), fun i hi => ?_⟩
    rw [hB.1] at hi
    have hik : i = k := by simpa using hi
    subst hik
    have hw : wpOpIn F n P ops Q' i (wpListIn F n P ops Q' l) a w := by unfold wpOpIn; simp only [h0]; exact h
    exact wpOpIn_mono (fun a' w' h' => anyIn_of_seq l (i + 1) _ a' w' (fun j => by have := hl (j + 1); simpa [Nat.add_assoc, Nat.add_comm 1 j] using this) hB.2 h') hw

/-- Quiet ones, then a tail in its one order. -/
theorem region_tail_in (hF : Wd F) {id : Nat} {Q : Exit → Act → World → Prop} {a : Act} {w : World} {l : List Oper} (k : Nat) (hd : noDefer l.toArray = true) (hm : P.follows .mixedOrders = true) (hB : Region.lexTailB .any l.toArray k = true)
    (hC : C { w with drawn := w.drawn + 1 }) (h : QW P l.toArray C (fun a' => ∀ w', C w' → wpListIn F n P l.toArray Q (l.drop k) a' w') (l.take k) a) : (Code.region id l.toArray true).wpIn F n P Q a w := by
  simp only [Region.lexTailB, Bool.and_eq_true, decide_eq_true_eq] at hB
  obtain ⟨⟨⟨⟨hsel, hn⟩, hs⟩, hc⟩, hlex⟩ := hB
  have hn' : k < l.length := by simpa using hn
  have htl : (l.take k).length = k := by simp; omega
  have hdl : (l.drop k).length = l.toArray.size - k := by simp
  have inv0 : HeadInv .any l.toArray k (Array.replicate l.toArray.size false) :=
    ⟨by simp, fun j oj _ hl => (by rw [getD_replicate_false] at hl; cases hl), fun t _ ht => getD_in (by simpa using ht) (getD_replicate_false _ _)⟩
  have H := headQ_lex (P := P) (C := C) (md := .any) (g := l.toArray.size - k) hsel hs hc hn (l.take k) 0 _ a (fun j hj => by
    have hj' : j < k := by rw [htl] at hj; exact hj
    simp [hj']) (by simpa using htl) inv0 (by rw [htl]; exact hlex) h.out
  refine wpIn_region_any hm ?_
  have := anyIn_of_headQ (n := n) hF hd (Q' := Q) (g := l.toArray.size - k) (fun listed a' w' hw' hL => by
    have := anyIn_of_seq (F := F) (n := n) (P := P) (md := .any) (Q' := Q) (l.drop k) k listed a' w' (fun j => by simp [List.getElem?_drop]) (by rw [hdl]; exact hL.1) (hL.2 w' hw')
    rwa [hdl] at this) _ _ _ _ hC H
  rw [htl, show k + (l.toArray.size - k) = l.toArray.size by omega] at this
  exact this
end
end
end Go.Proofs.YtegliapkbapigaaGreat

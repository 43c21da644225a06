/- As XQStore, for operations behind guards that are open: one writer anywhere, all others only read or leave further blocks alone behind. -/
import Derived.Test.YtfapldajodobhaaQTail
namespace Go.Proofs.Ytfapldajodobhaa
set_option linter.unusedVariables false
set_option linter.unusedSimpArgs false
open Go.RowKit

section
variable {P : Program} {ops : Array Oper} {md : Region.Mode} {D : Bool → World → Prop} {s : Nat}

/-- What an operation does to the worlds of one class: it yields v and leaves one of another. -/
def stepUpong (P : Program) (D2 : World → Prop) (v : Value) : Result Next → Prop
  | .ok (.value u) w' => D2 w' ∧ u = v
  | .ok .skip w' => D2 w' ∧ v = undef
  | .ok (.enter f args) w' => Calls P f args w' (fun e w'' => e = .returned v ∧ D2 w'')
  | _ => False
def stepAtg (P : Program) (o : Oper) (a : Act) (D1 D2 : World → Prop) (v : Value) : Prop := ∀ w, D1 w → stepUpong P D2 v ((execOp a.eval o).run P w)

/-- An operation that cannot come up ahead of operation s. -/
def behind (md : Region.Mode) (s : Nat) (o : Oper) : Bool := o.after.toList.any fun e => Region.binds md e && e.on == s

/-- Operation i yields v: the writer turns the class, any other one keeps it. -/
def yields2g (P : Program) (md : Region.Mode) (D : Bool → World → Prop) (s i : Nat) (o : Oper) (v : Value) (a : Act) : Prop :=
  if i = s then stepAtg P o a (D false) (D true) v else if behind md s o then stepAtg P o a (D true) (D true) v else ∀ b, stepAtg P o a (D b) (D b) v

def op2g (P : Program) (md : Region.Mode) (ops : Array Oper) (D : Bool → World → Prop) (s i : Nat) (K : Act → Prop) (a : Act) : Prop :=
  ∃ o v, ops[i]? = some o ∧ Region.wanted o (yielded ops a.tmps) = true ∧ yields2g P md D s i o v a ∧ K (a.put o.dst v)

theorem op2_monog {i : Nat} {a : Act} {K K' : Act → Prop} (h : ∀ a, K a → K' a) : op2g P md ops D s i K a → op2g P md ops D s i K' a :=
  fun ⟨o, v, h1, h2, h3, h4⟩ => ⟨o, v, h1, h2, h3, h _ h4⟩

theorem yields2_of_execg {i : Nat} {o : Oper} {v : Value} {a a' : Act} (h : yields2g P md D s i o v a) (he : execOp a'.eval o = execOp a.eval o) : yields2g P md D s i o v a' := by
  unfold yields2g stepAtg at *; rw [he]; exact h

theorem wpOp_of_op2g {i : Nat} {a : Act} {K : Act → Prop} {K' : Act → World → Prop} {Q' : Exit → Act → World → Prop} {w : World} (b : Bool) (hb : i = s → b = false) (hbh : ∀ o, ops[i]? = some o → behind md s o = true → b = true) (hw : D b w)
    (h : ∀ a w', D (b || i == s) w' → K a → K' a w') (hh : op2g P md ops D s i K a) : wpOp P ops Q' i K' a w := by
  obtain ⟨o, v, h1, h2, h3, h4⟩ := hh
  unfold wpOp
  simp only [h1]
  rw [if_pos h2]
  refine .inl ?_
  have hst : stepUpong P (D (b || i == s)) v ((execOp a.eval o).run P w) := by
    unfold yields2g at h3
    by_cases hi : i = s
    · rw [if_pos hi] at h3
      have := hb hi; subst this
      simpa [hi] using h3 w hw
    · rw [if_neg hi] at h3
      rw [show (i == s) = false by simpa using hi, Bool.or_false]
      by_cases hbe : behind md s o = true
      · rw [if_pos hbe] at h3
        have := hbh o h1 hbe
        subst this
        exact h3 w hw
      · rw [if_neg hbe] at h3
        exact h3 b w hw
  unfold Oper.wp
  generalize (execOp a.eval o).run P w = r at *
  cases r with
  | ok n w' =>
    cases n <;> simp only [stepUpong] at hst <;> simp only [Oper.upon]
    case value u => obtain ⟨e1, rfl⟩ := hst; exact h _ _ e1 h4
    case skip => obtain ⟨e1, rfl⟩ := hst; exact h _ _ e1 h4
    case enter f args => exact hst.mono fun e w'' ⟨he, hw''⟩ => by subst he; exact h _ _ hw'' h4
  | halt x w' => simp only [stepUpong] at hst

theorem op2_putg {j i : Nat} {oi oj : Oper} {v : Value} (hj : ops[j]? = some oj) (hap : oi.apart ops oj = true)
    (hsi : ∀ cs b, oi.op ≠ .select cs b) (hsj : ∀ cs b, oj.op ≠ .select cs b) {K : Act → Prop} {a : Act}
    (hw : Region.wanted oi (yielded ops a.tmps) = true) (hy : yields2g P md D s i oi v a) (h : op2g P md ops D s j K (a.put oi.dst v)) : op2g P md ops D s j (fun a' => (Region.wanted oi (yielded ops a'.tmps) = true ∧ yields2g P md D s i oi v a') ∧ K (a'.put oi.dst v)) a := by
  obtain ⟨h1, h2, h3⟩ := Oper.apart_spec hap
  obtain ⟨o, u, k1, k2, k3, k4⟩ := h
  obtain rfl : oj = o := by rw [hj] at k1; exact Option.some.inj k1
  refine ⟨oj, u, hj, by rw [wanted_put oj a oi.dst v h1] at k2; exact k2, yields2_of_execg k3 (execOp_put oj hsj a oi.dst v h1).symm, ⟨by rw [wanted_put oi a oj.dst u h3]; exact hw, yields2_of_execg hy (execOp_put oi hsi a oj.dst u h3)⟩, ?_⟩
  rw [← Act.put_comm a v u h2]; exact k4

/-- Whatever ready operation is taken. -/
def all2g (P : Program) (md : Region.Mode) (ops : Array Oper) (D : Bool → World → Prop) (s : Nat) (L : Array Bool → Act → Prop) : Nat → Array Bool → Act → Prop
  | 0, listed, a => L listed a
  | f + 1, listed, a => Region.ready md ops listed ≠ [] ∧ ∀ i ∈ Region.ready md ops listed, op2g P md ops D s i (all2g P md ops D s L f (listed.setIfInBounds i true)) a

theorem ready_behind {listed : Array Bool} {i : Nat} (hi : i ∈ Region.ready md ops listed) {o : Oper} (ho : ops[i]? = some o) (hbe : behind md s o = true) : listed.getD s false = true := by
  obtain ⟨hun, oi, hoi, hall⟩ := mem_ready.1 hi
  obtain rfl : oi = o := by rw [ho] at hoi; exact (Option.some.inj hoi).symm
  unfold behind at hbe
  obtain ⟨e, he, h2⟩ := List.any_eq_true.1 hbe
  simp only [Bool.and_eq_true, beq_iff_eq] at h2
  have h3 := hall e (by simpa using he) h2.1
  rw [h2.2] at h3
  simpa using h3

theorem any_of_all2g {L : Array Bool → Act → Prop} {Q' : Exit → Act → World → Prop} (hL : ∀ listed a w, listed.size = ops.size → D (listed.getD s false) w → L listed a → wpAny P md ops Q' 0 listed a w) :
    ∀ (f : Nat) (listed : Array Bool) (a : Act) (w : World), listed.size = ops.size → D (listed.getD s false) w → all2g P md ops D s L f listed a → wpAny P md ops Q' f listed a w := by
  intro f
  induction f with
  | zero => intro listed a w hs hw h; exact hL _ _ _ hs hw h
  | succ f ih =>
    intro listed a w hs hw h
    refine ⟨fun h0 => absurd h0 h.1, fun i hi => ?_⟩
    have hun := (mem_ready.1 hi).1
    have hil : i < listed.size := by
      obtain ⟨_, oi, hoi, _⟩ := mem_ready.1 hi
      rw [hs]; exact (Array.getElem?_eq_some_iff.1 hoi).1
    refine wpOp_of_op2g (listed.getD s false) (fun e => by subst e; exact getD_both hun) (fun o ho hbe => ready_behind hi ho hbe) hw (fun a' w' hw' h' => ih _ a' w' (by simpa using hs) ?_ h') (h.2 i hi)
    by_cases hi' : i = s
    · subst hi'
      have : (listed.setIfInBounds i true).getD i false = true := by simp [hil]
      rw [this]; simpa using hw'
    · rw [getD_set_ne false hi']
      rw [show (i == s) = false by simpa using hi', Bool.or_false] at hw'
      exact hw'

theorem all2_firstg {i : Nat} {oi : Oper} {v : Value} {L : Array Bool → Act → Prop} (hi : ops[i]? = some oi) (hsel : ∀ (j : Nat) (o : Oper) cs b, ops[j]? = some o → o.op ≠ .select cs b)
    (hdone : ∀ listed a, L listed a → Region.ready md ops listed = []) :
    ∀ (f : Nat) (listed : Array Bool) (a : Act),
      (∀ j oj, ops[j]? = some oj → j ≠ i → listed.getD j true = false → (∀ e ∈ oj.after, Region.binds md e = true → e.on ≠ i) → oi.apart ops oj = true) →
      i ∈ Region.ready md ops listed → (Region.wanted oi (yielded ops a.tmps) = true ∧ yields2g P md D s i oi v a) →
      all2g P md ops D s L f (listed.setIfInBounds i true) (a.put oi.dst v) → all2g P md ops D s L (f + 1) listed a := by
  intro f
  induction f with
  | zero =>
    intro listed a _ hr hy H
    constructor
    · intro h; rw [h] at hr; cases hr
    · intro j hj
      by_cases hji : j = i
      · subst hji; exact ⟨oi, v, hi, hy.1, hy.2, H⟩
      · have h1 := ready_mono hj hji
        rw [hdone _ _ H] at h1
        cases h1
  | succ f ih =>
    intro listed a hfree hr hy H
    have hun := (mem_ready.1 hr).1
    constructor
    · intro h; rw [h] at hr; cases hr
    · intro j hj
      by_cases hji : j = i
      · subst hji; exact ⟨oi, v, hi, hy.1, hy.2, H⟩
      · have h1 := H.2 j (ready_mono hj hji)
        obtain ⟨hjun, oj, hoj, hall⟩ := mem_ready.1 hj
        have hnot : ∀ e ∈ oj.after, Region.binds md e = true → e.on ≠ i := by
          intro e he hb heq
          have h2 := hall e he hb
          rw [heq, getD_both hun] at h2
          cases h2
        have h2 := op2_putg hoj (hfree j oj hoj hji hjun hnot) (fun cs b => hsel i oi cs b hi) (fun cs b => hsel j oj cs b hoj) hy.1 hy.2 h1
        refine op2_monog (fun a' h3 => ih (listed.setIfInBounds j true) a' ?_ (ready_mono hr (Ne.symm hji)) h3.1 ?_) h2
        · intro k ok hk hki hunk hno
          refine hfree k ok hk hki ?_ hno
          by_cases hjk : j = k
          · subst hjk; exact hjun
          · rw [getD_set_ne true hjk] at hunk; exact hunk
        · rw [Array.setIfInBounds_comm _ _ hji]; exact h3.2

/-- The walk in the order of the text. -/
def walk2g (P : Program) (md : Region.Mode) (ops : Array Oper) (D : Bool → World → Prop) (s : Nat) (Q : Act → Prop) : List Oper → Nat → Act → Prop
  | [], _, a => Q a
  | o :: rest, k, a => Region.wanted o (yielded ops a.tmps) = true ∧ ∃ v, yields2g P md D s k o v a ∧ walk2g P md ops D s Q rest (k + 1) (a.put o.dst v)

theorem all2_lexg {Q : Act → Prop} (hsel : Region.noSelect ops = true) : ∀ (l : List Oper) (k : Nat) (listed : Array Bool) (a : Act), (∀ j, l[j]? = ops[k + j]?) → k + l.length = ops.size →
    listed.size = ops.size → (∀ j, j < k → listed.getD j false = true) →
    Region.lexFrom md ops l.length k listed = true → walk2g P md ops D s Q l k a →
    all2g P md ops D s (fun listed' a' => Region.ready md ops listed' = [] ∧ (∀ j, j < ops.size → listed'.getD j false = true) ∧ Q a') l.length listed a := by
  intro l
  induction l with
  | nil =>
    intro k listed a _ hk _ hd hB h
    refine ⟨by simpa [Region.lexFrom] using hB, fun j hj => hd j (by simp at hk; omega), h⟩
  | cons o l ih =>
    intro k listed a hl hk hs hd hB h
    have h0 : ops[k]? = some o := by simpa using (hl 0).symm
    simp only [List.length_cons, Region.lexFrom, Bool.and_eq_true] at hB
    obtain ⟨⟨hr, hf⟩, hB'⟩ := hB
    obtain ⟨hg, v, hy, hK⟩ := h
    have hks : k < ops.size := (Array.getElem?_eq_some_iff.1 h0).1
    refine all2_firstg h0 (Region.noSelect_spec hsel) (fun listed' a' hL => hL.1) l.length listed a (Region.free_spec h0 hf) (by simpa using hr) ⟨hg, hy⟩ ?_
    refine ih (k + 1) _ _ (fun j => ?_) (by simp only [List.length_cons] at hk; omega) (by simpa using hs) (fun j hj => ?_) hB' hK
    · have := hl (j + 1)
      simpa [Nat.add_assoc, Nat.add_comm 1 j] using this
    · by_cases hjk : k = j
      · subst hjk; simp [hs, hks]
      · rw [getD_set_ne false hjk]; exact hd j (by omega)

theorem region_storeg {id : Nat} {Q : Exit → Act → World → Prop} {a : Act} {w : World} {l : List Oper} (D : Bool → World → Prop) (s : Nat) (hsl : s < l.length) (hm : P.follows .mixedOrders = true) (hB : Region.lexB .any l.toArray = true)
    (hC : D false { w with drawn := w.drawn + 1 }) (h : walk2g P .any l.toArray D s (fun a' => ∀ w', D true w' → Q .normal a' w') l 0 a) : (Code.region id l.toArray true).wp P Q a w := by
  simp only [Region.lexB, Bool.and_eq_true] at hB
  refine wp_region_any hm ?_
  have H := all2_lexg (P := P) (D := D) (s := s) (md := .any) hB.1 l 0 (Array.replicate l.toArray.size false) a (by simp) (by simp) (by simp) (fun j hj => by omega) (by simpa using hB.2) h
  have H2 : all2g P .any l.toArray D s (fun listed' a' => Region.ready .any l.toArray listed' = [] ∧ (∀ j, j < l.toArray.size → listed'.getD j false = true) ∧ ∀ w', D true w' → Q .normal a' w') l.toArray.size (Array.replicate l.toArray.size false) a := by
    simpa using H
  refine any_of_all2g (Q' := Q) ?_ _ _ _ _ (by simp) (by rw [getD_replicate_false]; exact hC) H2
  intro listed a' w' hs hw hL
  have := hL.2.1 s (by simpa using hsl)
  rw [this] at hw
  exact ⟨hL.1, hL.2.2 w' hw⟩
end


section
variable {P : Program} {md : Region.Mode} {D : Bool → World → Prop} {Q : Act → Prop} {rest : List Oper} {o : Oper} {a : Act} {s k : Nat} {ops : Array Oper}
theorem g_nil (h : Q a) : walk2g P md ops D s Q [] k a := h
/-- An operation that is not the writer. -/
theorem g_op (hgd : Region.wanted o (yielded ops a.tmps) = true) (hk : (k == s) = false) (v : Value) (hv : ∀ b w, D b w → stepUpong P (D b) v ((execOp a.eval o).run P w)) (h : walk2g P md ops D s Q rest (k + 1) (a.put o.dst v)) : walk2g P md ops D s Q (o :: rest) k a := by
  refine ⟨hgd, v, ?_, h⟩
  unfold yields2g
  rw [if_neg (by simpa using hk)]
  by_cases hbe : behind md s o = true
  · rw [if_pos hbe]; exact fun w hw => hv true w hw
  · rw [if_neg hbe]; exact fun b w hw => hv b w hw
/-- One that cannot come up ahead of the writer. -/
theorem g_behind (hgd : Region.wanted o (yielded ops a.tmps) = true) (hk : (k == s) = false) (hbe : behind md s o = true) (v : Value) (hv : ∀ w, D true w → stepUpong P (D true) v ((execOp a.eval o).run P w)) (h : walk2g P md ops D s Q rest (k + 1) (a.put o.dst v)) : walk2g P md ops D s Q (o :: rest) k a := by
  refine ⟨hgd, v, ?_, h⟩
  unfold yields2g
  rw [if_neg (by simpa using hk), if_pos hbe]
  exact hv
/-- A plain operation: it yields v in whatever world. -/
theorem g_val (hgd : Region.wanted o (yielded ops a.tmps) = true) (hk : (k == s) = false) (v : Value) (hv : ∀ w, (execOp a.eval o).run P w = .ok (.value v) w) (h : walk2g P md ops D s Q rest (k + 1) (a.put o.dst v)) : walk2g P md ops D s Q (o :: rest) k a :=
  g_op hgd hk v (fun b w hw => by rw [hv w]; exact ⟨hw, rfl⟩) h
theorem g_ex (hgd : Region.wanted o (yielded ops a.tmps) = true) (hk : (k == s) = false) (h : ∃ v, (∀ w, (execOp a.eval o).run P w = .ok (.value v) w) ∧ walk2g P md ops D s Q rest (k + 1) (a.put o.dst v)) : walk2g P md ops D s Q (o :: rest) k a := by
  obtain ⟨v, h1, h2⟩ := h
  exact g_val hgd hk v h1 h2
/-- The writer. -/
theorem g_write (hgd : Region.wanted o (yielded ops a.tmps) = true) (hk : (k == s) = true) (v : Value) (hv : ∀ w, D false w → stepUpong P (D true) v ((execOp a.eval o).run P w)) (h : walk2g P md ops D s Q rest (k + 1) (a.put o.dst v)) : walk2g P md ops D s Q (o :: rest) k a := by
  refine ⟨hgd, v, ?_, h⟩
  unfold yields2g
  rw [if_pos (by simpa using hk)]
  exact hv
end
end Go.Proofs.Ytfapldajodobhaa

/- As QGuard, for two writers, one behind the other (or one, or none), and operations that are skipped: all others only read, or leave further blocks alone behind. -/
import Derived.Test.YtabjhmblfeoiaaaQGuard
namespace Go.Proofs.Ytabjhmblfeoiaaa
set_option linter.unusedVariables false
set_option linter.unusedSimpArgs false
open Go.RowKit

section
variable {P : Program} {ops : Array Oper} {md : Region.Mode} {D : Nat → World → Prop} {s t : Nat}

/-- How many of the two have been done. -/
def done2 (s t : Nat) (listed : Array Bool) : Nat := if listed.getD t false then 2 else if listed.getD s false then 1 else 0

def steps2t (P : Program) (md : Region.Mode) (D : Nat → World → Prop) (s t i : Nat) (o : Oper) (v : Value) (a : Act) : Prop :=
  if i = s then stepAtg P o a (D 0) (D 1) v else if i = t then stepAtg P o a (D 1) (D 2) v
  else if behind md t o then stepAtg P o a (D 2) (D 2) v else if behind md s o then ∀ b, 1 ≤ b → b ≤ 2 → stepAtg P o a (D b) (D b) v else ∀ b, b ≤ 2 → stepAtg P o a (D b) (D b) v

def yields2t (P : Program) (md : Region.Mode) (ops : Array Oper) (D : Nat → World → Prop) (s t i : Nat) (o : Oper) (v : Value) (a : Act) : Prop :=
  (Region.wanted o (yielded ops a.tmps) = true ∧ steps2t P md D s t i o v a) ∨ (Region.wanted o (yielded ops a.tmps) = false ∧ v = undef ∧ i ≠ s ∧ i ≠ t)

def op2t (P : Program) (md : Region.Mode) (ops : Array Oper) (D : Nat → World → Prop) (s t i : Nat) (K : Act → Prop) (a : Act) : Prop :=
  ∃ o v, ops[i]? = some o ∧ yields2t P md ops D s t i o v a ∧ K (a.put o.dst v)

theorem op2_monot {i : Nat} {a : Act} {K K' : Act → Prop} (h : ∀ a, K a → K' a) : op2t P md ops D s t i K a → op2t P md ops D s t i K' a :=
  fun ⟨o, v, h1, h2, h3⟩ => ⟨o, v, h1, h2, h _ h3⟩

theorem steps2_of_exect {i : Nat} {o : Oper} {v : Value} {a a' : Act} (h : steps2t P md D s t i o v a) (he : execOp a'.eval o = execOp a.eval o) : steps2t P md D s t i o v a' := by
  unfold steps2t stepAtg at *; rw [he]; exact h

/-- What is known of the class ahead of an operation that is ready. -/
structure Known (md : Region.Mode) (s t : Nat) (i : Nat) (o : Oper) (b : Nat) : Prop where
  le : b ≤ 2
  atS : i = s → b = 0
  atT : i = t → i ≠ s → b = 1
  behT : behind md t o = true → b = 2
  behS : behind md s o = true → 1 ≤ b

theorem wpOp_of_op2t {i : Nat} {a : Act} {K : Act → Prop} {K' : Act → World → Prop} {Q' : Exit → Act → World → Prop} {w : World} (b : Nat) (hk : ∀ o, ops[i]? = some o → Known md s t i o b) (hw : D b w)
    (h : ∀ a w', D (if i = s then 1 else if i = t then 2 else b) w' → K a → K' a w') (hh : op2t P md ops D s t i K a) : wpOp P ops Q' i K' a w := by
  obtain ⟨o, v, h1, h3, h4⟩ := hh
  have hkn := hk o h1
  unfold wpOp
  simp only [h1]
  rcases h3 with ⟨h2, h3⟩ | ⟨h2, hv, hs, ht⟩
  · rw [if_pos h2]
    refine .inl ?_
    have hst : stepUpong P (D (if i = s then 1 else if i = t then 2 else b)) v ((execOp a.eval o).run P w) := by
      unfold steps2t at h3
      by_cases hi : i = s
      · rw [if_pos hi] at h3 ⊢
        have := hkn.atS hi; subst this
        exact h3 w hw
      · rw [if_neg hi] at h3 ⊢
        by_cases hit : i = t
        · rw [if_pos hit] at h3 ⊢
          have := hkn.atT hit hi; subst this
          exact h3 w hw
        · rw [if_neg hit] at h3 ⊢
          by_cases hbt : behind md t o = true
          · rw [if_pos hbt] at h3
            have := hkn.behT hbt; subst this
            exact h3 w hw
          · rw [if_neg hbt] at h3
            by_cases hbs : behind md s o = true
            · rw [if_pos hbs] at h3
              exact h3 b (hkn.behS hbs) hkn.le w hw
            · rw [if_neg hbs] at h3
              exact h3 b hkn.le w hw
    unfold Oper.wp
    generalize (execOp a.eval o).run P w = r at *
    cases r with
    | ok n w' =>
      cases n <;> simp only [stepUpong] at hst <;> simp only [Oper.upon]
      case value u => obtain ⟨e1, rfl⟩ := hst; exact h _ _ e1 h4
      case skip => obtain ⟨e1, rfl⟩ := hst; exact h _ _ e1 h4
      case enter f args => exact hst.mono fun e w'' ⟨he, hw''⟩ => by subst he; exact h _ _ hw'' h4
    | halt x w' => simp only [stepUpong] at hst
  · subst hv
    rw [if_neg (by rw [h2]; decide)]
    exact h _ _ (by rw [if_neg hs, if_neg ht]; exact hw) h4

theorem op2_putt {j i : Nat} {oi oj : Oper} {v : Value} (hj : ops[j]? = some oj) (hap : oi.apart ops oj = true)
    (hsi : ∀ cs b, oi.op ≠ .select cs b) (hsj : ∀ cs b, oj.op ≠ .select cs b) {K : Act → Prop} {a : Act}
    (hy : yields2t P md ops D s t i oi v a) (h : op2t P md ops D s t j K (a.put oi.dst v)) : op2t P md ops D s t j (fun a' => yields2t P md ops D s t i oi v a' ∧ K (a'.put oi.dst v)) a := by
  obtain ⟨h1, h2, h3⟩ := Oper.apart_spec hap
  obtain ⟨o, u, k1, k3, k4⟩ := h
  obtain rfl : oj = o := by rw [hj] at k1; exact Option.some.inj k1
  refine ⟨oj, u, hj, ?_, ?_, ?_⟩
  · rcases k3 with ⟨k2, k3⟩ | ⟨k2, k5⟩
    · exact .inl ⟨by rw [wanted_put oj a oi.dst v h1] at k2; exact k2, steps2_of_exect k3 (execOp_put oj hsj a oi.dst v h1).symm⟩
    · exact .inr ⟨by rw [wanted_put oj a oi.dst v h1] at k2; exact k2, k5⟩
  · rcases hy with ⟨k2, k5⟩ | ⟨k2, k5⟩
    · exact .inl ⟨by rw [wanted_put oi a oj.dst u h3]; exact k2, steps2_of_exect k5 (execOp_put oi hsi a oj.dst u h3)⟩
    · exact .inr ⟨by rw [wanted_put oi a oj.dst u h3]; exact k2, k5⟩
  · rw [← Act.put_comm a v u h2]; exact k4

/-- Whatever ready operation is taken. -/
def all2t (P : Program) (md : Region.Mode) (ops : Array Oper) (D : Nat → World → Prop) (s t : Nat) (L : Array Bool → Act → Prop) : Nat → Array Bool → Act → Prop
  | 0, listed, a => L listed a
  | f + 1, listed, a => Region.ready md ops listed ≠ [] ∧ ∀ i ∈ Region.ready md ops listed, op2t P md ops D s t i (all2t P md ops D s t L f (listed.setIfInBounds i true)) a

theorem done_set {listed : Array Bool} {i : Nat} (hi : i < listed.size) (hst : s ≠ t) (h : i = t ∨ (i = s → listed.getD t false = false)) :
    done2 s t (listed.setIfInBounds i true) = if i = s then 1 else if i = t then 2 else done2 s t listed := by
  have hset : (listed.setIfInBounds i true).getD i false = true := by simp [hi]
  unfold done2
  by_cases his : i = s
  · subst his
    rw [if_pos rfl, getD_set_ne false hst, hset]
    rcases h with h | h
    · exact absurd h hst
    · rw [h rfl]; rfl
  · rw [if_neg his]
    by_cases hit : i = t
    · subst hit
      rw [if_pos rfl, hset]; rfl
    · rw [if_neg hit, getD_set_ne false hit, getD_set_ne false his]

theorem any_of_all2t {L : Array Bool → Act → Prop} {Q' : Exit → Act → World → Prop} (hst : s ≠ t) (ho : ∀ o, ops[t]? = some o → behind md s o = true) (hL : ∀ listed a w, listed.size = ops.size → D (done2 s t listed) w → L listed a → wpAny P md ops Q' 0 listed a w) :
    ∀ (f : Nat) (listed : Array Bool) (a : Act) (w : World), listed.size = ops.size → (listed.getD t false = true → listed.getD s false = true) → D (done2 s t listed) w → all2t P md ops D s t L f listed a → wpAny P md ops Q' f listed a w := by
  intro f
  induction f with
  | zero => intro listed a w hs _ hw h; exact hL _ _ _ hs hw h
  | succ f ih =>
    intro listed a w hs hinv hw h
    refine ⟨fun h0 => absurd h0 h.1, fun i hi => ?_⟩
    have hun := (mem_ready.1 hi).1
    have hun' : listed.getD i false = false := getD_both hun
    have hil : i < listed.size := by
      obtain ⟨_, oi, hoi, _⟩ := mem_ready.1 hi
      rw [hs]; exact (Array.getElem?_eq_some_iff.1 hoi).1
    have hts : i = t → listed.getD s false = true := by
      intro e
      obtain ⟨_, oi, hoi, _⟩ := mem_ready.1 hi
      exact ready_behind hi hoi (ho oi (by rw [← e]; exact hoi))
    have hsn : i = s → listed.getD t false = false := by
      intro e
      cases hlt : listed.getD t false with
      | false => rfl
      | true => have := hinv hlt; rw [← e, hun'] at this; cases this
    refine wpOp_of_op2t (done2 s t listed) (fun o hoi => ⟨?_, ?_, ?_, ?_, ?_⟩) hw (fun a' w' hw' h' => ih _ a' w' (by simpa using hs) ?_ ?_ h') (h.2 i hi)
    · unfold done2; split <;> (try split) <;> omega
    · intro e; unfold done2; rw [hsn e, ← e, hun']; rfl
    · intro e _; unfold done2; rw [← e, hun', hts e]; rfl
    · intro hb; have := ready_behind hi hoi hb; unfold done2; rw [this]; rfl
    · intro hb; have := ready_behind hi hoi hb; unfold done2; rw [this]; split <;> simp
    · intro hlt
      by_cases hit : i = t
      · have := hts hit
        rw [getD_set_ne false (by rw [hit]; exact Ne.symm hst)]; exact this
      · rw [getD_set_ne false hit] at hlt
        by_cases his : i = s
        · subst his; simp [hil]
        · rw [getD_set_ne false his]; exact hinv hlt
    · rw [done_set hil hst (by by_cases e : i = t; exact .inl e; exact .inr hsn)]; exact hw'

theorem all2_firstt {i : Nat} {oi : Oper} {v : Value} {L : Array Bool → Act → Prop} (hi : ops[i]? = some oi) (hsel : ∀ (j : Nat) (o : Oper) cs b, ops[j]? = some o → o.op ≠ .select cs b)
    (hdone : ∀ listed a, L listed a → Region.ready md ops listed = []) :
    ∀ (f : Nat) (listed : Array Bool) (a : Act),
      (∀ j oj, ops[j]? = some oj → j ≠ i → listed.getD j true = false → (∀ e ∈ oj.after, Region.binds md e = true → e.on ≠ i) → oi.apart ops oj = true) →
      i ∈ Region.ready md ops listed → yields2t P md ops D s t i oi v a →
      all2t P md ops D s t L f (listed.setIfInBounds i true) (a.put oi.dst v) → all2t P md ops D s t L (f + 1) listed a := by
  intro f
  induction f with
  | zero =>
    intro listed a _ hr hy H
    constructor
    · intro h; rw [h] at hr; cases hr
    · intro j hj
      by_cases hji : j = i
      · subst hji; exact ⟨oi, v, hi, hy, H⟩
      · have h1 := ready_mono hj hji
        rw [hdone _ _ H] at h1
        cases h1
  | succ f ih =>
    intro listed a hfree hr hy H
    have hun := (mem_ready.1 hr).1
    constructor
    · intro h; rw [h] at hr; cases hr
    · intro j hj
      by_cases hji : j = i
      · subst hji; exact ⟨oi, v, hi, hy, H⟩
      · have h1 := H.2 j (ready_mono hj hji)
        obtain ⟨hjun, oj, hoj, hall⟩ := mem_ready.1 hj
        have hnot : ∀ e ∈ oj.after, Region.binds md e = true → e.on ≠ i := by
          intro e he hb heq
          have h2 := hall e he hb
          rw [heq, getD_both hun] at h2
          cases h2
        have h2 := op2_putt hoj (hfree j oj hoj hji hjun hnot) (fun cs b => hsel i oi cs b hi) (fun cs b => hsel j oj cs b hoj) hy h1
        refine op2_monot (fun a' h3 => ih (listed.setIfInBounds j true) a' ?_ (ready_mono hr (Ne.symm hji)) h3.1 ?_) h2
        · intro k ok hk hki hunk hno
          refine hfree k ok hk hki ?_ hno
          by_cases hjk : j = k
          · subst hjk; exact hjun
          · rw [getD_set_ne true hjk] at hunk; exact hunk
        · rw [Array.setIfInBounds_comm _ _ hji]; exact h3.2

/-- The walk in the order of the text. -/
def walk2t (P : Program) (md : Region.Mode) (ops : Array Oper) (D : Nat → World → Prop) (s t : Nat) (Q : Act → Prop) : List Oper → Nat → Act → Prop
  | [], _, a => Q a
  | o :: rest, k, a => ∃ v, yields2t P md ops D s t k o v a ∧ walk2t P md ops D s t Q rest (k + 1) (a.put o.dst v)

theorem all2_lext {Q : Act → Prop} (hsel : Region.noSelect ops = true) : ∀ (l : List Oper) (k : Nat) (listed : Array Bool) (a : Act), (∀ j, l[j]? = ops[k + j]?) → k + l.length = ops.size →
    listed.size = ops.size → (∀ j, j < k → listed.getD j false = true) →
    Region.lexFrom md ops l.length k listed = true → walk2t P md ops D s t Q l k a →
    all2t P md ops D s t (fun listed' a' => Region.ready md ops listed' = [] ∧ (listed'.size = ops.size ∧ ∀ j, j < ops.size → listed'.getD j false = true) ∧ Q a') l.length listed a := by
  intro l
  induction l with
  | nil =>
    intro k listed a _ hk hsz hd hB h
    refine ⟨by simpa [Region.lexFrom] using hB, ⟨hsz, fun j hj => hd j (by simp at hk; omega)⟩, h⟩
  | cons o l ih =>
    intro k listed a hl hk hs hd hB h
    have h0 : ops[k]? = some o := by simpa using (hl 0).symm
    simp only [List.length_cons, Region.lexFrom, Bool.and_eq_true] at hB
    obtain ⟨⟨hr, hf⟩, hB'⟩ := hB
    obtain ⟨v, hy, hK⟩ := h
    have hks : k < ops.size := (Array.getElem?_eq_some_iff.1 h0).1
    refine all2_firstt h0 (Region.noSelect_spec hsel) (fun listed' a' hL => hL.1) l.length listed a (Region.free_spec h0 hf) (by simpa using hr) hy ?_
    refine ih (k + 1) _ _ (fun j => ?_) (by simp only [List.length_cons] at hk; omega) (by simpa using hs) (fun j hj => ?_) hB' hK
    · have := hl (j + 1)
      simpa [Nat.add_assoc, Nat.add_comm 1 j] using this
    · by_cases hjk : k = j
      · subst hjk; simp [hs, hks]
      · rw [getD_set_ne false hjk]; exact hd j (by omega)

/-- The last class: 2, if the second one is among the operations; 1, if the first one alone is; else 0. -/
theorem region_two {id : Nat} {Q : Exit → Act → World → Prop} {a : Act} {w : World} {l : List Oper} (D : Nat → World → Prop) (s t c : Nat) (hst : s ≠ t) (hc : c = if t < l.length then 2 else if s < l.length then 1 else 0)
    (ho : ∀ o, l[t]? = some o → behind .any s o = true) (hm : P.follows .mixedOrders = true) (hB : Region.lexB .any l.toArray = true)
    (hC : D 0 { w with drawn := w.drawn + 1 }) (h : walk2t P .any l.toArray D s t (fun a' => ∀ w', D c w' → Q .normal a' w') l 0 a) : (Code.region id l.toArray true).wp P Q a w := by
  simp only [Region.lexB, Bool.and_eq_true] at hB
  refine wp_region_any hm ?_
  have H := all2_lext (P := P) (D := D) (s := s) (t := t) (md := .any) hB.1 l 0 (Array.replicate l.toArray.size false) a (by simp) (by simp) (by simp) (fun j hj => by omega) (by simpa using hB.2) h
  have H2 : all2t P .any l.toArray D s t (fun listed' a' => Region.ready .any l.toArray listed' = [] ∧ (listed'.size = l.toArray.size ∧ ∀ j, j < l.toArray.size → listed'.getD j false = true) ∧ ∀ w', D c w' → Q .normal a' w') l.toArray.size (Array.replicate l.toArray.size false) a := by
    simpa using H
  refine any_of_all2t (Q' := Q) hst (fun o h => ho o (by simpa using h)) ?_ _ _ _ _ (by simp) (by rw [getD_replicate_false]; intro h; cases h) (by unfold done2; rw [getD_replicate_false, getD_replicate_false]; exact hC) H2
  intro listed a' w' hs hw hL
  have hcc : done2 s t listed = c := by
    rw [hc]
    unfold done2
    by_cases ht : t < l.length
    · rw [hL.2.1.2 t (by simpa using ht), if_pos ht]; rfl
    · have : listed.getD t false = false := by
        rw [Array.getD_eq_getD_getElem?, Array.getElem?_eq_none (by rw [hs]; simpa using Nat.le_of_not_lt ht)]; rfl
      rw [this, if_neg ht]
      by_cases hs' : s < l.length
      · rw [hL.2.1.2 s (by simpa using hs'), if_pos hs']; rfl
      · have : listed.getD s false = false := by
          rw [Array.getD_eq_getD_getElem?, Array.getElem?_eq_none (by rw [hs]; simpa using Nat.le_of_not_lt hs')]; rfl
        rw [this, if_neg hs']; rfl
  rw [hcc] at hw
  exact ⟨hL.1, hL.2.2 w' hw⟩
end

section
variable {P : Program} {md : Region.Mode} {D : Nat → World → Prop} {Q : Act → Prop} {rest : List Oper} {o : Oper} {a : Act} {s t k : Nat} {ops : Array Oper}
theorem t_nil (h : Q a) : walk2t P md ops D s t Q [] k a := h
/-- An operation that is skipped. -/
theorem t_skip (hgd : Region.wanted o (yielded ops a.tmps) = false) (hk : (k == s) = false) (hk2 : (k == t) = false) (h : walk2t P md ops D s t Q rest (k + 1) (a.put o.dst undef)) : walk2t P md ops D s t Q (o :: rest) k a :=
  ⟨undef, .inr ⟨hgd, rfl, by simpa using hk, by simpa using hk2⟩, h⟩
/-- An operation that is no writer. -/
theorem t_op (hgd : Region.wanted o (yielded ops a.tmps) = true) (hk : (k == s) = false) (hk2 : (k == t) = false) (v : Value) (hv : ∀ b w, b ≤ 2 → D b w → stepUpong P (D b) v ((execOp a.eval o).run P w)) (h : walk2t P md ops D s t Q rest (k + 1) (a.put o.dst v)) : walk2t P md ops D s t Q (o :: rest) k a := by
  refine ⟨v, .inl ⟨hgd, ?_⟩, h⟩
  unfold steps2t
  rw [if_neg (by simpa using hk), if_neg (by simpa using hk2)]
  by_cases hbt : behind md t o = true
  · rw [if_pos hbt]; exact fun w hw => hv 2 w (by omega) hw
  · rw [if_neg hbt]
    by_cases hbe : behind md s o = true
    · rw [if_pos hbe]; exact fun b _ h2 w hw => hv b w h2 hw
    · rw [if_neg hbe]; exact fun b h2 w hw => hv b w h2 hw
/-- One that cannot come up ahead of the first writer. -/
theorem t_behind (hgd : Region.wanted o (yielded ops a.tmps) = true) (hk : (k == s) = false) (hk2 : (k == t) = false) (hbe : behind md s o = true) (v : Value) (hv : ∀ b w, 1 ≤ b → b ≤ 2 → D b w → stepUpong P (D b) v ((execOp a.eval o).run P w)) (h : walk2t P md ops D s t Q rest (k + 1) (a.put o.dst v)) : walk2t P md ops D s t Q (o :: rest) k a := by
  refine ⟨v, .inl ⟨hgd, ?_⟩, h⟩
  unfold steps2t
  rw [if_neg (by simpa using hk), if_neg (by simpa using hk2)]
  by_cases hbt : behind md t o = true
  · rw [if_pos hbt]; exact fun w hw => hv 2 w (by omega) (by omega) hw
  · rw [if_neg hbt, if_pos hbe]; exact fun b h1 h2 w hw => hv b w h1 h2 hw
/-- One that cannot come up ahead of the second writer. -/
theorem t_behind2 (hgd : Region.wanted o (yielded ops a.tmps) = true) (hk : (k == s) = false) (hk2 : (k == t) = false) (hbe : behind md t o = true) (v : Value) (hv : ∀ w, D 2 w → stepUpong P (D 2) v ((execOp a.eval o).run P w)) (h : walk2t P md ops D s t Q rest (k + 1) (a.put o.dst v)) : walk2t P md ops D s t Q (o :: rest) k a := by
  refine ⟨v, .inl ⟨hgd, ?_⟩, h⟩
  unfold steps2t
  rw [if_neg (by simpa using hk), if_neg (by simpa using hk2), if_pos hbe]
  exact hv
/-- A plain operation: it yields v in whatever world. -/
theorem t_ex (hgd : Region.wanted o (yielded ops a.tmps) = true) (hk : (k == s) = false) (hk2 : (k == t) = false) (h : ∃ v, (∀ w, (execOp a.eval o).run P w = .ok (.value v) w) ∧ walk2t P md ops D s t Q rest (k + 1) (a.put o.dst v)) : walk2t P md ops D s t Q (o :: rest) k a := by
  obtain ⟨v, h1, h2⟩ := h
  exact t_op hgd hk hk2 v (fun b w _ hw => by rw [h1 w]; exact ⟨hw, rfl⟩) h2
/-- One that only reads what no writer turns: it yields v in each world of each class. -/
theorem t_read (hgd : Region.wanted o (yielded ops a.tmps) = true) (hk : (k == s) = false) (hk2 : (k == t) = false) (h : ∃ v, (∀ b w, b ≤ 2 → D b w → (execOp a.eval o).run P w = .ok (.value v) w) ∧ walk2t P md ops D s t Q rest (k + 1) (a.put o.dst v)) : walk2t P md ops D s t Q (o :: rest) k a := by
  obtain ⟨v, h1, h2⟩ := h
  exact t_op hgd hk hk2 v (fun b w hb hw => by rw [h1 b w hb hw]; exact ⟨hw, rfl⟩) h2
/-- The first writer; the second one. -/
theorem t_write (hgd : Region.wanted o (yielded ops a.tmps) = true) (hk : (k == s) = true) (v : Value) (hv : ∀ w, D 0 w → stepUpong P (D 1) v ((execOp a.eval o).run P w)) (h : walk2t P md ops D s t Q rest (k + 1) (a.put o.dst v)) : walk2t P md ops D s t Q (o :: rest) k a := by
  refine ⟨v, .inl ⟨hgd, ?_⟩, h⟩
  unfold steps2t
  rw [if_pos (by simpa using hk)]
  exact hv
theorem t_write2 (hgd : Region.wanted o (yielded ops a.tmps) = true) (hk : (k == s) = false) (hk2 : (k == t) = true) (v : Value) (hv : ∀ w, D 1 w → stepUpong P (D 2) v ((execOp a.eval o).run P w)) (h : walk2t P md ops D s t Q rest (k + 1) (a.put o.dst v)) : walk2t P md ops D s t Q (o :: rest) k a := by
  refine ⟨v, .inl ⟨hgd, ?_⟩, h⟩
  unfold steps2t
  rw [if_neg (by simpa using hk), if_pos (by simpa using hk2)]
  exact hv
end
end Go.Proofs.Ytabjhmblfeoiaaa

/- As QTwo, for up to three writers, each behind the one before. -/
import Derived.Test.YtabjhmblfeoiaaaQTwo
namespace Go.Proofs.Ytabjhmblfeoiaaa
set_option linter.unusedVariables false
set_option linter.unusedSimpArgs false
open Go.RowKit

section
variable {P : Program} {ops : Array Oper} {md : Region.Mode} {D : Nat → World → Prop} {q s t : Nat}

/-- How many of the two have been done. -/
def done3 (q s t : Nat) (listed : Array Bool) : Nat := if listed.getD t false then 3 else if listed.getD s false then 2 else if listed.getD q false then 1 else 0

def steps3 (P : Program) (md : Region.Mode) (D : Nat → World → Prop) (q s t i : Nat) (o : Oper) (v : Value) (a : Act) : Prop :=
  if i = q then stepAtg P o a (D 0) (D 1) v else if i = s then stepAtg P o a (D 1) (D 2) v else if i = t then stepAtg P o a (D 2) (D 3) v
  else if behind md t o then stepAtg P o a (D 3) (D 3) v else if behind md s o then ∀ b, 2 ≤ b → b ≤ 3 → stepAtg P o a (D b) (D b) v
  else if behind md q o then ∀ b, 1 ≤ b → b ≤ 3 → stepAtg P o a (D b) (D b) v else ∀ b, b ≤ 3 → stepAtg P o a (D b) (D b) v

def yields3 (P : Program) (md : Region.Mode) (ops : Array Oper) (D : Nat → World → Prop) (q s t i : Nat) (o : Oper) (v : Value) (a : Act) : Prop :=
  (Region.wanted o (yielded ops a.tmps) = true ∧ steps3 P md D q s t i o v a) ∨ (Region.wanted o (yielded ops a.tmps) = false ∧ v = undef ∧ i ≠ q ∧ i ≠ s ∧ i ≠ t)

def op3 (P : Program) (md : Region.Mode) (ops : Array Oper) (D : Nat → World → Prop) (q s t i : Nat) (K : Act → Prop) (a : Act) : Prop :=
  ∃ o v, ops[i]? = some o ∧ yields3 P md ops D q s t i o v a ∧ K (a.put o.dst v)

theorem op3_mono {i : Nat} {a : Act} {K K' : Act → Prop} (h : ∀ a, K a → K' a) : op3 P md ops D q s t i K a → op3 P md ops D q s t i K' a :=
  fun ⟨o, v, h1, h2, h3⟩ => ⟨o, v, h1, h2, h _ h3⟩

theorem steps3_of_exec {i : Nat} {o : Oper} {v : Value} {a a' : Act} (h : steps3 P md D q s t i o v a) (he : execOp a'.eval o = execOp a.eval o) : steps3 P md D q s t i o v a' := by
  unfold steps3 stepAtg at *; rw [he]; exact h

/-- What is known of the class ahead of an operation that is ready. -/
structure Known3 (md : Region.Mode) (q s t : Nat) (i : Nat) (o : Oper) (b : Nat) : Prop where
  le : b ≤ 3
  atQ : i = q → b = 0
  atS : i = s → b = 1
  atT : i = t → b = 2
  behT : behind md t o = true → b = 3
  behS : behind md s o = true → 2 ≤ b
  behQ : behind md q o = true → 1 ≤ b

theorem wpOp_of_op3 {i : Nat} {a : Act} {K : Act → Prop} {K' : Act → World → Prop} {Q' : Exit → Act → World → Prop} {w : World} (b : Nat) (hk : ∀ o, ops[i]? = some o → Known3 md q s t i o b) (hw : D b w)
    (h : ∀ a w', D (if i = q then 1 else if i = s then 2 else if i = t then 3 else b) w' → K a → K' a w') (hh : op3 P md ops D q s t i K a) : wpOp P ops Q' i K' a w := by
  obtain ⟨o, v, h1, h3, h4⟩ := hh
  have hkn := hk o h1
  unfold wpOp
  simp only [h1]
  rcases h3 with ⟨h2, h3⟩ | ⟨h2, hv, hq, hs, ht⟩
  · rw [if_pos h2]
    refine .inl ?_
    have hst : stepUpong P (D (if i = q then 1 else if i = s then 2 else if i = t then 3 else b)) v ((execOp a.eval o).run P w) := by
      unfold steps3 at h3
      by_cases hiq : i = q
      · rw [if_pos hiq] at h3 ⊢
        have := hkn.atQ hiq; subst this
        exact h3 w hw
      rw [if_neg hiq] at h3 ⊢
      by_cases hi : i = s
      · rw [if_pos hi] at h3 ⊢
        have := hkn.atS hi; subst this
        exact h3 w hw
      rw [if_neg hi] at h3 ⊢
      by_cases hit : i = t
      · rw [if_pos hit] at h3 ⊢
        have := hkn.atT hit; subst this
        exact h3 w hw
      rw [if_neg hit] at h3 ⊢
      by_cases hbt : behind md t o = true
      · rw [if_pos hbt] at h3
        have := hkn.behT hbt; subst this
        exact h3 w hw
      rw [if_neg hbt] at h3
      by_cases hbs : behind md s o = true
      · rw [if_pos hbs] at h3
        exact h3 b (hkn.behS hbs) hkn.le w hw
      rw [if_neg hbs] at h3
      by_cases hbq : behind md q o = true
      · rw [if_pos hbq] at h3
        exact h3 b (hkn.behQ hbq) hkn.le w hw
      rw [if_neg hbq] at h3
      exact h3 b hkn.le w hw
    unfold Oper.wp
    generalize (execOp a.eval o).run P w = r at *
    cases r with
    | ok n w' =>
      cases n <;> simp only [stepUpong] at hst <;> simp only [Oper.upon]
      case value u => obtain ⟨e1, rfl⟩ := hst; exact h _ _ e1 h4
      case skip => obtain ⟨e1, rfl⟩ := hst; exact h _ _ e1 h4
      case enter f args => exact hst.mono fun e w'' ⟨he, hw''⟩ => by subst he; exact h _ _ hw'' h4
    | halt x w' => simp only [stepUpong] at hst
  · subst hv
    rw [if_neg (by rw [h2]; decide)]
    exact h _ _ (by rw [if_neg hq, if_neg hs, if_neg ht]; exact hw) h4

theorem op3_put {j i : Nat} {oi oj : Oper} {v : Value} (hj : ops[j]? = some oj) (hap : oi.apart ops oj = true)
    (hsi : ∀ cs b, oi.op ≠ .select cs b) (hsj : ∀ cs b, oj.op ≠ .select cs b) {K : Act → Prop} {a : Act}
    (hy : yields3 P md ops D q s t i oi v a) (h : op3 P md ops D q s t j K (a.put oi.dst v)) : op3 P md ops D q s t j (fun a' => yields3 P md ops D q s t i oi v a' ∧ K (a'.put oi.dst v)) a := by
  obtain ⟨h1, h2, h3⟩ := Oper.apart_spec hap
  obtain ⟨o, u, k1, k3, k4⟩ := h
  obtain rfl : oj = o := by rw [hj] at k1; exact Option.some.inj k1
  refine ⟨oj, u, hj, ?_, ?_, ?_⟩
  · rcases k3 with ⟨k2, k3⟩ | ⟨k2, k5⟩
    · exact .inl ⟨by rw [wanted_put oj a oi.dst v h1] at k2; exact k2, steps3_of_exec k3 (execOp_put oj hsj a oi.dst v h1).symm⟩
    · exact .inr ⟨by rw [wanted_put oj a oi.dst v h1] at k2; exact k2, k5⟩
  · rcases hy with ⟨k2, k5⟩ | ⟨k2, k5⟩
    · exact .inl ⟨by rw [wanted_put oi a oj.dst u h3]; exact k2, steps3_of_exec k5 (execOp_put oi hsi a oj.dst u h3)⟩
    · exact .inr ⟨by rw [wanted_put oi a oj.dst u h3]; exact k2, k5⟩
  · rw [← Act.put_comm a v u h2]; exact k4

/-- Whatever ready operation is taken. -/
def all3 (P : Program) (md : Region.Mode) (ops : Array Oper) (D : Nat → World → Prop) (q s t : Nat) (L : Array Bool → Act → Prop) : Nat → Array Bool → Act → Prop
  | 0, listed, a => L listed a
  | f + 1, listed, a => Region.ready md ops listed ≠ [] ∧ ∀ i ∈ Region.ready md ops listed, op3 P md ops D q s t i (all3 P md ops D q s t L f (listed.setIfInBounds i true)) a

theorem done3_set {listed : Array Bool} {i : Nat} (hi : i < listed.size) (h1 : q ≠ s) (h2 : q ≠ t) (h3 : s ≠ t) (hq : i = q → listed.getD s false = false ∧ listed.getD t false = false) (hs : i = s → listed.getD t false = false) :
    done3 q s t (listed.setIfInBounds i true) = if i = q then 1 else if i = s then 2 else if i = t then 3 else done3 q s t listed := by
  have hset : (listed.setIfInBounds i true).getD i false = true := by simp [hi]
  unfold done3
  by_cases hiq : i = q
  · subst hiq
    obtain ⟨a1, a2⟩ := hq rfl
    rw [if_pos rfl, getD_set_ne false h2, getD_set_ne false h1, hset, a1, a2]; rfl
  rw [if_neg hiq]
  by_cases his : i = s
  · subst his
    rw [if_pos rfl, getD_set_ne false h3, hset, hs rfl]; rfl
  rw [if_neg his]
  by_cases hit : i = t
  · subst hit
    rw [if_pos rfl, hset]; rfl
  rw [if_neg hit, getD_set_ne false hit, getD_set_ne false his, getD_set_ne false hiq]

/-- A way from one operation back to another. -/
def via (md : Region.Mode) (ops : Array Oper) (o : Oper) : List Nat → Nat → Prop
  | [], q => behind md q o = true
  | m :: p, q => behind md m o = true ∧ ∃ om, ops[m]? = some om ∧ via md ops om p q
theorem via_listed {listed : Array Bool} (hcl : ∀ k ok, ops[k]? = some ok → listed.getD k false = true → ∀ j, behind md j ok = true → listed.getD j false = true) :
    ∀ (p : List Nat) (o : Oper) (q : Nat), (∀ j, behind md j o = true → listed.getD j false = true) → via md ops o p q → listed.getD q false = true
  | [], o, q, hr, h => hr q h
  | m :: p, o, q, hr, ⟨h1, om, h2, h3⟩ => via_listed hcl p om q (hcl m om h2 (hr m h1)) h3

theorem any_of_all3 {L : Array Bool → Act → Prop} {Q' : Exit → Act → World → Prop} (n1 : q ≠ s) (n2 : q ≠ t) (n3 : s ≠ t) (hos : ∀ o, ops[s]? = some o → ∃ p, via md ops o p q) (hot : ∀ o, ops[t]? = some o → ∃ p, via md ops o p s)
    (hL : ∀ listed a w, listed.size = ops.size → D (done3 q s t listed) w → L listed a → wpAny P md ops Q' 0 listed a w) :
    ∀ (f : Nat) (listed : Array Bool) (a : Act) (w : World), listed.size = ops.size → (listed.getD s false = true → listed.getD q false = true) → (listed.getD t false = true → listed.getD s false = true) → (∀ k ok, ops[k]? = some ok → listed.getD k false = true → ∀ j, behind md j ok = true → listed.getD j false = true) → D (done3 q s t listed) w → all3 P md ops D q s t L f listed a → wpAny P md ops Q' f listed a w := by
  intro f
  induction f with
  | zero => intro listed a w hs _ _ _ hw h; exact hL _ _ _ hs hw h
  | succ f ih =>
    intro listed a w hs hi1 hi2 hcl hw h
    refine ⟨fun h0 => absurd h0 h.1, fun i hi => ?_⟩
    have hun := (mem_ready.1 hi).1
    have hun' : listed.getD i false = false := getD_both hun
    have hil : i < listed.size := by
      obtain ⟨_, oi, hoi, _⟩ := mem_ready.1 hi
      rw [hs]; exact (Array.getElem?_eq_some_iff.1 hoi).1
    have hsq : i = s → listed.getD q false = true := by
      intro e
      obtain ⟨_, oi, hoi, _⟩ := mem_ready.1 hi
      obtain ⟨p, hp⟩ := hos oi (by rw [← e]; exact hoi)
      exact via_listed hcl p oi q (fun j hj => ready_behind hi hoi hj) hp
    have hts : i = t → listed.getD s false = true := by
      intro e
      obtain ⟨_, oi, hoi, _⟩ := mem_ready.1 hi
      obtain ⟨p, hp⟩ := hot oi (by rw [← e]; exact hoi)
      exact via_listed hcl p oi s (fun j hj => ready_behind hi hoi hj) hp
    have noT : listed.getD s false = false → listed.getD t false = false := by
      intro e
      cases hlt : listed.getD t false with
      | false => rfl
      | true => have := hi2 hlt; rw [e] at this; cases this
    have noS : listed.getD q false = false → listed.getD s false = false := by
      intro e
      cases hlt : listed.getD s false with
      | false => rfl
      | true => have := hi1 hlt; rw [e] at this; cases this
    have hqn : i = q → listed.getD s false = false ∧ listed.getD t false = false := by
      intro e
      have a1 := noS (by rw [← e]; exact hun')
      exact ⟨a1, noT a1⟩
    have hsn : i = s → listed.getD t false = false := fun e => noT (by rw [← e]; exact hun')
    refine wpOp_of_op3 (done3 q s t listed) (fun o hoi => ⟨?_, ?_, ?_, ?_, ?_, ?_, ?_⟩) hw (fun a' w' hw' h' => ih _ a' w' (by simpa using hs) ?_ ?_ ?_ ?_ h') (h.2 i hi)
    · unfold done3; split <;> (try split) <;> (try split) <;> omega
    · intro e; unfold done3; rw [(hqn e).2, (hqn e).1, ← e, hun']; rfl
    · intro e; unfold done3; rw [hsn e, ← e, hun', hsq e]; rfl
    · intro e; unfold done3; rw [← e, hun', hts e]; rfl
    · intro hb; have := ready_behind hi hoi hb; unfold done3; rw [this]; rfl
    · intro hb; have := ready_behind hi hoi hb; unfold done3; rw [this]; split <;> simp
    · intro hb; have := ready_behind hi hoi hb; unfold done3; rw [this]; split <;> (try split) <;> simp
    · intro hlt
      by_cases his : i = s
      · rw [getD_set_ne false (by rw [his]; exact Ne.symm n1)]; exact hsq his
      · rw [getD_set_ne false his] at hlt
        by_cases hiq : i = q
        · subst hiq; simp [hil]
        · rw [getD_set_ne false hiq]; exact hi1 hlt
    · intro hlt
      by_cases hit : i = t
      · rw [getD_set_ne false (by rw [hit]; exact Ne.symm n3)]; exact hts hit
      · rw [getD_set_ne false hit] at hlt
        by_cases his : i = s
        · subst his; simp [hil]
        · rw [getD_set_ne false his]; exact hi2 hlt
    · intro k ok hk hlk j hj
      have hjl : listed.getD j false = true := by
        by_cases hki : i = k
        · subst hki; exact ready_behind hi hk hj
        · rw [getD_set_ne false hki] at hlk; exact hcl k ok hk hlk j hj
      by_cases hij : i = j
      · subst hij; simp [hil]
      · rw [getD_set_ne false hij]; exact hjl
    · rw [done3_set hil n1 n2 n3 hqn hsn]; exact hw'

theorem all3_first {i : Nat} {oi : Oper} {v : Value} {L : Array Bool → Act → Prop} (hi : ops[i]? = some oi) (hsel : ∀ (j : Nat) (o : Oper) cs b, ops[j]? = some o → o.op ≠ .select cs b)
    (hdone : ∀ listed a, L listed a → Region.ready md ops listed = []) :
    ∀ (f : Nat) (listed : Array Bool) (a : Act),
      (∀ j oj, ops[j]? = some oj → j ≠ i → listed.getD j true = false → (∀ e ∈ oj.after, Region.binds md e = true → e.on ≠ i) → oi.apart ops oj = true) →
      i ∈ Region.ready md ops listed → yields3 P md ops D q s t i oi v a →
      all3 P md ops D q s t L f (listed.setIfInBounds i true) (a.put oi.dst v) → all3 P md ops D q s t L (f + 1) listed a := by
  intro f
  induction f with
  | zero =>
    intro listed a _ hr hy H
    constructor
    · intro h; rw [h] at hr; cases hr
    · intro j hj
      by_cases hji : j = i
      · subst hji; exact ⟨oi, v, hi, hy, H⟩
      · have h1 := ready_mono hj hji
        rw [hdone _ _ H] at h1
        cases h1
  | succ f ih =>
    intro listed a hfree hr hy H
    have hun := (mem_ready.1 hr).1
    constructor
    · intro h; rw [h] at hr; cases hr
    · intro j hj
      by_cases hji : j = i
      · subst hji; exact ⟨oi, v, hi, hy, H⟩
      · have h1 := H.2 j (ready_mono hj hji)
        obtain ⟨hjun, oj, hoj, hall⟩ := mem_ready.1 hj
        have hnot : ∀ e ∈ oj.after, Region.binds md e = true → e.on ≠ i := by
          intro e he hb heq
          have h2 := hall e he hb
          rw [heq, getD_both hun] at h2
          cases h2
        have h2 := op3_put hoj (hfree j oj hoj hji hjun hnot) (fun cs b => hsel i oi cs b hi) (fun cs b => hsel j oj cs b hoj) hy h1
        refine op3_mono (fun a' h3 => ih (listed.setIfInBounds j true) a' ?_ (ready_mono hr (Ne.symm hji)) h3.1 ?_) h2
        · intro k ok hk hki hunk hno
          refine hfree k ok hk hki ?_ hno
          by_cases hjk : j = k
          · subst hjk; exact hjun
          · rw [getD_set_ne true hjk] at hunk; exact hunk
        · rw [Array.setIfInBounds_comm _ _ hji]; exact h3.2

/-- The walk in the order of the text. -/
def walk3 (P : Program) (md : Region.Mode) (ops : Array Oper) (D : Nat → World → Prop) (q s t : Nat) (Q : Act → Prop) : List Oper → Nat → Act → Prop
  | [], _, a => Q a
  | o :: rest, k, a => ∃ v, yields3 P md ops D q s t k o v a ∧ walk3 P md ops D q s t Q rest (k + 1) (a.put o.dst v)

theorem all3_lex {Q : Act → Prop} (hsel : Region.noSelect ops = true) : ∀ (l : List Oper) (k : Nat) (listed : Array Bool) (a : Act), (∀ j, l[j]? = ops[k + j]?) → k + l.length = ops.size →
    listed.size = ops.size → (∀ j, j < k → listed.getD j false = true) →
    Region.lexFrom md ops l.length k listed = true → walk3 P md ops D q s t Q l k a →
    all3 P md ops D q s t (fun listed' a' => Region.ready md ops listed' = [] ∧ (listed'.size = ops.size ∧ ∀ j, j < ops.size → listed'.getD j false = true) ∧ Q a') l.length listed a := by
  intro l
  induction l with
  | nil =>
    intro k listed a _ hk hsz hd hB h
    refine ⟨by simpa [Region.lexFrom] using hB, ⟨hsz, fun j hj => hd j (by simp at hk; omega)⟩, h⟩
  | cons o l ih =>
    intro k listed a hl hk hs hd hB h
    have h0 : ops[k]? = some o := by simpa using (hl 0).symm
    simp only [List.length_cons, Region.lexFrom, Bool.and_eq_true] at hB
    obtain ⟨⟨hr, hf⟩, hB'⟩ := hB
    obtain ⟨v, hy, hK⟩ := h
    have hks : k < ops.size := (Array.getElem?_eq_some_iff.1 h0).1
    refine all3_first h0 (Region.noSelect_spec hsel) (fun listed' a' hL => hL.1) l.length listed a (Region.free_spec h0 hf) (by simpa using hr) hy ?_
    refine ih (k + 1) _ _ (fun j => ?_) (by simp only [List.length_cons] at hk; omega) (by simpa using hs) (fun j hj => ?_) hB' hK
    · have := hl (j + 1)
      simpa [Nat.add_assoc, Nat.add_comm 1 j] using this
    · by_cases hjk : k = j
      · subst hjk; simp [hs, hks]
      · rw [getD_set_ne false hjk]; exact hd j (by omega)

/-- The last class: as many as there are writers among the operations. -/
theorem region_three {id : Nat} {Q : Exit → Act → World → Prop} {a : Act} {w : World} {l : List Oper} (D : Nat → World → Prop) (q s t c : Nat) (n1 : q ≠ s) (n2 : q ≠ t) (n3 : s ≠ t) (hc : c = if t < l.length then 3 else if s < l.length then 2 else if q < l.length then 1 else 0)
    (hos : ∀ o, l[s]? = some o → ∃ p, via .any l.toArray o p q) (hot : ∀ o, l[t]? = some o → ∃ p, via .any l.toArray o p s) (hm : P.follows .mixedOrders = true) (hB : Region.lexB .any l.toArray = true)
    (hC : D 0 { w with drawn := w.drawn + 1 }) (h : walk3 P .any l.toArray D q s t (fun a' => ∀ w', D c w' → Q .normal a' w') l 0 a) : (Code.region id l.toArray true).wp P Q a w := by
  simp only [Region.lexB, Bool.and_eq_true] at hB
  refine wp_region_any hm ?_
  have H := all3_lex (P := P) (D := D) (q := q) (s := s) (t := t) (md := .any) hB.1 l 0 (Array.replicate l.toArray.size false) a (by simp) (by simp) (by simp) (fun j hj => by omega) (by simpa using hB.2) h
  have H2 : all3 P .any l.toArray D q s t (fun listed' a' => Region.ready .any l.toArray listed' = [] ∧ (listed'.size = l.toArray.size ∧ ∀ j, j < l.toArray.size → listed'.getD j false = true) ∧ ∀ w', D c w' → Q .normal a' w') l.toArray.size (Array.replicate l.toArray.size false) a := by
    simpa using H
  refine any_of_all3 (Q' := Q) n1 n2 n3 (fun o h => hos o (by simpa using h)) (fun o h => hot o (by simpa using h)) ?_ _ _ _ _ (by simp) (by rw [getD_replicate_false]; intro h; cases h) (by rw [getD_replicate_false]; intro h; cases h) (by intro k ok _ h; rw [getD_replicate_false] at h; cases h) (by unfold done3; rw [getD_replicate_false, getD_replicate_false, getD_replicate_false]; exact hC) H2
  intro listed a' w' hs hw hL
  have out : ∀ k, ¬ k < l.length → listed.getD k false = false := fun k hk => by
    rw [Array.getD_eq_getD_getElem?, Array.getElem?_eq_none (by rw [hs]; simpa using Nat.le_of_not_lt hk)]; rfl
  have hcc : done3 q s t listed = c := by
    rw [hc]
    unfold done3
    by_cases ht : t < l.length
    · rw [hL.2.1.2 t (by simpa using ht), if_pos ht]; rfl
    rw [out t ht, if_neg ht]
    by_cases hs' : s < l.length
    · rw [hL.2.1.2 s (by simpa using hs'), if_pos hs']; rfl
    rw [out s hs', if_neg hs']
    by_cases hq' : q < l.length
    · rw [hL.2.1.2 q (by simpa using hq'), if_pos hq']; rfl
    · rw [out q hq', if_neg hq']; rfl
  rw [hcc] at hw
  exact ⟨hL.1, hL.2.2 w' hw⟩
end

section
variable {P : Program} {md : Region.Mode} {D : Nat → World → Prop} {Q : Act → Prop} {rest : List Oper} {o : Oper} {a : Act} {q s t k : Nat} {ops : Array Oper}
theorem c_nil (h : Q a) : walk3 P md ops D q s t Q [] k a := h
/-- An operation that is skipped. -/
theorem c_skip (hgd : Region.wanted o (yielded ops a.tmps) = false) (hk : (k == q || k == s || k == t) = false) (h : walk3 P md ops D q s t Q rest (k + 1) (a.put o.dst undef)) : walk3 P md ops D q s t Q (o :: rest) k a := by
  simp only [Bool.or_eq_false_iff, beq_eq_false_iff_ne] at hk
  exact ⟨undef, .inr ⟨hgd, rfl, hk.1.1, hk.1.2, hk.2⟩, h⟩
theorem steps3_of (hk : (k == q || k == s || k == t) = false) {v : Value} (hv : ∀ b w, b ≤ 3 → (behind md t o = true → b = 3) → (behind md s o = true → 2 ≤ b) → (behind md q o = true → 1 ≤ b) → D b w → stepUpong P (D b) v ((execOp a.eval o).run P w)) : steps3 P md D q s t k o v a := by
  simp only [Bool.or_eq_false_iff, beq_eq_false_iff_ne] at hk
  unfold steps3
  rw [if_neg hk.1.1, if_neg hk.1.2, if_neg hk.2]
  by_cases hbt : behind md t o = true
  · rw [if_pos hbt]; exact fun w hw => hv 3 w (by omega) (fun _ => rfl) (fun _ => by omega) (fun _ => by omega) hw
  rw [if_neg hbt]
  by_cases hbs : behind md s o = true
  · rw [if_pos hbs]; exact fun b h1 h2 w hw => hv b w h2 (fun h => absurd h hbt) (fun _ => h1) (fun _ => by omega) hw
  rw [if_neg hbs]
  by_cases hbq : behind md q o = true
  · rw [if_pos hbq]; exact fun b h1 h2 w hw => hv b w h2 (fun h => absurd h hbt) (fun h => absurd h hbs) (fun _ => h1) hw
  rw [if_neg hbq]; exact fun b h2 w hw => hv b w h2 (fun h => absurd h hbt) (fun h => absurd h hbs) (fun h => absurd h hbq) hw
/-- An operation that is no writer: in each class that it can come up in. -/
theorem c_op (hgd : Region.wanted o (yielded ops a.tmps) = true) (hk : (k == q || k == s || k == t) = false) (v : Value) (hv : ∀ b w, b ≤ 3 → (behind md t o = true → b = 3) → (behind md s o = true → 2 ≤ b) → (behind md q o = true → 1 ≤ b) → D b w → stepUpong P (D b) v ((execOp a.eval o).run P w)) (h : walk3 P md ops D q s t Q rest (k + 1) (a.put o.dst v)) : walk3 P md ops D q s t Q (o :: rest) k a :=
  ⟨v, .inl ⟨hgd, steps3_of hk hv⟩, h⟩
/-- A plain operation: it yields v in whatever world. -/
theorem c_ex (hgd : Region.wanted o (yielded ops a.tmps) = true) (hk : (k == q || k == s || k == t) = false) (h : ∃ v, (∀ w, (execOp a.eval o).run P w = .ok (.value v) w) ∧ walk3 P md ops D q s t Q rest (k + 1) (a.put o.dst v)) : walk3 P md ops D q s t Q (o :: rest) k a := by
  obtain ⟨v, h1, h2⟩ := h
  exact c_op hgd hk v (fun b w _ _ _ _ hw => by rw [h1 w]; exact ⟨hw, rfl⟩) h2
/-- One that only reads what no writer turns. -/
theorem c_read (hgd : Region.wanted o (yielded ops a.tmps) = true) (hk : (k == q || k == s || k == t) = false) (h : ∃ v, (∀ b w, b ≤ 3 → D b w → (execOp a.eval o).run P w = .ok (.value v) w) ∧ walk3 P md ops D q s t Q rest (k + 1) (a.put o.dst v)) : walk3 P md ops D q s t Q (o :: rest) k a := by
  obtain ⟨v, h1, h2⟩ := h
  exact c_op hgd hk v (fun b w hb _ _ _ hw => by rw [h1 b w hb hw]; exact ⟨hw, rfl⟩) h2
theorem c_write (hgd : Region.wanted o (yielded ops a.tmps) = true) (hk : (k == q) = true) (v : Value) (hv : ∀ w, D 0 w → stepUpong P (D 1) v ((execOp a.eval o).run P w)) (h : walk3 P md ops D q s t Q rest (k + 1) (a.put o.dst v)) : walk3 P md ops D q s t Q (o :: rest) k a := by
  refine ⟨v, .inl ⟨hgd, ?_⟩, h⟩
  unfold steps3
  rw [if_pos (by simpa using hk)]
  exact hv
theorem c_write2 (hgd : Region.wanted o (yielded ops a.tmps) = true) (hk : (k == q) = false) (hk2 : (k == s) = true) (v : Value) (hv : ∀ w, D 1 w → stepUpong P (D 2) v ((execOp a.eval o).run P w)) (h : walk3 P md ops D q s t Q rest (k + 1) (a.put o.dst v)) : walk3 P md ops D q s t Q (o :: rest) k a := by
  refine ⟨v, .inl ⟨hgd, ?_⟩, h⟩
  unfold steps3
  rw [if_neg (by simpa using hk), if_pos (by simpa using hk2)]
  exact hv
theorem c_write3 (hgd : Region.wanted o (yielded ops a.tmps) = true) (hk : (k == q || k == s) = false) (hk2 : (k == t) = true) (v : Value) (hv : ∀ w, D 2 w → stepUpong P (D 3) v ((execOp a.eval o).run P w)) (h : walk3 P md ops D q s t Q rest (k + 1) (a.put o.dst v)) : walk3 P md ops D q s t Q (o :: rest) k a := by
  simp only [Bool.or_eq_false_iff, beq_eq_false_iff_ne] at hk
  refine ⟨v, .inl ⟨hgd, ?_⟩, h⟩
  unfold steps3
  rw [if_neg hk.1, if_neg hk.2, if_pos (by simpa using hk2)]
  exact hv
end
end Go.Proofs.Ytabjhmblfeoiaaa

/- Stable sorting of indices by their rests, over arrays: exchange of ranges, rotation, merging in place, blocks. No program. -/
import Derived.Sort.LotA
import Derived.Sort.WalkA
set_option linter.unusedVariables false
set_option linter.unusedSimpArgs false
namespace Go.Proofs.Ytgnmoneiiogoaaa
set_option linter.unusedVariables false
set_option linter.unusedSimpArgs false
open Go.Sort
variable {z : Nat}

/-- is the rest of x greater than that of y? -/
def ltr (f : Nat → Int) (x y : Fin (z + 1)) : Bool := decide (f y.val < f x.val)
/-- x stands ahead of y, or is y -/
def Rk (f : Nat → Int) (x y : Fin (z + 1)) : Prop := f y.val < f x.val ∨ (f x.val = f y.val ∧ x.val ≤ y.val)

theorem Rk.trans {f : Nat → Int} {x y u : Fin (z + 1)} (h : Rk f x y) (g : Rk f y u) : Rk f x u := by unfold Rk at *; omega
theorem rk_of_not {f : Nat → Int} {x y : Fin (z + 1)} (h : x.val < y.val) (hl : ltr f y x = false) : Rk f x y := by
  have := of_decide_eq_false hl; unfold Rk; omega
theorem rk_of_lt {f : Nat → Int} {x y : Fin (z + 1)} (hl : ltr f y x = true) : Rk f y x := by
  have := of_decide_eq_true hl; unfold Rk; omega
theorem Rk.total (f : Nat → Int) (x y : Fin (z + 1)) : Rk f x y ∨ Rk f y x := by unfold Rk; omega
theorem Rk.anti {f : Nat → Int} {x y : Fin (z + 1)} (h : Rk f x y) (g : Rk f y x) : x = y := by unfold Rk at *; exact Fin.ext (by omega)

/-- sorted on [a, b) -/
def SL (f : Nat → Int) (a b : Nat) (d : Array (Fin (z + 1))) : Prop := ∀ i j, a ≤ i → i < j → j < b → Rk f d[i]! d[j]!
/-- every index of [a, m) is below every one of [m, b) -/
def CR (a m b : Nat) (d : Array (Fin (z + 1))) : Prop := ∀ i j, a ≤ i → i < m → m ≤ j → j < b → d[i]!.val < d[j]!.val

/-- d1 is d with [a, a+n) and [b, b+n) exchanged -/
def Exch (d d1 : Array (Fin (z + 1))) (a b n : Nat) : Prop :=
  d1.size = d.size ∧ (∀ k, (k < a ∨ a + n ≤ k) → (k < b ∨ b + n ≤ k) → d1[k]! = d[k]!) ∧ (∀ t, t < n → d1[a + t]! = d[b + t]!) ∧ (∀ t, t < n → d1[b + t]! = d[a + t]!)

theorem Exch.zero (d : Array (Fin (z + 1))) (a b : Nat) : Exch d d a b 0 := ⟨rfl, fun _ _ _ => rfl, fun _ h => by omega, fun _ h => by omega⟩
theorem Exch.step {d dk : Array (Fin (z + 1))} {a b n : Nat} (h : Exch d dk a b n) (hab : a + n < b) (hb : b + n < d.size) : Exch d (swp dk (a + n) (b + n)) a b (n + 1) := by
  obtain ⟨hs, h1, h2, h3⟩ := h
  refine ⟨by rw [size_swp, hs], fun k ha hb' => ?_, fun t ht => ?_, fun t ht => ?_⟩
  · rw [swp_other _ _ _ _ (by omega) (by omega)]; exact h1 k (by omega) (by omega)
  · rcases Nat.lt_or_ge t n with g | g
    · rw [swp_other _ _ _ _ (by omega) (by omega)]; exact h2 t g
    · have : t = n := by omega
      subst this
      rw [swp_left _ _ _ (by omega) (by omega)]; exact h1 _ (by omega) (by omega)
  · rcases Nat.lt_or_ge t n with g | g
    · rw [swp_other _ _ _ _ (by omega) (by omega)]; exact h3 t g
    · have : t = n := by omega
      subst this
      rw [swp_right _ _ _ (by omega)]; exact h1 _ (by omega) (by omega)

/-- d1 is d with [s, m) and [m, e) in the other order -/
def Rot (d d1 : Array (Fin (z + 1))) (s m e : Nat) : Prop :=
  d1.size = d.size ∧ (∀ k, k < s ∨ e ≤ k → d1[k]! = d[k]!) ∧ (∀ t, t < e - m → d1[s + t]! = d[m + t]!) ∧ (∀ t, t < m - s → d1[s + (e - m) + t]! = d[s + t]!)

theorem Rot.left (d : Array (Fin (z + 1))) (m e : Nat) (h : m ≤ e) : Rot d d m m e :=
  ⟨rfl, fun _ _ => rfl, fun _ _ => rfl, fun t ht => by omega⟩
theorem Rot.right (d : Array (Fin (z + 1))) (s m : Nat) (h : s ≤ m) : Rot d d s m m :=
  ⟨rfl, fun _ _ => rfl, fun t ht => by omega, fun t _ => by rw [Nat.sub_self] <;> rfl⟩

theorem rot_eq {d d1 : Array (Fin (z + 1))} {s m e : Nat} (hs : s ≤ m) (he : m ≤ e) (h : m - s = e - m) (hx : Exch d d1 s m (m - s)) : Rot d d1 s m e := by
  obtain ⟨h0, h1, h2, h3⟩ := hx
  refine ⟨h0, fun k hk => h1 k (by omega) (by omega), fun t ht => h2 t (by omega), fun t ht => ?_⟩
  rw [show s + (e - m) + t = m + t by omega]; exact h3 t ht

theorem rot_gt {d d1 d2 : Array (Fin (z + 1))} {s m e : Nat} (hs : s ≤ m) (he : m ≤ e) (h : e - m < m - s) (hx : Exch d d1 s m (e - m)) (hr : Rot d1 d2 (s + (e - m)) m e) : Rot d d2 s m e := by
  obtain ⟨h0, h1, h2, h3⟩ := hx
  obtain ⟨r0, r1, r2, r3⟩ := hr
  refine ⟨r0.trans h0, fun k hk => ?_, fun t ht => ?_, fun t ht => ?_⟩
  · rw [r1 k (by omega)]; exact h1 k (by omega) (by omega)
  · rw [r1 (s + t) (by omega)]; exact h2 t ht
  · rcases Nat.lt_or_ge t (e - m) with g | g
    · rw [r2 t g]; exact h3 t g
    · have := r3 (t - (e - m)) (by omega)
      rw [show s + (e - m) + (e - m) + (t - (e - m)) = s + (e - m) + t by omega, show s + (e - m) + (t - (e - m)) = s + t by omega] at this
      rw [this]; exact h1 _ (by omega) (by omega)

theorem rot_lt {d d1 d2 : Array (Fin (z + 1))} {s m e : Nat} (hs : s ≤ m) (he : m ≤ e) (h : m - s < e - m) (hx : Exch d d1 s (e - (m - s)) (m - s)) (hr : Rot d1 d2 s m (e - (m - s))) : Rot d d2 s m e := by
  obtain ⟨h0, h1, h2, h3⟩ := hx
  obtain ⟨r0, r1, r2, r3⟩ := hr
  refine ⟨r0.trans h0, fun k hk => ?_, fun t ht => ?_, fun t ht => ?_⟩
  · rw [r1 k (by omega)]; exact h1 k (by omega) (by omega)
  · rcases Nat.lt_or_ge t (e - (m - s) - m) with g | g
    · rw [r2 t g]; exact h1 _ (by omega) (by omega)
    · have := r3 (t - (e - (m - s) - m)) (by omega)
      rw [show s + (e - (m - s) - m) + (t - (e - (m - s) - m)) = s + t by omega] at this
      rw [this, h2 _ (by omega)]
      congr 1; omega
  · rw [r1 _ (by omega)]
    have := h3 t ht
    rw [show e - (m - s) + t = s + (e - m) + t by omega] at this
    exact this

theorem split_ok {f : Nat → Int} {d d1 : Array (Fin (z + 1))} {a s m e b : Nat} (has : a ≤ s) (hsm : s ≤ m) (hme : m ≤ e) (heb : e ≤ b) (hL : SL f a m d) (hR : SL f m b d)
    (h1 : a < s → e < b → Rk f d[s - 1]! d[e]!) (h2 : s < m → m < e → Rk f d[e - 1]! d[s]!) (hr : Rot d d1 s m e) :
    SL f a s d1 ∧ SL f s (s + (e - m)) d1 ∧ SL f (s + (e - m)) e d1 ∧ SL f e b d1 ∧ ∀ i j, a ≤ i → i < s + (e - m) → s + (e - m) ≤ j → j < b → Rk f d1[i]! d1[j]! := by
  obtain ⟨r0, r1, r2, r3⟩ := hr
  have g2 : ∀ k, s ≤ k → k < s + (e - m) → d1[k]! = d[m + (k - s)]! := fun k h h' => by
    have := r2 (k - s) (by omega); rwa [show s + (k - s) = k by omega] at this
  have g3 : ∀ k, s + (e - m) ≤ k → k < e → d1[k]! = d[s + (k - (s + (e - m)))]! := fun k h h' => by
    have := r3 (k - (s + (e - m))) (by omega); rwa [show s + (e - m) + (k - (s + (e - m))) = k by omega] at this
  have leL : ∀ i j, a ≤ i → i ≤ j → j < m → Rk f d[i]! d[j]! := fun i j h h' h'' => by
    rcases Nat.lt_or_ge i j with g | g
    · exact hL i j h g h''
    · rw [show i = j by omega]; exact Or.inr ⟨rfl, Nat.le_refl _⟩
  have leR : ∀ i j, m ≤ i → i ≤ j → j < b → Rk f d[i]! d[j]! := fun i j h h' h'' => by
    rcases Nat.lt_or_ge i j with g | g
    · exact hR i j h g h''
    · rw [show i = j by omega]; exact Or.inr ⟨rfl, Nat.le_refl _⟩
  refine ⟨fun i j h h' h'' => ?_, fun i j h h' h'' => ?_, fun i j h h' h'' => ?_, fun i j h h' h'' => ?_, fun i j h h' h'' h3 => ?_⟩
  · rw [r1 i (by omega), r1 j (by omega)]; exact hL i j h h' (by omega)
  · rw [g2 i (by omega) (by omega), g2 j (by omega) (by omega)]; exact hR _ _ (by omega) (by omega) (by omega)
  · rw [g3 i (by omega) (by omega), g3 j (by omega) (by omega)]; exact hL _ _ (by omega) (by omega) (by omega)
  · rw [r1 i (by omega), r1 j (by omega)]; exact hR i j (by omega) h' (by omega)
  · rcases Nat.lt_or_ge i s with hi | hi
    · rw [r1 i (by omega)]
      rcases Nat.lt_or_ge j e with hj | hj
      · rw [g3 j h'' hj]; exact leL _ _ h (by omega) (by omega)
      · rw [r1 j (by omega)]
        exact ((leL i (s - 1) h (by omega) (by omega)).trans (h1 (by omega) (by omega))).trans (leR e j (by omega) hj h3)
    · rw [g2 i hi h']
      rcases Nat.lt_or_ge j e with hj | hj
      · rw [g3 j h'' hj]
        exact ((leR _ (e - 1) (by omega) (by omega) (by omega)).trans (h2 (by omega) (by omega))).trans (leL s _ (by omega) (by omega) (by omega))
      · rw [r1 j (by omega)]; exact leR _ _ (by omega) (by omega) h3

theorem cross_ok {d d1 : Array (Fin (z + 1))} {a s m e b : Nat} (has : a ≤ s) (hsm : s ≤ m) (hme : m ≤ e) (heb : e ≤ b) (hc : CR a m b d) (hr : Rot d d1 s m e) :
    CR a s (s + (e - m)) d1 ∧ CR (s + (e - m)) e b d1 := by
  obtain ⟨r0, r1, r2, r3⟩ := hr
  refine ⟨fun i j h h' h'' h3 => ?_, fun i j h h' h'' h3 => ?_⟩
  · have := r2 (j - s) (by omega)
    rw [show s + (j - s) = j by omega] at this
    rw [r1 i (by omega), this]; exact hc _ _ h (by omega) (by omega) (by omega)
  · have := r3 (i - (s + (e - m))) (by omega)
    rw [show s + (e - m) + (i - (s + (e - m))) = i by omega] at this
    rw [r1 j (by omega), this]; exact hc _ _ (by omega) (by omega) (by omega) h3

theorem join_ok {f : Nat → Int} {d1 d2 d3 : Array (Fin (z + 1))} {a c b : Nat} (hac : a ≤ c) (hcb : c ≤ b) (hb : b ≤ d1.size) (p1 : PermIn a c d1 d2) (s1 : SL f a c d2) (p2 : PermIn c b d2 d3) (s2 : SL f c b d3)
    (hx : ∀ i j, a ≤ i → i < c → c ≤ j → j < b → Rk f d1[i]! d1[j]!) : SL f a b d3 ∧ PermIn a b d1 d3 := by
  refine ⟨fun i j h h' h'' => ?_, permIn_trans _ _ _ _ _ (permIn_mono _ _ _ _ _ _ (Nat.le_refl _) hcb hb p1) (permIn_mono _ _ _ _ _ _ hac (Nat.le_refl _) (by rw [p1.1]; exact hb) p2)⟩
  rcases Nat.lt_or_ge j c with hj | hj
  · rw [p2.2.1 i (by omega), p2.2.1 j (by omega)]; exact s1 i j h h' hj
  · rcases Nat.lt_or_ge i c with hi | hi
    · rw [p2.2.1 i (by omega)]
      have key : ∀ y, y = d2[i]! → Rk f y d3[j]! := by
        intro y hy
        refine permIn_all d2 d3 c b (fun x => Rk f y x) (by rw [p1.1]; exact hb) p2 (fun k hk hk' => ?_) j hj h''
        rw [p1.2.1 k (by omega), hy]
        exact permIn_all d1 d2 a c (fun x => Rk f x d1[k]!) (by omega) p1 (fun q hq hq' => hx q k hq hq' hk hk') i h hi
      exact key _ rfl
    · exact s2 i j hi h' h''

theorem ins_left {f : Nat → Int} {d d1 : Array (Fin (z + 1))} {a i b : Nat} (hi : a + 1 ≤ i) (hib : i ≤ b) (hR : SL f (a + 1) b d) (h1 : a + 1 < i → Rk f d[i - 1]! d[a]!) (h2 : i < b → Rk f d[a]! d[i]!) (hr : Rot d d1 a (a + 1) i) : SL f a b d1 := by
  obtain ⟨hA, hB, hC, hD, hE⟩ := split_ok (f := f) (a := a) (b := b) (Nat.le_refl a) (by omega) (by omega) (by omega) (fun i j h h' h'' => by omega) hR (fun h => by omega) (fun _ h => h1 h) hr
  have e1 : a + (i - (a + 1)) = i - 1 := by omega
  rw [e1] at hB hC hE
  obtain ⟨r0, r1, r2, r3⟩ := hr
  have e3 := r3 0 (by omega)
  rw [e1] at e3
  simp only [Nat.add_zero] at e3
  intro p q h h' h''
  rcases Nat.lt_or_ge p (i - 1) with hp | hp
  · rcases Nat.lt_or_ge q (i - 1) with hq | hq
    · exact hB p q h h' hq
    · exact hE p q h hp hq h''
  · rcases Nat.lt_or_ge p i with hp' | hp'
    · have : p = i - 1 := by omega
      subst this
      rw [e3, r1 q (by omega)]
      refine (h2 (by omega)).trans ?_
      rcases Nat.lt_or_ge i q with g | g
      · exact hR i q (by omega) g h''
      · rw [show i = q by omega]; exact Or.inr ⟨rfl, Nat.le_refl _⟩
    · exact hD p q hp' h' h''

theorem ins_right {f : Nat → Int} {d d1 : Array (Fin (z + 1))} {a i m : Nat} (hi : a ≤ i) (him : i ≤ m) (hL : SL f a m d) (h1 : a < i → Rk f d[i - 1]! d[m]!) (h2 : i < m → Rk f d[m]! d[i]!) (hr : Rot d d1 i m (m + 1)) : SL f a (m + 1) d1 := by
  obtain ⟨r0, r1, r2, r3⟩ := hr
  have e2 := r2 0 (by omega)
  simp only [Nat.add_zero] at e2
  have g3 : ∀ k, i < k → k ≤ m → d1[k]! = d[k - 1]! := fun k h h' => by
    have := r3 (k - (i + 1)) (by omega)
    rw [show i + (m + 1 - m) + (k - (i + 1)) = k by omega, show i + (k - (i + 1)) = k - 1 by omega] at this
    exact this
  have leL : ∀ i j, a ≤ i → i ≤ j → j < m → Rk f d[i]! d[j]! := fun i j h h' h'' => by
    rcases Nat.lt_or_ge i j with g | g
    · exact hL i j h g h''
    · rw [show i = j by omega]; exact Or.inr ⟨rfl, Nat.le_refl _⟩
  intro p q h h' h''
  rcases Nat.lt_or_ge p i with hp | hp
  · rw [r1 p (by omega)]
    rcases Nat.lt_or_ge q i with hq | hq
    · rw [r1 q (by omega)]; exact hL p q h h' (by omega)
    · rcases Nat.lt_or_ge i q with g | g
      · rw [g3 q g (by omega)]; exact leL p (q - 1) h (by omega) (by omega)
      · have : q = i := by omega
        subst this
        rw [e2]; exact (leL p (q - 1) h (by omega) (by omega)).trans (h1 (by omega))
  · rcases Nat.lt_or_ge i p with g | g
    · rw [g3 p g (by omega), g3 q (by omega) (by omega)]; exact leL _ _ (by omega) (by omega) (by omega)
    · have : p = i := by omega
      subst this
      rw [e2, g3 q (by omega) (by omega)]
      exact (h2 (by omega)).trans (leL p (q - 1) (by omega) (by omega) (by omega))

theorem bub_up {d dk : Array (Fin (z + 1))} {a k : Nat} (ha : a ≤ k) (hk : k + 1 < d.size) (h : Rot d dk a (a + 1) (k + 1)) : Rot d (swp dk k (k + 1)) a (a + 1) (k + 2) := by
  obtain ⟨r0, r1, r2, r3⟩ := h
  have e3 := r3 0 (by omega)
  rw [show a + (k + 1 - (a + 1)) + 0 = k by omega] at e3
  simp only [Nat.add_zero] at e3
  refine ⟨by rw [size_swp, r0], fun p hp => ?_, fun t ht => ?_, fun t ht => ?_⟩
  · rw [swp_other _ _ _ _ (by omega) (by omega)]; exact r1 p (by omega)
  · rcases Nat.lt_or_ge t (k - a) with g | g
    · rw [swp_other _ _ _ _ (by omega) (by omega)]; exact r2 t (by omega)
    · rw [show a + t = k by omega, swp_left _ _ _ (by omega) (by omega), r1 _ (by omega)]; congr 1; omega
  · have : t = 0 := by omega
    subst this
    rw [show a + (k + 2 - (a + 1)) + 0 = k + 1 by omega, swp_right _ _ _ (by omega), e3] <;> rfl

theorem bub_dn {d dk : Array (Fin (z + 1))} {k m : Nat} (hk : 0 < k) (hkm : k ≤ m) (hm : m < d.size) (h : Rot d dk k m (m + 1)) : Rot d (swp dk k (k - 1)) (k - 1) m (m + 1) := by
  obtain ⟨r0, r1, r2, r3⟩ := h
  have e2 := r2 0 (by omega)
  simp only [Nat.add_zero] at e2
  refine ⟨by rw [size_swp, r0], fun p hp => ?_, fun t ht => ?_, fun t ht => ?_⟩
  · rw [swp_other _ _ _ _ (by omega) (by omega)]; exact r1 p (by omega)
  · have : t = 0 := by omega
    subst this
    simp only [Nat.add_zero]
    rw [swp_right _ _ _ (by omega)]; exact e2
  · rw [show k - 1 + (m + 1 - m) + t = k + t by omega]
    rcases Nat.eq_zero_or_pos t with g | g
    · subst g
      simp only [Nat.add_zero]
      rw [swp_left _ _ _ (by omega) (by omega), r1 _ (by omega)]
    · rw [swp_other _ _ _ _ (by omega) (by omega)]
      have := r3 (t - 1) (by omega)
      rw [show k + (m + 1 - m) + (t - 1) = k + t by omega, show k + (t - 1) = k - 1 + t by omega] at this
      exact this

/-! ### the insertion sort of a block whose indices rise -/
def lts (f : Nat → Int) (x y : Fin (z + 1)) : Bool := decide (f y.val < f x.val ∨ (f x.val = f y.val ∧ x.val < y.val))
theorem lts_swo (f : Nat → Int) : SWO (lts (z := z) f) where
  irrefl x := by simp [lts]
  trans x y u h g := by simp only [lts, decide_eq_true_eq] at *; omega
  ntrans x y u h g := by simp only [lts, decide_eq_false_iff_not] at *; omega
theorem lts_ltr {f : Nat → Int} {x y : Fin (z + 1)} (h : y.val < x.val) : ltr f x y = lts f x y := by
  unfold ltr lts; congr 1; apply propext; omega

theorem insInner_agree (f : Nat → Int) (a : Nat) : ∀ (j : Nat) (d : Array (Fin (z + 1))), (∀ k, a ≤ k → k < j → d[k]!.val < d[j]!.val) → j < d.size → insInner (ltr f) a j d = insInner (lts f) a j d := by
  intro j
  induction j with
  | zero => intro d _ _; rfl
  | succ j ih =>
    intro d h hj
    unfold insInner
    by_cases hja : j + 1 > a
    · rw [lts_ltr (h j (by omega) (by omega))]
      split
      · refine ih _ (fun k hk hk' => ?_) (by rw [size_swp]; omega)
        rw [swp_right _ _ _ (by omega), swp_other _ _ _ _ (by omega) (by omega)]
        exact h k hk (by omega)
      · rfl
    · simp [hja]

theorem insInner_perm (lt : Fin (z + 1) → Fin (z + 1) → Bool) (a b : Nat) : ∀ (j : Nat) (d : Array (Fin (z + 1))), j < b → b ≤ d.size → PermIn a b d (insInner lt a j d) := by
  intro j
  induction j with
  | zero => intro d _ _; exact permIn_refl _ _ _
  | succ j ih =>
    intro d hj hb
    unfold insInner
    split
    · rename_i hc
      have hja : a < j + 1 := by simp at hc; omega
      refine permIn_trans _ _ _ _ _ (swp_permIn d a b (j + 1) j (by omega) (by omega) (by omega) (by omega) hb) (ih _ (by omega) (by rw [size_swp]; exact hb))
    · exact permIn_refl _ _ _

theorem insOuter_agree (f : Nat → Int) (a b : Nat) : ∀ (n i : Nat) (d : Array (Fin (z + 1))), b - i = n → a ≤ i → b ≤ d.size → (∀ k k', a ≤ k → k < k' → i ≤ k' → k' < b → d[k]!.val < d[k']!.val) → insOuter (ltr f) a b i d = insOuter (lts f) a b i d := by
  intro n
  induction n with
  | zero => intro i d hn hai hb h; rw [insOuter_stop _ _ _ _ _ (by omega), insOuter_stop _ _ _ _ _ (by omega)]
  | succ n ih =>
    intro i d hn hai hb h
    rw [insOuter_go (lt := ltr f) a b i d (by omega), insOuter_go (lt := lts f) a b i d (by omega), insInner_agree f a i d (fun k hk hk' => h k i hk hk' (Nat.le_refl _) (by omega)) (by omega)]
    have hp := insInner_perm (lts f) a (i + 1) i d (by omega) (by omega)
    refine ih (i + 1) _ (by omega) (by omega) (by rw [hp.1]; exact hb) (fun k k' hk hkk hk' hb' => ?_)
    rw [hp.2.1 k' (by omega)]
    rcases Nat.lt_or_ge k (i + 1) with g | g
    · exact permIn_all d _ a (i + 1) (fun x => x.val < d[k']!.val) (by omega) hp (fun q hq hq' => h q k' hq (by omega) (by omega) hb') k hk g
    · rw [hp.2.1 k (by omega)]; exact h k k' hk hkk (by omega) hb'

theorem ins_stable (f : Nat → Int) (d : Array (Fin (z + 1))) (a b : Nat) (hab : a ≤ b) (hb : b ≤ d.size) (h : ∀ i, a ≤ i → i < b → d[i]!.val = i) :
    PermIn a b d (insertionSort (ltr f) d a b) ∧ SL f a b (insertionSort (ltr f) d a b) := by
  have e : insertionSort (ltr f) d a b = insertionSort (lts f) d a b :=
    insOuter_agree f a b _ (a + 1) d rfl (by omega) hb (fun k k' hk hkk _ hb' => by rw [h k hk (by omega), h k' (by omega) hb']; exact hkk)
  rw [e]
  obtain ⟨hp, hs⟩ := insertionSort_holds (lts_swo f) d a b hab hb
  refine ⟨hp, fun i j hi hij hj => ?_⟩
  have := hs i j hi hij hj
  simp only [lts, decide_eq_false_iff_not] at this
  unfold Rk; omega

/-! ### blocks -/
/-- [lo, hi) is a sorted block of the indices lo .. hi - 1 -/
def Blk (f : Nat → Int) (lo hi : Nat) (d : Array (Fin (z + 1))) : Prop := SL f lo hi d ∧ ∀ i, lo ≤ i → i < hi → lo ≤ d[i]!.val ∧ d[i]!.val < hi

theorem Blk.perm {f : Nat → Int} {lo hi : Nat} {d d' : Array (Fin (z + 1))} (hb : hi ≤ d.size) (hp : PermIn lo hi d d') (h : ∀ i, lo ≤ i → i < hi → lo ≤ d[i]!.val ∧ d[i]!.val < hi) (hs : SL f lo hi d') : Blk f lo hi d' :=
  ⟨hs, permIn_all d d' lo hi (fun x => lo ≤ x.val ∧ x.val < hi) hb hp h⟩
theorem Blk.other {f : Nat → Int} {lo hi a b : Nat} {d d' : Array (Fin (z + 1))} (h : Blk f lo hi d) (hp : PermIn a b d d') (ho : hi ≤ a ∨ b ≤ lo) : Blk f lo hi d' :=
  ⟨fun i j h1 h2 h3 => by rw [hp.2.1 i (by omega), hp.2.1 j (by omega)]; exact h.1 i j h1 h2 h3, fun i h1 h2 => by rw [hp.2.1 i (by omega)]; exact h.2 i h1 h2⟩
theorem Blk.cross {f : Nat → Int} {a m b : Nat} {d : Array (Fin (z + 1))} (h : Blk f a m d) (g : Blk f m b d) : CR a m b d := fun i j h1 h2 h3 h4 => by
  have := (h.2 i h1 h2).2; have := (g.2 j h3 h4).1; omega
/-- two neighbours merged -/
theorem Blk.merge {f : Nat → Int} {a m b : Nat} {d d' : Array (Fin (z + 1))} (hb : b ≤ d.size) (ham : a ≤ m) (hmb : m ≤ b) (h : Blk f a m d) (g : Blk f m b d) (hp : PermIn a b d d') (hs : SL f a b d') : Blk f a b d' :=
  Blk.perm hb hp (fun i h1 h2 => by
    rcases Nat.lt_or_ge i m with q | q
    · have := h.2 i h1 q; omega
    · have := g.2 i q h2; omega) hs
end Go.Proofs.Ytgnmoneiiogoaaa

/- Stable sorting of indices by their rests, over arrays: exchange of ranges, rotation, merging in place, blocks. No program. slices' swapRangeCmpFunc over a part of a row of numbers: contracts in worlds that part from the first by the part, draws and new blocks alone. slices' symMergeCmpFunc over a part of a row of numbers. slices' symMergeCmpFunc over a part of a row of numbers: the last of it alone. slices' symMergeCmpFunc over a part of a row of numbers: the whole. slices' stableCmpFunc over a part of a row of numbers. slices.SortStableFunc over a row of numbers. -/
import Derived.Sort.LotA
import Derived.Sort.WalkA
import Derived.Test.YthphdiigjimchaaGreatKitOne
import Derived.Test.YthphdiigjimchaaGreatKitTwo
import Derived.Shelf.SlSortCmp.Kit1
import Derived.Deep.RegionLaw
import Derived.Shelf.SlSortCmp.QuietGrown
import Derived.Test.YthphdiigjimchaaGreatShelf
namespace Go.Proofs.YthphdiigjimchaaGreat
section
set_option linter.unusedVariables false
set_option linter.unusedSimpArgs false
open Go.Sort
variable {z : Nat}
def ltr (f : Nat → Int) (x y : Fin (z + 1)) : Bool := decide (f y.val < f x.val)
def Rk (f : Nat → Int) (x y : Fin (z + 1)) : Prop := f y.val < f x.val ∨ (f x.val = f y.val ∧ x.val ≤ y.val)
theorem Rk.trans {f : Nat → Int} {x y u : Fin (z + 1)} (h : Rk f x y) (g : Rk f y u) : Rk f x u := by unfold Rk at *; omega
theorem rk_of_not {f : Nat → Int} {x y : Fin (z + 1)} (h : x.val < y.val) (hl : ltr f y x = false) : Rk f x y := by
  have := of_decide_eq_false hl; unfold Rk; omega
theorem rk_of_lt {f : Nat → Int} {x y : Fin (z + 1)} (hl : ltr f y x = true) : Rk f y x := by
  have := of_decide_eq_true hl; unfold Rk; omega
def SL (f : Nat → Int) (a b : Nat) (d : Array (Fin (z + 1))) : Prop := ∀ i j, a ≤ i → i < j → j < b → Rk f d[i]! d[j]!
def CR (a m b : Nat) (d : Array (Fin (z + 1))) : Prop := ∀ i j, a ≤ i → i < m → m ≤ j → j < b → d[i]!.val < d[j]!.val
def Exch (d d1 : Array (Fin (z + 1))) (a b n : Nat) : Prop :=
  d1.size = d.size ∧ (∀ k, (k < a ∨ a + n ≤ k) → (k < b ∨ b + n ≤ k) → d1[k]! = d[k]!) ∧ (∀ t, t < n → d1[a + t]! = d[b + t]!) ∧ (∀ t, t < n → d1[b + t]! = d[a + t]!)
theorem Exch.zero (d : Array (Fin (z + 1))) (a b : Nat) : Exch d d a b 0 := ⟨rfl, fun _ _ _ => rfl, fun _ h => by omega, fun _ h => by omega⟩
theorem Exch.step {d dk : Array (Fin (z + 1))} {a b n : Nat} (h : Exch d dk a b n) (hab : a + n < b) (hb : b + n < d.size) : Exch d (swp dk (a + n) (b + n)) a b (n + 1) := by
  obtain ⟨hs, h1, h2, h3⟩ := h
  refine ⟨by rw [size_swp, hs], fun k ha hb' => ?_, fun t ht => ?_, fun t ht => ?_⟩
  · rw [swp_other _ _ _ _ (by omega) (by omega)]; exact h1 k (by omega) (by omega)
  · rcases Nat.lt_or_ge t n with g | g
    · rw [swp_other _ _ _ _ (by omega) (by omega)]; exact h2 t g
    · have : t = n := by omega
      subst this
      rw [swp_left _ _ _ (by omega) (by omega)]; exact h1 _ (by omega) (by omega)
  · rcases Nat.lt_or_ge t n with g | g
    · rw [swp_other _ _ _ _ (by omega) (by omega)]; exact h3 t g
    · have : t = n := by omega
      subst this
      rw [swp_right _ _ _ (by omega)]; exact h1 _ (by omega) (by omega)
def Rot (d d1 : Array (Fin (z + 1))) (s m e : Nat) : Prop :=
  d1.size = d.size ∧ (∀ k, k < s ∨ e ≤ k → d1[k]! = d[k]!) ∧ (∀ t, t < e - m → d1[s + t]! = d[m + t]!) ∧ (∀ t, t < m - s → d1[s + (e - m) + t]! = d[s + t]!)
theorem Rot.left (d : Array (Fin (z + 1))) (m e : Nat) (h : m ≤ e) : Rot d d m m e :=
  ⟨rfl, fun _ _ => rfl, fun _ _ => rfl, fun t ht => by omega⟩
theorem Rot.right (d : Array (Fin (z + 1))) (s m : Nat) (h : s ≤ m) : Rot d d s m m :=
  ⟨rfl, fun _ _ => rfl, fun t ht => by omega, fun t _ => by rw [Nat.sub_self] <;> rfl⟩
theorem rot_eq {d d1 : Array (Fin (z + 1))} {s m e : Nat} (hs : s ≤ m) (he : m ≤ e) (h : m - s = e - m) (hx : Exch d d1 s m (m - s)) : Rot d d1 s m e := by
  obtain ⟨h0, h1, h2, h3⟩ := hx
  refine ⟨h0, fun k hk => h1 k (by omega) (by omega), fun t ht => h2 t (by omega), fun t ht => ?_⟩
  rw [show s + (e - m) + t = m + t by omega]; exact h3 t ht
theorem rot_gt {d d1 d2 : Array (Fin (z + 1))} {s m e : Nat} (hs : s ≤ m) (he : m ≤ e) (h : e - m < m - s) (hx : Exch d d1 s m (e - m)) (hr : Rot d1 d2 (s + (e - m)) m e) : Rot d d2 s m e := by
  obtain ⟨h0, h1, h2, h3⟩ := hx
  obtain ⟨r0, r1, r2, r3⟩ := hr
  refine ⟨r0.trans h0, fun k hk => ?_, fun t ht => ?_, fun t ht => ?_⟩
  · rw [r1 k (by omega)]; exact h1 k (by omega) (by omega)
  · rw [r1 (s + t) (by omega)]; exact h2 t ht
  · rcases Nat.lt_or_ge t (e - m) with g | g
    · rw [r2 t g]; exact h3 t g
    · have := r3 (t - (e - m)) (by omega)
      rw [show s + (e - m) + (e - m) + (t - (e - m)) = s + (e - m) + t by omega, show s + (e - m) + (t - (e - m)) = s + t by omega] at this
      rw [this]; exact h1 _ (by omega) (by omega)
theorem rot_lt {d d1 d2 : Array (Fin (z + 1))} {s m e : Nat} (hs : s ≤ m) (he : m ≤ e) (h : m - s < e - m) (hx : Exch d d1 s (e - (m - s)) (m - s)) (hr : Rot d1 d2 s m (e - (m - s))) : Rot d d2 s m e := by
  obtain ⟨h0, h1, h2, h3⟩ := hx
  obtain ⟨r0, r1, r2, r3⟩ := hr
  refine ⟨r0.trans h0, fun k hk => ?_, fun t ht => ?_, fun t ht => ?_⟩
  · rw [r1 k (by omega)]; exact h1 k (by omega) (by omega)
  · rcases Nat.lt_or_ge t (e - (m - s) - m) with g | g
    · rw [r2 t g]; exact h1 _ (by omega) (by omega)
    · have := r3 (t - (e - (m - s) - m)) (by omega)
      rw [show s + (e - (m - s) - m) + (t - (e - (m - s) - m)) = s + t by omega] at this
      rw [this, h2 _ (by omega)]
      congr 1; omega
  · rw [r1 _ (by omega)]
    have := h3 t ht
    rw [show e - (m - s) + t = s + (e - m) + t by omega] at this
    exact this
theorem split_ok {f : Nat → Int} {d d1 : Array (Fin (z + 1))} {a s m e b : Nat} (has : a ≤ s) (hsm : s ≤ m) (hme : m ≤ e) (heb : e ≤ b) (hL : SL f a m d) (hR : SL f m b d)
    (h1 : a < s → e < b → Rk f d[s - 1]! d[e]!) (h2 : s < m → m < e → Rk f d[e - 1]! d[s]!) (hr : Rot d d1 s m e) :
    SL f a s d1 ∧ SL f s (s + (e - m)) d1 ∧ SL f (s + (e - m)) e d1 ∧ SL f e b d1 ∧ ∀ i j, a ≤ i → i < s + (e - m) → s + (e - m) ≤ j → j < b → Rk f d1[i]! d1[j]! := by
  obtain ⟨r0, r1, r2, r3⟩ := hr
  have g2 : ∀ k, s ≤ k → k < s + (e - m) → d1[k]! = d[m + (k - s)]! := fun k h h' => by
    have := r2 (k - s) (by omega); rwa [show s + (k - s) = k by omega] at this
  have g3 : ∀ k, s + (e - m) ≤ k → k < e → d1[k]! = d[s + (k - (s + (e - m)))]! := fun k h h' => by
    have := r3 (k - (s + (e - m))) (by omega); rwa [show s + (e - m) + (k - (s + (e - m))) = k by omega] at this
  have leL : ∀ i j, a ≤ i → i ≤ j → j < m → Rk f d[i]! d[j]! := fun i j h h' h'' => by
    rcases Nat.lt_or_ge i j with g | g
    · exact hL i j h g h''
    · rw [show i = j by omega]; exact Or.inr ⟨rfl, Nat.le_refl _⟩
  have leR : ∀ i j, m ≤ i → i ≤ j → j < b → Rk f d[i]! d[j]! := fun i j h h' h'' => by
    rcases Nat.lt_or_ge i j with g | g
    · exact hR i j h g h''
    · rw [show i = j by omega]; exact Or.inr ⟨rfl, Nat.le_refl _⟩
  refine ⟨fun i j h h' h'' => ?_, fun i j h h' h'' => ?_, fun i j h h' h'' => ?_, fun i j h h' h'' => ?_, fun i j h h' h'' h3 => ?_⟩
  · rw [r1 i (by omega), r1 j (by omega)]; exact hL i j h h' (by omega)
  · rw [g2 i (by omega) (by omega), g2 j (by omega) (by omega)]; exact hR _ _ (by omega) (by omega) (by omega)
  · rw [g3 i (by omega) (by omega), g3 j (by omega) (by omega)]; exact hL _ _ (by omega) (by omega) (by omega)
  · rw [r1 i (by omega), r1 j (by omega)]; exact hR i j (by omega) h' (by omega)
  · rcases Nat.lt_or_ge i s with hi | hi
    · rw [r1 i (by omega)]
      rcases Nat.lt_or_ge j e with hj | hj
      · rw [g3 j h'' hj]; exact leL _ _ h (by omega) (by omega)
      · rw [r1 j (by omega)]
        exact ((leL i (s - 1) h (by omega) (by omega)).trans (h1 (by omega) (by omega))).trans (leR e j (by omega) hj h3)
    · rw [g2 i hi h']
      rcases Nat.lt_or_ge j e with hj | hj
      · rw [g3 j h'' hj]
        exact ((leR _ (e - 1) (by omega) (by omega) (by omega)).trans (h2 (by omega) (by omega))).trans (leL s _ (by omega) (by omega) (by omega))
      · rw [r1 j (by omega)]; exact leR _ _ (by omega) (by omega) h3
theorem cross_ok {d d1 : Array (Fin (z + 1))} {a s m e b : Nat} (has : a ≤ s) (hsm : s ≤ m) (hme : m ≤ e) (heb : e ≤ b) (hc : CR a m b d) (hr : Rot d d1 s m e) :
    CR a s (s + (e - m)) d1 ∧ CR (s + (e - m)) e b d1 := by
  obtain ⟨r0, r1, r2, r3⟩ := hr
  refine ⟨fun i j h h' h'' h3 => ?_, fun i j h h' h'' h3 => ?_⟩
  · have := r2 (j - s) (by omega)
    rw [show s + (j - s) = j by omega] at this
    rw [r1 i (by omega), this]; exact hc _ _ h (by omega) (by omega) (by omega)
  · have := r3 (i - (s + (e - m))) (by omega)
    rw [show s + (e - m) + (i - (s + (e - m))) = i by omega] at this
    rw [r1 j (by omega), this]; exact hc _ _ (by omega) (by omega) (by omega) h3
theorem join_ok {f : Nat → Int} {d1 d2 d3 : Array (Fin (z + 1))} {a c b : Nat} (hac : a ≤ c) (hcb : c ≤ b) (hb : b ≤ d1.size) (p1 : PermIn a c d1 d2) (s1 : SL f a c d2) (p2 : PermIn c b d2 d3) (s2 : SL f c b d3)
    (hx : ∀ i j, a ≤ i → i < c → c ≤ j → j < b → Rk f d1[i]! d1[j]!) : SL f a b d3 ∧ PermIn a b d1 d3 := by
  refine ⟨fun i j h h' h'' => ?_, permIn_trans _ _ _ _ _ (permIn_mono _ _ _ _ _ _ (Nat.le_refl _) hcb hb p1) (permIn_mono _ _ _ _ _ _ hac (Nat.le_refl _) (by rw [p1.1]; exact hb) p2)⟩
  rcases Nat.lt_or_ge j c with hj | hj
  · rw [p2.2.1 i (by omega), p2.2.1 j (by omega)]; exact s1 i j h h' hj
  · rcases Nat.lt_or_ge i c with hi | hi
    · rw [p2.2.1 i (by omega)]
      have key : ∀ y, y = d2[i]! → Rk f y d3[j]! := by
        intro y hy
        refine permIn_all d2 d3 c b (fun x => Rk f y x) (by rw [p1.1]; exact hb) p2 (fun k hk hk' => ?_) j hj h''
        rw [p1.2.1 k (by omega), hy]
        exact permIn_all d1 d2 a c (fun x => Rk f x d1[k]!) (by omega) p1 (fun q hq hq' => hx q k hq hq' hk hk') i h hi
      exact key _ rfl
    · exact s2 i j hi h' h''
theorem ins_left {f : Nat → Int} {d d1 : Array (Fin (z + 1))} {a i b : Nat} (hi : a + 1 ≤ i) (hib : i ≤ b) (hR : SL f (a + 1) b d) (h1 : a + 1 < i → Rk f d[i - 1]! d[a]!) (h2 : i < b → Rk f d[a]! d[i]!) (hr : Rot d d1 a (a + 1) i) : SL f a b d1 := by
  obtain ⟨hA, hB, hC, hD, hE⟩ := split_ok (f := f) (a := a) (b := b) (Nat.le_refl a) (by omega) (by omega) (by omega) (fun i j h h' h'' => by omega) hR (fun h => by omega) (fun _ h => h1 h) hr
  have e1 : a + (i - (a + 1)) = i - 1 := by omega
  rw [e1] at hB hC hE
  obtain ⟨r0, r1, r2, r3⟩ := hr
  have e3 := r3 0 (by omega)
  rw [e1] at e3
  simp only [Nat.add_zero] at e3
  intro p q h h' h''
  rcases Nat.lt_or_ge p (i - 1) with hp | hp
  · rcases Nat.lt_or_ge q (i - 1) with hq | hq
    · exact hB p q h h' hq
    · exact hE p q h hp hq h''
  · rcases Nat.lt_or_ge p i with hp' | hp'
    · have : p = i - 1 := by omega
      subst this
      rw [e3, r1 q (by omega)]
      refine (h2 (by omega)).trans ?_
      rcases Nat.lt_or_ge i q with g | g
      · exact hR i q (by omega) g h''
      · rw [show i = q by omega]; exact Or.inr ⟨rfl, Nat.le_refl _⟩
    · exact hD p q hp' h' h''
theorem ins_right {f : Nat → Int} {d d1 : Array (Fin (z + 1))} {a i m : Nat} (hi : a ≤ i) (him : i ≤ m) (hL : SL f a m d) (h1 : a < i → Rk f d[i - 1]! d[m]!) (h2 : i < m → Rk f d[m]! d[i]!) (hr : Rot d d1 i m (m + 1)) : SL f a (m + 1) d1 := by
  obtain ⟨r0, r1, r2, r3⟩ := hr
  have e2 := r2 0 (by omega)
  simp only [Nat.add_zero] at e2
  have g3 : ∀ k, i < k → k ≤ m → d1[k]! = d[k - 1]! := fun k h h' => by
    have := r3 (k - (i + 1)) (by omega)
    rw [show i + (m + 1 - m) + (k - (i + 1)) = k by omega, show i + (k - (i + 1)) = k - 1 by omega] at this
    exact this
  have leL : ∀ i j, a ≤ i → i ≤ j → j < m → Rk f d[i]! d[j]! := fun i j h h' h'' => by
    rcases Nat.lt_or_ge i j with g | g
    · exact hL i j h g h''
    · rw [show i = j by omega]; exact Or.inr ⟨rfl, Nat.le_refl _⟩
  intro p q h h' h''
  rcases Nat.lt_or_ge p i with hp | hp
  · rw [r1 p (by omega)]
    rcases Nat.lt_or_ge q i with hq | hq
    · rw [r1 q (by omega)]; exact hL p q h h' (by omega)
    · rcases Nat.lt_or_ge i q with g | g
      · rw [g3 q g (by omega)]; exact leL p (q - 1) h (by omega) (by omega)
      · have : q = i := by omega
        subst this
        rw [e2]; exact (leL p (q - 1) h (by omega) (by omega)).trans (h1 (by omega))
  · rcases Nat.lt_or_ge i p with g | g
    · rw [g3 p g (by omega), g3 q (by omega) (by omega)]; exact leL _ _ (by omega) (by omega) (by omega)
    · have : p = i := by omega
      subst this
      rw [e2, g3 q (by omega) (by omega)]
      exact (h2 (by omega)).trans (leL p (q - 1) (by omega) (by omega) (by omega))
theorem bub_up {d dk : Array (Fin (z + 1))} {a k : Nat} (ha : a ≤ k) (hk : k + 1 < d.size) (h : Rot d dk a (a + 1) (k + 1)) : Rot d (swp dk k (k + 1)) a (a + 1) (k + 2) := by
  obtain ⟨r0, r1, r2, r3⟩ := h
  have e3 := r3 0 (by omega)
  rw [show a + (k + 1 - (a + 1)) + 0 = k by omega] at e3
  simp only [Nat.add_zero] at e3
  refine ⟨by rw [size_swp, r0], fun p hp => ?_, fun t ht => ?_, fun t ht => ?_⟩
  · rw [swp_other _ _ _ _ (by omega) (by omega)]; exact r1 p (by omega)
  · rcases Nat.lt_or_ge t (k - a) with g | g
    · rw [swp_other _ _ _ _ (by omega) (by omega)]; exact r2 t (by omega)
    · rw [show a + t = k by omega, swp_left _ _ _ (by omega) (by omega), r1 _ (by omega)]; congr 1; omega
  · have : t = 0 := by omega
    subst this
    rw [show a + (k + 2 - (a + 1)) + 0 = k + 1 by omega, swp_right _ _ _ (by omega), e3] <;> rfl
theorem bub_dn {d dk : Array (Fin (z + 1))} {k m : Nat} (hk : 0 < k) (hkm : k ≤ m) (hm : m < d.size) (h : Rot d dk k m (m + 1)) : Rot d (swp dk k (k - 1)) (k - 1) m (m + 1) := by
  obtain ⟨r0, r1, r2, r3⟩ := h
  have e2 := r2 0 (by omega)
  simp only [Nat.add_zero] at e2
  refine ⟨by rw [size_swp, r0], fun p hp => ?_, fun t ht => ?_, fun t ht => ?_⟩
  · rw [swp_other _ _ _ _ (by omega) (by omega)]; exact r1 p (by omega)
  · have : t = 0 := by omega
    subst this
    simp only [Nat.add_zero]
    rw [swp_right _ _ _ (by omega)]; exact e2
  · rw [show k - 1 + (m + 1 - m) + t = k + t by omega]
    rcases Nat.eq_zero_or_pos t with g | g
    · subst g
      simp only [Nat.add_zero]
      rw [swp_left _ _ _ (by omega) (by omega), r1 _ (by omega)]
    · rw [swp_other _ _ _ _ (by omega) (by omega)]
      have := r3 (t - 1) (by omega)
      rw [show k + (m + 1 - m) + (t - 1) = k + t by omega, show k + (t - 1) = k - 1 + t by omega] at this
      exact this
/-! ### the insertion sort of a block whose indices rise -/
def lts (f : Nat → Int) (x y : Fin (z + 1)) : Bool := decide (f y.val < f x.val ∨ (f x.val = f y.val ∧ x.val < y.val))
theorem lts_swo (f : Nat → Int) : SWO (lts (z := z) f) where
  irrefl x := by simp [lts]
  trans x y u h g := by simp only [lts, decide_eq_true_eq] at *; omega
  ntrans x y u h g := by simp only [lts, decide_eq_false_iff_not] at *; omega
theorem lts_ltr {f : Nat → Int} {x y : Fin (z + 1)} (h : y.val < x.val) : ltr f x y = lts f x y := by
  unfold ltr lts; congr 1; apply propext; omega
theorem insInner_agree (f : Nat → Int) (a : Nat) : ∀ (j : Nat) (d : Array (Fin (z + 1))), (∀ k, a ≤ k → k < j → d[k]!.val < d[j]!.val) → j < d.size → insInner (ltr f) a j d = insInner (lts f) a j d := by
  intro j
  induction j with
  | zero => intro d _ _; rfl
  | succ j ih =>
    intro d h hj
    unfold insInner
    by_cases hja : j + 1 > a
    · rw [lts_ltr (h j (by omega) (by omega))]
      split
      · refine ih _ (fun k hk hk' => ?_) (by rw [size_swp]; omega)
        rw [swp_right _ _ _ (by omega), swp_other _ _ _ _ (by omega) (by omega)]
        exact h k hk (by omega)
      · rfl
    · simp [hja]
theorem insInner_perm (lt : Fin (z + 1) → Fin (z + 1) → Bool) (a b : Nat) : ∀ (j : Nat) (d : Array (Fin (z + 1))), j < b → b ≤ d.size → PermIn a b d (insInner lt a j d) := by
  intro j
  induction j with
  | zero => intro d _ _; exact permIn_refl _ _ _
  | succ j ih =>
    intro d hj hb
    unfold insInner
    split
    · rename_i hc
      have hja : a < j + 1 := by simp at hc; omega
      refine permIn_trans _ _ _ _ _ (swp_permIn d a b (j + 1) j (by omega) (by omega) (by omega) (by omega) hb) (ih _ (by omega) (by rw [size_swp]; exact hb))
    · exact permIn_refl _ _ _
theorem insOuter_agree (f : Nat → Int) (a b : Nat) : ∀ (n i : Nat) (d : Array (Fin (z + 1))), b - i = n → a ≤ i → b ≤ d.size → (∀ k k', a ≤ k → k < k' → i ≤ k' → k' < b → d[k]!.val < d[k']!.val) → insOuter (ltr f) a b i d = insOuter (lts f) a b i d := by
  intro n
  induction n with
  | zero => intro i d hn hai hb h; rw [insOuter_stop _ _ _ _ _ (by omega), insOuter_stop _ _ _ _ _ (by omega)]
  | succ n ih =>
    intro i d hn hai hb h
    rw [insOuter_go (lt := ltr f) a b i d (by omega), insOuter_go (lt := lts f) a b i d (by omega), insInner_agree f a i d (fun k hk hk' => h k i hk hk' (Nat.le_refl _) (by omega)) (by omega)]
    have hp := insInner_perm (lts f) a (i + 1) i d (by omega) (by omega)
    refine ih (i + 1) _ (by omega) (by omega) (by rw [hp.1]; exact hb) (fun k k' hk hkk hk' hb' => ?_)
    rw [hp.2.1 k' (by omega)]
    rcases Nat.lt_or_ge k (i + 1) with g | g
    · exact permIn_all d _ a (i + 1) (fun x => x.val < d[k']!.val) (by omega) hp (fun q hq hq' => h q k' hq (by omega) (by omega) hb') k hk g
    · rw [hp.2.1 k (by omega)]; exact h k k' hk hkk (by omega) hb'
theorem ins_stable (f : Nat → Int) (d : Array (Fin (z + 1))) (a b : Nat) (hab : a ≤ b) (hb : b ≤ d.size) (h : ∀ i, a ≤ i → i < b → d[i]!.val = i) :
    PermIn a b d (insertionSort (ltr f) d a b) ∧ SL f a b (insertionSort (ltr f) d a b) := by
  have e : insertionSort (ltr f) d a b = insertionSort (lts f) d a b :=
    insOuter_agree f a b _ (a + 1) d rfl (by omega) hb (fun k k' hk hkk _ hb' => by rw [h k hk (by omega), h k' (by omega) hb']; exact hkk)
  rw [e]
  obtain ⟨hp, hs⟩ := insertionSort_holds (lts_swo f) d a b hab hb
  refine ⟨hp, fun i j hi hij hj => ?_⟩
  have := hs i j hi hij hj
  simp only [lts, decide_eq_false_iff_not] at this
  unfold Rk; omega
/-! ### blocks -/
def BlkS (f : Nat → Int) (lo hi : Nat) (d : Array (Fin (z + 1))) : Prop := SL f lo hi d ∧ ∀ i, lo ≤ i → i < hi → lo ≤ d[i]!.val ∧ d[i]!.val < hi
theorem BlkS.perm {f : Nat → Int} {lo hi : Nat} {d d' : Array (Fin (z + 1))} (hb : hi ≤ d.size) (hp : PermIn lo hi d d') (h : ∀ i, lo ≤ i → i < hi → lo ≤ d[i]!.val ∧ d[i]!.val < hi) (hs : SL f lo hi d') : BlkS f lo hi d' :=
  ⟨hs, permIn_all d d' lo hi (fun x => lo ≤ x.val ∧ x.val < hi) hb hp h⟩
theorem BlkS.other {f : Nat → Int} {lo hi a b : Nat} {d d' : Array (Fin (z + 1))} (h : BlkS f lo hi d) (hp : PermIn a b d d') (ho : hi ≤ a ∨ b ≤ lo) : BlkS f lo hi d' :=
  ⟨fun i j h1 h2 h3 => by rw [hp.2.1 i (by omega), hp.2.1 j (by omega)]; exact h.1 i j h1 h2 h3, fun i h1 h2 => by rw [hp.2.1 i (by omega)]; exact h.2 i h1 h2⟩
theorem BlkS.cross {f : Nat → Int} {a m b : Nat} {d : Array (Fin (z + 1))} (h : BlkS f a m d) (g : BlkS f m b d) : CR a m b d := fun i j h1 h2 h3 h4 => by
  have := (h.2 i h1 h2).2; have := (g.2 j h3 h4).1; omega
theorem BlkS.merge {f : Nat → Int} {a m b : Nat} {d d' : Array (Fin (z + 1))} (hb : b ≤ d.size) (ham : a ≤ m) (hmb : m ≤ b) (h : BlkS f a m d) (g : BlkS f m b d) (hp : PermIn a b d d') (hs : SL f a b d') : BlkS f a b d' :=
  BlkS.perm hb hp (fun i h1 h2 => by
    rcases Nat.lt_or_ge i m with q | q
    · have := h.2 i h1 q; omega
    · have := g.2 i q h2; omega) hs
end

section
set_option linter.unusedVariables false
set_option linter.unusedSimpArgs false
open Go.Shelf Go.RowKit Go.Lib Go.Sort
def encE (E : Nat → Int) {z : Nat} (i : Fin (z + 1)) : Value := .int .i64 (E i.val)
structure Sx (f : Nat → Int) (E : Nat → Int) (g : Nat) (cb : Array Value) (blk off : Nat) {z : Nat} (cf : Fin (z + 1) → Fin (z + 1) → Int) (size : Nat) (W : World) (d : Array (Fin (z + 1))) : Prop where
  eg : ∀ args w, (callFunc g args).run Tryz.prog w = .ok (.enter g args) w
  cmp : CmpLays1 Tryz.prog g cb (encE E (z := z)) cf blk off size W
  lts : ∀ x y, ltOf cf x y = ltr (z := z) f x y
  holds : Sort.Holds (encE E (z := z)) W blk off d
  lt : blk < W.heap.size
  sz : d.size = size
  big : size < 1099511627776
section
variable {f E : Nat → Int} {g : Nat} {cb : Array Value} {blk off z size : Nat} {cf : Fin (z + 1) → Fin (z + 1) → Int} {W W' W'' : World} {d d' d'' : Array (Fin (z + 1))}
theorem Sx.next (h : Sx f E g cb blk off cf size W d) (hs : SW (encE E (z := z)) W blk off d' W') (hd : d'.size = size) : Sx f E g cb blk off cf size W' d' where
  eg := h.eg
  cmp := fun m os dk hk x y => by
    obtain ⟨n, os0, rfl⟩ := hs
    rw [sortWorld_on (encE E) W blk off n m d' dk os0 os h.lt (hk.trans hd.symm)]
    exact h.cmp _ _ dk hk x y
  lts := h.lts
  holds := hs.holds h.lt h.holds (by rw [hd, h.sz])
  lt := hs.lt h.lt
  sz := hd
  big := h.big
theorem SW.trans (h : SW (encE E (z := z)) W blk off d W') (hl : blk < W.heap.size) (hs : SW (encE E (z := z)) W' blk off d' W'') (hd : d'.size = d.size) : SW (encE E (z := z)) W blk off d' W'' := by
  obtain ⟨n, os, rfl⟩ := hs
  exact h.on hl n d' os hd
theorem Sx.start (h : Sx f E g cb blk off cf size W d) : SW (encE E (z := z)) W blk off d W := SW.start h.holds
def DoneS (E : Nat → Int) (blk off : Nat) (W : World) (R : Array (Fin (z + 1)) → Prop) (e : Ending) (w' : World) : Prop := e = .returned (.tuple #[]) ∧ ∃ d', R d' ∧ SW (encE E (z := z)) W blk off d' w'
end
set_option maxRecDepth 100000 in
set_option maxHeartbeats 2000000 in
theorem s2_swapRange {f E : Nat → Int} {g : Nat} {cb : Array Value} {blk off z size : Nat} {cf : Fin (z + 1) → Fin (z + 1) → Int} {W : World} {d : Array (Fin (z + 1))} (h : Sx f E g cb blk off cf size W d) (cap a b n : Nat) (hab : a + n ≤ b) (hb : b + n ≤ size) :
    Calls Tryz.prog 202 #[.slice (some ⟨blk, off, none⟩) size cap, .int .i64 a, .int .i64 b, .int .i64 n, .func (.func g) #[] cb] W (DoneS E blk off W (fun d' => Exch d d' a b n ∧ PermIn a (b + n) d d')) := by
  have HC := Lib.hid h
  have hbig := h.big
  generalize hQ : (DoneS E blk off W (fun d' => Exch d d' a b n ∧ PermIn a (b + n) d d')) = Q
  have HQ := Lib.hid hQ
  clear h hQ
  go_enter Tryz.func202, Tryz.ntmps202
  go_wp2_with fail
  go_loopw [10] (fun vi wr => ∃ (i : Nat) (dk : Array (Fin (z + 1))), vi = .int .i64 i ∧ i ≤ n ∧ Hid (Exch d dk a b i ∧ PermIn a (b + n) d dk) ∧ Hid (SW (encE E (z := z)) W blk off dk wr)) (fun vi _ => n - (intOf vi).toNat)
  case atStart => exact ⟨0, d, rfl, Nat.zero_le _, Lib.hid ⟨Exch.zero d a b, permIn_refl _ _ _⟩, Lib.hid HC.out.start⟩
  case round =>
    obtain ⟨i, dk, rfl, hi, hR, hS⟩ := hrel
    by_cases hlt : i < n
    · have hsz : dk.size = size := by rw [hR.out.1.1, HC.out.sz]
      have hH := hS.out.holds HC.out.lt HC.out.holds (by rw [hsz, HC.out.sz])
      obtain ⟨c1, g1⟩ := hH (a + i) (by omega)
      obtain ⟨c2, g2⟩ := hH (b + i) (by omega)
      have hsw : SW (encE E (z := z)) W blk off (swp dk (a + i) (b + i)) (((wr.setCell ⟨blk, off + (a + i), none⟩ (.int .i64 (E (dk[b + i]!).val))).setCell ⟨blk, off + (b + i), none⟩ (.int .i64 (E (dk[a + i]!).val))).drew) := (hS.out.swap HC.out.lt (a + i) (b + i) (by omega) (by omega)).drew
      have hlb := hS.out.lt HC.out.lt
      have hR2 := Lib.hid (show Exch d (swp dk (a + i) (b + i)) a b (i + 1) ∧ PermIn a (b + n) d (swp dk (a + i) (b + i)) from
        ⟨hR.out.1.step (by omega) (by rw [HC.out.sz]; omega), permIn_trans _ _ _ _ _ hR.out.2 (swp_permIn _ _ _ _ _ (by omega) (by omega) (by omega) (by omega) (by omega))⟩)
      unfold encE at c1 c2
      generalize E (dk[a + i]!).val = x at *
      generalize E (dk[b + i]!).val = y at *
      have i1 : (i : Int) < (n : Int) := by omega
      have k1 : IntKind.i64.wrap ((a : Int) + (i : Int)) = ((a + i : Nat) : Int) := by simp [IntKind.wrap, IntKind.signed, IntKind.bits]; omega
      have k2 : IntKind.i64.wrap ((b : Int) + (i : Int)) = ((b + i : Nat) : Int) := by simp [IntKind.wrap, IntKind.signed, IntKind.bits]; omega
      have k3 : a + i < size := by omega
      have k4 : b + i < size := by omega
      have k5 : ¬ a + i = b + i := by omega
      obtain ⟨p, hp⟩ : ∃ p, a + i = p := ⟨_, rfl⟩
      obtain ⟨q, hq⟩ : ∃ q, b + i = q := ⟨_, rfl⟩
      rw [hp] at c1 g1 k1 k3 k5
      rw [hq] at c2 g2 k2 k4 k5
      have k6 : ((p : Int) < (size : Int)) := by omega
      have k7 : ((q : Int) < (size : Int)) := by omega
      have HSW : Hid (SW (encE E (z := z)) W blk off (swp dk (a + i) (b + i)) (((wr.setCell ⟨blk, off + p, none⟩ (.int .i64 y)).setCell ⟨blk, off + q, none⟩ (.int .i64 x)).drew)) := Lib.hid (by rw [← hp, ← hq]; exact hsw)
      clear hsw hH hsz hp hq
      go_upto_region 3 with fail
      go_region
      all_goals go_wp2_with fail
      all_goals
        go_roundw
        case rel => exact ⟨i + 1, _, by go_num, by omega, hR2, HSW⟩
        case measure => simp [intOf]; omega
    · obtain rfl : i = n := by omega
      have hend := Lib.hid (show Q (.returned (.tuple #[])) wr from by
        rw [← HQ.out]
        exact ⟨rfl, dk, hR.out, hS.out⟩)
      clear hR hS
      go_wp2_with fail
      go_end0
      exact hend.out
set_option maxRecDepth 100000 in
set_option maxHeartbeats 2000000 in
theorem s2_rotate {f E : Nat → Int} {g : Nat} {cb : Array Value} {blk off z size : Nat} {cf : Fin (z + 1) → Fin (z + 1) → Int} {W : World} {d : Array (Fin (z + 1))} (h : Sx f E g cb blk off cf size W d) (cap a m b : Nat) (ham : a < m) (hmb : m < b) (hb : b ≤ size) :
    Calls Tryz.prog 172 #[.slice (some ⟨blk, off, none⟩) size cap, .int .i64 a, .int .i64 m, .int .i64 b, .func (.func g) #[] cb] W (DoneS E blk off W (fun d' => Rot d d' a m b ∧ PermIn a b d d')) := by
  have HC := Lib.hid h
  have hbig := h.big
  generalize hQ : (DoneS E blk off W (fun d' => Rot d d' a m b ∧ PermIn a b d d')) = Q
  have HQ := Lib.hid hQ
  clear h hQ
  go_enter Tryz.func172, Tryz.ntmps172
  go_wp2_with fail
  go_loopw [10, 11] (fun vi vj wr => ∃ (i j : Nat) (dk : Array (Fin (z + 1))), vi = .int .i64 i ∧ vj = .int .i64 j ∧ 1 ≤ i ∧ i + a ≤ m ∧ 1 ≤ j ∧ m + j ≤ b ∧ Hid ((∀ d', Rot dk d' (m - i) m (m + j) → Rot d d' a m b) ∧ PermIn a b d dk) ∧ Hid (SW (encE E (z := z)) W blk off dk wr)) (fun vi vj _ => (intOf vi).toNat + (intOf vj).toNat)
  case atStart => exact ⟨m - a, b - m, d, by go_num, by go_num, by omega, by omega, by omega, by omega, Lib.hid ⟨fun d' h => by rw [show m - (m - a) = a by omega, show m + (b - m) = b by omega] at h; exact h, permIn_refl _ _ _⟩, Lib.hid HC.out.start⟩
  case round =>
    obtain ⟨i, j, dk, rfl, rfl, hi0, hi1, hj0, hj1, hR, hS⟩ := hrel
    have hsz : dk.size = size := by rw [hR.out.2.1, HC.out.sz]
    have Cr := HC.out.next hS.out hsz
    rcases Nat.lt_trichotomy i j with hij | hij | hij
    · have hX := s2_swapRange Cr cap (m - i) (m + j - i) i (by omega) (by omega)
      rw [show ((m - i : Nat) : Int) = (m : Int) - i by omega, show ((m + j - i : Nat) : Int) = (m : Int) + j - i by omega] at hX
      have HX := Lib.hid hX
      have HN := Lib.hid (show ∀ d1, Exch dk d1 (m - i) (m + j - i) i ∧ PermIn (m - i) (m + j - i + i) dk d1 → (∀ d', Rot d1 d' (m - i) m (m + (j - i)) → Rot d d' a m b) ∧ PermIn a b d d1 from fun d1 ⟨h1, h2⟩ =>
        ⟨fun d' h => hR.out.1 d' (rot_lt (by omega) (by omega) (by omega) (by rw [show m - (m - i) = i by omega]; exact h1) (by rw [show m - (m - i) = i by omega, show m + j - i = m + (j - i) by omega]; exact h)),
          permIn_trans _ _ _ _ _ hR.out.2 (permIn_mono _ _ _ _ _ _ (by omega) (by omega) (by rw [hsz]; omega) h2)⟩)
      have e1 : ((i : Int) != (j : Int)) = true := by simp; omega
      have e2 : ¬ (j : Int) < i := by omega
      clear hX Cr
      go_wp2_with fail
      refine HX.out.mono ?_
      intro e w' hd
      obtain ⟨rfl, d1, hd1, hs1⟩ := hd
      have hN1 := Lib.hid (HN.out d1 hd1)
      have hT := Lib.hid (SW.trans hS.out HC.out.lt hs1 (by rw [hd1.1.1]))
      clear hd1 hs1
      go_wp2_with fail
      go_roundw
      case rel => exact ⟨i, j - i, d1, rfl, by go_num, by omega, by omega, by omega, by omega, hN1, hT⟩
      case measure => simp [intOf]; omega
    · subst hij
      have hX := s2_swapRange Cr cap (m - i) m i (by omega) (by omega)
      rw [show ((m - i : Nat) : Int) = (m : Int) - i by omega] at hX
      have HX := Lib.hid hX
      have HN := Lib.hid (show ∀ d1, Exch dk d1 (m - i) m i ∧ PermIn (m - i) (m + i) dk d1 → Rot d d1 a m b ∧ PermIn a b d d1 from fun d1 ⟨h1, h2⟩ =>
        ⟨hR.out.1 d1 (rot_eq (by omega) (by omega) (by omega) (by rw [show m - (m - i) = i by omega]; exact h1)), permIn_trans _ _ _ _ _ hR.out.2 (permIn_mono _ _ _ _ _ _ (by omega) (by omega) (by rw [hsz]; omega) h2)⟩)
      have e1 : ((i : Int) != (i : Int)) = false := by simp
      clear hX Cr
      go_wp2_with fail
      refine HX.out.mono ?_
      intro e w' hd
      obtain ⟨rfl, d1, hd1, hs1⟩ := hd
      have hend := Lib.hid (show Q (.returned (.tuple #[])) w' from by
        rw [← HQ.out]
        exact ⟨rfl, d1, HN.out d1 hd1, SW.trans hS.out HC.out.lt hs1 (by rw [hd1.1.1])⟩)
      clear hd1 hs1
      go_wp2_with fail
      go_end0
      exact hend.out
    · have hX := s2_swapRange Cr cap (m - i) m j (by omega) (by omega)
      rw [show ((m - i : Nat) : Int) = (m : Int) - i by omega] at hX
      have HX := Lib.hid hX
      have HN := Lib.hid (show ∀ d1, Exch dk d1 (m - i) m j ∧ PermIn (m - i) (m + j) dk d1 → (∀ d', Rot d1 d' (m - (i - j)) m (m + j) → Rot d d' a m b) ∧ PermIn a b d d1 from fun d1 ⟨h1, h2⟩ =>
        ⟨fun d' h => hR.out.1 d' (rot_gt (by omega) (by omega) (by omega) (by rw [show m + j - m = j by omega]; exact h1) (by rw [show m - i + (m + j - m) = m - (i - j) by omega]; exact h)),
          permIn_trans _ _ _ _ _ hR.out.2 (permIn_mono _ _ _ _ _ _ (by omega) (by omega) (by rw [hsz]; omega) h2)⟩)
      have e1 : ((i : Int) != (j : Int)) = true := by simp; omega
      have e2 : (j : Int) < i := by omega
      clear hX Cr
      go_wp2_with fail
      refine HX.out.mono ?_
      intro e w' hd
      obtain ⟨rfl, d1, hd1, hs1⟩ := hd
      have hN1 := Lib.hid (HN.out d1 hd1)
      have hT := Lib.hid (SW.trans hS.out HC.out.lt hs1 (by rw [hd1.1.1]))
      clear hd1 hs1
      go_wp2_with fail
      go_roundw
      case rel => exact ⟨i - j, j, d1, by go_num, rfl, by omega, by omega, by omega, by omega, hN1, hT⟩
      case measure => simp [intOf]; omega
end

section
set_option linter.unusedVariables false
set_option linter.unusedSimpArgs false
open Go.Shelf Go.RowKit Go.Lib Go.Sort
def BL (f : Nat → Int) {z : Nat} (d : Array (Fin (z + 1))) (a m b i j : Nat) : Prop := (m < i → Rk f d[i - 1]! d[a]!) ∧ (j < b → Rk f d[a]! d[j]!)
theorem SW.cmp2 {f E : Nat → Int} {g : Nat} {cb : Array Value} {blk off z size : Nat} {cf : Fin (z + 1) → Fin (z + 1) → Int} {W W' : World} {d d' : Array (Fin (z + 1))} (hs : SW (encE E (z := z)) W blk off d' W') (h : Sx f E g cb blk off cf size W d) (hd : d'.size = size) (x y : Fin (z + 1)) :
    Calls Tryz.prog g (#[.int .i64 (E x.val), .int .i64 (E y.val)] ++ cb) W' fun e w' => e = .returned (.int .i64 (cf x y)) ∧ ∃ q os, w' = grow (W'.drewN q) os := by
  obtain ⟨n, os0, rfl⟩ := hs
  exact h.cmp n os0 d' hd x y
theorem Sx.neg {f E : Nat → Int} {g : Nat} {cb : Array Value} {blk off z size : Nat} {cf : Fin (z + 1) → Fin (z + 1) → Int} {W : World} {d : Array (Fin (z + 1))} (h : Sx f E g cb blk off cf size W d) (x y : Fin (z + 1)) : decide (cf x y < 0) = ltr (z := z) f x y := h.lts x y
set_option maxRecDepth 100000 in
set_option maxHeartbeats 4000000 in
theorem s2_merge_left {f E : Nat → Int} {g : Nat} {cb : Array Value} {blk off z size : Nat} {cf : Fin (z + 1) → Fin (z + 1) → Int} {W : World} {d : Array (Fin (z + 1))} (h : Sx f E g cb blk off cf size W d) (cap a b : Nat) (hmb : a + 1 < b) (hb : b ≤ size) (hR : SL f (a + 1) b d) (hc : CR a (a + 1) b d)
    (m : Nat) (hm : m = a + 1) :
    Calls Tryz.prog 144 #[.slice (some ⟨blk, off, none⟩) size cap, .int .i64 a, .int .i64 m, .int .i64 b, .func (.func g) #[] cb] W (DoneS E blk off W (fun d' => SL f a b d' ∧ PermIn a b d d')) := by
  have HC := Lib.hid h
  have hbig := h.big
  have HK := Lib.hid (show ∀ p, a + 1 ≤ p → p < b → (ltr f d[p]! d[a]! = true → Rk f d[p]! d[a]!) ∧ (ltr f d[p]! d[a]! = false → Rk f d[a]! d[p]!) from fun p h1 h2 => ⟨rk_of_lt, rk_of_not (hc a p (Nat.le_refl _) (by omega) h1 h2)⟩)
  have HE := Lib.hid (show ∀ args w, (callFunc g args).run Tryz.prog w = .ok (.enter g args) w from h.eg)
  have HRR := Lib.hid hR; have HM := Lib.hid hm
  generalize hQ : (DoneS E blk off W (fun d' => SL f a b d' ∧ PermIn a b d d')) = Q
  have HQ := Lib.hid hQ
  have e1 : ((m : Int) - a == 1) = true := by simp; omega
  have ham : a < m := by omega
  have hmb2 : m < b := by omega
  have e2 : wrap64 ((m : Int) - a) = 1 := by unfold wrap64; omega
  clear h hQ hc hR hm
  go_enter Tryz.func144, Tryz.ntmps144
  go_wp2_with fail
  have HL := Lib.hid (show ∀ (p : Nat) (wr : World), SW (encE E (z := z)) W blk off d wr → Calls Tryz.prog g (#[.int .i64 (E d[p]!.val), .int .i64 (E d[a]!.val)] ++ cb) wr fun e w' => e = .returned (.int .i64 (cf d[p]! d[a]!)) ∧ ∃ q os, w' = grow (wr.drewN q) os from fun p wr hs =>
    SW.cmp2 hs HC.out HC.out.sz _ _)
  go_loopw [10, 11] (fun vi vj wr => ∃ (i j : Nat), vi = .int .i64 i ∧ vj = .int .i64 j ∧ m ≤ i ∧ i ≤ j ∧ j ≤ b ∧ Hid (BL f d a m b i j) ∧ Hid (SW (encE E (z := z)) W blk off d wr)) (fun vi vj _ => (intOf vj).toNat - (intOf vi).toNat)
  case atStart => exact ⟨m, b, rfl, rfl, Nat.le_refl _, by have := HM.out; omega, Nat.le_refl _, Lib.hid ⟨fun h => by omega, fun h => by omega⟩, Lib.hid HC.out.start⟩
  case round =>
    obtain ⟨i, j, rfl, rfl, hi, hij, hj, hR, hS⟩ := hrel
    by_cases hlt : i < j
    · obtain ⟨p, hp⟩ : ∃ p : Nat, ((i : Int) + j) / 2 = p := ⟨(i + j) / 2, by omega⟩
      have p0 : i ≤ p := by omega
      have p1 : p < j := by omega
      have eg := HE.out
      have hl := fun n os => HL.out p (grow (wr.drewN n) os) (hS.out.grown n os)
      have mixed : Tryz.prog.follows .mixedOrders = true := by kernel_rfl
      have hk := HK.out p (by have := HM.out; omega) (by omega)
      have hv : decide (cf d[p]! d[a]! < 0) = ltr f d[p]! d[a]! := HC.out.neg _ _
      have hH := hS.out.holds HC.out.lt HC.out.holds (by rw [HC.out.sz])
      have hsz := HC.out.sz
      obtain ⟨c1, g1⟩ := hH p (by omega)
      obtain ⟨c2, g2⟩ := hH a (by omega)
      have hlb := hS.out.lt HC.out.lt
      replace c1 := cell_grown (w := wr) (a := ⟨blk, off + p, none⟩) hlb c1
      replace c2 := cell_grown (w := wr) (a := ⟨blk, off + a, none⟩) hlb c2
      unfold encE at c1 c2
      have p2 : p < size := by omega
      have a2 : a < size := by omega
      generalize E (d[p]!).val = x at *
      generalize E (d[a]!).val = y at *
      generalize cf d[p]! d[a]! = o at *
      have HSG := Lib.hid (show ∀ q os, SW (encE E (z := z)) W blk off d (grow (wr.drewN q) os) from fun q os => hS.out.grown q os)
      cases hw : ltr f d[p]! d[a]! with
      | true =>
        have H2 := Lib.hid (show BL f d a m b (p + 1) j from ⟨fun _ => hk.1 hw, hR.out.2⟩)
        rw [hw] at hv
        clear hk hw hH hsz
        go_upto_region 5 with fail
        go_quiet_grown (first | (go_at_fn g; refine Calls.grown_of (hl _ _)))
        have HS2 := Lib.hid (HSG.out nq osq)
        clear hl c1 g1 c2 g2
        go_wp2_with fail
        go_roundw
        case rel => exact ⟨p + 1, j, by go_num, rfl, by omega, by omega, hj, H2, HS2⟩
        case measure => simp [intOf]; omega
      | false =>
        have H2 := Lib.hid (show BL f d a m b i p from ⟨hR.out.1, fun _ => hk.2 hw⟩)
        rw [hw] at hv
        clear hk hw hH hsz
        go_upto_region 5 with fail
        go_quiet_grown (first | (go_at_fn g; refine Calls.grown_of (hl _ _)))
        have HS2 := Lib.hid (HSG.out nq osq)
        clear hl c1 g1 c2 g2
        go_wp2_with fail
        go_roundw
        case rel => exact ⟨i, p, rfl, rfl, hi, by omega, by omega, H2, HS2⟩
        case measure => simp [intOf]; omega
    · obtain rfl : i = j := by omega
      have im : a + 1 ≤ i := by have := HM.out; omega
      go_wp2_with fail
      go_loopw [13] (fun vk w2 => ∃ (k : Nat) (dk : Array (Fin (z + 1))), vk = .int .i64 k ∧ a ≤ k ∧ k + 1 ≤ i ∧ Hid (Rot d dk a (a + 1) (k + 1) ∧ PermIn a b d dk) ∧ Hid (SW (encE E (z := z)) W blk off dk w2)) (fun vk _ => i - (intOf vk).toNat)
      case atStart => exact ⟨a, d, rfl, Nat.le_refl _, by omega, Lib.hid ⟨Rot.right d a (a + 1) (by omega), permIn_refl _ _ _⟩, hS⟩
      case round =>
        obtain ⟨k, dk, rfl, hk0, hk1, hR2, hS2⟩ := hrel
        have hsz : dk.size = size := by rw [hR2.out.1.1, HC.out.sz]
        by_cases hlt : k + 1 < i
        · have hH := hS2.out.holds HC.out.lt HC.out.holds (by rw [hsz, HC.out.sz])
          obtain ⟨c1, g1⟩ := hH k (by omega)
          obtain ⟨c2, g2⟩ := hH (k + 1) (by omega)
          have hsw : SW (encE E (z := z)) W blk off (swp dk k (k + 1)) (((wr.setCell ⟨blk, off + k, none⟩ (.int .i64 (E (dk[k + 1]!).val))).setCell ⟨blk, off + (k + 1), none⟩ (.int .i64 (E (dk[k]!).val))).drew) := (hS2.out.swap HC.out.lt k (k + 1) (by omega) (by omega)).drew
          have hlb := hS2.out.lt HC.out.lt
          have hR3 := Lib.hid (show Rot d (swp dk k (k + 1)) a (a + 1) (k + 1 + 1) ∧ PermIn a b d (swp dk k (k + 1)) from
            ⟨bub_up hk0 (by rw [HC.out.sz]; omega) hR2.out.1, permIn_trans _ _ _ _ _ hR2.out.2 (swp_permIn _ _ _ _ _ (by omega) (by omega) (by omega) (by omega) (by omega))⟩)
          unfold encE at c1 c2
          generalize E (dk[k]!).val = x at *
          generalize E (dk[k + 1]!).val = y at *
          have e3 : (k : Int) < (i : Int) - 1 := by omega
          have k2 : IntKind.i64.wrap ((k : Int) + 1) = ((k + 1 : Nat) : Int) := by simp [IntKind.wrap, IntKind.signed, IntKind.bits]; omega
          have k3 : k < size := by omega
          have k4 : k + 1 < size := by omega
          have k5 : ¬ k = k + 1 := by omega
          obtain ⟨q, hq⟩ : ∃ q, k + 1 = q := ⟨_, rfl⟩
          have HSW : Hid (SW (encE E (z := z)) W blk off (swp dk k (k + 1)) (((wr.setCell ⟨blk, off + k, none⟩ (.int .i64 y)).setCell ⟨blk, off + q, none⟩ (.int .i64 x)).drew)) := Lib.hid (by rw [← hq]; exact hsw)
          rw [hq] at c2 g2 k2 k4 k5
          have k6 : ((k : Int) < (size : Int)) := by omega
          have k7 : ((q : Int) < (size : Int)) := by omega
          have HQ2 := Lib.hid hq
          clear hsw hH hsz hq
          go_upto_region 11 with fail
          go_region
          all_goals go_wp2_with fail
          all_goals
            go_roundw
            case rel => exact ⟨k + 1, _, by have := HQ2.out; first | go_num | (rw [IntKind.wrap_i64]; congr 1; omega) | (congr 1; rw [IntKind.wrap_i64]; omega), by omega, by omega, hR3, HSW⟩
            case measure => have := HQ2.out; simp [intOf, IntKind.wrap_i64]; omega
        · obtain rfl : i = k + 1 := by omega
          have e3 : ¬ (k : Int) < ((k + 1 : Nat) : Int) - 1 := by omega
          have hend := Lib.hid (show Q (.returned (.tuple #[])) wr from by
            rw [← HQ.out]
            have hr := hR.out
            rw [HM.out] at hr
            exact ⟨rfl, dk, ⟨ins_left (by omega) (by omega) HRR.out hr.1 hr.2 hR2.out.1, hR2.out.2⟩, hS2.out⟩)
          clear hsz
          go_wp2_with fail
          go_end0
          exact hend.out
end

section
set_option linter.unusedVariables false
set_option linter.unusedSimpArgs false
open Go.Shelf Go.RowKit Go.Lib Go.Sort
def BR (f : Nat → Int) {z : Nat} (d : Array (Fin (z + 1))) (a m i j : Nat) : Prop := (a < i → Rk f d[i - 1]! d[m]!) ∧ (j < m → Rk f d[m]! d[j]!)
set_option maxRecDepth 100000 in
set_option maxHeartbeats 4000000 in
theorem s2_merge_right {f E : Nat → Int} {g : Nat} {cb : Array Value} {blk off z size : Nat} {cf : Fin (z + 1) → Fin (z + 1) → Int} {W : World} {d : Array (Fin (z + 1))} (h : Sx f E g cb blk off cf size W d) (cap a m : Nat) (ham : a + 1 < m) (hb : m + 1 ≤ size) (hL : SL f a m d) (hc : CR a m (m + 1) d)
    (b : Nat) (hbm : b = m + 1) :
    Calls Tryz.prog 144 #[.slice (some ⟨blk, off, none⟩) size cap, .int .i64 a, .int .i64 m, .int .i64 b, .func (.func g) #[] cb] W (DoneS E blk off W (fun d' => SL f a b d' ∧ PermIn a b d d')) := by
  have HC := Lib.hid h
  have hbig := h.big
  have HK := Lib.hid (show ∀ p, a ≤ p → p < m → (ltr f d[m]! d[p]! = true → Rk f d[m]! d[p]!) ∧ (ltr f d[m]! d[p]! = false → Rk f d[p]! d[m]!) from fun p h1 h2 => ⟨rk_of_lt, rk_of_not (hc p m h1 h2 (Nat.le_refl _) (by omega))⟩)
  have HE := Lib.hid (show ∀ args w, (callFunc g args).run Tryz.prog w = .ok (.enter g args) w from h.eg)
  have HLL := Lib.hid hL; have HM := Lib.hid hbm
  generalize hQ : (DoneS E blk off W (fun d' => SL f a b d' ∧ PermIn a b d d')) = Q
  have HQ := Lib.hid hQ
  have e1 : ((m : Int) - a == 1) = false := by rw [beq_eq_false_iff_ne]; omega
  have e2 : ((b : Int) - m == 1) = true := by simp; omega
  have hmb2 : m < b := by omega
  have hb2 : b ≤ size := by omega
  clear h hQ hc hL hbm
  go_enter Tryz.func144, Tryz.ntmps144
  go_wp2_with fail
  have HLS := Lib.hid (show ∀ (p : Nat) (wr : World), SW (encE E (z := z)) W blk off d wr → Calls Tryz.prog g (#[.int .i64 (E d[m]!.val), .int .i64 (E d[p]!.val)] ++ cb) wr fun e w' => e = .returned (.int .i64 (cf d[m]! d[p]!)) ∧ ∃ q os, w' = grow (wr.drewN q) os from fun p wr hs =>
    SW.cmp2 hs HC.out HC.out.sz _ _)
  go_loopw [14, 15] (fun vi vj wr => ∃ (i j : Nat), vi = .int .i64 i ∧ vj = .int .i64 j ∧ a ≤ i ∧ i ≤ j ∧ j ≤ m ∧ Hid (BR f d a m i j) ∧ Hid (SW (encE E (z := z)) W blk off d wr)) (fun vi vj _ => (intOf vj).toNat - (intOf vi).toNat)
  case atStart => exact ⟨a, m, rfl, rfl, Nat.le_refl _, by omega, Nat.le_refl _, Lib.hid ⟨fun h => by omega, fun h => by omega⟩, Lib.hid HC.out.start⟩
  case round =>
    obtain ⟨i, j, rfl, rfl, hi, hij, hj, hR, hS⟩ := hrel
    by_cases hlt : i < j
    · obtain ⟨p, hp⟩ : ∃ p : Nat, ((i : Int) + j) / 2 = p := ⟨(i + j) / 2, by omega⟩
      have p0 : i ≤ p := by omega
      have p1 : p < j := by omega
      have eg := HE.out
      have hl := fun n os => HLS.out p (grow (wr.drewN n) os) (hS.out.grown n os)
      have mixed : Tryz.prog.follows .mixedOrders = true := by kernel_rfl
      have hk := HK.out p (by omega) (by omega)
      have hv : decide (cf d[m]! d[p]! < 0) = ltr f d[m]! d[p]! := HC.out.neg _ _
      have hH := hS.out.holds HC.out.lt HC.out.holds (by rw [HC.out.sz])
      have hsz := HC.out.sz
      obtain ⟨c1, g1⟩ := hH p (by omega)
      obtain ⟨c2, g2⟩ := hH m (by omega)
      have hlb := hS.out.lt HC.out.lt
      replace c1 := cell_grown (w := wr) (a := ⟨blk, off + p, none⟩) hlb c1
      replace c2 := cell_grown (w := wr) (a := ⟨blk, off + m, none⟩) hlb c2
      unfold encE at c1 c2
      have p2 : p < size := by omega
      have a2 : m < size := by omega
      generalize E (d[p]!).val = x at *
      generalize E (d[m]!).val = y at *
      generalize cf d[m]! d[p]! = o at *
      have HSG := Lib.hid (show ∀ q os, SW (encE E (z := z)) W blk off d (grow (wr.drewN q) os) from fun q os => hS.out.grown q os)
      cases hw : ltr f d[m]! d[p]! with
      | false =>
        have H2 := Lib.hid (show BR f d a m (p + 1) j from ⟨fun _ => hk.2 hw, hR.out.2⟩)
        rw [hw] at hv
        clear hk hw hH hsz
        go_upto_region 17 with fail
        go_quiet_grown (first | (go_at_fn g; refine Calls.grown_of (hl _ _)))
        have HS2 := Lib.hid (HSG.out nq osq)
        clear hl c1 g1 c2 g2
        go_wp2_with fail
        go_roundw
        case rel => exact ⟨p + 1, j, by go_num, rfl, by omega, by omega, hj, H2, HS2⟩
        case measure => simp [intOf]; omega
      | true =>
        have H2 := Lib.hid (show BR f d a m i p from ⟨hR.out.1, fun _ => hk.1 hw⟩)
        rw [hw] at hv
        clear hk hw hH hsz
        go_upto_region 17 with fail
        go_quiet_grown (first | (go_at_fn g; refine Calls.grown_of (hl _ _)))
        have HS2 := Lib.hid (HSG.out nq osq)
        clear hl c1 g1 c2 g2
        go_wp2_with fail
        go_roundw
        case rel => exact ⟨i, p, rfl, rfl, hi, by omega, by omega, H2, HS2⟩
        case measure => simp [intOf]; omega
    · obtain rfl : i = j := by omega
      go_wp2_with fail
      go_loopw [17] (fun vk w2 => ∃ (k : Nat) (dk : Array (Fin (z + 1))), vk = .int .i64 k ∧ i ≤ k ∧ k ≤ m ∧ Hid (Rot d dk k m (m + 1) ∧ PermIn a b d dk) ∧ Hid (SW (encE E (z := z)) W blk off dk w2)) (fun vk _ => (intOf vk).toNat)
      case atStart => exact ⟨m, d, rfl, by omega, Nat.le_refl _, Lib.hid ⟨Rot.left d m (m + 1) (by omega), permIn_refl _ _ _⟩, hS⟩
      case round =>
        obtain ⟨k, dk, rfl, hk0, hk1, hR2, hS2⟩ := hrel
        have hsz : dk.size = size := by rw [hR2.out.1.1, HC.out.sz]
        by_cases hlt : i < k
        · have hH := hS2.out.holds HC.out.lt HC.out.holds (by rw [hsz, HC.out.sz])
          obtain ⟨c1, g1⟩ := hH k (by omega)
          obtain ⟨c2, g2⟩ := hH (k - 1) (by omega)
          have hsw : SW (encE E (z := z)) W blk off (swp dk k (k - 1)) (((wr.setCell ⟨blk, off + k, none⟩ (.int .i64 (E (dk[k - 1]!).val))).setCell ⟨blk, off + (k - 1), none⟩ (.int .i64 (E (dk[k]!).val))).drew) := (hS2.out.swap HC.out.lt k (k - 1) (by omega) (by omega)).drew
          have hlb := hS2.out.lt HC.out.lt
          have hR3 := Lib.hid (show Rot d (swp dk k (k - 1)) (k - 1) m (m + 1) ∧ PermIn a b d (swp dk k (k - 1)) from
            ⟨bub_dn (by omega) hk1 (by rw [HC.out.sz]; omega) hR2.out.1, permIn_trans _ _ _ _ _ hR2.out.2 (swp_permIn _ _ _ _ _ (by omega) (by omega) (by omega) (by omega) (by omega))⟩)
          unfold encE at c1 c2
          generalize E (dk[k]!).val = x at *
          generalize E (dk[k - 1]!).val = y at *
          have e3 : (i : Int) < (k : Int) := by omega
          have k2 : IntKind.i64.wrap ((k : Int) - 1) = ((k - 1 : Nat) : Int) := by rw [IntKind.wrap_i64]; omega
          have k3 : k < size := by omega
          have k4 : k - 1 < size := by omega
          have k5 : ¬ k = k - 1 := by omega
          obtain ⟨q, hq⟩ : ∃ q, k - 1 = q := ⟨_, rfl⟩
          have HSW : Hid (SW (encE E (z := z)) W blk off (swp dk k (k - 1)) (((wr.setCell ⟨blk, off + k, none⟩ (.int .i64 y)).setCell ⟨blk, off + q, none⟩ (.int .i64 x)).drew)) := Lib.hid (by rw [← hq]; exact hsw)
          rw [hq] at c2 g2 k2 k4 k5
          have k6 : ((k : Int) < (size : Int)) := by omega
          have k7 : ((q : Int) < (size : Int)) := by omega
          have HQ2 := Lib.hid hq
          clear hsw hH hsz hq
          go_upto_region 23 with fail
          go_region
          all_goals go_wp2_with fail
          all_goals
            go_roundw
            case rel => exact ⟨k - 1, _, by have := HQ2.out; first | go_num | (rw [IntKind.wrap_i64]; congr 1; omega) | (congr 1; rw [IntKind.wrap_i64]; omega), by omega, by omega, hR3, HSW⟩
            case measure => have := HQ2.out; simp [intOf, IntKind.wrap_i64]; omega
        · obtain rfl : k = i := by omega
          have hend := Lib.hid (show Q (.returned (.tuple #[])) wr from by
            rw [← HQ.out]
            have hr := hR.out
            rw [HM.out]
            exact ⟨rfl, dk, ⟨ins_right hi hj HLL.out hr.1 hr.2 hR2.out.1, by rw [← HM.out]; exact hR2.out.2⟩, hS2.out⟩)
          clear hsz
          go_wp2_with fail
          go_end0
          exact hend.out
end

section
set_option linter.unusedVariables false
set_option linter.unusedSimpArgs false
open Go.Shelf Go.RowKit Go.Lib Go.Sort
def MergeOk2 (f E : Nat → Int) (g : Nat) (cb : Array Value) (blk off z : Nat) (cf : Fin (z + 1) → Fin (z + 1) → Int) (size cap N : Nat) : Prop :=
  ∀ (W : World) (d : Array (Fin (z + 1))) (a m b : Nat), Sx f E g cb blk off cf size W d → b - a ≤ N → a < m → m < b → b ≤ size → SL f a m d → SL f m b d → CR a m b d →
    Calls Tryz.prog 144 #[.slice (some ⟨blk, off, none⟩) size cap, .int .i64 a, .int .i64 m, .int .i64 b, .func (.func g) #[] cb] W (DoneS E blk off W (fun d' => SL f a b d' ∧ PermIn a b d d'))
def BM (f : Nat → Int) {z : Nat} (d : Array (Fin (z + 1))) (n lo hi s r : Nat) : Prop := (lo < s → Rk f d[s - 1]! d[n - s]!) ∧ (r < hi → Rk f d[n - 1 - r]! d[r]!)
theorem SL.other {f : Nat → Int} {z a c x y : Nat} {d1 d2 : Array (Fin (z + 1))} (h : SL f x y d1) (hp : PermIn a c d1 d2) (ho : y ≤ a ∨ c ≤ x) : SL f x y d2 :=
  fun i j h1 h2 h3 => by rw [hp.2.1 i (by omega), hp.2.1 j (by omega)]; exact h i j h1 h2 h3
theorem CR.other {z a c x m y : Nat} {d1 d2 : Array (Fin (z + 1))} (h : CR x m y d1) (hp : PermIn a c d1 d2) (ho : y ≤ a ∨ c ≤ x) : CR x m y d2 :=
  fun i j h1 h2 h3 h4 => by rw [hp.2.1 i (by omega), hp.2.1 j (by omega)]; exact h i j h1 h2 h3 h4
def Cut (f : Nat → Int) {z : Nat} (d1 : Array (Fin (z + 1))) (a s mid en b : Nat) : Prop :=
  SL f a s d1 ∧ SL f s mid d1 ∧ SL f mid en d1 ∧ SL f en b d1 ∧ (∀ i j, a ≤ i → i < mid → mid ≤ j → j < b → Rk f d1[i]! d1[j]!) ∧ CR a s mid d1 ∧ CR mid en b d1
theorem cut_ok {f : Nat → Int} {z : Nat} {d d1 : Array (Fin (z + 1))} {a m b mid lo hi s en : Nat} (has : a ≤ s) (hsm : s ≤ m) (hme : m ≤ en) (heb : en ≤ b) (hL : SL f a m d) (hR : SL f m b d) (hc : CR a m b d) (hB : BM f d (mid + m) lo hi s s) (hen : en + s = mid + m)
    (hls : lo ≤ s) (hsh : s ≤ hi) (hlo : (mid < m ∧ lo + b = mid + m ∧ hi = mid) ∨ (m ≤ mid ∧ lo = a ∧ hi = m)) (hr : Rot d d1 s m en) : Cut f d1 a s mid en b := by
  obtain ⟨b1, b2⟩ := hB
  have hs := split_ok (f := f) has hsm hme heb hL hR (fun h1 h2 => by
    have := b1 (by omega)
    rwa [show mid + m - s = en by omega] at this) (fun h1 h2 => by
    have := b2 (by omega)
    rwa [show mid + m - 1 - s = en - 1 by omega] at this) hr
  have hk := cross_ok has hsm hme heb hc hr
  rw [show s + (en - m) = mid by omega] at hs hk
  exact ⟨hs.1, hs.2.1, hs.2.2.1, hs.2.2.2.1, hs.2.2.2.2, hk.1, hk.2⟩
set_option maxRecDepth 100000 in
set_option maxHeartbeats 4000000 in
theorem s2_merge_mid {f E : Nat → Int} {g : Nat} {cb : Array Value} {blk off z size : Nat} {cf : Fin (z + 1) → Fin (z + 1) → Int} {W : World} {d : Array (Fin (z + 1))} (h : Sx f E g cb blk off cf size W d) (cap : Nat) (a m b N : Nat) (ham : a + 1 < m) (hmb : m + 1 < b) (hb : b ≤ size) (hL : SL f a m d) (hR : SL f m b d) (hc : CR a m b d)
    (hN : b - a ≤ N + 1) (IH : MergeOk2 f E g cb blk off z cf size cap N) (mid lo hi : Nat) (hmid : ((a : Int) + b) / 2 = mid) (hlo : (mid < m ∧ lo + b = mid + m ∧ hi = mid) ∨ (m ≤ mid ∧ lo = a ∧ hi = m)) :
    Calls Tryz.prog 144 #[.slice (some ⟨blk, off, none⟩) size cap, .int .i64 a, .int .i64 m, .int .i64 b, .func (.func g) #[] cb] W (DoneS E blk off W (fun d' => SL f a b d' ∧ PermIn a b d d')) := by
  have HC := Lib.hid h
  have hbig := h.big
  have HE := Lib.hid (show ∀ args w, (callFunc g args).run Tryz.prog w = .ok (.enter g args) w from h.eg)
  have HLL := Lib.hid hL; have HRR := Lib.hid hR; have HCC := Lib.hid hc; have HLO := Lib.hid hlo; have HIH := Lib.hid IH; have HN := Lib.hid hN
  generalize hQ : (DoneS E blk off W (fun d' => SL f a b d' ∧ PermIn a b d d')) = Q
  have HQ := Lib.hid hQ
  have e1 : ((m : Int) - a == 1) = false := by rw [beq_eq_false_iff_ne]; omega
  have e2 : ((b : Int) - m == 1) = false := by rw [beq_eq_false_iff_ne]; omega
  have hm0 : a < mid := by omega
  have hm1 : mid < b := by omega
  clear h hQ hc hL hR hlo IH hN
  go_enter Tryz.func144, Tryz.ntmps144
  go_upto_if 140 with fail
  go_cut [20, 21] from 140 (fun x y wx => x = .int .i64 (lo : Int) ∧ y = .int .i64 (hi : Int) ∧ W = wx)
  case first =>
    rcases HLO.out with ⟨h1, h2, h3⟩ | ⟨h1, h2, h3⟩
    · have h4 : (mid : Int) + m - b = lo := by omega
      subst h3
      go_wp2_with fail
      go_meet
      case rel => exact ⟨rfl, rfl, rfl⟩
    · subst h2 h3
      go_wp2_with fail
      go_meet
      case rel => exact ⟨rfl, rfl, rfl⟩
  case rest =>
   obtain ⟨rfl, rfl, rfl⟩ := hcut
   have HLS := Lib.hid (show ∀ (p c : Nat) (wr : World), SW (encE E (z := z)) W blk off d wr → Calls Tryz.prog g (#[.int .i64 (E d[p]!.val), .int .i64 (E d[c]!.val)] ++ cb) wr fun e w' => e = .returned (.int .i64 (cf d[p]! d[c]!)) ∧ ∃ q os, w' = grow (wr.drewN q) os from fun p c wr hs =>
     SW.cmp2 hs HC.out HC.out.sz _ _)
   have hlh : a ≤ lo ∧ lo ≤ hi ∧ hi ≤ m ∧ hi ≤ mid ∧ mid + m ≤ lo + b := by have := HLO.out; omega
   obtain ⟨lh1, lh2, lh3, lh4, lh5⟩ := hlh
   go_wp2_with fail
   go_loopw [20, 21] (fun vi vj wr => ∃ (s r : Nat), vi = .int .i64 s ∧ vj = .int .i64 r ∧ lo ≤ s ∧ s ≤ r ∧ r ≤ hi ∧ Hid (BM f d (mid + m) lo hi s r) ∧ Hid (SW (encE E (z := z)) W blk off d wr)) (fun vi vj _ => (intOf vj).toNat - (intOf vi).toNat)
   case atStart => exact ⟨lo, hi, rfl, rfl, Nat.le_refl _, lh2, Nat.le_refl _, Lib.hid ⟨fun h => by omega, fun h => by omega⟩, Lib.hid HC.out.start⟩
   case round =>
    obtain ⟨s, r, rfl, rfl, hs0, hsr, hr0, hR, hS⟩ := hrel
    by_cases hlt : s < r
    · obtain ⟨c, hp⟩ : ∃ c : Nat, ((s : Int) + r) / 2 = c := ⟨(s + r) / 2, by omega⟩
      have p0 : s ≤ c := by omega
      have p1 : c < r := by omega
      obtain ⟨pc, hpc⟩ : ∃ pc : Nat, (mid : Int) + m - 1 - c = pc := ⟨mid + m - 1 - c, by omega⟩
      have hpn : pc = mid + m - 1 - c := by omega
      have eg := HE.out
      have hl := fun n os => HLS.out pc c (grow (wr.drewN n) os) (hS.out.grown n os)
      have mixed : Tryz.prog.follows .mixedOrders = true := by kernel_rfl
      have hsz := HC.out.sz
      have hv : decide (cf d[pc]! d[c]! < 0) = ltr f d[pc]! d[c]! := HC.out.neg _ _
      have hH := hS.out.holds HC.out.lt HC.out.holds (by rw [HC.out.sz])
      obtain ⟨c1, g1⟩ := hH pc (by omega)
      obtain ⟨c2, g2⟩ := hH c (by omega)
      have hlb := hS.out.lt HC.out.lt
      replace c1 := cell_grown (w := wr) (a := ⟨blk, off + pc, none⟩) hlb c1
      replace c2 := cell_grown (w := wr) (a := ⟨blk, off + c, none⟩) hlb c2
      unfold encE at c1 c2
      have p2 : pc < size := by omega
      have kp : IntKind.i64.wrap ((mid : Int) + m - 1 - c) = ((pc : Nat) : Int) := by rw [IntKind.wrap_i64]; omega
      have kp4 : IntKind.i64.wrap (pc : Int) = (pc : Int) := by rw [IntKind.wrap_i64]; omega
      have kp5 : (pc : Int).toNat = pc := by omega
      have kp6 : (0 : Int) ≤ pc := by omega
      have kp2 : ((pc : Int) < (size : Int)) := by omega
      have kp3 : ((c : Int) < (size : Int)) := by omega
      have a2 : c < size := by omega
      generalize E (d[pc]!).val = x at *
      generalize E (d[c]!).val = y at *
      generalize cf d[pc]! d[c]! = o at *
      have HSG := Lib.hid (show ∀ q os, SW (encE E (z := z)) W blk off d (grow (wr.drewN q) os) from fun q os => hS.out.grown q os)
      have hcr : d[c]!.val < d[pc]!.val := HCC.out c pc (by omega) (by omega) (by omega) (by omega)
      cases hw : ltr f d[pc]! d[c]! with
      | false =>
        have H2 := Lib.hid (show BM f d (mid + m) lo hi (c + 1) r from ⟨fun _ => by rw [show mid + m - (c + 1) = pc by omega]; exact rk_of_not hcr hw, hR.out.2⟩)
        rw [hw] at hv
        clear hcr hw hpn hH hsz
        go_upto_region 35 with fail
        go_quiet_grown (first | (go_at_fn g; refine Calls.grown_of (hl _ _)))
        have HS2 := Lib.hid (HSG.out nq osq)
        clear hl c1 g1 c2 g2
        go_wp2_with fail
        go_roundw
        case rel => exact ⟨c + 1, r, by go_num, rfl, by omega, by omega, hr0, H2, HS2⟩
        case measure => simp [intOf]; omega
      | true =>
        have H2 := Lib.hid (show BM f d (mid + m) lo hi s c from ⟨hR.out.1, fun _ => by rw [← hpn]; exact rk_of_lt hw⟩)
        rw [hw] at hv
        clear hcr hw hpn hH hsz
        go_upto_region 35 with fail
        go_quiet_grown (first | (go_at_fn g; refine Calls.grown_of (hl _ _)))
        have HS2 := Lib.hid (HSG.out nq osq)
        clear hl c1 g1 c2 g2
        go_wp2_with fail
        go_roundw
        case rel => exact ⟨s, c, rfl, rfl, hs0, by omega, by omega, H2, HS2⟩
        case measure => simp [intOf]; omega
    · obtain rfl : s = r := by omega
      obtain ⟨en, hen⟩ : ∃ en : Nat, (mid : Int) + m - s = en := ⟨mid + m - s, by omega⟩
      have en0 : en + s = mid + m := by omega
      have en1 : m ≤ en := by omega
      have en2 : en ≤ b := by omega
      have en3 : mid ≤ en := by omega
      have sm : s ≤ m := by omega
      have smd : s ≤ mid := by omega
      have as_ : a ≤ s := by omega
      have HCU := Lib.hid (fun d1 => cut_ok (d1 := d1) as_ sm en1 en2 HLL.out HRR.out HCC.out hR.out en0 hs0 hr0 HLO.out)
      clear hR
      go_upto_region 39 with fail
      go_cut [185] from 178 (fun t wx => t = .bool (decide (s < m ∧ m < en)) ∧ wr = wx)
      case first =>
        by_cases h1 : s < m
        · by_cases h2 : m < en
          · go_wp2_with fail
            go_meet
            case rel => exact ⟨by rw [decide_eq_true (show s < m ∧ m < en from ⟨h1, h2⟩)]; try simp [h1, h2], rfl⟩
          · go_wp2_with fail
            go_meet
            case rel => exact ⟨by rw [decide_eq_false (show ¬ (s < m ∧ m < en) by omega)]; try simp [h1, h2], rfl⟩
        · go_wp2_with fail
          go_meet
          case rel => exact ⟨by rw [decide_eq_false (show ¬ (s < m ∧ m < en) by omega)]; try simp [h1], rfl⟩
      case rest =>
       obtain ⟨rfl, rfl⟩ := hcut
       go_upto_if 185 with fail
       go_cut [] from 185 (fun wx => ∃ d1, Hid (Rot d d1 s m en ∧ PermIn a b d d1) ∧ Hid (SW (encE E (z := z)) W blk off d1 wx))
       case first =>
        by_cases h : s < m ∧ m < en
        · rw [decide_eq_true h]
          have Cr := HC.out.next hS.out HC.out.sz
          have HX := Lib.hid (s2_rotate Cr cap s m en h.1 h.2 (by omega))
          have HM2 := Lib.hid (show ∀ d1, Rot d d1 s m en ∧ PermIn s en d d1 → Rot d d1 s m en ∧ PermIn a b d d1 from fun d1 ⟨g1, g2⟩ => ⟨g1, permIn_mono _ _ _ _ _ _ (by omega) (by omega) (by rw [HC.out.sz]; omega) g2⟩)
          clear Cr h
          go_wp2_with fail
          refine HX.out.mono ?_
          intro e w' hd
          obtain ⟨rfl, d1, hd1, hs1⟩ := hd
          have H1 := Lib.hid (HM2.out d1 hd1)
          have H2 := Lib.hid (SW.trans hS.out HC.out.lt hs1 (by rw [hd1.1.1]))
          clear hd1 hs1
          go_wp2_with fail
          go_meet
          case rel => exact ⟨d1, H1, H2⟩
        · rw [decide_eq_false h]
          have H1 := Lib.hid (show Rot d d s m en ∧ PermIn a b d d from ⟨by
            rcases Nat.lt_or_ge s m with g | g
            · rw [show en = m by omega]; exact Rot.right d s m sm
            · rw [show s = m by omega]; exact Rot.left d m en en1, permIn_refl _ _ _⟩)
          clear h
          go_wp2_with fail
          go_meet
          case rel => exact ⟨d, H1, hS⟩
       case rest =>
        obtain ⟨d1, hR1, hS1⟩ := hcut
        have hcu := HCU.out d1 hR1.out.1
        obtain ⟨c1, c2, c3, c4, c5, c6, c7⟩ := hcu
        have HC1a := Lib.hid c1; have HC2a := Lib.hid c2; have HC3a := Lib.hid c3; have HC4a := Lib.hid c4; have HC5a := Lib.hid c5; have HC6a := Lib.hid c6; have HC7a := Lib.hid c7
        have hz1 : d1.size = size := by rw [hR1.out.1.1, HC.out.sz]
        have HZ1 := Lib.hid hz1
        clear c1 c2 c3 c4 c5 c6 c7 hz1 HCU
        go_upto_region 41 with fail
        go_cut [199] from 192 (fun t wx => t = .bool (decide (a < s ∧ s < mid)) ∧ wc = wx)
        case first =>
          by_cases h1 : a < s
          · by_cases h2 : s < mid
            · go_wp2_with fail
              go_meet
              case rel => exact ⟨by rw [decide_eq_true (show a < s ∧ s < mid from ⟨h1, h2⟩)]; try simp [h1, h2], rfl⟩
            · go_wp2_with fail
              go_meet
              case rel => exact ⟨by rw [decide_eq_false (show ¬ (a < s ∧ s < mid) by omega)]; try simp [h1, h2], rfl⟩
          · go_wp2_with fail
            go_meet
            case rel => exact ⟨by rw [decide_eq_false (show ¬ (a < s ∧ s < mid) by omega)]; try simp [h1], rfl⟩
        case rest =>
         obtain ⟨rfl, rfl⟩ := hcut
         go_upto_if 199 with fail
         go_cut [] from 199 (fun wx => ∃ d2, Hid (SL f a mid d2 ∧ PermIn a mid d1 d2) ∧ Hid (SW (encE E (z := z)) W blk off d2 wx))
         case first =>
          by_cases h : a < s ∧ s < mid
          · rw [decide_eq_true h]
            have Cr := HC.out.next hS1.out HZ1.out
            have HX := Lib.hid (HIH.out wc d1 a s mid Cr (by have := HN.out; omega) h.1 h.2 (by omega) HC1a.out HC2a.out HC6a.out)
            clear Cr h
            go_wp2_with fail
            refine HX.out.mono ?_
            intro e w' hd
            obtain ⟨rfl, d2, hd2, hs2⟩ := hd
            have H1 := Lib.hid hd2
            have H2 := Lib.hid (SW.trans hS1.out HC.out.lt hs2 hd2.2.1)
            clear hd2 hs2
            go_wp2_with fail
            go_meet
            case rel => exact ⟨d2, H1, H2⟩
          · rw [decide_eq_false h]
            have H1 := Lib.hid (show SL f a mid d1 ∧ PermIn a mid d1 d1 from ⟨by
              rcases Nat.lt_or_ge a s with g | g
              · rw [show mid = s by omega]; exact HC1a.out
              · rw [show a = s by omega]; exact HC2a.out, permIn_refl _ _ _⟩)
            clear h
            go_wp2_with fail
            go_meet
            case rel => exact ⟨d1, H1, hS1⟩
         case rest =>
          obtain ⟨d2, hR2, hS2⟩ := hcut
          have HZ2 := Lib.hid (show d2.size = size by rw [hR2.out.2.1, HZ1.out])
          have HF := Lib.hid (show ∀ d3, SL f mid b d3 ∧ PermIn mid b d2 d3 → SL f a b d3 ∧ PermIn a b d d3 from fun d3 ⟨g1, g2⟩ => by
            obtain ⟨k1, k2⟩ := join_ok (f := f) (by omega) (by omega) (by rw [HZ1.out]; exact hb) hR2.out.2 hR2.out.1 g2 g1 HC5a.out
            exact ⟨k1, permIn_trans _ _ _ _ _ hR1.out.2 k2⟩)
          go_upto_region 43 with fail
          go_cut [213] from 206 (fun t wx => t = .bool (decide (mid < en ∧ en < b)) ∧ wc = wx)
          case first =>
            by_cases h1 : mid < en
            · by_cases h2 : en < b
              · go_wp2_with fail
                go_meet
                case rel => exact ⟨by rw [decide_eq_true (show mid < en ∧ en < b from ⟨h1, h2⟩)]; try simp [h1, h2], rfl⟩
              · go_wp2_with fail
                go_meet
                case rel => exact ⟨by rw [decide_eq_false (show ¬ (mid < en ∧ en < b) by omega)]; try simp [h1, h2], rfl⟩
            · go_wp2_with fail
              go_meet
              case rel => exact ⟨by rw [decide_eq_false (show ¬ (mid < en ∧ en < b) by omega)]; try simp [h1], rfl⟩
          case rest =>
           obtain ⟨rfl, rfl⟩ := hcut
           by_cases h : mid < en ∧ en < b
           · rw [decide_eq_true h]
             have Cr := HC.out.next hS2.out HZ2.out
             have HX := Lib.hid (HIH.out wc d2 mid en b Cr (by have := HN.out; omega) h.1 h.2 hb (HC3a.out.other hR2.out.2 (Or.inr (Nat.le_refl _))) (HC4a.out.other hR2.out.2 (Or.inr (by omega))) (HC7a.out.other hR2.out.2 (Or.inr (Nat.le_refl _))))
             clear Cr h
             go_wp2_with fail
             refine HX.out.mono ?_
             intro e w' hd
             obtain ⟨rfl, d3, hd3, hs3⟩ := hd
             have hend := Lib.hid (show Q (.returned (.tuple #[])) w' from by
               rw [← HQ.out]
               exact ⟨rfl, d3, HF.out d3 hd3, SW.trans hS2.out HC.out.lt hs3 hd3.2.1⟩)
             clear hd3 hs3
             go_wp2_with fail
             go_end0
             exact hend.out
           · rw [decide_eq_false h]
             have hend := Lib.hid (show Q (.returned (.tuple #[])) wc from by
               rw [← HQ.out]
               refine ⟨rfl, d2, HF.out d2 ⟨?_, permIn_refl _ _ _⟩, hS2.out⟩
               rcases Nat.lt_or_ge mid en with g | g
               · rw [show b = en by omega]; exact HC3a.out.other hR2.out.2 (Or.inr (Nat.le_refl _))
               · rw [show mid = en by omega]; exact HC4a.out.other hR2.out.2 (Or.inr (by omega)))
             clear h
             go_wp2_with fail
             go_end0
             exact hend.out
theorem s2_merge (f E : Nat → Int) (g : Nat) (cb : Array Value) (blk off z : Nat) (cf : Fin (z + 1) → Fin (z + 1) → Int) (size cap : Nat) : ∀ N, MergeOk2 f E g cb blk off z cf size cap N
  | 0 => fun W d a m b _ hN h1 h2 _ _ _ _ => by omega
  | N + 1 => fun W d a m b h hN h1 h2 hb hL hR hc => by
    by_cases e1 : m = a + 1
    · subst e1; exact s2_merge_left h cap a b h2 hb hR hc _ rfl
    · by_cases e2 : b = m + 1
      · subst e2; exact s2_merge_right h cap a m (by omega) hb hL hc _ rfl
      · obtain ⟨mid, hmid⟩ : ∃ mid, mid = (a + b) / 2 := ⟨_, rfl⟩
        by_cases hm : mid < m
        · exact s2_merge_mid h cap a m b N (by omega) (by omega) hb hL hR hc (by omega) (s2_merge f E g cb blk off z cf size cap N) mid (mid + m - b) mid (by omega) (.inl ⟨hm, by omega, rfl⟩)
        · exact s2_merge_mid h cap a m b N (by omega) (by omega) hb hL hR hc (by omega) (s2_merge f E g cb blk off z cf size cap N) mid a m (by omega) (.inr ⟨by omega, rfl, rfl⟩)
end

section
set_option linter.unusedVariables false
set_option linter.unusedSimpArgs false
open Go.Shelf Go.RowKit Go.Lib Go.Sort
inductive BF (f : Nat → Int) {z : Nat} (n bs : Nat) (d : Array (Fin (z + 1))) : Nat → Prop
  | done (x : Nat) : n ≤ x → BF f n bs d x
  | step (x : Nat) : x < n → BlkS f x (min (x + bs) n) d → BF f n bs d (x + bs) → BF f n bs d x
inductive PF (f : Nat → Int) {z : Nat} (bs : Nat) (d : Array (Fin (z + 1))) : Nat → Prop
  | zero : PF f bs d 0
  | step (x : Nat) : PF f bs d x → BlkS f x (x + bs) d → PF f bs d (x + bs)
theorem BF.other {f : Nat → Int} {z n bs a b x : Nat} {d d' : Array (Fin (z + 1))} (h : BF f n bs d x) (hp : PermIn a b d d') (hx : b ≤ x) : BF f n bs d' x := by
  induction h with
  | done x h => exact .done x h
  | step x h1 h2 h3 ih => exact .step x h1 (h2.other hp (Or.inr hx)) (ih (by omega))
theorem PF.other {f : Nat → Int} {z bs a b x : Nat} {d d' : Array (Fin (z + 1))} (h : PF f bs d x) (hp : PermIn a b d d') (hx : x ≤ a) : PF f bs d' x := by
  induction h with
  | zero => exact .zero
  | step x h1 h2 ih => exact .step x (ih (by omega)) (h2.other hp (Or.inl hx))
theorem PF.all {f : Nat → Int} {z n bs x : Nat} {d : Array (Fin (z + 1))} (h : PF f bs d x) (hb : BF f n bs d x) (hx : x ≤ n) (h0 : 0 < bs) : BF f n bs d 0 := by
  induction h with
  | zero => exact hb
  | step x h1 h2 ih => exact ih (.step x (by omega) (by rw [show min (x + bs) n = x + bs by omega]; exact h2) hb) (by omega)
theorem BF.two {f : Nat → Int} {z n bs x : Nat} {d : Array (Fin (z + 1))} (h : BF f n bs d x) (hx : x + bs < n) : BlkS f x (x + bs) d ∧ BlkS f (x + bs) (min (x + bs + bs) n) d ∧ BF f n bs d (x + bs + bs) := by
  cases h with
  | done _ h => omega
  | step _ h1 h2 h3 =>
    cases h3 with
    | done _ h => omega
    | step _ k1 k2 k3 => exact ⟨by rw [show min (x + bs) n = x + bs by omega] at h2; exact h2, k2, k3⟩
theorem BF.last {f : Nat → Int} {z n bs x : Nat} {d : Array (Fin (z + 1))} (h : BF f n bs d x) (hx : n ≤ x + bs) : BF f n (2 * bs) d x := by
  cases h with
  | done _ h => exact .done _ h
  | step _ h1 h2 h3 => exact .step _ h1 (by rw [show min (x + bs) n = n by omega] at h2; rw [show min (x + 2 * bs) n = n by omega]; exact h2) (.done _ (by omega))
theorem one_encE (E : Nat → Int) {z : Nat} : OneCell (encE E (z := z)) := fun _ => rfl
theorem s2_ins {f E : Nat → Int} {g : Nat} {cb : Array Value} {blk off z size : Nat} {cf : Fin (z + 1) → Fin (z + 1) → Int} {W : World} {d : Array (Fin (z + 1))} (h : Sx f E g cb blk off cf size W d) (cap a b : Nat) (hab : a ≤ b) (hb : b ≤ size) (hid : ∀ i, a ≤ i → i < b → d[i]!.val = i) :
    Calls Tryz.prog 143 #[.slice (some ⟨blk, off, none⟩) size cap, .int .i64 a, .int .i64 b, .func (.func g) #[] cb] W (DoneS E blk off W (fun d' => PermIn a b d d' ∧ SL f a b d')) := by
  have h0 := h
  obtain ⟨h1, h2, h3, h4, h5, h6, h7⟩ := h
  subst h6
  have hs := ins_stable f d a b hab hb hid
  have he : ltOf cf = ltr (z := z) f := by funext x y; exact h3 x y
  refine (Tryz.insertionSortCmpFunc_s (encE E (z := z)) cf g cb blk off cap a b d d W W h1 h2 ⟨one_encE E, h4, h5⟩ rfl h0.start hab hb (by omega)).mono ?_
  rintro e w' ⟨rfl, hw⟩
  rw [he] at hw
  exact ⟨rfl, _, hs, hw⟩
def R1 (f : Nat → Int) {z : Nat} (size : Nat) (d : Array (Fin (z + 1))) (a : Nat) (dk : Array (Fin (z + 1))) : Prop := PF f 20 dk a ∧ (∀ i, a ≤ i → i < size → dk[i]!.val = i) ∧ PermIn 0 size d dk
def R2 (f : Nat → Int) {z : Nat} (size bs : Nat) (d : Array (Fin (z + 1))) (a : Nat) (dk : Array (Fin (z + 1))) : Prop := PF f (2 * bs) dk a ∧ BF f size bs dk a ∧ PermIn 0 size d dk
theorem blk_of {f : Nat → Int} {z a b : Nat} {dk d1 : Array (Fin (z + 1))} (hb : b ≤ dk.size) (hid : ∀ i, a ≤ i → i < b → dk[i]!.val = i) (hp : PermIn a b dk d1) (hs : SL f a b d1) : BlkS f a b d1 :=
  BlkS.perm hb hp (fun i h1 h2 => by rw [hid i h1 h2]; exact ⟨h1, h2⟩) hs
set_option maxRecDepth 100000 in
set_option maxHeartbeats 4000000 in
theorem s2_stable {f E : Nat → Int} {g : Nat} {cb : Array Value} {blk off z size : Nat} {cf : Fin (z + 1) → Fin (z + 1) → Int} {W : World} {d : Array (Fin (z + 1))} (h : Sx f E g cb blk off cf size W d) (cap : Nat) (hn : 0 < size) (hd : ∀ i, i < size → d[i]!.val = i) :
    Calls Tryz.prog 103 #[.slice (some ⟨blk, off, none⟩) size cap, .int .i64 size, .func (.func g) #[] cb] W (DoneS E blk off W (fun d' => SL f 0 size d' ∧ PermIn 0 size d d')) := by
  have HC := Lib.hid h
  have hbig := h.big
  have HD := Lib.hid hd
  generalize hQ : (DoneS E blk off W (fun d' => SL f 0 size d' ∧ PermIn 0 size d d')) = Q
  have HQ := Lib.hid hQ
  clear h hQ hd
  go_enter Tryz.func103, Tryz.ntmps103
  go_wp2_with fail
  go_loopw [7, 8] (fun va vb wr => ∃ (a : Nat) (dk : Array (Fin (z + 1))), va = .int .i64 a ∧ vb = .int .i64 ((a : Int) + 20) ∧ a ≤ size ∧ Hid (R1 f size d a dk) ∧ Hid (SW (encE E (z := z)) W blk off dk wr)) (fun va _ _ => size - (intOf va).toNat)
  case atStart => exact ⟨0, d, rfl, rfl, Nat.zero_le _, Lib.hid ⟨.zero, fun i _ h => HD.out i h, permIn_refl _ _ _⟩, Lib.hid HC.out.start⟩
  case round =>
    obtain ⟨a, dk, rfl, rfl, ha, hR, hS⟩ := hrel
    have HZ := Lib.hid (show dk.size = size by rw [hR.out.2.2.1, HC.out.sz])
    have HCr := Lib.hid (HC.out.next hS.out HZ.out)
    by_cases hlt : a + 20 ≤ size
    · have hX := s2_ins HCr.out cap a (a + 20) (by omega) hlt (fun i h1 h2 => hR.out.2.1 i h1 (by omega))
      rw [show ((a + 20 : Nat) : Int) = (a : Int) + 20 by omega] at hX
      have HX := Lib.hid hX
      have HN := Lib.hid (show ∀ d1, PermIn a (a + 20) dk d1 ∧ SL f a (a + 20) d1 → R1 f size d (a + 20) d1 from fun d1 ⟨g1, g2⟩ =>
        ⟨.step a (hR.out.1.other g1 (Nat.le_refl _)) (blk_of (by rw [HZ.out]; exact hlt) (fun i h1 h2 => hR.out.2.1 i h1 (by omega)) g1 g2), fun i h1 h2 => by rw [g1.2.1 i (by omega)]; exact hR.out.2.1 i (by omega) h2,
          permIn_trans _ _ _ _ _ hR.out.2.2 (permIn_mono _ _ _ _ _ _ (Nat.zero_le _) hlt (by rw [HZ.out]; exact Nat.le_refl _) g1)⟩)
      clear hX
      go_wp2_with fail
      refine HX.out.mono ?_
      intro e w' hd
      obtain ⟨rfl, d1, hd1, hs1⟩ := hd
      have H1 := Lib.hid (HN.out d1 hd1)
      have H2 := Lib.hid (SW.trans hS.out HC.out.lt hs1 hd1.1.1)
      clear hd1 hs1
      go_wp2_with fail
      go_roundw
      case rel => exact ⟨a + 20, d1, by go_num, by go_num, hlt, H1, H2⟩
      case measure => simp [intOf]; omega
    · have HX := Lib.hid (s2_ins HCr.out cap a size ha (Nat.le_refl _) (fun i h1 h2 => hR.out.2.1 i h1 h2))
      have HN := Lib.hid (show ∀ d1, PermIn a size dk d1 ∧ SL f a size d1 → BF f size 20 d1 0 ∧ PermIn 0 size d d1 from fun d1 ⟨g1, g2⟩ => by
        have hp : PF f 20 d1 a := hR.out.1.other g1 (Nat.le_refl _)
        refine ⟨hp.all ?_ ha (by omega), permIn_trans _ _ _ _ _ hR.out.2.2 (permIn_mono _ _ _ _ _ _ (Nat.zero_le _) (Nat.le_refl _) (by rw [HZ.out]; exact Nat.le_refl _) g1)⟩
        rcases Nat.lt_or_ge a size with h | h
        · exact .step a h (by rw [show min (a + 20) size = size by omega]; exact blk_of (by rw [HZ.out]; exact Nat.le_refl _) (fun i h1 h2 => hR.out.2.1 i h1 h2) g1 g2) (.done _ (by omega))
        · exact .done a h)
      go_wp2_with fail
      refine HX.out.mono ?_
      intro e w' hd
      obtain ⟨rfl, d1, hd1, hs1⟩ := hd
      have H1 := Lib.hid (HN.out d1 hd1)
      have H2 := Lib.hid (SW.trans hS.out HC.out.lt hs1 hd1.1.1)
      clear hd1 hs1 HX HN
      go_wp2_with fail
      go_loopw [6] (fun vb wr => ∃ (bs : Nat) (dk : Array (Fin (z + 1))), vb = .int .i64 bs ∧ 20 ≤ bs ∧ bs ≤ 2 * size + 20 ∧ Hid (BF f size bs dk 0 ∧ PermIn 0 size d dk) ∧ Hid (SW (encE E (z := z)) W blk off dk wr)) (fun vb _ => size - (intOf vb).toNat)
      case atStart => exact ⟨20, d1, rfl, Nat.le_refl _, by omega, H1, H2⟩
      case round =>
        clear H1 H2
        obtain ⟨bs, dk, rfl, b0, b1, hR, hS⟩ := hrel
        by_cases hlt : bs < size
        · go_wp2_with fail
          go_loopw [7, 8] (fun va vb w2 => ∃ (a : Nat) (dk : Array (Fin (z + 1))), va = .int .i64 a ∧ vb = .int .i64 ((a : Int) + 2 * bs) ∧ a ≤ size ∧ Hid (R2 f size bs d a dk) ∧ Hid (SW (encE E (z := z)) W blk off dk w2)) (fun va _ _ => size - (intOf va).toNat)
          case atStart => exact ⟨0, dk, rfl, by go_num, Nat.zero_le _, Lib.hid ⟨.zero, hR.out.1, hR.out.2⟩, hS⟩
          case round =>
            clear hR hS
            obtain ⟨a, dk, rfl, rfl, ha, hR, hS⟩ := hrel
            have HZ := Lib.hid (show dk.size = size by rw [hR.out.2.2.1, HC.out.sz])
            have HCr := Lib.hid (HC.out.next hS.out HZ.out)
            by_cases hle : a + 2 * bs ≤ size
            · obtain ⟨k1, k2, k3⟩ := hR.out.2.1.two (by omega)
              rw [show min (a + bs + bs) size = a + bs + bs by omega] at k2
              have hX := s2_merge f E g cb blk off z cf size cap (2 * bs) wr dk a (a + bs) (a + bs + bs) HCr.out (by omega) (by omega) (by omega) (by omega) k1.1 k2.1 (k1.cross k2)
              rw [show ((a + bs : Nat) : Int) = (a : Int) + bs by omega, show ((a + bs + bs : Nat) : Int) = (a : Int) + 2 * bs by omega] at hX
              have HX := Lib.hid hX
              have HN := Lib.hid (show ∀ d1, SL f a (a + bs + bs) d1 ∧ PermIn a (a + bs + bs) dk d1 → R2 f size bs d (a + 2 * bs) d1 from fun d1 ⟨g1, g2⟩ => by
                refine ⟨.step a (hR.out.1.other g2 (Nat.le_refl _)) ?_, ?_, permIn_trans _ _ _ _ _ hR.out.2.2 (permIn_mono _ _ _ _ _ _ (Nat.zero_le _) (by omega) (by rw [HZ.out]; exact Nat.le_refl _) g2)⟩
                · rw [show a + 2 * bs = a + bs + bs by omega]; exact BlkS.merge (by rw [HZ.out]; omega) (by omega) (by omega) k1 k2 g2 g1
                · rw [show a + 2 * bs = a + bs + bs by omega]; exact k3.other g2 (Nat.le_refl _))
              clear hX k1 k2 k3
              go_wp2_with fail
              refine HX.out.mono ?_
              intro e w' hd
              obtain ⟨rfl, d1, hd1, hs1⟩ := hd
              have H1 := Lib.hid (HN.out d1 hd1)
              have H2 := Lib.hid (SW.trans hS.out HC.out.lt hs1 hd1.2.1)
              clear hd1 hs1
              go_wp2_with fail
              go_roundw
              case rel => exact ⟨a + 2 * bs, d1, by go_num, by go_num, hle, H1, H2⟩
              case measure => simp [intOf]; omega
            · by_cases hm : a + bs < size
              · obtain ⟨k1, k2, k3⟩ := hR.out.2.1.two hm
                rw [show min (a + bs + bs) size = size by omega] at k2
                have hX := s2_merge f E g cb blk off z cf size cap size wr dk a (a + bs) size HCr.out (by omega) (by omega) hm (Nat.le_refl _) k1.1 k2.1 (k1.cross k2)
                rw [show ((a + bs : Nat) : Int) = (a : Int) + bs by omega] at hX
                have HX := Lib.hid hX
                have HN := Lib.hid (show ∀ d1, SL f a size d1 ∧ PermIn a size dk d1 → BF f size (2 * bs) d1 0 ∧ PermIn 0 size d d1 from fun d1 ⟨g1, g2⟩ => by
                  refine ⟨(hR.out.1.other g2 (Nat.le_refl _)).all (.step a (by omega) ?_ (.done _ (by omega))) ha (by omega), permIn_trans _ _ _ _ _ hR.out.2.2 (permIn_mono _ _ _ _ _ _ (Nat.zero_le _) (Nat.le_refl _) (by rw [HZ.out]; exact Nat.le_refl _) g2)⟩
                  rw [show min (a + 2 * bs) size = size by omega]; exact BlkS.merge (by rw [HZ.out]; exact Nat.le_refl _) (by omega) (by omega) k1 k2 g2 g1)
                clear hX k1 k2 k3
                go_wp2_with fail
                refine HX.out.mono ?_
                intro e w' hd
                obtain ⟨rfl, d1, hd1, hs1⟩ := hd
                have H1 := Lib.hid (HN.out d1 hd1)
                have H2 := Lib.hid (SW.trans hS.out HC.out.lt hs1 hd1.2.1)
                clear hd1 hs1
                go_wp2_with fail
                go_roundw
                case rel => exact ⟨2 * bs, d1, by go_num, by omega, by omega, H1, H2⟩
                case measure => simp [intOf]; omega
              · have H1 := Lib.hid (show BF f size (2 * bs) dk 0 ∧ PermIn 0 size d dk from ⟨hR.out.1.all (hR.out.2.1.last (by omega)) ha (by omega), hR.out.2.2⟩)
                go_wp2_with fail
                go_roundw
                case rel => exact ⟨2 * bs, dk, by go_num, by omega, by omega, H1, hS⟩
                case measure => simp [intOf]; omega
        · have hend := Lib.hid (show Q (.returned (.tuple #[])) wr from by
            rw [← HQ.out]
            refine ⟨rfl, dk, ⟨?_, hR.out.2⟩, hS.out⟩
            cases hR.out.1 with
            | done _ h => omega
            | step _ h1 h2 h3 => rw [show min (0 + bs) size = size by omega] at h2; exact h2.1)
          clear hR hS
          go_wp2_with fail
          go_end0
          exact hend.out
end

section
set_option linter.unusedVariables false
set_option linter.unusedSimpArgs false
open Go.Shelf Go.RowKit Go.Lib Go.Sort
set_option maxRecDepth 100000 in
theorem s2_SortStableFunc {f E : Nat → Int} {g : Nat} {cb : Array Value} {blk off z size : Nat} {cf : Fin (z + 1) → Fin (z + 1) → Int} {W : World} {d : Array (Fin (z + 1))} (h : Sx f E g cb blk off cf size W d) (cap : Nat) (hn : 0 < size) (hd : ∀ i, i < size → d[i]!.val = i) :
    Calls Tryz.prog 75 #[.slice (some ⟨blk, off, none⟩) size cap, .func (.func g) #[] cb] W (DoneS E blk off W (fun d' => SL f 0 size d' ∧ PermIn 0 size d d')) := by
  have HX := Lib.hid (s2_stable h cap hn hd)
  generalize hQ : (DoneS E blk off W (fun d' => SL f 0 size d' ∧ PermIn 0 size d d')) = Q
  rw [hQ] at HX
  have HF := Lib.hid (show ∀ e w', Q e w' → e = .returned (.tuple #[]) from fun e w' hq => by rw [← hQ] at hq; exact hq.1)
  clear h hd hQ
  go_enter Tryz.func75, Tryz.ntmps75
  go_wp2_with fail
  refine HX.out.mono ?_
  intro e w' hq
  have he := HF.out e w' hq
  subst he
  have HQ := Lib.hid hq
  clear hq
  go_wp2_with fail
  go_end0
  exact HQ.out
end
end Go.Proofs.YthphdiigjimchaaGreat

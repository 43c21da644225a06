/- What money.Parse answers is what the document's reading answers: mathematics. -/
import Derived.Test.YtgnmoneiiogoaaaDoorMonM
import Derived.Test.YtgnmoneiiogoaaaDoorMonK
namespace Go.Proofs.YtgnmoneiiogoaaaDoor
set_option linter.unusedVariables false
set_option linter.unusedSimpArgs false

def zOf (L : List UInt8) : Nat := if 0 < L.length ∧ byteAt L 0 = 45 then 1 else 0

theorem zOf_cases (L : List UInt8) : (zOf L = 1 ∧ 0 < L.length ∧ byteAt L 0 = 45) ∨ (zOf L = 0 ∧ ¬ (0 < L.length ∧ byteAt L 0 = 45)) := by
  unfold zOf; split
  · exact .inl ⟨rfl, ‹_›⟩
  · exact .inr ⟨rfl, ‹_›⟩

theorem dig_at (L : List UInt8) (i : Nat) (h : i < L.length) : digAt L i = isDig (byteAt L i) := by
  unfold digAt isDig; rw [decide_eq_true h]; rfl

theorem intLen_at (L : List UInt8) (z K : Nat) (h1 : ∀ j, j < K → goOn L z j = true) (h2 : goOn L z K = false) (hK : K ≤ L.length) : intLen L z = K :=
  firstStop_at _ _ _ _ (fun j _ h => h1 j h) h2 (Nat.zero_le _) (by omega)

/-- The point stands behind K whole digits that come to X0. -/
def Pt (L : List UInt8) (z K : Nat) (X0 : Int) : Prop :=
  1 ≤ K ∧ intLen L z = K ∧ z + K < L.length ∧ byteAt L (z + K) = 46 ∧ capVal L z K = min X0 1125899906842624 ∧ 0 ≤ X0 ∧ (X0 = 0 → K = 1 ∧ byteAt L z = 48)

theorem parseM_at (L : List UInt8) (h20 : ¬ 20 < L.length) (K : Nat) (hK : intLen L (zOf L) = K) :
    parseM L = if K = 0 ∨ L.length ≤ zOf L + K ∨ byteAt L (zOf L + K) ≠ 46 then (0, 4, ((zOf L + K : Nat) : Int)) else tailM L (zOf L + K) (zOf L) (capVal L (zOf L) K) := by
  unfold parseM
  rw [if_neg h20]
  change (if intLen L (zOf L) = 0 ∨ L.length ≤ zOf L + intLen L (zOf L) ∨ byteAt L (zOf L + intLen L (zOf L)) ≠ 46 then (0, 4, ((zOf L + intLen L (zOf L) : Nat) : Int)) else tailM L (zOf L + intLen L (zOf L)) (zOf L) (capVal L (zOf L) (intLen L (zOf L)))) = _
  rw [hK]
theorem parseM_pt (L : List UInt8) (h20 : ¬ 20 < L.length) (K : Nat) (X0 : Int) (h : Pt L (zOf L) K X0) : parseM L = tailM L (zOf L + K) (zOf L) (min X0 1125899906842624) := by
  obtain ⟨h1, h2, h3, h4, h5, _⟩ := h
  rw [parseM_at L h20 K h2, if_neg (by omega), h5]

def St (L : List UInt8) (i s : Nat) (X : Int) : Prop :=
  foldV L i = min X 1099511627776 ∧ 0 ≤ X ∧
  ((s = 0 ∧ i = 0 ∧ X = 0) ∨ (s = 1 ∧ i = 1 ∧ zOf L = 1 ∧ X = 0) ∨ (s = 2 ∧ i = zOf L + 1 ∧ intLen L (zOf L) = 1 ∧ byteAt L (zOf L) = 48 ∧ X = 0 ∧ capVal L (zOf L) 1 = 0) ∨
   (s = 3 ∧ ∃ m, 1 ≤ m ∧ i = zOf L + m ∧ m ≤ L.length ∧ (∀ j, j < m → goOn L (zOf L) j = true) ∧ byteAt L (zOf L) ≠ 48 ∧ 1 ≤ X ∧ capVal L (zOf L) m = min X 1125899906842624) ∨
   (s = 4 ∧ ∃ K, i = zOf L + K + 1 ∧ Pt L (zOf L) K X) ∨
   (s = 5 ∧ ∃ K X0, i = zOf L + K + 2 ∧ Pt L (zOf L) K X0 ∧ digAt L (zOf L + K + 1) = true ∧ X = 10 * X0 + ((byteAt L (zOf L + K + 1) : Int) - 48)) ∨
   (s = 6 ∧ ∃ K X0, i = zOf L + K + 3 ∧ Pt L (zOf L) K X0 ∧ digAt L (zOf L + K + 1) = true ∧ digAt L (zOf L + K + 2) = true ∧
     X = 10 * (10 * X0 + ((byteAt L (zOf L + K + 1) : Int) - 48)) + ((byteAt L (zOf L + K + 2) : Int) - 48)))

theorem foldV_dig (L : List UInt8) (i : Nat) (X : Int) (h : foldV L i = min X 1099511627776) (hX : 0 ≤ X) (hd : isDig (byteAt L i) = true) : foldV L (i + 1) = min (10 * X + ((byteAt L i : Int) - 48)) 1099511627776 := by
  rw [foldV, if_pos hd, h]
  unfold isDig at hd; simp at hd
  omega
theorem foldV_no (L : List UInt8) (i : Nat) (hd : isDig (byteAt L i) = false) : foldV L (i + 1) = foldV L i := by
  rw [foldV, if_neg (by rw [hd]; simp)]
theorem isDig_bd {b : Nat} (h : isDig b = true) : 48 ≤ b ∧ b ≤ 57 := by unfold isDig at h; simpa using h
theorem isDig_no {b : Nat} (h : b < 48 ∨ 57 < b) : isDig b = false := by unfold isDig; simp; omega

/-- The whole digits begin. -/
theorem St_begin (L : List UInt8) (h20 : ¬ 20 < L.length) (i : Nat) (hi : i < L.length) (hz : zOf L = i) (h0 : foldV L i = 0) :
    (byteAt L i = 48 → St L (i + 1) 2 0) ∧ (byteAt L i ≠ 48 → isDig (byteAt L i) = true → ∃ X, St L (i + 1) 3 X) ∧ (isDig (byteAt L i) = false → parseM L = (0, 4, (i : Int))) := by
  have hg0 : goOn L i 0 = isDig (byteAt L i) := by unfold goOn; rw [Nat.add_zero, dig_at L i hi]; simp
  refine ⟨fun h => ?_, fun h hd => ?_, fun hd => ?_⟩
  · have hd : isDig (byteAt L i) = true := by rw [h]; rfl
    refine ⟨?_, Int.le_refl _, .inr (.inr (.inl ⟨rfl, by rw [hz], ?_, by rw [hz]; exact h, rfl, ?_⟩))⟩
    · rw [foldV_dig L i 0 (by rw [h0]; rfl) (Int.le_refl _) hd, h]; rfl
    · rw [hz]
      refine intLen_at L i 1 (fun j hj => ?_) ?_ (by omega)
      · obtain rfl : j = 0 := by omega
        rw [hg0]; exact hd
      · unfold goOn; simp [h]
    · rw [hz]; simp [capVal, h]; rfl
  · obtain ⟨b0, b1⟩ := isDig_bd hd
    refine ⟨(byteAt L i : Int) - 48, ?_, by omega, .inr (.inr (.inr (.inl ⟨rfl, 1, Nat.le_refl _, by rw [hz], by omega, fun j hj => ?_, by rw [hz]; exact h, by omega, ?_⟩)))⟩
    · rw [foldV_dig L i 0 (by rw [h0]; rfl) (Int.le_refl _) hd]; simp
    · obtain rfl : j = 0 := by omega
      rw [hz, hg0]; exact hd
    · rw [hz]; simp [capVal]
  · have hK := intLen_at L i 0 (fun j hj => by omega) (by rw [hg0]; exact hd) (Nat.zero_le _)
    rw [parseM_at L h20 0 (by rw [hz]; exact hK), if_pos (.inl rfl), hz, Nat.add_zero]

/-- One byte more. -/
theorem St_step (L : List UInt8) (h20 : ¬ 20 < L.length) (i s : Nat) (X : Int) (h : St L i s X) (hi : i < L.length) :
    (nextS s (byteAt L i) = 7 → parseM L = (0, 4, (i : Int))) ∧ (nextS s (byteAt L i) ≠ 7 → ∃ X', St L (i + 1) (nextS s (byteAt L i)) X') := by
  obtain ⟨hf, hX, h⟩ := h
  rcases h with ⟨rfl, rfl, rfl⟩ | ⟨rfl, rfl, hz, rfl⟩ | ⟨rfl, rfl, hK, h48, rfl, hcv⟩ | ⟨rfl, m, hm, rfl, hml, hg, h48, hX1, hcv⟩ | ⟨rfl, K, rfl, hp⟩ | ⟨rfl, K, X0, rfl, hp, hd1, rfl⟩ | ⟨rfl, K, X0, rfl, hp, hd1, hd2, rfl⟩
  · -- nothing yet
    by_cases h45 : byteAt L 0 = 45
    · have e : nextS 0 (byteAt L 0) = 1 := by simp [nextS, h45]
      rw [e]
      refine ⟨fun h => by omega, fun _ => ⟨0, ?_, Int.le_refl _, .inr (.inl ⟨rfl, rfl, if_pos ⟨hi, h45⟩, rfl⟩)⟩⟩
      rw [foldV_no L 0 (by rw [h45]; rfl)]; exact hf
    · have hz : zOf L = 0 := if_neg (fun h => h45 h.2)
      obtain ⟨b1, b2, b3⟩ := St_begin L h20 0 hi hz hf
      by_cases c : byteAt L 0 = 48
      · have e : nextS 0 (byteAt L 0) = 2 := by simp [nextS, c]
        rw [e]; exact ⟨fun h => by omega, fun _ => ⟨0, b1 c⟩⟩
      · cases hd : isDig (byteAt L 0) with
        | true =>
          have e : nextS 0 (byteAt L 0) = 3 := by simp [nextS, h45, c, hd]
          rw [e]; exact ⟨fun h => by omega, fun _ => b2 c hd⟩
        | false =>
          have e : nextS 0 (byteAt L 0) = 7 := by simp [nextS, h45, c, hd]
          rw [e]; exact ⟨fun _ => b3 hd, fun h => absurd rfl h⟩
  · -- the minus
    obtain ⟨b1, b2, b3⟩ := St_begin L h20 1 hi hz hf
    by_cases c : byteAt L 1 = 48
    · have e : nextS 1 (byteAt L 1) = 2 := by simp [nextS, c]
      rw [e]; exact ⟨fun h => by omega, fun _ => ⟨0, b1 c⟩⟩
    · cases hd : isDig (byteAt L 1) with
      | true =>
        have e : nextS 1 (byteAt L 1) = 3 := by simp [nextS, c, hd]
        rw [e]; exact ⟨fun h => by omega, fun _ => b2 c hd⟩
      | false =>
        have e : nextS 1 (byteAt L 1) = 7 := by simp [nextS, c, hd]
        rw [e]; exact ⟨fun _ => b3 hd, fun h => absurd rfl h⟩
  · -- a 0
    by_cases c : byteAt L (zOf L + 1) = 46
    · have e : nextS 2 (byteAt L (zOf L + 1)) = 4 := by simp [nextS, c]
      rw [e]
      refine ⟨fun h => by omega, fun _ => ⟨0, ?_, Int.le_refl _, .inr (.inr (.inr (.inr (.inl ⟨rfl, 1, rfl, Nat.le_refl _, hK, hi, c, by rw [hcv]; rfl, Int.le_refl _, fun _ => ⟨rfl, h48⟩⟩))))⟩⟩
      rw [foldV_no L _ (by rw [c]; rfl)]; exact hf
    · have e : nextS 2 (byteAt L (zOf L + 1)) = 7 := by simp [nextS, c]
      rw [e]
      refine ⟨fun _ => ?_, fun h => absurd rfl h⟩
      rw [parseM_at L h20 1 hK, if_pos (.inr (.inr c))]
  · -- whole digits
    have hgm : goOn L (zOf L) m = isDig (byteAt L (zOf L + m)) := by
      unfold goOn; rw [dig_at L _ hi, decide_eq_false (by omega), decide_eq_true h48]; simp
    by_cases c : byteAt L (zOf L + m) = 46
    · have e : nextS 3 (byteAt L (zOf L + m)) = 4 := by simp [nextS, c]
      rw [e]
      have hK := intLen_at L _ m hg (by rw [hgm, c]; rfl) hml
      refine ⟨fun h => by omega, fun _ => ⟨X, ?_, hX, .inr (.inr (.inr (.inr (.inl ⟨rfl, m, rfl, hm, hK, hi, c, hcv, hX, fun h => by omega⟩))))⟩⟩
      rw [foldV_no L _ (by rw [c]; rfl)]; exact hf
    · cases hd : isDig (byteAt L (zOf L + m)) with
      | true =>
        have e : nextS 3 (byteAt L (zOf L + m)) = 3 := by simp [nextS, c, hd]
        rw [e]
        obtain ⟨b0, b1⟩ := isDig_bd hd
        refine ⟨fun h => by omega, fun _ => ⟨10 * X + ((byteAt L (zOf L + m) : Int) - 48), foldV_dig L _ X hf hX hd, by omega, .inr (.inr (.inr (.inl ⟨rfl, m + 1, by omega, rfl, by omega, fun j hj => ?_, h48, by omega, ?_⟩)))⟩⟩
        · by_cases hj2 : j = m
          · rw [hj2, hgm]; exact hd
          · exact hg j (by omega)
        · rw [capVal, hcv]; omega
      | false =>
        have e : nextS 3 (byteAt L (zOf L + m)) = 7 := by simp [nextS, c, hd]
        rw [e]
        have hK := intLen_at L _ m hg (by rw [hgm]; exact hd) hml
        refine ⟨fun _ => ?_, fun h => absurd rfl h⟩
        rw [parseM_at L h20 m hK, if_pos (.inr (.inr c))]
  · -- the point
    cases hd : isDig (byteAt L (zOf L + K + 1)) with
    | true =>
      have e : nextS 4 (byteAt L (zOf L + K + 1)) = 5 := by simp [nextS, hd]
      rw [e]
      obtain ⟨b0, b1⟩ := isDig_bd hd
      exact ⟨fun h => by omega, fun _ => ⟨_, foldV_dig L _ X hf hX hd, by omega, .inr (.inr (.inr (.inr (.inr (.inl ⟨rfl, K, X, rfl, hp, by rw [dig_at L _ hi]; exact hd, rfl⟩)))))⟩⟩
    | false =>
      have e : nextS 4 (byteAt L (zOf L + K + 1)) = 7 := by simp [nextS, hd]
      rw [e]
      refine ⟨fun _ => ?_, fun h => absurd rfl h⟩
      rw [parseM_pt L h20 K X hp]; unfold tailM
      rw [if_pos (by rw [dig_at L _ hi]; exact hd)]
  · -- one digit behind it
    cases hd : isDig (byteAt L (zOf L + K + 2)) with
    | true =>
      have e : nextS 5 (byteAt L (zOf L + K + 2)) = 6 := by simp [nextS, hd]
      rw [e]
      obtain ⟨b0, b1⟩ := isDig_bd hd
      exact ⟨fun h => by omega, fun _ => ⟨_, foldV_dig L _ _ hf hX hd, by omega, .inr (.inr (.inr (.inr (.inr (.inr ⟨rfl, K, X0, rfl, hp, hd1, by rw [dig_at L _ hi]; exact hd, rfl⟩)))))⟩⟩
    | false =>
      have e : nextS 5 (byteAt L (zOf L + K + 2)) = 7 := by simp [nextS, hd]
      rw [e]
      refine ⟨fun _ => ?_, fun h => absurd rfl h⟩
      rw [parseM_pt L h20 K X0 hp]; unfold tailM
      rw [if_neg (by rw [hd1]; simp), if_pos (by rw [dig_at L _ hi]; exact hd)]
  · -- complete
    have e : nextS 6 (byteAt L (zOf L + K + 3)) = 7 := by simp [nextS]
    rw [e]
    refine ⟨fun _ => ?_, fun h => absurd rfl h⟩
    rw [parseM_pt L h20 K X0 hp]; unfold tailM
    rw [if_neg (by rw [hd1]; simp), if_neg (by rw [hd2]; simp), if_pos hi]

/-- The state along the text. -/
theorem St_run (L : List UInt8) (h20 : ¬ 20 < L.length) : ∀ i, i ≤ scanAt L → ∃ X, St L i (runS L i) X
  | 0, _ => ⟨0, rfl, Int.le_refl _, .inl ⟨rfl, rfl, rfl⟩⟩
  | i + 1, hi => by
    obtain ⟨X, h⟩ := St_run L h20 i (by omega)
    obtain ⟨s1, s2, s3⟩ := scanAt_spec L
    have hg := s1 i (by omega)
    unfold goS at hg; simp at hg
    exact (St_step L h20 i _ X h hg.1).2 hg.2

theorem lits (L : List UInt8) (hl : L.length = 5) (h0 : byteAt L 0 = 45) (h1 : byteAt L 1 = 48) (h2 : byteAt L 2 = 46) (h3 : byteAt L 3 = 48) (h4 : byteAt L 4 = 48) : L = [45, 48, 46, 48, 48] := by
  rcases L with _ | ⟨a, _ | ⟨b, _ | ⟨c, _ | ⟨d, _ | ⟨e, _ | ⟨f, L⟩⟩⟩⟩⟩⟩ <;> simp at hl
  simp [byteAt] at h0 h1 h2 h3 h4
  have f : ∀ (x : UInt8) (n : Nat), x.toNat = n → x = UInt8.ofNat n := fun x n h => by rw [← h]; simp
  rw [f a _ h0, f b _ h1, f c _ h2, f d _ h3, f e _ h4]; rfl

theorem parse_same (L : List UInt8) : parseS L = parseM L := by
  unfold parseS
  by_cases h20 : 20 < L.length
  · rw [if_pos h20]; unfold parseM; rw [if_pos h20]
  rw [if_neg h20]
  obtain ⟨s1, s2, s3⟩ := scanAt_spec L
  obtain ⟨X, h⟩ := St_run L h20 _ (Nat.le_refl _)
  by_cases hl : scanAt L < L.length
  · rw [if_pos (.inl hl)]
    have h7 : runS L (scanAt L + 1) = 7 := by unfold goS at s2; simpa [hl] using s2
    exact ((St_step L h20 _ _ X h hl).1 h7).symm
  · have hK : scanAt L = L.length := by omega
    rw [hK] at h
    have hz := zOf_cases L
    have out : ∀ i, L.length ≤ i → digAt L i = false := fun i hi => digAt_out L i hi
    by_cases h6 : runS L L.length = 6
    · rw [if_neg (by omega)]
      rw [h6] at h
      obtain ⟨hf, hX, h⟩ := h
      rcases h with ⟨h, _⟩ | ⟨h, _⟩ | ⟨h, _⟩ | ⟨h, _⟩ | ⟨h, _⟩ | ⟨h, _⟩ | ⟨_, K, X0, hlen, hp, hd1, hd2, hXe⟩ <;> try (exfalso; omega)
      rw [parseM_pt L h20 K X0 hp]
      obtain ⟨_, a1, a2⟩ := dig_bd L _ hd1
      obtain ⟨_, b1, b2⟩ := dig_bd L _ hd2
      have hcp := hp
      obtain ⟨k1, k2, k3, k4, k5, k6, k7⟩ := hp
      obtain ⟨v, hv⟩ : ∃ v, v = 10 * (10 * min X0 1125899906842624 + ((byteAt L (zOf L + K + 1) : Int) - 48)) + ((byteAt L (zOf L + K + 2) : Int) - 48) := ⟨_, rfl⟩
      have ht : tailM L (zOf L + K) (zOf L) (min X0 1125899906842624) = if 1099511627775 < v ∨ (zOf L = 1 ∧ v = 0) then (0, 5, 0) else (if zOf L = 1 then -v else v, 0, 0) := by
        unfold tailM
        rw [if_neg (by rw [hd1]; simp), if_neg (by rw [hd2]; simp), if_neg (by omega), ← hv]
      rw [ht]
      have hval : valS L = if zOf L = 1 then - foldV L L.length else foldV L L.length := by
        unfold valS
        rcases hz with ⟨e, _, e45⟩ | ⟨e, e45⟩
        · rw [if_pos e45, if_pos e]
        · rw [if_neg (fun h => e45 ⟨by omega, h⟩), if_neg (by omega)]
      have hlit : L = [45, 48, 46, 48, 48] → zOf L = 1 ∧ v = 0 := by
        intro hL
        have hz1 : zOf L = 1 := by rw [hL]; rfl
        have hK1 : K = 1 := by have : L.length = 5 := by rw [hL]; rfl
                               omega
        rw [hz1, hK1] at k5 hv
        have c1 : capVal L 1 1 = 0 := by rw [hL]; rfl
        have c2 : byteAt L (1 + 1 + 1) = 48 := by rw [hL]; rfl
        have c3 : byteAt L (1 + 1 + 2) = 48 := by rw [hL]; rfl
        rw [c1] at k5
        rw [c2, c3] at hv
        exact ⟨hz1, by omega⟩
      have hlit2 : zOf L = 1 → v = 0 → L = [45, 48, 46, 48, 48] := by
        intro hz1 hv0
        have hX0 : X0 = 0 := by omega
        obtain ⟨hK1, h48⟩ := k7 hX0
        rw [hz1, hK1] at hlen k4 hv a1 b1
        rw [hz1] at h48
        have h45 : byteAt L 0 = 45 := by rcases hz with h | h; exact h.2.2; omega
        have e3 : byteAt L (1 + 1 + 1) = 48 := by omega
        have e4 : byteAt L (1 + 1 + 2) = 48 := by omega
        exact lits L (by omega) h45 h48 k4 e3 e4
      by_cases hbig : 1099511627775 < X
      · rw [if_pos (.inl (by
          rw [hval, hf]
          unfold amtErr
          split
          · rw [if_neg (by omega)]; decide
          · rw [if_neg (by omega)]; decide)), if_pos (.inl (by omega))]
      · have hvX : v = X := by omega
        have hfv : foldV L L.length = v := by rw [hf]; omega
        by_cases hm : zOf L = 1 ∧ v = 0
        · rw [if_pos (.inr (hlit2 hm.1 hm.2)), if_pos (.inr hm)]
        · have ha : amtErr (valS L) = 0 := by
            rw [hval, hfv]
            unfold amtErr
            split
            · exact if_pos ⟨by omega, by omega⟩
            · exact if_pos ⟨by omega, by omega⟩
          rw [if_neg (fun h => by rcases h with h | h; exact h ha; exact hm (hlit h)), if_neg (fun h => by rcases h with h | h; omega; exact hm h), hval, hfv]
    · rw [if_pos (.inr h6), hK]
      obtain ⟨hf, hX, h⟩ := h
      symm
      rcases h with ⟨hs, hi, hx⟩ | ⟨hs, hi, hz1, hx⟩ | ⟨hs, hi, hK1, h48, hx, hcv⟩ | ⟨hs, m, hm, hi, hml, hg, h48, hX1, hcv⟩ | ⟨hs, K, hi, hp⟩ | ⟨hs, K, X0, hi, hp, hd1, hx⟩ | ⟨hs, _⟩
      · have hz0 : zOf L = 0 := by rcases hz with h | h; omega; exact h.1
        rw [parseM_at L h20 0 (intLen_at L _ 0 (fun j hj => by omega) (by unfold goOn; rw [out _ (by omega)]; rfl) (Nat.zero_le _)), if_pos (.inl rfl), hz0, hi]
      · rw [parseM_at L h20 0 (intLen_at L _ 0 (fun j hj => by omega) (by unfold goOn; rw [out _ (by omega)]; rfl) (Nat.zero_le _)), if_pos (.inl rfl), hz1, hi]
      · rw [parseM_at L h20 1 hK1, if_pos (.inr (.inl (by omega))), ← hi]
      · rw [parseM_at L h20 m (intLen_at L _ m hg (by unfold goOn; rw [out _ (by omega)]; rfl) hml), if_pos (.inr (.inl (by omega))), ← hi]
      · rw [parseM_pt L h20 K X hp]; unfold tailM
        rw [if_pos (out _ (by omega)), ← hi]
      · rw [parseM_pt L h20 K X0 hp]; unfold tailM
        rw [if_neg (by rw [hd1]; simp), if_pos (out _ (by omega)), ← hi]
      · exact absurd hs h6
end Go.Proofs.YtgnmoneiiogoaaaDoor

/- Decimal texts of amounts: what is written is read as it was, and what is read is written as it was. Mathematics alone. -/
import Derived.Test.YtgnmoneiiogoaaaDoorMonA
import Derived.Test.YtgnmoneiiogoaaaDoorMonB
namespace Go.Proofs.YtgnmoneiiogoaaaDoor
set_option linter.unusedVariables false
set_option linter.unusedSimpArgs false
open Go.RowKit

theorem snoc_ind {α : Type} {Q : List α → Prop} (h0 : Q []) (h1 : ∀ l a, Q l → Q (l ++ [a])) (l : List α) : Q l := by
  rw [← List.reverse_reverse l]
  generalize l.reverse = r
  induction r with
  | nil => exact h0
  | cons a r ih => rw [List.reverse_cons]; exact h1 _ _ ih

/-- What digits come to. -/
def val (ds : List UInt8) : Nat := ds.foldl (fun a b => 10 * a + (b.toNat - 48)) 0
theorem val_snoc (ds : List UInt8) (d : UInt8) : val (ds ++ [d]) = 10 * val ds + (d.toNat - 48) := by unfold val; rw [List.foldl_append]; rfl
def Dig (d : UInt8) : Prop := 48 ≤ d.toNat ∧ d.toNat ≤ 57
theorem dig_ofNat (k : Nat) (h : k < 10) : Dig (UInt8.ofNat (48 + k)) ∧ (UInt8.ofNat (48 + k)).toNat = 48 + k := by
  have : (UInt8.ofNat (48 + k)).toNat = 48 + k := by simp [UInt8.toNat_ofNat']; omega
  exact ⟨⟨by omega, by omega⟩, this⟩
theorem ofNat_dig (d : UInt8) (h : Dig d) : UInt8.ofNat (48 + (d.toNat - 48)) = d := by
  rw [show 48 + (d.toNat - 48) = d.toNat by have := h.1; omega]; simp

/-- Digits as a number's: no 0 ahead. -/
structure Canon10 (ds : List UInt8) : Prop where
  some : ds ≠ []
  dig : ∀ d ∈ ds, Dig d
  head : ds.length = 1 ∨ (ds.getD 0 0).toNat ≠ 48

theorem val_pos : ∀ (ds : List UInt8), ds ≠ [] → (∀ d ∈ ds, Dig d) → (ds.getD 0 0).toNat ≠ 48 → 0 < val ds := by
  refine snoc_ind (fun h => absurd rfl h) ?_
  · intro ds d ih _ hd hh
    rw [val_snoc]
    by_cases h0 : ds = []
    · subst h0
      have := hd d (by simp)
      simp at hh
      have := this.1
      omega
    · have h1 : (ds ++ [d]).getD 0 0 = ds.getD 0 0 := by
        cases ds with
        | nil => exact absurd rfl h0
        | cons a l => rfl
      rw [h1] at hh
      have := ih h0 (fun x hx => hd x (by simp [hx])) hh
      omega

theorem dec_val : ∀ (ds : List UInt8), Canon10 ds → Lib.decDigits (val ds) = ds := by
  refine snoc_ind (fun h => absurd rfl h.some) ?_
  · intro ds d ih h
    have hd := h.dig d (by simp)
    rw [val_snoc]
    have h1 := hd.1; have h2 := hd.2
    by_cases h0 : ds = []
    · subst h0
      rw [show val [] = 0 from rfl, dec_lt10 _ (by omega), show 10 * 0 + (d.toNat - 48) = d.toNat - 48 by omega, ofNat_dig d hd]; rfl
    · have hh : (ds.getD 0 0).toNat ≠ 48 := by
        rcases h.head with hl | hh
        · have := List.length_pos_iff.2 h0
          rw [List.length_append, List.length_singleton] at hl; omega
        · cases ds with
          | nil => exact absurd rfl h0
          | cons a l => exact hh
      have hdg : ∀ x ∈ ds, Dig x := fun x hx => h.dig x (by simp [hx])
      have hp := val_pos ds h0 hdg hh
      rw [Lib.decDigits, dif_neg (by omega), show (10 * val ds + (d.toNat - 48)) / 10 = val ds by omega, show (10 * val ds + (d.toNat - 48)) % 10 = d.toNat - 48 by omega, ofNat_dig d hd, ih ⟨h0, hdg, .inr hh⟩]

theorem canon_dec (u : Nat) : Canon10 (Lib.decDigits u) ∧ val (Lib.decDigits u) = u ∧ (0 < u → ((Lib.decDigits u).getD 0 0).toNat ≠ 48) := by
  induction u using Nat.strongRecOn with
  | ind u ih =>
    by_cases h : u < 10
    · rw [dec_lt10 u h]
      obtain ⟨h1, h2⟩ := dig_ofNat u h
      refine ⟨⟨by simp, by simpa using h1, .inl rfl⟩, ?_, fun h0 => ?_⟩
      · show 10 * 0 + ((UInt8.ofNat (48 + u)).toNat - 48) = u
        rw [h2]; omega
      · show (UInt8.ofNat (48 + u)).toNat ≠ 48
        rw [h2]; omega
    · obtain ⟨c, hv, hh⟩ := ih (u / 10) (by omega)
      obtain ⟨h1, h2⟩ := dig_ofNat (u % 10) (by omega)
      have hh' := hh (by omega)
      rw [Lib.decDigits, dif_neg h]
      have hg : ((Lib.decDigits (u / 10)) ++ [UInt8.ofNat (48 + u % 10)]).getD 0 0 = (Lib.decDigits (u / 10)).getD 0 0 := by
        have := c.some
        cases hd : Lib.decDigits (u / 10) with
        | nil => exact absurd hd this
        | cons a l => rfl
      refine ⟨⟨by simp, ?_, .inr (by rw [hg]; exact hh')⟩, ?_, fun _ => by rw [hg]; exact hh'⟩
      · intro d hd
        rcases List.mem_append.1 hd with hd | hd
        · exact c.dig d hd
        · obtain rfl : d = UInt8.ofNat (48 + u % 10) := by simpa using hd
          exact h1
      · rw [val_snoc, hv, h2]; omega

theorem byteAt_get (L : List UInt8) (i : Nat) (h : i < L.length) : byteAt L i = L[i].toNat := by
  unfold byteAt; simp [List.getD_eq_getElem?_getD, h]

theorem take_drop_succ (L : List UInt8) (z m : Nat) (h : z + m < L.length) : (L.drop z).take (m + 1) = (L.drop z).take m ++ [L[z + m]] := by
  rw [List.take_succ_eq_append_getElem (by simp; omega)]
  simp

theorem capVal_min (L : List UInt8) (z m : Nat) (hd : ∀ j, j < m → digAt L (z + j) = true) : capVal L z m = min (val ((L.drop z).take m) : Int) 1125899906842624 := by
  induction m with
  | zero => rfl
  | succ m ih =>
    obtain ⟨h1, h2, h3⟩ := dig_bd L _ (hd m (by omega))
    rw [capVal, ih (fun j hj => hd j (by omega)), take_drop_succ L z m h1, val_snoc]
    rw [byteAt_get L _ h1] at *
    omega

theorem drop_three (L : List UInt8) (p : Nat) (h : L.length = p + 3) : L.drop p = [L.getD p 0, L.getD (p + 1) 0, L.getD (p + 2) 0] := by
  rw [List.drop_eq_getElem_cons (by omega), List.drop_eq_getElem_cons (by omega), List.drop_eq_getElem_cons (by omega), List.drop_of_length_le (by omega)]
  simp [List.getD_eq_getElem?_getD, show p < L.length by omega, show p + 1 < L.length by omega, show p + 2 < L.length by omega]

theorem cents_of (x y : UInt8) (hx : Dig x) (hy : Dig y) (c : Nat) (hc : c = 10 * (x.toNat - 48) + (y.toNat - 48)) : cents2 c = [x, y] := by
  have h1 := hx.1; have h2 := hx.2; have h3 := hy.1; have h4 := hy.2
  unfold cents2
  rw [show c / 10 = x.toNat - 48 by omega, show c % 10 = y.toNat - 48 by omega, ofNat_dig x hx, ofNat_dig y hy]

theorem digAt_iff (L : List UInt8) (i : Nat) (h : i < L.length) : digAt L i = true ↔ Dig L[i] := by
  unfold digAt Dig
  rw [byteAt_get L i h]
  simp [h]

/-- What is read is written as it was. -/
theorem parse_text (L : List UInt8) (n a : Int) (h : parseM L = (n, 0, a)) : a = 0 ∧ -1099511627775 ≤ n ∧ n ≤ 1099511627775 ∧ amtText n = L := by
  unfold parseM at h
  by_cases h20 : 20 < L.length
  · rw [if_pos h20] at h; injection h with _ h; injection h with h; omega
  rw [if_neg h20] at h
  obtain ⟨z, hz⟩ : ∃ z, z = if 0 < L.length ∧ byteAt L 0 = 45 then 1 else 0 := ⟨_, rfl⟩
  rw [← hz] at h
  simp only at h
  obtain ⟨ks, kb, kl⟩ := intLen_spec L z
  obtain ⟨K, hK⟩ : ∃ K, K = intLen L z := ⟨_, rfl⟩
  rw [← hK] at h ks kb kl
  by_cases hbad : K = 0 ∨ L.length ≤ z + K ∨ byteAt L (z + K) ≠ 46
  · rw [if_pos hbad] at h; injection h with _ h; injection h with h; omega
  rw [if_neg hbad] at h
  unfold tailM at h
  by_cases hd1 : digAt L (z + K + 1) = false
  · rw [if_pos hd1] at h; injection h with _ h; injection h with h; omega
  rw [if_neg hd1] at h
  by_cases hd2 : digAt L (z + K + 2) = false
  · rw [if_pos hd2] at h; injection h with _ h; injection h with h; omega
  rw [if_neg hd2] at h
  by_cases hl : z + K + 3 < L.length
  · rw [if_pos hl] at h; injection h with _ h; injection h with h; omega
  rw [if_neg hl] at h
  have hd1 : digAt L (z + K + 1) = true := by simpa using hd1
  have hd2 : digAt L (z + K + 2) = true := by simpa using hd2
  obtain ⟨x1, x2, x3⟩ := dig_bd L _ hd1
  obtain ⟨y1, y2, y3⟩ := dig_bd L _ hd2
  have hlen : L.length = z + K + 3 := by omega
  have hdig : ∀ j, j < K → digAt L (z + j) = true := fun j hj => by
    have := ks j hj; unfold goOn at this; simp at this; exact this.1
  rw [capVal_min L z K hdig] at h
  obtain ⟨D, hD⟩ : ∃ D, D = (L.drop z).take K := ⟨_, rfl⟩
  rw [← hD] at h
  have hDl : D.length = K := by rw [hD]; simp; omega
  have hDg : ∀ j, j < K → D.getD j 0 = L.getD (z + j) 0 := fun j hj => by rw [hD]; simp [List.getD_eq_getElem?_getD, List.getElem?_take_of_lt hj]
  have hcan : Canon10 D := by
    refine ⟨fun e => by rw [e] at hDl; simp at hDl; omega, fun d hd => ?_, ?_⟩
    · obtain ⟨j, hj, rfl⟩ := List.mem_iff_getElem.1 hd
      have hjk : j < K := by omega
      have := (digAt_iff L (z + j) (by omega)).1 (hdig j hjk)
      have e : D[j] = L[z + j] := by simp [hD]
      rw [e]; exact this
    · by_cases hk1 : K = 1
      · exact .inl (by omega)
      · refine .inr ?_
        rw [hDg 0 (by omega)]
        have := ks 1 (by omega)
        unfold goOn at this; simp at this
        exact this.2
  have hN := dec_val D hcan
  obtain ⟨N, hNe⟩ : ∃ N, N = val D := ⟨_, rfl⟩
  rw [← hNe] at h hN
  by_cases hbig : 1099511627775 < 10 * (10 * min (N : Int) 1125899906842624 + ((byteAt L (z + K + 1) : Int) - 48)) + ((byteAt L (z + K + 2) : Int) - 48) ∨ z = 1 ∧ 10 * (10 * min (N : Int) 1125899906842624 + ((byteAt L (z + K + 1) : Int) - 48)) + ((byteAt L (z + K + 2) : Int) - 48) = 0
  · rw [if_pos hbig] at h; injection h with _ h; injection h with h; omega
  rw [if_neg hbig] at h
  injection h with hn h
  injection h with _ ha
  have hx : Dig L[z + K + 1] := (digAt_iff L _ x1).1 hd1
  have hy : Dig L[z + K + 2] := (digAt_iff L _ y1).1 hd2
  rw [byteAt_get L _ x1] at *
  rw [byteAt_get L _ y1] at *
  have hdrop := drop_three L (z + K) hlen
  have hsplit : L = L.take z ++ (D ++ L.drop (z + K)) := by
    rw [hD, ← List.drop_drop, List.take_append_drop, List.take_append_drop]
  have hc46 : L.getD (z + K) 0 = 46 := by
    have : byteAt L (z + K) = 46 := by omega
    unfold byteAt at this
    have e : (L.getD (z + K) 0).toNat = (46 : UInt8).toNat := this
    exact UInt8.toNat_inj.1 e
  have hgx : L.getD (z + K + 1) 0 = L[z + K + 1] := by simp [List.getD_eq_getElem?_getD, x1]
  have hgy : L.getD (z + K + 2) 0 = L[z + K + 2] := by simp [List.getD_eq_getElem?_getD, y1]
  rw [hc46, hgx, hgy] at hdrop
  rw [hdrop] at hsplit
  generalize L[z + K + 1] = x at *
  generalize L[z + K + 2] = y at *
  obtain ⟨X1, X2⟩ := hx
  obtain ⟨Y1, Y2⟩ := hy
  obtain ⟨V, hV⟩ : ∃ V : Nat, V = 100 * N + (10 * (x.toNat - 48) + (y.toNat - 48)) := ⟨_, rfl⟩
  have hVi : 10 * (10 * min (N : Int) 1125899906842624 + ((x.toNat : Int) - 48)) + ((y.toNat : Int) - 48) = V := by omega
  rw [hVi] at hn hbig
  have e1 : V / 100 = N := by omega
  have e2 : V % 100 = 10 * (x.toNat - 48) + (y.toNat - 48) := by omega
  have hce := cents_of x y ⟨X1, X2⟩ ⟨Y1, Y2⟩ (V % 100) e2
  have hab : n.natAbs = V := by rw [← hn]; split <;> omega
  refine ⟨ha.symm, by rw [← hn]; split <;> omega, by rw [← hn]; split <;> omega, ?_⟩
  unfold amtText
  rw [hab, e1, hN, hce]
  by_cases hz1 : 0 < L.length ∧ byteAt L 0 = 45
  · rw [if_pos hz1] at hz
    subst hz
    have hneg : n < 0 := by rw [← hn, if_pos rfl]; omega
    have ht : L.take 1 = [45] := by
      cases L with
      | nil => simp at hlen
      | cons b l =>
        have e : b.toNat = (45 : UInt8).toNat := hz1.2
        simp [UInt8.toNat_inj.1 e]
    rw [if_pos hneg]
    conv => rhs; rw [hsplit]
    rw [ht]; simp
  · rw [if_neg hz1] at hz
    subst hz
    have hneg : ¬ n < 0 := by rw [← hn, if_neg (by omega)]; omega
    rw [if_neg hneg]
    conv => rhs; rw [hsplit]
    simp

theorem firstStop_at (c : Nat → Bool) (f m K : Nat) (h1 : ∀ j, m ≤ j → j < K → c j = true) (h2 : c K = false) (hm : m ≤ K) (hf : K < m + f) : firstStop c f m = K := by
  obtain ⟨a, b, d, e⟩ := firstStop_spec c f m ⟨K, hm, hf, h2⟩
  rcases Nat.lt_trichotomy (firstStop c f m) K with h | h | h
  · rw [h1 _ d h] at b; cases b
  · exact h
  · rw [a K hm h] at h2; cases h2

/-- What is written is read as it was. -/
theorem text_parse (v : Int) (h0 : -1099511627775 ≤ v) (h1 : v ≤ 1099511627775) : parseM (amtText v) = (v, 0, 0) := by
  obtain ⟨V, hV⟩ : ∃ V, V = v.natAbs := ⟨_, rfl⟩
  obtain ⟨hcan, hval, hhead⟩ := canon_dec (V / 100)
  obtain ⟨D, hD⟩ : ∃ D, D = Lib.decDigits (V / 100) := ⟨_, rfl⟩
  have hDl : D.length ≤ 12 := by rw [hD]; exact dec_len _ 12 (by omega) (by omega)
  rw [← hD] at hcan hval hhead
  obtain ⟨x, y, hxy, -⟩ := dec_get (V % 100) (by omega)
  have hdx : Dig x ∧ Dig y ∧ V % 100 = 10 * (x.toNat - 48) + (y.toNat - 48) := by
    unfold cents2 at hxy
    injection hxy with e1 e2
    injection e2 with e2
    obtain ⟨a1, a2⟩ := dig_ofNat (V % 100 / 10) (by omega)
    obtain ⟨b1, b2⟩ := dig_ofNat (V % 100 % 10) (by omega)
    rw [← e1, ← e2]
    exact ⟨a1, b1, by rw [a2, b2]; omega⟩
  obtain ⟨hx, hy, hc⟩ := hdx
  obtain ⟨S, z, hS, hz⟩ : ∃ (S : List UInt8) (z : Nat), S = (if v < 0 then [45] else []) ∧ S.length = z := ⟨_, _, rfl, rfl⟩
  have hL : amtText v = S ++ (D ++ [46, x, y]) := by unfold amtText; rw [← hV, ← hD, hxy, ← hS]; simp
  rw [hL]
  obtain ⟨L, hLe⟩ : ∃ L, L = S ++ (D ++ [46, x, y]) := ⟨_, rfl⟩
  rw [← hLe]
  obtain ⟨K, hK⟩ : ∃ K, K = D.length := ⟨_, rfl⟩
  have hK0 : 0 < K := by rw [hK]; exact List.length_pos_iff.2 hcan.some
  have hlen : L.length = z + K + 3 := by rw [hLe, hK, ← hz]; simp; omega
  have hgetD : ∀ j, j < K → byteAt L (z + j) = (D.getD j 0).toNat := fun j hj => by
    unfold byteAt
    rw [hLe, ← hz]
    simp only [List.getD_eq_getElem?_getD]
    rw [List.getElem?_append_right (by omega), show S.length + j - S.length = j by omega, List.getElem?_append_left (by omega)]
  have hdigD : ∀ j, j < K → Dig (D.getD j 0) := fun j hj => by
    have : D.getD j 0 = D[j]'(by omega) := by simp [List.getD_eq_getElem?_getD, show j < D.length by omega]
    rw [this]; exact hcan.dig _ (List.getElem_mem _)
  have hend : ∀ i, L.getD (z + K + i) 0 = [46, x, y].getD i 0 := fun i => by
    rw [hLe, ← hz, hK]
    simp only [List.getD_eq_getElem?_getD]
    rw [List.getElem?_append_right (by omega), List.getElem?_append_right (by omega), show S.length + D.length + i - S.length - D.length = i by omega]
  have b0 : byteAt L (z + K) = 46 := by unfold byteAt; rw [show z + K = z + K + 0 from rfl, hend 0]; rfl
  have b1 : byteAt L (z + K + 1) = x.toNat := by unfold byteAt; rw [hend 1]; rfl
  have b2 : byteAt L (z + K + 2) = y.toNat := by unfold byteAt; rw [hend 2]; rfl
  have hdig : ∀ j, j < K → digAt L (z + j) = true := fun j hj => by
    have := hdigD j hj
    unfold digAt; rw [hgetD j hj]; simp; exact ⟨by omega, this.1, this.2⟩
  have hzz : (if 0 < L.length ∧ byteAt L 0 = 45 then 1 else 0) = z := by
    by_cases hv : v < 0
    · rw [if_pos hv] at hS
      subst hS
      have : byteAt L 0 = 45 := by rw [hLe]; rfl
      rw [if_pos ⟨by omega, this⟩]; exact hz
    · rw [if_neg hv] at hS
      subst hS
      have h := hgetD 0 hK0
      have h2 := hdigD 0 hK0
      have hz0 : z = 0 := hz.symm
      subst hz0
      rw [if_neg]
      rintro ⟨_, h3⟩
      have := h2.1
      rw [Nat.zero_add] at h
      omega
  have hint : intLen L z = K := by
    refine firstStop_at _ _ _ _ (fun j _ hj => ?_) ?_ (Nat.zero_le _) (by omega)
    · unfold goOn
      rw [hdig j hj]
      by_cases hj0 : j = 0
      · simp [hj0]
      · have h48 : byteAt L z ≠ 48 := by
          have := hgetD 0 hK0
          rw [Nat.add_zero] at this
          rw [this]
          rcases hcan.head with hl | hh
          · omega
          · exact hh
        simp [h48]
    · unfold goOn digAt; rw [b0]; simp
  have hcap : capVal L z K = (V / 100 : Nat) := by
    rw [capVal_min L z K hdig]
    have : (L.drop z).take K = D := by rw [hLe, ← hz, hK]; simp
    rw [this, hval]; omega
  have hX := hx.1; have hX2 := hx.2; have hY := hy.1; have hY2 := hy.2
  have d1 : digAt L (z + K + 1) = true := by unfold digAt; rw [b1]; simp; exact ⟨by omega, hX, hX2⟩
  have d2 : digAt L (z + K + 2) = true := by unfold digAt; rw [b2]; simp; exact ⟨by omega, hY, hY2⟩
  have hzb : z ≤ 1 := by rw [← hzz]; split <;> omega
  unfold parseM
  rw [if_neg (by omega), hzz]
  simp only
  rw [hint, if_neg (by omega), hcap]
  unfold tailM
  rw [if_neg (by rw [d1]; simp), if_neg (by rw [d2]; simp), if_neg (by omega), b1, b2]
  have hVi : 10 * (10 * ((V / 100 : Nat) : Int) + ((x.toNat : Int) - 48)) + ((y.toNat : Int) - 48) = V := by omega
  rw [hVi]
  have hzv : z = 1 ↔ v < 0 := by
    by_cases hv : v < 0
    · rw [if_pos hv] at hS; subst hS; rw [← hz]; simp [hv]
    · rw [if_neg hv] at hS; subst hS; rw [← hz]; simp [hv]
  rw [if_neg (by omega)]
  by_cases hv : v < 0
  · rw [if_pos (hzv.2 hv)]; congr 1; omega
  · rw [if_neg (fun h => hv (hzv.1 h))]; congr 1; omega
end Go.Proofs.YtgnmoneiiogoaaaDoor

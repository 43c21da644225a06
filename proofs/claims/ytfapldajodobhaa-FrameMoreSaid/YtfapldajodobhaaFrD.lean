/- Contract of frame's (table).split. -/
import Derived.Test.YtfapldajodobhaaFrC
import Derived.Test.YtfapldajodobhaaQTail
namespace Go.Proofs.Ytfapldajodobhaa
set_option linter.unusedVariables false
set_option linter.unusedSimpArgs false
open Go.RowKit

theorem wp_rq6 {P : Program} {C : World → Prop} {id : Nat} {Q : Exit → Act → World → Prop} {a : Act} {w : World} {l : List Oper} (hm : P.follows .mixedOrders = true) (hB : Region.lexB .any l.toArray = true) (hC : C { w with drawn := w.drawn + 1 })
    (h : wpQuiet P l.toArray C (fun a' => ∀ w', C w' → Q .normal a' w') l a) : (Code.region id l.toArray true).wp P Q a w :=
  wp_region_quiet (C := C) hm hB hC (by simpa using h)

/-- A value that is bytes that came in. -/
def SlIn (w : World) (v : Value) (L : List UInt8) : Prop := ∃ a len cap, v = .slice a len cap ∧ BIn w a len L cap
def SplitRes (w u : World) (L : List UInt8) (e : Ending) (w' : World) : Prop :=
  (∃ v1 v2 f, e = .returned (.tuple #[v1, v2, .bool f]) ∧ ((f = false ∧ splitF L = none) ∨ (f = true ∧ ∃ R T, splitF L = some (R, T) ∧ SlIn u v1 R ∧ SlIn u v2 T))) ∧ Junk w w'

set_option maxRecDepth 100000 in
set_option maxHeartbeats 2000000 in
theorem n_split (w u : World) (a : Option Addr) (len cap : Nat) (L : List UInt8) (h : BIn w a len L cap) (hu : BIn u a len L cap) :
    Calls Try.prog 37 #[tabV, .slice a len cap] w (SplitRes w u L) := by
  have hL := h.reads.1
  unfold tabV
  have HC := Lib.hid (size_trow (tabF 256) 256)
  have HV := Lib.hid (show tabV = .agg (trow (tabF 256) 256) from rfl)
  generalize trow (tabF 256) 256 = C at *
  have HT := Lib.hid (fun w' (h : BIn w' a len L cap) => n_isTorn w' a len cap L h)
  have HE := Lib.hid (fun w' (h : BIn w' a len L cap) h8 => n_recordEnd w' a len cap L h h8)
  have HB := Lib.hid h
  have HU := Lib.hid hu
  by_cases ht : tornF L = true
  · have HS := Lib.hid (show splitF L = none by unfold splitF; rw [if_pos ht])
    rw [ht] at HT
    clear h hu ht
    go_enter Try.func37, Try.ntmps37
    go_wp2_with fail
    refine (HT.out _ (HB.out.below (by (repeat' (first | (with_reducible exact Below.refl _ _) | (with_reducible assumption) | (with_reducible refine Below.alloc ?_ ?_ _) | (with_reducible refine Below.drew ?_) | (with_reducible refine below_drewN ?_ _) | (with_reducible refine below_plus ?_ ?_ _ _) | (with_reducible refine Below.setCell ?_ ?_ _) | (with_reducible refine Below.setRow ?_ ?_ _) | go_size))))).mono ?_; rintro e w2 ⟨rfl, J2, d2, rfl⟩
    go_wp2
    go_ret3
    exact ⟨⟨_, _, _, rfl, .inl ⟨rfl, HS.out⟩⟩, junk_of_below (by (repeat' (first | (with_reducible exact Below.refl _ _) | (with_reducible assumption) | (with_reducible refine Below.alloc ?_ ?_ _) | (with_reducible refine Below.drew ?_) | (with_reducible refine below_drewN ?_ _) | (with_reducible refine below_plus ?_ ?_ _ _) | (with_reducible refine Below.setCell ?_ ?_ _) | (with_reducible refine Below.setRow ?_ ?_ _) | go_size)))⟩
  have hT8 : 8 ≤ len := Nat.le_of_not_lt fun h => ht (by unfold tornF; rw [decide_eq_true (by omega)]; rfl)
  by_cases hf : formF L = true
  · have h12 : num4 L + 12 ≤ len := Nat.le_of_not_lt fun h => ht (by unfold tornF; rw [hf, decide_eq_true (show L.length < num4 L + 12 by omega)]; simp)
    have hs65 : num4 L ≤ 65536 := by unfold formF at hf; rw [Bool.and_eq_true, decide_eq_true_eq] at hf; exact hf.2
    obtain ⟨b, off, rfl⟩ := bin_some h (by omega)
    have hroom := h.room
    have hsm := h.small
    have HR := Lib.hid (bin_from h 8 (8 + num4 L) (by omega) (by omega))
    have HRu := Lib.hid (bin_from hu 8 (8 + num4 L) (by omega) (by omega))
    have HQ := Lib.hid (bin_tail h (8 + num4 L) (by omega))
    have HS := Lib.hid (show splitF L = if goodF L = true then some ((L.drop 8).take (num4 L), L.drop (12 + num4 L)) else none by unfold splitF; rw [if_neg ht, hf, Bool.true_and])
    have hg : goodF L = (sumF ((L.drop 8).take (num4 L)) == num4 (L.drop (8 + num4 L))) := rfl
    have hRL : (L.take (8 + num4 L)).drop 8 = (L.drop 8).take (num4 L) := by rw [List.drop_take]; congr 1; omega
    rw [hRL] at HR HRu
    rw [hg] at HS
    have HW := Lib.hid (show ∃ a' c', (∀ w', BIn w' (some ⟨b, off, none⟩) len L cap → BIn w' a' (len - (12 + num4 L)) (L.drop (12 + num4 L)) c') ∧ a' = some ⟨b, if 12 + num4 L = cap then off else off + (12 + num4 L), none⟩ ∧ c' = cap - (12 + num4 L) by
      refine ⟨_, _, fun w' h' => ?_, rfl, rfl⟩
      have := bin_tail h' (12 + num4 L) (by omega)
      by_cases hq : 12 + num4 L = cap
      · rw [if_pos hq]
        refine ⟨⟨this.reads.1, .inl (by omega)⟩, (fun h => by cases h), this.small, this.room⟩
      · rw [if_neg hq]; exact this)
    rw [Bool.eq_false_iff.2 ht] at HT
    rw [hf] at HE
    clear h hu ht hf hg hRL
    generalize (L.drop 8).take (num4 L) = R at *
    generalize L.drop (8 + num4 L) = E at *
    generalize L.drop (12 + num4 L) = T at *
    generalize num4 L = x at *
    have e1 : IntKind.i64.wrap (((8 + x : Nat) : Int) + 4) = ((12 + x : Nat) : Int) := by simp [IntKind.wrap, IntKind.signed, IntKind.bits]; omega
    generalize hy : 8 + x = y at *
    go_enter Try.func37, Try.ntmps37
    go_wp2_with fail
    refine (HT.out _ (HB.out.below (by (repeat' (first | (with_reducible exact Below.refl _ _) | (with_reducible assumption) | (with_reducible refine Below.alloc ?_ ?_ _) | (with_reducible refine Below.drew ?_) | (with_reducible refine below_drewN ?_ _) | (with_reducible refine below_plus ?_ ?_ _ _) | (with_reducible refine Below.setCell ?_ ?_ _) | (with_reducible refine Below.setRow ?_ ?_ _) | go_size))))).mono ?_; rintro e w2 ⟨rfl, J2, d2, rfl⟩
    go_wp2_with fail
    refine (HE.out _ (HB.out.below (by (repeat' (first | (with_reducible exact Below.refl _ _) | (with_reducible assumption) | (with_reducible refine Below.alloc ?_ ?_ _) | (with_reducible refine Below.drew ?_) | (with_reducible refine below_drewN ?_ _) | (with_reducible refine below_plus ?_ ?_ _ _) | (with_reducible refine Below.setCell ?_ ?_ _) | (with_reducible refine Below.setRow ?_ ?_ _) | go_size)))) hT8).mono ?_; rintro e w2 ⟨rfl, d3, rfl⟩
    have i1 : (8 : Int) ≤ (y : Int) := by omega
    have i2 : (y : Int) ≤ (cap : Int) := by omega
    have i3 : (y : Int) ≤ (len : Int) := by omega
    have i4 : (8 : Nat) ≠ cap := by omega
    have i5 : y ≠ cap := by omega
    have i5' : cap ≠ y := by omega
    have hy4 : 4 ≤ len - y := by omega
    obtain ⟨z, hz⟩ : ∃ z, 12 + x = z := ⟨_, rfl⟩
    rw [hz] at e1 HW
    have i6 : z ≤ len := by omega
    have i7 : (z : Int) ≤ (cap : Int) := by omega
    have i8 : (z : Int) ≤ (len : Int) := by omega
    have HSm := Lib.hid (show ∀ w1, Cls (w.alloc (.cells C 49)) w1 → Calls Try.prog 30 #[.agg C, .slice (some ⟨b, off + 8, none⟩) (y - 8) (cap - 8)] w1 fun e w'' => e = .returned (.int .u32 ((sumF R : Nat) : Int)) ∧ Cls (w.alloc (.cells C 49)) w'' by
      rintro w1 ⟨J, d, rfl⟩
      have := n_tableSum ((w.alloc (.cells C 49)).plus J d) (some ⟨b, off + 8, none⟩) (y - 8) (cap - 8) R (HR.out.reads.below (by (repeat' (first | (with_reducible exact Below.refl _ _) | (with_reducible assumption) | (with_reducible refine Below.alloc ?_ ?_ _) | (with_reducible refine Below.drew ?_) | (with_reducible refine below_drewN ?_ _) | (with_reducible refine below_plus ?_ ?_ _ _) | (with_reducible refine Below.setCell ?_ ?_ _) | (with_reducible refine Below.setRow ?_ ?_ _) | go_size)))) HR.out.small
      rw [HV.out] at this
      exact this.mono fun _ _ ⟨h1, J2, d2, h2⟩ => ⟨h1, J ++ J2, d2, by rw [h2, plus_plus]⟩)
    have HNm := Lib.hid (show ∀ w1, Cls (w.alloc (.cells C 49)) w1 → Calls Try.prog 40 #[.slice (some ⟨b, off + y, none⟩) (len - y) (cap - y)] w1 fun e w'' => e = .returned (.int .u32 ((num4 E : Nat) : Int)) ∧ Cls (w.alloc (.cells C 49)) w'' by
      rintro w1 ⟨J, d, rfl⟩
      have := n_frNumber ((w.alloc (.cells C 49)).plus J d) (some ⟨b, off + y, none⟩) (len - y) (cap - y) E (HQ.out.reads.below (by (repeat' (first | (with_reducible exact Below.refl _ _) | (with_reducible assumption) | (with_reducible refine Below.alloc ?_ ?_ _) | (with_reducible refine Below.drew ?_) | (with_reducible refine below_drewN ?_ _) | (with_reducible refine below_plus ?_ ?_ _ _) | (with_reducible refine Below.setCell ?_ ?_ _) | (with_reducible refine Below.setRow ?_ ?_ _) | go_size)))) hy4
      exact this.mono fun _ _ ⟨h1, d2, h2⟩ => ⟨h1, J, d + d2, by rw [h2, drewN_plus]⟩)
    clear hz hy h12 hs65 hy4
    obtain ⟨sn, hsn⟩ : ∃ sn, sumF R = sn := ⟨_, rfl⟩
    obtain ⟨nn, hnn⟩ : ∃ nn, num4 E = nn := ⟨_, rfl⟩
    rw [hsn] at HSm HS
    rw [hnn] at HNm HS
    clear hsn hnn
    have hcs := HC.out
    obtain ⟨f, hf⟩ : ∃ f, ((sn : Int) == (nn : Int)) = f := ⟨_, rfl⟩
    have HF := Lib.hid (show (sn == nn) = f by rw [← hf, Bool.eq_iff_iff, beq_iff_eq, beq_iff_eq]; omega)
    obtain ⟨a2, c2, hw, ha2, hc2⟩ := HW.out
    have HWi := Lib.hid hw
    clear hw HW
    by_cases hzc : z = cap
    · rw [if_pos hzc] at ha2
      subst ha2 hc2
      subst hzc
      go_upto_region 7 with fail
      refine wp_rq6 (C := Cls (w.alloc (.cells C 49))) (by kernel_rfl) (by kernel_rfl) ⟨J2, _, rfl⟩ ?_
      repeat (first
        | (refine q_load rfl 49 _ rfl _ Try.underlying49 rfl 256 (by kernel_rfl) _ rfl (by simp [go_sem]) C (by simp [go_sem]) hcs ?_)
        | (refine wpQuiet_step (fun K hK => ?_); go_simp; first | (refine hK _ ?_; clear hK K) | (apply Exists.intro; refine ⟨?_, hK _ ?_⟩; (intro w3_ hw3_; first | (with_reducible exact rfl) | (go_simp; with_reducible exact rfl) | (with_reducible exact HSm.out _ hw3_) | (with_reducible exact HNm.out _ hw3_)); clear hK K)))
      refine wpQuiet_nil ?_
      intro w3 hw3
      obtain ⟨J3, d3', rfl⟩ := hw3
      clear hf
      go_wp2
      go_ret3
      refine ⟨⟨_, _, f, rfl, ?_⟩, junk_of_below (by (repeat' (first | (with_reducible exact Below.refl _ _) | (with_reducible assumption) | (with_reducible refine Below.alloc ?_ ?_ _) | (with_reducible refine Below.drew ?_) | (with_reducible refine below_drewN ?_ _) | (with_reducible refine below_plus ?_ ?_ _ _) | (with_reducible refine Below.setCell ?_ ?_ _) | (with_reducible refine Below.setRow ?_ ?_ _) | go_size)))⟩
      cases f
      · exact .inl ⟨rfl, by rw [HS.out, HF.out]; rfl⟩
      · exact .inr ⟨rfl, R, T, by rw [HS.out, HF.out]; rfl, ⟨_, _, _, rfl, HRu.out⟩, ⟨_, _, _, rfl, by have := HWi.out u HU.out; rwa [show len - z = 0 by omega, Nat.sub_self] at this⟩⟩
    · rw [if_neg hzc] at ha2
      subst ha2 hc2
      have i9 : cap ≠ z := fun h => hzc h.symm
      go_upto_region 7 with fail
      refine wp_rq6 (C := Cls (w.alloc (.cells C 49))) (by kernel_rfl) (by kernel_rfl) ⟨J2, _, rfl⟩ ?_
      repeat (first
        | (refine q_load rfl 49 _ rfl _ Try.underlying49 rfl 256 (by kernel_rfl) _ rfl (by simp [go_sem]) C (by simp [go_sem]) hcs ?_)
        | (refine wpQuiet_step (fun K hK => ?_); go_simp; first | (refine hK _ ?_; clear hK K) | (apply Exists.intro; refine ⟨?_, hK _ ?_⟩; (intro w3_ hw3_; first | (with_reducible exact rfl) | (go_simp; with_reducible exact rfl) | (with_reducible exact HSm.out _ hw3_) | (with_reducible exact HNm.out _ hw3_)); clear hK K)))
      refine wpQuiet_nil ?_
      intro w3 hw3
      obtain ⟨J3, d3', rfl⟩ := hw3
      clear hf
      go_wp2
      go_ret3
      refine ⟨⟨_, _, f, rfl, ?_⟩, junk_of_below (by (repeat' (first | (with_reducible exact Below.refl _ _) | (with_reducible assumption) | (with_reducible refine Below.alloc ?_ ?_ _) | (with_reducible refine Below.drew ?_) | (with_reducible refine below_drewN ?_ _) | (with_reducible refine below_plus ?_ ?_ _ _) | (with_reducible refine Below.setCell ?_ ?_ _) | (with_reducible refine Below.setRow ?_ ?_ _) | go_size)))⟩
      cases f
      · exact .inl ⟨rfl, by rw [HS.out, HF.out]; rfl⟩
      · exact .inr ⟨rfl, R, T, by rw [HS.out, HF.out]; rfl, ⟨_, _, _, rfl, HRu.out⟩, ⟨_, _, _, rfl, HWi.out u HU.out⟩⟩
  · have HS := Lib.hid (show splitF L = none by unfold splitF; rw [if_neg ht, if_neg (by simp [hf])])
    rw [Bool.eq_false_iff.2 ht] at HT
    rw [Bool.eq_false_iff.2 hf] at HE
    clear h hu ht hf
    go_enter Try.func37, Try.ntmps37
    go_wp2_with fail
    refine (HT.out _ (HB.out.below (by (repeat' (first | (with_reducible exact Below.refl _ _) | (with_reducible assumption) | (with_reducible refine Below.alloc ?_ ?_ _) | (with_reducible refine Below.drew ?_) | (with_reducible refine below_drewN ?_ _) | (with_reducible refine below_plus ?_ ?_ _ _) | (with_reducible refine Below.setCell ?_ ?_ _) | (with_reducible refine Below.setRow ?_ ?_ _) | go_size))))).mono ?_; rintro e w2 ⟨rfl, J2, d2, rfl⟩
    go_wp2_with fail
    refine (HE.out _ (HB.out.below (by (repeat' (first | (with_reducible exact Below.refl _ _) | (with_reducible assumption) | (with_reducible refine Below.alloc ?_ ?_ _) | (with_reducible refine Below.drew ?_) | (with_reducible refine below_drewN ?_ _) | (with_reducible refine below_plus ?_ ?_ _ _) | (with_reducible refine Below.setCell ?_ ?_ _) | (with_reducible refine Below.setRow ?_ ?_ _) | go_size)))) hT8).mono ?_; rintro e w2 ⟨rfl, d3, rfl⟩
    go_wp2
    go_ret3
    exact ⟨⟨_, _, _, rfl, .inl ⟨rfl, HS.out⟩⟩, junk_of_below (by (repeat' (first | (with_reducible exact Below.refl _ _) | (with_reducible assumption) | (with_reducible refine Below.alloc ?_ ?_ _) | (with_reducible refine Below.drew ?_) | (with_reducible refine below_drewN ?_ _) | (with_reducible refine below_plus ?_ ?_ _ _) | (with_reducible refine Below.setCell ?_ ?_ _) | (with_reducible refine Below.setRow ?_ ?_ _) | go_size)))⟩
end Go.Proofs.Ytfapldajodobhaa

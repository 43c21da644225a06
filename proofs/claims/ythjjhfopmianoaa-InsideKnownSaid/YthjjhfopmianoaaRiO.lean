/- The law RingKnown: the walk. -/
import Derived.Test.YthjjhfopmianoaaRgLaw
namespace Go.Proofs.Ythjjhfopmianoaa
set_option linter.unusedVariables false
set_option linter.unusedSimpArgs false
open Go.RowKit

theorem below_d (B : Nat) (w : World) (J : Array Obj) (d d' : Nat) : Below B (w.plus J d) (w.plus J d') := ⟨rfl, rfl, rfl, Nat.le_refl _, fun _ _ => rfl⟩
theorem below_snoc {B : Nat} {W w : World} {J : Array Obj} (J' : Array Obj) (d' : Nat) (h : Below B W (w.plus J 0)) (hB : B ≤ (w.plus J 0).heap.size) : Below B W (w.plus (J ++ J') d') := by
  rw [← plus_plus w J 0 J' d']
  exact h.trans ((Junk.below ⟨_, _, rfl⟩ : Below (w.plus J 0).heap.size (w.plus J 0) _).mono hB)
theorem own_readc {W w' : World} {v : Value} {L : List Pt} {n : Nat} (hn : L.length = n) (h : POwn W w' v L) : ∃ a cap, v = .slice a n cap ∧ PRC w' a n cap L ∧ n ≤ cap ∧ cap ≤ maxLen := by
  obtain ⟨a, cap, e, hr⟩ := own_prc (w' := w') hn h
  refine ⟨a, cap, e, hr, hr.ok.le, ?_⟩
  obtain ⟨_, ⟨h1, h2⟩ | ⟨g, cap', cur, h1, _, _, h4, h5, _⟩⟩ := h
  · rw [e] at h1
    injection h1 with e1 e2 e3
    rw [e3]; exact Nat.zero_le _
  · rw [e] at h1
    injection h1 with e1 e2 e3
    omega
theorem fr_is (L M : List Pt) (s : Int) (hr : rotF L s = M) (n : Nat) (hm : M.length = n) (hn : n ≤ 400) (w : World) (a : Option Addr) (ca : Nat) (h : PRC w a n ca L) : Calls Try.prog 18 #[.slice a n ca, .int .i64 s] w fun e w' => (∃ a' c', e = .returned (.slice a' n c') ∧ PRC w' a' n c' M) ∧ Junk w w' := by
  refine (c_rgFrom w a n ca L h hn s).mono ?_
  rintro e w' ⟨⟨v, rfl, hv⟩, hj⟩
  rw [hr] at hv
  obtain ⟨a', c', rfl, h'⟩ := own_prc hm hv
  exact ⟨⟨a', c', rfl, h'⟩, hj⟩
theorem sp_pt (L : List Pt) (n : Nat) (hn : n ≤ 400) (w : World) (a b : Option Addr) (ca cb : Nat) (h1 : PRC w a n ca L) (h2 : PRC w b n cb L) : Calls Try.prog 16 #[.slice a n ca, .slice b n cb] w fun e w' => e = .returned (.bool true) ∧ Junk w w' := by
  have h := s_SamePoints w a b n n ca cb _ _ h1 h2 (by omega)
  rw [decide_eq_true rfl] at h
  exact h
theorem sq_norm : normF sqL.reverse = sqL := by
  rw [norm_rev]
  refine norm_eq sq_fine ⟨⟨0, .inl (rot_zero _).symm⟩, sq_sign, ?_⟩
  have := least_c (K := sqL) (by decide)
  rwa [show leastF sqL = 0 by decide +kernel] at this
theorem sq_same : sameB sqL (rotF sqL.reverse 2) = true := by
  rw [same_true, same_norm]
  exact ⟨sq_fine, (fine_rot _ _).2 ((fine_rev _).2 sq_fine), by rw [norm_rot, norm_rev]⟩
theorem sq_three : sameB sqL (sqL.take 3) = false := same_false.2 fun h => absurd (same_len h) (by decide)
end Go.Proofs.Ythjjhfopmianoaa

/- Contracts of apportionref16's Short, Long. -/
import Derived.Test.YtngjkmjejijfiaaDoorWdP
namespace Go.Proofs.YtngjkmjejijfiaaDoor
set_option linter.unusedVariables false
set_option linter.unusedSimpArgs false
open Go.RowKit

def WAt (T : List Wd) (f : Wd → Bool) (a : Option Addr) (W : World) (i : Value) (wr : World) : Prop := ∃ k : Nat, i = .int .i64 (k : Int) ∧ k ≤ T.length ∧ (∀ j, j < k → f (T.getD j dZ) = false) ∧ wr = W
theorem no_next {T : List Wd} {f : Wd → Bool} {k : Nat} (h : ∀ j, j < k → f (T.getD j dZ) = false) (hk : f (T.getD k dZ) = false) : ∀ j, j < k + 1 → f (T.getD j dZ) = false := fun j hj => by
  rcases Nat.lt_or_ge j k with h1 | h1
  · exact h j h1
  · rw [show j = k by omega]; exact hk
theorem tellS_at {T : List Wd} {x : Tx} {k : Nat} (h : ∀ j, j < k → hitS x (T.getD j dZ) = false) (hk : k < T.length) (hf : hitS x (T.getD k dZ) = true) : tellS T x = ((T.getD k dZ).2, true) := by
  have : shortW T x = some (T.getD k dZ) := find_at (f := hitS x) h hk hf
  unfold tellS; rw [this]
theorem tellS_no {T : List Wd} {x : Tx} (h : ∀ j, j < T.length → hitS x (T.getD j dZ) = false) : tellS T x = ([], false) := by
  have : shortW T x = none := find_no (f := hitS x) h
  unfold tellS; rw [this]
def hitL (x : Tx) (p : Wd) : Bool := decide (p.2 = x)
theorem tellL_at {T : List Wd} {x : Tx} {k : Nat} (h : ∀ j, j < k → hitL x (T.getD j dZ) = false) (hk : k < T.length) (hf : hitL x (T.getD k dZ) = true) : tellL T x = ((T.getD k dZ).1, true) := by
  have : longW T x = some (T.getD k dZ) := find_at (f := hitL x) h hk hf
  unfold tellL; rw [this]
theorem tellL_no {T : List Wd} {x : Tx} (h : ∀ j, j < T.length → hitL x (T.getD j dZ) = false) : tellL T x = ([], false) := by
  have : longW T x = none := find_no (f := hitL x) h
  unfold tellL; rw [this]
def SBRes (r : Tx × Bool) (w : World) (e : Ending) (w' : World) : Prop := e = .returned (.tuple #[sV r.1, .bool r.2]) ∧ Junk w w'
theorem sb_ret {r : Tx × Bool} {w w' : World} {x : Value} {y : Tx × Bool} (h : r = y) (hx : x = .tuple #[sV y.1, .bool y.2]) (hj : Junk w w') : SBRes r w (.returned x) w' := by
  subst h
  exact ⟨by rw [hx], hj⟩
set_option maxRecDepth 100000 in
set_option maxHeartbeats 1000000 in
theorem r_wdShort (kd : Int) (x : Tx) (w : World) : Calls Tryd.prog 9 #[.int .i64 kd, sV x] w (SBRes (tellS (wdT kd) x) w) := by
  have HP := Lib.hid (fun W => r_wdPairs kd W)
  have HF := Lib.hid (wd_few kd)
  generalize wdT kd = T at *
  have HA := Lib.hid (fun k => @tellS_at T x k)
  have HN := Lib.hid (@tellS_no T x)
  generalize tellS T x = r at *
  go_enter Tryd.func9, Tryd.ntmps9
  go_wp2_with fail
  refine (HP.out _).mono ?_; rintro e w' ⟨a, cap, rfl, ⟨hl, hT⟩, J, d, rfl⟩
  have HT := Lib.hid hT
  clear hl hT
  go_wp2_with fail
  go_loopw [7] (fun i wr => WAt T (hitS x) a (w.plus J d) i wr) (fun i _ => T.length - (intOf i).toNat)
  case atStart => exact ⟨0, rfl, Nat.zero_le _, fun j h => absurd h (Nat.not_lt_zero _), rfl⟩
  case round =>
    obtain ⟨k, rfl, hk, hn, rfl⟩ := hrel
    have HB := Lib.hid hn
    clear hn
    have hfew := HF.out
    by_cases hlt : k < T.length
    · obtain ⟨b, off, rfl, hc⟩ : ∃ b off, a = some ⟨b, off, none⟩ ∧ ∀ i, i < T.length → (w.plus J d).cell? ⟨b, off + i * 2, none⟩ = some (sV (T.getD i dZ).1) ∧ (w.plus J d).cell? ⟨b, off + i * 2 + 1, none⟩ = some (sV (T.getD i dZ).2) := HT.out.resolve_left (by omega)
      obtain ⟨c1, c2⟩ := hc k hlt
      clear hc
      have HX := Lib.hid (HA.out k HB.out hlt)
      have HY := Lib.hid (no_next (f := hitS x) HB.out (k := k))
      generalize T.getD k dZ = p at *
      obtain ⟨l, s⟩ := p
      simp only at c1 c2 HX
      by_cases e1 : l = x
      · have hx1 : (l == x) = true := beq_iff_eq.2 e1
        have HR := Lib.hid (HX.out (by simp [hitS, e1]))
        clear e1
        go_wp2
        go_ret2
        exact sb_ret HR.out rfl (junk_of_below (by (repeat' first | with_reducible (first | apply Below.refl | assumption | apply bw_a | apply bw_d | apply bw_n | apply bw_p | apply bw_c | apply bw_r) | go_size)))
      · have hx1 : (l == x) = false := beq_eq_false_iff_ne.2 e1
        by_cases e2 : s = x
        · have hx2 : (s == x) = true := beq_iff_eq.2 e2
          have HR := Lib.hid (HX.out (by simp [hitS, e2]))
          clear e1 e2
          go_wp2
          go_ret2
          exact sb_ret HR.out rfl (junk_of_below (by (repeat' first | with_reducible (first | apply Below.refl | assumption | apply bw_a | apply bw_d | apply bw_n | apply bw_p | apply bw_c | apply bw_r) | go_size)))
        · have hx2 : (s == x) = false := beq_eq_false_iff_ne.2 e2
          have HR := Lib.hid (HY.out (by simp [hitS, e1, e2]))
          clear e1 e2
          go_wp2_with fail
          go_roundw
          case rel => exact ⟨k + 1, by go_num, by omega, HR.out, rfl⟩
          case measure => simp [intOf]; omega
    · obtain rfl : k = T.length := by omega
      have HR := Lib.hid (HN.out HB.out)
      go_wp2
      go_ret2
      exact sb_ret HR.out rfl (junk_of_below (by (repeat' first | with_reducible (first | apply Below.refl | assumption | apply bw_a | apply bw_d | apply bw_n | apply bw_p | apply bw_c | apply bw_r) | go_size)))
set_option maxRecDepth 100000 in
set_option maxHeartbeats 1000000 in
theorem r_wdLong (kd : Int) (x : Tx) (w : World) : Calls Tryd.prog 11 #[.int .i64 kd, sV x] w (SBRes (tellL (wdT kd) x) w) := by
  have HP := Lib.hid (fun W => r_wdPairs kd W)
  have HF := Lib.hid (wd_few kd)
  generalize wdT kd = T at *
  have HA := Lib.hid (fun k => @tellL_at T x k)
  have HN := Lib.hid (@tellL_no T x)
  generalize tellL T x = r at *
  go_enter Tryd.func11, Tryd.ntmps11
  go_wp2_with fail
  refine (HP.out _).mono ?_; rintro e w' ⟨a, cap, rfl, ⟨hl, hT⟩, J, d, rfl⟩
  have HT := Lib.hid hT
  clear hl hT
  go_wp2_with fail
  go_loopw [7] (fun i wr => WAt T (hitL x) a (w.plus J d) i wr) (fun i _ => T.length - (intOf i).toNat)
  case atStart => exact ⟨0, rfl, Nat.zero_le _, fun j h => absurd h (Nat.not_lt_zero _), rfl⟩
  case round =>
    obtain ⟨k, rfl, hk, hn, rfl⟩ := hrel
    have HB := Lib.hid hn
    clear hn
    have hfew := HF.out
    by_cases hlt : k < T.length
    · obtain ⟨b, off, rfl, hc⟩ : ∃ b off, a = some ⟨b, off, none⟩ ∧ ∀ i, i < T.length → (w.plus J d).cell? ⟨b, off + i * 2, none⟩ = some (sV (T.getD i dZ).1) ∧ (w.plus J d).cell? ⟨b, off + i * 2 + 1, none⟩ = some (sV (T.getD i dZ).2) := HT.out.resolve_left (by omega)
      obtain ⟨c1, c2⟩ := hc k hlt
      clear hc
      have HX := Lib.hid (HA.out k HB.out hlt)
      have HY := Lib.hid (no_next (f := hitL x) HB.out (k := k))
      generalize T.getD k dZ = p at *
      obtain ⟨l, s⟩ := p
      simp only at c1 c2 HX
      by_cases e2 : s = x
      · have hx2 : (s == x) = true := beq_iff_eq.2 e2
        have HR := Lib.hid (HX.out (by simp [hitL, e2]))
        clear e2
        go_wp2
        go_ret2
        exact sb_ret HR.out rfl (junk_of_below (by (repeat' first | with_reducible (first | apply Below.refl | assumption | apply bw_a | apply bw_d | apply bw_n | apply bw_p | apply bw_c | apply bw_r) | go_size)))
      · have hx2 : (s == x) = false := beq_eq_false_iff_ne.2 e2
        have HR := Lib.hid (HY.out (by simp [hitL, e2]))
        clear e2
        go_wp2_with fail
        go_roundw
        case rel => exact ⟨k + 1, by go_num, by omega, HR.out, rfl⟩
        case measure => simp [intOf]; omega
    · obtain rfl : k = T.length := by omega
      have HR := Lib.hid (HN.out HB.out)
      go_wp2
      go_ret2
      exact sb_ret HR.out rfl (junk_of_below (by (repeat' first | with_reducible (first | apply Below.refl | assumption | apply bw_a | apply bw_d | apply bw_n | apply bw_p | apply bw_c | apply bw_r) | go_size)))
end Go.Proofs.YtngjkmjejijfiaaDoor

/- Contract of apportionref04's digits. -/
import Derived.Test.YtlbbampmonkleaaDoorPerB
import Derived.Deep.RegionWith
namespace Go.Proofs.YtlbbampmonkleaaDoor
set_option linter.unusedVariables false
set_option linter.unusedSimpArgs false
open Go.RowKit

/-- A number in so many digits. -/
def dgs : Nat → Nat → List UInt8
  | 0, _ => []
  | j + 1, n => dgs j (n / 10) ++ [UInt8.ofNat (48 + n % 10)]
theorem dgs_len : ∀ j n, (dgs j n).length = j
  | 0, _ => rfl
  | j + 1, n => by simp [dgs, dgs_len j]

theorem back_one (W : World) (g a : Nat) (ha : a ≤ 9) (h0 : W.cell? ⟨g, 0, none⟩ = some (.int .u8 (48 + (a : Int)))) :
    (convert 64 9 (.slice (some ⟨g, 0, none⟩) 1 1)).run Tryd.prog W = .ok (.string ⟨[UInt8.ofNat (48 + a)].toArray⟩) W := by
  have := run_convert_bytes_back (P := Tryd.prog) W 64 9 5 ⟨g, 0, none⟩ 1 [UInt8.ofNat (48 + a)] Tryd.underlying64 Tryd.underlying5 Tryd.underlying9 (fun j hj => by
    have e : (⟨g, 0, none⟩ : Addr).add j = ⟨g, j, none⟩ := by unfold Addr.add; split <;> simp_all
    rw [e]
    have hj2 : j = 0 := by simp at hj; omega
    subst hj2
    rw [h0]; simp; omega)
  exact this

set_option maxRecDepth 100000 in
set_option maxHeartbeats 2000000 in
theorem r_digits : ∀ (j : Nat) (hj : j ≤ 4) (n : Nat) (hn : n ≤ 9999) (w : World), Calls Tryd.prog 35 #[.int .i64 (n : Int), .int .i64 (j : Int)] w fun e w' => e = .returned (.string ⟨(dgs j n).toArray⟩) ∧ Junk w w'
  | 0, _, n, _, w => by
    go_enter Tryd.func35, Tryd.ntmps35
    go_wp2
    go_ret
    exact ⟨rfl, junk_of_below (by (repeat' (first | (with_reducible exact Below.refl _ _) | (with_reducible assumption) | (with_reducible refine Below.alloc ?_ ?_ _) | (with_reducible refine Below.drew ?_) | (with_reducible refine below_drewN ?_ _) | (with_reducible refine below_plus ?_ ?_ _ _) | (with_reducible refine Below.setCell ?_ ?_ _) | (with_reducible refine Below.setRow ?_ ?_ _) | go_size)))⟩
  | j + 1, hj, n, hn, w => by
    have HR := Lib.hid (r_digits j (by omega) (n / 10) (by omega))
    have hl := dgs_len j (n / 10)
    obtain ⟨a, ha⟩ : ∃ a : Int, ((n / 10 : Nat) : Int) = a := ⟨_, rfl⟩
    obtain ⟨z, hz⟩ : ∃ z : Int, (n : Int) = z := ⟨_, rfl⟩
    obtain ⟨q, hq⟩ : ∃ q : Int, ((j + 1 : Nat) : Int) = q := ⟨_, rfl⟩
    obtain ⟨b, hb⟩ : ∃ b : Nat, n % 10 = b := ⟨_, rfl⟩
    rw [ha, show ((j : Nat) : Int) = q - 1 by omega] at HR
    have e1 : z.tdiv 10 = a := by rw [← ha, ← hz]; exact Int.tdiv_eq_ediv_of_nonneg (by omega)
    have e2 : z.tmod 10 = (b : Int) := by rw [← hb, ← hz]; exact Int.tmod_eq_emod_of_nonneg (by omega)
    have e3 : (q == 0) = false := beq_eq_false_iff_ne.2 (by omega)
    have a0 : 0 ≤ a := by omega
    have a1 : a ≤ 999 := by omega
    have z0 : 0 ≤ z := by omega
    have z1 : z ≤ 9999 := by omega
    have b1 : b < 10 := by omega
    have q0 : 1 ≤ q := by omega
    have q1 : q ≤ 4 := by omega
    rw [hz, hq]
    unfold dgs
    rw [hb]
    generalize dgs j (n / 10) = D at *
    clear hz hq ha hb hn
    go_enter Tryd.func35, Tryd.ntmps35
    have HB := Lib.hid (fun W g => back_one W g b (by omega))
    have e4 : IntKind.u8.wrap (48 + (b : Int)) = 48 + (b : Int) := by simp [IntKind.wrap, IntKind.signed, IntKind.bits]; omega
    have e5 : IntKind.i64.wrap (48 + (b : Int)) = 48 + (b : Int) := by simp [IntKind.wrap, IntKind.signed, IntKind.bits]; omega
    have e7 : IntKind.i64.wrap a = a := by simp [IntKind.wrap, IntKind.signed, IntKind.bits]; omega
    have e6 : IntKind.i64.wrap (q - 1) = q - 1 := by simp [IntKind.wrap, IntKind.signed, IntKind.bits]; omega
    go_wp2_with fail
    go_region_with (first
      | (go_at_call 35; refine (HR.out _).mono ?_; rintro e w' ⟨rfl, J, dr, rfl⟩)
      | (rw [HB.out _ _ (by simp [go_sem])]; simp only [Result.andThen]; rw [Oper.upon_value]))
    all_goals (go_wp2; go_ret; exact ⟨by simp [Act.put, ba_app, UInt8.ofNat_add], junk_of_below (by (repeat' (first | (with_reducible exact Below.refl _ _) | (with_reducible assumption) | (with_reducible refine Below.alloc ?_ ?_ _) | (with_reducible refine Below.drew ?_) | (with_reducible refine below_drewN ?_ _) | (with_reducible refine below_plus ?_ ?_ _ _) | (with_reducible refine Below.setCell ?_ ?_ _) | (with_reducible refine Below.setRow ?_ ?_ _) | go_size)))⟩)
end Go.Proofs.YtlbbampmonkleaaDoor

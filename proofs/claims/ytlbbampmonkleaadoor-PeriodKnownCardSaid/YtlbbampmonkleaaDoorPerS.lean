/- Library calls: Itoa within a width, Repeat, IndexByte, Atoi; kindOf, padded. Condition: strconv's table is as laid. -/
import Derived.Test.YtlbbampmonkleaaDoorTab
import Derived.Test.YtlbbampmonkleaaDoorPerP0
import Derived.Deep.Quiet
namespace Go.Proofs.YtlbbampmonkleaaDoor
set_option linter.unusedVariables false
set_option linter.unusedSimpArgs false
open Go.RowKit

theorem wp_rq4 {P : Program} {C : World → Prop} {id : Nat} {Q : Exit → Act → World → Prop} {a : Act} {w : World} {l : List Oper} (hm : P.follows .mixedOrders = true) (hB : Region.lexB .any l.toArray = true) (hC : C { w with drawn := w.drawn + 1 })
    (h : wpQuiet P l.toArray C (fun a' => ∀ w', C w' → Q .normal a' w') l a) : (Code.region id l.toArray true).wp P Q a w :=
  wp_region_quiet (C := C) hm hB hC (by simpa using h)

theorem s_Repeat (s : ByteArray) (c : Nat) (w : World) (hc : c ≤ 100) (hs : s.size ≤ 100) :
    Calls Tryd.prog 55 #[.string s, .int .i64 (c : Int)] w fun e w' => e = .returned (.string ⟨(Lib.repeatL s.data.toList c).toArray⟩) ∧ Junk w w' := by
  refine (Tryd.strings_Repeat s c w (by omega) (by have := Nat.mul_le_mul hs hc; omega)).mono ?_
  rintro e w' ⟨rfl, hb⟩
  exact ⟨rfl, junk_of_below hb⟩

theorem s_Atoi (s : ByteArray) (n : Int) (hl : s.size ≤ 18) (h : Lib.atoi s.data.toList = some n) (w : World) :
    Calls Tryd.prog 37 #[.string s] w fun e w' => e = .returned (.tuple #[.int .i64 n, .nilIface]) ∧ Junk w w' := by
  refine (Tryd.strconv_Atoi s n hl h w).mono ?_
  rintro e w' ⟨rfl, t, rfl⟩
  exact ⟨rfl, junk_of_below (Lib.bytesWorld_below _ _ _)⟩

set_option maxRecDepth 100000 in
theorem kind_index (b : Nat) (hb : b < 256) : Lib.indexByte [77, 81, 72] (b : Int).toNat.toUInt8 = (kd b : Int) - 1 := by
  revert b
  decide

theorem n_kindOf (b : Nat) (hb : b < 256) (w : World) : Calls Tryd.prog 38 #[.int .u8 (b : Int)] w fun e w' => e = .returned (.int .i64 (kd b : Int)) ∧ w = w' := by
  have HI : ∀ w, Calls Tryd.prog 53 #[.string ⟨#[77, 81, 72]⟩, .int .u8 (b : Int)] w fun e w' => e = .returned (.int .i64 ((kd b : Int) - 1)) ∧ w = w' := by
    intro w
    refine (Tryd.strings_IndexByte ⟨#[77, 81, 72]⟩ (b : Int) w).mono ?_
    rintro e w' ⟨rfl, rfl⟩
    exact ⟨by rw [show (⟨#[77, 81, 72]⟩ : ByteArray).data.toList = [77, 81, 72] from rfl, kind_index b hb], rfl⟩
  have HI := Lib.hid HI
  have hk : kd b ≤ 3 := by unfold kd; (repeat' split) <;> omega
  generalize kd b = k at *
  by_cases c : k = 0
  · subst c
    go_enter Tryd.func38, Tryd.ntmps38
    go_wp2_with fail
    refine (HI.out _).mono ?_; rintro e w' ⟨rfl, rfl⟩
    go_wp2
    go_ret
    exact ⟨rfl, rfl⟩
  · go_enter Tryd.func38, Tryd.ntmps38
    go_wp2_with fail
    refine (HI.out _).mono ?_; rintro e w' ⟨rfl, rfl⟩
    go_wp2
    go_ret
    exact ⟨ret1 (by omega), rfl⟩

theorem rep48 : ∀ c, Lib.repeatL [48] c = List.replicate c 48
  | 0 => rfl
  | c + 1 => by rw [Lib.repeatL, rep48 c]; rfl
theorem dgs_zero : ∀ j, dgs j 0 = List.replicate j 48
  | 0 => rfl
  | j + 1 => by
    rw [dgs, dgs_zero j, List.replicate_succ']
    rfl
theorem dgs_pad : ∀ (j n : Nat), 1 ≤ j → n < 10 ^ j → dgs j n = List.replicate (j - (Lib.decDigits n).length) 48 ++ Lib.decDigits n ∧ (Lib.decDigits n).length ≤ j ∧ 1 ≤ (Lib.decDigits n).length
  | 0, _, h, _ => by omega
  | j + 1, n, _, h => by
    by_cases c : n < 10
    · rw [dec_lt10 n c, dgs, show n / 10 = 0 by omega, dgs_zero, show n % 10 = n by omega]
      simp
    · have hj : 1 ≤ j := by
        rcases j with _ | j
        · simp at h; omega
        · omega
      obtain ⟨e1, e2, e3⟩ := dgs_pad j (n / 10) hj (by rw [Nat.pow_succ] at h; omega)
      rw [Lib.decDigits, dif_neg c, dgs, e1]
      refine ⟨?_, by simp; omega, by simp⟩
      simp [List.append_assoc]

set_option maxHeartbeats 1000000 in
theorem n_padded (n j : Nat) (hj : 1 ≤ j) (hj4 : j ≤ 4) (hn : n < 10 ^ j) (w : World) (ht : Tab w) :
    Calls Tryd.prog 47 #[.int .i64 (n : Int), .int .i64 (j : Int)] w fun e w' => e = .returned (.string ⟨(dgs j n).toArray⟩) ∧ Junk w w' := by
  have hn4 : n < 10 ^ 4 := Nat.lt_of_lt_of_le hn (Nat.pow_le_pow_right (by omega) hj4)
  obtain ⟨hp, hp2, hp3⟩ := dgs_pad j n hj hn
  have HI := Lib.hid (s_Itoa (n : Int) (by omega) (by omega) w ht)
  rw [itoa_nat] at HI
  rw [hp]
  clear hp hn hn4
  generalize Lib.decDigits n = D at *
  obtain ⟨c, hc⟩ : ∃ c, j - D.length = c := ⟨_, rfl⟩
  have HR := fun w => s_Repeat ⟨#[48]⟩ c w (by omega) (by decide)
  have hrep := rep48 c
  rw [show (⟨#[48]⟩ : ByteArray).data.toList = [48] from rfl, hrep, show (c : Int) = (j : Int) - (D.length : Int) by omega] at HR
  have HR := Lib.hid HR
  rw [hc]
  have hl : (List.replicate c (48 : UInt8)).length = c := by simp
  generalize List.replicate c (48 : UInt8) = Z at *
  clear hrep
  go_enter Tryd.func47, Tryd.ntmps47
  go_wp2_with fail
  refine HI.out.mono ?_; rintro e w' ⟨rfl, J, dr, rfl⟩
  go_wp2_with fail
  refine (HR.out _).mono ?_; rintro e w' ⟨rfl, J2, dr2, rfl⟩
  go_wp2
  go_ret
  exact ⟨ret_str (by simp [ba_app]), junk_of_below (by (repeat' (first | (with_reducible exact Below.refl _ _) | (with_reducible assumption) | (with_reducible refine Below.alloc ?_ ?_ _) | (with_reducible refine Below.drew ?_) | (with_reducible refine below_drewN ?_ _) | (with_reducible refine below_plus ?_ ?_ _ _) | (with_reducible refine Below.setCell ?_ ?_ _) | (with_reducible refine Below.setRow ?_ ?_ _) | go_size)))⟩
end Go.Proofs.YtlbbampmonkleaaDoor

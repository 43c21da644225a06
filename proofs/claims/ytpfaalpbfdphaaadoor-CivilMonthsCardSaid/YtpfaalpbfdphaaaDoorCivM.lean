/- Contracts of apportionref03's two and Text. -/
import Derived.Test.YtpfaalpbfdphaaaDoorCivL
namespace Go.Proofs.YtpfaalpbfdphaaaDoor
set_option linter.unusedVariables false
set_option linter.unusedSimpArgs false
open Go.RowKit

theorem wp_rq {P : Program} {C : World → Prop} {id : Nat} {Q : Exit → Act → World → Prop} {a : Act} {w : World} {l : List Oper} (hm : P.follows .mixedOrders = true) (hB : Region.lexB .any l.toArray = true) (hC : C { w with drawn := w.drawn + 1 })
    (h : wpQuiet P l.toArray C (fun a' => ∀ w', C w' → Q .normal a' w') l a) : (Code.region id l.toArray true).wp P Q a w :=
  wp_region_quiet (C := C) hm hB hC (by simpa using h)

theorem dg2 (n : Nat) (h : n < 100) : dg 2 n = [UInt8.ofNat (48 + n / 10), UInt8.ofNat (48 + n % 10)] := by
  simp [dg, show n / 10 % 10 = n / 10 by omega]
theorem dg4 (y : Nat) : dg 4 y = dg 2 (y / 100) ++ dg 2 (y % 100) := by
  simp only [dg, List.cons_append, List.nil_append]
  rw [show y / 10 ^ 3 % 10 = y / 100 / 10 ^ 1 % 10 by omega, show y / 10 ^ 2 % 10 = y / 100 / 10 ^ 0 % 10 by omega, show y / 10 ^ 1 % 10 = y % 100 / 10 ^ 1 % 10 by omega, show y / 10 ^ 0 % 10 = y % 100 / 10 ^ 0 % 10 by omega]

theorem back_two (W : World) (g a b : Nat) (ha : a ≤ 9) (hb : b ≤ 9) (h0 : W.cell? ⟨g, 0, none⟩ = some (.int .u8 (48 + (a : Int)))) (h1 : W.cell? ⟨g, 1, none⟩ = some (.int .u8 (48 + (b : Int)))) :
    (convert 48 9 (.slice (some ⟨g, 0, none⟩) 2 2)).run Tryd.prog W = .ok (.string ⟨[UInt8.ofNat (48 + a), UInt8.ofNat (48 + b)].toArray⟩) W := by
  have := run_convert_bytes_back (P := Tryd.prog) W 48 9 5 ⟨g, 0, none⟩ 2 [UInt8.ofNat (48 + a), UInt8.ofNat (48 + b)] Tryd.underlying48 Tryd.underlying5 Tryd.underlying9 (fun j hj => by
    have e : (⟨g, 0, none⟩ : Addr).add j = ⟨g, j, none⟩ := by unfold Addr.add; split <;> simp_all
    rw [e]
    have hj2 : j = 0 ∨ j = 1 := by simp at hj; omega
    rcases hj2 with rfl | rfl
    · rw [h0]; simp; omega
    · rw [h1]; simp; omega)
  exact this

set_option maxHeartbeats 1000000 in
theorem r_two (n : Nat) (h : n < 100) (w : World) : Calls Tryd.prog 33 #[.int .i64 n] w fun e w' => e = .returned (.string ⟨(dg 2 n).toArray⟩) ∧ Junk w w' := by
  rw [dg2 n h]
  obtain ⟨a, ha⟩ : ∃ a, a = n / 10 := ⟨_, rfl⟩
  obtain ⟨b, hb⟩ : ∃ b, b = n % 10 := ⟨_, rfl⟩
  have e1 : (n : Int).tdiv 10 = (a : Int) := by rw [ha, Int.tdiv_eq_ediv_of_nonneg (by omega)]; omega
  have e2 : (n : Int).tmod 10 = (b : Int) := by rw [hb, Int.tmod_eq_emod_of_nonneg (by omega)]; omega
  have a9 : a ≤ 9 := by omega
  have b9 : b ≤ 9 := by omega
  have e3 : IntKind.u8.wrap (48 + (a : Int)) = 48 + (a : Int) := by simp [IntKind.wrap, IntKind.signed, IntKind.bits]; omega
  have e4 : IntKind.u8.wrap (48 + (b : Int)) = 48 + (b : Int) := by simp [IntKind.wrap, IntKind.signed, IntKind.bits]; omega
  rw [← ha, ← hb]
  have HB := Lib.hid (fun W g h0 h1 => back_two W g a b a9 b9 h0 h1)
  clear ha hb
  go_enter Tryd.func33, Tryd.ntmps33
  go_wp2_with fail
  rw [HB.out _ _ (by simp [go_sem]) (by simp [go_sem])]
  simp only [Result.andThen]
  rw [Oper.upon_value]
  go_wp2
  go_ret
  exact ⟨ret_str (by simp [UInt8.ofNat_add]), junk_of_below (by (repeat' (first | (with_reducible exact Below.refl _ _) | (with_reducible assumption) | (with_reducible refine Below.alloc ?_ ?_ _) | (with_reducible refine Below.drew ?_) | (with_reducible refine below_drewN ?_ _) | (with_reducible refine below_plus ?_ ?_ _ _) | (with_reducible refine Below.setCell ?_ ?_ _) | (with_reducible refine Below.setRow ?_ ?_ _) | go_size)))⟩

set_option maxHeartbeats 4000000 in
theorem r_Text (v y m d : Nat) (hv : Valid y m d) (he : dayOf y m d = v) (w : World) :
    Calls Tryd.prog 22 #[.int .i64 v] w fun e w' => e = .returned (.tuple #[.string ⟨(dateText y m d).toArray⟩, .int .i64 0]) ∧ Junk w w' := by
  have HD := Lib.hid (r_Date v y m d hv he w)
  obtain ⟨y0, y1, m0, m1, d0, d1⟩ := hv
  have d31 := (mlen_bd y m y0 y1 m0 m1).2
  have hd31 : (d : Int) ≤ 31 := by omega
  have H1 := Lib.hid (r_two (y / 100) (by omega))
  have H2 := Lib.hid (r_two (y % 100) (by omega))
  have H3 := Lib.hid (r_two m (by omega))
  have H4 := Lib.hid (r_two d (by omega))
  have hT : dateText y m d = dg 2 (y / 100) ++ dg 2 (y % 100) ++ [45] ++ dg 2 m ++ [45] ++ dg 2 d := by unfold dateText; rw [dg4]
  have HT := Lib.hid hT
  obtain ⟨a, ha⟩ : ∃ a, a = y / 100 := ⟨_, rfl⟩
  obtain ⟨b, hb⟩ : ∃ b, b = y % 100 := ⟨_, rfl⟩
  have e1 : (y : Int).tdiv 100 = (a : Int) := by rw [ha, Int.tdiv_eq_ediv_of_nonneg (by omega)]; omega
  have e2 : (y : Int).tmod 100 = (b : Int) := by rw [hb, Int.tmod_eq_emod_of_nonneg (by omega)]; omega
  have a9 : a ≤ 99 := by omega
  have b9 : b ≤ 99 := by omega
  have wa : IntKind.i64.wrap (a : Int) = a := by simp [IntKind.wrap, IntKind.signed, IntKind.bits]; omega
  have wb : IntKind.i64.wrap (b : Int) = b := by simp [IntKind.wrap, IntKind.signed, IntKind.bits]; omega
  rw [← ha] at H1 HT; rw [← hb] at H2 HT
  have l1 := dg_len 2 a; have l2 := dg_len 2 b; have l3 := dg_len 2 m; have l4 := dg_len 2 d
  generalize dateText y m d = D at *
  generalize dg 2 a = s1 at *
  generalize dg 2 b = s2 at *
  generalize dg 2 m = s3 at *
  generalize dg 2 d = s4 at *
  clear he d1 d31 hT ha hb
  go_enter Tryd.func22, Tryd.ntmps22
  go_wp2_with fail
  refine HD.out.mono ?_; rintro e w' ⟨rfl, J, dr, rfl⟩
  go_wp2_with fail
  refine wp_rq (C := fun w' => ∃ J2 d2, w' = ((w.plus J dr).alloc (.cells #[.int .i64 y, .int .i64 m, .int .i64 d] 26)).plus J2 d2) (by kernel_rfl) (by kernel_rfl) ⟨#[], dr + 1, by unfold World.plus; simp [World.alloc]⟩ ?_
  repeat (refine wpQuiet_step (fun K hK => ?_); go_simp; first | (refine hK _ ?_; clear hK K) | (apply Exists.intro; refine ⟨?_, hK _ ?_⟩; (intro w3_ J3_ d3_ hw3_; subst hw3_; first | (with_reducible exact rfl) | (go_simp; with_reducible exact rfl) | (go_simp; (try rw [wa]); (try rw [wb]); first | ((with_reducible refine (H1.out _).mono ?_); rintro e_ w_ ⟨rfl, J4_, d4_, rfl⟩; exact ⟨rfl, _, _, by rw [plus_plus]⟩) | ((with_reducible refine (H2.out _).mono ?_); rintro e_ w_ ⟨rfl, J4_, d4_, rfl⟩; exact ⟨rfl, _, _, by rw [plus_plus]⟩) | ((with_reducible refine (H3.out _).mono ?_); rintro e_ w_ ⟨rfl, J4_, d4_, rfl⟩; exact ⟨rfl, _, _, by rw [plus_plus]⟩) | ((with_reducible refine (H4.out _).mono ?_); rintro e_ w_ ⟨rfl, J4_, d4_, rfl⟩; exact ⟨rfl, _, _, by rw [plus_plus]⟩))); clear hK K))
  refine wpQuiet_nil ?_
  intro w3 hw3
  obtain ⟨J3, d3, rfl⟩ := hw3
  go_wp2
  go_ret2
  exact ⟨ret_str2 (by rw [HT.out]; simp [ba_app]), junk_of_below (by (repeat' (first | (with_reducible exact Below.refl _ _) | (with_reducible assumption) | (with_reducible refine Below.alloc ?_ ?_ _) | (with_reducible refine Below.drew ?_) | (with_reducible refine below_drewN ?_ _) | (with_reducible refine below_plus ?_ ?_ _ _) | (with_reducible refine Below.setCell ?_ ?_ _) | (with_reducible refine Below.setRow ?_ ?_ _) | go_size)))⟩
theorem r_Text_out (v : Int) (h : ¬ (0 ≤ v ∧ v ≤ 3652058)) (w : World) : Calls Tryd.prog 22 #[.int .i64 v] w fun e w' => e = .returned (.tuple #[.string ⟨#[]⟩, .int .i64 5]) ∧ Junk w w' := by
  have HD := Lib.hid (r_Date_out v h w)
  clear h
  go_enter Tryd.func22, Tryd.ntmps22
  go_wp2_with fail
  refine HD.out.mono ?_; rintro e w' ⟨rfl, J, dr, rfl⟩
  go_wp2
  go_ret2
  exact ⟨rfl, junk_of_below (by (repeat' (first | (with_reducible exact Below.refl _ _) | (with_reducible assumption) | (with_reducible refine Below.alloc ?_ ?_ _) | (with_reducible refine Below.drew ?_) | (with_reducible refine below_drewN ?_ _) | (with_reducible refine below_plus ?_ ?_ _ _) | (with_reducible refine Below.setCell ?_ ?_ _) | (with_reducible refine Below.setRow ?_ ?_ _) | go_size)))⟩
end Go.Proofs.YtpfaalpbfdphaaaDoor

/- The law IndexNear returns true for every input, and every argument reads afterwards as it read before. Conditions: none. -/
import Derived.Test.YthphdiigjimchaaGreatRows
import Derived.Test.YthphdiigjimchaaGreatIyR
import Derived.Test.YthphdiigjimchaaGreatPtArg
import Derived.Test.YthphdiigjimchaaGreatReTwo
import Derived.SizedLaws
import Derived.Test.YthphdiigjimchaaGreatIxMath
import Derived.WalkKit
import Derived.ProofKit
import Derived.OpenShut
import Derived.ShutString
namespace Go.Proofs.YthphdiigjimchaaGreat.indexNear
open Go.ChangeShapes Go.WideShapes Go.ChangeAt Go.RowKit
open Go.ChangeMaps (open_string shut_string)
set_option linter.unusedVariables false
theorem own : ownKnob Tryz.prog.godebug = none := by kernel_rfl
theorem laidOut : laidOutB Tryz.prog = true := by kernel_rfl
theorem walk (a0 : Option Addr) (len0 cap0 : Nat) (x1 y1 : Int) (a2 : Option Addr) (len2 cap2 : Nat) (w : World) (k0 : ∃ L, LRC w a0 len0 cap0 L ∧ ∀ R ∈ L, R.length ≤ 4611686018427387903 ∧ ∀ K ∈ R, K.length ≤ 8796093022208) (s0 : len0 ≤ 4611686018427387903) (k2 : ∃ K, Reads w a2 len2 K) (s2 : len2 ≤ 9223372036854775807) (z2 : a2 = none → len2 = 0 ∧ cap2 = 0) :
    Calls Tryz.prog 6 #[.slice a0 len0 cap0, pt x1 y1, .slice a2 len2 cap2] w fun e w' => e = .returned (.bool true) ∧ Below w.heap.size w w' := by
  obtain ⟨K0, k0⟩ := k0
  obtain ⟨K2, k2⟩ := k2
  exact (l_indexNear w a0 len0 cap0 K0 k0.1 s0 k0.2 x1 y1 a2 len2 cap2 K2 k2 s2 z2).mono fun e w1 ⟨h1, h2⟩ => ⟨h1, h2.below⟩
set_option maxRecDepth 100000 in
theorem lifted (os : Os) (started : os.Started) (H : Type) (enc : TypeId × Value → H) :
    ReturnsInHanded {} Tryz.checked os 6 .any (Rows.indexNearSpec.pre6 enc Tryz.prog Tryz.f6 Rows.indexNearRow.domain false) (Rows.indexNearSpec.post enc Tryz.prog Tryz.f6 false true false false) := by
  refine returnsInHanded_of_change_sized (C := Tryz.checked) own started (by kernel_rfl) Tryz.func6
    (ChangeSpec.witness6 (enc := enc) (C := Tryz.checked) false ⟨#[], #[.slice none 0 0, .agg #[.int .i64 0, .int .i64 0], .slice none 0 0], []⟩ 8 (by kernel_rfl) (by kernel_rfl) (by kernel_rfl) (by kernel_rfl)) ?_
  intro W base args ds gs before hval0 hW hcnd hsz0 _
  have hval : ∀ (j : Nat) t v, Tryz.f6.params[j]? = some t → args[j]? = some v → Value.okWide Tryz.prog W .any base t v := hval0
  have hW' := hW
  obtain ⟨p, q, hA0, hV, rfl, hfz, hnd⟩ := hW
  have hA : DataW.TrodAll enc Tryz.prog W 0 (fun _ => true) true Tryz.f6.params.toList args.toList ds p := hA0
  rw [Tryz.params6] at hA hval
  obtain ⟨v0, vs0, d0, ds0, p0, q0, hargs, rfl, rfl, h0, r0⟩ := trodAll_cons hA
  obtain ⟨v1, vs1, d1, ds1, p1, q1, rfl, rfl, rfl, h1, r1⟩ := trodAll_cons r0
  obtain ⟨v2, vs2, d2, ds2, p2, q2, rfl, rfl, rfl, h2, r2⟩ := trodAll_cons r1
  obtain ⟨rfl, rfl, rfl⟩ := trodAll_nil r2
  obtain rfl : args = #[v0, v1, v2] := by cases args; simp_all
  obtain ⟨rfl, rfl⟩ := trodVars_none hV
  have hsz := hsz0
  rw [Tryz.params6] at hsz
  have e2 := h2
  have lt2 : ∀ x ∈ p2, x.block < W.heap.size := by obtain ⟨m, hm⟩ := e2; exact DataW.trod_lt m _ _ _ hm
  have e1 := h1
  have lt1 : ∀ x ∈ p1, x.block < W.heap.size := by obtain ⟨m, hm⟩ := e1; exact DataW.trod_lt m _ _ _ hm
  have e0 := h0
  have lt0 : ∀ x ∈ p0, x.block < W.heap.size := by obtain ⟨m, hm⟩ := e0; exact DataW.trod_lt m _ _ _ hm
  obtain ⟨a0, len0, cap0, rfl⟩ := okWide_slice Tryz.underlying22 (hval 0 22 v0 rfl rfl)
  have g0 : (∃ L, LRC W a0 len0 cap0 L ∧ ∀ R ∈ L, R.length ≤ 4611686018427387903 ∧ ∀ K ∈ R, K.length ≤ 8796093022208) ∧ len0 ≤ 4611686018427387903 := by
    obtain ⟨fuel, hf⟩ := h0
    obtain ⟨x, l, c, L, hcs, hp, hn, hk⟩ := regions_open hf (fun k hk => by simpa using List.all_eq_true.1 hsz k (DataW.weights_mem_each (j := 0) (t := 22) rfl rfl k hk))
    simp [Value.cells] at hcs
    obtain ⟨rfl, rfl, rfl⟩ := hcs
    exact ⟨⟨L, hp, hk⟩, hn⟩
  obtain ⟨x1, y1, rfl⟩ := open_pt (hval 1 42 v1 rfl rfl) h1
  obtain ⟨a2, len2, cap2, rfl⟩ := okWide_slice Tryz.underlying39 (hval 2 39 v2 rfl rfl)
  have g2 : (∃ K, Reads W a2 len2 K) ∧ len2 ≤ 9223372036854775807 ∧ (a2 = none → len2 = 0 ∧ cap2 = 0) := by
    obtain ⟨fuel, hf⟩ := h2
    obtain ⟨x, l, c, K, hcs, hp, hl, hz⟩ := ints_open hf
    simp [Value.cells] at hcs
    obtain ⟨rfl, rfl, rfl⟩ := hcs
    exact ⟨⟨K, hp⟩, hl, hz⟩
  clear hA0 hval0
  refine (walk a0 len0 cap0 x1 y1 a2 len2 cap2 W g0.1 g0.2 g2.1 g2.2.1 g2.2.2).mono fun e W' ⟨he, bel⟩ => ?_
  subst he
  exact ⟨_, rfl, _, _, _, [], _, _, hW', (trodAll_cons_mk (shut_bool Tryz.underlying4 _) trodAll_mk0), (trodAll_cons_mk (Below.trod laidOut (by kernel_rfl) (of_decide_eq_true (by kernel_rfl)) e0 bel lt0) (trodAll_cons_mk (Below.trod laidOut (by kernel_rfl) (of_decide_eq_true (by kernel_rfl)) e1 bel lt1) (trodAll_cons_mk (Below.trod laidOut (by kernel_rfl) (of_decide_eq_true (by kernel_rfl)) e2 bel lt2) trodAll_mk0))), rfl, bel.frame _, fun h => by cases h⟩
theorem over : Rows.indexNearRow.holds Tryz.pinned (OpenSpec.ofChange Rows.indexNearSpec) :=
  OpenClaim.holds_of_wide 6 Tryz.f6 rfl rfl rfl rfl rfl rfl rfl ⟨rfl, rfl, rfl, rfl, rfl⟩ rfl rfl rfl rfl rfl (by kernel_rfl) Tryz.func6 (by kernel_rfl)
    (of_decide_eq_true (by kernel_rfl)) (by unfold Func.isWrapper; first | (rw [if_pos (by decide +kernel)]; kernel_rfl) | (rw [if_neg (by decide +kernel)]; exact ⟨rfl, rfl⟩))
    (fun os started H enc _ => lifted os started H enc)
theorem proved : Rows.IndexNearSaid :=
  over
#print axioms proved
end Go.Proofs.YthphdiigjimchaaGreat.indexNear

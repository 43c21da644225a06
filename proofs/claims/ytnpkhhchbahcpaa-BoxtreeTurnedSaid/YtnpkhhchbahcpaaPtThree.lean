/- Contracts of package point: the four methods of extent. The least box with points: mathematics. No program. Contract of point.Bounds. Contract of point.Bounds. Contract of apportionref07.Bounds. -/
import Derived.Test.YtnpkhhchbahcpaaPtOne
import Derived.Test.YtnpkhhchbahcpaaKitOne
namespace Go.Proofs.Ytnpkhhchbahcpaa
section
set_option linter.unusedVariables false
set_option linter.unusedSimpArgs false
open Go.RowKit

/-- The four cells of an extent, or of a box. -/
def xcells (lx ly hx hy : Int) : Array Value := #[.int .i64 lx, .int .i64 ly, .int .i64 hx, .int .i64 hy]
theorem turned_set {w : World} {b : Nat} {c : Array Value} (i : Nat) {v : Value} (h : w.rowAt b = some c) {W : World} (hj : Junk (w.setCell ⟨b, i, none⟩ v) W) : Turned b (c.setIfInBounds i v) w W := by
  unfold Turned; rw [← set1 h]; exact hj

theorem results_box {fn : Func} {p : Tmp} (h : fn.results = #[.cell p 33]) (tmps : Array Value) (w : World) (g : Nat) (c : Array Value)
    (hp : tmps.getD p undef = .pointer (some ⟨g, 0, none⟩)) (hr : w.rowAt g = some c) (hc : c.size = 4) : (results fn tmps).run Try.prog w = .ok (.agg c) w := by
  obtain ⟨ty, hg⟩ := rowAt_some hr
  have hp' : tmps[p]?.getD undef = .pointer (some ⟨g, 0, none⟩) := by simpa using hp
  simp [results, h, hp', asAddr, run_loadVar_row w g ty _ c (0, 0) _ hg Try.underlying33 rfl (by rw [hc]; kernel_rfl)]
theorem results_box2 {fn : Func} {p t : Tmp} (h : fn.results = #[.cell p 33, .tmp t]) (tmps : Array Value) (w : World) (g : Nat) (c : Array Value)
    (hp : tmps.getD p undef = .pointer (some ⟨g, 0, none⟩)) (hr : w.rowAt g = some c) (hc : c.size = 4) : (results fn tmps).run Try.prog w = .ok (.tuple #[.agg c, tmps.getD t undef]) w := by
  obtain ⟨ty, hg⟩ := rowAt_some hr
  have hp' : tmps[p]?.getD undef = .pointer (some ⟨g, 0, none⟩) := by simpa using hp
  simp [results, h, hp', asAddr, run_loadVar_row w g ty _ c (0, 0) _ hg Try.underlying33 rfl (by rw [hc]; kernel_rfl)]
end

section
set_option linter.unusedVariables false
set_option linter.unusedSimpArgs false
open Go.RowKit

/-- The least and greatest numbers of the first so many points, from the first point's on. -/
def lxF (K : List (Int × Int)) (m : Nat) : Int := (K.take m).foldl (fun s p => min s p.1) (K.getD 0 (0, 0)).1
def lyF (K : List (Int × Int)) (m : Nat) : Int := (K.take m).foldl (fun s p => min s p.2) (K.getD 0 (0, 0)).2
def hxF (K : List (Int × Int)) (m : Nat) : Int := (K.take m).foldl (fun s p => max s p.1) (K.getD 0 (0, 0)).1
def hyF (K : List (Int × Int)) (m : Nat) : Int := (K.take m).foldl (fun s p => max s p.2) (K.getD 0 (0, 0)).2
theorem fold_snoc {K : List (Int × Int)} {k : Nat} {x y : Int} (hk : k < K.length) (h : K.getD k (0, 0) = (x, y)) (f : Int → Int × Int → Int) (s : Int) : (K.take (k + 1)).foldl f s = f ((K.take k).foldl f s) (x, y) := by
  rw [List.take_succ_eq_append_getElem hk, List.foldl_append]
  rw [List.getD_eq_getElem?_getD, List.getElem?_eq_getElem hk] at h
  simp at h
  simp [h]
section
variable {K : List (Int × Int)} {k : Nat} {x y : Int}
theorem lx_step (hk : k < K.length) (h : K.getD k (0, 0) = (x, y)) : lxF K (k + 1) = min (lxF K k) x := fold_snoc hk h _ _
theorem ly_step (hk : k < K.length) (h : K.getD k (0, 0) = (x, y)) : lyF K (k + 1) = min (lyF K k) y := fold_snoc hk h _ _
theorem hx_step (hk : k < K.length) (h : K.getD k (0, 0) = (x, y)) : hxF K (k + 1) = max (hxF K k) x := fold_snoc hk h _ _
theorem hy_step (hk : k < K.length) (h : K.getD k (0, 0) = (x, y)) : hyF K (k + 1) = max (hyF K k) y := fold_snoc hk h _ _
end
theorem x0 (K : List (Int × Int)) : xcells (lxF K 0) (lyF K 0) (hxF K 0) (hyF K 0) = xcells (K.getD 0 (0, 0)).1 (K.getD 0 (0, 0)).2 (K.getD 0 (0, 0)).1 (K.getD 0 (0, 0)).2 := by
  simp [lxF, lyF, hxF, hyF]

theorem fold_inv (P : Int → Prop) (f : Int → Int × Int → Int) : ∀ (L : List (Int × Int)) (s : Int), P s → (∀ m p, p ∈ L → P m → P (f m p)) → P (L.foldl f s)
  | [], s, h, _ => h
  | p :: L, s, h, hs => fold_inv P f L (f s p) (hs s p (by simp) h) fun m q hq hm => hs m q (by simp [hq]) hm
theorem allOk_at {K : List (Int × Int)} (h : allOk K = true) {p : Int × Int} (hp : p ∈ K) : okP p.1 p.2 = true := by
  unfold allOk at h
  exact List.all_eq_true.1 h p hp
theorem mem0 {K : List (Int × Int)} (h : 0 < K.length) : K.getD 0 (0, 0) ∈ K := by
  rw [List.getD_eq_getElem?_getD, List.getElem?_eq_getElem h]
  exact List.getElem_mem h
theorem hx_ok {K : List (Int × Int)} (h : allOk K = true) (h0 : 0 < K.length) (m : Nat) : -1099511627775 ≤ hxF K m ∧ hxF K m ≤ 1099511627775 := by
  unfold hxF
  refine fold_inv (fun s => -1099511627775 ≤ s ∧ s ≤ 1099511627775) _ _ _ (okP_iff.1 (allOk_at h (mem0 h0))).1 fun s p hp hs => ?_
  have := (okP_iff.1 (allOk_at h (List.mem_of_mem_take hp))).1
  omega
theorem hy_ok {K : List (Int × Int)} (h : allOk K = true) (h0 : 0 < K.length) (m : Nat) : -1099511627775 ≤ hyF K m ∧ hyF K m ≤ 1099511627775 := by
  unfold hyF
  refine fold_inv (fun s => -1099511627775 ≤ s ∧ s ≤ 1099511627775) _ _ _ (okP_iff.1 (allOk_at h (mem0 h0))).2 fun s p hp hs => ?_
  have := (okP_iff.1 (allOk_at h (List.mem_of_mem_take hp))).2
  omega
theorem lx_ok {K : List (Int × Int)} (h : allOk K = true) (h0 : 0 < K.length) (m : Nat) : -1099511627775 ≤ lxF K m ∧ lxF K m ≤ 1099511627775 := by
  unfold lxF
  refine fold_inv (fun s => -1099511627775 ≤ s ∧ s ≤ 1099511627775) _ _ _ (okP_iff.1 (allOk_at h (mem0 h0))).1 fun s p hp hs => ?_
  have := (okP_iff.1 (allOk_at h (List.mem_of_mem_take hp))).1
  omega
theorem ly_ok {K : List (Int × Int)} (h : allOk K = true) (h0 : 0 < K.length) (m : Nat) : -1099511627775 ≤ lyF K m ∧ lyF K m ≤ 1099511627775 := by
  unfold lyF
  refine fold_inv (fun s => -1099511627775 ≤ s ∧ s ≤ 1099511627775) _ _ _ (okP_iff.1 (allOk_at h (mem0 h0))).2 fun s p hp hs => ?_
  have := (okP_iff.1 (allOk_at h (List.mem_of_mem_take hp))).2
  omega

/-- Have points a box, and which. -/
def bndOk (K : List (Int × Int)) : Bool := decide (0 < K.length) && allOk K
def boxF (K : List (Int × Int)) : Int × Int × Int × Int := if bndOk K then (lxF K K.length, lyF K K.length, hxF K K.length + 1, hyF K K.length + 1) else (0, 0, 0, 0)
def boxV (K : List (Int × Int)) : Value := bxV (boxF K).1 (boxF K).2.1 (boxF K).2.2.1 (boxF K).2.2.2
theorem boxV_none {K : List (Int × Int)} (h : bndOk K = false) : boxV K = .agg #[.int .i64 0, .int .i64 0, .int .i64 0, .int .i64 0] := by
  unfold boxV boxF; rw [h]; rfl
theorem boxV_some {K : List (Int × Int)} (h : bndOk K = true) : boxV K = bxV (lxF K K.length) (lyF K K.length) (hxF K K.length + 1) (hyF K K.length + 1) := by
  unfold boxV boxF; rw [h]; rfl
end

section
set_option linter.unusedVariables false
set_option linter.unusedSimpArgs false
open Go.RowKit

/-- How far each number's walk is, when the first j are done and the next is at k. -/
def cnt (n j k i : Nat) : Nat := if i < j then n else if i = j then k else 0
def stF (K : List (Int × Int)) (j k : Nat) : Array Value := xcells (lxF K (cnt K.length j k 0)) (lyF K (cnt K.length j k 1)) (hxF K (cnt K.length j k 2)) (hyF K (cnt K.length j k 3))
theorem st_next (K : List (Int × Int)) (j : Nat) : stF K j K.length = stF K (j + 1) 0 := by
  have h : ∀ i, cnt K.length j K.length i = cnt K.length (j + 1) 0 i := by
    intro i
    unfold cnt
    repeat' split
    all_goals omega
  unfold stF
  simp only [h]
section
variable {K : List (Int × Int)} {k : Nat} {x y : Int} (hk : k < K.length) (h : K.getD k (0, 0) = (x, y))
include hk h
theorem st_0 : stF K 0 (k + 1) = xcells (min (lxF K k) x) (lyF K 0) (hxF K 0) (hyF K 0) := by simp [stF, cnt, lx_step hk h]
theorem st_1 : stF K 1 (k + 1) = xcells (lxF K K.length) (min (lyF K k) y) (hxF K 0) (hyF K 0) := by simp [stF, cnt, ly_step hk h]
theorem st_2 : stF K 2 (k + 1) = xcells (lxF K K.length) (lyF K K.length) (max (hxF K k) x) (hyF K 0) := by simp [stF, cnt, hx_step hk h]
theorem st_3 : stF K 3 (k + 1) = xcells (lxF K K.length) (lyF K K.length) (hxF K K.length) (max (hyF K k) y) := by simp [stF, cnt, hy_step hk h]
end
theorem st0 (K : List (Int × Int)) (k : Nat) : stF K 0 k = xcells (lxF K k) (lyF K 0) (hxF K 0) (hyF K 0) := by simp [stF, cnt]
theorem st1 (K : List (Int × Int)) (k : Nat) : stF K 1 k = xcells (lxF K K.length) (lyF K k) (hxF K 0) (hyF K 0) := by simp [stF, cnt]
theorem st2 (K : List (Int × Int)) (k : Nat) : stF K 2 k = xcells (lxF K K.length) (lyF K K.length) (hxF K k) (hyF K 0) := by simp [stF, cnt]
theorem st3 (K : List (Int × Int)) (k : Nat) : stF K 3 k = xcells (lxF K K.length) (lyF K K.length) (hxF K K.length) (hyF K k) := by simp [stF, cnt]
theorem st4 (K : List (Int × Int)) : stF K 4 0 = xcells (lxF K K.length) (lyF K K.length) (hxF K K.length) (hyF K K.length) := by simp [stF, cnt]
end

section
set_option linter.unusedVariables false
set_option linter.unusedSimpArgs false
open Go.RowKit
end

section
set_option linter.unusedVariables false
set_option linter.unusedSimpArgs false
open Go.RowKit

/-- Between two rounds: the box's block is the last of a world, and others lie behind. -/
def RefW (w2 : World) (K : List (Int × Int)) (k : Nat) (wr : World) : Prop := Junk (w2.alloc (.cells (xcells (lxF K k) (lyF K k) (hxF K k) (hyF K k)) 33)) wr
def RefAt (w2 : World) (K : List (Int × Int)) (i : Value) (wr : World) : Prop := ∃ k : Nat, i = .int .i64 (k : Int) ∧ k ≤ K.length ∧ allOk (K.take k) = true ∧ RefW w2 K k wr
theorem ref_next {w2 : World} {K : List (Int × Int)} {k : Nat} {a b c d : Int} {wr : World} (h : Junk (w2.alloc (.cells #[.int .i64 a, .int .i64 b, .int .i64 c, .int .i64 d] 33)) wr)
    (h1 : lxF K k = a) (h2 : lyF K k = b) (h3 : hxF K k = c) (h4 : hyF K k = d) : RefW w2 K k wr := by
  unfold RefW
  rw [h1, h2, h3, h4]
  exact h
end
end Go.Proofs.Ytnpkhhchbahcpaa

/- Contract of token's newClasses. -/
import Derived.Test.YtpoahdfhhnlghaaTkR
import Derived.Laws.ResultCell
namespace Go.Proofs.Ytpoahdfhhnlghaa
set_option linter.unusedVariables false
set_option linter.unusedSimpArgs false
open Go.RowKit

/-- The classes of bytes. -/
def lineN (n : Nat) : Bool := decide (n = 9 ∨ (32 ≤ n ∧ n ≤ 126))
def clsF (i : Nat) : Nat := if letN i then 65 else if digN i then 48 else if joinN i then 45 else if i = 44 then 44 else if i = 35 then 35 else if lineN i then 32 else 0
/-- The constant text of classes. -/
def prtL : List UInt8 := [32, 32, 32, 35, 32, 32, 32, 45, 32, 32, 32, 32, 44, 45, 45, 45, 48, 48, 48, 48, 48, 48, 48, 48, 48, 48, 32, 32, 32, 32, 32, 32, 32, 65, 65, 65, 65, 65, 65, 65, 65, 65, 65, 65, 65, 65, 65, 65, 65, 65, 65, 65, 65, 65, 65, 65, 65, 65, 65, 32, 32, 32, 32, 32, 32, 65, 65, 65, 65, 65, 65, 65, 65, 65, 65, 65, 65, 65, 65, 65, 65, 65, 65, 65, 65, 65, 65, 65, 65, 65, 65, 32, 32, 32, 32]
def tabC (k i : Nat) : Nat := if 32 ≤ i ∧ i < 32 + k then byteAt prtL (i - 32) else 0
theorem cls_row : urow (fun i => if i = 9 then 32 else tabC 95 i) 256 = urow clsF 256 := by
  refine urow_congr fun i hi => ?_
  have h : (List.range 256).all (fun i => decide ((if i = 9 then 32 else tabC 95 i) = clsF i)) = true := by kernel_rfl
  have := List.all_eq_true.1 h i (List.mem_range.2 hi)
  exact of_decide_eq_true this
theorem tabc_step (k : Nat) : (urow (tabC k) 256).setIfInBounds (32 + k) (.int .u8 (byteAt prtL k : Nat)) = urow (tabC (k + 1)) 256 := by
  rw [urow_set]
  refine urow_congr fun i _ => ?_
  unfold tabC
  by_cases h : i = 32 + k
  · subst h; rw [if_pos rfl, if_pos (by omega)]; congr 1; omega
  · rw [if_neg h]
    by_cases h2 : 32 ≤ i ∧ i < 32 + k
    · rw [if_pos h2, if_pos (by omega)]
    · rw [if_neg h2, if_neg (by omega)]
theorem urow_one (g : Nat → Nat) (n : Nat) : (urow g n).all (·.oneCell') = true := by simp [urow, Value.oneCell']
theorem zero_cls (w : World) : (zeroValue 47).run Try.prog w = .ok (.agg (urow (tabC 0) 256)) w := by
  have h : (Try.prog.info? 47).map (·.zero) = some (some (.agg (urow (fun _ => 0) 256))) := by kernel_rfl
  rw [show urow (tabC 0) 256 = urow (fun _ => 0) 256 from urow_congr fun i _ => if_neg (by omega)]
  cases hi : Try.prog.info? 47 with
  | none => rw [hi] at h; cases h
  | some i =>
    rw [hi] at h
    simp at h
    simp [zeroValue, typeInfo, hi, h]
def clsV : Value := .agg (urow clsF 256)
/-- A table read out of its block; written into it; the end of a function that answers one. -/
theorem wpList_cls_load {ops : Array Oper} {rest : List Oper} {o : Oper} {a : Act} {w : World} {Q : Exit → Act → World → Prop} (hgd : o.guard = none) (x : Operand) (ho : o.op = .load 47 x)
    (g : Nat) (hx : a.eval x = .pointer (some ⟨g, 0, none⟩)) (C : Array Value) (hr : w.rowAt g = some C) (hc : C.size = 256)
    (h : wpList Try.prog ops Q rest (a.put o.dst (.agg C)) w) : wpList Try.prog ops Q (o :: rest) a w := by
  obtain ⟨t, hg⟩ := rowAt_some hr
  exact wpList_load_row hgd _ x ho g hx t C (0, 0) _ hg Try.underlying47 rfl (by rw [hc]; kernel_rfl) h
theorem wpList_cls_store {ops : Array Oper} {rest : List Oper} {o : Oper} {a : Act} {w : World} {Q : Exit → Act → World → Prop} (hgd : o.guard = none) (x y : Operand) (ho : o.op = .store 47 x y)
    (g : Nat) (hx : a.eval x = .pointer (some ⟨g, 0, none⟩)) (f : Nat → Nat) (hy : a.eval y = .agg (urow f 256)) (c : Array Value) (hr : w.rowAt g = some c) (hc : c.size = 256)
    (h : wpList Try.prog ops Q rest (a.put o.dst undef) (w.setRow g (urow f 256))) : wpList Try.prog ops Q (o :: rest) a w := by
  obtain ⟨t, hg⟩ := rowAt_some hr
  exact wpList_plain hgd fun _ hK => wp_store_row _ x y ho g (urow f 256) hx hy t c hg (by rw [size_urow]; kernel_rfl) (by rw [size_urow, hc]) (urow_one _ _) (hK _ _ h)
theorem bodyPost_cls {fn : Func} {R : Ending → World → Prop} {a : Act} {w : World} (p : Tmp) (h : fn.results = #[.cell p 47]) (g : Nat)
    (hp : a.tmps.getD p undef = .pointer (some ⟨g, 0, none⟩)) (C : Array Value) (hr : w.rowAt g = some C) (hc : C.size = 256) (hd : a.defers = [])
    (hR : R (.returned (.agg C)) w) : bodyPost Try.prog fn R .ret a w := by
  obtain ⟨t, hg⟩ := rowAt_some hr
  exact bodyPost_ret (results_cell_row h _ _ g t C (0, 0) _ hp hg Try.underlying47 rfl (by rw [hc]; kernel_rfl)) hd hR
set_option maxRecDepth 100000 in
set_option maxHeartbeats 1000000 in
theorem n_tkClasses (w : World) : Calls Try.prog 24 #[] w fun e w' => e = .returned clsV ∧ Junk w w' := by
  have hz := zero_cls
  go_enter Try.func24, Try.ntmps24
  go_wp2_with fail
  go_loopw [3, 2] (fun i _ wr => ∃ k : Nat, i = .int .i64 (k : Int) ∧ k ≤ 95 ∧ wr = (w.alloc (.cells (urow (tabC 0) 256) 47)).alloc (.cells (urow (tabC k) 256) 47)) (fun i _ _ => 95 - (intOf i).toNat)
  case atStart => exact ⟨0, rfl, by omega, rfl⟩
  case round =>
    obtain ⟨k, rfl, k1, rfl⟩ := hrel
    by_cases hlt : k < 95
    · have HT := Lib.hid (tabc_step k)
      generalize hC0 : urow (tabC 0) 256 = C0 at *
      generalize hC : urow (tabC k) 256 = C at *
      have hsz : C.size = 256 := by rw [← hC]; simp
      have hck : C[32 + k]? = some (.int .u8 ((tabC k (32 + k) : Nat) : Int)) := by rw [← hC]; exact urow_get _ _ _ (by omega)
      clear hC
      go_wp2_with fail
      go_roundw
      case rel => exact ⟨k + 1, by go_num, by omega, by rw [← HT.out]; rfl⟩
      case measure => simp [intOf]; omega
    · obtain rfl : k = 95 := by omega
      have HT := Lib.hid (show (urow (tabC 95) 256).setIfInBounds 9 (.int .u8 32) = urow clsF 256 by rw [← cls_row]; exact urow_set _ _ 9 32)
      have hck : (urow (tabC 95) 256)[9]? = some (.int .u8 ((tabC 95 9 : Nat) : Int)) := urow_get _ _ _ (by omega)
      generalize hC0 : urow (tabC 0) 256 = C0 at *
      generalize hC : urow (tabC 95) 256 = C at *
      have hsz0 : C0.size = 256 := by rw [← hC0]; simp
      have hsz : C.size = 256 := by rw [← hC]; simp
      clear hC
      go_wp2_with (first
        | (refine wpList_cls_load rfl _ rfl _ rfl (urow clsF 256) (by simp [go_sem]; exact HT.out) (size_urow _ _) ?_)
        | (refine wpList_cls_store rfl _ _ rfl _ rfl clsF rfl C0 (by simp [go_sem]) hsz0 ?_))
      refine bodyPost_cls 0 rfl w.heap.size rfl (urow clsF 256) (by simp [go_sem]) (size_urow _ _) rfl ⟨rfl, junk_of_below (by (repeat' first | with_reducible (first | apply Below.refl | assumption | apply bw_a | apply bw_d | apply bw_n | apply bw_p | apply bw_c | apply bw_r) | go_size))⟩
end Go.Proofs.Ytpoahdfhhnlghaa

/- A block lies below the size of a world that has grown behind it: one law for each number of steps. No program. -/
import Derived.Test.YtlhknnjnccjgfaaPlus
namespace Go.Proofs.Ytlhknnjnccjgfaa
set_option linter.unusedVariables false
set_option linter.unusedSimpArgs false
open Go.RowKit
@[go_sem] theorem ltx_1 (a x0 : Nat) : a < a + 1 + x0 := by omega
@[go_sem] theorem ltx_2 (a x0 x1 : Nat) : a < a + 1 + x0 + x1 := by omega
@[go_sem] theorem ltx_3 (a x0 x1 x2 : Nat) : a < a + 1 + x0 + x1 + x2 := by omega
@[go_sem] theorem ltx_4 (a x0 x1 x2 x3 : Nat) : a < a + 1 + x0 + x1 + x2 + x3 := by omega
@[go_sem] theorem ltx_5 (a x0 x1 x2 x3 x4 : Nat) : a < a + 1 + x0 + x1 + x2 + x3 + x4 := by omega
@[go_sem] theorem ltx_6 (a x0 x1 x2 x3 x4 x5 : Nat) : a < a + 1 + x0 + x1 + x2 + x3 + x4 + x5 := by omega
@[go_sem] theorem ltx_7 (a x0 x1 x2 x3 x4 x5 x6 : Nat) : a < a + 1 + x0 + x1 + x2 + x3 + x4 + x5 + x6 := by omega
@[go_sem] theorem ltx_8 (a x0 x1 x2 x3 x4 x5 x6 x7 : Nat) : a < a + 1 + x0 + x1 + x2 + x3 + x4 + x5 + x6 + x7 := by omega
@[go_sem] theorem ltx_9 (a x0 x1 x2 x3 x4 x5 x6 x7 x8 : Nat) : a < a + 1 + x0 + x1 + x2 + x3 + x4 + x5 + x6 + x7 + x8 := by omega
@[go_sem] theorem ltx_10 (a x0 x1 x2 x3 x4 x5 x6 x7 x8 x9 : Nat) : a < a + 1 + x0 + x1 + x2 + x3 + x4 + x5 + x6 + x7 + x8 + x9 := by omega
@[go_sem] theorem ltx_11 (a x0 x1 x2 x3 x4 x5 x6 x7 x8 x9 x10 : Nat) : a < a + 1 + x0 + x1 + x2 + x3 + x4 + x5 + x6 + x7 + x8 + x9 + x10 := by omega
@[go_sem] theorem ltx_12 (a x0 x1 x2 x3 x4 x5 x6 x7 x8 x9 x10 x11 : Nat) : a < a + 1 + x0 + x1 + x2 + x3 + x4 + x5 + x6 + x7 + x8 + x9 + x10 + x11 := by omega
@[go_sem] theorem ltx_13 (a x0 x1 x2 x3 x4 x5 x6 x7 x8 x9 x10 x11 x12 : Nat) : a < a + 1 + x0 + x1 + x2 + x3 + x4 + x5 + x6 + x7 + x8 + x9 + x10 + x11 + x12 := by omega
@[go_sem] theorem ltx_14 (a x0 x1 x2 x3 x4 x5 x6 x7 x8 x9 x10 x11 x12 x13 : Nat) : a < a + 1 + x0 + x1 + x2 + x3 + x4 + x5 + x6 + x7 + x8 + x9 + x10 + x11 + x12 + x13 := by omega
@[go_sem] theorem ltx_15 (a x0 x1 x2 x3 x4 x5 x6 x7 x8 x9 x10 x11 x12 x13 x14 : Nat) : a < a + 1 + x0 + x1 + x2 + x3 + x4 + x5 + x6 + x7 + x8 + x9 + x10 + x11 + x12 + x13 + x14 := by omega
@[go_sem] theorem ltb_2 {a b x0 x1 : Nat} (h : b < a) : b < a + x0 + x1 := by omega
@[go_sem] theorem ltb_3 {a b x0 x1 x2 : Nat} (h : b < a) : b < a + x0 + x1 + x2 := by omega
@[go_sem] theorem ltb_4 {a b x0 x1 x2 x3 : Nat} (h : b < a) : b < a + x0 + x1 + x2 + x3 := by omega
@[go_sem] theorem ltb_5 {a b x0 x1 x2 x3 x4 : Nat} (h : b < a) : b < a + x0 + x1 + x2 + x3 + x4 := by omega
@[go_sem] theorem ltb_6 {a b x0 x1 x2 x3 x4 x5 : Nat} (h : b < a) : b < a + x0 + x1 + x2 + x3 + x4 + x5 := by omega
@[go_sem] theorem ltb_7 {a b x0 x1 x2 x3 x4 x5 x6 : Nat} (h : b < a) : b < a + x0 + x1 + x2 + x3 + x4 + x5 + x6 := by omega
@[go_sem] theorem ltb_8 {a b x0 x1 x2 x3 x4 x5 x6 x7 : Nat} (h : b < a) : b < a + x0 + x1 + x2 + x3 + x4 + x5 + x6 + x7 := by omega
@[go_sem] theorem ltb_9 {a b x0 x1 x2 x3 x4 x5 x6 x7 x8 : Nat} (h : b < a) : b < a + x0 + x1 + x2 + x3 + x4 + x5 + x6 + x7 + x8 := by omega
@[go_sem] theorem ltb_10 {a b x0 x1 x2 x3 x4 x5 x6 x7 x8 x9 : Nat} (h : b < a) : b < a + x0 + x1 + x2 + x3 + x4 + x5 + x6 + x7 + x8 + x9 := by omega
end Go.Proofs.Ytlhknnjnccjgfaa

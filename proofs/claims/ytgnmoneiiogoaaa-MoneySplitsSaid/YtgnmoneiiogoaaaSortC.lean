/- sort.SliceStable over a row of indices that rise, by a 'less' that compares what f says of two indices: the row is put in the order of f, of equal ones the lower index first. -/
import Derived.Test.YtgnmoneiiogoaaaStab
import Derived.Test.YtgnmoneiiogoaaaShelfS
namespace Go.Proofs.Ytgnmoneiiogoaaa
set_option linter.unusedVariables false
set_option linter.unusedSimpArgs false
open Go.Shelf Go.RowKit Go.Lib Go.Sort

def encN {z : Nat} (n : Fin (z + 1)) : Value := .int .i64 n.val

noncomputable def siT : TypeInfo := (Try.prog.info? 29).get (by kernel_rfl)
noncomputable def siE : TypeInfo := (Try.prog.info? 3).get (by kernel_rfl)
theorem siK (n : Nat) (h2 : 2 ≤ n) : Lib.swapperK n siE 2 = 5 := by
  have a : siE.hasPointers = false := by kernel_rfl
  have b : siE.bytes = 8 := by kernel_rfl
  have c : (n == 0) = false := by simp; omega
  have d : (n == 1) = false := by simp; omega
  simp [Lib.swapperK, a, b, c, d]
theorem siK0 : Lib.swapperK 0 siE 2 = 1 := by
  have a : siE.hasPointers = false := by kernel_rfl
  have b : siE.bytes = 8 := by kernel_rfl
  simp [Lib.swapperK, a, b]
theorem siK1 : Lib.swapperK 1 siE 2 = 2 := by
  have a : siE.hasPointers = false := by kernel_rfl
  have b : siE.bytes = 8 := by kernel_rfl
  simp [Lib.swapperK, a, b]

theorem s_SliceStable {z : Nat} (f : Nat → Int) (g : Nat) (lb : Array Value) (eg : ∀ args w, (callFunc g args).run Try.prog w = .ok (.enter g args) w) (blk c : Nat) (d : Array (Fin (z + 1))) (h2 : 2 ≤ d.size) (h20 : d.size ≤ 20)
    (hd : ∀ i, i < d.size → d[i]!.val = i) (w : World) (hless : LessReads Try.prog g lb (encN (z := z)) (ltr (z := z) f) blk 0 d.size w) (hH : Holds encN w blk 0 d) (hblk : blk < w.heap.size) :
    Calls Try.prog 55 #[.iface 29 (.slice (some ⟨blk, 0, none⟩) d.size c), .func (.func g) #[] lb] w fun e w' =>
      e = .returned (.tuple #[]) ∧ ∃ d' n os, PermIn 0 d.size d d' ∧ SL f 0 d.size d' ∧ w' = Sort.grow (putRow encN (Sort.ahead w n) blk 0 d') os := by
  have hS := Any.sort_SliceStable_small Try.laysGt8 29 3 siT siE (by kernel_rfl) (by kernel_rfl) (by kernel_rfl) (by kernel_rfl) 2 (fun _ => by kernel_rfl) (by kernel_rfl) (fun _ => by kernel_rfl) encN (fun _ => rfl) (ltr f) g lb
    eg blk 0 c d h2 h20 73 (by rw [siK _ h2]; kernel_rfl) true
    (fun args W => run_callFunc_extern Try.func73 (by kernel_rfl) (by kernel_rfl) (by kernel_rfl) (e := Extern.ReflectliteSwapper.swap true) (by kernel_rfl) args W) w hless hH hblk
  change Calls Try.prog 55 _ _ _ at hS
  obtain ⟨p1, p2⟩ := ins_stable f d 0 d.size (Nat.zero_le _) (Nat.le_refl _) (fun i _ h => hd i h)
  refine hS.mono ?_
  rintro e w' ⟨rfl, n, os, rfl⟩
  exact ⟨rfl, _, n, os, p1, p2, rfl⟩

theorem s_SliceStable_tiny (p : Option Addr) (n c : Nat) (hn : n ≤ 1) (g : Nat) (lb : Array Value) (w : World) :
    Calls Try.prog 55 #[.iface 29 (.slice p n c), .func (.func g) #[] lb] w fun e w' => e = .returned (.tuple #[]) ∧ ∃ os, w' = Sort.grow w os := by
  rcases Nat.lt_or_ge n 1 with h | h
  · obtain rfl : n = 0 := by omega
    exact Any.sort_SliceStable_tiny Try.laysGt8 29 3 siT siE (by kernel_rfl) (by kernel_rfl) (by kernel_rfl) (by kernel_rfl) 2 (fun _ => by kernel_rfl) p 0 c hn 69 (by rw [siK0]; kernel_rfl) (.func g) #[] lb w
  · obtain rfl : n = 1 := by omega
    exact Any.sort_SliceStable_tiny Try.laysGt8 29 3 siT siE (by kernel_rfl) (by kernel_rfl) (by kernel_rfl) (by kernel_rfl) 2 (fun _ => by kernel_rfl) p 1 c hn 70 (by rw [siK1]; kernel_rfl) (.func g) #[] lb w
end Go.Proofs.Ytgnmoneiiogoaaa

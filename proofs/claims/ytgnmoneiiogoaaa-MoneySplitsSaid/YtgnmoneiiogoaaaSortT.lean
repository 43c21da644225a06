/- sort's swapRange_func, rotate_func, symMerge_func, stable_func and SliceStable over a row of indices of any length: contracts in worlds that part from the first by the row, draws and new blocks alone. -/
import Derived.Test.YtgnmoneiiogoaaaSortC
import Derived.Lib.Hide
import Derived.WalkSmall
import Derived.Deep.DeepCutAuto
namespace Go.Proofs.Ytgnmoneiiogoaaa
set_option linter.unusedVariables false
set_option linter.unusedSimpArgs false
open Go.Shelf Go.RowKit Go.Lib Go.Sort

/-- What is asked of the row, of 'less' and of 'swap' in a world. -/
structure Cx (f : Nat → Int) (g : Nat) (lb : Array Value) (sf : Nat) (sb : Array Value) (blk : Nat) {z : Nat} (size : Nat) (W : World) (d : Array (Fin (z + 1))) : Prop where
  eg : ∀ args w, (callFunc g args).run Try.prog w = .ok (.enter g args) w
  less : LessReads Try.prog g lb (encN (z := z)) (ltr (z := z) f) blk 0 size W
  swap : SwapSwaps Try.prog sf sb (encN (z := z)) blk 0 size
  holds : Sort.Holds (encN (z := z)) W blk 0 d
  lt : blk < W.heap.size
  sz : d.size = size
  big : size < 1099511627776

section
variable {f : Nat → Int} {g : Nat} {lb : Array Value} {sf : Nat} {sb : Array Value} {blk z size : Nat} {W W' W'' : World} {d d' d'' : Array (Fin (z + 1))}

theorem Cx.next (h : Cx f g lb sf sb blk size W d) (hs : SW (encN (z := z)) W blk 0 d' W') (hd : d'.size = size) : Cx f g lb sf sb blk size W' d' where
  eg := h.eg
  less := hs.lessReads h.less h.lt hd
  swap := h.swap
  holds := hs.holds h.lt h.holds (by rw [hd, h.sz])
  lt := hs.lt h.lt
  sz := hd
  big := h.big
theorem SW.trans (h : SW (encN (z := z)) W blk 0 d W') (hl : blk < W.heap.size) (hs : SW (encN (z := z)) W' blk 0 d' W'') (hd : d'.size = d.size) : SW (encN (z := z)) W blk 0 d' W'' := by
  obtain ⟨n, os, rfl⟩ := hs
  exact h.on hl n d' os hd
theorem Cx.start (h : Cx f g lb sf sb blk size W d) : SW (encN (z := z)) W blk 0 d W := SW.start h.holds
theorem Cx.box (h : Cx f g lb sf sb blk size W d) (o : Obj) : SW (encN (z := z)) W blk 0 d (W.alloc o) := h.start.alloc o
theorem SW.cell_box {o : Obj} {dk : Array (Fin (z + 1))} {wr : World} (hl : blk < W.heap.size) (h : SW (encN (z := z)) (W.alloc o) blk 0 dk wr) (k : Nat) : wr.cell? ⟨W.heap.size, k, none⟩ = (W.alloc o).cell? ⟨W.heap.size, k, none⟩ := by
  obtain ⟨n, os, rfl⟩ := h
  unfold sortWorld
  rw [Sort.cell?_grow _ _ _ (by rw [Sort.size_putRow]; show W.heap.size < (W.alloc o).heap.size; simp), Sort.cell?_putRow_other _ _ blk 0 _ _ (Or.inl (by show W.heap.size ≠ blk; omega)), Sort.cell?_ahead]

def Done (blk : Nat) (W : World) (R : Array (Fin (z + 1)) → Prop) (e : Ending) (w' : World) : Prop := e = .returned (.tuple #[]) ∧ ∃ d', R d' ∧ SW (encN (z := z)) W blk 0 d' w'
end

set_option maxRecDepth 100000 in
set_option maxHeartbeats 2000000 in
theorem s_swapRange {f : Nat → Int} {g : Nat} {lb : Array Value} {sf : Nat} {sb : Array Value} {blk z size : Nat} {W : World} {d : Array (Fin (z + 1))} (h : Cx f g lb sf sb blk size W d) (a b n : Nat) (hab : a + n ≤ b) (hb : b + n ≤ size) :
    Calls Try.prog 82 #[.agg #[.func (.func g) #[] lb, .func (.func sf) #[] sb], .int .i64 a, .int .i64 b, .int .i64 n] W (Done blk W (fun d' => Exch d d' a b n ∧ PermIn a (b + n) d d')) := by
  have HC := Lib.hid h
  have hbig := h.big
  generalize hQ : (Done blk W (fun d' => Exch d d' a b n ∧ PermIn a (b + n) d d')) = Q
  have HQ := Lib.hid hQ
  clear h hQ
  go_enter Try.func82, Try.ntmps82
  go_wp2_with fail
  obtain ⟨W1, hW1⟩ : ∃ W1, W1 = W.alloc (Obj.cells #[Value.func (Fn.func g) #[] lb, Value.func (Fn.func sf) #[] sb] 96) := ⟨_, rfl⟩
  rw [← hW1]
  have hS1 := HC.out.box (Obj.cells #[Value.func (Fn.func g) #[] lb, Value.func (Fn.func sf) #[] sb] 96)
  rw [← hW1] at hS1
  have C1 := HC.out.next hS1 HC.out.sz
  have HC1 := Lib.hid C1
  have HS1 := Lib.hid hS1
  have HB := Lib.hid (show ∀ wr dk, SW (encN (z := z)) W1 blk 0 dk wr → wr.cell? ⟨W.heap.size, 1, none⟩ = some (Value.func (Fn.func sf) #[] sb) from fun wr dk h => by
    rw [hW1] at h
    rw [SW.cell_box HC.out.lt h]; simp)
  clear hW1 C1 hS1
  go_loopw [8] (fun vi wr => ∃ (i : Nat) (dk : Array (Fin (z + 1))), vi = .int .i64 i ∧ i ≤ n ∧ Hid (Exch d dk a b i ∧ PermIn a (b + n) d dk) ∧ Hid (SW (encN (z := z)) W1 blk 0 dk wr)) (fun vi _ => n - (intOf vi).toNat)
  case atStart => exact ⟨0, d, rfl, Nat.zero_le _, Lib.hid ⟨Exch.zero d a b, permIn_refl _ _ _⟩, Lib.hid HC1.out.start⟩
  case round =>
    obtain ⟨i, dk, rfl, hi, hR, hS⟩ := hrel
    by_cases hlt : i < n
    · have hb1 := HB.out _ _ hS.out
      have hsz : dk.size = size := by rw [hR.out.1.1, HC.out.sz]
      have hs := HC.out.swap wr dk (hS.out.holds HC1.out.lt HC1.out.holds (by rw [hsz, HC.out.sz])) hsz (a + i) (b + i) (by omega) (by omega)
      have hsw := hS.out.swap HC1.out.lt (a + i) (b + i) (by omega) (by omega)
      obtain ⟨w3, hw3⟩ : ∃ w3, w3 = (wr.setCell ⟨blk, 0 + (a + i), none⟩ (encN dk[b + i]!)).setCell ⟨blk, 0 + (b + i), none⟩ (encN dk[a + i]!) := ⟨_, rfl⟩
      rw [← hw3] at hs hsw
      rw [show ((a + i : Nat) : Int) = (a : Int) + i by omega, show ((b + i : Nat) : Int) = (b : Int) + i by omega] at hs
      have hR2 := Lib.hid (show Exch d (swp dk (a + i) (b + i)) a b (i + 1) ∧ PermIn a (b + n) d (swp dk (a + i) (b + i)) from
        ⟨hR.out.1.step (by omega) (by rw [HC.out.sz]; omega), permIn_trans _ _ _ _ _ hR.out.2 (swp_permIn _ _ _ _ _ (by omega) (by omega) (by omega) (by omega) (by omega))⟩)
      have HSW := Lib.hid hsw
      have HHS := Lib.hid hs
      clear hw3 hsw hs hsz
      go_wp2_with fail
      rw [HHS.out, Oper.upon_value]
      go_wp2_with fail
      go_roundw
      case rel => exact ⟨i + 1, _, by go_num, by omega, hR2, HSW⟩
      case measure => simp [intOf]; omega
    · obtain rfl : i = n := by omega
      have hend := Lib.hid (show Q (.returned (.tuple #[])) wr from by
        rw [← HQ.out]
        exact ⟨rfl, dk, hR.out, SW.trans HS1.out HC.out.lt hS.out (by rw [hR.out.1.1])⟩)
      clear hR hS
      go_wp2_with fail
      go_end0
      exact hend.out

set_option maxRecDepth 100000 in
set_option maxHeartbeats 2000000 in
theorem s_rotate {f : Nat → Int} {g : Nat} {lb : Array Value} {sf : Nat} {sb : Array Value} {blk z size : Nat} {W : World} {d : Array (Fin (z + 1))} (h : Cx f g lb sf sb blk size W d) (a m b : Nat) (ham : a < m) (hmb : m < b) (hb : b ≤ size) :
    Calls Try.prog 81 #[.agg #[.func (.func g) #[] lb, .func (.func sf) #[] sb], .int .i64 a, .int .i64 m, .int .i64 b] W (Done blk W (fun d' => Rot d d' a m b ∧ PermIn a b d d')) := by
  have HC := Lib.hid h
  have hbig := h.big
  generalize hQ : (Done blk W (fun d' => Rot d d' a m b ∧ PermIn a b d d')) = Q
  have HQ := Lib.hid hQ
  clear h hQ
  go_enter Try.func81, Try.ntmps81
  go_wp2_with fail
  obtain ⟨W1, hW1⟩ : ∃ W1, W1 = W.alloc (Obj.cells #[Value.func (Fn.func g) #[] lb, Value.func (Fn.func sf) #[] sb] 96) := ⟨_, rfl⟩
  rw [← hW1]
  have hS1 := HC.out.box (Obj.cells #[Value.func (Fn.func g) #[] lb, Value.func (Fn.func sf) #[] sb] 96)
  rw [← hW1] at hS1
  have C1 := HC.out.next hS1 HC.out.sz
  have HC1 := Lib.hid C1
  have HS1 := Lib.hid hS1
  have HB0 := Lib.hid (show ∀ wr dk, SW (encN (z := z)) W1 blk 0 dk wr → wr.cell? ⟨W.heap.size, 0, none⟩ = some (Value.func (Fn.func g) #[] lb) from fun wr dk h => by
    rw [hW1] at h
    rw [SW.cell_box HC.out.lt h]; simp)
  have HB := Lib.hid (show ∀ wr dk, SW (encN (z := z)) W1 blk 0 dk wr → wr.cell? ⟨W.heap.size, 1, none⟩ = some (Value.func (Fn.func sf) #[] sb) from fun wr dk h => by
    rw [hW1] at h
    rw [SW.cell_box HC.out.lt h]; simp)
  clear hW1 C1 hS1
  go_loopw [8, 9] (fun vi vj wr => ∃ (i j : Nat) (dk : Array (Fin (z + 1))), vi = .int .i64 i ∧ vj = .int .i64 j ∧ 1 ≤ i ∧ i + a ≤ m ∧ 1 ≤ j ∧ m + j ≤ b ∧ Hid ((∀ d', Rot dk d' (m - i) m (m + j) → Rot d d' a m b) ∧ PermIn a b d dk) ∧ Hid (SW (encN (z := z)) W1 blk 0 dk wr)) (fun vi vj _ => (intOf vi).toNat + (intOf vj).toNat)
  case atStart => exact ⟨m - a, b - m, d, by go_num, by go_num, by omega, by omega, by omega, by omega, Lib.hid ⟨fun d' h => by rw [show m - (m - a) = a by omega, show m + (b - m) = b by omega] at h; exact h, permIn_refl _ _ _⟩, Lib.hid HC1.out.start⟩
  case round =>
    obtain ⟨i, j, dk, rfl, rfl, hi0, hi1, hj0, hj1, hR, hS⟩ := hrel
    have hb0 := HB0.out _ _ hS.out
    have hb1 := HB.out _ _ hS.out
    have hsz : dk.size = size := by rw [hR.out.2.1, HC.out.sz]
    have Cr := HC1.out.next hS.out hsz
    rcases Nat.lt_trichotomy i j with hij | hij | hij
    · have hX := s_swapRange Cr (m - i) (m + j - i) i (by omega) (by omega)
      rw [show ((m - i : Nat) : Int) = (m : Int) - i by omega, show ((m + j - i : Nat) : Int) = (m : Int) + j - i by omega] at hX
      have HX := Lib.hid hX
      have HN := Lib.hid (show ∀ d1, Exch dk d1 (m - i) (m + j - i) i ∧ PermIn (m - i) (m + j - i + i) dk d1 → (∀ d', Rot d1 d' (m - i) m (m + (j - i)) → Rot d d' a m b) ∧ PermIn a b d d1 from fun d1 ⟨h1, h2⟩ =>
        ⟨fun d' h => hR.out.1 d' (rot_lt (by omega) (by omega) (by omega) (by rw [show m - (m - i) = i by omega]; exact h1) (by rw [show m - (m - i) = i by omega, show m + j - i = m + (j - i) by omega]; exact h)),
          permIn_trans _ _ _ _ _ hR.out.2 (permIn_mono _ _ _ _ _ _ (by omega) (by omega) (by rw [hsz]; omega) h2)⟩)
      have e1 : ((i : Int) != (j : Int)) = true := by simp; omega
      have e2 : ¬ (j : Int) < i := by omega
      clear hX Cr
      go_wp2_with fail
      refine HX.out.mono ?_
      intro e w' hd
      obtain ⟨rfl, d1, hd1, hs1⟩ := hd
      have hN1 := Lib.hid (HN.out d1 hd1)
      have hT := Lib.hid (SW.trans hS.out HC1.out.lt hs1 (by rw [hd1.1.1]))
      clear hd1 hs1
      go_wp2_with fail
      go_roundw
      case rel => exact ⟨i, j - i, d1, rfl, by go_num, by omega, by omega, by omega, by omega, hN1, hT⟩
      case measure => simp [intOf]; omega
    · subst hij
      have hX := s_swapRange Cr (m - i) m i (by omega) (by omega)
      rw [show ((m - i : Nat) : Int) = (m : Int) - i by omega] at hX
      have HX := Lib.hid hX
      have HN := Lib.hid (show ∀ d1, Exch dk d1 (m - i) m i ∧ PermIn (m - i) (m + i) dk d1 → Rot d d1 a m b ∧ PermIn a b d d1 from fun d1 ⟨h1, h2⟩ =>
        ⟨hR.out.1 d1 (rot_eq (by omega) (by omega) (by omega) (by rw [show m - (m - i) = i by omega]; exact h1)), permIn_trans _ _ _ _ _ hR.out.2 (permIn_mono _ _ _ _ _ _ (by omega) (by omega) (by rw [hsz]; omega) h2)⟩)
      have e1 : ((i : Int) != (i : Int)) = false := by simp
      clear hX Cr
      go_wp2_with fail
      refine HX.out.mono ?_
      intro e w' hd
      obtain ⟨rfl, d1, hd1, hs1⟩ := hd
      have hend := Lib.hid (show Q (.returned (.tuple #[])) w' from by
        rw [← HQ.out]
        exact ⟨rfl, d1, HN.out d1 hd1, SW.trans HS1.out HC.out.lt (SW.trans hS.out HC1.out.lt hs1 (by rw [hd1.1.1])) (by rw [hd1.1.1, hsz, HC.out.sz])⟩)
      clear hd1 hs1
      go_wp2_with fail
      go_end0
      exact hend.out
    · have hX := s_swapRange Cr (m - i) m j (by omega) (by omega)
      rw [show ((m - i : Nat) : Int) = (m : Int) - i by omega] at hX
      have HX := Lib.hid hX
      have HN := Lib.hid (show ∀ d1, Exch dk d1 (m - i) m j ∧ PermIn (m - i) (m + j) dk d1 → (∀ d', Rot d1 d' (m - (i - j)) m (m + j) → Rot d d' a m b) ∧ PermIn a b d d1 from fun d1 ⟨h1, h2⟩ =>
        ⟨fun d' h => hR.out.1 d' (rot_gt (by omega) (by omega) (by omega) (by rw [show m + j - m = j by omega]; exact h1) (by rw [show m - i + (m + j - m) = m - (i - j) by omega]; exact h)),
          permIn_trans _ _ _ _ _ hR.out.2 (permIn_mono _ _ _ _ _ _ (by omega) (by omega) (by rw [hsz]; omega) h2)⟩)
      have e1 : ((i : Int) != (j : Int)) = true := by simp; omega
      have e2 : (j : Int) < i := by omega
      clear hX Cr
      go_wp2_with fail
      refine HX.out.mono ?_
      intro e w' hd
      obtain ⟨rfl, d1, hd1, hs1⟩ := hd
      have hN1 := Lib.hid (HN.out d1 hd1)
      have hT := Lib.hid (SW.trans hS.out HC1.out.lt hs1 (by rw [hd1.1.1]))
      clear hd1 hs1
      go_wp2_with fail
      go_roundw
      case rel => exact ⟨i - j, j, d1, by go_num, rfl, by omega, by omega, by omega, by omega, hN1, hT⟩
      case measure => simp [intOf]; omega

/-- Where an element belongs: between the places below i and those from j on. -/
def BL (f : Nat → Int) {z : Nat} (d : Array (Fin (z + 1))) (a m b i j : Nat) : Prop := (m < i → Rk f d[i - 1]! d[a]!) ∧ (j < b → Rk f d[a]! d[j]!)

/-- What symMerge does to two neighbours. -/
def MergeOk (f : Nat → Int) (g : Nat) (lb : Array Value) (sf : Nat) (sb : Array Value) (blk z size N : Nat) : Prop :=
  ∀ (W : World) (d : Array (Fin (z + 1))) (a m b : Nat), Cx f g lb sf sb blk size W d → b - a ≤ N → a < m → m < b → b ≤ size → SL f a m d → SL f m b d → CR a m b d →
    Calls Try.prog 79 #[.agg #[.func (.func g) #[] lb, .func (.func sf) #[] sb], .int .i64 a, .int .i64 m, .int .i64 b] W (Done blk W (fun d' => SL f a b d' ∧ PermIn a b d d'))

set_option maxRecDepth 100000 in
set_option maxHeartbeats 4000000 in
theorem s_merge_left {f : Nat → Int} {g : Nat} {lb : Array Value} {sf : Nat} {sb : Array Value} {blk z size : Nat} {W : World} {d : Array (Fin (z + 1))} (h : Cx f g lb sf sb blk size W d) (a b : Nat) (hmb : a + 1 < b) (hb : b ≤ size) (hR : SL f (a + 1) b d) (hc : CR a (a + 1) b d)
    (m : Nat) (hm : m = a + 1) :
    Calls Try.prog 79 #[.agg #[.func (.func g) #[] lb, .func (.func sf) #[] sb], .int .i64 a, .int .i64 m, .int .i64 b] W (Done blk W (fun d' => SL f a b d' ∧ PermIn a b d d')) := by
  have HC := Lib.hid h
  have hbig := h.big
  have HK := Lib.hid (show ∀ p, a + 1 ≤ p → p < b → (ltr f d[p]! d[a]! = true → Rk f d[p]! d[a]!) ∧ (ltr f d[p]! d[a]! = false → Rk f d[a]! d[p]!) from fun p h1 h2 => ⟨rk_of_lt, rk_of_not (hc a p (Nat.le_refl _) (by omega) h1 h2)⟩)
  have HE := Lib.hid (show ∀ args w, (callFunc g args).run Try.prog w = .ok (.enter g args) w from h.eg)
  have HRR := Lib.hid hR; have HM := Lib.hid hm
  generalize hQ : (Done blk W (fun d' => SL f a b d' ∧ PermIn a b d d')) = Q
  have HQ := Lib.hid hQ
  have e1 : ((m : Int) - a == 1) = true := by simp; omega
  have ham : a < m := by omega
  have hmb2 : m < b := by omega
  have e2 : wrap64 ((m : Int) - a) = 1 := by unfold wrap64; omega
  clear h hQ hc hR hm
  go_enter Try.func79, Try.ntmps79
  go_wp2_with fail
  obtain ⟨W1, hW1⟩ : ∃ W1, W1 = W.alloc (Obj.cells #[Value.func (Fn.func g) #[] lb, Value.func (Fn.func sf) #[] sb] 96) := ⟨_, rfl⟩
  rw [← hW1]
  have hS1 := HC.out.box (Obj.cells #[Value.func (Fn.func g) #[] lb, Value.func (Fn.func sf) #[] sb] 96)
  rw [← hW1] at hS1
  have C1 := HC.out.next hS1 HC.out.sz
  have HC1 := Lib.hid C1
  have HS1 := Lib.hid hS1
  have HB0 := Lib.hid (show ∀ wr dk, SW (encN (z := z)) W1 blk 0 dk wr → wr.cell? ⟨W.heap.size, 0, none⟩ = some (Value.func (Fn.func g) #[] lb) from fun wr dk h => by
    rw [hW1] at h
    rw [SW.cell_box HC.out.lt h]; simp)
  have HB := Lib.hid (show ∀ wr dk, SW (encN (z := z)) W1 blk 0 dk wr → wr.cell? ⟨W.heap.size, 1, none⟩ = some (Value.func (Fn.func sf) #[] sb) from fun wr dk h => by
    rw [hW1] at h
    rw [SW.cell_box HC.out.lt h]; simp)
  clear hW1 C1 hS1
  have HL := Lib.hid (show ∀ p, a + 1 ≤ p → p < b → ∀ wr, SW (encN (z := z)) W1 blk 0 d wr → Calls Try.prog g (#[.int .i64 p, .int .i64 a] ++ lb) wr fun e w' => e = .returned (.bool (ltr f d[p]! d[a]!)) ∧ ∃ q, w' = wr.drewN q from fun p h1 h2 wr hs =>
    hs.less HC1.out.less HC1.out.sz p a (by omega) (by omega))
  go_loopw [8, 9] (fun vi vj wr => ∃ (i j : Nat), vi = .int .i64 i ∧ vj = .int .i64 j ∧ m ≤ i ∧ i ≤ j ∧ j ≤ b ∧ Hid (BL f d a m b i j) ∧ Hid (SW (encN (z := z)) W1 blk 0 d wr)) (fun vi vj _ => (intOf vj).toNat - (intOf vi).toNat)
  case atStart => exact ⟨m, b, rfl, rfl, Nat.le_refl _, by have := HM.out; omega, Nat.le_refl _, Lib.hid ⟨fun h => by omega, fun h => by omega⟩, Lib.hid HC1.out.start⟩
  case round =>
    obtain ⟨i, j, rfl, rfl, hi, hij, hj, hR, hS⟩ := hrel
    have hb0 := HB0.out _ _ hS.out
    by_cases hlt : i < j
    · obtain ⟨p, hp⟩ : ∃ p : Nat, ((i : Int) + j) / 2 = p := ⟨(i + j) / 2, by omega⟩
      have p0 : i ≤ p := by omega
      have p1 : p < j := by omega
      have eg := HE.out
      have hl := HL.out p (by have := HM.out; omega) (by omega) wr hS.out
      have hk := HK.out p (by have := HM.out; omega) (by omega)
      cases hv : ltr f d[p]! d[a]! with
      | true =>
        rw [hv] at hl
        have H2 := Lib.hid (show BL f d a m b (p + 1) j from ⟨fun _ => hk.1 hv, hR.out.2⟩)
        have Hl := Lib.hid hl
        clear hk hv hl
        go_wp2_with fail
        refine Hl.out.mono ?_
        rintro e w' ⟨rfl, q, rfl⟩
        have HS2 := Lib.hid (hS.out.drewN q)
        go_wp2_with fail
        go_roundw
        case rel => exact ⟨p + 1, j, by go_num, rfl, by omega, by omega, hj, H2, HS2⟩
        case measure => simp [intOf]; omega
      | false =>
        rw [hv] at hl
        have H2 := Lib.hid (show BL f d a m b i p from ⟨hR.out.1, fun _ => hk.2 hv⟩)
        have Hl := Lib.hid hl
        clear hk hv hl
        go_wp2_with fail
        refine Hl.out.mono ?_
        rintro e w' ⟨rfl, q, rfl⟩
        have HS2 := Lib.hid (hS.out.drewN q)
        go_wp2_with fail
        go_roundw
        case rel => exact ⟨i, p, rfl, rfl, hi, by omega, by omega, H2, HS2⟩
        case measure => simp [intOf]; omega
    · obtain rfl : i = j := by omega
      have im : a + 1 ≤ i := by have := HM.out; omega
      go_wp2_with fail
      go_loopw [11] (fun vk w2 => ∃ (k : Nat) (dk : Array (Fin (z + 1))), vk = .int .i64 k ∧ a ≤ k ∧ k + 1 ≤ i ∧ Hid (Rot d dk a (a + 1) (k + 1) ∧ PermIn a b d dk) ∧ Hid (SW (encN (z := z)) W1 blk 0 dk w2)) (fun vk _ => i - (intOf vk).toNat)
      case atStart => exact ⟨a, d, rfl, Nat.le_refl _, by omega, Lib.hid ⟨Rot.right d a (a + 1) (by omega), permIn_refl _ _ _⟩, hS⟩
      case round =>
        obtain ⟨k, dk, rfl, hk0, hk1, hR2, hS2⟩ := hrel
        have hb1 := HB.out _ _ hS2.out
        have hsz : dk.size = size := by rw [hR2.out.1.1, HC1.out.sz]
        by_cases hlt : k + 1 < i
        · have hs := HC1.out.swap wr dk (hS2.out.holds HC1.out.lt HC1.out.holds (by rw [hsz, HC1.out.sz])) hsz k (k + 1) (by omega) (by omega)
          have hsw := hS2.out.swap HC1.out.lt k (k + 1) (by omega) (by omega)
          obtain ⟨w3, hw3⟩ : ∃ w3, w3 = (wr.setCell ⟨blk, 0 + k, none⟩ (encN dk[k + 1]!)).setCell ⟨blk, 0 + (k + 1), none⟩ (encN dk[k]!) := ⟨_, rfl⟩
          rw [← hw3] at hs hsw
          rw [show ((k + 1 : Nat) : Int) = (k : Int) + 1 by omega] at hs
          have hR3 := Lib.hid (show Rot d (swp dk k (k + 1)) a (a + 1) (k + 1 + 1) ∧ PermIn a b d (swp dk k (k + 1)) from
            ⟨bub_up hk0 (by rw [HC1.out.sz]; omega) hR2.out.1, permIn_trans _ _ _ _ _ hR2.out.2 (swp_permIn _ _ _ _ _ (by omega) (by omega) (by omega) (by omega) (by omega))⟩)
          have HSW := Lib.hid hsw
          have HHS := Lib.hid hs
          have e3 : (k : Int) < (i : Int) - 1 := by omega
          clear hw3 hsw hs hsz
          go_wp2_with fail
          rw [HHS.out, Oper.upon_value]
          go_wp2_with fail
          go_roundw
          case rel => exact ⟨k + 1, _, by go_num, by omega, by omega, hR3, HSW⟩
          case measure => simp [intOf]; omega
        · obtain rfl : i = k + 1 := by omega
          have e3 : ¬ (k : Int) < ((k + 1 : Nat) : Int) - 1 := by omega
          have hend := Lib.hid (show Q (.returned (.tuple #[])) wr from by
            rw [← HQ.out]
            have hr := hR.out
            rw [HM.out] at hr
            exact ⟨rfl, dk, ⟨ins_left (by omega) (by omega) HRR.out hr.1 hr.2 hR2.out.1, hR2.out.2⟩, SW.trans HS1.out HC.out.lt hS2.out (by rw [hR2.out.1.1])⟩)
          clear hsz
          go_wp2_with fail
          go_end0
          exact hend.out

/-- Where an element belongs: between the places below i and those from j on. -/
def BR (f : Nat → Int) {z : Nat} (d : Array (Fin (z + 1))) (a m i j : Nat) : Prop := (a < i → Rk f d[i - 1]! d[m]!) ∧ (j < m → Rk f d[m]! d[j]!)

set_option maxRecDepth 100000 in
set_option maxHeartbeats 4000000 in
theorem s_merge_right {f : Nat → Int} {g : Nat} {lb : Array Value} {sf : Nat} {sb : Array Value} {blk z size : Nat} {W : World} {d : Array (Fin (z + 1))} (h : Cx f g lb sf sb blk size W d) (a m : Nat) (ham : a + 1 < m) (hb : m + 1 ≤ size) (hL : SL f a m d) (hc : CR a m (m + 1) d)
    (b : Nat) (hbm : b = m + 1) :
    Calls Try.prog 79 #[.agg #[.func (.func g) #[] lb, .func (.func sf) #[] sb], .int .i64 a, .int .i64 m, .int .i64 b] W (Done blk W (fun d' => SL f a b d' ∧ PermIn a b d d')) := by
  have HC := Lib.hid h
  have hbig := h.big
  have HK := Lib.hid (show ∀ p, a ≤ p → p < m → (ltr f d[m]! d[p]! = true → Rk f d[m]! d[p]!) ∧ (ltr f d[m]! d[p]! = false → Rk f d[p]! d[m]!) from fun p h1 h2 => ⟨rk_of_lt, rk_of_not (hc p m h1 h2 (Nat.le_refl _) (by omega))⟩)
  have HE := Lib.hid (show ∀ args w, (callFunc g args).run Try.prog w = .ok (.enter g args) w from h.eg)
  have HLL := Lib.hid hL; have HM := Lib.hid hbm
  generalize hQ : (Done blk W (fun d' => SL f a b d' ∧ PermIn a b d d')) = Q
  have HQ := Lib.hid hQ
  have e1 : ((m : Int) - a == 1) = false := by rw [beq_eq_false_iff_ne]; omega
  have e2 : ((b : Int) - m == 1) = true := by simp; omega
  have hmb2 : m < b := by omega
  have hb2 : b ≤ size := by omega
  clear h hQ hc hL hbm
  go_enter Try.func79, Try.ntmps79
  go_wp2_with fail
  obtain ⟨W1, hW1⟩ : ∃ W1, W1 = W.alloc (Obj.cells #[Value.func (Fn.func g) #[] lb, Value.func (Fn.func sf) #[] sb] 96) := ⟨_, rfl⟩
  rw [← hW1]
  have hS1 := HC.out.box (Obj.cells #[Value.func (Fn.func g) #[] lb, Value.func (Fn.func sf) #[] sb] 96)
  rw [← hW1] at hS1
  have C1 := HC.out.next hS1 HC.out.sz
  have HC1 := Lib.hid C1
  have HS1 := Lib.hid hS1
  have HB0 := Lib.hid (show ∀ wr dk, SW (encN (z := z)) W1 blk 0 dk wr → wr.cell? ⟨W.heap.size, 0, none⟩ = some (Value.func (Fn.func g) #[] lb) from fun wr dk h => by
    rw [hW1] at h
    rw [SW.cell_box HC.out.lt h]; simp)
  have HB := Lib.hid (show ∀ wr dk, SW (encN (z := z)) W1 blk 0 dk wr → wr.cell? ⟨W.heap.size, 1, none⟩ = some (Value.func (Fn.func sf) #[] sb) from fun wr dk h => by
    rw [hW1] at h
    rw [SW.cell_box HC.out.lt h]; simp)
  clear hW1 C1 hS1
  have HLS := Lib.hid (show ∀ p, a ≤ p → p < m → ∀ wr, SW (encN (z := z)) W1 blk 0 d wr → Calls Try.prog g (#[.int .i64 m, .int .i64 p] ++ lb) wr fun e w' => e = .returned (.bool (ltr f d[m]! d[p]!)) ∧ ∃ q, w' = wr.drewN q from fun p h1 h2 wr hs =>
    hs.less HC1.out.less HC1.out.sz m p (by omega) (by omega))
  go_loopw [12, 13] (fun vi vj wr => ∃ (i j : Nat), vi = .int .i64 i ∧ vj = .int .i64 j ∧ a ≤ i ∧ i ≤ j ∧ j ≤ m ∧ Hid (BR f d a m i j) ∧ Hid (SW (encN (z := z)) W1 blk 0 d wr)) (fun vi vj _ => (intOf vj).toNat - (intOf vi).toNat)
  case atStart => exact ⟨a, m, rfl, rfl, Nat.le_refl _, by omega, Nat.le_refl _, Lib.hid ⟨fun h => by omega, fun h => by omega⟩, Lib.hid HC1.out.start⟩
  case round =>
    obtain ⟨i, j, rfl, rfl, hi, hij, hj, hR, hS⟩ := hrel
    have hb0 := HB0.out _ _ hS.out
    by_cases hlt : i < j
    · obtain ⟨p, hp⟩ : ∃ p : Nat, ((i : Int) + j) / 2 = p := ⟨(i + j) / 2, by omega⟩
      have p0 : i ≤ p := by omega
      have p1 : p < j := by omega
      have eg := HE.out
      have hl := HLS.out p (by omega) (by omega) wr hS.out
      have hk := HK.out p (by omega) (by omega)
      cases hv : ltr f d[m]! d[p]! with
      | false =>
        rw [hv] at hl
        have H2 := Lib.hid (show BR f d a m (p + 1) j from ⟨fun _ => hk.2 hv, hR.out.2⟩)
        have Hl := Lib.hid hl
        clear hk hv hl
        go_wp2_with fail
        refine Hl.out.mono ?_
        rintro e w' ⟨rfl, q, rfl⟩
        have HS2 := Lib.hid (hS.out.drewN q)
        go_wp2_with fail
        go_roundw
        case rel => exact ⟨p + 1, j, by go_num, rfl, by omega, by omega, hj, H2, HS2⟩
        case measure => simp [intOf]; omega
      | true =>
        rw [hv] at hl
        have H2 := Lib.hid (show BR f d a m i p from ⟨hR.out.1, fun _ => hk.1 hv⟩)
        have Hl := Lib.hid hl
        clear hk hv hl
        go_wp2_with fail
        refine Hl.out.mono ?_
        rintro e w' ⟨rfl, q, rfl⟩
        have HS2 := Lib.hid (hS.out.drewN q)
        go_wp2_with fail
        go_roundw
        case rel => exact ⟨i, p, rfl, rfl, hi, by omega, by omega, H2, HS2⟩
        case measure => simp [intOf]; omega
    · obtain rfl : i = j := by omega
      go_wp2_with fail
      go_loopw [15] (fun vk w2 => ∃ (k : Nat) (dk : Array (Fin (z + 1))), vk = .int .i64 k ∧ i ≤ k ∧ k ≤ m ∧ Hid (Rot d dk k m (m + 1) ∧ PermIn a b d dk) ∧ Hid (SW (encN (z := z)) W1 blk 0 dk w2)) (fun vk _ => (intOf vk).toNat)
      case atStart => exact ⟨m, d, rfl, by omega, Nat.le_refl _, Lib.hid ⟨Rot.left d m (m + 1) (by omega), permIn_refl _ _ _⟩, hS⟩
      case round =>
        obtain ⟨k, dk, rfl, hk0, hk1, hR2, hS2⟩ := hrel
        have hb1 := HB.out _ _ hS2.out
        have hsz : dk.size = size := by rw [hR2.out.1.1, HC1.out.sz]
        by_cases hlt : i < k
        · have hs := HC1.out.swap wr dk (hS2.out.holds HC1.out.lt HC1.out.holds (by rw [hsz, HC1.out.sz])) hsz k (k - 1) (by omega) (by omega)
          have hsw := hS2.out.swap HC1.out.lt k (k - 1) (by omega) (by omega)
          obtain ⟨w3, hw3⟩ : ∃ w3, w3 = (wr.setCell ⟨blk, 0 + k, none⟩ (encN dk[k - 1]!)).setCell ⟨blk, 0 + (k - 1), none⟩ (encN dk[k]!) := ⟨_, rfl⟩
          rw [← hw3] at hs hsw
          rw [show ((k - 1 : Nat) : Int) = (k : Int) - 1 by omega] at hs
          have hR3 := Lib.hid (show Rot d (swp dk k (k - 1)) (k - 1) m (m + 1) ∧ PermIn a b d (swp dk k (k - 1)) from
            ⟨bub_dn (by omega) hk1 (by rw [HC1.out.sz]; omega) hR2.out.1, permIn_trans _ _ _ _ _ hR2.out.2 (swp_permIn _ _ _ _ _ (by omega) (by omega) (by omega) (by omega) (by omega))⟩)
          have HSW := Lib.hid hsw
          have HHS := Lib.hid hs
          clear hw3 hsw hs hsz
          go_wp2_with fail
          rw [HHS.out, Oper.upon_value]
          go_wp2_with fail
          go_roundw
          case rel => exact ⟨k - 1, _, by go_num, by omega, by omega, hR3, HSW⟩
          case measure => simp [intOf]; omega
        · obtain rfl : k = i := by omega
          have hend := Lib.hid (show Q (.returned (.tuple #[])) wr from by
            rw [← HQ.out]
            have hr := hR.out
            rw [HM.out]
            exact ⟨rfl, dk, ⟨ins_right hi hj HLL.out hr.1 hr.2 hR2.out.1, by rw [← HM.out]; exact hR2.out.2⟩, SW.trans HS1.out HC.out.lt hS2.out (by rw [hR2.out.1.1])⟩)
          clear hsz
          go_wp2_with fail
          go_end0
          exact hend.out

/-- The place to part at: between those below s and those from r on. -/
def BM (f : Nat → Int) {z : Nat} (d : Array (Fin (z + 1))) (n lo hi s r : Nat) : Prop := (lo < s → Rk f d[s - 1]! d[n - s]!) ∧ (r < hi → Rk f d[n - 1 - r]! d[r]!)

theorem SL.other {f : Nat → Int} {z a c x y : Nat} {d1 d2 : Array (Fin (z + 1))} (h : SL f x y d1) (hp : PermIn a c d1 d2) (ho : y ≤ a ∨ c ≤ x) : SL f x y d2 :=
  fun i j h1 h2 h3 => by rw [hp.2.1 i (by omega), hp.2.1 j (by omega)]; exact h i j h1 h2 h3
theorem CR.other {z a c x m y : Nat} {d1 d2 : Array (Fin (z + 1))} (h : CR x m y d1) (hp : PermIn a c d1 d2) (ho : y ≤ a ∨ c ≤ x) : CR x m y d2 :=
  fun i j h1 h2 h3 h4 => by rw [hp.2.1 i (by omega), hp.2.1 j (by omega)]; exact h i j h1 h2 h3 h4

/-- All that is known of the row behind the rotation. -/
def Cut (f : Nat → Int) {z : Nat} (d1 : Array (Fin (z + 1))) (a s mid en b : Nat) : Prop :=
  SL f a s d1 ∧ SL f s mid d1 ∧ SL f mid en d1 ∧ SL f en b d1 ∧ (∀ i j, a ≤ i → i < mid → mid ≤ j → j < b → Rk f d1[i]! d1[j]!) ∧ CR a s mid d1 ∧ CR mid en b d1

theorem cut_ok {f : Nat → Int} {z : Nat} {d d1 : Array (Fin (z + 1))} {a m b mid lo hi s en : Nat} (has : a ≤ s) (hsm : s ≤ m) (hme : m ≤ en) (heb : en ≤ b) (hL : SL f a m d) (hR : SL f m b d) (hc : CR a m b d) (hB : BM f d (mid + m) lo hi s s) (hen : en + s = mid + m)
    (hls : lo ≤ s) (hsh : s ≤ hi) (hlo : (mid < m ∧ lo + b = mid + m ∧ hi = mid) ∨ (m ≤ mid ∧ lo = a ∧ hi = m)) (hr : Rot d d1 s m en) : Cut f d1 a s mid en b := by
  obtain ⟨b1, b2⟩ := hB
  have hs := split_ok (f := f) has hsm hme heb hL hR (fun h1 h2 => by
    have := b1 (by omega)
    rwa [show mid + m - s = en by omega] at this) (fun h1 h2 => by
    have := b2 (by omega)
    rwa [show mid + m - 1 - s = en - 1 by omega] at this) hr
  have hk := cross_ok has hsm hme heb hc hr
  rw [show s + (en - m) = mid by omega] at hs hk
  exact ⟨hs.1, hs.2.1, hs.2.2.1, hs.2.2.2.1, hs.2.2.2.2, hk.1, hk.2⟩

set_option maxRecDepth 100000 in
set_option maxHeartbeats 4000000 in
theorem s_merge_mid {f : Nat → Int} {g : Nat} {lb : Array Value} {sf : Nat} {sb : Array Value} {blk z size : Nat} {W : World} {d : Array (Fin (z + 1))} (h : Cx f g lb sf sb blk size W d) (a m b N : Nat) (ham : a + 1 < m) (hmb : m + 1 < b) (hb : b ≤ size) (hL : SL f a m d) (hR : SL f m b d) (hc : CR a m b d)
    (hN : b - a ≤ N + 1) (IH : MergeOk f g lb sf sb blk z size N) (mid lo hi : Nat) (hmid : ((a : Int) + b) / 2 = mid) (hlo : (mid < m ∧ lo + b = mid + m ∧ hi = mid) ∨ (m ≤ mid ∧ lo = a ∧ hi = m)) :
    Calls Try.prog 79 #[.agg #[.func (.func g) #[] lb, .func (.func sf) #[] sb], .int .i64 a, .int .i64 m, .int .i64 b] W (Done blk W (fun d' => SL f a b d' ∧ PermIn a b d d')) := by
  have HC := Lib.hid h
  have hbig := h.big
  have HE := Lib.hid (show ∀ args w, (callFunc g args).run Try.prog w = .ok (.enter g args) w from h.eg)
  have HLL := Lib.hid hL; have HRR := Lib.hid hR; have HCC := Lib.hid hc; have HLO := Lib.hid hlo; have HIH := Lib.hid IH; have HN := Lib.hid hN
  generalize hQ : (Done blk W (fun d' => SL f a b d' ∧ PermIn a b d d')) = Q
  have HQ := Lib.hid hQ
  have e1 : ((m : Int) - a == 1) = false := by rw [beq_eq_false_iff_ne]; omega
  have e2 : ((b : Int) - m == 1) = false := by rw [beq_eq_false_iff_ne]; omega
  have hm0 : a < mid := by omega
  have hm1 : mid < b := by omega
  clear h hQ hc hL hR hlo IH hN
  go_enter Try.func79, Try.ntmps79
  go_upto_if 106 with fail
  obtain ⟨W1, hW1⟩ : ∃ W1, W1 = W.alloc (Obj.cells #[Value.func (Fn.func g) #[] lb, Value.func (Fn.func sf) #[] sb] 96) := ⟨_, rfl⟩
  rw [← hW1]
  have hS1 := HC.out.box (Obj.cells #[Value.func (Fn.func g) #[] lb, Value.func (Fn.func sf) #[] sb] 96)
  rw [← hW1] at hS1
  have C1 := HC.out.next hS1 HC.out.sz
  have HC1 := Lib.hid C1
  have HS1 := Lib.hid hS1
  have HB0 := Lib.hid (show ∀ wr dk, SW (encN (z := z)) W1 blk 0 dk wr → wr.cell? ⟨W.heap.size, 0, none⟩ = some (Value.func (Fn.func g) #[] lb) from fun wr dk h => by
    rw [hW1] at h
    rw [SW.cell_box HC.out.lt h]; simp)
  have HB := Lib.hid (show ∀ wr dk, SW (encN (z := z)) W1 blk 0 dk wr → wr.cell? ⟨W.heap.size, 1, none⟩ = some (Value.func (Fn.func sf) #[] sb) from fun wr dk h => by
    rw [hW1] at h
    rw [SW.cell_box HC.out.lt h]; simp)
  clear hW1 C1 hS1
  go_cut [18, 19] from 106 (fun x y wx => x = .int .i64 (lo : Int) ∧ y = .int .i64 (hi : Int) ∧ W1 = wx)
  case first =>
    rcases HLO.out with ⟨h1, h2, h3⟩ | ⟨h1, h2, h3⟩
    · have h4 : (mid : Int) + m - b = lo := by omega
      subst h3
      go_wp2_with fail
      go_meet
      case rel => exact ⟨rfl, rfl, rfl⟩
    · subst h2 h3
      go_wp2_with fail
      go_meet
      case rel => exact ⟨rfl, rfl, rfl⟩
  case rest =>
   obtain ⟨rfl, rfl, rfl⟩ := hcut
   have HLS := Lib.hid (show ∀ p c, p < size → c < size → ∀ wr, SW (encN (z := z)) W1 blk 0 d wr → Calls Try.prog g (#[.int .i64 p, .int .i64 c] ++ lb) wr fun e w' => e = .returned (.bool (ltr f d[p]! d[c]!)) ∧ ∃ q, w' = wr.drewN q from fun p c h1 h2 wr hs =>
     hs.less HC1.out.less HC1.out.sz p c h1 h2)
   have hlh : a ≤ lo ∧ lo ≤ hi ∧ hi ≤ m ∧ hi ≤ mid ∧ mid + m ≤ lo + b := by have := HLO.out; omega
   obtain ⟨lh1, lh2, lh3, lh4, lh5⟩ := hlh
   go_wp2_with fail
   go_loopw [18, 19] (fun vi vj wr => ∃ (s r : Nat), vi = .int .i64 s ∧ vj = .int .i64 r ∧ lo ≤ s ∧ s ≤ r ∧ r ≤ hi ∧ Hid (BM f d (mid + m) lo hi s r) ∧ Hid (SW (encN (z := z)) W1 blk 0 d wr)) (fun vi vj _ => (intOf vj).toNat - (intOf vi).toNat)
   case atStart => exact ⟨lo, hi, rfl, rfl, Nat.le_refl _, lh2, Nat.le_refl _, Lib.hid ⟨fun h => by omega, fun h => by omega⟩, Lib.hid HC1.out.start⟩
   case round =>
    obtain ⟨s, r, rfl, rfl, hs0, hsr, hr0, hR, hS⟩ := hrel
    have hb0 := HB0.out _ _ hS.out
    by_cases hlt : s < r
    · obtain ⟨c, hp⟩ : ∃ c : Nat, ((s : Int) + r) / 2 = c := ⟨(s + r) / 2, by omega⟩
      have p0 : s ≤ c := by omega
      have p1 : c < r := by omega
      obtain ⟨pc, hpc⟩ : ∃ pc : Nat, (mid : Int) + m - 1 - c = pc := ⟨mid + m - 1 - c, by omega⟩
      have hpn : pc = mid + m - 1 - c := by omega
      have eg := HE.out
      have hl := HLS.out pc c (by omega) (by omega) wr hS.out
      have hcr : d[c]!.val < d[pc]!.val := HCC.out c pc (by omega) (by omega) (by omega) (by omega)
      cases hv : ltr f d[pc]! d[c]! with
      | false =>
        rw [hv] at hl
        have H2 := Lib.hid (show BM f d (mid + m) lo hi (c + 1) r from ⟨fun _ => by rw [show mid + m - (c + 1) = pc by omega]; exact rk_of_not hcr hv, hR.out.2⟩)
        have Hl := Lib.hid hl
        clear hcr hv hl hpn
        go_wp2_with fail
        refine Hl.out.mono ?_
        rintro e w' ⟨rfl, q, rfl⟩
        have HS2 := Lib.hid (hS.out.drewN q)
        go_wp2_with fail
        go_roundw
        case rel => exact ⟨c + 1, r, by go_num, rfl, by omega, by omega, hr0, H2, HS2⟩
        case measure => simp [intOf]; omega
      | true =>
        rw [hv] at hl
        have H2 := Lib.hid (show BM f d (mid + m) lo hi s c from ⟨hR.out.1, fun _ => by rw [← hpn]; exact rk_of_lt hv⟩)
        have Hl := Lib.hid hl
        clear hcr hv hl hpn
        go_wp2_with fail
        refine Hl.out.mono ?_
        rintro e w' ⟨rfl, q, rfl⟩
        have HS2 := Lib.hid (hS.out.drewN q)
        go_wp2_with fail
        go_roundw
        case rel => exact ⟨s, c, rfl, rfl, hs0, by omega, by omega, H2, HS2⟩
        case measure => simp [intOf]; omega
    · obtain rfl : s = r := by omega
      obtain ⟨en, hen⟩ : ∃ en : Nat, (mid : Int) + m - s = en := ⟨mid + m - s, by omega⟩
      have en0 : en + s = mid + m := by omega
      have en1 : m ≤ en := by omega
      have en2 : en ≤ b := by omega
      have en3 : mid ≤ en := by omega
      have sm : s ≤ m := by omega
      have smd : s ≤ mid := by omega
      have as_ : a ≤ s := by omega
      have HCU := Lib.hid (fun d1 => cut_ok (d1 := d1) as_ sm en1 en2 HLL.out HRR.out HCC.out hR.out en0 hs0 hr0 HLO.out)
      clear hR
      go_upto_region 40 with fail
      go_cut [145] from 138 (fun t wx => t = .bool (decide (s < m ∧ m < en)) ∧ wr = wx)
      case first =>
        by_cases h1 : s < m
        · by_cases h2 : m < en
          · go_wp2_with fail
            go_meet
            case rel => exact ⟨by rw [decide_eq_true (show s < m ∧ m < en from ⟨h1, h2⟩)]; try simp [h1, h2], rfl⟩
          · go_wp2_with fail
            go_meet
            case rel => exact ⟨by rw [decide_eq_false (show ¬ (s < m ∧ m < en) by omega)]; try simp [h1, h2], rfl⟩
        · go_wp2_with fail
          go_meet
          case rel => exact ⟨by rw [decide_eq_false (show ¬ (s < m ∧ m < en) by omega)]; try simp [h1], rfl⟩
      case rest =>
       obtain ⟨rfl, rfl⟩ := hcut
       go_upto_if 145 with fail
       go_cut [] from 145 (fun wx => ∃ d1, Hid (Rot d d1 s m en ∧ PermIn a b d d1) ∧ Hid (SW (encN (z := z)) W1 blk 0 d1 wx))
       case first =>
        by_cases h : s < m ∧ m < en
        · rw [decide_eq_true h]
          have Cr := HC1.out.next hS.out HC1.out.sz
          have HX := Lib.hid (s_rotate Cr s m en h.1 h.2 (by omega))
          have hb1 := HB.out _ _ hS.out
          have HM2 := Lib.hid (show ∀ d1, Rot d d1 s m en ∧ PermIn s en d d1 → Rot d d1 s m en ∧ PermIn a b d d1 from fun d1 ⟨g1, g2⟩ => ⟨g1, permIn_mono _ _ _ _ _ _ (by omega) (by omega) (by rw [HC1.out.sz]; omega) g2⟩)
          clear Cr h
          go_wp2_with fail
          refine HX.out.mono ?_
          intro e w' hd
          obtain ⟨rfl, d1, hd1, hs1⟩ := hd
          have H1 := Lib.hid (HM2.out d1 hd1)
          have H2 := Lib.hid (SW.trans hS.out HC1.out.lt hs1 (by rw [hd1.1.1]))
          clear hd1 hs1
          go_wp2_with fail
          go_meet
          case rel => exact ⟨d1, H1, H2⟩
        · rw [decide_eq_false h]
          have H1 := Lib.hid (show Rot d d s m en ∧ PermIn a b d d from ⟨by
            rcases Nat.lt_or_ge s m with g | g
            · rw [show en = m by omega]; exact Rot.right d s m sm
            · rw [show s = m by omega]; exact Rot.left d m en en1, permIn_refl _ _ _⟩)
          clear h
          go_wp2_with fail
          go_meet
          case rel => exact ⟨d, H1, hS⟩
       case rest =>
        obtain ⟨d1, hR1, hS1⟩ := hcut
        have hcu := HCU.out d1 hR1.out.1
        obtain ⟨c1, c2, c3, c4, c5, c6, c7⟩ := hcu
        have HC1a := Lib.hid c1; have HC2a := Lib.hid c2; have HC3a := Lib.hid c3; have HC4a := Lib.hid c4; have HC5a := Lib.hid c5; have HC6a := Lib.hid c6; have HC7a := Lib.hid c7
        have hz1 : d1.size = size := by rw [hR1.out.1.1, HC1.out.sz]
        have HZ1 := Lib.hid hz1
        clear c1 c2 c3 c4 c5 c6 c7 hz1 HCU
        go_upto_region 42 with fail
        go_cut [158] from 151 (fun t wx => t = .bool (decide (a < s ∧ s < mid)) ∧ wc = wx)
        case first =>
          by_cases h1 : a < s
          · by_cases h2 : s < mid
            · go_wp2_with fail
              go_meet
              case rel => exact ⟨by rw [decide_eq_true (show a < s ∧ s < mid from ⟨h1, h2⟩)]; try simp [h1, h2], rfl⟩
            · go_wp2_with fail
              go_meet
              case rel => exact ⟨by rw [decide_eq_false (show ¬ (a < s ∧ s < mid) by omega)]; try simp [h1, h2], rfl⟩
          · go_wp2_with fail
            go_meet
            case rel => exact ⟨by rw [decide_eq_false (show ¬ (a < s ∧ s < mid) by omega)]; try simp [h1], rfl⟩
        case rest =>
         obtain ⟨rfl, rfl⟩ := hcut
         go_upto_if 158 with fail
         go_cut [] from 158 (fun wx => ∃ d2, Hid (SL f a mid d2 ∧ PermIn a mid d1 d2) ∧ Hid (SW (encN (z := z)) W1 blk 0 d2 wx))
         case first =>
          by_cases h : a < s ∧ s < mid
          · rw [decide_eq_true h]
            have Cr := HC1.out.next hS1.out HZ1.out
            have HX := Lib.hid (HIH.out wc d1 a s mid Cr (by have := HN.out; omega) h.1 h.2 (by omega) HC1a.out HC2a.out HC6a.out)
            have hb0 := HB0.out _ _ hS1.out
            have hb1 := HB.out _ _ hS1.out
            clear Cr h
            go_wp2_with fail
            refine HX.out.mono ?_
            intro e w' hd
            obtain ⟨rfl, d2, hd2, hs2⟩ := hd
            have H1 := Lib.hid hd2
            have H2 := Lib.hid (SW.trans hS1.out HC1.out.lt hs2 hd2.2.1)
            clear hd2 hs2
            go_wp2_with fail
            go_meet
            case rel => exact ⟨d2, H1, H2⟩
          · rw [decide_eq_false h]
            have H1 := Lib.hid (show SL f a mid d1 ∧ PermIn a mid d1 d1 from ⟨by
              rcases Nat.lt_or_ge a s with g | g
              · rw [show mid = s by omega]; exact HC1a.out
              · rw [show a = s by omega]; exact HC2a.out, permIn_refl _ _ _⟩)
            clear h
            go_wp2_with fail
            go_meet
            case rel => exact ⟨d1, H1, hS1⟩
         case rest =>
          obtain ⟨d2, hR2, hS2⟩ := hcut
          have HZ2 := Lib.hid (show d2.size = size by rw [hR2.out.2.1, HZ1.out])
          have HF := Lib.hid (show ∀ d3, SL f mid b d3 ∧ PermIn mid b d2 d3 → SL f a b d3 ∧ PermIn a b d d3 from fun d3 ⟨g1, g2⟩ => by
            obtain ⟨k1, k2⟩ := join_ok (f := f) (by omega) (by omega) (by rw [HZ1.out]; exact hb) hR2.out.2 hR2.out.1 g2 g1 HC5a.out
            exact ⟨k1, permIn_trans _ _ _ _ _ hR1.out.2 k2⟩)
          go_upto_region 44 with fail
          go_cut [171] from 164 (fun t wx => t = .bool (decide (mid < en ∧ en < b)) ∧ wc = wx)
          case first =>
            by_cases h1 : mid < en
            · by_cases h2 : en < b
              · go_wp2_with fail
                go_meet
                case rel => exact ⟨by rw [decide_eq_true (show mid < en ∧ en < b from ⟨h1, h2⟩)]; try simp [h1, h2], rfl⟩
              · go_wp2_with fail
                go_meet
                case rel => exact ⟨by rw [decide_eq_false (show ¬ (mid < en ∧ en < b) by omega)]; try simp [h1, h2], rfl⟩
            · go_wp2_with fail
              go_meet
              case rel => exact ⟨by rw [decide_eq_false (show ¬ (mid < en ∧ en < b) by omega)]; try simp [h1], rfl⟩
          case rest =>
           obtain ⟨rfl, rfl⟩ := hcut
           by_cases h : mid < en ∧ en < b
           · rw [decide_eq_true h]
             have Cr := HC1.out.next hS2.out HZ2.out
             have HX := Lib.hid (HIH.out wc d2 mid en b Cr (by have := HN.out; omega) h.1 h.2 hb (HC3a.out.other hR2.out.2 (Or.inr (Nat.le_refl _))) (HC4a.out.other hR2.out.2 (Or.inr (by omega))) (HC7a.out.other hR2.out.2 (Or.inr (Nat.le_refl _))))
             have hb0 := HB0.out _ _ hS2.out
             have hb1 := HB.out _ _ hS2.out
             clear Cr h
             go_wp2_with fail
             refine HX.out.mono ?_
             intro e w' hd
             obtain ⟨rfl, d3, hd3, hs3⟩ := hd
             have hend := Lib.hid (show Q (.returned (.tuple #[])) w' from by
               rw [← HQ.out]
               exact ⟨rfl, d3, HF.out d3 hd3, SW.trans HS1.out HC.out.lt (SW.trans hS2.out HC1.out.lt hs3 hd3.2.1) (by rw [hd3.2.1, HZ2.out, HC.out.sz])⟩)
             clear hd3 hs3
             go_wp2_with fail
             go_end0
             exact hend.out
           · rw [decide_eq_false h]
             have hend := Lib.hid (show Q (.returned (.tuple #[])) wc from by
               rw [← HQ.out]
               refine ⟨rfl, d2, HF.out d2 ⟨?_, permIn_refl _ _ _⟩, SW.trans HS1.out HC.out.lt hS2.out (by rw [HZ2.out, HC.out.sz])⟩
               rcases Nat.lt_or_ge mid en with g | g
               · rw [show b = en by omega]; exact HC3a.out.other hR2.out.2 (Or.inr (Nat.le_refl _))
               · rw [show mid = en by omega]; exact HC4a.out.other hR2.out.2 (Or.inr (by omega)))
             clear h
             go_wp2_with fail
             go_end0
             exact hend.out

theorem s_merge (f : Nat → Int) (g : Nat) (lb : Array Value) (sf : Nat) (sb : Array Value) (blk z size : Nat) : ∀ N, MergeOk f g lb sf sb blk z size N
  | 0 => fun W d a m b _ hN h1 h2 _ _ _ _ => by omega
  | N + 1 => fun W d a m b h hN h1 h2 hb hL hR hc => by
    by_cases e1 : m = a + 1
    · subst e1; exact s_merge_left h a b h2 hb hR hc _ rfl
    · by_cases e2 : b = m + 1
      · subst e2; exact s_merge_right h a m (by omega) hb hL hc _ rfl
      · obtain ⟨mid, hmid⟩ : ∃ mid, mid = (a + b) / 2 := ⟨_, rfl⟩
        by_cases hm : mid < m
        · exact s_merge_mid h a m b N (by omega) (by omega) hb hL hR hc (by omega) (s_merge f g lb sf sb blk z size N) mid (mid + m - b) mid (by omega) (.inl ⟨hm, by omega, rfl⟩)
        · exact s_merge_mid h a m b N (by omega) (by omega) hb hL hR hc (by omega) (s_merge f g lb sf sb blk z size N) mid a m (by omega) (.inr ⟨by omega, rfl, rfl⟩)

/-- From x on the row lies in blocks of bs. -/
inductive BF (f : Nat → Int) {z : Nat} (n bs : Nat) (d : Array (Fin (z + 1))) : Nat → Prop
  | done (x : Nat) : n ≤ x → BF f n bs d x
  | step (x : Nat) : x < n → Blk f x (min (x + bs) n) d → BF f n bs d (x + bs) → BF f n bs d x
/-- Up to x the row lies in blocks of bs. -/
inductive PF (f : Nat → Int) {z : Nat} (bs : Nat) (d : Array (Fin (z + 1))) : Nat → Prop
  | zero : PF f bs d 0
  | step (x : Nat) : PF f bs d x → Blk f x (x + bs) d → PF f bs d (x + bs)

theorem BF.other {f : Nat → Int} {z n bs a b x : Nat} {d d' : Array (Fin (z + 1))} (h : BF f n bs d x) (hp : PermIn a b d d') (hx : b ≤ x) : BF f n bs d' x := by
  induction h with
  | done x h => exact .done x h
  | step x h1 h2 h3 ih => exact .step x h1 (h2.other hp (Or.inr hx)) (ih (by omega))
theorem PF.other {f : Nat → Int} {z bs a b x : Nat} {d d' : Array (Fin (z + 1))} (h : PF f bs d x) (hp : PermIn a b d d') (hx : x ≤ a) : PF f bs d' x := by
  induction h with
  | zero => exact .zero
  | step x h1 h2 ih => exact .step x (ih (by omega)) (h2.other hp (Or.inl hx))
theorem PF.all {f : Nat → Int} {z n bs x : Nat} {d : Array (Fin (z + 1))} (h : PF f bs d x) (hb : BF f n bs d x) (hx : x ≤ n) (h0 : 0 < bs) : BF f n bs d 0 := by
  induction h with
  | zero => exact hb
  | step x h1 h2 ih => exact ih (.step x (by omega) (by rw [show min (x + bs) n = x + bs by omega]; exact h2) hb) (by omega)

theorem BF.two {f : Nat → Int} {z n bs x : Nat} {d : Array (Fin (z + 1))} (h : BF f n bs d x) (hx : x + bs < n) : Blk f x (x + bs) d ∧ Blk f (x + bs) (min (x + bs + bs) n) d ∧ BF f n bs d (x + bs + bs) := by
  cases h with
  | done _ h => omega
  | step _ h1 h2 h3 =>
    cases h3 with
    | done _ h => omega
    | step _ k1 k2 k3 => exact ⟨by rw [show min (x + bs) n = x + bs by omega] at h2; exact h2, k2, k3⟩
theorem BF.last {f : Nat → Int} {z n bs x : Nat} {d : Array (Fin (z + 1))} (h : BF f n bs d x) (hx : n ≤ x + bs) : BF f n (2 * bs) d x := by
  cases h with
  | done _ h => exact .done _ h
  | step _ h1 h2 h3 => exact .step _ h1 (by rw [show min (x + bs) n = n by omega] at h2; rw [show min (x + 2 * bs) n = n by omega]; exact h2) (.done _ (by omega))

theorem s_ins {f : Nat → Int} {g : Nat} {lb : Array Value} {sf : Nat} {sb : Array Value} {blk z size : Nat} {W : World} {d : Array (Fin (z + 1))} (h : Cx f g lb sf sb blk size W d) (a b : Nat) (hab : a ≤ b) (hb : b ≤ size) (hid : ∀ i, a ≤ i → i < b → d[i]!.val = i) :
    Calls Try.prog 78 #[.agg #[.func (.func g) #[] lb, .func (.func sf) #[] sb], .int .i64 a, .int .i64 b] W (Done blk W (fun d' => PermIn a b d d' ∧ SL f a b d')) := by
  obtain ⟨h1, h2, h3, h4, h5, h6, h7⟩ := h
  subst h6
  have hs := ins_stable f d a b hab hb hid
  refine (Try.insertionSort_func_w (encN (z := z)) (ltr (z := z) f) g lb sf sb blk 0 a b d W h1 h2 h3 h4 h5 hab hb (by omega)).mono ?_
  rintro e w' ⟨rfl, n, os, rfl⟩
  exact ⟨rfl, _, hs, n, os, rfl⟩

/-- Blocks up to a, the rest as it was. -/
def R1 (f : Nat → Int) {z : Nat} (size : Nat) (d : Array (Fin (z + 1))) (a : Nat) (dk : Array (Fin (z + 1))) : Prop := PF f 20 dk a ∧ (∀ i, a ≤ i → i < size → dk[i]!.val = i) ∧ PermIn 0 size d dk
/-- Blocks of twice the size up to a, blocks from a on. -/
def R2 (f : Nat → Int) {z : Nat} (size bs : Nat) (d : Array (Fin (z + 1))) (a : Nat) (dk : Array (Fin (z + 1))) : Prop := PF f (2 * bs) dk a ∧ BF f size bs dk a ∧ PermIn 0 size d dk

theorem blk_of {f : Nat → Int} {z a b : Nat} {dk d1 : Array (Fin (z + 1))} (hb : b ≤ dk.size) (hid : ∀ i, a ≤ i → i < b → dk[i]!.val = i) (hp : PermIn a b dk d1) (hs : SL f a b d1) : Blk f a b d1 :=
  Blk.perm hb hp (fun i h1 h2 => by rw [hid i h1 h2]; exact ⟨h1, h2⟩) hs

set_option maxRecDepth 100000 in
set_option maxHeartbeats 4000000 in
theorem s_stable {f : Nat → Int} {g : Nat} {lb : Array Value} {sf : Nat} {sb : Array Value} {blk z size : Nat} {W : World} {d : Array (Fin (z + 1))} (h : Cx f g lb sf sb blk size W d) (hn : 0 < size) (hd : ∀ i, i < size → d[i]!.val = i) :
    Calls Try.prog 65 #[.agg #[.func (.func g) #[] lb, .func (.func sf) #[] sb], .int .i64 size] W (Done blk W (fun d' => SL f 0 size d' ∧ PermIn 0 size d d')) := by
  have HC := Lib.hid h
  have hbig := h.big
  have HD := Lib.hid hd
  generalize hQ : (Done blk W (fun d' => SL f 0 size d' ∧ PermIn 0 size d d')) = Q
  have HQ := Lib.hid hQ
  clear h hQ hd
  go_enter Try.func65, Try.ntmps65
  go_wp2_with fail
  obtain ⟨W1, hW1⟩ : ∃ W1, W1 = W.alloc (Obj.cells #[Value.func (Fn.func g) #[] lb, Value.func (Fn.func sf) #[] sb] 96) := ⟨_, rfl⟩
  rw [← hW1]
  have hS1 := HC.out.box (Obj.cells #[Value.func (Fn.func g) #[] lb, Value.func (Fn.func sf) #[] sb] 96)
  rw [← hW1] at hS1
  have C1 := HC.out.next hS1 HC.out.sz
  have HC1 := Lib.hid C1
  have HS1 := Lib.hid hS1
  have HB0 := Lib.hid (show ∀ wr dk, SW (encN (z := z)) W1 blk 0 dk wr → wr.cell? ⟨W.heap.size, 0, none⟩ = some (Value.func (Fn.func g) #[] lb) from fun wr dk h => by
    rw [hW1] at h
    rw [SW.cell_box HC.out.lt h]; simp)
  have HB := Lib.hid (show ∀ wr dk, SW (encN (z := z)) W1 blk 0 dk wr → wr.cell? ⟨W.heap.size, 1, none⟩ = some (Value.func (Fn.func sf) #[] sb) from fun wr dk h => by
    rw [hW1] at h
    rw [SW.cell_box HC.out.lt h]; simp)
  clear hW1 C1 hS1
  go_loopw [5, 6] (fun va vb wr => ∃ (a : Nat) (dk : Array (Fin (z + 1))), va = .int .i64 a ∧ vb = .int .i64 ((a : Int) + 20) ∧ a ≤ size ∧ Hid (R1 f size d a dk) ∧ Hid (SW (encN (z := z)) W1 blk 0 dk wr)) (fun va _ _ => size - (intOf va).toNat)
  case atStart => exact ⟨0, d, rfl, rfl, Nat.zero_le _, Lib.hid ⟨.zero, fun i _ h => HD.out i h, permIn_refl _ _ _⟩, Lib.hid HC1.out.start⟩
  case round =>
    obtain ⟨a, dk, rfl, rfl, ha, hR, hS⟩ := hrel
    have hb0 := HB0.out _ _ hS.out
    have hb1 := HB.out _ _ hS.out
    have HZ := Lib.hid (show dk.size = size by rw [hR.out.2.2.1, HC.out.sz])
    have HCr := Lib.hid (HC1.out.next hS.out HZ.out)
    by_cases hlt : a + 20 ≤ size
    · have hX := s_ins HCr.out a (a + 20) (by omega) hlt (fun i h1 h2 => hR.out.2.1 i h1 (by omega))
      rw [show ((a + 20 : Nat) : Int) = (a : Int) + 20 by omega] at hX
      have HX := Lib.hid hX
      have HN := Lib.hid (show ∀ d1, PermIn a (a + 20) dk d1 ∧ SL f a (a + 20) d1 → R1 f size d (a + 20) d1 from fun d1 ⟨g1, g2⟩ =>
        ⟨.step a (hR.out.1.other g1 (Nat.le_refl _)) (blk_of (by rw [HZ.out]; exact hlt) (fun i h1 h2 => hR.out.2.1 i h1 (by omega)) g1 g2), fun i h1 h2 => by rw [g1.2.1 i (by omega)]; exact hR.out.2.1 i (by omega) h2,
          permIn_trans _ _ _ _ _ hR.out.2.2 (permIn_mono _ _ _ _ _ _ (Nat.zero_le _) hlt (by rw [HZ.out]; exact Nat.le_refl _) g1)⟩)
      clear hX
      go_wp2_with fail
      refine HX.out.mono ?_
      intro e w' hd
      obtain ⟨rfl, d1, hd1, hs1⟩ := hd
      have H1 := Lib.hid (HN.out d1 hd1)
      have H2 := Lib.hid (SW.trans hS.out HC1.out.lt hs1 hd1.1.1)
      clear hd1 hs1
      go_wp2_with fail
      go_roundw
      case rel => exact ⟨a + 20, d1, by go_num, by go_num, hlt, H1, H2⟩
      case measure => simp [intOf]; omega
    · have HX := Lib.hid (s_ins HCr.out a size ha (Nat.le_refl _) (fun i h1 h2 => hR.out.2.1 i h1 h2))
      have HN := Lib.hid (show ∀ d1, PermIn a size dk d1 ∧ SL f a size d1 → BF f size 20 d1 0 ∧ PermIn 0 size d d1 from fun d1 ⟨g1, g2⟩ => by
        have hp : PF f 20 d1 a := hR.out.1.other g1 (Nat.le_refl _)
        refine ⟨hp.all ?_ ha (by omega), permIn_trans _ _ _ _ _ hR.out.2.2 (permIn_mono _ _ _ _ _ _ (Nat.zero_le _) (Nat.le_refl _) (by rw [HZ.out]; exact Nat.le_refl _) g1)⟩
        rcases Nat.lt_or_ge a size with h | h
        · exact .step a h (by rw [show min (a + 20) size = size by omega]; exact blk_of (by rw [HZ.out]; exact Nat.le_refl _) (fun i h1 h2 => hR.out.2.1 i h1 h2) g1 g2) (.done _ (by omega))
        · exact .done a h)
      go_wp2_with fail
      refine HX.out.mono ?_
      intro e w' hd
      obtain ⟨rfl, d1, hd1, hs1⟩ := hd
      have H1 := Lib.hid (HN.out d1 hd1)
      have H2 := Lib.hid (SW.trans hS.out HC1.out.lt hs1 hd1.1.1)
      clear hd1 hs1 HX HN hb0 hb1
      go_wp2_with fail
      go_loopw [4] (fun vb wr => ∃ (bs : Nat) (dk : Array (Fin (z + 1))), vb = .int .i64 bs ∧ 20 ≤ bs ∧ bs ≤ 2 * size + 20 ∧ Hid (BF f size bs dk 0 ∧ PermIn 0 size d dk) ∧ Hid (SW (encN (z := z)) W1 blk 0 dk wr)) (fun vb _ => size - (intOf vb).toNat)
      case atStart => exact ⟨20, d1, rfl, Nat.le_refl _, by omega, H1, H2⟩
      case round =>
        clear H1 H2
        obtain ⟨bs, dk, rfl, b0, b1, hR, hS⟩ := hrel
        by_cases hlt : bs < size
        · go_wp2_with fail
          go_loopw [5, 6] (fun va vb w2 => ∃ (a : Nat) (dk : Array (Fin (z + 1))), va = .int .i64 a ∧ vb = .int .i64 ((a : Int) + 2 * bs) ∧ a ≤ size ∧ Hid (R2 f size bs d a dk) ∧ Hid (SW (encN (z := z)) W1 blk 0 dk w2)) (fun va _ _ => size - (intOf va).toNat)
          case atStart => exact ⟨0, dk, rfl, by go_num, Nat.zero_le _, Lib.hid ⟨.zero, hR.out.1, hR.out.2⟩, hS⟩
          case round =>
            clear hR hS
            obtain ⟨a, dk, rfl, rfl, ha, hR, hS⟩ := hrel
            have hb0 := HB0.out _ _ hS.out
            have hb1 := HB.out _ _ hS.out
            have HZ := Lib.hid (show dk.size = size by rw [hR.out.2.2.1, HC.out.sz])
            have HCr := Lib.hid (HC1.out.next hS.out HZ.out)
            by_cases hle : a + 2 * bs ≤ size
            · obtain ⟨k1, k2, k3⟩ := hR.out.2.1.two (by omega)
              rw [show min (a + bs + bs) size = a + bs + bs by omega] at k2
              have hX := s_merge f g lb sf sb blk z size (2 * bs) wr dk a (a + bs) (a + bs + bs) HCr.out (by omega) (by omega) (by omega) (by omega) k1.1 k2.1 (k1.cross k2)
              rw [show ((a + bs : Nat) : Int) = (a : Int) + bs by omega, show ((a + bs + bs : Nat) : Int) = (a : Int) + 2 * bs by omega] at hX
              have HX := Lib.hid hX
              have HN := Lib.hid (show ∀ d1, SL f a (a + bs + bs) d1 ∧ PermIn a (a + bs + bs) dk d1 → R2 f size bs d (a + 2 * bs) d1 from fun d1 ⟨g1, g2⟩ => by
                refine ⟨.step a (hR.out.1.other g2 (Nat.le_refl _)) ?_, ?_, permIn_trans _ _ _ _ _ hR.out.2.2 (permIn_mono _ _ _ _ _ _ (Nat.zero_le _) (by omega) (by rw [HZ.out]; exact Nat.le_refl _) g2)⟩
                · rw [show a + 2 * bs = a + bs + bs by omega]; exact Blk.merge (by rw [HZ.out]; omega) (by omega) (by omega) k1 k2 g2 g1
                · rw [show a + 2 * bs = a + bs + bs by omega]; exact k3.other g2 (Nat.le_refl _))
              clear hX k1 k2 k3
              go_wp2_with fail
              refine HX.out.mono ?_
              intro e w' hd
              obtain ⟨rfl, d1, hd1, hs1⟩ := hd
              have H1 := Lib.hid (HN.out d1 hd1)
              have H2 := Lib.hid (SW.trans hS.out HC1.out.lt hs1 hd1.2.1)
              clear hd1 hs1
              go_wp2_with fail
              go_roundw
              case rel => exact ⟨a + 2 * bs, d1, by go_num, by go_num, hle, H1, H2⟩
              case measure => simp [intOf]; omega
            · by_cases hm : a + bs < size
              · obtain ⟨k1, k2, k3⟩ := hR.out.2.1.two hm
                rw [show min (a + bs + bs) size = size by omega] at k2
                have hX := s_merge f g lb sf sb blk z size size wr dk a (a + bs) size HCr.out (by omega) (by omega) hm (Nat.le_refl _) k1.1 k2.1 (k1.cross k2)
                rw [show ((a + bs : Nat) : Int) = (a : Int) + bs by omega] at hX
                have HX := Lib.hid hX
                have HN := Lib.hid (show ∀ d1, SL f a size d1 ∧ PermIn a size dk d1 → BF f size (2 * bs) d1 0 ∧ PermIn 0 size d d1 from fun d1 ⟨g1, g2⟩ => by
                  refine ⟨(hR.out.1.other g2 (Nat.le_refl _)).all (.step a (by omega) ?_ (.done _ (by omega))) ha (by omega), permIn_trans _ _ _ _ _ hR.out.2.2 (permIn_mono _ _ _ _ _ _ (Nat.zero_le _) (Nat.le_refl _) (by rw [HZ.out]; exact Nat.le_refl _) g2)⟩
                  rw [show min (a + 2 * bs) size = size by omega]; exact Blk.merge (by rw [HZ.out]; exact Nat.le_refl _) (by omega) (by omega) k1 k2 g2 g1)
                clear hX k1 k2 k3
                go_wp2_with fail
                refine HX.out.mono ?_
                intro e w' hd
                obtain ⟨rfl, d1, hd1, hs1⟩ := hd
                have H1 := Lib.hid (HN.out d1 hd1)
                have H2 := Lib.hid (SW.trans hS.out HC1.out.lt hs1 hd1.2.1)
                clear hd1 hs1
                go_wp2_with fail
                go_roundw
                case rel => exact ⟨2 * bs, d1, by go_num, by omega, by omega, H1, H2⟩
                case measure => simp [intOf]; omega
              · have H1 := Lib.hid (show BF f size (2 * bs) dk 0 ∧ PermIn 0 size d dk from ⟨hR.out.1.all (hR.out.2.1.last (by omega)) ha (by omega), hR.out.2.2⟩)
                go_wp2_with fail
                go_roundw
                case rel => exact ⟨2 * bs, dk, by go_num, by omega, by omega, H1, hS⟩
                case measure => simp [intOf]; omega
        · have hend := Lib.hid (show Q (.returned (.tuple #[])) wr from by
            rw [← HQ.out]
            refine ⟨rfl, dk, ⟨?_, hR.out.2⟩, SW.trans HS1.out HC.out.lt hS.out (by rw [hR.out.2.1])⟩
            cases hR.out.1 with
            | done _ h => omega
            | step _ h1 h2 h3 => rw [show min (0 + bs) size = size by omega] at h2; exact h2.1)
          clear hR hS
          go_wp2_with fail
          go_end0
          exact hend.out

theorem s_SliceStable' {z : Nat} (f : Nat → Int) (g : Nat) (lb : Array Value) (eg : ∀ args w, (callFunc g args).run Try.prog w = .ok (.enter g args) w) (blk c : Nat) (d : Array (Fin (z + 1))) (h2 : 2 ≤ d.size) (hbig : d.size < 1099511627776)
    (hd : ∀ i, i < d.size → d[i]!.val = i) (w : World) (hless : LessReads Try.prog g lb (encN (z := z)) (ltr (z := z) f) blk 0 d.size w) (hH : Sort.Holds (encN (z := z)) w blk 0 d) (hblk : blk < w.heap.size) :
    Calls Try.prog 55 #[.iface 29 (.slice (some ⟨blk, 0, none⟩) d.size c), .func (.func g) #[] lb] w fun e w' =>
      e = .returned (.tuple #[]) ∧ ∃ d' n os, PermIn 0 d.size d d' ∧ SL f 0 d.size d' ∧ w' = Sort.grow (putRow encN (Sort.ahead w n) blk 0 d') os := by
  have hp := Any.sort_SliceStable_of_stable Try.laysGt8 29 3 siT siE (by kernel_rfl) (by kernel_rfl) (by kernel_rfl) (by kernel_rfl) 2 (fun _ => by kernel_rfl) (some ⟨blk, 0, none⟩) d.size c (by omega) 73 (by rw [siK _ h2]; kernel_rfl) (.func g) #[] lb w
    (fun w' => ∃ d' n os, PermIn 0 d.size d d' ∧ SL f 0 d.size d' ∧ w' = Sort.grow (putRow encN (Sort.ahead w n) blk 0 d') os) ?_
  · exact hp
  have hB : sliceBound Try.prog 3 siE 2 (some ⟨blk, 0, none⟩) d.size c = #[.slice (some ⟨blk, 0, none⟩) d.size c, typeHandle Try.prog 3] := by
    unfold sliceBound; rw [if_neg (swapperK_gt _ _ _ h2)]
  have hW : stableWorld Try.prog Try.laysGt8_ren 29 (some ⟨blk, 0, none⟩) d.size c w = Sort.grow w #[.cells #[.slice (some ⟨blk, 0, none⟩) d.size c] 29, .cells #[.pointer (some ⟨Try.prog.globals.size, 29, none⟩), .pointer (some ⟨w.heap.size, 0, none⟩), .int .u64 151] (Try.laysGt8_ren.t 36)] := by
    unfold stableWorld; rw [alloc_eq_grow, alloc_eq_grow, grow_grow]; rfl
  generalize (#[.cells #[.slice (some ⟨blk, 0, none⟩) d.size c] 29, .cells #[.pointer (some ⟨Try.prog.globals.size, 29, none⟩), .pointer (some ⟨w.heap.size, 0, none⟩), .int .u64 151] (Try.laysGt8_ren.t 36)] : Array Obj) = os0 at hW
  rw [hB, hW]
  have hx := fun args W => run_callFunc_extern Try.func73 (by kernel_rfl) (by kernel_rfl) (by kernel_rfl) (e := Extern.ReflectliteSwapper.swap true) (by kernel_rfl) args W
  have hsw := swapSwaps_of_literal (P := Try.prog) true 73 hx 3 siE (by kernel_rfl) (by kernel_rfl) (fun _ => by kernel_rfl) (encN (z := z)) (fun _ => rfl) blk 0 d.size c
  have hC : Cx f g lb 73 #[.slice (some ⟨blk, 0, none⟩) d.size c, typeHandle Try.prog 3] blk d.size (Sort.grow w os0) d :=
    ⟨eg, hless.grow hblk os0, hsw, holds_grow _ w _ blk 0 d hblk hH, by rw [size_grow]; omega, rfl, hbig⟩
  have hs := s_stable hC (by omega) hd
  refine hs.mono ?_
  rintro e w' ⟨rfl, d', ⟨h1, h3⟩, n, os, rfl⟩
  exact ⟨rfl, d', n, os0 ++ os, h3, h1, by unfold sortWorld; rw [ahead_grow, putRow_grow _ (Sort.ahead w n) _ blk 0 _ hblk, grow_grow]⟩
end Go.Proofs.Ytgnmoneiiogoaaa

/- Words: mathematics: the tables of the four kinds, and what a computation tells of them. -/
import GoSem.Op.String
namespace Go.Proofs.YtngjkmjejijfiaaDoor
set_option linter.unusedVariables false
set_option linter.unusedSimpArgs false

abbrev Wd := List UInt8 × List UInt8
def wd1 : List Wd := [([65, 76, 76, 69, 89], [65, 76, 89]), ([65, 86, 69, 78, 85, 69], [65, 86, 69]), ([66, 79, 85, 76, 69, 86, 65, 82, 68], [66, 76, 86, 68]), ([67, 73, 82, 67, 76, 69], [67, 73, 82]), ([67, 79, 85, 82, 84], [67, 84]), ([68, 82, 73, 86, 69], [68, 82]), ([69, 88, 80, 82, 69, 83, 83, 87, 65, 89], [69, 88, 80, 89]), ([72, 73, 71, 72, 87, 65, 89], [72, 87, 89]), ([76, 65, 78, 69], [76, 78]), ([76, 79, 79, 80], [76, 79, 79, 80]), ([80, 65, 82, 75, 87, 65, 89], [80, 75, 87, 89]), ([80, 76, 65, 67, 69], [80, 76]), ([80, 76, 65, 90, 65], [80, 76, 90]), ([82, 79, 65, 68], [82, 68]), ([82, 79, 87], [82, 79, 87]), ([83, 81, 85, 65, 82, 69], [83, 81]), ([83, 84, 82, 69, 69, 84], [83, 84]), ([84, 69, 82, 82, 65, 67, 69], [84, 69, 82]), ([84, 82, 65, 73, 76], [84, 82, 76]), ([87, 65, 89], [87, 65, 89])]
def wd2 : List Wd := [([69, 65, 83, 84], [69]), ([78, 79, 82, 84, 72], [78]), ([78, 79, 82, 84, 72, 69, 65, 83, 84], [78, 69]), ([78, 79, 82, 84, 72, 87, 69, 83, 84], [78, 87]), ([83, 79, 85, 84, 72], [83]), ([83, 79, 85, 84, 72, 69, 65, 83, 84], [83, 69]), ([83, 79, 85, 84, 72, 87, 69, 83, 84], [83, 87]), ([87, 69, 83, 84], [87])]
def wd3 : List Wd := [([65, 76, 65, 66, 65, 77, 65], [65, 76]), ([65, 76, 65, 83, 75, 65], [65, 75]), ([65, 82, 73, 90, 79, 78, 65], [65, 90]), ([65, 82, 75, 65, 78, 83, 65, 83], [65, 82]), ([67, 65, 76, 73, 70, 79, 82, 78, 73, 65], [67, 65]), ([67, 79, 76, 79, 82, 65, 68, 79], [67, 79]), ([67, 79, 78, 78, 69, 67, 84, 73, 67, 85, 84], [67, 84]), ([68, 69, 76, 65, 87, 65, 82, 69], [68, 69]), ([68, 73, 83, 84, 82, 73, 67, 84, 32, 79, 70, 32, 67, 79, 76, 85, 77, 66, 73, 65], [68, 67]), ([70, 76, 79, 82, 73, 68, 65], [70, 76]), ([71, 69, 79, 82, 71, 73, 65], [71, 65]), ([72, 65, 87, 65, 73, 73], [72, 73]), ([73, 68, 65, 72, 79], [73, 68]), ([73, 76, 76, 73, 78, 79, 73, 83], [73, 76]), ([73, 78, 68, 73, 65, 78, 65], [73, 78]), ([73, 79, 87, 65], [73, 65]), ([75, 65, 78, 83, 65, 83], [75, 83]), ([75, 69, 78, 84, 85, 67, 75, 89], [75, 89]), ([76, 79, 85, 73, 83, 73, 65, 78, 65], [76, 65]), ([77, 65, 73, 78, 69], [77, 69]), ([77, 65, 82, 89, 76, 65, 78, 68], [77, 68]), ([77, 65, 83, 83, 65, 67, 72, 85, 83, 69, 84, 84, 83], [77, 65]), ([77, 73, 67, 72, 73, 71, 65, 78], [77, 73]), ([77, 73, 78, 78, 69, 83, 79, 84, 65], [77, 78]), ([77, 73, 83, 83, 73, 83, 83, 73, 80, 80, 73], [77, 83]), ([77, 73, 83, 83, 79, 85, 82, 73], [77, 79]), ([77, 79, 78, 84, 65, 78, 65], [77, 84]), ([78, 69, 66, 82, 65, 83, 75, 65], [78, 69]), ([78, 69, 86, 65, 68, 65], [78, 86]), ([78, 69, 87, 32, 72, 65, 77, 80, 83, 72, 73, 82, 69], [78, 72]), ([78, 69, 87, 32, 74, 69, 82, 83, 69, 89], [78, 74]), ([78, 69, 87, 32, 77, 69, 88, 73, 67, 79], [78, 77]), ([78, 69, 87, 32, 89, 79, 82, 75], [78, 89]), ([78, 79, 82, 84, 72, 32, 67, 65, 82, 79, 76, 73, 78, 65], [78, 67]), ([78, 79, 82, 84, 72, 32, 68, 65, 75, 79, 84, 65], [78, 68]), ([79, 72, 73, 79], [79, 72]), ([79, 75, 76, 65, 72, 79, 77, 65], [79, 75]), ([79, 82, 69, 71, 79, 78], [79, 82]), ([80, 69, 78, 78, 83, 89, 76, 86, 65, 78, 73, 65], [80, 65]), ([82, 72, 79, 68, 69, 32, 73, 83, 76, 65, 78, 68], [82, 73]), ([83, 79, 85, 84, 72, 32, 67, 65, 82, 79, 76, 73, 78, 65], [83, 67]), ([83, 79, 85, 84, 72, 32, 68, 65, 75, 79, 84, 65], [83, 68]), ([84, 69, 78, 78, 69, 83, 83, 69, 69], [84, 78]), ([84, 69, 88, 65, 83], [84, 88]), ([85, 84, 65, 72], [85, 84]), ([86, 69, 82, 77, 79, 78, 84], [86, 84]), ([86, 73, 82, 71, 73, 78, 73, 65], [86, 65]), ([87, 65, 83, 72, 73, 78, 71, 84, 79, 78], [87, 65]), ([87, 69, 83, 84, 32, 86, 73, 82, 71, 73, 78, 73, 65], [87, 86]), ([87, 73, 83, 67, 79, 78, 83, 73, 78], [87, 73]), ([87, 89, 79, 77, 73, 78, 71], [87, 89])]
def wd4 : List Wd := [([65, 80, 65, 82, 84, 77, 69, 78, 84], [65, 80, 84]), ([66, 85, 73, 76, 68, 73, 78, 71], [66, 76, 68, 71]), ([70, 76, 79, 79, 82], [70, 76]), ([82, 79, 79, 77], [82, 77]), ([83, 85, 73, 84, 69], [83, 84, 69]), ([85, 78, 73, 84], [85, 78, 73, 84])]
def wdT (k : Int) : List Wd := if k = 1 then wd1 else if k = 2 then wd2 else if k = 3 then wd3 else if k = 4 then wd4 else []
/-- The short form of a word; the long word of a short form. -/
def shortW (T : List Wd) (w : List UInt8) : Option Wd := T.find? fun p => decide (p.1 = w) || decide (p.2 = w)
def longW (T : List Wd) (w : List UInt8) : Option Wd := T.find? fun p => decide (p.2 = w)
/-- Is one text below another? -/
abbrev ltW : List UInt8 → List UInt8 → Bool := Go.Op.bytesLess
def insW (x : List UInt8) : List (List UInt8) → List (List UInt8)
  | [] => [x]
  | y :: l => if ltW x y then x :: y :: l else y :: insW x l
def sortW (l : List (List UInt8)) : List (List UInt8) := l.foldr insW []
/-- All short forms, in their order. -/
def allW (T : List Wd) : List (List UInt8) := sortW (T.map (·.2))
/-- What a table keeps. -/
def fineW (T : List Wd) : Bool :=
  T.all (fun p => decide (shortW T p.1 = some p) && decide (shortW T p.2 = some p) && decide (longW T p.2 = some p) && decide (p.2.length ≤ p.1.length) && decide (p.1 ≠ []) && decide (p.2 ≠ []))
def risesW : List (List UInt8) → Bool
  | a :: b :: l => ltW a b && risesW (b :: l)
  | _ => true
theorem fine_1 : fineW wd1 = true := by decide +kernel
theorem fine_2 : fineW wd2 = true := by decide +kernel
theorem fine_3 : fineW wd3 = true := by decide +kernel
theorem fine_4 : fineW wd4 = true := by decide +kernel
theorem fine_all (k : Int) : fineW (wdT k) = true := by
  unfold wdT
  split
  · exact fine_1
  · split
    · exact fine_2
    · split
      · exact fine_3
      · split
        · exact fine_4
        · rfl
theorem rises_all (k : Int) : risesW (allW (wdT k)) = true := by
  unfold wdT
  split
  · decide +kernel
  · split
    · decide +kernel
    · split
      · decide +kernel
      · split
        · decide +kernel
        · rfl
/-- A word's letter made small, a blank behind, a blank ahead: no word. -/
def smallB (c : UInt8) : UInt8 := UInt8.ofNat (c.toNat ||| 32)
def largeW (T : List Wd) : Bool :=
  T.all fun p => ((List.range p.1.length).all fun i => decide (p.1.set i (smallB (p.1.getD i 0)) = p.1) || decide (shortW T (p.1.set i (smallB (p.1.getD i 0))) = none)) && decide (shortW T (p.1 ++ [32]) = none) && decide (shortW T (32 :: p.1) = none)
theorem large_all (k : Int) : largeW (wdT k) = true := by
  unfold wdT
  split
  · decide +kernel
  · split
    · decide +kernel
    · split
      · decide +kernel
      · split
        · decide +kernel
        · rfl
theorem fine_at {k : Int} {p : Wd} (h : p ∈ wdT k) : shortW (wdT k) p.1 = some p ∧ shortW (wdT k) p.2 = some p ∧ longW (wdT k) p.2 = some p ∧ p.2.length ≤ p.1.length ∧ p.1 ≠ [] ∧ p.2 ≠ [] := by
  have h1 := List.all_eq_true.1 (fine_all k) p h
  simp only [Bool.and_eq_true, decide_eq_true_eq] at h1
  obtain ⟨⟨⟨⟨⟨a, b⟩, c⟩, d⟩, e⟩, f⟩ := h1
  exact ⟨a, b, c, d, e, f⟩
theorem short_mem {T : List Wd} {w : List UInt8} {p : Wd} (h : shortW T w = some p) : p ∈ T ∧ (w = p.1 ∨ w = p.2) := by
  refine ⟨List.mem_of_find?_eq_some h, ?_⟩
  have := List.find?_some h
  simp only [Bool.or_eq_true, decide_eq_true_eq] at this
  rcases this with h | h
  · exact .inl h.symm
  · exact .inr h.symm
theorem long_mem {T : List Wd} {w : List UInt8} {p : Wd} (h : longW T w = some p) : p ∈ T ∧ p.2 = w := by
  refine ⟨List.mem_of_find?_eq_some h, ?_⟩
  have := List.find?_some h
  simpa using this
/-- What has no short form is no long word's. -/
theorem none_long {T : List Wd} {w : List UInt8} (h : shortW T w = none) : longW T w = none := by
  unfold shortW at h
  unfold longW
  rw [List.find?_eq_none] at h ⊢
  intro p hp
  have := h p hp
  simp only [Bool.or_eq_true, decide_eq_true_eq, not_or] at this
  simp only [decide_eq_true_eq]
  exact this.2
/-- There and back. -/
theorem back_w {k : Int} {w : List UInt8} {p : Wd} (h : shortW (wdT k) w = some p) : longW (wdT k) p.2 = some p ∧ shortW (wdT k) p.1 = some p ∧ shortW (wdT k) p.2 = some p ∧ (w = p.2 ∨ w = p.1) ∧ p.2.length ≤ p.1.length := by
  obtain ⟨hm, hw⟩ := short_mem h
  obtain ⟨a, b, c, d, _, _⟩ := fine_at hm
  exact ⟨c, a, b, hw.symm, d⟩
theorem all_len : (allW wd1).length = 20 ∧ (allW wd2).length = 8 ∧ (allW wd3).length = 51 ∧ (allW wd4).length = 6 := by decide +kernel
/-- Each short form of a kind is one of the table's. -/
theorem ins_mem {x y : List UInt8} : ∀ {l : List (List UInt8)}, y ∈ insW x l ↔ y = x ∨ y ∈ l
  | [] => by simp [insW]
  | z :: l => by
    unfold insW
    split
    · simp
    · rw [List.mem_cons, ins_mem, List.mem_cons]
      constructor
      · rintro (h | h | h)
        · exact .inr (.inl h)
        · exact .inl h
        · exact .inr (.inr h)
      · rintro (h | h | h)
        · exact .inr (.inl h)
        · exact .inl h
        · exact .inr (.inr h)
theorem sort_mem {y : List UInt8} : ∀ {l : List (List UInt8)}, y ∈ sortW l ↔ y ∈ l
  | [] => Iff.rfl
  | x :: l => by
    show y ∈ insW x (sortW l) ↔ _
    rw [ins_mem, sort_mem, List.mem_cons]
/-- All short forms, one selected behind the other. -/
def selS (o : List (List UInt8)) (b : List UInt8) (p : Wd) : List UInt8 := if (decide (o = []) || ltW (o.getLastD []) p.2) && (decide (b = []) || ltW p.2 b) then p.2 else b
def selR (T : List Wd) (o : List (List UInt8)) : List UInt8 := T.foldl (selS o) []
def selN (T : List Wd) : Nat → List (List UInt8)
  | 0 => []
  | n + 1 => selN T n ++ [selR T (selN T n)]
theorem sel_len (T : List Wd) : ∀ n, (selN T n).length = n
  | 0 => rfl
  | n + 1 => by simp [selN, sel_len T n]
theorem sel_all (k : Int) : selN (wdT k) (wdT k).length = allW (wdT k) := by
  unfold wdT
  split
  · decide +kernel
  · split
    · decide +kernel
    · split
      · decide +kernel
      · split
        · decide +kernel
        · rfl
theorem wd_few (k : Int) : (wdT k).length ≤ 51 := by
  unfold wdT
  split
  · decide
  · split
    · decide
    · split
      · decide
      · split
        · decide
        · decide
theorem lt_irrefl : ∀ x : List UInt8, ltW x x = false
  | [] => rfl
  | a :: x => by simp [ltW, Go.Op.bytesLess]; exact lt_irrefl x
theorem lt_total : ∀ x y : List UInt8, (!(ltW x y || x == y)) = ltW y x
  | [], [] => rfl
  | [], b :: y => rfl
  | a :: x, [] => rfl
  | a :: x, b :: y => by
    have h := lt_total x y
    by_cases e : a = b
    · subst e
      simp only [ltW] at h
      simp [ltW, Go.Op.bytesLess]
      rw [← h]; simp
    · have e2 : (a == b) = false := beq_eq_false_iff_ne.2 e
      have e3 : (b == a) = false := beq_eq_false_iff_ne.2 (Ne.symm e)
      simp only [ltW, Go.Op.bytesLess, e2, e3, Bool.false_and, Bool.or_false, List.cons_beq_cons]
      have : a.toNat ≠ b.toNat := fun h => e (UInt8.toNat_inj.1 h)
      simp [UInt8.lt_iff_toNat_lt]
      rcases Nat.lt_or_ge a.toNat b.toNat with h | h
      · simp [h]; omega
      · have h2 : b.toNat < a.toNat := by omega
        simp [h2]; omega
theorem all_mem {T : List Wd} {y : List UInt8} : y ∈ allW T ↔ ∃ p ∈ T, p.2 = y := by
  unfold allW
  rw [sort_mem, List.mem_map]
end Go.Proofs.YtngjkmjejijfiaaDoor

/-
  NARROWER THAN 'FOR EVERY INPUT', by the rows' own cells (each row's printed sentence says how): CivilDays: laid · CivilAdds: laid · CivilTexts: laid · CivilKnown: laid · CivilOrder: laid · CivilMonths: laid · CivilBack: laid.
  DERIVED. THE GIVEN ROWS OF THIS SEAT. 7 by the template 'for every input the law returns true; each argument reads behind the call as it read before'; 0 by the template 'total and deterministic' (their statements: YtpfaalpbfdphaaaDoorTotals.lean).
  GIVEN WITH THE SEED: the statements are not yours to turn. If you find one false, say at which input.
  Laid BY PROGRAM, IN A SANDBOX (cutbox-rows.mjs): the forced cells as the released guide's own fill.sh prints them over the translation 4f96df4ef7d436fd… (all of the seat's roots in one cut). By AI agents, Wed Nov 11 2026. No macro, syntax, notation, axiom, sorry.
-/
import Derived.Test.YtpfaalpbfdphaaaDoorChecked
import GoSem.Claim
import GoSem.ClaimJoined
import GoSem.ClaimMapViews
import Derived.JoinedTies
import Derived.KernelRfl
namespace Go.Proofs.YtpfaalpbfdphaaaDoor
/- THE CELL 'sum', in the pinned program and in every row, IS THE sha256 OF THE DUMP (.gsa) THAT YtpfaalpbfdphaaaDoorProg.lean LOADS. Nothing in Lean hashes anything: it is a label: what it is worth is what the hold of that sum in a sandbox is worth. -/
noncomputable def Tryd.pinned : Pinned := { name := "ytpfaalpbfdphaaadoor", sum := "4f96df4ef7d436fd7504700ad5e3fe6157006c978c966c5aa0ae3249e2b5447f", checked := Tryd.checked }
namespace Rows
def none {H : Type} : Left H := { results := [], args := [] }

/- WHAT THE LISTED PACKAGE-LEVEL VARIABLES READ AS WHEN THE CALL BEGINS. Each datum BY PROGRAM (the guide's laid-datum.mjs) off the statement by which the dump's own 'gosem.cut.vars' lays the variable. In a bare row this is a premise. The card (YtpfaalpbfdphaaaDoorCards.lean) ties it to the program's text. -/
def laid_apportion_civil_lengths {H : Type} : DataW H := .agg [.lit (.int .i64 0), .lit (.int .i64 31), .lit (.int .i64 28), .lit (.int .i64 31), .lit (.int .i64 30), .lit (.int .i64 31), .lit (.int .i64 30), .lit (.int .i64 31), .lit (.int .i64 31), .lit (.int .i64 30), .lit (.int .i64 31), .lit (.int .i64 30), .lit (.int .i64 31)]

/-- 'apportionlaw03.CivilDays': WHATEVER THE INPUT: true; the input reads as it did. -/
def civilDaysSpec : ChangeSpec := { name := "civilDays", fn := fun _ => fun
  | [d1, d2, d3, d4] => { results := [.lit (.bool true)], args := [d1, d2, d3, d4] }
  | _ => none }
def civilDaysRow : OpenClaim := { program := "ytpfaalpbfdphaaadoor", sum := "4f96df4ef7d436fd7504700ad5e3fe6157006c978c966c5aa0ae3249e2b5447f", func := "apportion/apportionlaw03.CivilDays", spec := "civilDays", named := ["apportion/civil.lengths"], apart := false, laid := [("apportion/civil.lengths", laid_apportion_civil_lengths)] }
def CivilDaysSaid : Prop := civilDaysRow.holds Tryd.pinned (OpenSpec.ofChange civilDaysSpec)

/-- ITS FALSE NEIGHBOUR: 'it returns false'. Refute it at one input. -/
def civilDaysWrong : ChangeSpec := { name := "civilDays", fn := fun _ => fun
  | [d1, d2, d3, d4] => { results := [.lit (.bool false)], args := [d1, d2, d3, d4] }
  | _ => none }
def CivilDaysWrongFalsely : Prop := civilDaysRow.holds Tryd.pinned (OpenSpec.ofChange civilDaysWrong)

/-- 'apportionlaw03.CivilAdds': WHATEVER THE INPUT: true; the input reads as it did. -/
def civilAddsSpec : ChangeSpec := { name := "civilAdds", fn := fun _ => fun
  | [d1, d2] => { results := [.lit (.bool true)], args := [d1, d2] }
  | _ => none }
def civilAddsRow : OpenClaim := { program := "ytpfaalpbfdphaaadoor", sum := "4f96df4ef7d436fd7504700ad5e3fe6157006c978c966c5aa0ae3249e2b5447f", func := "apportion/apportionlaw03.CivilAdds", spec := "civilAdds", named := ["apportion/civil.lengths"], apart := false, laid := [("apportion/civil.lengths", laid_apportion_civil_lengths)] }
def CivilAddsSaid : Prop := civilAddsRow.holds Tryd.pinned (OpenSpec.ofChange civilAddsSpec)

/-- ITS FALSE NEIGHBOUR: 'it returns false'. Refute it at one input. -/
def civilAddsWrong : ChangeSpec := { name := "civilAdds", fn := fun _ => fun
  | [d1, d2] => { results := [.lit (.bool false)], args := [d1, d2] }
  | _ => none }
def CivilAddsWrongFalsely : Prop := civilAddsRow.holds Tryd.pinned (OpenSpec.ofChange civilAddsWrong)

/-- 'apportionlaw03.CivilTexts': WHATEVER THE INPUT: true; the input reads as it did. -/
def civilTextsSpec : ChangeSpec := { name := "civilTexts", fn := fun _ => fun
  | [d1, d2] => { results := [.lit (.bool true)], args := [d1, d2] }
  | _ => none }
def civilTextsRow : OpenClaim := { program := "ytpfaalpbfdphaaadoor", sum := "4f96df4ef7d436fd7504700ad5e3fe6157006c978c966c5aa0ae3249e2b5447f", func := "apportion/apportionlaw03.CivilTexts", spec := "civilTexts", named := ["apportion/civil.lengths"], apart := false, laid := [("apportion/civil.lengths", laid_apportion_civil_lengths)] }
def CivilTextsSaid : Prop := civilTextsRow.holds Tryd.pinned (OpenSpec.ofChange civilTextsSpec)

/-- ITS FALSE NEIGHBOUR: 'it returns false'. Refute it at one input. -/
def civilTextsWrong : ChangeSpec := { name := "civilTexts", fn := fun _ => fun
  | [d1, d2] => { results := [.lit (.bool false)], args := [d1, d2] }
  | _ => none }
def CivilTextsWrongFalsely : Prop := civilTextsRow.holds Tryd.pinned (OpenSpec.ofChange civilTextsWrong)

/-- 'apportionlaw03.CivilKnown': WHATEVER THE INPUT: true; the input reads as it did. -/
def civilKnownSpec : ChangeSpec := { name := "civilKnown", fn := fun _ => fun
  | [] => { results := [.lit (.bool true)], args := [] }
  | _ => none }
def civilKnownRow : OpenClaim := { program := "ytpfaalpbfdphaaadoor", sum := "4f96df4ef7d436fd7504700ad5e3fe6157006c978c966c5aa0ae3249e2b5447f", func := "apportion/apportionlaw03.CivilKnown", spec := "civilKnown", named := ["apportion/civil.lengths"], apart := false, laid := [("apportion/civil.lengths", laid_apportion_civil_lengths)] }
def CivilKnownSaid : Prop := civilKnownRow.holds Tryd.pinned (OpenSpec.ofChange civilKnownSpec)

/-- ITS FALSE NEIGHBOUR: 'it returns false'. Refute it at one input. -/
def civilKnownWrong : ChangeSpec := { name := "civilKnown", fn := fun _ => fun
  | [] => { results := [.lit (.bool false)], args := [] }
  | _ => none }
def CivilKnownWrongFalsely : Prop := civilKnownRow.holds Tryd.pinned (OpenSpec.ofChange civilKnownWrong)

/-- 'apportionlaw03.CivilOrder': WHATEVER THE INPUT: true; the input reads as it did. -/
def civilOrderSpec : ChangeSpec := { name := "civilOrder", fn := fun _ => fun
  | [d1, d2] => { results := [.lit (.bool true)], args := [d1, d2] }
  | _ => none }
def civilOrderRow : OpenClaim := { program := "ytpfaalpbfdphaaadoor", sum := "4f96df4ef7d436fd7504700ad5e3fe6157006c978c966c5aa0ae3249e2b5447f", func := "apportion/apportionlaw03.CivilOrder", spec := "civilOrder", named := ["apportion/civil.lengths"], apart := false, laid := [("apportion/civil.lengths", laid_apportion_civil_lengths)] }
def CivilOrderSaid : Prop := civilOrderRow.holds Tryd.pinned (OpenSpec.ofChange civilOrderSpec)

/-- ITS FALSE NEIGHBOUR: 'it returns false'. Refute it at one input. -/
def civilOrderWrong : ChangeSpec := { name := "civilOrder", fn := fun _ => fun
  | [d1, d2] => { results := [.lit (.bool false)], args := [d1, d2] }
  | _ => none }
def CivilOrderWrongFalsely : Prop := civilOrderRow.holds Tryd.pinned (OpenSpec.ofChange civilOrderWrong)

/-- 'apportionlaw03.CivilMonths': WHATEVER THE INPUT: true; the input reads as it did. -/
def civilMonthsSpec : ChangeSpec := { name := "civilMonths", fn := fun _ => fun
  | [d1, d2, d3] => { results := [.lit (.bool true)], args := [d1, d2, d3] }
  | _ => none }
def civilMonthsRow : OpenClaim := { program := "ytpfaalpbfdphaaadoor", sum := "4f96df4ef7d436fd7504700ad5e3fe6157006c978c966c5aa0ae3249e2b5447f", func := "apportion/apportionlaw03.CivilMonths", spec := "civilMonths", named := ["apportion/civil.lengths"], apart := false, laid := [("apportion/civil.lengths", laid_apportion_civil_lengths)] }
def CivilMonthsSaid : Prop := civilMonthsRow.holds Tryd.pinned (OpenSpec.ofChange civilMonthsSpec)

/-- ITS FALSE NEIGHBOUR: 'it returns false'. Refute it at one input. -/
def civilMonthsWrong : ChangeSpec := { name := "civilMonths", fn := fun _ => fun
  | [d1, d2, d3] => { results := [.lit (.bool false)], args := [d1, d2, d3] }
  | _ => none }
def CivilMonthsWrongFalsely : Prop := civilMonthsRow.holds Tryd.pinned (OpenSpec.ofChange civilMonthsWrong)

/-- 'apportionlaw03.CivilBack': WHATEVER THE INPUT: true; the input reads as it did. -/
def civilBackSpec : ChangeSpec := { name := "civilBack", fn := fun _ => fun
  | [d1, d2, d3] => { results := [.lit (.bool true)], args := [d1, d2, d3] }
  | _ => none }
def civilBackRow : OpenClaim := { program := "ytpfaalpbfdphaaadoor", sum := "4f96df4ef7d436fd7504700ad5e3fe6157006c978c966c5aa0ae3249e2b5447f", func := "apportion/apportionlaw03.CivilBack", spec := "civilBack", named := ["apportion/civil.lengths"], apart := false, laid := [("apportion/civil.lengths", laid_apportion_civil_lengths)] }
def CivilBackSaid : Prop := civilBackRow.holds Tryd.pinned (OpenSpec.ofChange civilBackSpec)

/-- ITS FALSE NEIGHBOUR: 'it returns false'. Refute it at one input. -/
def civilBackWrong : ChangeSpec := { name := "civilBack", fn := fun _ => fun
  | [d1, d2, d3] => { results := [.lit (.bool false)], args := [d1, d2, d3] }
  | _ => none }
def CivilBackWrongFalsely : Prop := civilBackRow.holds Tryd.pinned (OpenSpec.ofChange civilBackWrong)

/- THE SECOND FORM. 'bulk': how many values and letters a reading holds, each counted each time it is reached (what is shared counts as often as it is met; a slice's spare places count too). A statement '..UptoSaid' is the law's where the arguments, and the package variables that the reading takes, are together of bulk at most 1048576: NARROWER than '..Said'. Prove '..Said' where nothing that the law and all that it calls make is longer than what came in: it says more and counts as full. Else prove '..UptoSaid'. A law counts once. -/
mutual
def uptoBulk {H : Type} : DataW H → Nat
  | .lit (.string bytes) => bytes.length + 1
  | .lit _ => 1
  | .nil => 1
  | .ptr d => uptoBulk d + 1
  | .slice elems spare => uptoBulkAll elems + uptoBulkAll spare + 1
  | .agg parts => uptoBulkAll parts + 1
  | .iface _ d => uptoBulk d + 1
  | .map entries => uptoBulkEntries entries + 1
  | .held _ => 1
def uptoBulkAll {H : Type} : List (DataW H) → Nat
  | [] => 0
  | d :: r => uptoBulk d + uptoBulkAll r
def uptoBulkEntries {H : Type} : List (Lit × DataW H) → Nat
  | [] => 0
  | x :: r => uptoBulkEntry x + uptoBulkEntries r
def uptoBulkEntry {H : Type} : Lit × DataW H → Nat
  | (.string bytes, d) => bytes.length + uptoBulk d + 1
  | (_, d) => uptoBulk d + 1
 end
def uptoSmall : (H : Type) → List (DataW H) → Bool := fun _ ds => decide (uptoBulkAll ds ≤ 1048576)
def OpenSpec.upto (s : _root_.Go.ChangeSpec) : _root_.Go.OpenSpec := { _root_.Go.OpenSpec.ofChange s with cond := some uptoSmall }

/-- 'apportionlaw03.CivilDays', WHERE WHAT IT READS IS OF BULK AT MOST 1048576: true; the input reads as it did. -/
def civilDaysUptoRow : OpenClaim := { program := "ytpfaalpbfdphaaadoor", sum := "4f96df4ef7d436fd7504700ad5e3fe6157006c978c966c5aa0ae3249e2b5447f", func := "apportion/apportionlaw03.CivilDays", spec := "civilDays", named := ["apportion/civil.lengths"], apart := false, laid := [("apportion/civil.lengths", laid_apportion_civil_lengths)], narrowed := true }
def CivilDaysUptoSaid : Prop := civilDaysUptoRow.holds Tryd.pinned (OpenSpec.upto civilDaysSpec)

/-- 'apportionlaw03.CivilAdds', WHERE WHAT IT READS IS OF BULK AT MOST 1048576: true; the input reads as it did. -/
def civilAddsUptoRow : OpenClaim := { program := "ytpfaalpbfdphaaadoor", sum := "4f96df4ef7d436fd7504700ad5e3fe6157006c978c966c5aa0ae3249e2b5447f", func := "apportion/apportionlaw03.CivilAdds", spec := "civilAdds", named := ["apportion/civil.lengths"], apart := false, laid := [("apportion/civil.lengths", laid_apportion_civil_lengths)], narrowed := true }
def CivilAddsUptoSaid : Prop := civilAddsUptoRow.holds Tryd.pinned (OpenSpec.upto civilAddsSpec)

/-- 'apportionlaw03.CivilTexts', WHERE WHAT IT READS IS OF BULK AT MOST 1048576: true; the input reads as it did. -/
def civilTextsUptoRow : OpenClaim := { program := "ytpfaalpbfdphaaadoor", sum := "4f96df4ef7d436fd7504700ad5e3fe6157006c978c966c5aa0ae3249e2b5447f", func := "apportion/apportionlaw03.CivilTexts", spec := "civilTexts", named := ["apportion/civil.lengths"], apart := false, laid := [("apportion/civil.lengths", laid_apportion_civil_lengths)], narrowed := true }
def CivilTextsUptoSaid : Prop := civilTextsUptoRow.holds Tryd.pinned (OpenSpec.upto civilTextsSpec)

/-- 'apportionlaw03.CivilKnown', WHERE WHAT IT READS IS OF BULK AT MOST 1048576: true; the input reads as it did. -/
def civilKnownUptoRow : OpenClaim := { program := "ytpfaalpbfdphaaadoor", sum := "4f96df4ef7d436fd7504700ad5e3fe6157006c978c966c5aa0ae3249e2b5447f", func := "apportion/apportionlaw03.CivilKnown", spec := "civilKnown", named := ["apportion/civil.lengths"], apart := false, laid := [("apportion/civil.lengths", laid_apportion_civil_lengths)], narrowed := true }
def CivilKnownUptoSaid : Prop := civilKnownUptoRow.holds Tryd.pinned (OpenSpec.upto civilKnownSpec)

/-- 'apportionlaw03.CivilOrder', WHERE WHAT IT READS IS OF BULK AT MOST 1048576: true; the input reads as it did. -/
def civilOrderUptoRow : OpenClaim := { program := "ytpfaalpbfdphaaadoor", sum := "4f96df4ef7d436fd7504700ad5e3fe6157006c978c966c5aa0ae3249e2b5447f", func := "apportion/apportionlaw03.CivilOrder", spec := "civilOrder", named := ["apportion/civil.lengths"], apart := false, laid := [("apportion/civil.lengths", laid_apportion_civil_lengths)], narrowed := true }
def CivilOrderUptoSaid : Prop := civilOrderUptoRow.holds Tryd.pinned (OpenSpec.upto civilOrderSpec)

/-- 'apportionlaw03.CivilMonths', WHERE WHAT IT READS IS OF BULK AT MOST 1048576: true; the input reads as it did. -/
def civilMonthsUptoRow : OpenClaim := { program := "ytpfaalpbfdphaaadoor", sum := "4f96df4ef7d436fd7504700ad5e3fe6157006c978c966c5aa0ae3249e2b5447f", func := "apportion/apportionlaw03.CivilMonths", spec := "civilMonths", named := ["apportion/civil.lengths"], apart := false, laid := [("apportion/civil.lengths", laid_apportion_civil_lengths)], narrowed := true }
def CivilMonthsUptoSaid : Prop := civilMonthsUptoRow.holds Tryd.pinned (OpenSpec.upto civilMonthsSpec)

/-- 'apportionlaw03.CivilBack', WHERE WHAT IT READS IS OF BULK AT MOST 1048576: true; the input reads as it did. -/
def civilBackUptoRow : OpenClaim := { program := "ytpfaalpbfdphaaadoor", sum := "4f96df4ef7d436fd7504700ad5e3fe6157006c978c966c5aa0ae3249e2b5447f", func := "apportion/apportionlaw03.CivilBack", spec := "civilBack", named := ["apportion/civil.lengths"], apart := false, laid := [("apportion/civil.lengths", laid_apportion_civil_lengths)], narrowed := true }
def CivilBackUptoSaid : Prop := civilBackUptoRow.holds Tryd.pinned (OpenSpec.upto civilBackSpec)

end Rows
end Go.Proofs.YtpfaalpbfdphaaaDoor

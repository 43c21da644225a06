/-
  DERIVED. GIVEN WITH THE SEED: THE CARDS: each row of YtlbbampmonkleaaDoorRows.lean that lists a variable, with what it lists TIED to the program's text (the seventh form; the later family's looks); each row that meets fmt, with fmt's text TOLD by the authors' own Lean function (tested against real Go, not proved from fmt's source: count such statements apart). THE CARD IS WHAT COUNTS. Prove the row's statement (the work); the ties are given (YtlbbampmonkleaaDoorTie.lean); close each card by the builder's one call (the guide's Derived/Test/ToyasCard.lean, 'card_holds'). Laid BY PROGRAM, IN A SANDBOX (cutbox-door.mjs). By AI agents, Wed Nov 11 2026. No macro, syntax, notation, axiom, sorry.
-/
import Derived.Test.YtlbbampmonkleaaDoorRows
import GoSem.ClaimSeven
namespace Go.Proofs.YtlbbampmonkleaaDoor
namespace Rows

/-- THE TIED CARD OF 'apportionlaw04.PeriodSpans'. -/
def periodSpansCard : Claim7 := { stood := { row := periodSpansRow, standIns := [], harness := (true, "9c263536680fc3a88c43c46e85b9e65ddf76b4a14e35ad0080521d34e59f1188"), looks := true }, kinds := [], alts := [], laidByText := true, laidKinds := [.data, .data, .data, .sentinel, .sentinel, .data], laidTests := true, laidLooks := .later }
def PeriodSpansCardSaid : Prop := Claim7.holds Tryd.pinned (.plain (OpenSpec.ofChange periodSpansSpec)) periodSpansCard

/-- THE TIED CARD OF 'apportionlaw04.PeriodTexts'. -/
def periodTextsCard : Claim7 := { stood := { row := periodTextsRow, standIns := [], harness := (true, "9c263536680fc3a88c43c46e85b9e65ddf76b4a14e35ad0080521d34e59f1188"), looks := true }, kinds := [], alts := [], laidByText := true, laidKinds := [.data, .data, .data, .sentinel, .sentinel, .data], laidTests := true, laidLooks := .later }
def PeriodTextsCardSaid : Prop := Claim7.holds Tryd.pinned (.plain (OpenSpec.ofChange periodTextsSpec)) periodTextsCard

/-- THE TIED CARD OF 'apportionlaw04.PeriodKnown'. -/
def periodKnownCard : Claim7 := { stood := { row := periodKnownRow, standIns := [], harness := (true, "9c263536680fc3a88c43c46e85b9e65ddf76b4a14e35ad0080521d34e59f1188"), looks := true }, kinds := [], alts := [], laidByText := true, laidKinds := [.data, .data, .data, .sentinel, .sentinel, .data], laidTests := true, laidLooks := .later }
def PeriodKnownCardSaid : Prop := Claim7.holds Tryd.pinned (.plain (OpenSpec.ofChange periodKnownSpec)) periodKnownCard

/-- THE TIED CARD OF 'apportionlaw04.PeriodOne'. -/
def periodOneCard : Claim7 := { stood := { row := periodOneRow, standIns := [], harness := (true, "9c263536680fc3a88c43c46e85b9e65ddf76b4a14e35ad0080521d34e59f1188"), looks := true }, kinds := [], alts := [], laidByText := true, laidKinds := [.data, .data, .data, .sentinel, .sentinel, .data], laidTests := true, laidLooks := .later }
def PeriodOneCardSaid : Prop := Claim7.holds Tryd.pinned (.plain (OpenSpec.ofChange periodOneSpec)) periodOneCard

/-- THE TIED CARD OF 'apportionlaw04.PeriodBack'. -/
def periodBackCard : Claim7 := { stood := { row := periodBackRow, standIns := [], harness := (true, "9c263536680fc3a88c43c46e85b9e65ddf76b4a14e35ad0080521d34e59f1188"), looks := true }, kinds := [], alts := [], laidByText := true, laidKinds := [.data, .data, .data, .sentinel, .sentinel, .data], laidTests := true, laidLooks := .later }
def PeriodBackCardSaid : Prop := Claim7.holds Tryd.pinned (.plain (OpenSpec.ofChange periodBackSpec)) periodBackCard

/-- THE TIED CARD OF 'apportionlaw04.PeriodOrder'. -/
def periodOrderCard : Claim7 := { stood := { row := periodOrderRow, standIns := [], harness := (true, "9c263536680fc3a88c43c46e85b9e65ddf76b4a14e35ad0080521d34e59f1188"), looks := true }, kinds := [], alts := [], laidByText := true, laidKinds := [.data, .data, .data, .sentinel, .sentinel, .data], laidTests := true, laidLooks := .later }
def PeriodOrderCardSaid : Prop := Claim7.holds Tryd.pinned (.plain (OpenSpec.ofChange periodOrderSpec)) periodOrderCard

/-- THE SECOND FORM's CARD OF 'apportionlaw04.PeriodSpans'. -/
def periodSpansUptoCard : Claim7 := { stood := { row := periodSpansUptoRow, standIns := [], harness := (true, "9c263536680fc3a88c43c46e85b9e65ddf76b4a14e35ad0080521d34e59f1188"), looks := true }, kinds := [], alts := [], laidByText := true, laidKinds := [.data, .data, .data, .sentinel, .sentinel, .data], laidTests := true, laidLooks := .later }
def PeriodSpansUptoCardSaid : Prop := Claim7.holds Tryd.pinned (.plain (OpenSpec.upto periodSpansSpec)) periodSpansUptoCard

/-- THE SECOND FORM's CARD OF 'apportionlaw04.PeriodTexts'. -/
def periodTextsUptoCard : Claim7 := { stood := { row := periodTextsUptoRow, standIns := [], harness := (true, "9c263536680fc3a88c43c46e85b9e65ddf76b4a14e35ad0080521d34e59f1188"), looks := true }, kinds := [], alts := [], laidByText := true, laidKinds := [.data, .data, .data, .sentinel, .sentinel, .data], laidTests := true, laidLooks := .later }
def PeriodTextsUptoCardSaid : Prop := Claim7.holds Tryd.pinned (.plain (OpenSpec.upto periodTextsSpec)) periodTextsUptoCard

/-- THE SECOND FORM's CARD OF 'apportionlaw04.PeriodKnown'. -/
def periodKnownUptoCard : Claim7 := { stood := { row := periodKnownUptoRow, standIns := [], harness := (true, "9c263536680fc3a88c43c46e85b9e65ddf76b4a14e35ad0080521d34e59f1188"), looks := true }, kinds := [], alts := [], laidByText := true, laidKinds := [.data, .data, .data, .sentinel, .sentinel, .data], laidTests := true, laidLooks := .later }
def PeriodKnownUptoCardSaid : Prop := Claim7.holds Tryd.pinned (.plain (OpenSpec.upto periodKnownSpec)) periodKnownUptoCard

/-- THE SECOND FORM's CARD OF 'apportionlaw04.PeriodOne'. -/
def periodOneUptoCard : Claim7 := { stood := { row := periodOneUptoRow, standIns := [], harness := (true, "9c263536680fc3a88c43c46e85b9e65ddf76b4a14e35ad0080521d34e59f1188"), looks := true }, kinds := [], alts := [], laidByText := true, laidKinds := [.data, .data, .data, .sentinel, .sentinel, .data], laidTests := true, laidLooks := .later }
def PeriodOneUptoCardSaid : Prop := Claim7.holds Tryd.pinned (.plain (OpenSpec.upto periodOneSpec)) periodOneUptoCard

/-- THE SECOND FORM's CARD OF 'apportionlaw04.PeriodBack'. -/
def periodBackUptoCard : Claim7 := { stood := { row := periodBackUptoRow, standIns := [], harness := (true, "9c263536680fc3a88c43c46e85b9e65ddf76b4a14e35ad0080521d34e59f1188"), looks := true }, kinds := [], alts := [], laidByText := true, laidKinds := [.data, .data, .data, .sentinel, .sentinel, .data], laidTests := true, laidLooks := .later }
def PeriodBackUptoCardSaid : Prop := Claim7.holds Tryd.pinned (.plain (OpenSpec.upto periodBackSpec)) periodBackUptoCard

/-- THE SECOND FORM's CARD OF 'apportionlaw04.PeriodOrder'. -/
def periodOrderUptoCard : Claim7 := { stood := { row := periodOrderUptoRow, standIns := [], harness := (true, "9c263536680fc3a88c43c46e85b9e65ddf76b4a14e35ad0080521d34e59f1188"), looks := true }, kinds := [], alts := [], laidByText := true, laidKinds := [.data, .data, .data, .sentinel, .sentinel, .data], laidTests := true, laidLooks := .later }
def PeriodOrderUptoCardSaid : Prop := Claim7.holds Tryd.pinned (.plain (OpenSpec.upto periodOrderSpec)) periodOrderUptoCard
end Rows
end Go.Proofs.YtlbbampmonkleaaDoor

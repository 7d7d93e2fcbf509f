/-
  DERIVED. GIVEN WITH THE SEED: THE CARDS: each row of YteciehjlefldmaaDoorRows.lean that lists a variable, with what it lists TIED to the program's text (the seventh form; the later family's looks); each row that meets fmt, with fmt's text TOLD by the authors' own Lean function (tested against real Go, not proved from fmt's source: count such statements apart). THE CARD IS WHAT COUNTS. Prove the row's statement (the work); the ties are given (YteciehjlefldmaaDoorTie.lean); close each card by the builder's one call (the guide's Derived/Test/ToyasCard.lean, 'card_holds'). Laid BY PROGRAM, IN A SANDBOX (cutbox-door.mjs). By AI agents, Wed Nov 11 2026. No macro, syntax, notation, axiom, sorry.
-/
import Derived.Test.YteciehjlefldmaaDoorRows
import GoSem.ClaimSeven
namespace Go.Proofs.YteciehjlefldmaaDoor
namespace Rows

/-- THE TIED CARD OF 'easementlaw38.TextTypes'. -/
def textTypesCard : Claim7 := { stood := { row := textTypesRow, standIns := [], harness := (true, "630f3b267723d0ada23b81ff408f50557b238f71edaab69adca131efa6b114fb"), looks := false }, kinds := [], alts := [], laidByText := true, laidKinds := [.data, .pinned], laidTests := true, laidLooks := .later }
def TextTypesCardSaid : Prop := Claim7.holds Tryd.pinned (.plain (OpenSpec.ofChange textTypesSpec)) textTypesCard

/-- THE TIED CARD OF 'easementlaw38.TextParses'. -/
def textParsesCard : Claim7 := { stood := { row := textParsesRow, standIns := [], harness := (true, "630f3b267723d0ada23b81ff408f50557b238f71edaab69adca131efa6b114fb"), looks := false }, kinds := [], alts := [], laidByText := true, laidKinds := [.data, .pinned], laidTests := true, laidLooks := .later }
def TextParsesCardSaid : Prop := Claim7.holds Tryd.pinned (.plain (OpenSpec.ofChange textParsesSpec)) textParsesCard

/-- THE SECOND FORM's CARD OF 'easementlaw38.TextTypes'. -/
def textTypesUptoCard : Claim7 := { stood := { row := textTypesUptoRow, standIns := [], harness := (true, "630f3b267723d0ada23b81ff408f50557b238f71edaab69adca131efa6b114fb"), looks := false }, kinds := [], alts := [], laidByText := true, laidKinds := [.data, .pinned], laidTests := true, laidLooks := .later }
def TextTypesUptoCardSaid : Prop := Claim7.holds Tryd.pinned (.plain (OpenSpec.upto textTypesSpec)) textTypesUptoCard

/-- THE SECOND FORM's CARD OF 'easementlaw38.TextParses'. -/
def textParsesUptoCard : Claim7 := { stood := { row := textParsesUptoRow, standIns := [], harness := (true, "630f3b267723d0ada23b81ff408f50557b238f71edaab69adca131efa6b114fb"), looks := false }, kinds := [], alts := [], laidByText := true, laidKinds := [.data, .pinned], laidTests := true, laidLooks := .later }
def TextParsesUptoCardSaid : Prop := Claim7.holds Tryd.pinned (.plain (OpenSpec.upto textParsesSpec)) textParsesUptoCard
end Rows
end Go.Proofs.YteciehjlefldmaaDoor

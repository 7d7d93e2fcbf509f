/-
  DERIVED. GIVEN WITH THE SEED: THE CARDS: each row of YtpnmnbfbcgkcjaaGreatDoorRows.lean that lists a variable, with what it lists TIED to the program's text (the seventh form; the later family's looks); each row that meets fmt, with fmt's text TOLD by the authors' own Lean function (tested against real Go, not proved from fmt's source: count such statements apart). THE CARD IS WHAT COUNTS. Prove the row's statement (the work); the ties are given (YtpnmnbfbcgkcjaaGreatDoorTie.lean); close each card by the builder's one call (the guide's Derived/Test/ToyasCard.lean, 'card_holds'). Laid BY PROGRAM, IN A SANDBOX (cutbox-door.mjs). By AI agents, Wed Nov 11 2026. No macro, syntax, notation, axiom, sorry.
-/
import Derived.Test.YtpnmnbfbcgkcjaaGreatDoorRows
import GoSem.ClaimSeven
namespace Go.Proofs.YtpnmnbfbcgkcjaaGreatDoor
namespace Rows

/-- THE TIED CARD OF 'easementlaw30.ModelLoose'. -/
def modelLooseCard : Claim7 := { stood := { row := modelLooseRow, standIns := [], harness := (true, "c4a6453e1a7e71764eed99ca25f3c7cae3aa30fad516660fec9d6130a5cb52e4"), looks := true }, kinds := [], alts := [], laidByText := true, laidKinds := [.data], laidTests := true, laidLooks := .later }
def ModelLooseCardSaid : Prop := Claim7.holds Tryz.pinned (.plain (OpenSpec.ofChange modelLooseSpec)) modelLooseCard

/-- THE SECOND FORM's CARD OF 'easementlaw30.ModelLoose'. -/
def modelLooseUptoCard : Claim7 := { stood := { row := modelLooseUptoRow, standIns := [], harness := (true, "c4a6453e1a7e71764eed99ca25f3c7cae3aa30fad516660fec9d6130a5cb52e4"), looks := true }, kinds := [], alts := [], laidByText := true, laidKinds := [.data], laidTests := true, laidLooks := .later }
def ModelLooseUptoCardSaid : Prop := Claim7.holds Tryz.pinned (.plain (OpenSpec.upto modelLooseSpec)) modelLooseUptoCard
end Rows
end Go.Proofs.YtpnmnbfbcgkcjaaGreatDoor

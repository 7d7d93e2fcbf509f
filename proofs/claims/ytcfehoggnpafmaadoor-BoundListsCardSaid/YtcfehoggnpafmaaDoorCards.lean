/-
  DERIVED. GIVEN WITH THE SEED: THE CARDS: each row of YtcfehoggnpafmaaDoorRows.lean that lists a variable, with what it lists TIED to the program's text (the seventh form; the later family's looks); each row that meets fmt, with fmt's text TOLD by the authors' own Lean function (tested against real Go, not proved from fmt's source: count such statements apart). THE CARD IS WHAT COUNTS. Prove the row's statement (the work); the ties are given (YtcfehoggnpafmaaDoorTie.lean); close each card by the builder's one call (the guide's Derived/Test/ToyasCard.lean, 'card_holds'). Laid BY PROGRAM, IN A SANDBOX (cutbox-door.mjs). By AI agents, Wed Nov 11 2026. No macro, syntax, notation, axiom, sorry.
-/
import Derived.Test.YtcfehoggnpafmaaDoorRows
import GoSem.ClaimSeven
namespace Go.Proofs.YtcfehoggnpafmaaDoor
namespace Rows

/-- THE TIED CARD OF 'easementlaw34.BoundLists'. -/
def boundListsCard : Claim7 := { stood := { row := boundListsRow, standIns := [], harness := (true, "31cc6271dc5a7d8794b8e42b53f70765b9b3758a4f9e70dbc01fcd26af658608"), looks := false }, kinds := [], alts := [], laidByText := true, laidKinds := [.data], laidTests := true, laidLooks := .later }
def BoundListsCardSaid : Prop := Claim7.holds Tryd.pinned (.plain (OpenSpec.ofChange boundListsSpec)) boundListsCard

/-- THE SECOND FORM's CARD OF 'easementlaw34.BoundLists'. -/
def boundListsUptoCard : Claim7 := { stood := { row := boundListsUptoRow, standIns := [], harness := (true, "31cc6271dc5a7d8794b8e42b53f70765b9b3758a4f9e70dbc01fcd26af658608"), looks := false }, kinds := [], alts := [], laidByText := true, laidKinds := [.data], laidTests := true, laidLooks := .later }
def BoundListsUptoCardSaid : Prop := Claim7.holds Tryd.pinned (.plain (OpenSpec.upto boundListsSpec)) boundListsUptoCard
end Rows
end Go.Proofs.YtcfehoggnpafmaaDoor

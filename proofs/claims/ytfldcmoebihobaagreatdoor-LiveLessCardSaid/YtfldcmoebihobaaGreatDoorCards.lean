/-
  DERIVED. GIVEN WITH THE SEED: THE CARDS: each row of YtfldcmoebihobaaGreatDoorRows.lean that lists a variable, with what it lists TIED to the program's text (the seventh form; the later family's looks); each row that meets fmt, with fmt's text TOLD by the authors' own Lean function (tested against real Go, not proved from fmt's source: count such statements apart). THE CARD IS WHAT COUNTS. Prove the row's statement (the work); the ties are given (YtfldcmoebihobaaGreatDoorTie.lean); close each card by the builder's one call (the guide's Derived/Test/ToyasCard.lean, 'card_holds'). Laid BY PROGRAM, IN A SANDBOX (cutbox-door.mjs). By AI agents, Wed Nov 11 2026. No macro, syntax, notation, axiom, sorry.
-/
import Derived.Test.YtfldcmoebihobaaGreatDoorRows
import GoSem.ClaimSeven
namespace Go.Proofs.YtfldcmoebihobaaGreatDoor
namespace Rows

/-- THE TIED CARD OF 'easementlaw25.LiveTells'. -/
def liveTellsCard : Claim7 := { stood := { row := liveTellsRow, standIns := [], harness := (true, "d53b46bb7cc519e5492eeb0ed28eca8f6ae03e5ad12c6d83115bc880702ad24c"), looks := false }, kinds := [], alts := [], laidByText := true, laidKinds := [.data], laidTests := true, laidLooks := .later }
def LiveTellsCardSaid : Prop := Claim7.holds Tryz.pinned (.plain (OpenSpec.ofChange liveTellsSpec)) liveTellsCard

/-- THE TIED CARD OF 'easementlaw25.LiveLess'. -/
def liveLessCard : Claim7 := { stood := { row := liveLessRow, standIns := [], harness := (true, "d53b46bb7cc519e5492eeb0ed28eca8f6ae03e5ad12c6d83115bc880702ad24c"), looks := false }, kinds := [], alts := [], laidByText := true, laidKinds := [.data], laidTests := true, laidLooks := .later }
def LiveLessCardSaid : Prop := Claim7.holds Tryz.pinned (.plain (OpenSpec.ofChange liveLessSpec)) liveLessCard

/-- THE SECOND FORM's CARD OF 'easementlaw25.LiveTells'. -/
def liveTellsUptoCard : Claim7 := { stood := { row := liveTellsUptoRow, standIns := [], harness := (true, "d53b46bb7cc519e5492eeb0ed28eca8f6ae03e5ad12c6d83115bc880702ad24c"), looks := false }, kinds := [], alts := [], laidByText := true, laidKinds := [.data], laidTests := true, laidLooks := .later }
def LiveTellsUptoCardSaid : Prop := Claim7.holds Tryz.pinned (.plain (OpenSpec.upto liveTellsSpec)) liveTellsUptoCard

/-- THE SECOND FORM's CARD OF 'easementlaw25.LiveLess'. -/
def liveLessUptoCard : Claim7 := { stood := { row := liveLessUptoRow, standIns := [], harness := (true, "d53b46bb7cc519e5492eeb0ed28eca8f6ae03e5ad12c6d83115bc880702ad24c"), looks := false }, kinds := [], alts := [], laidByText := true, laidKinds := [.data], laidTests := true, laidLooks := .later }
def LiveLessUptoCardSaid : Prop := Claim7.holds Tryz.pinned (.plain (OpenSpec.upto liveLessSpec)) liveLessUptoCard
end Rows
end Go.Proofs.YtfldcmoebihobaaGreatDoor

/-
  DERIVED. GIVEN WITH THE SEED: THE CARDS: each row of YtaajcbeoafhmaaaGreatDoorRows.lean that lists a variable, with what it lists TIED to the program's text (the seventh form; the later family's looks); each row that meets fmt, with fmt's text TOLD by the authors' own Lean function (tested against real Go, not proved from fmt's source: count such statements apart). THE CARD IS WHAT COUNTS. Prove the row's statement (the work); the ties are given (YtaajcbeoafhmaaaGreatDoorTie.lean); close each card by the builder's one call (the guide's Derived/Test/ToyasCard.lean, 'card_holds'). Laid BY PROGRAM, IN A SANDBOX (cutbox-door.mjs). By AI agents, Wed Nov 11 2026. No macro, syntax, notation, axiom, sorry.
-/
import Derived.Test.YtaajcbeoafhmaaaGreatDoorRows
import GoSem.ClaimSeven
namespace Go.Proofs.YtaajcbeoafhmaaaGreatDoor
namespace Rows

/-- THE TIED CARD OF 'easementlaw28.SeedTells'. -/
def seedTellsCard : Claim7 := { stood := { row := seedTellsRow, standIns := [], harness := (true, "69afacfbd48a1b6ddf6b7bf80203764013ec63c3f8ad2624e5f3bc871cbaa802"), looks := false }, kinds := [], alts := [], laidByText := true, laidKinds := [.data], laidTests := true, laidLooks := .later }
def SeedTellsCardSaid : Prop := Claim7.holds Tryz.pinned (.plain (OpenSpec.ofChange seedTellsSpec)) seedTellsCard

/-- THE TIED CARD OF 'easementlaw28.SeedEnds'. -/
def seedEndsCard : Claim7 := { stood := { row := seedEndsRow, standIns := [], harness := (true, "69afacfbd48a1b6ddf6b7bf80203764013ec63c3f8ad2624e5f3bc871cbaa802"), looks := false }, kinds := [], alts := [], laidByText := true, laidKinds := [.data], laidTests := true, laidLooks := .later }
def SeedEndsCardSaid : Prop := Claim7.holds Tryz.pinned (.plain (OpenSpec.ofChange seedEndsSpec)) seedEndsCard

/-- THE TIED CARD OF 'easementlaw28.SeedGrows'. -/
def seedGrowsCard : Claim7 := { stood := { row := seedGrowsRow, standIns := [], harness := (true, "69afacfbd48a1b6ddf6b7bf80203764013ec63c3f8ad2624e5f3bc871cbaa802"), looks := false }, kinds := [], alts := [], laidByText := true, laidKinds := [.data], laidTests := true, laidLooks := .later }
def SeedGrowsCardSaid : Prop := Claim7.holds Tryz.pinned (.plain (OpenSpec.ofChange seedGrowsSpec)) seedGrowsCard

/-- THE SECOND FORM's CARD OF 'easementlaw28.SeedTells'. -/
def seedTellsUptoCard : Claim7 := { stood := { row := seedTellsUptoRow, standIns := [], harness := (true, "69afacfbd48a1b6ddf6b7bf80203764013ec63c3f8ad2624e5f3bc871cbaa802"), looks := false }, kinds := [], alts := [], laidByText := true, laidKinds := [.data], laidTests := true, laidLooks := .later }
def SeedTellsUptoCardSaid : Prop := Claim7.holds Tryz.pinned (.plain (OpenSpec.upto seedTellsSpec)) seedTellsUptoCard

/-- THE SECOND FORM's CARD OF 'easementlaw28.SeedEnds'. -/
def seedEndsUptoCard : Claim7 := { stood := { row := seedEndsUptoRow, standIns := [], harness := (true, "69afacfbd48a1b6ddf6b7bf80203764013ec63c3f8ad2624e5f3bc871cbaa802"), looks := false }, kinds := [], alts := [], laidByText := true, laidKinds := [.data], laidTests := true, laidLooks := .later }
def SeedEndsUptoCardSaid : Prop := Claim7.holds Tryz.pinned (.plain (OpenSpec.upto seedEndsSpec)) seedEndsUptoCard

/-- THE SECOND FORM's CARD OF 'easementlaw28.SeedGrows'. -/
def seedGrowsUptoCard : Claim7 := { stood := { row := seedGrowsUptoRow, standIns := [], harness := (true, "69afacfbd48a1b6ddf6b7bf80203764013ec63c3f8ad2624e5f3bc871cbaa802"), looks := false }, kinds := [], alts := [], laidByText := true, laidKinds := [.data], laidTests := true, laidLooks := .later }
def SeedGrowsUptoCardSaid : Prop := Claim7.holds Tryz.pinned (.plain (OpenSpec.upto seedGrowsSpec)) seedGrowsUptoCard
end Rows
end Go.Proofs.YtaajcbeoafhmaaaGreatDoor

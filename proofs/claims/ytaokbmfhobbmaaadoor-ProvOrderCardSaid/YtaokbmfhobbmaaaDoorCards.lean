/-
  DERIVED. GIVEN WITH THE SEED: THE CARDS: each row of YtaokbmfhobbmaaaDoorRows.lean that lists a variable, with what it lists TIED to the program's text (the seventh form; the later family's looks); each row that meets fmt, with fmt's text TOLD by the authors' own Lean function (tested against real Go, not proved from fmt's source: count such statements apart). THE CARD IS WHAT COUNTS. Prove the row's statement (the work); the ties are given (YtaokbmfhobbmaaaDoorTie.lean); close each card by the builder's one call (the guide's Derived/Test/ToyasCard.lean, 'card_holds'). Laid BY PROGRAM, IN A SANDBOX (cutbox-door.mjs). By AI agents, Wed Nov 11 2026. No macro, syntax, notation, axiom, sorry.
-/
import Derived.Test.YtaokbmfhobbmaaaDoorRows
import GoSem.ClaimSeven
namespace Go.Proofs.YtaokbmfhobbmaaaDoor
namespace Rows

/-- THE TIED CARD OF 'easementlaw26.ProvTells'. -/
def provTellsCard : Claim7 := { stood := { row := provTellsRow, standIns := [], harness := (true, "1e005353ebcc23d92dd8b0e8a8ab3a74449fbd923f357be332d75de7f53068c9"), looks := false }, kinds := [], alts := [], laidByText := true, laidKinds := [.data, .pinned], laidTests := true, laidLooks := .later }
def ProvTellsCardSaid : Prop := Claim7.holds Tryd.pinned (.plain (OpenSpec.ofChange provTellsSpec)) provTellsCard

/-- THE TIED CARD OF 'easementlaw26.ProvReads'. -/
def provReadsCard : Claim7 := { stood := { row := provReadsRow, standIns := [], harness := (true, "1e005353ebcc23d92dd8b0e8a8ab3a74449fbd923f357be332d75de7f53068c9"), looks := false }, kinds := [], alts := [], laidByText := true, laidKinds := [.data, .pinned], laidTests := true, laidLooks := .later }
def ProvReadsCardSaid : Prop := Claim7.holds Tryd.pinned (.plain (OpenSpec.ofChange provReadsSpec)) provReadsCard

/-- THE TIED CARD OF 'easementlaw26.ProvOrder'. -/
def provOrderCard : Claim7 := { stood := { row := provOrderRow, standIns := [], harness := (true, "1e005353ebcc23d92dd8b0e8a8ab3a74449fbd923f357be332d75de7f53068c9"), looks := false }, kinds := [], alts := [], laidByText := true, laidKinds := [.data, .pinned], laidTests := true, laidLooks := .later }
def ProvOrderCardSaid : Prop := Claim7.holds Tryd.pinned (.plain (OpenSpec.ofChange provOrderSpec)) provOrderCard

/-- THE SECOND FORM's CARD OF 'easementlaw26.ProvTells'. -/
def provTellsUptoCard : Claim7 := { stood := { row := provTellsUptoRow, standIns := [], harness := (true, "1e005353ebcc23d92dd8b0e8a8ab3a74449fbd923f357be332d75de7f53068c9"), looks := false }, kinds := [], alts := [], laidByText := true, laidKinds := [.data, .pinned], laidTests := true, laidLooks := .later }
def ProvTellsUptoCardSaid : Prop := Claim7.holds Tryd.pinned (.plain (OpenSpec.upto provTellsSpec)) provTellsUptoCard

/-- THE SECOND FORM's CARD OF 'easementlaw26.ProvReads'. -/
def provReadsUptoCard : Claim7 := { stood := { row := provReadsUptoRow, standIns := [], harness := (true, "1e005353ebcc23d92dd8b0e8a8ab3a74449fbd923f357be332d75de7f53068c9"), looks := false }, kinds := [], alts := [], laidByText := true, laidKinds := [.data, .pinned], laidTests := true, laidLooks := .later }
def ProvReadsUptoCardSaid : Prop := Claim7.holds Tryd.pinned (.plain (OpenSpec.upto provReadsSpec)) provReadsUptoCard

/-- THE SECOND FORM's CARD OF 'easementlaw26.ProvOrder'. -/
def provOrderUptoCard : Claim7 := { stood := { row := provOrderUptoRow, standIns := [], harness := (true, "1e005353ebcc23d92dd8b0e8a8ab3a74449fbd923f357be332d75de7f53068c9"), looks := false }, kinds := [], alts := [], laidByText := true, laidKinds := [.data, .pinned], laidTests := true, laidLooks := .later }
def ProvOrderUptoCardSaid : Prop := Claim7.holds Tryd.pinned (.plain (OpenSpec.upto provOrderSpec)) provOrderUptoCard
end Rows
end Go.Proofs.YtaokbmfhobbmaaaDoor

/-
  DERIVED. GIVEN WITH THE SEED: THE CARDS: each row of YtdjcapgpjpadeaaDoorRows.lean that lists a variable, with what it lists TIED to the program's text (the seventh form; the later family's looks); each row that meets fmt, with fmt's text TOLD by the authors' own Lean function (tested against real Go, not proved from fmt's source: count such statements apart). THE CARD IS WHAT COUNTS. Prove the row's statement (the work); the ties are given (YtdjcapgpjpadeaaDoorTie.lean); close each card by the builder's one call (the guide's Derived/Test/ToyasCard.lean, 'card_holds'). Laid BY PROGRAM, IN A SANDBOX (cutbox-door.mjs). By AI agents, Wed Nov 11 2026. No macro, syntax, notation, axiom, sorry.
-/
import Derived.Test.YtdjcapgpjpadeaaDoorRows
import GoSem.ClaimSeven
namespace Go.Proofs.YtdjcapgpjpadeaaDoor
namespace Rows

/-- THE TIED CARD OF 'easementlaw31.DeclTells'. -/
def declTellsCard : Claim7 := { stood := { row := declTellsRow, standIns := [], harness := (true, "cff4440a208ff8a3b042a5945bde47ded1e6b5f250cae28a4c58b266efaa0e7b"), looks := false }, kinds := [], alts := [], laidByText := true, laidKinds := [.data], laidTests := true, laidLooks := .later }
def DeclTellsCardSaid : Prop := Claim7.holds Tryd.pinned (.plain (OpenSpec.ofChange declTellsSpec)) declTellsCard

/-- THE TIED CARD OF 'easementlaw31.DeclGrows'. -/
def declGrowsCard : Claim7 := { stood := { row := declGrowsRow, standIns := [], harness := (true, "cff4440a208ff8a3b042a5945bde47ded1e6b5f250cae28a4c58b266efaa0e7b"), looks := false }, kinds := [], alts := [], laidByText := true, laidKinds := [.data], laidTests := true, laidLooks := .later }
def DeclGrowsCardSaid : Prop := Claim7.holds Tryd.pinned (.plain (OpenSpec.ofChange declGrowsSpec)) declGrowsCard

/-- THE TIED CARD OF 'easementlaw31.DeclAlike'. -/
def declAlikeCard : Claim7 := { stood := { row := declAlikeRow, standIns := [], harness := (true, "cff4440a208ff8a3b042a5945bde47ded1e6b5f250cae28a4c58b266efaa0e7b"), looks := false }, kinds := [], alts := [], laidByText := true, laidKinds := [.data], laidTests := true, laidLooks := .later }
def DeclAlikeCardSaid : Prop := Claim7.holds Tryd.pinned (.plain (OpenSpec.ofChange declAlikeSpec)) declAlikeCard

/-- THE SECOND FORM's CARD OF 'easementlaw31.DeclTells'. -/
def declTellsUptoCard : Claim7 := { stood := { row := declTellsUptoRow, standIns := [], harness := (true, "cff4440a208ff8a3b042a5945bde47ded1e6b5f250cae28a4c58b266efaa0e7b"), looks := false }, kinds := [], alts := [], laidByText := true, laidKinds := [.data], laidTests := true, laidLooks := .later }
def DeclTellsUptoCardSaid : Prop := Claim7.holds Tryd.pinned (.plain (OpenSpec.upto declTellsSpec)) declTellsUptoCard

/-- THE SECOND FORM's CARD OF 'easementlaw31.DeclGrows'. -/
def declGrowsUptoCard : Claim7 := { stood := { row := declGrowsUptoRow, standIns := [], harness := (true, "cff4440a208ff8a3b042a5945bde47ded1e6b5f250cae28a4c58b266efaa0e7b"), looks := false }, kinds := [], alts := [], laidByText := true, laidKinds := [.data], laidTests := true, laidLooks := .later }
def DeclGrowsUptoCardSaid : Prop := Claim7.holds Tryd.pinned (.plain (OpenSpec.upto declGrowsSpec)) declGrowsUptoCard

/-- THE SECOND FORM's CARD OF 'easementlaw31.DeclAlike'. -/
def declAlikeUptoCard : Claim7 := { stood := { row := declAlikeUptoRow, standIns := [], harness := (true, "cff4440a208ff8a3b042a5945bde47ded1e6b5f250cae28a4c58b266efaa0e7b"), looks := false }, kinds := [], alts := [], laidByText := true, laidKinds := [.data], laidTests := true, laidLooks := .later }
def DeclAlikeUptoCardSaid : Prop := Claim7.holds Tryd.pinned (.plain (OpenSpec.upto declAlikeSpec)) declAlikeUptoCard
end Rows
end Go.Proofs.YtdjcapgpjpadeaaDoor

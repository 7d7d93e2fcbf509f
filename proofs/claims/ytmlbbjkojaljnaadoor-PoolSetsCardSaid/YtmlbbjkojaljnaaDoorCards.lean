/-
  DERIVED. GIVEN WITH THE SEED: THE CARDS: each row of YtmlbbjkojaljnaaDoorRows.lean that lists a variable, with what it lists TIED to the program's text (the seventh form; the later family's looks); each row that meets fmt, with fmt's text TOLD by the authors' own Lean function (tested against real Go, not proved from fmt's source: count such statements apart). THE CARD IS WHAT COUNTS. Prove the row's statement (the work); the ties are given (YtmlbbjkojaljnaaDoorTie.lean); close each card by the builder's one call (the guide's Derived/Test/ToyasCard.lean, 'card_holds'). Laid BY PROGRAM, IN A SANDBOX (cutbox-door.mjs). By AI agents, Wed Nov 11 2026. No macro, syntax, notation, axiom, sorry.
-/
import Derived.Test.YtmlbbjkojaljnaaDoorRows
import GoSem.ClaimSeven
namespace Go.Proofs.YtmlbbjkojaljnaaDoor
namespace Rows

/-- THE TIED CARD OF 'easementlaw39.PoolSets'. -/
def poolSetsCard : Claim7 := { stood := { row := poolSetsRow, standIns := [], harness := (true, "f4e9763ac16a8ca2ade756a676b4130c2ddf149700c301966da13f33e7b866e7"), looks := false }, kinds := [], alts := [], laidByText := true, laidKinds := [.data], laidTests := true, laidLooks := .later }
def PoolSetsCardSaid : Prop := Claim7.holds Tryd.pinned (.plain (OpenSpec.ofChange poolSetsSpec)) poolSetsCard

/-- THE TIED CARD OF 'easementlaw39.PoolNone'. -/
def poolNoneCard : Claim7 := { stood := { row := poolNoneRow, standIns := [], harness := (true, "f4e9763ac16a8ca2ade756a676b4130c2ddf149700c301966da13f33e7b866e7"), looks := false }, kinds := [], alts := [], laidByText := true, laidKinds := [.data], laidTests := true, laidLooks := .later }
def PoolNoneCardSaid : Prop := Claim7.holds Tryd.pinned (.plain (OpenSpec.ofChange poolNoneSpec)) poolNoneCard

/-- THE SECOND FORM's CARD OF 'easementlaw39.PoolSets'. -/
def poolSetsUptoCard : Claim7 := { stood := { row := poolSetsUptoRow, standIns := [], harness := (true, "f4e9763ac16a8ca2ade756a676b4130c2ddf149700c301966da13f33e7b866e7"), looks := false }, kinds := [], alts := [], laidByText := true, laidKinds := [.data], laidTests := true, laidLooks := .later }
def PoolSetsUptoCardSaid : Prop := Claim7.holds Tryd.pinned (.plain (OpenSpec.upto poolSetsSpec)) poolSetsUptoCard

/-- THE SECOND FORM's CARD OF 'easementlaw39.PoolNone'. -/
def poolNoneUptoCard : Claim7 := { stood := { row := poolNoneUptoRow, standIns := [], harness := (true, "f4e9763ac16a8ca2ade756a676b4130c2ddf149700c301966da13f33e7b866e7"), looks := false }, kinds := [], alts := [], laidByText := true, laidKinds := [.data], laidTests := true, laidLooks := .later }
def PoolNoneUptoCardSaid : Prop := Claim7.holds Tryd.pinned (.plain (OpenSpec.upto poolNoneSpec)) poolNoneUptoCard
end Rows
end Go.Proofs.YtmlbbjkojaljnaaDoor

/-
  No cell of these rows narrows 'for every input' (looked for: loops, veiled, ifaces, maps, wideKeys, modest, calm, conditions, laid).
  DERIVED. THE GIVEN ROWS OF THIS SEAT. 2 by the template 'for every input the law returns true; each argument reads behind the call as it read before'; 0 by the template 'total and deterministic' (their statements: YtelekeapfgfknaaGreatTotals.lean).
  GIVEN WITH THE SEED: the statements are not yours to turn. If you find one false, say at which input.
  Laid BY PROGRAM, IN A SANDBOX (cutbox-rows.mjs): the forced cells as the released guide's own fill.sh prints them over the translation e30dcbc1f62b0400… (all of the seat's roots in one cut). By AI agents, Wed Nov 11 2026. No macro, syntax, notation, axiom, sorry.
-/
import Derived.Test.YtelekeapfgfknaaGreatChecked
import GoSem.Claim
import GoSem.ClaimJoined
import GoSem.ClaimMapViews
import Derived.JoinedTies
import Derived.KernelRfl
namespace Go.Proofs.YtelekeapfgfknaaGreat
/- THE CELL 'sum', in the pinned program and in every row, IS THE sha256 OF THE DUMP (.gsa) THAT YtelekeapfgfknaaGreatProg.lean LOADS. Nothing in Lean hashes anything: it is a label: what it is worth is what the hold of that sum in a sandbox is worth. -/
noncomputable def Tryz.pinned : Pinned := { name := "ytelekeapfgfknaagreat", sum := "e30dcbc1f62b0400b22c2fd8aae41594fc392dc6da2e85be29ade6a7ce4c43ce", checked := Tryz.checked }
namespace Rows
def none {H : Type} : Left H := { results := [], args := [] }

/-- 'easementlaw27.ConsTells': WHATEVER THE INPUT: true; the input reads as it did. -/
def consTellsSpec : ChangeSpec := { name := "consTells", fn := fun _ => fun
  | [d1, d2] => { results := [.lit (.bool true)], args := [d1, d2] }
  | _ => none }
def consTellsRow : OpenClaim := { program := "ytelekeapfgfknaagreat", sum := "e30dcbc1f62b0400b22c2fd8aae41594fc392dc6da2e85be29ade6a7ce4c43ce", func := "easement/easementlaw27.ConsTells", spec := "consTells", inPlace := ["internal/abi.NoEscape", "internal/bytealg.MakeNoZero"], unfollowed := true, recurses := true, apart := false }
def ConsTellsSaid : Prop := consTellsRow.holds Tryz.pinned (OpenSpec.ofChange consTellsSpec)

/-- ITS FALSE NEIGHBOUR: 'it returns false'. Refute it at one input. -/
def consTellsWrong : ChangeSpec := { name := "consTells", fn := fun _ => fun
  | [d1, d2] => { results := [.lit (.bool false)], args := [d1, d2] }
  | _ => none }
def ConsTellsWrongFalsely : Prop := consTellsRow.holds Tryz.pinned (OpenSpec.ofChange consTellsWrong)

/-- 'easementlaw27.ConsRise': WHATEVER THE INPUT: true; the input reads as it did. -/
def consRiseSpec : ChangeSpec := { name := "consRise", fn := fun _ => fun
  | [d1, d2, d3] => { results := [.lit (.bool true)], args := [d1, d2, d3] }
  | _ => none }
def consRiseRow : OpenClaim := { program := "ytelekeapfgfknaagreat", sum := "e30dcbc1f62b0400b22c2fd8aae41594fc392dc6da2e85be29ade6a7ce4c43ce", func := "easement/easementlaw27.ConsRise", spec := "consRise", inPlace := ["internal/abi.NoEscape", "internal/bytealg.MakeNoZero"], unfollowed := true, recurses := true, apart := false }
def ConsRiseSaid : Prop := consRiseRow.holds Tryz.pinned (OpenSpec.ofChange consRiseSpec)

/-- ITS FALSE NEIGHBOUR: 'it returns false'. Refute it at one input. -/
def consRiseWrong : ChangeSpec := { name := "consRise", fn := fun _ => fun
  | [d1, d2, d3] => { results := [.lit (.bool false)], args := [d1, d2, d3] }
  | _ => none }
def ConsRiseWrongFalsely : Prop := consRiseRow.holds Tryz.pinned (OpenSpec.ofChange consRiseWrong)

/- THE SECOND FORM. 'bulk': how many values and letters a reading holds, each counted each time it is reached (what is shared counts as often as it is met; a slice's spare places count too). A statement '..UptoSaid' is the law's where the arguments, and the package variables that the reading takes, are together of bulk at most 1048576: NARROWER than '..Said'. Prove '..Said' where nothing that the law and all that it calls make is longer than what came in: it says more and counts as full. Else prove '..UptoSaid'. A law counts once. -/
mutual
def uptoBulk {H : Type} : DataW H → Nat
  | .lit (.string bytes) => bytes.length + 1
  | .lit _ => 1
  | .nil => 1
  | .ptr d => uptoBulk d + 1
  | .slice elems spare => uptoBulkAll elems + uptoBulkAll spare + 1
  | .agg parts => uptoBulkAll parts + 1
  | .iface _ d => uptoBulk d + 1
  | .map entries => uptoBulkEntries entries + 1
  | .held _ => 1
def uptoBulkAll {H : Type} : List (DataW H) → Nat
  | [] => 0
  | d :: r => uptoBulk d + uptoBulkAll r
def uptoBulkEntries {H : Type} : List (Lit × DataW H) → Nat
  | [] => 0
  | x :: r => uptoBulkEntry x + uptoBulkEntries r
def uptoBulkEntry {H : Type} : Lit × DataW H → Nat
  | (.string bytes, d) => bytes.length + uptoBulk d + 1
  | (_, d) => uptoBulk d + 1
 end
def uptoSmall : (H : Type) → List (DataW H) → Bool := fun _ ds => decide (uptoBulkAll ds ≤ 1048576)
def OpenSpec.upto (s : _root_.Go.ChangeSpec) : _root_.Go.OpenSpec := { _root_.Go.OpenSpec.ofChange s with cond := some uptoSmall }

/-- 'easementlaw27.ConsTells', WHERE WHAT IT READS IS OF BULK AT MOST 1048576: true; the input reads as it did. -/
def consTellsUptoRow : OpenClaim := { program := "ytelekeapfgfknaagreat", sum := "e30dcbc1f62b0400b22c2fd8aae41594fc392dc6da2e85be29ade6a7ce4c43ce", func := "easement/easementlaw27.ConsTells", spec := "consTells", inPlace := ["internal/abi.NoEscape", "internal/bytealg.MakeNoZero"], unfollowed := true, recurses := true, apart := false, narrowed := true }
def ConsTellsUptoSaid : Prop := consTellsUptoRow.holds Tryz.pinned (OpenSpec.upto consTellsSpec)

/-- 'easementlaw27.ConsRise', WHERE WHAT IT READS IS OF BULK AT MOST 1048576: true; the input reads as it did. -/
def consRiseUptoRow : OpenClaim := { program := "ytelekeapfgfknaagreat", sum := "e30dcbc1f62b0400b22c2fd8aae41594fc392dc6da2e85be29ade6a7ce4c43ce", func := "easement/easementlaw27.ConsRise", spec := "consRise", inPlace := ["internal/abi.NoEscape", "internal/bytealg.MakeNoZero"], unfollowed := true, recurses := true, apart := false, narrowed := true }
def ConsRiseUptoSaid : Prop := consRiseUptoRow.holds Tryz.pinned (OpenSpec.upto consRiseSpec)

end Rows
end Go.Proofs.YtelekeapfgfknaaGreat

/-
  No cell of these rows narrows 'for every input' (looked for: loops, veiled, ifaces, maps, wideKeys, modest, calm, conditions, laid).
  DERIVED. THE GIVEN ROWS OF THIS SEAT. 3 by the template 'for every input the law returns true; each argument reads behind the call as it read before'; 0 by the template 'total and deterministic' (their statements: YtaaicohpbafegaaTotals.lean).
  GIVEN WITH THE SEED: the statements are not yours to turn. If you find one false, say at which input.
  Laid BY PROGRAM, IN A SANDBOX (cutbox-rows.mjs): the forced cells as the released guide's own fill.sh prints them over the translation cb009985eec1dfe3… (all of the seat's roots in one cut). By AI agents, Wed Nov 11 2026. No macro, syntax, notation, axiom, sorry.
-/
import Derived.Test.YtaaicohpbafegaaChecked
import GoSem.Claim
import GoSem.ClaimJoined
import GoSem.ClaimMapViews
import Derived.JoinedTies
import Derived.KernelRfl
namespace Go.Proofs.Ytaaicohpbafegaa
/- THE CELL 'sum', in the pinned program and in every row, IS THE sha256 OF THE DUMP (.gsa) THAT YtaaicohpbafegaaProg.lean LOADS. Nothing in Lean hashes anything: it is a label: what it is worth is what the hold of that sum in a sandbox is worth. -/
noncomputable def Try.pinned : Pinned := { name := "ytaaicohpbafegaa", sum := "cb009985eec1dfe3ee6735ad8bbb2a6c7d5cc2ceac31a582d384932b5ae1e08a", checked := Try.checked }
namespace Rows
def none {H : Type} : Left H := { results := [], args := [] }

/-- 'easementlaw18.StmtNeeds': WHATEVER THE INPUT: true; the input reads as it did. -/
def stmtNeedsSpec : ChangeSpec := { name := "stmtNeeds", fn := fun _ => fun
  | [d1, d2, d3] => { results := [.lit (.bool true)], args := [d1, d2, d3] }
  | _ => none }
def stmtNeedsRow : OpenClaim := { program := "ytaaicohpbafegaa", sum := "cb009985eec1dfe3ee6735ad8bbb2a6c7d5cc2ceac31a582d384932b5ae1e08a", func := "easement/easementlaw18.StmtNeeds", spec := "stmtNeeds", inPlace := ["internal/abi.NoEscape"], unfollowed := true, recurses := true, apart := false }
def StmtNeedsSaid : Prop := stmtNeedsRow.holds Try.pinned (OpenSpec.ofChange stmtNeedsSpec)

/-- ITS FALSE NEIGHBOUR: 'it returns false'. Refute it at one input. -/
def stmtNeedsWrong : ChangeSpec := { name := "stmtNeeds", fn := fun _ => fun
  | [d1, d2, d3] => { results := [.lit (.bool false)], args := [d1, d2, d3] }
  | _ => none }
def StmtNeedsWrongFalsely : Prop := stmtNeedsRow.holds Try.pinned (OpenSpec.ofChange stmtNeedsWrong)

/-- 'easementlaw18.StmtTakes': WHATEVER THE INPUT: true; the input reads as it did. -/
def stmtTakesSpec : ChangeSpec := { name := "stmtTakes", fn := fun _ => fun
  | [d1, d2] => { results := [.lit (.bool true)], args := [d1, d2] }
  | _ => none }
def stmtTakesRow : OpenClaim := { program := "ytaaicohpbafegaa", sum := "cb009985eec1dfe3ee6735ad8bbb2a6c7d5cc2ceac31a582d384932b5ae1e08a", func := "easement/easementlaw18.StmtTakes", spec := "stmtTakes", inPlace := ["internal/abi.NoEscape"], unfollowed := true, recurses := true, apart := false }
def StmtTakesSaid : Prop := stmtTakesRow.holds Try.pinned (OpenSpec.ofChange stmtTakesSpec)

/-- ITS FALSE NEIGHBOUR: 'it returns false'. Refute it at one input. -/
def stmtTakesWrong : ChangeSpec := { name := "stmtTakes", fn := fun _ => fun
  | [d1, d2] => { results := [.lit (.bool false)], args := [d1, d2] }
  | _ => none }
def StmtTakesWrongFalsely : Prop := stmtTakesRow.holds Try.pinned (OpenSpec.ofChange stmtTakesWrong)

/-- 'easementlaw18.StmtBack': WHATEVER THE INPUT: true; the input reads as it did. -/
def stmtBackSpec : ChangeSpec := { name := "stmtBack", fn := fun _ => fun
  | [d1, d2] => { results := [.lit (.bool true)], args := [d1, d2] }
  | _ => none }
def stmtBackRow : OpenClaim := { program := "ytaaicohpbafegaa", sum := "cb009985eec1dfe3ee6735ad8bbb2a6c7d5cc2ceac31a582d384932b5ae1e08a", func := "easement/easementlaw18.StmtBack", spec := "stmtBack", inPlace := ["internal/abi.NoEscape"], unfollowed := true, recurses := true, apart := false }
def StmtBackSaid : Prop := stmtBackRow.holds Try.pinned (OpenSpec.ofChange stmtBackSpec)

/-- ITS FALSE NEIGHBOUR: 'it returns false'. Refute it at one input. -/
def stmtBackWrong : ChangeSpec := { name := "stmtBack", fn := fun _ => fun
  | [d1, d2] => { results := [.lit (.bool false)], args := [d1, d2] }
  | _ => none }
def StmtBackWrongFalsely : Prop := stmtBackRow.holds Try.pinned (OpenSpec.ofChange stmtBackWrong)

/- THE SECOND FORM. 'bulk': how many values and letters a reading holds, each counted each time it is reached (what is shared counts as often as it is met; a slice's spare places count too). A statement '..UptoSaid' is the law's where the arguments, and the package variables that the reading takes, are together of bulk at most 1048576: NARROWER than '..Said'. Prove '..Said' where nothing that the law and all that it calls make is longer than what came in: it says more and counts as full. Else prove '..UptoSaid'. A law counts once. -/
mutual
def uptoBulk {H : Type} : DataW H → Nat
  | .lit (.string bytes) => bytes.length + 1
  | .lit _ => 1
  | .nil => 1
  | .ptr d => uptoBulk d + 1
  | .slice elems spare => uptoBulkAll elems + uptoBulkAll spare + 1
  | .agg parts => uptoBulkAll parts + 1
  | .iface _ d => uptoBulk d + 1
  | .map entries => uptoBulkEntries entries + 1
  | .held _ => 1
def uptoBulkAll {H : Type} : List (DataW H) → Nat
  | [] => 0
  | d :: r => uptoBulk d + uptoBulkAll r
def uptoBulkEntries {H : Type} : List (Lit × DataW H) → Nat
  | [] => 0
  | x :: r => uptoBulkEntry x + uptoBulkEntries r
def uptoBulkEntry {H : Type} : Lit × DataW H → Nat
  | (.string bytes, d) => bytes.length + uptoBulk d + 1
  | (_, d) => uptoBulk d + 1
 end
def uptoSmall : (H : Type) → List (DataW H) → Bool := fun _ ds => decide (uptoBulkAll ds ≤ 1048576)
def OpenSpec.upto (s : _root_.Go.ChangeSpec) : _root_.Go.OpenSpec := { _root_.Go.OpenSpec.ofChange s with cond := some uptoSmall }

/-- 'easementlaw18.StmtNeeds', WHERE WHAT IT READS IS OF BULK AT MOST 1048576: true; the input reads as it did. -/
def stmtNeedsUptoRow : OpenClaim := { program := "ytaaicohpbafegaa", sum := "cb009985eec1dfe3ee6735ad8bbb2a6c7d5cc2ceac31a582d384932b5ae1e08a", func := "easement/easementlaw18.StmtNeeds", spec := "stmtNeeds", inPlace := ["internal/abi.NoEscape"], unfollowed := true, recurses := true, apart := false, narrowed := true }
def StmtNeedsUptoSaid : Prop := stmtNeedsUptoRow.holds Try.pinned (OpenSpec.upto stmtNeedsSpec)

/-- 'easementlaw18.StmtTakes', WHERE WHAT IT READS IS OF BULK AT MOST 1048576: true; the input reads as it did. -/
def stmtTakesUptoRow : OpenClaim := { program := "ytaaicohpbafegaa", sum := "cb009985eec1dfe3ee6735ad8bbb2a6c7d5cc2ceac31a582d384932b5ae1e08a", func := "easement/easementlaw18.StmtTakes", spec := "stmtTakes", inPlace := ["internal/abi.NoEscape"], unfollowed := true, recurses := true, apart := false, narrowed := true }
def StmtTakesUptoSaid : Prop := stmtTakesUptoRow.holds Try.pinned (OpenSpec.upto stmtTakesSpec)

/-- 'easementlaw18.StmtBack', WHERE WHAT IT READS IS OF BULK AT MOST 1048576: true; the input reads as it did. -/
def stmtBackUptoRow : OpenClaim := { program := "ytaaicohpbafegaa", sum := "cb009985eec1dfe3ee6735ad8bbb2a6c7d5cc2ceac31a582d384932b5ae1e08a", func := "easement/easementlaw18.StmtBack", spec := "stmtBack", inPlace := ["internal/abi.NoEscape"], unfollowed := true, recurses := true, apart := false, narrowed := true }
def StmtBackUptoSaid : Prop := stmtBackUptoRow.holds Try.pinned (OpenSpec.upto stmtBackSpec)

end Rows
end Go.Proofs.Ytaaicohpbafegaa

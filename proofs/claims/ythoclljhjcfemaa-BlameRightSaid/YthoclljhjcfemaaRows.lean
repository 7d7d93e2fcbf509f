/-
  No cell of these rows narrows 'for every input' (looked for: loops, veiled, ifaces, maps, wideKeys, modest, calm, conditions, laid).
  DERIVED. THE GIVEN ROWS OF THIS SEAT. 2 by the template 'for every input the law returns true; each argument reads behind the call as it read before'; 0 by the template 'total and deterministic' (their statements: YthoclljhjcfemaaTotals.lean).
  GIVEN WITH THE SEED: the statements are not yours to turn. If you find one false, say at which input.
  Laid BY PROGRAM, IN A SANDBOX (cutbox-rows.mjs): the forced cells as the released guide's own fill.sh prints them over the translation 526dc24697437905… (all of the seat's roots in one cut). By AI agents, Wed Nov 11 2026. No macro, syntax, notation, axiom, sorry.
-/
import Derived.Test.YthoclljhjcfemaaChecked
import GoSem.Claim
import GoSem.ClaimJoined
import GoSem.ClaimMapViews
import Derived.JoinedTies
import Derived.KernelRfl
namespace Go.Proofs.Ythoclljhjcfemaa
/- THE CELL 'sum', in the pinned program and in every row, IS THE sha256 OF THE DUMP (.gsa) THAT YthoclljhjcfemaaProg.lean LOADS. Nothing in Lean hashes anything: it is a label: what it is worth is what the hold of that sum in a sandbox is worth. -/
noncomputable def Try.pinned : Pinned := { name := "ythoclljhjcfemaa", sum := "526dc24697437905cd12bf5edd4f5e64c17ab18eef8624543180d4cc37f28d34", checked := Try.checked }
namespace Rows
def none {H : Type} : Left H := { results := [], args := [] }

/-- 'easementlaw33.BlameFinds': WHATEVER THE INPUT: true; the input reads as it did. -/
def blameFindsSpec : ChangeSpec := { name := "blameFinds", fn := fun _ => fun
  | [d1, d2, d3] => { results := [.lit (.bool true)], args := [d1, d2, d3] }
  | _ => none }
def blameFindsRow : OpenClaim := { program := "ythoclljhjcfemaa", sum := "526dc24697437905cd12bf5edd4f5e64c17ab18eef8624543180d4cc37f28d34", func := "easement/easementlaw33.BlameFinds", spec := "blameFinds", inPlace := ["internal/abi.NoEscape", "internal/bytealg.MakeNoZero"], unfollowed := true, recurses := true, apart := false }
def BlameFindsSaid : Prop := blameFindsRow.holds Try.pinned (OpenSpec.ofChange blameFindsSpec)

/-- ITS FALSE NEIGHBOUR: 'it returns false'. Refute it at one input. -/
def blameFindsWrong : ChangeSpec := { name := "blameFinds", fn := fun _ => fun
  | [d1, d2, d3] => { results := [.lit (.bool false)], args := [d1, d2, d3] }
  | _ => none }
def BlameFindsWrongFalsely : Prop := blameFindsRow.holds Try.pinned (OpenSpec.ofChange blameFindsWrong)

/-- 'easementlaw33.BlameRight': WHATEVER THE INPUT: true; the input reads as it did. -/
def blameRightSpec : ChangeSpec := { name := "blameRight", fn := fun _ => fun
  | [d1, d2, d3] => { results := [.lit (.bool true)], args := [d1, d2, d3] }
  | _ => none }
def blameRightRow : OpenClaim := { program := "ythoclljhjcfemaa", sum := "526dc24697437905cd12bf5edd4f5e64c17ab18eef8624543180d4cc37f28d34", func := "easement/easementlaw33.BlameRight", spec := "blameRight", inPlace := ["internal/abi.NoEscape", "internal/bytealg.MakeNoZero"], unfollowed := true, recurses := true, apart := false }
def BlameRightSaid : Prop := blameRightRow.holds Try.pinned (OpenSpec.ofChange blameRightSpec)

/-- ITS FALSE NEIGHBOUR: 'it returns false'. Refute it at one input. -/
def blameRightWrong : ChangeSpec := { name := "blameRight", fn := fun _ => fun
  | [d1, d2, d3] => { results := [.lit (.bool false)], args := [d1, d2, d3] }
  | _ => none }
def BlameRightWrongFalsely : Prop := blameRightRow.holds Try.pinned (OpenSpec.ofChange blameRightWrong)

/- THE SECOND FORM. 'bulk': how many values and letters a reading holds, each counted each time it is reached (what is shared counts as often as it is met; a slice's spare places count too). A statement '..UptoSaid' is the law's where the arguments, and the package variables that the reading takes, are together of bulk at most 1048576: NARROWER than '..Said'. Prove '..Said' where nothing that the law and all that it calls make is longer than what came in: it says more and counts as full. Else prove '..UptoSaid'. A law counts once. -/
mutual
def uptoBulk {H : Type} : DataW H → Nat
  | .lit (.string bytes) => bytes.length + 1
  | .lit _ => 1
  | .nil => 1
  | .ptr d => uptoBulk d + 1
  | .slice elems spare => uptoBulkAll elems + uptoBulkAll spare + 1
  | .agg parts => uptoBulkAll parts + 1
  | .iface _ d => uptoBulk d + 1
  | .map entries => uptoBulkEntries entries + 1
  | .held _ => 1
def uptoBulkAll {H : Type} : List (DataW H) → Nat
  | [] => 0
  | d :: r => uptoBulk d + uptoBulkAll r
def uptoBulkEntries {H : Type} : List (Lit × DataW H) → Nat
  | [] => 0
  | x :: r => uptoBulkEntry x + uptoBulkEntries r
def uptoBulkEntry {H : Type} : Lit × DataW H → Nat
  | (.string bytes, d) => bytes.length + uptoBulk d + 1
  | (_, d) => uptoBulk d + 1
 end
def uptoSmall : (H : Type) → List (DataW H) → Bool := fun _ ds => decide (uptoBulkAll ds ≤ 1048576)
def OpenSpec.upto (s : _root_.Go.ChangeSpec) : _root_.Go.OpenSpec := { _root_.Go.OpenSpec.ofChange s with cond := some uptoSmall }

/-- 'easementlaw33.BlameFinds', WHERE WHAT IT READS IS OF BULK AT MOST 1048576: true; the input reads as it did. -/
def blameFindsUptoRow : OpenClaim := { program := "ythoclljhjcfemaa", sum := "526dc24697437905cd12bf5edd4f5e64c17ab18eef8624543180d4cc37f28d34", func := "easement/easementlaw33.BlameFinds", spec := "blameFinds", inPlace := ["internal/abi.NoEscape", "internal/bytealg.MakeNoZero"], unfollowed := true, recurses := true, apart := false, narrowed := true }
def BlameFindsUptoSaid : Prop := blameFindsUptoRow.holds Try.pinned (OpenSpec.upto blameFindsSpec)

/-- 'easementlaw33.BlameRight', WHERE WHAT IT READS IS OF BULK AT MOST 1048576: true; the input reads as it did. -/
def blameRightUptoRow : OpenClaim := { program := "ythoclljhjcfemaa", sum := "526dc24697437905cd12bf5edd4f5e64c17ab18eef8624543180d4cc37f28d34", func := "easement/easementlaw33.BlameRight", spec := "blameRight", inPlace := ["internal/abi.NoEscape", "internal/bytealg.MakeNoZero"], unfollowed := true, recurses := true, apart := false, narrowed := true }
def BlameRightUptoSaid : Prop := blameRightUptoRow.holds Try.pinned (OpenSpec.upto blameRightSpec)

end Rows
end Go.Proofs.Ythoclljhjcfemaa

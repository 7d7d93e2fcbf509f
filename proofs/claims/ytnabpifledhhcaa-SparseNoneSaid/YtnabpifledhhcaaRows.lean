/-
  No cell of these rows narrows 'for every input' (looked for: loops, veiled, ifaces, maps, wideKeys, modest, calm, conditions, laid).
  DERIVED. THE GIVEN ROWS OF THIS SEAT. 3 by the template 'for every input the law returns true; each argument reads behind the call as it read before'; 0 by the template 'total and deterministic' (their statements: YtnabpifledhhcaaTotals.lean).
  GIVEN WITH THE SEED: the statements are not yours to turn. If you find one false, say at which input.
  Laid BY PROGRAM, IN A SANDBOX (cutbox-rows.mjs): the forced cells as the released guide's own fill.sh prints them over the translation 8563ff02e9ca759c… (all of the seat's roots in one cut). By AI agents, Wed Nov 11 2026. No macro, syntax, notation, axiom, sorry.
-/
import Derived.Test.YtnabpifledhhcaaChecked
import GoSem.Claim
import GoSem.ClaimJoined
import GoSem.ClaimMapViews
import Derived.JoinedTies
import Derived.KernelRfl
namespace Go.Proofs.Ytnabpifledhhcaa
/- THE CELL 'sum', in the pinned program and in every row, IS THE sha256 OF THE DUMP (.gsa) THAT YtnabpifledhhcaaProg.lean LOADS. Nothing in Lean hashes anything: it is a label: what it is worth is what the hold of that sum in a sandbox is worth. -/
noncomputable def Try.pinned : Pinned := { name := "ytnabpifledhhcaa", sum := "8563ff02e9ca759c31929068f11322c024f95123d5128fa9d48833980a64a20c", checked := Try.checked }
namespace Rows
def none {H : Type} : Left H := { results := [], args := [] }

/-- 'easementlaw04.SparsePlays': WHATEVER THE INPUT: true; the input reads as it did. -/
def sparsePlaysSpec : ChangeSpec := { name := "sparsePlays", fn := fun _ => fun
  | [d1, d2, d3, d4] => { results := [.lit (.bool true)], args := [d1, d2, d3, d4] }
  | _ => none }
def sparsePlaysRow : OpenClaim := { program := "ytnabpifledhhcaa", sum := "8563ff02e9ca759c31929068f11322c024f95123d5128fa9d48833980a64a20c", func := "easement/easementlaw04.SparsePlays", spec := "sparsePlays", inPlace := ["slices.overlaps[int]"], unfollowed := true, recurses := true, apart := false }
def SparsePlaysSaid : Prop := sparsePlaysRow.holds Try.pinned (OpenSpec.ofChange sparsePlaysSpec)

/-- ITS FALSE NEIGHBOUR: 'it returns false'. Refute it at one input. -/
def sparsePlaysWrong : ChangeSpec := { name := "sparsePlays", fn := fun _ => fun
  | [d1, d2, d3, d4] => { results := [.lit (.bool false)], args := [d1, d2, d3, d4] }
  | _ => none }
def SparsePlaysWrongFalsely : Prop := sparsePlaysRow.holds Try.pinned (OpenSpec.ofChange sparsePlaysWrong)

/-- 'easementlaw04.SparseRanks': WHATEVER THE INPUT: true; the input reads as it did. -/
def sparseRanksSpec : ChangeSpec := { name := "sparseRanks", fn := fun _ => fun
  | [d1, d2, d3] => { results := [.lit (.bool true)], args := [d1, d2, d3] }
  | _ => none }
def sparseRanksRow : OpenClaim := { program := "ytnabpifledhhcaa", sum := "8563ff02e9ca759c31929068f11322c024f95123d5128fa9d48833980a64a20c", func := "easement/easementlaw04.SparseRanks", spec := "sparseRanks", unfollowed := true, recurses := true, apart := false }
def SparseRanksSaid : Prop := sparseRanksRow.holds Try.pinned (OpenSpec.ofChange sparseRanksSpec)

/-- ITS FALSE NEIGHBOUR: 'it returns false'. Refute it at one input. -/
def sparseRanksWrong : ChangeSpec := { name := "sparseRanks", fn := fun _ => fun
  | [d1, d2, d3] => { results := [.lit (.bool false)], args := [d1, d2, d3] }
  | _ => none }
def SparseRanksWrongFalsely : Prop := sparseRanksRow.holds Try.pinned (OpenSpec.ofChange sparseRanksWrong)

/-- 'easementlaw04.SparseNone': WHATEVER THE INPUT: true; the input reads as it did. -/
def sparseNoneSpec : ChangeSpec := { name := "sparseNone", fn := fun _ => fun
  | [d1, d2] => { results := [.lit (.bool true)], args := [d1, d2] }
  | _ => none }
def sparseNoneRow : OpenClaim := { program := "ytnabpifledhhcaa", sum := "8563ff02e9ca759c31929068f11322c024f95123d5128fa9d48833980a64a20c", func := "easement/easementlaw04.SparseNone", spec := "sparseNone", inPlace := ["slices.overlaps[int]"], unfollowed := true, recurses := true, apart := false }
def SparseNoneSaid : Prop := sparseNoneRow.holds Try.pinned (OpenSpec.ofChange sparseNoneSpec)

/-- ITS FALSE NEIGHBOUR: 'it returns false'. Refute it at one input. -/
def sparseNoneWrong : ChangeSpec := { name := "sparseNone", fn := fun _ => fun
  | [d1, d2] => { results := [.lit (.bool false)], args := [d1, d2] }
  | _ => none }
def SparseNoneWrongFalsely : Prop := sparseNoneRow.holds Try.pinned (OpenSpec.ofChange sparseNoneWrong)

/- THE SECOND FORM. 'bulk': how many values and letters a reading holds, each counted each time it is reached (what is shared counts as often as it is met; a slice's spare places count too). A statement '..UptoSaid' is the law's where the arguments, and the package variables that the reading takes, are together of bulk at most 1048576: NARROWER than '..Said'. Prove '..Said' where nothing that the law and all that it calls make is longer than what came in: it says more and counts as full. Else prove '..UptoSaid'. A law counts once. -/
mutual
def uptoBulk {H : Type} : DataW H → Nat
  | .lit (.string bytes) => bytes.length + 1
  | .lit _ => 1
  | .nil => 1
  | .ptr d => uptoBulk d + 1
  | .slice elems spare => uptoBulkAll elems + uptoBulkAll spare + 1
  | .agg parts => uptoBulkAll parts + 1
  | .iface _ d => uptoBulk d + 1
  | .map entries => uptoBulkEntries entries + 1
  | .held _ => 1
def uptoBulkAll {H : Type} : List (DataW H) → Nat
  | [] => 0
  | d :: r => uptoBulk d + uptoBulkAll r
def uptoBulkEntries {H : Type} : List (Lit × DataW H) → Nat
  | [] => 0
  | x :: r => uptoBulkEntry x + uptoBulkEntries r
def uptoBulkEntry {H : Type} : Lit × DataW H → Nat
  | (.string bytes, d) => bytes.length + uptoBulk d + 1
  | (_, d) => uptoBulk d + 1
 end
def uptoSmall : (H : Type) → List (DataW H) → Bool := fun _ ds => decide (uptoBulkAll ds ≤ 1048576)
def OpenSpec.upto (s : _root_.Go.ChangeSpec) : _root_.Go.OpenSpec := { _root_.Go.OpenSpec.ofChange s with cond := some uptoSmall }

/-- 'easementlaw04.SparsePlays', WHERE WHAT IT READS IS OF BULK AT MOST 1048576: true; the input reads as it did. -/
def sparsePlaysUptoRow : OpenClaim := { program := "ytnabpifledhhcaa", sum := "8563ff02e9ca759c31929068f11322c024f95123d5128fa9d48833980a64a20c", func := "easement/easementlaw04.SparsePlays", spec := "sparsePlays", inPlace := ["slices.overlaps[int]"], unfollowed := true, recurses := true, apart := false, narrowed := true }
def SparsePlaysUptoSaid : Prop := sparsePlaysUptoRow.holds Try.pinned (OpenSpec.upto sparsePlaysSpec)

/-- 'easementlaw04.SparseRanks', WHERE WHAT IT READS IS OF BULK AT MOST 1048576: true; the input reads as it did. -/
def sparseRanksUptoRow : OpenClaim := { program := "ytnabpifledhhcaa", sum := "8563ff02e9ca759c31929068f11322c024f95123d5128fa9d48833980a64a20c", func := "easement/easementlaw04.SparseRanks", spec := "sparseRanks", unfollowed := true, recurses := true, apart := false, narrowed := true }
def SparseRanksUptoSaid : Prop := sparseRanksUptoRow.holds Try.pinned (OpenSpec.upto sparseRanksSpec)

/-- 'easementlaw04.SparseNone', WHERE WHAT IT READS IS OF BULK AT MOST 1048576: true; the input reads as it did. -/
def sparseNoneUptoRow : OpenClaim := { program := "ytnabpifledhhcaa", sum := "8563ff02e9ca759c31929068f11322c024f95123d5128fa9d48833980a64a20c", func := "easement/easementlaw04.SparseNone", spec := "sparseNone", inPlace := ["slices.overlaps[int]"], unfollowed := true, recurses := true, apart := false, narrowed := true }
def SparseNoneUptoSaid : Prop := sparseNoneUptoRow.holds Try.pinned (OpenSpec.upto sparseNoneSpec)

end Rows
end Go.Proofs.Ytnabpifledhhcaa

/-
  No cell of these rows narrows 'for every input' (looked for: loops, veiled, ifaces, maps, wideKeys, modest, calm, conditions, laid).
  DERIVED. THE GIVEN ROWS OF THIS SEAT. 3 by the template 'for every input the law returns true; each argument reads behind the call as it read before'; 0 by the template 'total and deterministic' (their statements: YtgeofnfjgjodgaaTotals.lean).
  GIVEN WITH THE SEED: the statements are not yours to turn. If you find one false, say at which input.
  Laid BY PROGRAM, IN A SANDBOX (cutbox-rows.mjs): the forced cells as the released guide's own fill.sh prints them over the translation bcea130be9f4a71b… (all of the seat's roots in one cut). By AI agents, Wed Nov 11 2026. No macro, syntax, notation, axiom, sorry.
-/
import Derived.Test.YtgeofnfjgjodgaaChecked
import GoSem.Claim
import GoSem.ClaimJoined
import GoSem.ClaimMapViews
import Derived.JoinedTies
import Derived.KernelRfl
namespace Go.Proofs.Ytgeofnfjgjodgaa
/- THE CELL 'sum', in the pinned program and in every row, IS THE sha256 OF THE DUMP (.gsa) THAT YtgeofnfjgjodgaaProg.lean LOADS. Nothing in Lean hashes anything: it is a label: what it is worth is what the hold of that sum in a sandbox is worth. -/
noncomputable def Try.pinned : Pinned := { name := "ytgeofnfjgjodgaa", sum := "bcea130be9f4a71b2ee3ef22043c83dbf80f7787027f34fb3dd2a1b717605763", checked := Try.checked }
namespace Rows
def none {H : Type} : Left H := { results := [], args := [] }

/-- 'easementlaw19.TermNeeds': WHATEVER THE INPUT: true; the input reads as it did. -/
def termNeedsSpec : ChangeSpec := { name := "termNeeds", fn := fun _ => fun
  | [d1, d2] => { results := [.lit (.bool true)], args := [d1, d2] }
  | _ => none }
def termNeedsRow : OpenClaim := { program := "ytgeofnfjgjodgaa", sum := "bcea130be9f4a71b2ee3ef22043c83dbf80f7787027f34fb3dd2a1b717605763", func := "easement/easementlaw19.TermNeeds", spec := "termNeeds", inPlace := ["internal/abi.NoEscape"], unfollowed := true, recurses := true, apart := false }
def TermNeedsSaid : Prop := termNeedsRow.holds Try.pinned (OpenSpec.ofChange termNeedsSpec)

/-- ITS FALSE NEIGHBOUR: 'it returns false'. Refute it at one input. -/
def termNeedsWrong : ChangeSpec := { name := "termNeeds", fn := fun _ => fun
  | [d1, d2] => { results := [.lit (.bool false)], args := [d1, d2] }
  | _ => none }
def TermNeedsWrongFalsely : Prop := termNeedsRow.holds Try.pinned (OpenSpec.ofChange termNeedsWrong)

/-- 'easementlaw19.TermTakes': WHATEVER THE INPUT: true; the input reads as it did. -/
def termTakesSpec : ChangeSpec := { name := "termTakes", fn := fun _ => fun
  | [d1, d2] => { results := [.lit (.bool true)], args := [d1, d2] }
  | _ => none }
def termTakesRow : OpenClaim := { program := "ytgeofnfjgjodgaa", sum := "bcea130be9f4a71b2ee3ef22043c83dbf80f7787027f34fb3dd2a1b717605763", func := "easement/easementlaw19.TermTakes", spec := "termTakes", inPlace := ["internal/abi.NoEscape"], recurses := true, apart := false }
def TermTakesSaid : Prop := termTakesRow.holds Try.pinned (OpenSpec.ofChange termTakesSpec)

/-- ITS FALSE NEIGHBOUR: 'it returns false'. Refute it at one input. -/
def termTakesWrong : ChangeSpec := { name := "termTakes", fn := fun _ => fun
  | [d1, d2] => { results := [.lit (.bool false)], args := [d1, d2] }
  | _ => none }
def TermTakesWrongFalsely : Prop := termTakesRow.holds Try.pinned (OpenSpec.ofChange termTakesWrong)

/-- 'easementlaw19.TermBack': WHATEVER THE INPUT: true; the input reads as it did. -/
def termBackSpec : ChangeSpec := { name := "termBack", fn := fun _ => fun
  | [d1, d2] => { results := [.lit (.bool true)], args := [d1, d2] }
  | _ => none }
def termBackRow : OpenClaim := { program := "ytgeofnfjgjodgaa", sum := "bcea130be9f4a71b2ee3ef22043c83dbf80f7787027f34fb3dd2a1b717605763", func := "easement/easementlaw19.TermBack", spec := "termBack", inPlace := ["internal/abi.NoEscape"], apart := false }
def TermBackSaid : Prop := termBackRow.holds Try.pinned (OpenSpec.ofChange termBackSpec)

/-- ITS FALSE NEIGHBOUR: 'it returns false'. Refute it at one input. -/
def termBackWrong : ChangeSpec := { name := "termBack", fn := fun _ => fun
  | [d1, d2] => { results := [.lit (.bool false)], args := [d1, d2] }
  | _ => none }
def TermBackWrongFalsely : Prop := termBackRow.holds Try.pinned (OpenSpec.ofChange termBackWrong)

/- THE SECOND FORM. 'bulk': how many values and letters a reading holds, each counted each time it is reached (what is shared counts as often as it is met; a slice's spare places count too). A statement '..UptoSaid' is the law's where the arguments, and the package variables that the reading takes, are together of bulk at most 1048576: NARROWER than '..Said'. Prove '..Said' where nothing that the law and all that it calls make is longer than what came in: it says more and counts as full. Else prove '..UptoSaid'. A law counts once. -/
mutual
def uptoBulk {H : Type} : DataW H → Nat
  | .lit (.string bytes) => bytes.length + 1
  | .lit _ => 1
  | .nil => 1
  | .ptr d => uptoBulk d + 1
  | .slice elems spare => uptoBulkAll elems + uptoBulkAll spare + 1
  | .agg parts => uptoBulkAll parts + 1
  | .iface _ d => uptoBulk d + 1
  | .map entries => uptoBulkEntries entries + 1
  | .held _ => 1
def uptoBulkAll {H : Type} : List (DataW H) → Nat
  | [] => 0
  | d :: r => uptoBulk d + uptoBulkAll r
def uptoBulkEntries {H : Type} : List (Lit × DataW H) → Nat
  | [] => 0
  | x :: r => uptoBulkEntry x + uptoBulkEntries r
def uptoBulkEntry {H : Type} : Lit × DataW H → Nat
  | (.string bytes, d) => bytes.length + uptoBulk d + 1
  | (_, d) => uptoBulk d + 1
 end
def uptoSmall : (H : Type) → List (DataW H) → Bool := fun _ ds => decide (uptoBulkAll ds ≤ 1048576)
def OpenSpec.upto (s : _root_.Go.ChangeSpec) : _root_.Go.OpenSpec := { _root_.Go.OpenSpec.ofChange s with cond := some uptoSmall }

/-- 'easementlaw19.TermNeeds', WHERE WHAT IT READS IS OF BULK AT MOST 1048576: true; the input reads as it did. -/
def termNeedsUptoRow : OpenClaim := { program := "ytgeofnfjgjodgaa", sum := "bcea130be9f4a71b2ee3ef22043c83dbf80f7787027f34fb3dd2a1b717605763", func := "easement/easementlaw19.TermNeeds", spec := "termNeeds", inPlace := ["internal/abi.NoEscape"], unfollowed := true, recurses := true, apart := false, narrowed := true }
def TermNeedsUptoSaid : Prop := termNeedsUptoRow.holds Try.pinned (OpenSpec.upto termNeedsSpec)

/-- 'easementlaw19.TermTakes', WHERE WHAT IT READS IS OF BULK AT MOST 1048576: true; the input reads as it did. -/
def termTakesUptoRow : OpenClaim := { program := "ytgeofnfjgjodgaa", sum := "bcea130be9f4a71b2ee3ef22043c83dbf80f7787027f34fb3dd2a1b717605763", func := "easement/easementlaw19.TermTakes", spec := "termTakes", inPlace := ["internal/abi.NoEscape"], recurses := true, apart := false, narrowed := true }
def TermTakesUptoSaid : Prop := termTakesUptoRow.holds Try.pinned (OpenSpec.upto termTakesSpec)

/-- 'easementlaw19.TermBack', WHERE WHAT IT READS IS OF BULK AT MOST 1048576: true; the input reads as it did. -/
def termBackUptoRow : OpenClaim := { program := "ytgeofnfjgjodgaa", sum := "bcea130be9f4a71b2ee3ef22043c83dbf80f7787027f34fb3dd2a1b717605763", func := "easement/easementlaw19.TermBack", spec := "termBack", inPlace := ["internal/abi.NoEscape"], apart := false, narrowed := true }
def TermBackUptoSaid : Prop := termBackUptoRow.holds Try.pinned (OpenSpec.upto termBackSpec)

end Rows
end Go.Proofs.Ytgeofnfjgjodgaa

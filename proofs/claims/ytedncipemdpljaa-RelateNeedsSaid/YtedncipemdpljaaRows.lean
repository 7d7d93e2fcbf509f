/-
  No cell of these rows narrows 'for every input' (looked for: loops, veiled, ifaces, maps, wideKeys, modest, calm, conditions, laid).
  DERIVED. THE GIVEN ROWS OF THIS SEAT. 3 by the template 'for every input the law returns true; each argument reads behind the call as it read before'; 0 by the template 'total and deterministic' (their statements: YtedncipemdpljaaTotals.lean).
  GIVEN WITH THE SEED: the statements are not yours to turn. If you find one false, say at which input.
  Laid BY PROGRAM, IN A SANDBOX (cutbox-rows.mjs): the forced cells as the released guide's own fill.sh prints them over the translation db0ddd9e04716c24… (all of the seat's roots in one cut). By AI agents, Wed Nov 11 2026. No macro, syntax, notation, axiom, sorry.
-/
import Derived.Test.YtedncipemdpljaaChecked
import GoSem.Claim
import GoSem.ClaimJoined
import GoSem.ClaimMapViews
import Derived.JoinedTies
import Derived.KernelRfl
namespace Go.Proofs.Ytedncipemdpljaa
/- THE CELL 'sum', in the pinned program and in every row, IS THE sha256 OF THE DUMP (.gsa) THAT YtedncipemdpljaaProg.lean LOADS. Nothing in Lean hashes anything: it is a label: what it is worth is what the hold of that sum in a sandbox is worth. -/
noncomputable def Try.pinned : Pinned := { name := "ytedncipemdpljaa", sum := "db0ddd9e04716c2471700089007584fdf3f872e739c91c91d2a160618b5a3327", checked := Try.checked }
namespace Rows
def none {H : Type} : Left H := { results := [], args := [] }

/-- 'easementlaw16.RelateNeeds': WHATEVER THE INPUT: true; the input reads as it did. -/
def relateNeedsSpec : ChangeSpec := { name := "relateNeeds", fn := fun _ => fun
  | [d1, d2, d3, d4, d5, d6] => { results := [.lit (.bool true)], args := [d1, d2, d3, d4, d5, d6] }
  | _ => none }
def relateNeedsRow : OpenClaim := { program := "ytedncipemdpljaa", sum := "db0ddd9e04716c2471700089007584fdf3f872e739c91c91d2a160618b5a3327", func := "easement/easementlaw16.RelateNeeds", spec := "relateNeeds", unfollowed := true, recurses := true, apart := false }
def RelateNeedsSaid : Prop := relateNeedsRow.holds Try.pinned (OpenSpec.ofChange relateNeedsSpec)

/-- ITS FALSE NEIGHBOUR: 'it returns false'. Refute it at one input. -/
def relateNeedsWrong : ChangeSpec := { name := "relateNeeds", fn := fun _ => fun
  | [d1, d2, d3, d4, d5, d6] => { results := [.lit (.bool false)], args := [d1, d2, d3, d4, d5, d6] }
  | _ => none }
def RelateNeedsWrongFalsely : Prop := relateNeedsRow.holds Try.pinned (OpenSpec.ofChange relateNeedsWrong)

/-- 'easementlaw16.RelateHolds': WHATEVER THE INPUT: true; the input reads as it did. -/
def relateHoldsSpec : ChangeSpec := { name := "relateHolds", fn := fun _ => fun
  | [d1, d2] => { results := [.lit (.bool true)], args := [d1, d2] }
  | _ => none }
def relateHoldsRow : OpenClaim := { program := "ytedncipemdpljaa", sum := "db0ddd9e04716c2471700089007584fdf3f872e739c91c91d2a160618b5a3327", func := "easement/easementlaw16.RelateHolds", spec := "relateHolds", unfollowed := true, recurses := true, apart := false }
def RelateHoldsSaid : Prop := relateHoldsRow.holds Try.pinned (OpenSpec.ofChange relateHoldsSpec)

/-- ITS FALSE NEIGHBOUR: 'it returns false'. Refute it at one input. -/
def relateHoldsWrong : ChangeSpec := { name := "relateHolds", fn := fun _ => fun
  | [d1, d2] => { results := [.lit (.bool false)], args := [d1, d2] }
  | _ => none }
def RelateHoldsWrongFalsely : Prop := relateHoldsRow.holds Try.pinned (OpenSpec.ofChange relateHoldsWrong)

/-- 'easementlaw16.RelateChains': WHATEVER THE INPUT: true; the input reads as it did. -/
def relateChainsSpec : ChangeSpec := { name := "relateChains", fn := fun _ => fun
  | [d1, d2, d3] => { results := [.lit (.bool true)], args := [d1, d2, d3] }
  | _ => none }
def relateChainsRow : OpenClaim := { program := "ytedncipemdpljaa", sum := "db0ddd9e04716c2471700089007584fdf3f872e739c91c91d2a160618b5a3327", func := "easement/easementlaw16.RelateChains", spec := "relateChains", unfollowed := true, recurses := true, apart := false }
def RelateChainsSaid : Prop := relateChainsRow.holds Try.pinned (OpenSpec.ofChange relateChainsSpec)

/-- ITS FALSE NEIGHBOUR: 'it returns false'. Refute it at one input. -/
def relateChainsWrong : ChangeSpec := { name := "relateChains", fn := fun _ => fun
  | [d1, d2, d3] => { results := [.lit (.bool false)], args := [d1, d2, d3] }
  | _ => none }
def RelateChainsWrongFalsely : Prop := relateChainsRow.holds Try.pinned (OpenSpec.ofChange relateChainsWrong)

/- THE SECOND FORM. 'bulk': how many values and letters a reading holds, each counted each time it is reached (what is shared counts as often as it is met; a slice's spare places count too). A statement '..UptoSaid' is the law's where the arguments, and the package variables that the reading takes, are together of bulk at most 1048576: NARROWER than '..Said'. Prove '..Said' where nothing that the law and all that it calls make is longer than what came in: it says more and counts as full. Else prove '..UptoSaid'. A law counts once. -/
mutual
def uptoBulk {H : Type} : DataW H → Nat
  | .lit (.string bytes) => bytes.length + 1
  | .lit _ => 1
  | .nil => 1
  | .ptr d => uptoBulk d + 1
  | .slice elems spare => uptoBulkAll elems + uptoBulkAll spare + 1
  | .agg parts => uptoBulkAll parts + 1
  | .iface _ d => uptoBulk d + 1
  | .map entries => uptoBulkEntries entries + 1
  | .held _ => 1
def uptoBulkAll {H : Type} : List (DataW H) → Nat
  | [] => 0
  | d :: r => uptoBulk d + uptoBulkAll r
def uptoBulkEntries {H : Type} : List (Lit × DataW H) → Nat
  | [] => 0
  | x :: r => uptoBulkEntry x + uptoBulkEntries r
def uptoBulkEntry {H : Type} : Lit × DataW H → Nat
  | (.string bytes, d) => bytes.length + uptoBulk d + 1
  | (_, d) => uptoBulk d + 1
 end
def uptoSmall : (H : Type) → List (DataW H) → Bool := fun _ ds => decide (uptoBulkAll ds ≤ 1048576)
def OpenSpec.upto (s : _root_.Go.ChangeSpec) : _root_.Go.OpenSpec := { _root_.Go.OpenSpec.ofChange s with cond := some uptoSmall }

/-- 'easementlaw16.RelateNeeds', WHERE WHAT IT READS IS OF BULK AT MOST 1048576: true; the input reads as it did. -/
def relateNeedsUptoRow : OpenClaim := { program := "ytedncipemdpljaa", sum := "db0ddd9e04716c2471700089007584fdf3f872e739c91c91d2a160618b5a3327", func := "easement/easementlaw16.RelateNeeds", spec := "relateNeeds", unfollowed := true, recurses := true, apart := false, narrowed := true }
def RelateNeedsUptoSaid : Prop := relateNeedsUptoRow.holds Try.pinned (OpenSpec.upto relateNeedsSpec)

/-- 'easementlaw16.RelateHolds', WHERE WHAT IT READS IS OF BULK AT MOST 1048576: true; the input reads as it did. -/
def relateHoldsUptoRow : OpenClaim := { program := "ytedncipemdpljaa", sum := "db0ddd9e04716c2471700089007584fdf3f872e739c91c91d2a160618b5a3327", func := "easement/easementlaw16.RelateHolds", spec := "relateHolds", unfollowed := true, recurses := true, apart := false, narrowed := true }
def RelateHoldsUptoSaid : Prop := relateHoldsUptoRow.holds Try.pinned (OpenSpec.upto relateHoldsSpec)

/-- 'easementlaw16.RelateChains', WHERE WHAT IT READS IS OF BULK AT MOST 1048576: true; the input reads as it did. -/
def relateChainsUptoRow : OpenClaim := { program := "ytedncipemdpljaa", sum := "db0ddd9e04716c2471700089007584fdf3f872e739c91c91d2a160618b5a3327", func := "easement/easementlaw16.RelateChains", spec := "relateChains", unfollowed := true, recurses := true, apart := false, narrowed := true }
def RelateChainsUptoSaid : Prop := relateChainsUptoRow.holds Try.pinned (OpenSpec.upto relateChainsSpec)

end Rows
end Go.Proofs.Ytedncipemdpljaa

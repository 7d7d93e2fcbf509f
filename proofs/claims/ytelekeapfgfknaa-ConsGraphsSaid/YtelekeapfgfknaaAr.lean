/- Arrays that lie in a block that is held, at places that are known. Nothing of the program is here. -/
import Derived.Test.YtelekeapfgfknaaFl
namespace Go.Proofs.Ytelekeapfgfknaa
open Go.RowKit
set_option linter.unusedVariables false
section
variable {P : Program} {n : Nat} {C : World → Prop} {ρ : Sl0} {d : Option Nat} {t : TypeId} {pos : String} {af : Array Edge} {g : Option (Nat × Bool)} {x y : Operand}
theorem V.iadA {tx e : TypeId} {b o len : Nat} {i : Int} {k : IntKind} {sz : Nat} (ht : P.underlying tx = some (.array len e)) (hz : (P.info? e).map (·.size) = some sz) (hx : ev n ρ x = .pointer (some ⟨b, o, none⟩)) (hy : ev n ρ y = .int k i) (h0 : 0 ≤ i) (h1 : i < (len : Int)) :
    Val P n C ρ ⟨d, .indexAddr tx x y, t, pos, af, g⟩ (.pointer (some ⟨b, o + i.toNat * sz, none⟩)) := fun w _ => by
  cases hi : P.info? e with
  | none => rw [hi] at hz; simp at hz
  | some i' =>
    rw [hi] at hz
    simp at hz
    simp [execOp, hx, hy, Instr.indexAt, Instr.sureAddr, asIntOf, run_underlying ht, h0, h1, sizeOf, typeInfo, hi, hz, addr_add]
end
end Go.Proofs.Ytelekeapfgfknaa

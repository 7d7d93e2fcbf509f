/- Arrays that lie in a block that is held, at places that are known. Nothing of the program is here. -/
import Derived.Test.YtbaaamdljojknaaFl
namespace Go.Proofs.Ytbaaamdljojknaa
open Go.RowKit
set_option linter.unusedVariables false
section
variable {P : Program} {n : Nat} {C : World → Prop} {ρ : Sl0} {d : Option Nat} {t : TypeId} {pos : String} {af : Array Edge} {g : Option (Nat × Bool)} {x y : Operand}
theorem V.iadA {tx e : TypeId} {b o len : Nat} {i : Int} {k : IntKind} {sz : Nat} (ht : P.underlying tx = some (.array len e)) (hz : (P.info? e).map (·.size) = some sz) (hx : ev n ρ x = .pointer (some ⟨b, o, none⟩)) (hy : ev n ρ y = .int k i) (h0 : 0 ≤ i) (h1 : i < (len : Int)) :
    Val P n C ρ ⟨d, .indexAddr tx x y, t, pos, af, g⟩ (.pointer (some ⟨b, o + i.toNat * sz, none⟩)) := fun w _ => by
  cases hi : P.info? e with
  | none => rw [hi] at hz; simp at hz
  | some i' =>
    rw [hi] at hz
    simp at hz
    simp [execOp, hx, hy, Instr.indexAt, Instr.sureAddr, asIntOf, run_underlying ht, h0, h1, sizeOf, typeInfo, hi, hz, addr_add]
theorem V.buildA {s e : TypeId} {z : Value} {sz bt len sz1 : Nat} {parts : Array (Nat × Operand)} {cs : List Value} {v : Value} (hi : Inf P s z sz bt) (hs : P.underlying s = some (.array len e)) (hz : (P.info? e).map (·.size) = some sz1) (hc : fillL (fun i => some (i * sz1, sz1)) z.cells.toList (parts.toList.map fun (i, x) => (i, ev n ρ x)) = some cs) (hcs : .agg cs.toArray = v) : Val P n C ρ ⟨d, .build s parts, t, pos, af, g⟩ v := fun w _ => by
  subst hcs
  obtain ⟨i, h1, h2, _, _⟩ := hi.open
  have hc' : Instr.fill (fun i => some (i * sz1, sz1)) z.cells (List.map (fun x => (x.1, ev n ρ x.2)) parts.toList) = some cs.toArray := fill_of hc
  cases hi' : P.info? e with
  | none => rw [hi'] at hz; simp at hz
  | some i' =>
    rw [hi'] at hz
    simp at hz
    simp [execOp, Instr.build, zeroValue, typeInfo, h1, h2, run_underlying hs, sizeOf, hi', hz, hc']
end
theorem arr_get {α : Type} {xs : List α} {f : α → Value} {cs : List Value} {x : α} {j : Nat} (h : cs = xs.map f) (hx : xs[j]? = some x) : cs[0 + j * 1]? = some (f x) := by
  subst h; simp [hx]
end Go.Proofs.Ytbaaamdljojknaa

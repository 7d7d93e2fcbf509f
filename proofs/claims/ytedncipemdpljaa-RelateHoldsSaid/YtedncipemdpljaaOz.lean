/- Functions held against nil; slices made, cut, copied; texts and bytes. Nothing of the program is here. -/
import Derived.Test.YtedncipemdpljaaOy
namespace Go.Proofs.Ytedncipemdpljaa
open Go.RowKit
set_option linter.unusedVariables false
section
variable {P : Program} {n : Nat} {C : World → Prop} {ρ : Sl0} {d : Option Nat} {t : TypeId} {pos : String} {af : Array Edge} {g : Option (Nat × Bool)} {x y : Operand} {tx ty : TypeId}
theorem run_equal_func_nil {w : World} (t : TypeId) {a b c} (f : Fn) (u v : Array Value) (h : P.underlying t = some (.func a b c)) : (Op.equal t (.func f u v) .nilFunc).run P w = .ok false w := by
  show (Op.equalIn (9999 + 1) t (.func f u v) .nilFunc).run P w = .ok false w
  rw [Op.equalIn]
  simp [run_underlying h]
theorem V.fn_eql {a b c} {f : Fn} {u v : Array Value} (ht : P.underlying tx = some (.func a b c)) (hx : ev n ρ x = .func f u v) (hy : ev n ρ y = .nilFunc) : Val P n C ρ ⟨d, .binOp .eql tx x y ty, t, pos, af, g⟩ (.bool false) := fun w _ => by
  have := run_equal_func_nil (P := P) (w := w) tx f u v ht
  simp only [execOp, hx, hy]
  simp only [binOp]
  simp [eqGuard, this]
theorem V.fn_neq {a b c} {f : Fn} {u v : Array Value} (ht : P.underlying tx = some (.func a b c)) (hx : ev n ρ x = .func f u v) (hy : ev n ρ y = .nilFunc) : Val P n C ρ ⟨d, .binOp .neq tx x y ty, t, pos, af, g⟩ (.bool true) := fun w _ => by
  have := run_equal_func_nil (P := P) (w := w) tx f u v ht
  simp only [execOp, hx, hy]
  simp only [binOp]
  simp [eqGuard, this]
end
end Go.Proofs.Ytedncipemdpljaa

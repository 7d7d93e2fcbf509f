/- The law, walked: by what its function computes. -/
import Derived.Test.YtelekeapfgfknaaFrame
import Derived.Test.YtelekeapfgfknaaTw
import Derived.Test.YtelekeapfgfknaaP27g
namespace Go.Proofs.Ytelekeapfgfknaa
open Go.RowKit
set_option linter.unusedVariables false
set_option linter.unnecessarySimpa false
set_option linter.unusedSimpArgs false
set_option maxRecDepth 20000
theorem ConsGraphs_walk {H : Type} (enc : TypeId × Value → H) (W : World) (base : Nat) {v0 v1 : Value} {d0 d1 : DataW H} {p0 p1 : List MemPlace}
    (h0 : DataW.Trod enc Try.prog W 0 (fun _ => true) true 3 v0 d0 p0) (h1 : DataW.Trod enc Try.prog W 0 (fun _ => true) true 22 v1 d1 p1)
    (o0 : Value.okWide Try.prog W .any base 3 v0) (o1 : Value.okWide Try.prog W .any base 22 v1)
    (w0 : (d0.weights Try.prog 3).all (· ≤ reachBytes) = true)
    (w1 : (d1.weights Try.prog 22).all (· ≤ reachBytes) = true) :
    Calls Try.prog 3 #[v0, v1] W fun e W' => e = .returned (.bool true) ∧ Below W.heap.size W W' := by
  obtain ⟨xa, i0, k0⟩ := Tp.arg (.int .i64) (by kernel_rfl) o0 h0
  have q0 := Tp.argFit (.int .i64) (r := .any) (b := base) (by kernel_rfl) (by kernel_rfl) h0 i0 w0
  obtain rfl := IsV.int_eq i0
  obtain ⟨xb, i1, k1⟩ := Tp.arg (.sl (.cons (.int .i64) (.cons (.int .i64) (.one (.cons (.int .i64) (.cons (.int .i64) (.cons (.int .i64) (.cons (.int .i64) (.one .bool))))))))) (by kernel_rfl) o1 h1
  have q1 := Tp.argFit (.sl (.cons (.int .i64) (.cons (.int .i64) (.one (.cons (.int .i64) (.cons (.int .i64) (.cons (.int .i64) (.cons (.int .i64) (.one .bool))))))))) (r := .any) (b := base) (by kernel_rfl) (by kernel_rfl) h1 i1 w1
  obtain ⟨_, _, rfl, f1⟩ := IsV.sl_eq i1
  refine (law27_ConsGraphs_ok (K := Hp.of W) f1 (ConsGraphs_true xa xb k0 k1 q0 q1) (En.of W) W [] (Sep.start W)).mono fun e W' h => ?_
  obtain ⟨v, K', L', rfl, ⟨⟨_, rfl, rfl, _⟩, hK⟩, h1, h2⟩ := h
  exact ⟨rfl, h2.below h1⟩
end Go.Proofs.Ytelekeapfgfknaa

/- The law, walked: by what its function computes. -/
import Derived.Test.YtoghdhopojoggaaFrame
import Derived.Test.YtoghdhopojoggaaP10
namespace Go.Proofs.Ytoghdhopojoggaa
open Go.RowKit
set_option linter.unusedVariables false
theorem GraphReaches_walk {H : Type} (enc : TypeId × Value → H) (W : World) (base : Nat) {v0 v1 v2 : Value} {d0 d1 d2 : DataW H} {p0 p1 p2 : List MemPlace}
    (h0 : DataW.Trod enc Try.prog W 0 (fun _ => true) true 3 v0 d0 p0) (h1 : DataW.Trod enc Try.prog W 0 (fun _ => true) true 22 v1 d1 p1) (h2 : DataW.Trod enc Try.prog W 0 (fun _ => true) true 3 v2 d2 p2)
    (o0 : Value.okWide Try.prog W .any base 3 v0) (o1 : Value.okWide Try.prog W .any base 22 v1) (o2 : Value.okWide Try.prog W .any base 3 v2) :
    Calls Try.prog 5 #[v0, v1, v2] W fun e W' => e = .returned (.bool true) ∧ Below W.heap.size W W' := by
  obtain ⟨xa, i0, k0⟩ := Tp.arg (.int .i64) (by kernel_rfl) o0 h0
  obtain rfl := IsV.int_eq i0
  obtain ⟨xb, i1, k1⟩ := Tp.arg (.sl (.cons (.int .i64) (.one (.int .i64)))) (by kernel_rfl) o1 h1
  obtain ⟨_, _, rfl, f1⟩ := IsV.sl_eq i1
  obtain ⟨xc, i2, k2⟩ := Tp.arg (.int .i64) (by kernel_rfl) o2 h2
  obtain rfl := IsV.int_eq i2
  refine (law10_GraphReaches_ok (K := Hp.of W) f1 (GraphReaches_true xa xb xc k0 k1 k2) (En.of W) W [] (Sep.start W)).mono fun e W' h => ?_
  obtain ⟨v, K', L', rfl, ⟨⟨_, rfl, rfl, _⟩, hK⟩, h1, h2⟩ := h
  exact ⟨rfl, h2.below h1⟩
end Go.Proofs.Ytoghdhopojoggaa

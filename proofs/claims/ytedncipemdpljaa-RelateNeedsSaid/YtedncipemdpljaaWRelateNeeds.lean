/- The law, walked: by what its function computes. -/
import Derived.Test.YtedncipemdpljaaFrame
import Derived.Test.YtedncipemdpljaaP16
namespace Go.Proofs.Ytedncipemdpljaa
open Go.RowKit
set_option linter.unusedVariables false
theorem RelateNeeds_walk {H : Type} (enc : TypeId × Value → H) (W : World) (base : Nat) {v0 v1 v2 v3 v4 v5 : Value} {d0 d1 d2 d3 d4 d5 : DataW H} {p0 p1 p2 p3 p4 p5 : List MemPlace}
    (h0 : DataW.Trod enc Try.prog W 0 (fun _ => true) true 24 v0 d0 p0) (h1 : DataW.Trod enc Try.prog W 0 (fun _ => true) true 24 v1 d1 p1) (h2 : DataW.Trod enc Try.prog W 0 (fun _ => true) true 3 v2 d2 p2) (h3 : DataW.Trod enc Try.prog W 0 (fun _ => true) true 3 v3 d3 p3) (h4 : DataW.Trod enc Try.prog W 0 (fun _ => true) true 3 v4 d4 p4) (h5 : DataW.Trod enc Try.prog W 0 (fun _ => true) true 4 v5 d5 p5)
    (o0 : Value.okWide Try.prog W .any base 24 v0) (o1 : Value.okWide Try.prog W .any base 24 v1) (o2 : Value.okWide Try.prog W .any base 3 v2) (o3 : Value.okWide Try.prog W .any base 3 v3) (o4 : Value.okWide Try.prog W .any base 3 v4) (o5 : Value.okWide Try.prog W .any base 4 v5) :
    Calls Try.prog 3 #[v0, v1, v2, v3, v4, v5] W fun e W' => e = .returned (.bool true) ∧ Below W.heap.size W W' := by
  obtain ⟨xa, i0, k0⟩ := Tp.arg (.one (.sl (.cons (.int .i64) (.one .bool)))) (by kernel_rfl) o0 h0
  obtain ⟨_, rfl, j0⟩ := IsV.one_eq i0
  obtain ⟨_, _, rfl, f0_0⟩ := Is.sl_eq (Is.one_eq j0)
  obtain ⟨xb, i1, k1⟩ := Tp.arg (.one (.sl (.cons (.int .i64) (.one .bool)))) (by kernel_rfl) o1 h1
  obtain ⟨_, rfl, j1⟩ := IsV.one_eq i1
  obtain ⟨_, _, rfl, f1_0⟩ := Is.sl_eq (Is.one_eq j1)
  obtain ⟨xc, i2, k2⟩ := Tp.arg (.int .i64) (by kernel_rfl) o2 h2
  obtain rfl := IsV.int_eq i2
  obtain ⟨xd, i3, k3⟩ := Tp.arg (.int .i64) (by kernel_rfl) o3 h3
  obtain rfl := IsV.int_eq i3
  obtain ⟨xe, i4, k4⟩ := Tp.arg (.int .i64) (by kernel_rfl) o4 h4
  obtain rfl := IsV.int_eq i4
  obtain ⟨xf, i5, k5⟩ := Tp.arg .bool (by kernel_rfl) o5 h5
  obtain rfl := IsV.bool_eq i5
  refine (law16_RelateNeeds_ok (K := Hp.of W) f0_0 f1_0 (RelateNeeds_true xa xb xc xd xe xf k0 k1 k2 k3 k4 k5) (En.of W) W [] (Sep.start W)).mono fun e W' h => ?_
  obtain ⟨v, K', L', rfl, ⟨⟨_, rfl, rfl, _⟩, hK⟩, h1, h2⟩ := h
  exact ⟨rfl, h2.below h1⟩
end Go.Proofs.Ytedncipemdpljaa

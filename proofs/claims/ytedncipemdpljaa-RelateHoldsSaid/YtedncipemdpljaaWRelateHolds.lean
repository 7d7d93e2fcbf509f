/- The law, walked: by what its function computes. -/
import Derived.Test.YtedncipemdpljaaFrame
import Derived.Test.YtedncipemdpljaaP16
namespace Go.Proofs.Ytedncipemdpljaa
open Go.RowKit
set_option linter.unusedVariables false
theorem RelateHolds_walk {H : Type} (enc : TypeId × Value → H) (W : World) (base : Nat) {v0 v1 : Value} {d0 d1 : DataW H} {p0 p1 : List MemPlace}
    (h0 : DataW.Trod enc Try.prog W 0 (fun _ => true) true 24 v0 d0 p0) (h1 : DataW.Trod enc Try.prog W 0 (fun _ => true) true 24 v1 d1 p1)
    (o0 : Value.okWide Try.prog W .any base 24 v0) (o1 : Value.okWide Try.prog W .any base 24 v1) :
    Calls Try.prog 4 #[v0, v1] W fun e W' => e = .returned (.bool true) ∧ Below W.heap.size W W' := by
  obtain ⟨xa, i0, k0⟩ := Tp.arg (.one (.sl (.cons (.int .i64) (.one .bool)))) (by kernel_rfl) o0 h0
  obtain ⟨_, rfl, j0⟩ := IsV.one_eq i0
  obtain ⟨_, _, rfl, f0_0⟩ := Is.sl_eq (Is.one_eq j0)
  obtain ⟨xb, i1, k1⟩ := Tp.arg (.one (.sl (.cons (.int .i64) (.one .bool)))) (by kernel_rfl) o1 h1
  obtain ⟨_, rfl, j1⟩ := IsV.one_eq i1
  obtain ⟨_, _, rfl, f1_0⟩ := Is.sl_eq (Is.one_eq j1)
  refine (law16_RelateHolds_ok (K := Hp.of W) f0_0 f1_0 (RelateHolds_true xa xb k0 k1) (En.of W) W [] (Sep.start W)).mono fun e W' h => ?_
  obtain ⟨v, K', L', rfl, ⟨⟨_, rfl, rfl, _⟩, hK⟩, h1, h2⟩ := h
  exact ⟨rfl, h2.below h1⟩
end Go.Proofs.Ytedncipemdpljaa

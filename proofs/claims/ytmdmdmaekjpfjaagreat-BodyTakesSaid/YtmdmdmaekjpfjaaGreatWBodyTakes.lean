/- The law, walked: by what its function computes. -/
import Derived.Test.YtmdmdmaekjpfjaaGreatFrame
import Derived.Test.YtmdmdmaekjpfjaaGreatTw
import Derived.Test.YtmdmdmaekjpfjaaGreatP20
namespace Go.Proofs.YtmdmdmaekjpfjaaGreat
open Go.RowKit
set_option linter.unusedVariables false
set_option linter.unnecessarySimpa false
set_option linter.unusedSimpArgs false
set_option maxRecDepth 20000
theorem BodyTakes_walk {H : Type} (enc : TypeId × Value → H) (W : World) (base : Nat) {v0 : Value} {d0 : DataW H} {p0 : List MemPlace}
    (h0 : DataW.Trod enc Tryz.prog W 0 (fun _ => true) true 9 v0 d0 p0)
    (o0 : Value.okWide Tryz.prog W .any base 9 v0)
    (w0 : (d0.weights Tryz.prog 9).all (· ≤ reachBytes) = true) :
    Calls Tryz.prog 3 #[v0] W fun e W' => e = .returned (.bool true) ∧ Below W.heap.size W W' := by
  obtain ⟨xa, i0, k0⟩ := Tp.arg .str (by kernel_rfl) o0 h0
  have q0 := Tp.argFit .str (r := .any) (b := base) (by kernel_rfl) (by kernel_rfl) h0 i0 w0
  obtain rfl := IsV.str_eq i0
  refine (law20_BodyTakes_ok (K := Hp.of W)  (BodyTakes_true xa k0 q0) (En.of W) W [] (Sep.start W)).mono fun e W' h => ?_
  obtain ⟨v, K', L', rfl, ⟨⟨_, rfl, rfl, _⟩, hK⟩, h1, h2⟩ := h
  exact ⟨rfl, h2.below h1⟩
end Go.Proofs.YtmdmdmaekjpfjaaGreat

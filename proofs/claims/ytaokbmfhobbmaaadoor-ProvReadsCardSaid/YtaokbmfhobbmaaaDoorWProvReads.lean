/- The law, walked: by what its function computes. -/
import Derived.Test.YtaokbmfhobbmaaaDoorFrame
import Derived.Test.YtaokbmfhobbmaaaDoorP26
namespace Go.Proofs.YtaokbmfhobbmaaaDoor
open Go.RowKit
set_option linter.unusedVariables false
set_option linter.unnecessarySimpa false
set_option linter.unusedSimpArgs false
set_option maxRecDepth 20000
theorem ProvReads_walk {H : Type} (enc : TypeId × Value → H) (W : World) (base : Nat) {v0 v1 : Value} {d0 d1 : DataW H} {p0 p1 : List MemPlace}
    (h0 : DataW.Trod enc Tryd.prog W 0 (fun _ => true) true 9 v0 d0 p0) (h1 : DataW.Trod enc Tryd.prog W 0 (fun _ => true) true 23 v1 d1 p1)
    (o0 : Value.okWide Tryd.prog W .any base 9 v0) (o1 : Value.okWide Tryd.prog W .any base 23 v1)  (hso : W.ShapedOpen Tryd.prog) :
    Calls Tryd.prog 4 #[v0, v1] W fun e W' => e = .returned (.bool true) ∧ Below W.heap.size W W' := by
  obtain ⟨xa, i0, k0⟩ := Tp.arg .str (by kernel_rfl) o0 h0
  obtain rfl := IsV.str_eq i0
  obtain ⟨xb, i1, k1⟩ := Tp.arg (.cons (.int .i64) (.cons (.int .i64) (.cons (.int .i64) (.cons (.int .i64) (.one .bool))))) (by kernel_rfl) o1 h1
  obtain ⟨_, rfl, j1⟩ := IsV.cons_eq i1
  obtain ⟨_, _, rfl, _, a1_0, b1_0⟩ := Is.cons_eq j1
  obtain rfl := Is.int_eq a1_0
  obtain ⟨_, _, rfl, _, a1_1, b1_1⟩ := Is.cons_eq b1_0
  obtain rfl := Is.int_eq a1_1
  obtain ⟨_, _, rfl, _, a1_2, b1_2⟩ := Is.cons_eq b1_1
  obtain rfl := Is.int_eq a1_2
  obtain ⟨_, _, rfl, _, a1_3, b1_3⟩ := Is.cons_eq b1_2
  obtain rfl := Is.int_eq a1_3
  obtain rfl := Is.bool_eq (Is.one_eq b1_3)
  refine (law26_ProvReads_ok (K := Hp.of W) (Gk.of hso) (ProvReads_true xa xb k0 k1) (En.of W) W [] (Sep.start W)).mono fun e W' h => ?_
  obtain ⟨v, K', L', rfl, ⟨⟨_, rfl, rfl, _⟩, hK⟩, h1, h2⟩ := h
  exact ⟨rfl, h2.below h1⟩
end Go.Proofs.YtaokbmfhobbmaaaDoor

/- The law, walked: by what its function computes. -/
import Derived.Test.YtaokbmfhobbmaaaDoorFrame
import Derived.Test.YtaokbmfhobbmaaaDoorP26
namespace Go.Proofs.YtaokbmfhobbmaaaDoor
open Go.RowKit
set_option linter.unusedVariables false
set_option linter.unnecessarySimpa false
set_option linter.unusedSimpArgs false
set_option maxRecDepth 20000
theorem ProvOrder_walk {H : Type} (enc : TypeId × Value → H) (W : World) (base : Nat) {v0 v1 v2 : Value} {d0 d1 d2 : DataW H} {p0 p1 p2 : List MemPlace}
    (h0 : DataW.Trod enc Tryd.prog W 0 (fun _ => true) true 23 v0 d0 p0) (h1 : DataW.Trod enc Tryd.prog W 0 (fun _ => true) true 23 v1 d1 p1) (h2 : DataW.Trod enc Tryd.prog W 0 (fun _ => true) true 23 v2 d2 p2)
    (o0 : Value.okWide Tryd.prog W .any base 23 v0) (o1 : Value.okWide Tryd.prog W .any base 23 v1) (o2 : Value.okWide Tryd.prog W .any base 23 v2)  (hso : W.ShapedOpen Tryd.prog) :
    Calls Tryd.prog 5 #[v0, v1, v2] W fun e W' => e = .returned (.bool true) ∧ Below W.heap.size W W' := by
  obtain ⟨xa, i0, k0⟩ := Tp.arg (.cons (.int .i64) (.cons (.int .i64) (.cons (.int .i64) (.cons (.int .i64) (.one .bool))))) (by kernel_rfl) o0 h0
  obtain ⟨_, rfl, j0⟩ := IsV.cons_eq i0
  obtain ⟨_, _, rfl, _, a0_0, b0_0⟩ := Is.cons_eq j0
  obtain rfl := Is.int_eq a0_0
  obtain ⟨_, _, rfl, _, a0_1, b0_1⟩ := Is.cons_eq b0_0
  obtain rfl := Is.int_eq a0_1
  obtain ⟨_, _, rfl, _, a0_2, b0_2⟩ := Is.cons_eq b0_1
  obtain rfl := Is.int_eq a0_2
  obtain ⟨_, _, rfl, _, a0_3, b0_3⟩ := Is.cons_eq b0_2
  obtain rfl := Is.int_eq a0_3
  obtain rfl := Is.bool_eq (Is.one_eq b0_3)
  obtain ⟨xb, i1, k1⟩ := Tp.arg (.cons (.int .i64) (.cons (.int .i64) (.cons (.int .i64) (.cons (.int .i64) (.one .bool))))) (by kernel_rfl) o1 h1
  obtain ⟨_, rfl, j1⟩ := IsV.cons_eq i1
  obtain ⟨_, _, rfl, _, a1_0, b1_0⟩ := Is.cons_eq j1
  obtain rfl := Is.int_eq a1_0
  obtain ⟨_, _, rfl, _, a1_1, b1_1⟩ := Is.cons_eq b1_0
  obtain rfl := Is.int_eq a1_1
  obtain ⟨_, _, rfl, _, a1_2, b1_2⟩ := Is.cons_eq b1_1
  obtain rfl := Is.int_eq a1_2
  obtain ⟨_, _, rfl, _, a1_3, b1_3⟩ := Is.cons_eq b1_2
  obtain rfl := Is.int_eq a1_3
  obtain rfl := Is.bool_eq (Is.one_eq b1_3)
  obtain ⟨xc, i2, k2⟩ := Tp.arg (.cons (.int .i64) (.cons (.int .i64) (.cons (.int .i64) (.cons (.int .i64) (.one .bool))))) (by kernel_rfl) o2 h2
  obtain ⟨_, rfl, j2⟩ := IsV.cons_eq i2
  obtain ⟨_, _, rfl, _, a2_0, b2_0⟩ := Is.cons_eq j2
  obtain rfl := Is.int_eq a2_0
  obtain ⟨_, _, rfl, _, a2_1, b2_1⟩ := Is.cons_eq b2_0
  obtain rfl := Is.int_eq a2_1
  obtain ⟨_, _, rfl, _, a2_2, b2_2⟩ := Is.cons_eq b2_1
  obtain rfl := Is.int_eq a2_2
  obtain ⟨_, _, rfl, _, a2_3, b2_3⟩ := Is.cons_eq b2_2
  obtain rfl := Is.int_eq a2_3
  obtain rfl := Is.bool_eq (Is.one_eq b2_3)
  refine (law26_ProvOrder_ok (K := Hp.of W) (Gk.of hso) (ProvOrder_true xa xb xc k0 k1 k2) (En.of W) W [] (Sep.start W)).mono fun e W' h => ?_
  obtain ⟨v, K', L', rfl, ⟨⟨_, rfl, rfl, _⟩, hK⟩, h1, h2⟩ := h
  exact ⟨rfl, h2.below h1⟩
end Go.Proofs.YtaokbmfhobbmaaaDoor

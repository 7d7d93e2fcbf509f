/- The law, walked: by what its function computes. -/
import Derived.Test.YtaokbmfhobbmaaaDoorFrame
import Derived.Test.YtaokbmfhobbmaaaDoorP26
namespace Go.Proofs.YtaokbmfhobbmaaaDoor
open Go.RowKit
set_option linter.unusedVariables false
set_option linter.unnecessarySimpa false
set_option linter.unusedSimpArgs false
set_option maxRecDepth 20000
theorem ProvTells_walk {H : Type} (enc : TypeId × Value → H) (W : World) (base : Nat) {v0 v1 v2 : Value} {d0 d1 d2 : DataW H} {p0 p1 p2 : List MemPlace}
    (h0 : DataW.Trod enc Tryd.prog W 0 (fun _ => true) true 3 v0 d0 p0) (h1 : DataW.Trod enc Tryd.prog W 0 (fun _ => true) true 9 v1 d1 p1) (h2 : DataW.Trod enc Tryd.prog W 0 (fun _ => true) true 25 v2 d2 p2)
    (o0 : Value.okWide Tryd.prog W .any base 3 v0) (o1 : Value.okWide Tryd.prog W .any base 9 v1) (o2 : Value.okWide Tryd.prog W .any base 25 v2)  (hso : W.ShapedOpen Tryd.prog) :
    Calls Tryd.prog 3 #[v0, v1, v2] W fun e W' => e = .returned (.bool true) ∧ Below W.heap.size W W' := by
  obtain ⟨xa, i0, k0⟩ := Tp.arg (.int .i64) (by kernel_rfl) o0 h0
  obtain rfl := IsV.int_eq i0
  obtain ⟨xb, i1, k1⟩ := Tp.arg .str (by kernel_rfl) o1 h1
  obtain rfl := IsV.str_eq i1
  obtain ⟨xc, i2, k2⟩ := Tp.arg (.cons (.int .i64) (.cons (.int .i64) (.one (.cons (.int .i64) (.cons (.int .i64) (.cons (.int .i64) (.cons (.int .i64) (.one .bool)))))))) (by kernel_rfl) o2 h2
  obtain ⟨_, rfl, j2⟩ := IsV.cons_eq i2
  obtain ⟨_, _, rfl, _, a2_0, b2_0⟩ := Is.cons_eq j2
  obtain rfl := Is.int_eq a2_0
  obtain ⟨_, _, rfl, _, a2_1, b2_1⟩ := Is.cons_eq b2_0
  obtain rfl := Is.int_eq a2_1
  obtain ⟨_, _, rfl, _, a2_2_0, b2_2_0⟩ := Is.cons_eq (Is.one_eq b2_1)
  obtain rfl := Is.int_eq a2_2_0
  obtain ⟨_, _, rfl, _, a2_2_1, b2_2_1⟩ := Is.cons_eq b2_2_0
  obtain rfl := Is.int_eq a2_2_1
  obtain ⟨_, _, rfl, _, a2_2_2, b2_2_2⟩ := Is.cons_eq b2_2_1
  obtain rfl := Is.int_eq a2_2_2
  obtain ⟨_, _, rfl, _, a2_2_3, b2_2_3⟩ := Is.cons_eq b2_2_2
  obtain rfl := Is.int_eq a2_2_3
  obtain rfl := Is.bool_eq (Is.one_eq b2_2_3)
  refine (law26_ProvTells_ok (K := Hp.of W) (Gk.of hso) (ProvTells_true xa xb xc k0 k1 k2) (En.of W) W [] (Sep.start W)).mono fun e W' h => ?_
  obtain ⟨v, K', L', rfl, ⟨⟨_, rfl, rfl, _⟩, hK⟩, h1, h2⟩ := h
  exact ⟨rfl, h2.below h1⟩
end Go.Proofs.YtaokbmfhobbmaaaDoor

/- The law, walked: by what its function computes. -/
import Derived.Test.YthmnkgldkjkheaaDoorFrame
import Derived.Test.YthmnkgldkjkheaaDoorP01
namespace Go.Proofs.YthmnkgldkjkheaaDoor
open Go.RowKit
set_option linter.unusedVariables false
set_option linter.unnecessarySimpa false
set_option linter.unusedSimpArgs false
set_option maxRecDepth 20000
theorem NumeralWrites_walk {H : Type} (enc : TypeId × Value → H) (W : World) (base : Nat) {v0 v1 v2 : Value} {d0 d1 d2 : DataW H} {p0 p1 p2 : List MemPlace}
    (h0 : DataW.Trod enc Tryd.prog W 0 (fun _ => true) true 3 v0 d0 p0) (h1 : DataW.Trod enc Tryd.prog W 0 (fun _ => true) true 23 v1 d1 p1) (h2 : DataW.Trod enc Tryd.prog W 0 (fun _ => true) true 24 v2 d2 p2)
    (o0 : Value.okWide Tryd.prog W .any base 3 v0) (o1 : Value.okWide Tryd.prog W .any base 23 v1) (o2 : Value.okWide Tryd.prog W .any base 24 v2)  (hso : W.ShapedOpen Tryd.prog) :
    Calls Tryd.prog 3 #[v0, v1, v2] W fun e W' => e = .returned (.bool true) ∧ Below W.heap.size W W' := by
  obtain ⟨xa, i0, k0⟩ := Tp.arg (.int .i64) (by kernel_rfl) o0 h0
  obtain rfl := IsV.int_eq i0
  obtain ⟨xb, i1, k1⟩ := Tp.arg (.cons (.int .i64) (.one (.int .i64))) (by kernel_rfl) o1 h1
  obtain ⟨_, rfl, j1⟩ := IsV.cons_eq i1
  obtain ⟨_, _, rfl, _, a1_0, b1_0⟩ := Is.cons_eq j1
  obtain rfl := Is.int_eq a1_0
  obtain rfl := Is.int_eq (Is.one_eq b1_0)
  obtain ⟨xc, i2, k2⟩ := Tp.arg (.sl (.int .i64)) (by kernel_rfl) o2 h2
  obtain ⟨_, _, rfl, f2⟩ := IsV.sl_eq i2
  refine (law01_NumeralWrites_ok (K := Hp.of W) (Gk.of hso) f2 (NumeralWrites_true xa xb xc k0 k1 k2) (En.of W) W [] (Sep.start W)).mono fun e W' h => ?_
  obtain ⟨v, K', L', rfl, ⟨⟨_, rfl, rfl, _⟩, hK⟩, h1, h2⟩ := h
  exact ⟨rfl, h2.below h1⟩
end Go.Proofs.YthmnkgldkjkheaaDoor

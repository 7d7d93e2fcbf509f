/- The law, walked: by what its function computes. -/
import Derived.Test.YtbaaamdljojknaaFrame
import Derived.Test.YtbaaamdljojknaaTw
import Derived.Test.YtbaaamdljojknaaP21s
namespace Go.Proofs.Ytbaaamdljojknaa
open Go.RowKit
set_option linter.unusedVariables false
set_option linter.unnecessarySimpa false
set_option linter.unusedSimpArgs false
set_option maxRecDepth 20000
theorem ValidStays_walk {H : Type} (enc : TypeId × Value → H) (W : World) (base : Nat) {v0 v1 v2 v3 : Value} {d0 d1 d2 d3 : DataW H} {p0 p1 p2 p3 : List MemPlace}
    (h0 : DataW.Trod enc Try.prog W 0 (fun _ => true) true 30 v0 d0 p0) (h1 : DataW.Trod enc Try.prog W 0 (fun _ => true) true 50 v1 d1 p1) (h2 : DataW.Trod enc Try.prog W 0 (fun _ => true) true 3 v2 d2 p2) (h3 : DataW.Trod enc Try.prog W 0 (fun _ => true) true 3 v3 d3 p3)
    (o0 : Value.okWide Try.prog W .any base 30 v0) (o1 : Value.okWide Try.prog W .any base 50 v1) (o2 : Value.okWide Try.prog W .any base 3 v2) (o3 : Value.okWide Try.prog W .any base 3 v3)
    (w0 : (d0.weights Try.prog 30).all (· ≤ reachBytes) = true)
    (w1 : (d1.weights Try.prog 50).all (· ≤ reachBytes) = true)
    (w2 : (d2.weights Try.prog 3).all (· ≤ reachBytes) = true)
    (w3 : (d3.weights Try.prog 3).all (· ≤ reachBytes) = true) :
    Calls Try.prog 4 #[v0, v1, v2, v3] W fun e W' => e = .returned (.bool true) ∧ Below W.heap.size W W' := by
  obtain ⟨xa, i0, k0⟩ := Tp.arg (.cons (.int .i64) (.cons (.int .i64) (.cons (.sl (.cons (.int .i64) (.one (.int .i64)))) (.cons (.sl (.one (.sl (.cons (.int .i64) (.one .bool))))) (.cons (.one (.sl (.cons (.int .i64) (.one .bool)))) (.cons (.sl (.cons (.int .i64) (.cons (.sl (.cons (.int .i64) (.one (.int .i64)))) (.cons (.sl (.one (.sl (.cons (.int .i64) (.one .bool))))) (.one (.one (.sl (.cons (.int .i64) (.one .bool))))))))) (.one (.sl (.cons (.sl (.cons (.int .i64) (.cons (.int .i64) (.cons (.int .i64) (.cons (.int .i64) (.one .bool)))))) (.one (.cons (.int .i64) (.cons (.int .i64) (.cons (.int .i64) (.cons (.sl (.int .i64)) (.cons (.sl (.int .i64)) (.one (.sl (.int .i64)))))))))))))))))) (by kernel_rfl) o0 h0
  have q0 := Tp.argFit (.cons (.int .i64) (.cons (.int .i64) (.cons (.sl (.cons (.int .i64) (.one (.int .i64)))) (.cons (.sl (.one (.sl (.cons (.int .i64) (.one .bool))))) (.cons (.one (.sl (.cons (.int .i64) (.one .bool)))) (.cons (.sl (.cons (.int .i64) (.cons (.sl (.cons (.int .i64) (.one (.int .i64)))) (.cons (.sl (.one (.sl (.cons (.int .i64) (.one .bool))))) (.one (.one (.sl (.cons (.int .i64) (.one .bool))))))))) (.one (.sl (.cons (.sl (.cons (.int .i64) (.cons (.int .i64) (.cons (.int .i64) (.cons (.int .i64) (.one .bool)))))) (.one (.cons (.int .i64) (.cons (.int .i64) (.cons (.int .i64) (.cons (.sl (.int .i64)) (.cons (.sl (.int .i64)) (.one (.sl (.int .i64)))))))))))))))))) (r := .any) (b := base) (by kernel_rfl) (by kernel_rfl) h0 i0 w0
  obtain ⟨_, rfl, j0⟩ := IsV.cons_eq i0
  obtain ⟨_, _, rfl, _, a0_0, b0_0⟩ := Is.cons_eq j0
  obtain rfl := Is.int_eq a0_0
  obtain ⟨_, _, rfl, _, a0_1, b0_1⟩ := Is.cons_eq b0_0
  obtain rfl := Is.int_eq a0_1
  obtain ⟨_, _, rfl, _, a0_2, b0_2⟩ := Is.cons_eq b0_1
  obtain ⟨_, _, rfl, f0_2⟩ := Is.sl_eq a0_2
  obtain ⟨_, _, rfl, _, a0_3, b0_3⟩ := Is.cons_eq b0_2
  obtain ⟨_, _, rfl, f0_3⟩ := Is.sl_eq a0_3
  obtain ⟨_, _, rfl, _, a0_4, b0_4⟩ := Is.cons_eq b0_3
  obtain ⟨_, _, rfl, f0_4_0⟩ := Is.sl_eq (Is.one_eq a0_4)
  obtain ⟨_, _, rfl, _, a0_5, b0_5⟩ := Is.cons_eq b0_4
  obtain ⟨_, _, rfl, f0_5⟩ := Is.sl_eq a0_5
  obtain ⟨_, _, rfl, f0_6⟩ := Is.sl_eq (Is.one_eq b0_5)
  obtain ⟨xb, i1, k1⟩ := Tp.arg (.cons (.int .i64) (.one (.int .i64))) (by kernel_rfl) o1 h1
  have q1 := Tp.argFit (.cons (.int .i64) (.one (.int .i64))) (r := .any) (b := base) (by kernel_rfl) (by kernel_rfl) h1 i1 w1
  obtain ⟨_, rfl, j1⟩ := IsV.cons_eq i1
  obtain ⟨_, _, rfl, _, a1_0, b1_0⟩ := Is.cons_eq j1
  obtain rfl := Is.int_eq a1_0
  obtain rfl := Is.int_eq (Is.one_eq b1_0)
  obtain ⟨xc, i2, k2⟩ := Tp.arg (.int .i64) (by kernel_rfl) o2 h2
  have q2 := Tp.argFit (.int .i64) (r := .any) (b := base) (by kernel_rfl) (by kernel_rfl) h2 i2 w2
  obtain rfl := IsV.int_eq i2
  obtain ⟨xd, i3, k3⟩ := Tp.arg (.int .i64) (by kernel_rfl) o3 h3
  have q3 := Tp.argFit (.int .i64) (r := .any) (b := base) (by kernel_rfl) (by kernel_rfl) h3 i3 w3
  obtain rfl := IsV.int_eq i3
  refine (law21_ValidStays_ok (K := Hp.of W) f0_2 f0_3 f0_4_0 f0_5 f0_6 (ValidStays_true xa xb xc xd k0 k1 k2 k3 q0 q1 q2 q3) (En.of W) W [] (Sep.start W)).mono fun e W' h => ?_
  obtain ⟨v, K', L', rfl, ⟨⟨_, rfl, rfl, _⟩, hK⟩, h1, h2⟩ := h
  exact ⟨rfl, h2.below h1⟩
end Go.Proofs.Ytbaaamdljojknaa

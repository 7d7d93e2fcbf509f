/- The law, walked: by what its function computes. -/
import Derived.Test.YtbennpandomacaaGreatFrame
import Derived.Test.YtbennpandomacaaGreatTw
import Derived.Test.YtbennpandomacaaGreatP23o
namespace Go.Proofs.YtbennpandomacaaGreat
open Go.RowKit
set_option linter.unusedVariables false
set_option linter.unnecessarySimpa false
set_option linter.unusedSimpArgs false
set_option maxRecDepth 20000
theorem FlowOrders_walk {H : Type} (enc : TypeId × Value → H) (W : World) (base : Nat) {v0 : Value} {d0 : DataW H} {p0 : List MemPlace}
    (h0 : DataW.Trod enc Tryz.prog W 0 (fun _ => true) true 30 v0 d0 p0)
    (o0 : Value.okWide Tryz.prog W .any base 30 v0)
    (w0 : (d0.weights Tryz.prog 30).all (· ≤ reachBytes) = true) :
    Calls Tryz.prog 4 #[v0] W fun e W' => e = .returned (.bool true) ∧ Below W.heap.size W W' := by
  obtain ⟨xa, i0, k0⟩ := Tp.arg (.cons (.int .i64) (.cons (.int .i64) (.cons (.sl (.cons (.int .i64) (.one (.int .i64)))) (.cons (.sl (.one (.sl (.cons (.int .i64) (.one .bool))))) (.cons (.one (.sl (.cons (.int .i64) (.one .bool)))) (.cons (.sl (.cons (.int .i64) (.cons (.sl (.cons (.int .i64) (.one (.int .i64)))) (.cons (.sl (.one (.sl (.cons (.int .i64) (.one .bool))))) (.one (.one (.sl (.cons (.int .i64) (.one .bool))))))))) (.one (.sl (.cons (.sl (.cons (.int .i64) (.cons (.int .i64) (.cons (.int .i64) (.cons (.int .i64) (.one .bool)))))) (.one (.cons (.int .i64) (.cons (.int .i64) (.cons (.int .i64) (.cons (.sl (.int .i64)) (.cons (.sl (.int .i64)) (.one (.sl (.int .i64)))))))))))))))))) (by kernel_rfl) o0 h0
  have q0 := Tp.argFit (.cons (.int .i64) (.cons (.int .i64) (.cons (.sl (.cons (.int .i64) (.one (.int .i64)))) (.cons (.sl (.one (.sl (.cons (.int .i64) (.one .bool))))) (.cons (.one (.sl (.cons (.int .i64) (.one .bool)))) (.cons (.sl (.cons (.int .i64) (.cons (.sl (.cons (.int .i64) (.one (.int .i64)))) (.cons (.sl (.one (.sl (.cons (.int .i64) (.one .bool))))) (.one (.one (.sl (.cons (.int .i64) (.one .bool))))))))) (.one (.sl (.cons (.sl (.cons (.int .i64) (.cons (.int .i64) (.cons (.int .i64) (.cons (.int .i64) (.one .bool)))))) (.one (.cons (.int .i64) (.cons (.int .i64) (.cons (.int .i64) (.cons (.sl (.int .i64)) (.cons (.sl (.int .i64)) (.one (.sl (.int .i64)))))))))))))))))) (r := .any) (b := base) (by kernel_rfl) (by kernel_rfl) h0 i0 w0
  obtain ⟨_, rfl, j0⟩ := IsV.cons_eq i0
  obtain ⟨_, _, rfl, _, a0_0, b0_0⟩ := Is.cons_eq j0
  obtain rfl := Is.int_eq a0_0
  obtain ⟨_, _, rfl, _, a0_1, b0_1⟩ := Is.cons_eq b0_0
  obtain rfl := Is.int_eq a0_1
  obtain ⟨_, _, rfl, _, a0_2, b0_2⟩ := Is.cons_eq b0_1
  obtain ⟨_, _, rfl, f0_2⟩ := Is.sl_eq a0_2
  obtain ⟨_, _, rfl, _, a0_3, b0_3⟩ := Is.cons_eq b0_2
  obtain ⟨_, _, rfl, f0_3⟩ := Is.sl_eq a0_3
  obtain ⟨_, _, rfl, _, a0_4, b0_4⟩ := Is.cons_eq b0_3
  obtain ⟨_, _, rfl, f0_4_0⟩ := Is.sl_eq (Is.one_eq a0_4)
  obtain ⟨_, _, rfl, _, a0_5, b0_5⟩ := Is.cons_eq b0_4
  obtain ⟨_, _, rfl, f0_5⟩ := Is.sl_eq a0_5
  obtain ⟨_, _, rfl, f0_6⟩ := Is.sl_eq (Is.one_eq b0_5)
  refine (law23_FlowOrders_ok (K := Hp.of W) f0_2 f0_3 f0_4_0 f0_5 f0_6 (FlowOrders_true xa k0 q0) (En.of W) W [] (Sep.start W)).mono fun e W' h => ?_
  obtain ⟨v, K', L', rfl, ⟨⟨_, rfl, rfl, _⟩, hK⟩, h1, h2⟩ := h
  exact ⟨rfl, h2.below h1⟩
end Go.Proofs.YtbennpandomacaaGreat

/- The law, walked: by what its function computes. -/
import Derived.Test.YtgeofnfjgjodgaaFrame
import Derived.Test.YtgeofnfjgjodgaaS19
namespace Go.Proofs.Ytgeofnfjgjodgaa
open Go.RowKit
set_option linter.unusedVariables false
set_option linter.unnecessarySimpa false
set_option linter.unusedSimpArgs false
set_option maxRecDepth 20000
theorem TermNeeds_walk {H : Type} (enc : TypeId × Value → H) (W : World) (base : Nat) {v0 v1 : Value} {d0 d1 : DataW H} {p0 p1 : List MemPlace}
    (h0 : DataW.Trod enc Try.prog W 0 (fun _ => true) true 24 v0 d0 p0) (h1 : DataW.Trod enc Try.prog W 0 (fun _ => true) true 31 v1 d1 p1)
    (o0 : Value.okWide Try.prog W .any base 24 v0) (o1 : Value.okWide Try.prog W .any base 31 v1) :
    Calls Try.prog 3 #[v0, v1] W fun e W' => e = .returned (.bool true) ∧ Below W.heap.size W W' := by
  obtain ⟨xa, i0, k0⟩ := Tp.arg (.cons (.int .i64) (.cons (.int .i64) (.cons (.int .i64) (.cons (.sl (.int .i64)) (.cons (.sl (.int .i64)) (.one (.sl (.int .i64)))))))) (by kernel_rfl) o0 h0
  obtain ⟨_, rfl, j0⟩ := IsV.cons_eq i0
  obtain ⟨_, _, rfl, _, a0_0, b0_0⟩ := Is.cons_eq j0
  obtain rfl := Is.int_eq a0_0
  obtain ⟨_, _, rfl, _, a0_1, b0_1⟩ := Is.cons_eq b0_0
  obtain rfl := Is.int_eq a0_1
  obtain ⟨_, _, rfl, _, a0_2, b0_2⟩ := Is.cons_eq b0_1
  obtain rfl := Is.int_eq a0_2
  obtain ⟨_, _, rfl, _, a0_3, b0_3⟩ := Is.cons_eq b0_2
  obtain ⟨_, _, rfl, f0_3⟩ := Is.sl_eq a0_3
  obtain ⟨_, _, rfl, _, a0_4, b0_4⟩ := Is.cons_eq b0_3
  obtain ⟨_, _, rfl, f0_4⟩ := Is.sl_eq a0_4
  obtain ⟨_, _, rfl, f0_5⟩ := Is.sl_eq (Is.one_eq b0_4)
  obtain ⟨xb, i1, k1⟩ := Tp.arg (.cons (.int .i64) (.cons (.int .i64) (.cons (.sl (.one (.sl (.cons (.int .i64) (.one .bool))))) (.cons (.one (.sl (.cons (.int .i64) (.one .bool)))) (.one (.sl (.cons (.int .i64) (.cons (.sl (.cons (.int .i64) (.one (.int .i64)))) (.cons (.sl (.one (.sl (.cons (.int .i64) (.one .bool))))) (.one (.one (.sl (.cons (.int .i64) (.one .bool)))))))))))))) (by kernel_rfl) o1 h1
  obtain ⟨_, rfl, j1⟩ := IsV.cons_eq i1
  obtain ⟨_, _, rfl, _, a1_0, b1_0⟩ := Is.cons_eq j1
  obtain rfl := Is.int_eq a1_0
  obtain ⟨_, _, rfl, _, a1_1, b1_1⟩ := Is.cons_eq b1_0
  obtain rfl := Is.int_eq a1_1
  obtain ⟨_, _, rfl, _, a1_2, b1_2⟩ := Is.cons_eq b1_1
  obtain ⟨_, _, rfl, f1_2⟩ := Is.sl_eq a1_2
  obtain ⟨_, _, rfl, _, a1_3, b1_3⟩ := Is.cons_eq b1_2
  obtain ⟨_, _, rfl, f1_3_0⟩ := Is.sl_eq (Is.one_eq a1_3)
  obtain ⟨_, _, rfl, f1_4⟩ := Is.sl_eq (Is.one_eq b1_3)
  refine (law19_TermNeeds_ok (K := Hp.of W) f0_3 f0_4 f0_5 f1_2 f1_3_0 f1_4 (TermNeeds_true xa xb k0 k1) (En.of W) W [] (Sep.start W)).mono fun e W' h => ?_
  obtain ⟨v, K', L', rfl, ⟨⟨_, rfl, rfl, _⟩, hK⟩, h1, h2⟩ := h
  exact ⟨rfl, h2.below h1⟩
end Go.Proofs.Ytgeofnfjgjodgaa

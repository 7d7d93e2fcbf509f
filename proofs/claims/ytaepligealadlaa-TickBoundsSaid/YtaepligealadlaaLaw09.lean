/- Layer 9's laws, walked. -/
import Derived.Test.YtaepligealadlaaFrame
import Derived.Test.YtaepligealadlaaTick
namespace Go.Proofs.Ytaepligealadlaa
open Go.RowKit
set_option linter.unusedVariables false
theorem Tk.solver_mono {a b c x y z : Int} (h1 : 0 ≤ a) (h2 : 0 ≤ b) (h3 : 0 ≤ c) (h4 : a ≤ x) (h5 : b ≤ y) (h6 : c ≤ z) : Tk.solver a b c ≤ Tk.solver x y z := by
  unfold Tk.solver
  rw [if_neg (by omega), if_neg (by omega)]
  have q1 := Tk.plus_bd a b (by omega) (by omega)
  have q2 := Tk.plus_bd c a (by omega) (by omega)
  have q3 := Tk.plus_bd _ 1 q2.1 (by omega)
  have q4 := Tk.times_bd 64 _ (by omega) q1.1
  exact Tk.times_mono _ _ _ _ q4.1 q3.1 (Tk.times_mono _ _ _ _ (by omega) q1.1 (by omega) (Tk.plus_mono _ _ _ _ h4 h5)) (Tk.plus_mono _ _ _ _ (Tk.plus_mono _ _ _ _ h6 h4) (by omega))
theorem Tk.cubic_mono {n m : Int} (h : n ≤ m) : Tk.cubic n ≤ Tk.cubic m := by
  unfold Tk.cubic
  by_cases h0 : n < 0
  · rw [if_pos h0]
    split
    · omega
    · have p1 := Tk.plus_bd m 1 (by omega) (by omega)
      have p2 := Tk.times_bd 64 (Tk.plus m 1) (by omega) p1.1
      have p3 := Tk.times_bd _ (Tk.plus m 1) p2.1 p1.1
      exact (Tk.times_bd _ _ p3.1 p1.1).1
  · rw [if_neg h0, if_neg (by omega)]
    have p1 := Tk.plus_bd n 1 (by omega) (by omega)
    have p2 := Tk.times_bd 64 (Tk.plus n 1) (by omega) p1.1
    have p3 := Tk.times_bd _ (Tk.plus n 1) p2.1 p1.1
    have hp := Tk.plus_mono n 1 m 1 h (by omega)
    exact Tk.times_mono _ _ _ _ p3.1 p1.1 (Tk.times_mono _ _ _ _ p2.1 p1.1 (Tk.times_mono _ _ _ _ (by omega) p1.1 (by omega) hp) hp) hp
theorem awake09 (w : World) : Calls Try.prog 5 #[] w fun e w' => e = .returned (.bool true) ∧ Fr [] w w' := by
  have h1 : Tk.cubic 1 = 512 := by decide
  have h2 : Tk.solver 2 3 4 = 2240 := by decide
  go_enter Try.func5, Try.ntmps5
  go_wp2_with fail
  refine (Add_any w.heap.size [0, 0, 0, 0, 0, 0, 0] 26 4 5 _ rfl (by omega) (by omega) (by omega) (by omega) (by simp) ?_).mono ?_
  · exact (MapKept.heap_alloc w _).1
  rintro e w1 ⟨rfl, hf, hb⟩
  have e5 : ([0, 0, 0, 0, 0, 0, 0] : List Int).set (4 : Int).toNat (Tk.plus (([0, 0, 0, 0, 0, 0, 0] : List Int).getD (4 : Int).toNat 0) 5) = [0, 0, 0, 0, 5, 0, 0] := by decide
  rw [e5] at hb
  have HF := Lib.hid hf
  have HB := Lib.hid hb
  clear hf hb e5
  go_wp2_with (first | (go_at_call 12; refine (Cubic_any _ _ ⟨by omega, by omega⟩).mono ?_; rintro e w' ⟨rfl, rfl⟩) | (go_at_call 11; refine (Solver_any _ _ _ _ ⟨by omega, by omega⟩ ⟨by omega, by omega⟩ ⟨by omega, by omega⟩).mono ?_; rintro e w' ⟨rfl, rfl⟩) | (go_at_call 10; refine (Of_any _ _ _ _ _ (by simp) HB.out).mono ?_; rintro e w' ⟨rfl, rfl⟩))
  go_ret
  exact ⟨rfl, ((Fr.refl [] w).alloc _).fresh HF.out (by simp)⟩
set_option maxHeartbeats 1000000 in
theorem TickBounds_core (n m a0 a1 a2 b0 b1 b2 : Int) (w : World) (hn : In64 n) (hm : In64 m) (k0 : In64 a0) (k1 : In64 a1) (k2 : In64 a2) (l0 : In64 b0) (l1 : In64 b1) (l2 : In64 b2) :
    Calls Try.prog 4 #[.int .i64 n, .int .i64 m, .agg #[.int .i64 a0, .int .i64 a1, .int .i64 a2], .agg #[.int .i64 b0, .int .i64 b1, .int .i64 b2]] w
      fun e w' => e = .returned (.bool true) ∧ Fr [] w w' := by
  have CC : Hid (n ≤ m → Tk.cubic n ≤ Tk.cubic m) := Lib.hid Tk.cubic_mono
  have SS := Lib.hid (@Tk.solver_mono a0 a1 a2 b0 b1 b2)
  go_enter Try.func4, Try.ntmps4
  go_wp2_with fail
  go_quiet ((go_at_call 11; exact quiet (Solver_any _ _ _ _ (by assumption) (by assumption) (by assumption))))
  have A := Lib.hid awake09
  go_wp2_with (first | (go_at_call 12; refine (Cubic_any _ _ (by assumption)).mono ?_; rintro e w' ⟨rfl, rfl⟩) | (go_at_call 13; refine (refCubic_any _ _ (by assumption)).mono ?_; rintro e w' ⟨rfl, rfl⟩) | (go_at_call 14; refine (refSolver_any _ _ _ _ (by assumption) (by assumption) (by assumption)).mono ?_; rintro e w' ⟨rfl, rfl⟩) | (go_at_call 5; refine (awake09 _).mono ?_; rintro e w' ⟨rfl, hf⟩; have HF := Lib.hid hf; clear hf))
  all_goals go_ret
  all_goals refine ⟨ret_bool ?_, ?_⟩
  all_goals try (first | exact ((((Fr.refl [] w).alloc _).alloc _).drewN _) | exact (((((Fr.refl [] w).alloc _).alloc _).drewN _).trans HF.out))
  all_goals (have S := SS.out; have C := CC.out; simp; try omega)
theorem TickBounds_walk {H : Type} (enc : TypeId × Value → H) (W : World) (base : Nat) {v0 v1 v2 v3 : Value} {d0 d1 d2 d3 : DataW H} {p0 p1 p2 p3 : List MemPlace}
    (h0 : DataW.Trod enc Try.prog W 0 (fun _ => true) true 3 v0 d0 p0) (h1 : DataW.Trod enc Try.prog W 0 (fun _ => true) true 3 v1 d1 p1)
    (h2 : DataW.Trod enc Try.prog W 0 (fun _ => true) true 36 v2 d2 p2) (h3 : DataW.Trod enc Try.prog W 0 (fun _ => true) true 36 v3 d3 p3)
    (o0 : Value.okWide Try.prog W .any base 3 v0) (o1 : Value.okWide Try.prog W .any base 3 v1) (o2 : Value.okWide Try.prog W .any base 36 v2) (o3 : Value.okWide Try.prog W .any base 36 v3) :
    Calls Try.prog 4 #[v0, v1, v2, v3] W fun e W' => e = .returned (.bool true) ∧ Below W.heap.size W W' := by
  obtain ⟨n, rfl, hn⟩ := arg_int Try.underlying3 o0 h0
  obtain ⟨m, rfl, hm⟩ := arg_int Try.underlying3 o1 h1
  obtain ⟨a0, a1, a2, rfl, k0, k1, k2⟩ := arg_arr3 Try.underlying36 Try.underlying3 (by kernel_rfl) (by kernel_rfl) o2 h2
  obtain ⟨b0, b1, b2, rfl, l0, l1, l2⟩ := arg_arr3 Try.underlying36 Try.underlying3 (by kernel_rfl) (by kernel_rfl) o3 h3
  exact (TickBounds_core n m a0 a1 a2 b0 b1 b2 W hn hm k0 k1 k2 l0 l1 l2).mono fun e W' h => ⟨h.1, h.2.below⟩
end Go.Proofs.Ytaepligealadlaa

/- Layer 20's law of bytes taken. -/
import Derived.Test.YtmdmdmaekjpfjaaGreatA20
import Derived.Test.YtmdmdmaekjpfjaaGreatTw
namespace Go.Proofs.YtmdmdmaekjpfjaaGreat
open Go.RowKit Lb
set_option linter.unusedVariables false
set_option linter.unnecessarySimpa false
set_option linter.unusedSimpArgs false
theorem ofC (c : Int) : fn_tick_Counter_Of_p0c0_iiiiiii c 0 0 0 0 0 0 = some c := rfl
theorem totalC {c : Int} (h0 : 0 ≤ c) (h1 : c ≤ 1000000) : fn_tick_Counter_Total_p0_iiiiiii c 0 0 0 0 0 0 = some c := by
  have s1 : fn_tick_sum 0 c = some c := by
    unfold fn_tick_sum
    rw [w64 (x := 9223372036854775807 - c) (by omega) (by omega), decide_eq_false (show ¬ (9223372036854775807 - c < 0) by omega), cond_false, w64 (by omega) (by omega), Int.zero_add]
  have s2 : fn_tick_sum c 0 = some c := by
    unfold fn_tick_sum
    rw [w64 (x := 9223372036854775807 - 0) (by omega) (by omega), decide_eq_false (show ¬ (9223372036854775807 - 0 < c) by omega), cond_false, w64 (by omega) (by omega), Int.add_zero]
  unfold fn_tick_Counter_Total_p0_iiiiiii
  rw [ofC]
  have z1 : fn_tick_Counter_Of_p0c1_iiiiiii c 0 0 0 0 0 0 = some 0 := rfl
  have z2 : fn_tick_Counter_Of_p0c2_iiiiiii c 0 0 0 0 0 0 = some 0 := rfl
  have z3 : fn_tick_Counter_Of_p0c3_iiiiiii c 0 0 0 0 0 0 = some 0 := rfl
  have z4 : fn_tick_Counter_Of_p0c4_iiiiiii c 0 0 0 0 0 0 = some 0 := rfl
  have z5 : fn_tick_Counter_Of_p0c5_iiiiiii c 0 0 0 0 0 0 = some 0 := rfl
  have z6 : fn_tick_Counter_Of_p0c6_iiiiiii c 0 0 0 0 0 0 = some 0 := rfl
  simp only [Option.bind_some, s1, s2, z1, z2, z3, z4, z5, z6]
theorem BodyTakes_true (xa : (List UInt8)) (k0 : Tp.Ok .str xa) (q0 : Tp.Fit .str xa) : fn_law20_BodyTakes xa = some true := by
  unfold fn_law20_BodyTakes
  rw [awake20]
  by_cases hl : 500 < xa.length
  · rw [decide_eq_true (show (500 : Int) < ((xa.length : Nat) : Int) by omega)]; rfl
  · rw [decide_eq_false (show ¬ (500 : Int) < ((xa.length : Nat) : Int) by omega), cond_false]
    obtain ⟨c, c1, c2, hc⟩ := takeC_eq xa (by omega)
    rw [hc, refTake20_eq xa (by omega)]
    have hz := Sz.tk (s := xa)
    generalize tk xa = t at *
    obtain ⟨b, e⟩ := t
    dsimp only at *
    simp only [Option.bind_some]
    rw [show fn_ref20_Same (b.1, b.2.1, b.2.2.1, b.2.2.2.1, b.2.2.2.2.1, b.2.2.2.2.2.1, b.2.2.2.2.2.2) (b.1, b.2.1, b.2.2.1, b.2.2.2.1, b.2.2.2.2.1, b.2.2.2.2.2.1, b.2.2.2.2.2.2) = _ from refSame20_eq b b hz,
      show fn_body_Same (b.1, b.2.1, b.2.2.1, b.2.2.2.1, b.2.2.2.2.1, b.2.2.2.2.2.1, b.2.2.2.2.2.2) (b.1, b.2.1, b.2.2.1, b.2.2.2.1, b.2.2.2.2.1, b.2.2.2.2.2.1, b.2.2.2.2.2.2) = _ from bodySame_eq b b hz]
    simp only [decide_true, Bool.not_true, Bool.or_self, cond_false, Option.bind_some, ofC, totalC (show 0 ≤ (c : Int) by omega) (show (c : Int) ≤ 1000000 by omega)]
    rw [w64 (by omega) (by omega), decide_eq_false (show ¬ (((xa.length : Nat) : Int) + 1 < (c : Int)) by omega)]
    by_cases he : e = 0
    · have := c2 he
      rw [decide_eq_true (show (0 : Int) < (c : Int) by omega), decide_eq_true he]; rfl
    · rw [decide_eq_false he]; rfl
end Go.Proofs.YtmdmdmaekjpfjaaGreat

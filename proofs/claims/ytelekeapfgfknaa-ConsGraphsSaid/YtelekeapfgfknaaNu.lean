/- What layer 1's functions compute (numbers as texts), in plain words. -/
import Derived.Test.YtelekeapfgfknaaF5
import Derived.Test.YtelekeapfgfknaaNm
import Derived.Test.YtelekeapfgfknaaQ01
namespace Go.Proofs.Ytelekeapfgfknaa
open Go.RowKit Nu
set_option linter.unusedVariables false
set_option linter.unnecessarySimpa false
set_option linter.unusedSimpArgs false
theorem u8_48 {d : Nat} (h : d < 10) : IntKind.wrap .u8 (IntKind.wrap .i64 (48 + (d : Int))) = ((48 + d : Nat) : Int) := by
  rw [w64 (by omega) (by omega)]
  have e : IntKind.wrap .u8 (48 + (d : Int)) = (48 + (d : Int)) % 256 := IntKind.wrap_u8' _
  rw [e, Int.emod_eq_of_lt (by omega) (by omega)]; omega
theorem nText_key : ∀ (k n a : Nat) (l : List Int), n < 10 ^ (k + 1) → n ≤ 9223372036854775807 → k < a → a ≤ 20 → l.length = 20 → loop fn_numeral_Text_l1 ((n : Int), l, (a : Int)) = some (dec n ++ toU8 (l.drop a)) := by
  intro k
  induction k with
  | zero =>
    intro n a l hn hb ha ha2 hl
    have h10 : n < 10 := by simpa using hn
    have e0 : IntKind.wrap .i64 ((a : Int) - 1) = ((a - 1 : Nat) : Int) := by rw [w64 (by omega) (by omega)]; omega
    have e1 : Int.tmod (n : Int) 10 = (n : Int) := by rw [Int.tmod_eq_emod_of_nonneg (by omega)]; omega
    have e2 : Int.tdiv (n : Int) 10 = 0 := by rw [Int.tdiv_eq_ediv_of_nonneg (by omega)]; omega
    refine loop_end ?_
    unfold fn_numeral_Text_l1
    have hs : subL (l.set (a - 1) ((48 + n : Nat) : Int)) ((a - 1 : Nat) : Int) (((20 : Nat) : Int)) = some (((48 + n : Nat) : Int) :: l.drop a) := by
      rw [subL_eq (by omega) (by omega) (by rw [List.length_set, hl]; omega)]
      simp only [Int.toNat_natCast]
      rw [List.take_of_length_le (by rw [List.length_set, hl]; omega), List.drop_eq_getElem_cons (by rw [List.length_set]; omega), List.getElem_set_self, List.drop_set_of_lt (by omega), show a - 1 + 1 = a by omega]
    simp only [e0, getN (show a - 1 < l.length by omega), Option.bind_some, e1, u8_48 h10, e2, Int.toNat_natCast, show IntKind.wrap .i64 0 = 0 from rfl, decide_true, cond_true, hs]
    rw [dec_lt h10]
    simp only [toU8, List.map_cons, Int.toNat_natCast]; rfl
  | succ k ih =>
    intro n a l hn hb ha ha2 hl
    by_cases h10 : n < 10
    · have e0 : IntKind.wrap .i64 ((a : Int) - 1) = ((a - 1 : Nat) : Int) := by rw [w64 (by omega) (by omega)]; omega
      have e1 : Int.tmod (n : Int) 10 = (n : Int) := by rw [Int.tmod_eq_emod_of_nonneg (by omega)]; omega
      have e2 : Int.tdiv (n : Int) 10 = 0 := by rw [Int.tdiv_eq_ediv_of_nonneg (by omega)]; omega
      refine loop_end ?_
      unfold fn_numeral_Text_l1
      have hs : subL (l.set (a - 1) ((48 + n : Nat) : Int)) ((a - 1 : Nat) : Int) (((20 : Nat) : Int)) = some (((48 + n : Nat) : Int) :: l.drop a) := by
        rw [subL_eq (by omega) (by omega) (by rw [List.length_set, hl]; omega)]
        simp only [Int.toNat_natCast]
        rw [List.take_of_length_le (by rw [List.length_set, hl]; omega), List.drop_eq_getElem_cons (by rw [List.length_set]; omega), List.getElem_set_self, List.drop_set_of_lt (by omega), show a - 1 + 1 = a by omega]
      simp only [e0, getN (show a - 1 < l.length by omega), Option.bind_some, e1, u8_48 h10, e2, Int.toNat_natCast, show IntKind.wrap .i64 0 = 0 from rfl, decide_true, cond_true, hs]
      rw [dec_lt h10]
      simp only [toU8, List.map_cons, Int.toNat_natCast]; rfl
    · have e0 : IntKind.wrap .i64 ((a : Int) - 1) = ((a - 1 : Nat) : Int) := by rw [w64 (by omega) (by omega)]; omega
      have e1 : Int.tmod (n : Int) 10 = ((n % 10 : Nat) : Int) := by rw [Int.tmod_eq_emod_of_nonneg (by omega)]; omega
      have e2 : IntKind.wrap .i64 (Int.tdiv (n : Int) 10) = ((n / 10 : Nat) : Int) := by rw [Int.tdiv_eq_ediv_of_nonneg (by omega), w64 (by omega) (by omega)]; omega
      have e3 : decide (((n / 10 : Nat) : Int) = 0) = false := by simp; omega
      rw [loop_next (s' := (((n / 10 : Nat) : Int), l.set (a - 1) ((48 + n % 10 : Nat) : Int), ((a - 1 : Nat) : Int))), ih (n / 10) (a - 1) _ (by rw [Nat.pow_succ] at hn; omega) (by omega) (by omega) (by omega) (by rw [List.length_set, hl])]
      · rw [dec_ge h10, List.drop_eq_getElem_cons (by rw [List.length_set]; omega), List.getElem_set_self, List.drop_set_of_lt (by omega), show a - 1 + 1 = a by omega]
        simp only [toU8, List.map_cons, Int.toNat_natCast, List.append_assoc]; rfl
      · unfold fn_numeral_Text_l1
        simp only [e0, getN (show a - 1 < l.length by omega), Option.bind_some, e1, u8_48 (show n % 10 < 10 by omega), e2, e3, Int.toNat_natCast, cond_false]
theorem nText_eq (n : Int) (h : n ≤ 9223372036854775807) : fn_numeral_Text n = some (text n) := by
  unfold fn_numeral_Text text
  by_cases h0 : n < 0
  · simp [h0]
  · obtain ⟨m, rfl⟩ := Int.eq_ofNat_of_zero_le (show 0 ≤ n by omega)
    rw [if_neg h0, decide_eq_false h0, cond_false]
    have := nText_key 18 m 20 [0, 0, 0, 0, 0, 0, 0, 0, 0, 0, 0, 0, 0, 0, 0, 0, 0, 0, 0, 0] (by omega) (by omega) (by omega) (by omega) rfl
    rw [show ((20 : Nat) : Int) = 20 from rfl] at this
    rw [this]
    simp [toU8]
def pair (b : Int × Int) : List UInt8 := if b.1 < 0 ∨ b.2 < 0 then [] else text b.1 ++ 58 :: text b.2
theorem nPair_eq (b : Int × Int) (h1 : b.1 ≤ 9223372036854775807) (h2 : b.2 ≤ 9223372036854775807) : fn_numeral_Pair b = some (pair b) := by
  unfold fn_numeral_Pair pair
  by_cases h : b.1 < 0 ∨ b.2 < 0
  · rw [if_pos h]
    have : (decide (b.1 < 0) || decide (b.2 < 0)) = true := by simpa using h
    rw [this]; rfl
  · rw [if_neg h]
    have : (decide (b.1 < 0) || decide (b.2 < 0)) = false := by simp; omega
    have l1 := text_len h1; have l2 := text_len h2
    rw [this, cond_false, nText_eq _ h1, nText_eq _ h2]
    simp only [Option.bind_some]
    rw [app_eq (by simp; omega)]
    simp only [Option.bind_some]
    rw [app_eq (by simp; omega)]
    simp
end Go.Proofs.Ytelekeapfgfknaa

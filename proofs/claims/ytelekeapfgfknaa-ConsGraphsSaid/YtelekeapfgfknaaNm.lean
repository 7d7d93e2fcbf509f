/- Numbers as decimal texts, and texts in pieces: plain mathematics. -/
import Derived.Test.YtelekeapfgfknaaPv
import Derived.Lib.SplitLaws
import Derived.Lib.IndexMore
import Derived.Lib.Join
namespace Go.Proofs.Ytelekeapfgfknaa
namespace Nu
set_option linter.unusedVariables false
set_option linter.unnecessarySimpa false
set_option linter.unusedSimpArgs false
def ch (d : Nat) : UInt8 := UInt8.ofNat (48 + d)
def dec (n : Nat) : List UInt8 := if h : n < 10 then [ch n] else dec (n / 10) ++ [ch (n % 10)]
termination_by n
theorem dec_lt {n : Nat} (h : n < 10) : dec n = [ch n] := by rw [dec, dif_pos h]
theorem dec_ge {n : Nat} (h : ¬ n < 10) : dec n = dec (n / 10) ++ [ch (n % 10)] := by rw [dec, dif_neg h]
def text (n : Int) : List UInt8 := if n < 0 then [] else dec n.toNat
def isDig (c : UInt8) : Bool := decide (48 ≤ c.toNat) && decide (c.toNat ≤ 57)
def dig (c : UInt8) : Nat := c.toNat - 48
def val (s : List UInt8) : Nat := s.foldl (fun a c => a * 10 + dig c) 0
def isNum (s : List UInt8) : Bool := s.all isDig && (decide (s.length = 1) || (decide (1 < s.length) && !decide (s.head? = some 48)))
def parse (s : List UInt8) (most : Int) : Int × Int := if isNum s = true then (if most < (val s : Int) then (0, 5) else ((val s : Int), 0)) else (0, 3)
theorem dec_len : ∀ (k n : Nat), n < 10 ^ (k + 1) → (dec n).length ≤ k + 1 := by
  intro k
  induction k with
  | zero => intro n h; rw [dec_lt (by simpa using h)]; simp
  | succ k ih =>
    intro n h
    by_cases hn : n < 10
    · rw [dec_lt hn]; simp
    · rw [dec_ge hn, List.length_append]
      have := ih (n / 10) (by rw [Nat.pow_succ] at h; omega)
      simp; omega
theorem text_len {n : Int} (h : n ≤ 9223372036854775807) : (text n).length ≤ 19 := by
  unfold text; split
  · simp
  · exact dec_len 18 _ (by omega)
/-! ### Where a byte is met first. -/
/-! ### Texts in pieces. -/
def hd (b : UInt8) : List (List UInt8) → List (List UInt8)
  | p :: ps => (b :: p) :: ps
  | [] => [[b]]
def pieces (c : UInt8) : List UInt8 → List (List UInt8)
  | [] => [[]]
  | b :: l => if b = c then [] :: pieces c l else hd b (pieces c l)
/-- Pieces, put together with the byte between. -/
def glue (c : UInt8) : List (List UInt8) → List UInt8
  | [] => []
  | p :: ps => p ++ ps.flatMap (c :: ·)
theorem glue_cons2 (c : UInt8) (p q : List UInt8) (ps : List (List UInt8)) : glue c (p :: q :: ps) = p ++ c :: glue c (q :: ps) := by simp [glue]
theorem join_glue (c : UInt8) : ∀ (l : List (List UInt8)), Lib.join l [c] = glue c l
  | [] => by simp [Lib.join, glue]
  | [p] => by simp [Lib.join, glue, List.intercalate]
  | p :: q :: ps => by
    have ih := join_glue c (q :: ps)
    rw [glue_cons2, ← ih]
    simp [Lib.join, List.intercalate]
end Nu
end Go.Proofs.Ytelekeapfgfknaa

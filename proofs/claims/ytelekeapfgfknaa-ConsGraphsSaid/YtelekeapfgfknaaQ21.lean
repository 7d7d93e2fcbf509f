/- What is small, and what is well-formed (layers 20, 21), in plain words. -/
import Derived.Test.YtelekeapfgfknaaN19
import Derived.Test.YtelekeapfgfknaaTw
namespace Go.Proofs.Ytelekeapfgfknaa
open Go.RowKit
set_option linter.unusedVariables false
set_option linter.unnecessarySimpa false
set_option linter.unusedSimpArgs false
abbrev Blk := List Stm × Tm
abbrev Bo := Int × Int × List (Int × Int) × List (List St) × List St × List Sg × List Blk
def stm (l : List Blk) : Nat := (l.map (fun x => x.1.length)).sum
structure Sm (b : Bo) : Prop where
  bounds : b.2.2.1.length ≤ 20
  locals : b.2.2.2.1.length ≤ 10
  loc : ∀ t ∈ b.2.2.2.1, t.length ≤ 20
  ret : b.2.2.2.2.1.length ≤ 20
  sigs : b.2.2.2.2.2.1.length ≤ 4
  sig : ∀ s ∈ b.2.2.2.2.2.1, s.2.1.length ≤ 20 ∧ s.2.2.1.length ≤ 20 ∧ s.2.2.2.length ≤ 20 ∧ ∀ t ∈ s.2.2.1, t.length ≤ 20
  blocks : b.2.2.2.2.2.2.length ≤ 8
  term : ∀ x ∈ b.2.2.2.2.2.2, x.2.2.2.2.1.length ≤ 20 ∧ x.2.2.2.2.2.1.length ≤ 20 ∧ x.2.2.2.2.2.2.length ≤ 20
  many : stm b.2.2.2.2.2.2 ≤ 24
theorem sum_mem {α : Type} (f : α → Nat) : ∀ (l : List α) (x : α), x ∈ l → f x ≤ (l.map f).sum
  | [], x, h => by cases h
  | y :: l, x, h => by
    rcases List.mem_cons.1 h with rfl | h
    · simp
    · have := sum_mem f l x h; simp; omega
theorem sum_take {α : Type} (f : α → Nat) (l : List α) (k : Nat) : ((l.take k).map f).sum ≤ (l.map f).sum := by
  have : l.map f = (l.take k).map f ++ (l.drop k).map f := by rw [← List.map_append, List.take_append_drop]
  rw [this, List.sum_append]; omega
theorem Sm.stmts {b : Bo} (h : Sm b) {x : Blk} (hx : x ∈ b.2.2.2.2.2.2) : x.1.length ≤ 24 := by
  have := sum_mem (fun x : Blk => x.1.length) _ x hx
  have := h.many; unfold stm at this; omega
theorem stm_snoc {X : List Blk} {k : Nat} (hk : k < X.length) : stm (X.take (k + 1)) = stm (X.take k) + X[k].1.length := by
  unfold stm; rw [take_snoc hk, List.map_append, List.sum_append]; simp
end Go.Proofs.Ytelekeapfgfknaa

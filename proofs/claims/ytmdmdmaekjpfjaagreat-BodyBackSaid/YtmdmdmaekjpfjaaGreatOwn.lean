import Derived.Test.YtmdmdmaekjpfjaaGreatRead
import Derived.Deep.AppendLies
namespace Go.Proofs.YtmdmdmaekjpfjaaGreat
open Go.RowKit
set_option linter.unusedVariables false
section
variable {α : Type}
/-- A slice that reads as l, each value as the cells that f gives. -/
def Sl (f : α → List Value) (k : Nat) (w : World) (v : Value) (l : List α) : Prop :=
  ∃ ad cap, (v = .slice ad l.length cap) ∧ l.length ≤ cap ∧ cap ≤ 9223372036854775807 ∧ (l.length ≠ 0 → ∃ b o, ad = some ⟨b, o, none⟩ ∧ b < w.heap.size ∧ ∀ i x, l[i]? = some x → ∀ j, j < k → w.cell? ⟨b, o + i * k + j, none⟩ = (f x)[j]?)
theorem Sl.drop {f : α → List Value} {k : Nat} {w : World} {b o : Nat} {n cap : Nat} {l : List α} (h : Sl f k w (.slice (some ⟨b, o, none⟩) n cap) l) (m : Nat) (hm : m ≤ n) : Sl f k w (.slice (some ⟨b, o + m * k, none⟩) (n - m) (cap - m)) (l.drop m) := by
  obtain ⟨ad, cap', h0, h1, h2, hc⟩ := h
  simp only [Value.slice.injEq] at h0
  obtain ⟨rfl, rfl, rfl⟩ := h0
  refine ⟨_, _, by rw [List.length_drop], by rw [List.length_drop]; omega, by omega, fun h0 => ?_⟩
  rw [List.length_drop] at h0
  obtain ⟨b', o', e, hb, hc⟩ := hc (by omega)
  simp at e
  obtain ⟨rfl, rfl⟩ := e
  refine ⟨b, _, rfl, hb, fun i x hx j hj => ?_⟩
  rw [List.getElem?_drop] at hx
  have := hc (m + i) x hx j hj
  rw [Nat.add_mul] at this
  rw [← this]
  congr 2
  omega
theorem Sl.take {f : α → List Value} {k : Nat} {w : World} {ad : Option Addr} {n cap : Nat} {l : List α} (h : Sl f k w (.slice ad n cap) l) (m c : Nat) (hm : m ≤ n) (hc : m ≤ c) (hc' : c ≤ 9223372036854775807) : Sl f k w (.slice ad m c) (l.take m) := by
  obtain ⟨ad', cap', h0, h1, h2, hc⟩ := h
  simp only [Value.slice.injEq] at h0
  obtain ⟨rfl, rfl, rfl⟩ := h0
  refine ⟨_, _, by rw [List.length_take, Nat.min_eq_left hm], by rw [List.length_take]; omega, hc', fun h0 => ?_⟩
  rw [List.length_take] at h0
  obtain ⟨b, o, rfl, hb, hc⟩ := hc (by omega)
  exact ⟨b, o, rfl, hb, fun i x hx j hj => hc i x (by rw [List.getElem?_take] at hx; split at hx <;> simp_all) j hj⟩
end
end Go.Proofs.YtmdmdmaekjpfjaaGreat

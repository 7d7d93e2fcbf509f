/- Slices of values of k cells each: those that are read, and those that a call has made itself. Nothing of the program is here. -/
import Derived.Test.YtbennpandomacaaGreatRead
import Derived.Deep.AppendLies
namespace Go.Proofs.YtbennpandomacaaGreat
open Go.RowKit
set_option linter.unusedVariables false
section
variable {α : Type}
/-- A slice that reads as l, each value as the cells that f gives. -/
def Sl (f : α → List Value) (k : Nat) (w : World) (v : Value) (l : List α) : Prop :=
  ∃ ad cap, (v = .slice ad l.length cap) ∧ l.length ≤ cap ∧ cap ≤ 9223372036854775807 ∧ (l.length ≠ 0 → ∃ b o, ad = some ⟨b, o, none⟩ ∧ b < w.heap.size ∧ ∀ i x, l[i]? = some x → ∀ j, j < k → w.cell? ⟨b, o + i * k + j, none⟩ = (f x)[j]?)
theorem Sl.nil (f : α → List Value) (k : Nat) (w : World) (cap : Nat) (ad : Option Addr) (h : cap ≤ 9223372036854775807) : Sl f k w (.slice ad 0 cap) [] := ⟨ad, cap, rfl, by simp, h, fun h => absurd rfl h⟩
theorem Sl.keep {f : α → List Value} {k : Nat} {w w' : World} {v : Value} {l : List α} (h : Sl f k w v l) (fr : Fr [] w w') : Sl f k w' v l := by
  obtain ⟨ad, cap, rfl, h1, h2, hc⟩ := h
  refine ⟨ad, cap, rfl, h1, h2, fun h0 => ?_⟩
  obtain ⟨b, o, rfl, hb, hc⟩ := hc h0
  refine ⟨b, o, rfl, Nat.lt_of_lt_of_le hb fr.size, fun i x hx j hj => ?_⟩
  rw [fr.cell (p := ⟨b, _, none⟩) hb (by simp)]
  exact hc i x hx j hj
/-- A slice's shape, and its cells where it has any. -/
theorem Sl.open {f : α → List Value} {k : Nat} {w : World} {v : Value} {l : List α} (h : Sl f k w v l) : ∃ ad cap, v = .slice ad l.length cap ∧ l.length ≤ cap ∧ cap ≤ 9223372036854775807 := by
  obtain ⟨ad, cap, h, h1, h2, _⟩ := h
  exact ⟨ad, cap, h, h1, h2⟩
theorem Sl.at {f : α → List Value} {k : Nat} {w : World} {ad : Option Addr} {n cap : Nat} {l : List α} (h : Sl f k w (.slice ad n cap) l) (i : Nat) (x : α) (hx : l[i]? = some x) :
    ∃ b o, ad = some ⟨b, o, none⟩ ∧ b < w.heap.size ∧ ∀ j, j < k → w.cell? ⟨b, o + i * k + j, none⟩ = (f x)[j]? := by
  obtain ⟨ad', cap', h0, h1, h2, hc⟩ := h
  have hi : i < l.length := (List.getElem?_eq_some_iff.1 hx).1
  simp only [Value.slice.injEq] at h0
  obtain ⟨rfl, rfl, rfl⟩ := h0
  obtain ⟨b, o, rfl, hb, hc⟩ := hc (by omega)
  exact ⟨b, o, rfl, hb, fun j hj => hc i x hx j hj⟩
theorem Sl.drop {f : α → List Value} {k : Nat} {w : World} {b o : Nat} {n cap : Nat} {l : List α} (h : Sl f k w (.slice (some ⟨b, o, none⟩) n cap) l) (m : Nat) (hm : m ≤ n) : Sl f k w (.slice (some ⟨b, o + m * k, none⟩) (n - m) (cap - m)) (l.drop m) := by
  obtain ⟨ad, cap', h0, h1, h2, hc⟩ := h
  simp only [Value.slice.injEq] at h0
  obtain ⟨rfl, rfl, rfl⟩ := h0
  refine ⟨_, _, by rw [List.length_drop], by rw [List.length_drop]; omega, by omega, fun h0 => ?_⟩
  rw [List.length_drop] at h0
  obtain ⟨b', o', e, hb, hc⟩ := hc (by omega)
  simp at e
  obtain ⟨rfl, rfl⟩ := e
  refine ⟨b, _, rfl, hb, fun i x hx j hj => ?_⟩
  rw [List.getElem?_drop] at hx
  have := hc (m + i) x hx j hj
  rw [Nat.add_mul] at this
  rw [← this]
  congr 2
  omega
theorem Sl.tail {f : α → List Value} {k : Nat} {w : World} {b o n cap : Nat} {x : α} {l : List α} (h : Sl f k w (.slice (some ⟨b, o, none⟩) n cap) (x :: l)) : Sl f k w (.slice (some ⟨b, o + k, none⟩) (n - 1) (cap - 1)) l := by
  have hn : 1 ≤ n := by
    obtain ⟨ad, cap', h0, _⟩ := h
    simp only [Value.slice.injEq] at h0
    obtain ⟨_, rfl, _⟩ := h0
    simp
  have := h.drop 1 hn
  simpa using this
theorem Sl.take {f : α → List Value} {k : Nat} {w : World} {ad : Option Addr} {n cap : Nat} {l : List α} (h : Sl f k w (.slice ad n cap) l) (m c : Nat) (hm : m ≤ n) (hc : m ≤ c) (hc' : c ≤ 9223372036854775807) : Sl f k w (.slice ad m c) (l.take m) := by
  obtain ⟨ad', cap', h0, h1, h2, hc⟩ := h
  simp only [Value.slice.injEq] at h0
  obtain ⟨rfl, rfl, rfl⟩ := h0
  refine ⟨_, _, by rw [List.length_take, Nat.min_eq_left hm], by rw [List.length_take]; omega, hc', fun h0 => ?_⟩
  rw [List.length_take] at h0
  obtain ⟨b, o, rfl, hb, hc⟩ := hc (by omega)
  exact ⟨b, o, rfl, hb, fun i x hx j hj => hc i x (by rw [List.getElem?_take] at hx; split at hx <;> simp_all) j hj⟩
/-- A slice that a call has made since block B. -/
def Own (e : TypeId) (f : α → List Value) (k : Nat) (B : Nat) (w : World) (v : Value) (l : List α) : Prop := w.ownsRow B e k v l.length (l.flatMap f) ∧ l.length ≤ 9223372036854775807
theorem flatMap_length (f : α → List Value) (k : Nat) (hf : ∀ x, (f x).length = k) (l : List α) : (l.flatMap f).length = l.length * k := by
  induction l with
  | nil => simp
  | cons a r ih => simp [ih, hf, Nat.add_mul]; omega
theorem flatMap_get (f : α → List Value) (k : Nat) (hf : ∀ x, (f x).length = k) : ∀ (l : List α) (i : Nat) (x : α), l[i]? = some x → ∀ j, j < k → (l.flatMap f)[i * k + j]? = (f x)[j]?
  | [], i, x, h, j, hj => by simp at h
  | a :: r, 0, x, h, j, hj => by
    simp at h; subst h
    rw [List.flatMap_cons, List.getElem?_append_left (by rw [hf]; omega)]; simp
  | a :: r, i + 1, x, h, j, hj => by
    rw [List.flatMap_cons, List.getElem?_append_right (by rw [hf]; rw [Nat.add_mul]; omega), hf]
    have : (i + 1) * k + j - k = i * k + j := by rw [Nat.add_mul]; omega
    rw [this]
    exact flatMap_get f k hf r i x (by simpa using h) j hj
theorem Own.nil (e : TypeId) (f : α → List Value) (k : Nat) (B : Nat) (w : World) : Own e f k B w (.slice none 0 0) [] := ⟨World.ownsRow_nil _ _ _ _, by simp⟩
theorem Own.lit (e : TypeId) (f : α → List Value) (k : Nat) (hf : ∀ x, (f x).length = k) (w : World) (l : List α) (cs : Array Value) (hcs : cs.toList = l.flatMap f) (B : Nat) (hB : B ≤ w.heap.size) (hl : l.length ≤ 9223372036854775807) :
    Own e f k B (w.alloc (.cells cs e)) (.slice (some ⟨w.heap.size, 0, none⟩) l.length l.length) l := by
  have := World.ownsRow_lit (size := k) (base := B) (e := e) w cs l.length hB (by unfold maxLen; omega) (by rw [← Array.length_toList, hcs, flatMap_length f k hf])
  rw [hcs] at this
  exact ⟨this, hl⟩
theorem Own.sl {e : TypeId} {f : α → List Value} {k : Nat} (hf : ∀ x, (f x).length = k) {B : Nat} {w : World} {v : Value} {l : List α} (h : Own e f k B w v l) : Sl f k w v l := by
  obtain ⟨h, hl⟩ := h
  have h' := h
  rcases h.2 with ⟨rfl, h0⟩ | ⟨g, cap, cur, rfl, hb, hg, hn, hm, hs, ht⟩
  · obtain rfl : l = [] := List.length_eq_zero_iff.1 h0
    exact Sl.nil f k w 0 none (by omega)
  · refine ⟨_, cap, rfl, hn, by unfold maxLen at hm; omega, fun h0 => ⟨g, 0, rfl, lt_of_block hg, fun i x hx j hj => ?_⟩⟩
    have hi : i < l.length := (List.getElem?_eq_some_iff.1 hx).1
    have := h'.cellAt (i * k + j) (by
      have : (i + 1) * k ≤ l.length * k := Nat.mul_le_mul_right k (by omega)
      rw [Nat.add_mul] at this; omega)
    rw [Nat.zero_add, this]
    exact flatMap_get f k hf l i x hx j hj
theorem Own.base {e : TypeId} {f : α → List Value} {k B : Nat} {w : World} {v : Value} {l : List α} (h : Own e f k B w v l) : ∀ x, v.ownBlock = some x → B ≤ x ∧ x < w.heap.size := h.1.lt
/-- What others do leaves it alone, unless they write to its block. -/
theorem Own.keep {e : TypeId} {f : α → List Value} {k B : Nat} {w w' : World} {v : Value} {l : List α} {S : List Nat} (h : Own e f k B w v l) (fr : Fr S w w') (hS : ∀ x, v.ownBlock = some x → x ∉ S) : Own e f k B w' v l := by
  obtain ⟨⟨h1, h2⟩, hl⟩ := h
  refine ⟨⟨h1, ?_⟩, hl⟩
  rcases h2 with hn | ⟨g, cap, cur, rfl, hb, hg, rest⟩
  · exact .inl hn
  · exact .inr ⟨g, cap, cur, rfl, hb, fr.keeps hg (hS g rfl), rest⟩
theorem Own.store {e : TypeId} {f : α → List Value} {k B : Nat} {w : World} {v : Value} {l : List α} (h : Own e f k B w v l) (p : Addr) (u : Value) (hp : p.block < B) : Own e f k B (w.setCell p u) v l :=
  h.keep (S := [p.block]) ((Fr.refl _ _).setCell _ (.inl (by simp)) _) (fun x hx => by have := (h.base x hx).1; simp; omega)
theorem Own.drew {e : TypeId} {f : α → List Value} {k B : Nat} {w : World} {v : Value} {l : List α} (h : Own e f k B w v l) : Own e f k B w.drew v l := h
/-- Behind an append. -/
theorem Own.snoc {e : TypeId} {f : α → List Value} {k B : Nat} {w : World} {v : Value} {l m : List α} {n : Nat} (h : w.ownsRow B e k v n (l.flatMap f ++ m.flatMap f)) (hn : n = l.length + m.length) (hl : n ≤ 9223372036854775807) : Own e f k B w v (l ++ m) := by
  subst hn
  exact ⟨by simpa using h, by simpa using hl⟩
/-- Where it lies. -/
theorem Own.place {e : TypeId} {f : α → List Value} {k B : Nat} {w : World} {v : Value} {l : List α} (h : Own e f k B w v l) (hn : l ≠ []) : ∃ g cap, v = .slice (some ⟨g, 0, none⟩) l.length cap ∧ B ≤ g ∧ g < w.heap.size ∧ l.length ≤ cap ∧ cap ≤ 9223372036854775807 := by
  obtain ⟨⟨h1, h2⟩, hl⟩ := h
  rcases h2 with ⟨_, hn'⟩ | ⟨g, cap, cur, rfl, hb, hg, h3, h4, _⟩
  · exact absurd (List.length_eq_zero_iff.1 hn') hn
  · exact ⟨g, cap, rfl, hb, lt_of_block hg, h3, by unfold maxLen at h4; omega⟩
theorem Own.free {e : TypeId} {f : α → List Value} {k B : Nat} {w : World} {g n cap : Nat} {l : List α} (h : Own e f k B w (.slice (some ⟨g, 0, none⟩) n cap) l) (o : Nat) : w.frozen? ⟨g, o, none⟩ = false := by
  obtain ⟨⟨h1, h2⟩, hl⟩ := h
  rcases h2 with ⟨hn, _⟩ | ⟨g', cap', cur, hv, hb, hg, _⟩
  · cases hn
  cases hv
  simp [World.frozen?, hg]
end
end Go.Proofs.YtbennpandomacaaGreat

/- Rows of data that lead on: their cells told; one cell of an element written; a row made shorter. Nothing of the program is here. -/
import Derived.Test.YtbaaamdljojknaaDt
namespace Go.Proofs.Ytbaaamdljojknaa
open Go.RowKit
set_option linter.unusedVariables false
set_option linter.unusedSimpArgs false
set_option linter.unnecessarySimpa false
/-- At a place of cells that are told there lies the datum. -/
def Atx (cs : List Value) (K : Hp) (e : Tp) (o : Nat) (x : e.den) : Prop := ∃ es, es.length = e.size ∧ Is K e es x ∧ ∀ j, j < e.size → cs[o + j]? = es[j]?
section
variable {cs : List Value} {K K' K0 : Hp} {o : Nat}
theorem Atx.mono {e : Tp} {x : e.den} (h : Atx cs K e o x) (f : K.le K') : Atx cs K' e o x := let ⟨es, h1, h2, h3⟩ := h; ⟨es, h1, h2.mono f, h3⟩
theorem Atx.fst {a r : Tp} {x : (Tp.cons a r).den} (h : Atx cs K (.cons a r) o x) : Atx cs K a o x.1 := by
  obtain ⟨es, h1, h2, h3⟩ := h
  simp only [Is] at h2
  obtain ⟨c1, c2, rfl, hl, h4, h5⟩ := h2
  refine ⟨c1, hl, h4, fun j hj => ?_⟩
  rw [h3 j (by simp [Tp.size]; omega), List.getElem?_append_left (by omega)]
theorem Atx.snd {a r : Tp} {x : (Tp.cons a r).den} (h : Atx cs K (.cons a r) o x) : Atx cs K r (o + a.size) x.2 := by
  obtain ⟨es, h1, h2, h3⟩ := h
  simp only [Is] at h2
  obtain ⟨c1, c2, rfl, hl, h4, h5⟩ := h2
  refine ⟨c2, h5.len, h5, fun j hj => ?_⟩
  rw [Nat.add_assoc, h3 (a.size + j) (by simp [Tp.size]; omega), List.getElem?_append_right (by omega)]
  congr 1; omega
theorem Atx.one {a : Tp} {x : (Tp.one a).den} (h : Atx cs K (.one a) o x) : Atx cs K a o x := h
theorem Atx.int {k : IntKind} {x : Int} (h : Atx cs K (.int k) o x) : cs[o]? = some (.int k x) := by
  obtain ⟨es, h1, h2, h3⟩ := h
  simp only [Is] at h2; subst h2
  simpa using h3 0 (by simp [Tp.size])
theorem Atx.bool {x : Bool} (h : Atx cs K .bool o x) : cs[o]? = some (.bool x) := by
  obtain ⟨es, h1, h2, h3⟩ := h
  simp only [Is] at h2; subst h2
  simpa using h3 0 (by decide)
theorem Atx.str {x : List UInt8} (h : Atx cs K .str o x) : cs[o]? = some (.string ⟨x.toArray⟩) := by
  obtain ⟨es, h1, h2, h3⟩ := h
  simp only [Is] at h2; subst h2
  simpa using h3 0 (by decide)
theorem Atx.sl {e : Tp} {x : List e.den} (h : Atx cs K (.sl e) o x) : ∃ ad cap, cs[o]? = some (.slice ad x.length cap) ∧ Is K (.sl e) [.slice ad x.length cap] x := by
  obtain ⟨es, h1, h2, h3⟩ := h
  have h2' := h2
  simp only [Is] at h2
  obtain ⟨ad, cap, rfl, _⟩ := h2
  exact ⟨ad, cap, by simpa using h3 0 (by simp [Tp.size]), h2'⟩
theorem Atx.ptr {e : Tp} {x : Option e.den} (h : Atx cs K (.ptr e) o x) : ∃ v, cs[o]? = some v ∧ Is K (.ptr e) [v] x := by
  obtain ⟨es, h1, h2, h3⟩ := h
  match es, h1 with
  | [v], _ => exact ⟨v, by simpa using h3 0 (by simp [Tp.size]), h2⟩
end
/-- A row whose cells are told. -/
def RowX (K : Hp) (e : TypeId) (t : Tp) (v : Value) (xs : List t.den) (cs : List Value) : Atom := fun h => Els K t cs xs ∧ Rw e t.size v xs.length cs h
theorem RowX.row {K : Hp} {e : TypeId} {t : Tp} {v : Value} {xs : List t.den} {cs : List Value} : ∀ h, RowX K e t v xs cs h → Row K e t v xs h := fun h ⟨h1, h2⟩ => ⟨cs, h1, h2⟩
section
variable {P : Program} {E : En} {n : Nat} {Φ : Post} {ρ : Sl0} {K K0 : Hp} {L R : List Atom} {ops : Array Oper} {e : TypeId} {t : Tp} {v : Value} {xs : List t.den}
end
/-! ### One cell of an element written. -/
section
variable {K : Hp} {v : Value} {q : Nat}
theorem Is.setF {a r : Tp} {x : (Tp.cons a r).den} {y : a.den} (hq : q < a.size) (h : ∀ es, Is K a es x.1 → Is K a (es.set q v) y) : ∀ es, Is K (.cons a r) es x → Is K (.cons a r) (es.set q v) ((y, x.2) : (Tp.cons a r).den) := fun es hs => by
  simp only [Is] at hs ⊢
  obtain ⟨c1, c2, rfl, hl, h4, h5⟩ := hs
  exact ⟨c1.set q v, c2, by rw [List.set_append_left _ _ (by omega)], by simp [hl], h c1 h4, h5⟩
theorem Is.setC {t : Tp} {x y : t.den} (hv : Is K t [v] y) (h1 : t.size = 1) : ∀ es, Is K t es x → Is K t (es.set 0 v) y := fun es hs => by
  have hl := hs.len
  match es, hl with
  | [], hl => rw [h1] at hl; simp at hl
  | [u], _ => exact hv
  | _ :: _ :: _, hl => rw [h1] at hl; simp at hl
end
/-! ### A row made shorter. -/
theorem Els.take {K : Hp} {t : Tp} : ∀ {xs : List t.den} {cs : List Value} (k : Nat), Els K t cs xs → Els K t (cs.take (k * t.size)) (xs.take k)
  | [], cs, k, h => by obtain rfl : cs = [] := h; simp [Els]
  | x :: xs, cs, 0, h => by simp [Els]
  | x :: xs, cs, k + 1, h => by
    obtain ⟨es, r, rfl, h1, h2⟩ := h
    refine ⟨es, r.take (k * t.size), ?_, h1, Els.take k h2⟩
    rw [Nat.succ_mul, Nat.add_comm, ← h1.len, List.take_length_add_append]
theorem Row.two {K : Hp} {e : TypeId} {t : Tp} {ad : Option Addr} {m cp : Nat} {xs : List t.den} : ∀ h, Row K e t (.slice ad m cp) xs h → ((ad = none ∧ cp = 0 ∧ m = 0) ∨ ∃ g, ad = some ⟨g, 0, none⟩) ∧ m ≤ cp ∧ xs.length = m := by
  rintro h ⟨cs, h1, h2, h3⟩
  rcases h3 with ⟨h3, h4, _⟩ | ⟨g, cap, cur, h3, _, h4, h5, _⟩
  · simp only [Value.slice.injEq] at h3
    obtain ⟨rfl, e1, rfl⟩ := h3
    exact ⟨.inl ⟨rfl, rfl, by omega⟩, by omega, e1.symm⟩
  · simp only [Value.slice.injEq] at h3
    obtain ⟨rfl, e1, rfl⟩ := h3
    exact ⟨.inr ⟨g, rfl⟩, by omega, e1.symm⟩
end Go.Proofs.Ytbaaamdljojknaa

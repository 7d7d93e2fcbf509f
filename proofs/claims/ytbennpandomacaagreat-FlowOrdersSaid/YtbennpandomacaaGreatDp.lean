/- Rows of data that lead on: their cells told; one cell of an element written; a row made shorter. Nothing of the program is here. -/
import Derived.Test.YtbennpandomacaaGreatDt
namespace Go.Proofs.YtbennpandomacaaGreat
open Go.RowKit
set_option linter.unusedVariables false
set_option linter.unusedSimpArgs false
set_option linter.unnecessarySimpa false
theorem Is.ptrv {K : Hp} {e : Tp} {v : Value} {x : Option e.den} (h : Is K (.ptr e) [v] x) : ∃ q, v = .pointer q := by
  cases x with
  | none => exact ⟨none, h.ptr0⟩
  | some y => obtain ⟨b, o, rfl, _⟩ := h.ptr; exact ⟨_, rfl⟩
/-- At a place of cells that are told there lies the datum. -/
def Atx (cs : List Value) (K : Hp) (e : Tp) (o : Nat) (x : e.den) : Prop := ∃ es, es.length = e.size ∧ Is K e es x ∧ ∀ j, j < e.size → cs[o + j]? = es[j]?
section
variable {cs : List Value} {K K' K0 : Hp} {o : Nat}
theorem Atx.mono {e : Tp} {x : e.den} (h : Atx cs K e o x) (f : K.le K') : Atx cs K' e o x := let ⟨es, h1, h2, h3⟩ := h; ⟨es, h1, h2.mono f, h3⟩
theorem Atx.fst {a r : Tp} {x : (Tp.cons a r).den} (h : Atx cs K (.cons a r) o x) : Atx cs K a o x.1 := by
  obtain ⟨es, h1, h2, h3⟩ := h
  simp only [Is] at h2
  obtain ⟨c1, c2, rfl, hl, h4, h5⟩ := h2
  refine ⟨c1, hl, h4, fun j hj => ?_⟩
  rw [h3 j (by simp [Tp.size]; omega), List.getElem?_append_left (by omega)]
theorem Atx.snd {a r : Tp} {x : (Tp.cons a r).den} (h : Atx cs K (.cons a r) o x) : Atx cs K r (o + a.size) x.2 := by
  obtain ⟨es, h1, h2, h3⟩ := h
  simp only [Is] at h2
  obtain ⟨c1, c2, rfl, hl, h4, h5⟩ := h2
  refine ⟨c2, h5.len, h5, fun j hj => ?_⟩
  rw [Nat.add_assoc, h3 (a.size + j) (by simp [Tp.size]; omega), List.getElem?_append_right (by omega)]
  congr 1; omega
theorem Atx.one {a : Tp} {x : (Tp.one a).den} (h : Atx cs K (.one a) o x) : Atx cs K a o x := h
theorem Atx.int {k : IntKind} {x : Int} (h : Atx cs K (.int k) o x) : cs[o]? = some (.int k x) := by
  obtain ⟨es, h1, h2, h3⟩ := h
  simp only [Is] at h2; subst h2
  simpa using h3 0 (by simp [Tp.size])
theorem Atx.bool {x : Bool} (h : Atx cs K .bool o x) : cs[o]? = some (.bool x) := by
  obtain ⟨es, h1, h2, h3⟩ := h
  simp only [Is] at h2; subst h2
  simpa using h3 0 (by decide)
theorem Atx.str {x : List UInt8} (h : Atx cs K .str o x) : cs[o]? = some (.string ⟨x.toArray⟩) := by
  obtain ⟨es, h1, h2, h3⟩ := h
  simp only [Is] at h2; subst h2
  simpa using h3 0 (by decide)
theorem Atx.sl {e : Tp} {x : List e.den} (h : Atx cs K (.sl e) o x) : ∃ ad cap, cs[o]? = some (.slice ad x.length cap) ∧ Is K (.sl e) [.slice ad x.length cap] x := by
  obtain ⟨es, h1, h2, h3⟩ := h
  have h2' := h2
  simp only [Is] at h2
  obtain ⟨ad, cap, rfl, _⟩ := h2
  exact ⟨ad, cap, by simpa using h3 0 (by simp [Tp.size]), h2'⟩
theorem Atx.ptr {e : Tp} {x : Option e.den} (h : Atx cs K (.ptr e) o x) : ∃ v, cs[o]? = some v ∧ Is K (.ptr e) [v] x := by
  obtain ⟨es, h1, h2, h3⟩ := h
  match es, h1 with
  | [v], _ => exact ⟨v, by simpa using h3 0 (by simp [Tp.size]), h2⟩
theorem Els.atx {t : Tp} {xs : List t.den} {j : Nat} {x : t.den} (h : Els K t cs xs) (hx : xs[j]? = some x) : Atx cs K t (0 + j * t.size) x := by
  obtain ⟨es, h1, h2, h3⟩ := h.get j x hx
  exact ⟨es, h1, h2, fun q hq => by rw [Nat.zero_add]; exact h3 q hq⟩
end
/-- A row whose cells are told. -/
def RowX (K : Hp) (e : TypeId) (t : Tp) (v : Value) (xs : List t.den) (cs : List Value) : Atom := fun h => Els K t cs xs ∧ Rw e t.size v xs.length cs h
theorem RowX.row {K : Hp} {e : TypeId} {t : Tp} {v : Value} {xs : List t.den} {cs : List Value} : ∀ h, RowX K e t v xs cs h → Row K e t v xs h := fun h ⟨h1, h2⟩ => ⟨cs, h1, h2⟩
section
variable {P : Program} {E : En} {n : Nat} {Φ : Post} {ρ : Sl0} {K K0 : Hp} {L R : List Atom} {ops : Array Oper} {e : TypeId} {t : Tp} {v : Value} {xs : List t.den}
theorem J.openX {l : List Oper} (h : ∀ cs, Els K0 t cs xs → J P E n ops l Φ ρ K (RowX K0 e t v xs cs :: L)) : J P E n ops l Φ ρ K (Row K0 e t v xs :: L) := ⟨fun w hs => by
  obtain ⟨h0, ⟨cs, h1, h2⟩, hd, hs⟩ := hs
  exact (h cs h1).go w ⟨h0, ⟨h1, h2⟩, hd, hs⟩⟩
theorem CJ.openX {c : Code} (h : ∀ cs, Els K0 t cs xs → CJ P E n c Φ ρ K (RowX K0 e t v xs cs :: L)) : CJ P E n c Φ ρ K (Row K0 e t v xs :: L) := ⟨fun w hs => by
  obtain ⟨h0, ⟨cs, h1, h2⟩, hd, hs⟩ := hs
  exact (h cs h1).go w ⟨h0, ⟨h1, h2⟩, hd, hs⟩⟩
theorem Rd.rx (i : Nat) {b o : Nat} {s : Tp} {ad : Option Addr} {m cap : Nat} {xs : List s.den} {cs : List Value} {u : Value} (hi : R[i]? = some (RowX K0 e s (.slice ad m cap) xs cs)) (he : ad = some ⟨b, 0, none⟩) (hc : cs[o]? = some u) : Rd (Hold E K R) b o u := fun w ⟨K', L', h1, h2⟩ => by
  subst he
  obtain ⟨h, ⟨h3, h4⟩, h5, h6⟩ := Sep.front i (by rw [List.getElem?_append_left (List.getElem?_eq_some_iff.1 hi).1]; exact hi) h2
  obtain ⟨g, cap', hv, hcell⟩ := h4.cells _ _ hc
  simp at hv
  obtain ⟨rfl, _, _⟩ := hv
  exact cellK_world h6.sub (cellK_le (fun n o e => Hp.join_right e (h5 n o e)) hcell)
end
/-! ### One cell of an element written. -/
section
variable {K : Hp} {v : Value} {q : Nat}
end
/-! ### A row made shorter. -/
theorem Els.take {K : Hp} {t : Tp} : ∀ {xs : List t.den} {cs : List Value} (k : Nat), Els K t cs xs → Els K t (cs.take (k * t.size)) (xs.take k)
  | [], cs, k, h => by obtain rfl : cs = [] := h; simp [Els]
  | x :: xs, cs, 0, h => by simp [Els]
  | x :: xs, cs, k + 1, h => by
    obtain ⟨es, r, rfl, h1, h2⟩ := h
    refine ⟨es, r.take (k * t.size), ?_, h1, Els.take k h2⟩
    rw [Nat.succ_mul, Nat.add_comm, ← h1.len, List.take_length_add_append]
theorem Row.two {K : Hp} {e : TypeId} {t : Tp} {ad : Option Addr} {m cp : Nat} {xs : List t.den} : ∀ h, Row K e t (.slice ad m cp) xs h → ((ad = none ∧ cp = 0 ∧ m = 0) ∨ ∃ g, ad = some ⟨g, 0, none⟩) ∧ m ≤ cp ∧ xs.length = m := by
  rintro h ⟨cs, h1, h2, h3⟩
  rcases h3 with ⟨h3, h4, _⟩ | ⟨g, cap, cur, h3, _, h4, h5, _⟩
  · simp only [Value.slice.injEq] at h3
    obtain ⟨rfl, e1, rfl⟩ := h3
    exact ⟨.inl ⟨rfl, rfl, by omega⟩, by omega, e1.symm⟩
  · simp only [Value.slice.injEq] at h3
    obtain ⟨rfl, e1, rfl⟩ := h3
    exact ⟨.inr ⟨g, rfl⟩, by omega, e1.symm⟩
theorem Row.trunc {K : Hp} {e : TypeId} {t : Tp} {ad : Option Addr} {m cp : Nat} {xs z : List t.den} {hi : Int} (hz : subL xs 0 hi = some z) : ∀ h, Row K e t (.slice ad m cp) xs h → Row K e t (.slice ad z.length cp) z h := by
  rintro h ⟨cs, h1, h2, h3⟩
  obtain ⟨a1, a2, a3, rfl⟩ := subL_some hz
  obtain ⟨k, rfl⟩ := Int.eq_ofNat_of_zero_le (show 0 ≤ hi by omega)
  simp only [Int.toNat_natCast, Int.toNat_zero, List.drop_zero]
  have hk : k ≤ xs.length := by omega
  have hl : (xs.take k).length = k := by rw [List.length_take]; omega
  refine ⟨cs.take (k * t.size), h1.take k, ?_, ?_⟩
  · rw [hl, List.length_take, h2, Nat.min_eq_left (Nat.mul_le_mul_right _ hk)]
  · rcases h3 with ⟨h3, h4, h5⟩ | ⟨g, cap, cur, h3, h5, h6, h7, h8, h9⟩
    · simp only [Value.slice.injEq] at h3
      obtain ⟨rfl, e1, rfl⟩ := h3
      exact .inl ⟨by rw [hl], by omega, h5⟩
    · simp only [Value.slice.injEq] at h3
      obtain ⟨rfl, e1, rfl⟩ := h3
      refine .inr ⟨g, cp, cur, rfl, h5, by omega, h7, h8, ?_⟩
      rw [← h9, List.take_take, hl, Nat.min_eq_left (Nat.mul_le_mul_right _ hk)]
theorem V.trunc {P : Program} {n : Nat} {C : World → Prop} {ρ : Sl0} {d : Option Nat} {t : TypeId} {pos : String} {af : Array Edge} {g : Option (Nat × Bool)} {x y : Operand} {tx e : TypeId} {sz : Nat} {α : Type} {ad : Option Addr} {m cp : Nat} {xs z : List α} {hi : Int} {k : IntKind}
    (ht : P.underlying tx = some (.slice e)) (hz : (P.info? e).map (·.size) = some sz) (hd : ((ad = none ∧ cp = 0 ∧ m = 0) ∨ ∃ g, ad = some ⟨g, 0, none⟩) ∧ m ≤ cp ∧ xs.length = m) (hy : subL xs 0 hi = some z) (hx : ev n ρ x = .slice ad m cp) (hh : ev n ρ y = .int k hi) :
    Val P n C ρ ⟨d, .slice tx x none (some y) none, t, pos, af, g⟩ (.slice ad z.length cp) := by
  obtain ⟨hd, hm, hl⟩ := hd
  obtain ⟨a1, a2, a3, rfl⟩ := subL_some hy
  obtain ⟨h, rfl⟩ := Int.eq_ofNat_of_zero_le (show 0 ≤ hi by omega)
  simp only [Int.toNat_natCast, Int.toNat_zero, List.drop_zero]
  have e1 : (xs.take h).length = h := by rw [List.length_take]; omega
  rw [e1]
  rcases hd with ⟨rfl, rfl, rfl⟩ | ⟨g, rfl⟩
  · have h0 : h = 0 := by omega
    subst h0
    intro w _
    cases hi' : P.info? e with
    | none => rw [hi'] at hz; simp at hz
    | some i' => simp [execOp, hx, hh, Instr.sliceAt, run_underlying ht, Instr.slice, Instr.sliceBounds, Instr.sliceBound, asIntOf, sizeOf, typeInfo, hi']
  · have := V.slc (P := P) (n := n) (C := C) (ρ := ρ) (d := d) (t := t) (pos := pos) (af := af) (g := ‹Option (Nat × Bool)›) (lo := none) (hi := some y) (l := 0) (h := h) ht hz hx nofun (fun _ => rfl) (fun q hq => by cases hq; exact ⟨k, hh⟩) nofun (by omega) (by omega) hm
    simpa using this
end Go.Proofs.YtbennpandomacaaGreat

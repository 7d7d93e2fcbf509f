/- What each operation on memory does, judged. Nothing of the program is here. -/
import Derived.Test.YtbaaamdljojknaaOp
namespace Go.Proofs.Ytbaaamdljojknaa
open Go.RowKit
set_option linter.unusedVariables false
/-! ### Rows: the cells of a list of data. -/
def Els (K : Hp) (t : Tp) : List Value → List t.den → Prop
  | cs, [] => cs = []
  | cs, x :: xs => ∃ es r, cs = es ++ r ∧ Is K t es x ∧ Els K t r xs
theorem Els.len {K : Hp} {t : Tp} : ∀ {xs : List t.den} {cs : List Value}, Els K t cs xs → cs.length = xs.length * t.size
  | [], cs, h => by subst h; simp
  | x :: xs, cs, h => by
    obtain ⟨es, r, rfl, h1, h2⟩ := h
    rw [List.length_append, h1.len, Els.len h2, List.length_cons, Nat.succ_mul]; omega
theorem Els.mono {K K' : Hp} (f : K.le K') {t : Tp} : ∀ {xs : List t.den} {cs : List Value}, Els K t cs xs → Els K' t cs xs
  | [], cs, h => h
  | x :: xs, cs, h => by
    obtain ⟨es, r, rfl, h1, h2⟩ := h
    exact ⟨es, r, rfl, h1.mono f, Els.mono f h2⟩
theorem Els.app {K : Hp} {t : Tp} : ∀ {xs : List t.den} {cs : List Value} {ys : List t.den} {ds : List Value}, Els K t cs xs → Els K t ds ys → Els K t (cs ++ ds) (xs ++ ys)
  | [], cs, ys, ds, h, k => by subst h; exact k
  | x :: xs, cs, ys, ds, h, k => by
    obtain ⟨es, r, rfl, h1, h2⟩ := h
    exact ⟨es, r ++ ds, by simp, h1, Els.app h2 k⟩
theorem Els.get {K : Hp} {t : Tp} : ∀ {xs : List t.den} {cs : List Value}, Els K t cs xs → ∀ (i : Nat) x, xs[i]? = some x → ∃ es, es.length = t.size ∧ Is K t es x ∧ ∀ j, j < t.size → cs[i * t.size + j]? = es[j]?
  | [], cs, h, i, x, hx => by simp at hx
  | y :: xs, cs, h, 0, x, hx => by
    obtain ⟨es, r, rfl, h1, h2⟩ := h
    simp at hx; subst hx
    exact ⟨es, h1.len, h1, fun j hj => by rw [Nat.zero_mul, Nat.zero_add, List.getElem?_append_left (by rw [h1.len]; exact hj)]⟩
  | y :: xs, cs, h, i + 1, x, hx => by
    obtain ⟨es, r, rfl, h1, h2⟩ := h
    obtain ⟨es', l', h3, h4⟩ := Els.get h2 i x (by simpa using hx)
    refine ⟨es', l', h3, fun j hj => ?_⟩
    rw [List.getElem?_append_right (by rw [h1.len, Nat.succ_mul]; omega), h1.len, ← h4 j hj]
    congr 1; rw [Nat.succ_mul]; omega
/-- One element in the place of another, cell by cell. -/
theorem Els.set {K : Hp} {t : Tp} : ∀ {xs : List t.den} {cs : List Value}, Els K t cs xs → ∀ (i : Nat) (x y : t.den), xs[i]? = some x → ∀ (j : Nat) (u : Value), j < t.size → (∀ es, Is K t es x → Is K t (es.set j u) y) → Els K t (cs.set (i * t.size + j) u) (xs.set i y)
  | [], cs, h, i, x, y, hx, _, _, _, _ => by simp at hx
  | z :: xs, cs, h, 0, x, y, hx, j, u, hj, hs => by
    obtain ⟨es, r, rfl, h1, h2⟩ := h
    simp at hx; subst hx
    refine ⟨es.set j u, r, ?_, hs es h1, h2⟩
    rw [Nat.zero_mul, Nat.zero_add, List.set_append_left _ _ (by rw [h1.len]; exact hj)]
  | z :: xs, cs, h, i + 1, x, y, hx, j, u, hj, hs => by
    obtain ⟨es, r, rfl, h1, h2⟩ := h
    refine ⟨es, r.set (i * t.size + j) u, ?_, h1, Els.set h2 i x y (by simpa using hx) j u hj hs⟩
    rw [List.set_append_right _ _ (by rw [h1.len, Nat.succ_mul]; omega), h1.len]
    congr 2; rw [Nat.succ_mul]; omega
/-- Data that lead nowhere. -/
def Tp.flat : Tp → Bool
  | .sl _ | .ptr _ => false
  | .one a => a.flat
  | .cons a r => a.flat && r.flat
  | _ => true
theorem Is.flat {K K' : Hp} : ∀ {t : Tp} (h : t.flat = true) {cs : List Value} {d : t.den}, Is K t cs d → Is K' t cs d
  | .int _, _, _, _, h => h
  | .bool, _, _, _, h => h
  | .str, _, _, _, h => h
  | .emp, _, _, _, h => h
  | .sl _, hf, _, _, _ => by cases hf
  | .ptr _, hf, _, _, _ => by cases hf
  | .one a, hf, _, _, h => Is.flat (t := a) hf h
  | .cons a r, hf, _, _, h => by
    simp only [Tp.flat, Bool.and_eq_true] at hf
    simp only [Is] at h ⊢
    obtain ⟨c1, c2, rfl, h1, h2, h3⟩ := h
    exact ⟨c1, c2, rfl, h1, Is.flat hf.1 h2, Is.flat hf.2 h3⟩
theorem Els.flat {K K' : Hp} {t : Tp} (hf : t.flat = true) : ∀ {xs : List t.den} {cs : List Value}, Els K t cs xs → Els K' t cs xs
  | [], cs, h => h
  | x :: xs, cs, h => by
    obtain ⟨es, r, rfl, h1, h2⟩ := h
    exact ⟨es, r, rfl, h1.flat hf, Els.flat hf h2⟩
/-- The slice v owns the row of the data xs. -/
def Row (K : Hp) (e : TypeId) (t : Tp) (v : Value) (xs : List t.den) : Atom := fun h => ∃ cs, Els K t cs xs ∧ Rw e t.size v xs.length cs h
section
variable {K K' : Hp} {e : TypeId} {t : Tp} {v : Value} {xs : List t.den} {E : En} {L : List Atom} {w : World}
theorem Row.mono (f : K.le K') : ∀ h, Row K e t v xs h → Row K' e t v xs h := fun h ⟨cs, h1, h2⟩ => ⟨cs, h1.mono f, h2⟩
/-- Cells known one behind the other. -/
def Cells (K : Hp) (b : Nat) : Nat → List Value → Prop
  | _, [] => True
  | o, v :: vs => cellK K b o = some v ∧ Cells K b (o + 1) vs
theorem Cells.at {K : Hp} {b : Nat} : ∀ {vs : List Value} {o : Nat}, Cells K b o vs → ∀ j u, vs[j]? = some u → cellK K b (o + j) = some u
  | [], o, h, j, u, hu => by simp at hu
  | v :: vs, o, h, 0, u, hu => by simp at hu; subst hu; exact h.1
  | v :: vs, o, h, j + 1, u, hu => by
    have := Cells.at h.2 j u (by simpa using hu)
    rw [← this]; congr 1; omega
/-- What such a value looks like. -/
theorem Row.form : ∀ h, Row K e t v xs h → ∃ ad cap, v = .slice ad xs.length cap ∧ xs.length ≤ cap ∧ cap ≤ maxLen ∧ (xs ≠ [] → ∃ g, ad = some ⟨g, 0, none⟩) := by
  rintro h ⟨cs, h1, h2, h3⟩
  rcases h3 with ⟨h3, h4, _⟩ | ⟨g, cap, cur, h3, _, h4, h5, _⟩
  · exact ⟨none, 0, h3, by omega, by simp, fun hne => absurd (List.length_eq_zero_iff.1 h4) hne⟩
  · exact ⟨_, cap, h3, h4, h5, fun _ => ⟨g, rfl⟩⟩
theorem Row.nil : Row K e t (.slice none 0 0) [] Hp.nil := ⟨[], rfl, by simp, .inl ⟨rfl, rfl, rfl⟩⟩
theorem Sep.rowNil (h : Sep E K L w) : Sep E K (Row Hp.nil e t (.slice none 0 0) [] :: L) w := h.emp.mono (fun h e => by obtain rfl : h = Hp.nil := e; exact Row.nil)
theorem Rw.cells {k n : Nat} {cs : List Value} {K0 : Hp} (h : Rw e k v n cs K0) : ∀ i u, cs[i]? = some u → ∃ g cap, v = .slice (some ⟨g, 0, none⟩) n cap ∧ cellK K0 g i = some u := by
  intro i u hu
  obtain ⟨hl, h⟩ := h
  have hi : i < cs.length := (List.getElem?_eq_some_iff.1 hu).1
  rcases h with ⟨_, h0, _⟩ | ⟨g, cap, cur, rfl, rfl, hn, hm, hs, ht⟩
  · rw [h0, Nat.zero_mul] at hl; omega
  · refine ⟨g, cap, rfl, ?_⟩
    simp only [cellK, one, if_true]
    rw [← ht, List.getElem?_take] at hu
    split at hu
    · simpa using hu
    · cases hu
/-- A row is made known for good. -/
theorem Row.is {K0 : Hp} (h : Row K e t v xs K0) (k1 : K.le K') (k2 : K0.le K') (h0 : 0 < t.size) : Is K' (.sl t) [v] xs := by
  obtain ⟨ad, cap, rfl, h1, h2, h3⟩ := Row.form K0 h
  obtain ⟨cs, h4, h5⟩ := h
  simp only [Is]
  refine ⟨ad, cap, rfl, h1, h2, fun hne => ?_⟩
  obtain ⟨g, rfl⟩ := h3 hne
  refine ⟨g, 0, rfl, fun k x hx => ?_⟩
  obtain ⟨es, hl, hi, hc⟩ := h4.get k x hx
  refine ⟨es, hl, hi.mono k1, fun j hj => ?_⟩
  have := hc j hj
  rw [List.getElem?_eq_getElem (show j < es.length by omega)] at this ⊢
  obtain ⟨g', cap', hv, hcell⟩ := h5.cells _ _ this
  simp at hv
  obtain ⟨rfl, rfl⟩ := hv
  rw [Nat.zero_add]
  exact cellK_le k2 hcell
theorem Sep.persist {K0 : Hp} (hs : Sep E K (Row K0 e t v xs :: L) w) (k : K0.le K) (h0 : 0 < t.size) : ∃ K', K.le K' ∧ Is K' (.sl t) [v] xs ∧ Sep E K' L w := by
  obtain ⟨h, ha, hd, hs⟩ := hs
  refine ⟨K.join h, Hp.le_join K h, ?_, hs⟩
  exact Row.is ha (k.trans (Hp.le_join K h)) (fun n o e => Hp.join_right e (hd n o e)) h0
end
/-! ### What is read. -/
section
variable {P : Program} {E : En} {n : Nat} {C : World → Prop} {ρ : Sl0} {K : Hp} {R L : List Atom} {d : Option Nat} {t : TypeId} {pos : String} {af : Array Edge} {g : Option (Nat × Bool)} {x y c : Operand} {u v : Value}
/-- Whatever is held, at this place there lies this. -/
def Rd (C : World → Prop) (b o : Nat) (v : Value) : Prop := ∀ w, C w → w.cell? ⟨b, o, none⟩ = some v
theorem Rd.k {b o : Nat} {v : Value} {K0 : Hp} (h : cellK K0 b o = some v) (k : K0.le K) : Rd (Hold E K R) b o v := fun w ⟨K', L', h1, h2⟩ => cellK_world ((k.trans h1).trans h2.sub) h
theorem Rd.cl (i : Nat) {b o : Nat} {e : TypeId} {cs : List Value} {v : Value} (hi : R[i]? = some (Cl b e cs)) (hc : cs[o]? = some v) : Rd (Hold E K R) b o v := fun w ⟨K', L', h1, h2⟩ => by
  have h3 := Sep.front i (A := Cl b e cs) (by rw [List.getElem?_append_left (List.getElem?_eq_some_iff.1 hi).1]; exact hi) h2
  have h4 := h3.cl
  simp [World.cell?, h4, hc]
/-- A cell of an owned row. -/
theorem Rd.row (i : Nat) {b o : Nat} {e : TypeId} {s : Tp} {K0 : Hp} {ad : Option Addr} {m cap : Nat} {xs : List s.den} (hi : R[i]? = some (Row K0 e s (.slice ad m cap) xs)) (he : ad = some ⟨b, 0, none⟩) {j : Nat} {x : s.den} (hx : xs[j]? = some x) {q : Nat} (hq : o = j * s.size + q) (hj : q < s.size)
    (k : ∀ es, Is K0 s es x → es[q]? = some v) : Rd (Hold E K R) b o v := fun w ⟨K', L', h1, h2⟩ => by
  subst he
  obtain ⟨h, ⟨cs, h3, h4⟩, h5, h6⟩ := Sep.front i (by rw [List.getElem?_append_left (List.getElem?_eq_some_iff.1 hi).1]; exact hi) h2
  obtain ⟨es, h7, h8, h9⟩ := h3.get j x hx
  have h10 := h9 q hj
  rw [k es h8] at h10
  obtain ⟨g, cap', hv, hcell⟩ := h4.cells _ _ h10
  simp at hv
  obtain ⟨rfl, _, _⟩ := hv
  subst hq
  refine cellK_world h6.sub (cellK_le (fun n o e => Hp.join_right e (h5 n o e)) hcell)
def scalar (P : Program) (t : TypeId) : Bool := match P.underlying t with | some (.struct _) | some (.array _ _) | none => false | _ => true
theorem run_isAgg {P : Program} {t : TypeId} (w : World) (h : scalar P t = true) : (isAgg t).run P w = .ok false w := by
  unfold scalar at h
  cases ht : P.underlying t with
  | none => rw [ht] at h; simp at h
  | some dsc => rw [ht] at h; simp [isAgg, run_underlying ht]; cases dsc <;> simp_all
theorem V.load {b o : Nat} (ht : scalar P t = true) (hx : ev n ρ x = .pointer (some ⟨b, o, none⟩)) (h : Rd C b o v) {ty : TypeId} : Val P n C ρ ⟨d, .load t x, ty, pos, af, g⟩ v := fun w hw => by
  have hc := h w hw
  simp [execOp, hx, Instr.loadAt, Instr.sureAddr, loadVar, run_isAgg w ht, hc]
end
end Go.Proofs.Ytbaaamdljojknaa

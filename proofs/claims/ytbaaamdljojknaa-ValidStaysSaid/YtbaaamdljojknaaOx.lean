/- What else the walks ask for. Nothing of the program is here. -/
import Derived.Test.YtbaaamdljojknaaDr
namespace Go.Proofs.Ytbaaamdljojknaa
open Go.RowKit
set_option linter.unusedVariables false
theorem isNil {K : Hp} {t : Tp} : Is K (.sl t) [.slice none 0 0] [] := ⟨none, 0, rfl, by simp, by simp, fun h => absurd rfl h⟩
/-- What is held, put into another order behind the end of a piece of code. -/
structure PJ (E : En) (N : Sl0 → Hp → List Atom → Prop) (ρ : Sl0) (K : Hp) (L : List Atom) : Prop where
  go : ∀ w, Sep E K L w → ∃ K' L', Sep E K' L' w ∧ N ρ K' L'
section
variable {P : Program} {E : En} {n : Nat} {Φ : Post} {N : Sl0 → Hp → List Atom → Prop} {ρ : Sl0} {K K0 : Hp} {L : List Atom} {e : TypeId} {t : Tp} {v : Value} {xs : List t.den}
theorem PJ.done (h : N ρ K L) : PJ E N ρ K L := ⟨fun w hs => ⟨K, L, hs, h⟩⟩
theorem PJ.by {K' : Hp} {L' : List Atom} (k : ∀ w, Sep E K L w → Sep E K' L' w) (h : PJ E N ρ K' L') : PJ E N ρ K L := ⟨fun w hs => h.go w (k w hs)⟩
theorem PJ.front (i : Nat) {A : Atom} (hi : L[i]? = some A) (h : PJ E N ρ K (A :: L.eraseIdx i)) : PJ E N ρ K L := ⟨fun w hs => h.go w (hs.front i hi)⟩
theorem PJ.dropAt (i : Nat) {A : Atom} (hi : L[i]? = some A) (h : PJ E N ρ K (L.eraseIdx i)) : PJ E N ρ K L := ⟨fun w hs => h.go w (hs.dropAt i hi)⟩
theorem PJ.wit {A : Atom} {p : Prop} (k : ∀ h, A h → p) (h : p → PJ E N ρ K (A :: L)) : PJ E N ρ K (A :: L) := ⟨fun w hs => (h (hs.fact k)).go w hs⟩
theorem PJ.persist (k : K0.le K) (h0 : 0 < t.size) (h : ∀ K', K.le K' → Is K' (.sl t) [v] xs → PJ E N ρ K' L) : PJ E N ρ K (Row K0 e t v xs :: L) := ⟨fun w hs =>
  let ⟨K', h1, h2, h3⟩ := hs.persist k h0; (h K' h1 h2).go w h3⟩
theorem CJ.monoP {c : Code} {Φ' : Post} (h : CJ P E n c Φ' ρ K L) (k : ∀ e ρ K L, Φ' e ρ K L → PJ E (Φ e) ρ K L) : CJ P E n c Φ ρ K L := ⟨fun w hs =>
  wp_mono (h.go w hs) (fun e a w ⟨ρ, K, L, ha, hs, hΦ⟩ => let ⟨K', L', hs', hN⟩ := (k _ _ _ _ hΦ).go w hs; ⟨ρ, K', L', ha, hs', hN⟩)⟩
/-- Ways meet again. -/
theorem CJ.joinN {σ τ : Type} {o : σ ⊕ τ} {c : Code} (M : σ → Sl0 → Hp → List Atom → Prop)
    (h1 : CJ P E n c (fun e ρ K L => (e = .normal ∧ ∃ s, o = .inl s ∧ M s ρ K L) ∨ (e ≠ .normal ∧ Φ e ρ K L)) ρ K L) (h2 : ∀ s ρ K L, o = .inl s → M s ρ K L → PJ E (Φ .normal) ρ K L) : CJ P E n c Φ ρ K L := h1.monoP (fun e ρ K L h => by
  rcases h with ⟨rfl, s, hs, hM⟩ | ⟨hne, h⟩
  · exact h2 s ρ K L hs hM
  · exact PJ.done h)
theorem CJ.meetN {c : Code} (M : Sl0 → Hp → List Atom → Prop) (h1 : CJ P E n c (fun e ρ K L => e = .normal ∧ M ρ K L) ρ K L) (h2 : ∀ ρ K L, M ρ K L → PJ E (Φ .normal) ρ K L) : CJ P E n c Φ ρ K L := h1.monoP (fun e ρ K L ⟨he, h⟩ => by subst he; exact h2 ρ K L h)
end
theorem Row.hn {K : Hp} {e : TypeId} {t : Tp} {ad : Option Addr} {m cap : Nat} {xs : List t.den} : ∀ h, Row K e t (.slice ad m cap) xs h → (xs ≠ [] → ∃ g, ad = some ⟨g, 0, none⟩) := fun h hr => by
  obtain ⟨ad', cap', e, _, _, hn⟩ := Row.form h hr
  simp only [Value.slice.injEq] at e
  obtain ⟨rfl, _, _⟩ := e
  exact hn
theorem bt (b : Bool) : b = true ∨ b = false := by cases b <;> simp
section
variable {P : Program} {E : En} {n : Nat} {Φ : Post} {ρ : Sl0} {K K0 : Hp} {L R : List Atom} {ops : Array Oper} {C : World → Prop} {X : Act → World → Prop} {e : TypeId} {t : Tp} {v : Value} {xs : List t.den}
theorem J.persist {l : List Oper} (k : K0.le K) (h0 : 0 < t.size) (h : ∀ K', K.le K' → Is K' (.sl t) [v] xs → J P E n ops l Φ ρ K' L) : J P E n ops l Φ ρ K (Row K0 e t v xs :: L) := ⟨fun w hs =>
  let ⟨K', h1, h2, h3⟩ := hs.persist k h0; (h K' h1 h2).go w h3⟩
theorem CJ.persist {c : Code} (k : K0.le K) (h0 : 0 < t.size) (h : ∀ K', K.le K' → Is K' (.sl t) [v] xs → CJ P E n c Φ ρ K' L) : CJ P E n c Φ ρ K (Row K0 e t v xs :: L) := ⟨fun w hs =>
  let ⟨K', h1, h2, h3⟩ := hs.persist k h0; (h K' h1 h2).go w h3⟩
theorem JA.persist {o : Oper} {r : List (List Oper × Oper)} (k : K0.le K) (h0 : 0 < t.size) (h : ∀ K', K.le K' → Is K' (.sl t) [v] xs → JA P E n ops C X o r ρ K' L) : JA P E n ops C X o r ρ K (Row K0 e t v xs :: L) := ⟨fun w hs =>
  let ⟨K', h1, h2, h3⟩ := hs.persist k h0; (h K' h1 h2).go w h3⟩
theorem JA.by {o : Oper} {r : List (List Oper × Oper)} {K' : Hp} {L' : List Atom} (k : ∀ w, Sep E K L w → Sep E K' L' w) (h : JA P E n ops C X o r ρ K' L') : JA P E n ops C X o r ρ K L := ⟨fun w hs => h.go w (k w hs)⟩
end
section
variable {P : Program} {E : En} {n : Nat} {C : World → Prop} {ρ : Sl0} {K K0 : Hp} {R : List Atom} {d : Option Nat} {t : TypeId} {pos : String} {af : Array Edge} {g : Option (Nat × Bool)} {x y c : Operand} {u v : Value}
/-- All cells of an element of a row that is held. -/
theorem Rd.rows (i : Nat) {b : Nat} {e : TypeId} {s : Tp} {ad : Option Addr} {m cap : Nat} {xs : List s.den} (hi : R[i]? = some (Row K0 e s (.slice ad m cap) xs)) (he : ad = some ⟨b, 0, none⟩) {j : Nat} {x : s.den} (hx : xs[j]? = some x) {cs : List Value} (hl : cs.length = s.size)
    (k : ∀ es, Is K0 s es x → es = cs) : ∀ q u, cs[q]? = some u → Rd (Hold E K R) b (0 + j * s.size + q) u := fun q u hu =>
  Rd.row i hi he hx (q := q) (by omega) (by rw [← hl]; exact (List.getElem?_eq_some_iff.1 hu).1) (fun es hes => by rw [k es hes]; exact hu)
/-- A part of a slice that is known. -/
theorem Is.part {tp : Tp} {b o m cp : Nat} {s : List tp.den} (hs : Is K0 (.sl tp) [.slice (some ⟨b, o, none⟩) m cp] s) (l h : Nat) (h1 : l ≤ h) (h2 : h ≤ s.length) :
    Is K0 (.sl tp) [.slice (some (if cp = l then ⟨b, o, none⟩ else ⟨b, o + l * tp.size, none⟩)) (h - l) (cp - l)] ((s.take h).drop l) := by
  simp only [Is] at hs ⊢
  obtain ⟨ad', cap', h0, a1, a2, a3⟩ := hs
  simp only [List.cons.injEq, Value.slice.injEq, and_true] at h0
  obtain ⟨rfl, rfl, rfl⟩ := h0
  have hlen : ((s.take h).drop l).length = h - l := by rw [List.length_drop, List.length_take]; omega
  refine ⟨_, _, by rw [hlen], by omega, by omega, fun hne => ?_⟩
  have hlt : l < h := by
    rcases Nat.lt_or_ge l h with h' | h'
    · exact h'
    · exact absurd (List.length_eq_zero_iff.1 (by omega)) hne
  obtain ⟨b', o', e, a4⟩ := a3 (fun e => by rw [e] at h2; simp at h2; omega)
  simp only [Option.some.injEq, Addr.mk.injEq, and_true] at e
  obtain ⟨rfl, rfl⟩ := e
  rw [if_neg (by omega)]
  refine ⟨b, o + l * tp.size, rfl, fun k x hx => ?_⟩
  rw [List.getElem?_drop, List.getElem?_take] at hx
  split at hx
  · obtain ⟨es, a5, a6, a7⟩ := a4 (l + k) x hx
    refine ⟨es, a5, a6, fun j hj => ?_⟩
    rw [← a7 j hj, Nat.add_mul]
    congr 1; omega
  · cases hx
theorem V.subI {tx e : TypeId} {tp : Tp} {ad : Option Addr} {m cp : Nat} {s z : List tp.den} {l h : Int} (ht : P.underlying tx = some (.slice e)) (hz : (P.info? e).map (·.size) = some tp.size) (hs : Is K0 (.sl tp) [.slice ad m cp] s) (hy : subL s l h = some z) :
    ∃ ad' cp', (∀ {n : Nat} {C : World → Prop} {ρ : Sl0} {d : Option Nat} {t : TypeId} {pos : String} {af : Array Edge} {g : Option (Nat × Bool)} {x : Operand} {lo hi : Option Operand}, ev n ρ x = .slice ad m cp → (∀ q, lo = some q → ∃ k, ev n ρ q = .int k l) → (lo = none → l = 0) → (∀ q, hi = some q → ∃ k, ev n ρ q = .int k h) → (hi = none → h = (m : Nat)) →
      Val P n C ρ ⟨d, .slice tx x lo hi none, t, pos, af, g⟩ (.slice ad' z.length cp')) ∧ Is K0 (.sl tp) [.slice ad' z.length cp'] z := by
  obtain ⟨a1, a2, a3, rfl⟩ := subL_some hy
  obtain ⟨l, rfl⟩ := Int.eq_ofNat_of_zero_le a1
  obtain ⟨h, rfl⟩ := Int.eq_ofNat_of_zero_le (show 0 ≤ h by omega)
  have b1 : l ≤ h := by omega
  have b2 : h ≤ s.length := by omega
  simp only [Int.toNat_natCast]
  have hm : m = s.length ∧ s.length ≤ cp := by
    simp only [Is] at hs
    obtain ⟨ad', cap', h0, a4, _⟩ := hs
    simp only [List.cons.injEq, Value.slice.injEq, and_true] at h0
    obtain ⟨_, rfl, rfl⟩ := h0
    exact ⟨rfl, a4⟩
  obtain ⟨rfl, hcp⟩ := hm
  have hlen : ((s.take h).drop l).length = h - l := by rw [List.length_drop, List.length_take]; omega
  cases ad with
  | none =>
    obtain ⟨rfl, _⟩ := hs.nil_len
    simp only [List.length_nil] at b2 hlen hcp ⊢
    obtain rfl : h = 0 := by omega
    obtain rfl : l = 0 := by omega
    refine ⟨none, cp, ?_, by simpa using hs⟩
    intro n C ρ d t pos af g x lo hi hx hl hl0 hh hh0 w _
    cases hi' : P.info? e with
    | none => rw [hi'] at hz; simp at hz
    | some i' =>
      cases lo with
      | none =>
        cases hi with
        | none => simp [execOp, hx, Instr.sliceAt, run_underlying ht, Instr.slice, Instr.sliceBounds, sizeOf, typeInfo, hi']
        | some q =>
          obtain ⟨k, hq⟩ := hh q rfl
          simp [execOp, hx, hq, Instr.sliceAt, run_underlying ht, Instr.slice, Instr.sliceBounds, Instr.sliceBound, asIntOf, sizeOf, typeInfo, hi']
      | some ql =>
        obtain ⟨k1, hq1⟩ := hl ql rfl
        cases hi with
        | none => simp [execOp, hx, hq1, Instr.sliceAt, run_underlying ht, Instr.slice, Instr.sliceBounds, Instr.sliceBound, asIntOf, sizeOf, typeInfo, hi']
        | some q =>
          obtain ⟨k, hq⟩ := hh q rfl
          simp [execOp, hx, hq, hq1, Instr.sliceAt, run_underlying ht, Instr.slice, Instr.sliceBounds, Instr.sliceBound, asIntOf, sizeOf, typeInfo, hi']
  | some a =>
    by_cases hs0 : s = []
    · subst hs0
      simp only [List.length_nil] at b2 hlen hcp ⊢
      obtain rfl : h = 0 := by omega
      obtain rfl : l = 0 := by omega
      refine ⟨some (if cp = 0 then a else a.add (0 * tp.size)), cp, ?_, ?_⟩
      · intro n C ρ d t pos af g x lo hi hx hl hl0 hh hh0 w _
        cases hi' : P.info? e with
        | none => rw [hi'] at hz; simp at hz
        | some i' =>
          cases lo with
          | none =>
            cases hi with
            | none => (simp [execOp, hx, Instr.sliceAt, run_underlying ht, Instr.slice, Instr.sliceBounds, sizeOf, typeInfo, hi']; by_cases q0 : cp = 0 <;> simp [q0])
            | some q =>
              obtain ⟨k, hq⟩ := hh q rfl
              (simp [execOp, hx, hq, Instr.sliceAt, run_underlying ht, Instr.slice, Instr.sliceBounds, Instr.sliceBound, asIntOf, sizeOf, typeInfo, hi']; by_cases q0 : cp = 0 <;> simp [q0])
          | some ql =>
            obtain ⟨k1, hq1⟩ := hl ql rfl
            cases hi with
            | none => (simp [execOp, hx, hq1, Instr.sliceAt, run_underlying ht, Instr.slice, Instr.sliceBounds, Instr.sliceBound, asIntOf, sizeOf, typeInfo, hi']; by_cases q0 : cp = 0 <;> simp [q0])
            | some q =>
              obtain ⟨k, hq⟩ := hh q rfl
              (simp [execOp, hx, hq, hq1, Instr.sliceAt, run_underlying ht, Instr.slice, Instr.sliceBounds, Instr.sliceBound, asIntOf, sizeOf, typeInfo, hi']; by_cases q0 : cp = 0 <;> simp [q0])
      · simp only [Is] at hs ⊢
        obtain ⟨_, _, h0, a4, a5, _⟩ := hs
        simp only [List.cons.injEq, Value.slice.injEq, and_true] at h0
        obtain ⟨_, _, rfl⟩ := h0
        exact ⟨_, _, rfl, by simp, a5, fun hne => absurd rfl hne⟩
    · obtain ⟨x0, hx0⟩ : ∃ x, s[0]? = some x := by
        cases s with
        | nil => exact absurd rfl hs0
        | cons x r => exact ⟨x, rfl⟩
      obtain ⟨b, o, he, _⟩ := hs.at hx0
      simp only [Option.some.injEq] at he
      subst he
      have hp := hs.part l h b1 b2
      rw [← hlen] at hp
      refine ⟨_, _, ?_, hp⟩
      intro n C ρ d t pos af g x lo hi hx hl hl0 hh hh0
      rw [hlen]
      exact V.slc (o := o) ht hz hx hl (fun e => by have := hl0 e; omega) hh (fun e => by have := hh0 e; omega) b1 b2 hcp
theorem V.fld {s ft : TypeId} {fs : Array Field} {f : Field} {i : Nat} {cs : Array Value} (hs : P.underlying s = some (.struct fs)) (hf : fs[i]? = some f) (h : ∀ w, (part f.type cs f.offset).run P w = .ok v w) (hx : ev n ρ x = .agg cs) : Val P n C ρ ⟨d, .field s x i, t, pos, af, g⟩ v := fun w _ => by
  simp [execOp, hx, Instr.field, run_underlying hs, hf, asAgg, h w]
theorem Ld0.sc {ft : TypeId} {cs : Array Value} {o : Nat} (ht : scalar P ft = true) (h : cs[o]? = some v) : ∀ w, (part ft cs o).run P w = .ok v w := fun w => by
  simp [part, run_isAgg w ht, h]
theorem Ld0.agg {ft : TypeId} {fs : Array Field} {cs ds : Array Value} {o sz : Nat} (ht : P.underlying ft = some (.struct fs)) (hz : (P.info? ft).map (·.size) = some sz) (h : cs.extract o (o + sz) = ds) : ∀ w, (part ft cs o).run P w = .ok (.agg ds) w := fun w => by
  cases hi : P.info? ft with
  | none => rw [hi] at hz; simp at hz
  | some i' =>
    rw [hi] at hz
    simp at hz
    have h3 : (isAgg ft).run P w = .ok true w := by simp [isAgg, run_underlying ht]
    simp [part, h3, sizeOf, typeInfo, hi, hz, h]
/-- Where a struct's fields lie. -/
def Places (P : Program) (s : TypeId) (ps : List (Nat × Nat)) : Prop := ∃ fs, P.underlying s = some (.struct fs) ∧ fs.toList.mapM (fun f => (P.info? f.type).map fun i => (f.offset, i.size)) = some ps
theorem V.build {s : TypeId} {z : Value} {sz bt : Nat} {ps : List (Nat × Nat)} {parts : Array (Nat × Operand)} {cs : List Value} (hi : Inf P s z sz bt) (hp : Places P s ps) (hc : fillL (fun i => ps[i]?) z.cells.toList (parts.toList.map fun (i, x) => (i, ev n ρ x)) = some cs) (hcs : .agg cs.toArray = v) : Val P n C ρ ⟨d, .build s parts, t, pos, af, g⟩ v := fun w _ => by
  subst hcs
  obtain ⟨i, h1, h2, _, _⟩ := hi.open
  obtain ⟨fs, h3, h4⟩ := hp
  have hc' : Instr.fill (fun i => ps[i]?) z.cells (List.map (fun x => (x.1, ev n ρ x.2)) parts.toList) = some cs.toArray := fill_of hc
  simp [execOp, Instr.build, zeroValue, typeInfo, h1, h2, run_underlying h3, Array.mapM_eq_mapM_toList, run_places w _ _ h4, hc']
theorem V.max {k : IntKind} {a b : Int} {ts : Array TypeId} (hx : ev n ρ x = .int k a) (hy : ev n ρ y = .int k b) : Val P n C ρ ⟨d, .call ⟨.builtin .max, #[x, y], ts⟩, t, pos, af, g⟩ (.int k (if a < b then b else a)) := fun w _ => by
  have := run_max_int2 (P := P) (w := w) ts t k k a b
  simp [execOp, resolve, invoke, builtin, hx, hy, this]
theorem V.min {k : IntKind} {a b : Int} {ts : Array TypeId} (hx : ev n ρ x = .int k a) (hy : ev n ρ y = .int k b) : Val P n C ρ ⟨d, .call ⟨.builtin .min, #[x, y], ts⟩, t, pos, af, g⟩ (.int k (if b < a then b else a)) := fun w _ => by
  have := run_min_int2 (P := P) (w := w) ts t k k a b
  simp [execOp, resolve, invoke, builtin, hx, hy, this]
end
end Go.Proofs.Ytbaaamdljojknaa

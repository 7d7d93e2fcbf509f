/- Structs compared, slices compared with nil. Nothing of the program is here. -/
import Derived.Test.YtbennpandomacaaGreatOx
import Derived.Laws.StructEq
import Derived.Laws.Cover3
namespace Go.Proofs.YtbennpandomacaaGreat
open Go.RowKit
set_option linter.unusedVariables false
structure EqIn (P : Program) (d : Nat) (t : TypeId) (x y : Value) (b : Bool) : Prop where
  go : ∀ w, (Op.equalIn d t x y).run P w = .ok b w
structure EqFs (P : Program) (d : Nat) (xs ys : Array Value) (fs : List Field) (b : Bool) : Prop where
  go : ∀ w, (Op.eqFields d xs ys fs).run P w = .ok b w
section
variable {P : Program} {m d : Nat} {t : TypeId}
theorem EqIn.int {k k' : IntKind} {a b : Int} (hd : m = d + 1) (ht : P.underlying t = some (.int k')) : EqIn P m t (.int k a) (.int k b) (decide (a = b)) := ⟨fun w => by
  subst hd; rw [run_equalIn_int w d t k k' a b ht, Bool.beq_eq_decide_eq]⟩
theorem EqIn.bool {a b : Bool} (hd : m = d + 1) (ht : P.underlying t = some .bool) : EqIn P m t (.bool a) (.bool b) (a == b) := ⟨fun w => by
  subst hd; exact run_equalIn_bool w d t a b ht⟩
theorem EqIn.str {a b : List UInt8} (hd : m = d + 1) (ht : P.underlying t = some .string) : EqIn P m t (.string ⟨a.toArray⟩) (.string ⟨b.toArray⟩) (decide (a = b)) := ⟨fun w => by
  subst hd; rw [run_equalIn_string w d t _ _ ht, bsl, bsl, Bool.beq_eq_decide_eq]⟩
theorem EqIn.st {fs : Array Field} {xs ys : Array Value} {b : Bool} (hd : m = d + 1) (ht : P.underlying t = some (.struct fs)) (hp : P.stoodInHeld t = false) (h : EqFs P d xs ys fs.toList b) : EqIn P m t (.agg xs) (.agg ys) b := ⟨fun w => by
  have hf : P.fieldsOf t = fs := by simp [Program.fieldsOf, ht]
  subst hd; rw [run_equalIn_struct w d t xs ys (by rw [hf]; exact ht) hp, hf]; exact h.go w⟩
theorem EqFs.nil {xs ys : Array Value} : EqFs P d xs ys [] true := ⟨fun w => by simp [Op.eqFields]⟩
theorem EqFs.cons {xs ys : Array Value} {f : Field} {fs : List Field} {a b : Bool} {x y : Value} (hn : f.name ≠ "_") (hx : ∀ w, (part f.type xs f.offset).run P w = .ok x w) (hy : ∀ w, (part f.type ys f.offset).run P w = .ok y w)
    (h : EqIn P d f.type x y a) (hr : EqFs P d xs ys fs b) : EqFs P d xs ys (f :: fs) (a && b) := ⟨fun w => by
  unfold Op.eqFields
  rw [if_pos hn]
  simp only [Sem.run_bind, hx w, Result.andThen_ok, hy w, h.go w]
  cases a
  · simp
  · simpa using hr.go w⟩
theorem EqFs.last {xs ys : Array Value} {f : Field} {a : Bool} {x y : Value} (hn : f.name ≠ "_") (hx : ∀ w, (part f.type xs f.offset).run P w = .ok x w) (hy : ∀ w, (part f.type ys f.offset).run P w = .ok y w)
    (h : EqIn P d f.type x y a) : EqFs P d xs ys [f] a := by simpa using EqFs.cons hn hx hy h EqFs.nil
end
section
variable {P : Program} {n : Nat} {C : World → Prop} {ρ : Sl0} {d : Option Nat} {t : TypeId} {pos : String} {af : Array Edge} {g : Option (Nat × Bool)} {x y : Operand} {tx ty : TypeId}
theorem V.nest {cs ds : Array Value} {b : Bool} (hg : P.eqGuardType P.depth tx = false) (h : EqIn P 10000 tx (.agg cs) (.agg ds) b) (hx : ev n ρ x = .agg cs) (hy : ev n ρ y = .agg ds) : Val P n C ρ ⟨d, .binOp .neq tx x y ty, t, pos, af, g⟩ (.bool (!b)) := fun w _ => by
  have e1 := run_eqGuard_agg (w := w) (P := P) .neq tx x y cs ds hg
  have e2 := run_neq_struct (w := w) (P := P) tx cs ds
  rw [h.go w] at e2
  simp only [execOp, hx, hy]
  simp [e1, e2]
theorem V.sn_eql {e : TypeId} {p : Option Addr} {l c : Nat} (ht : P.underlying tx = some (.slice e)) (hx : ev n ρ x = .slice p l c) (hy : ev n ρ y = .slice none 0 0) : Val P n C ρ ⟨d, .binOp .eql tx x y ty, t, pos, af, g⟩ (.bool p.isNone) := fun w _ => by
  have := run_equal_slice_nil (P := P) (w := w) tx e p l c ht
  simp only [execOp, hx, hy]
  simp only [binOp]
  simp [eqGuard, this]
end
section
variable {α β : Type}
noncomputable def both (a b : Option α) : Option α := open Classical in if a = b then a else none
theorem both_some {a b : Option α} {r : α} (h : both a b = some r) : a = some r ∧ b = some r := by
  unfold both at h; split at h
  · rename_i e; exact ⟨h, e ▸ h⟩
  · cases h
theorem both_self (a : Option α) : both a a = a := by simp [both]
/-- By whether a slice is nil: where it has no element, both ways must give the same. -/
noncomputable def nilb (x : List β) (a b : Option α) : Option α := if x.isEmpty then both a b else b
theorem nilb_nil {x : List β} {a b : Option α} {r : α} (hx : x = []) (h : nilb x a b = some r) : a = some r := by
  subst hx; exact (both_some h).1
theorem nilb_cons {x : List β} {a b : Option α} {r : α} (h : nilb x a b = some r) : b = some r := by
  unfold nilb at h; split at h
  · exact (both_some h).2
  · exact h
theorem nilb_eq {x : List β} {a b : Option α} (h : x = [] → a = b) : nilb x a b = b := by
  unfold nilb; split
  · rename_i e; rw [h (by simpa using e), both_self]
  · rfl
end
theorem Is.int_eq {K : Hp} {k : IntKind} {cs : List Value} {x : Int} (h : Is K (.int k) cs x) : cs = [.int k x] := by simpa only [Is] using h
theorem Is.one_eq {K : Hp} {a : Tp} {cs : List Value} {x : a.den} (h : Is K (.one a) cs x) : Is K a cs x := by simpa only [Is] using h
theorem Is.cons_eq {K : Hp} {a r : Tp} {cs : List Value} {x : a.den × r.den} (h : Is K (.cons a r) cs x) : ∃ c1 c2, cs = c1 ++ c2 ∧ c1.length = a.size ∧ Is K a c1 x.1 ∧ Is K r c2 x.2 := by simpa only [Is] using h
theorem Is.sl_eq {K : Hp} {e : Tp} {cs : List Value} {x : List e.den} (h : Is K (.sl e) cs x) : ∃ ad cp, cs = [.slice ad x.length cp] ∧ Is K (.sl e) [.slice ad x.length cp] x := by
  have h' := h
  simp only [Is] at h'
  obtain ⟨ad, cp, rfl, _⟩ := h'
  exact ⟨ad, cp, rfl, h⟩
theorem IsV.int_eq {K : Hp} {k : IntKind} {v : Value} {x : Int} (h : IsV K (.int k) v x) : v = .int k x := by simpa only [IsV, Is, List.cons.injEq, and_true] using h
theorem IsV.sl_eq {K : Hp} {e : Tp} {v : Value} {x : List e.den} (h : IsV K (.sl e) v x) : ∃ ad cp, v = .slice ad x.length cp ∧ Is K (.sl e) [.slice ad x.length cp] x := by
  obtain ⟨ad, cp, h1, h2⟩ := Is.sl_eq h
  exact ⟨ad, cp, by simpa using h1, h2⟩
theorem IsV.one_eq {K : Hp} {a : Tp} {v : Value} {x : a.den} (h : IsV K (.one a) v x) : ∃ cs : List Value, v = .agg cs.toArray ∧ Is K (.one a) cs x := h
theorem IsV.cons_eq {K : Hp} {a r : Tp} {v : Value} {x : a.den × r.den} (h : IsV K (.cons a r) v x) : ∃ cs : List Value, v = .agg cs.toArray ∧ Is K (.cons a r) cs x := h
theorem Sep.nrow {E : En} {K K0 : Hp} {L : List Atom} {w : World} {e : TypeId} {t : Tp} {ad : Option Addr} {m n c : Nat} {xs : List t.den} (hl : m = n) (hs : Sep E K (Row K0 e t (.slice ad m c) xs :: L) w) : Sep E K (Row K0 e t (.slice ad n c) xs :: L) w := by subst hl; exact hs
theorem Row.len {K : Hp} {e : TypeId} {t : Tp} {ad : Option Addr} {n c : Nat} {xs : List t.den} : ∀ h, Row K e t (.slice ad n c) xs h → xs.length = n := fun h hr => by
  obtain ⟨ad', c', e1, _⟩ := Row.form h hr
  simp only [Value.slice.injEq] at e1
  exact e1.2.1.symm
theorem Is.nil_of {K : Hp} {t : Tp} {n c : Nat} {x : List t.den} (h : Is K (.sl t) [.slice none n c] x) : x = [] := by
  obtain ⟨ad, c', h1, h2, h3, h4⟩ := h
  cases h1
  exact List.length_eq_zero_iff.1 (by first | exact (h2 rfl) | exact (h2 rfl).1 | simp_all)
end Go.Proofs.YtbennpandomacaaGreat

/- Short forms of steps. Nothing of the program is here. -/
import Derived.Test.YtbaaamdljojknaaDt
namespace Go.Proofs.Ytbaaamdljojknaa
open Go.RowKit
set_option linter.unusedVariables false
abbrev nos : Value := .slice none 0 0
abbrev ii (x : Int) : Value := .int .i64 x
theorem si {α : Type} {a b : α} (h : some a = some b) : a = b := Option.some.inj h
theorem Val.eq {P : Program} {n : Nat} {C : World → Prop} {ρ : Sl0} {o : Oper} {v v' : Value} (h : Val P n C ρ o v') (e : v' = v) : Val P n C ρ o v := e ▸ h
section
variable {P : Program} {E : En} {n : Nat} {Φ : Post} {ρ : Sl0} {K : Hp} {L : List Atom} {ops : Array Oper} {rest : List Oper} {d i : Nat} {op : Op} {t : TypeId} {pos : String} {af : Array Edge} {x y : Operand} {vs : Array Value} {C : World → Prop} {N : Sl0 → Prop}
theorem cr {id : Nat} {l : List Oper} {c2 : Code} (h : J P E n l.toArray l (Post.then (fun ρ K L => CJ P E n c2 Φ ρ K L) Φ) ρ K L) : CJ P E n (.seq (.region id l.toArray false) c2) Φ ρ K L := CJ.seq (CJ.region h)
theorem jv (v : Value) (hv : Val P n (Hold E K L) ρ ⟨some d, op, t, pos, af, none⟩ v) (h : J P E n ops rest Φ (upd ρ d v) K L) : J P E n ops (⟨some d, op, t, pos, af, none⟩ :: rest) Φ ρ K L := J.val rfl rfl hv h
theorem jm (v : Value) (hx : ev n ρ x = v) (h : J P E n ops rest Φ (upd ρ d v) K L) : J P E n ops (⟨some d, .move x, t, pos, af, none⟩ :: rest) Φ ρ K L := J.val rfl rfl (V.mv hx) h
theorem ja (v : Value) (hx : ev n ρ x = v) (h : J P E n ops rest Φ (upd ρ d v) K L) : J P E n ops (⟨some d, .assign x, t, pos, af, none⟩ :: rest) Φ ρ K L := J.val rfl rfl (V.as hx) h
theorem jx (v : Value) (hx : ev n ρ x = .tuple vs) (hv : vs[i]? = some v) (h : J P E n ops rest Φ (upd ρ d v) K L) : J P E n ops (⟨some d, .extract x i, t, pos, af, none⟩ :: rest) Φ ρ K L := J.val rfl rfl (V.ext hx hv) h
theorem qv (v : Value) (hv : Val P n C ρ ⟨some d, op, t, pos, af, none⟩ v) (h : JQ P n ops C rest N (upd ρ d v)) : JQ P n ops C (⟨some d, op, t, pos, af, none⟩ :: rest) N ρ := JQ.val rfl rfl hv h
theorem qm (v : Value) (hx : ev n ρ x = v) (h : JQ P n ops C rest N (upd ρ d v)) : JQ P n ops C (⟨some d, .move x, t, pos, af, none⟩ :: rest) N ρ := JQ.val rfl rfl (V.mv hx) h
theorem qa (v : Value) (hx : ev n ρ x = v) (h : JQ P n ops C rest N (upd ρ d v)) : JQ P n ops C (⟨some d, .assign x, t, pos, af, none⟩ :: rest) N ρ := JQ.val rfl rfl (V.as hx) h
theorem jal {e : TypeId} {z : Value} {sz bt : Nat} (hi : Inf P e z sz bt) (cs : List Value) (hcs : z.cells.toList = cs) (h : ∀ b, J P E n ops rest Φ (upd ρ d (.pointer (some ⟨b, 0, none⟩))) K (Cl b e cs :: L)) : J P E n ops (⟨some d, .alloc e, t, pos, af, none⟩ :: rest) Φ ρ K L :=
  J.op rfl (A.alloc hi hcs) (by rintro _ _ _ ⟨b, rfl, rfl, rfl⟩; exact h b)
theorem jbx {e : TypeId} {v : Value} (cs : List Value) (hx : ev n ρ x = v) (hcs : v.cells.toList = cs) (h : ∀ b, J P E n ops rest Φ (upd ρ d (.pointer (some ⟨b, 0, none⟩))) K (Cl b e cs :: L)) : J P E n ops (⟨some d, .box e x, t, pos, af, none⟩ :: rest) Φ ρ K L :=
  J.op rfl (A.box hx hcs) (by rintro _ _ _ ⟨b, rfl, rfl, rfl⟩; exact h b)
theorem js1 {v : Value} {s e : TypeId} {b o : Nat} {cs : List Value} (cs' : List Value) (hz : (P.info? s).map (·.size) = some 1) (hx : ev n ρ x = .pointer (some ⟨b, o, none⟩)) (hy : ev n ρ y = v) (hl : v.cells = #[v]) (h1 : v.oneCell' = true) (hl2 : Nat.blt o cs.length = true) (hcs : cs.set o v = cs')
    (h : J P E n ops rest Φ ρ K (Cl b e cs' :: L)) : J P E n ops (⟨none, .store s x y, t, pos, af, none⟩ :: rest) Φ ρ K (Cl b e cs :: L) :=
  J.op rfl (A.store1 hz hx hy hl h1 hl2 hcs) (by rintro _ _ _ ⟨rfl, rfl, rfl⟩; exact h)
theorem js {v : Value} {s e : TypeId} {b o sz : Nat} {cs : List Value} (cs' : List Value) (hz : (P.info? s).map (·.size) = some sz) (hx : ev n ρ x = .pointer (some ⟨b, o, none⟩)) (hy : ev n ρ y = v) (hl : v.cells.size = sz) (hl2 : Nat.ble (o + sz) cs.length = true) (h1 : v.cells.toList.all (fun u => u.oneCell') = true) (hcs : cs.take o ++ v.cells.toList ++ cs.drop (o + sz) = cs')
    (h : J P E n ops rest Φ ρ K (Cl b e cs' :: L)) : J P E n ops (⟨none, .store s x y, t, pos, af, none⟩ :: rest) Φ ρ K (Cl b e cs :: L) :=
  J.op rfl (A.store hz hx hy hl hl2 h1 hcs) (by rintro _ _ _ ⟨rfl, rfl, rfl⟩; exact h)
theorem cc {α : Type} {c : Operand} {a b : Code} {u : Bool} {m1 m2 : Option α} {r : α} (hc : ev n ρ c = .bool u) (h : cond u m1 m2 = some r) (ht : u = true → m1 = some r → CJ P E n a Φ ρ K L) (hf : u = false → m2 = some r → CJ P E n b Φ ρ K L) : CJ P E n (.cond c a b) Φ ρ K L :=
  CJ.cond hc (fun e => ht e (ct e h)) (fun e => hf e (cf e h))
/-- The ways of a region meet with nothing turned but slots. -/
theorem jmeet (l : List (Nat × Value)) {m : List Oper} {N : Sl0 → Hp → List Atom → Prop} (h1 : J P E n ops m (fun e ρ' K' L' => e = .normal ∧ Fits l ρ' ∧ K = K' ∧ L = L') ρ K L) (h2 : ∀ σ, N (ups l σ) K L) : J P E n ops m (Post.then N Φ) ρ K L :=
  J.meet (fun ρ' K' L' => Fits l ρ' ∧ K = K' ∧ L = L') h1 (by rintro ρ' _ _ ⟨hf, rfl, rfl⟩; obtain ⟨σ, rfl⟩ := hf.ex; exact h2 σ)
end
end Go.Proofs.Ytbaaamdljojknaa

/- A part of the proof: what lies ahead of the law. Nothing is claimed here. -/
import Derived.Test.YtmlbbjkojaljnaaDoorZ2
import Derived.Laws.CopyRow
import Derived.Laws.IdiomCopy
import Derived.Laws.Pointers
import Derived.MapKept
import Derived.LaidEqlPtr
import Derived.Conc.SmallLaws
namespace Go.Proofs.YtmlbbjkojaljnaaDoor
set_option linter.unusedVariables false
set_option linter.unusedSimpArgs false
set_option linter.unnecessarySimpa false
set_option linter.unusedSectionVars false
open Go.RowKit
section
variable [BldA]
section
variable {R : Type} {P : Program} {E : En} {n : Nat} {C : World → Prop} {mem : Bool} {A : List HA} {m : List M} {K : Hp} {fr : Frz} {σ : Zt} {ρ : Sl1}
def VOk (P : Program) (n : Nat) (C : World → Prop) (m : List M) (K : Hp) (σ : Zt) (ρ : Sl1) (op : Op) (k : Zt → SV → Option R) (r : R) : Prop :=
 ∃ σ' sv v, k σ' sv = some r ∧ Fine m K ρ σ σ' ∧ SV.rel m K sv v ∧ ∀ (d : Option Nat) (t : TypeId) (pos : String) (af : Array Edge) (g : Option (Nat × Bool)), Val P n C ρ ⟨d, op, t, pos, af, g⟩ v
theorem bifd {α : Type} {p : Prop} [Decidable p] {x : Option α} {r : α} (h : (bif decide p then x else none) = some r) : p ∧ x = some r := by
 by_cases hp : p
 · rw [decide_eq_true hp] at h; exact ⟨hp, h⟩
 · rw [decide_eq_false hp] at h; cases h
theorem bift {α : Type} {c : Bool} {x : Option α} {r : α} (h : (bif c then x else none) = some r) : c = true ∧ x = some r := by
 cases c
 · cases h
 · exact ⟨rfl, h⟩
theorem biff {α : Type} {c : Bool} {x : Option α} {r : α} (h : (bif c then none else x) = some r) : c = false ∧ x = some r := by
 cases c
 · exact ⟨rfl, h⟩
 · cases h
theorem eqI_ok {x y : List SV} {b : Bool} {us vs : List Value} (h : eqI x y = some b) (hx : SV.relL m K x us) (hy : SV.relL m K y vs) : ∃ k a c, us = [.int k a] ∧ vs = [.int k c] ∧ b = decide (a = c) := by
 unfold eqI at h
 split at h
 · split at h
   · rename_i hk
     subst hk
     cases h
     obtain ⟨p, q, rfl, h1, h2⟩ := relL_cons hx; obtain rfl := relL_nil h2
     obtain ⟨p', q', rfl, h1', h2'⟩ := relL_cons hy; obtain rfl := relL_nil h2'
     simp only [SV.rel] at h1 h1'; subst h1 h1'
     exact ⟨_, _, _, rfl, rfl, rfl⟩
   · cases h
 · cases h
theorem eqB_ok {x y : List SV} {b : Bool} {us vs : List Value} (h : eqB x y = some b) (hx : SV.relL m K x us) (hy : SV.relL m K y vs) : ∃ a c, us = [.bool a] ∧ vs = [.bool c] ∧ b = (a == c) := by
 unfold eqB at h
 split at h
 · cases h
   obtain ⟨p, q, rfl, h1, h2⟩ := relL_cons hx; obtain rfl := relL_nil h2
   obtain ⟨p', q', rfl, h1', h2'⟩ := relL_cons hy; obtain rfl := relL_nil h2'
   simp only [SV.rel] at h1 h1'; subst h1 h1'
   exact ⟨_, _, rfl, rfl, rfl⟩
 · cases h
theorem eqT_ok {x y : List SV} {b : Bool} {us vs : List Value} (h : eqT x y = some b) (hx : SV.relL m K x us) (hy : SV.relL m K y vs) : ∃ a c : List UInt8, us = [.string ⟨a.toArray⟩] ∧ vs = [.string ⟨c.toArray⟩] ∧ b = decide (a = c) := by
 unfold eqT at h
 split at h
 · cases h
   obtain ⟨p, q, rfl, h1, h2⟩ := relL_cons hx; obtain rfl := relL_nil h2
   obtain ⟨p', q', rfl, h1', h2'⟩ := relL_cons hy; obtain rfl := relL_nil h2'
   simp only [SV.rel] at h1 h1'; subst h1 h1'
   exact ⟨_, _, rfl, rfl, rfl⟩
 · cases h
def AggT (P : Program) (t : TypeId) : Prop := (∃ fs, P.underlying t = some (.struct fs)) ∨ ∃ n e, P.underlying t = some (.array n e)
theorem AggT.no {t : TypeId} {d : TypeDesc} (hu : P.underlying t = some d) (h1 : ∀ fs, d ≠ .struct fs) (h2 : ∀ n e, d ≠ .array n e) : ¬ AggT P t := fun h => by
 rcases h with ⟨fs, h⟩ | ⟨n, e, h⟩
 · rw [hu] at h; cases h; exact h1 _ rfl
 · rw [hu] at h; cases h; exact h2 _ _ rfl
theorem eqS_ok : ∀ (f : Nat) {t : TypeId} {x y : List SV} {b : Bool} {us vs : List Value} {d : Nat}, eqS P f t x y = some b → f ≤ d → SV.relL m K x us → SV.relL m K y vs →
   ∀ {u v : Value}, (us = [u] ∧ ¬ AggT P t ∨ u = .agg us.toArray ∧ AggT P t) → (vs = [v] ∧ ¬ AggT P t ∨ v = .agg vs.toArray ∧ AggT P t) → EqIn P d t u v b
 | 0, t, x, y, b, us, vs, d, h, _, _, _, _, _, _, _ => by cases h
 | f + 1, t, x, y, b, us, vs, d, h, hd, hx, hy, u, v, hu, hv => by
   obtain ⟨d, rfl⟩ : ∃ d', d = d' + 1 := ⟨d - 1, by omega⟩
   have leaf : ¬ AggT P t → us = [u] ∧ vs = [v] := fun hn => by
     rcases hu with ⟨hu, _⟩ | ⟨_, hf⟩
     · rcases hv with ⟨hv, _⟩ | ⟨_, hf⟩
       · exact ⟨hu, hv⟩
       · exact absurd hf hn
     · exact absurd hf hn
   have one : ∀ (g : TypeId) (o : Nat) (b : Bool), (match szOf P g with | some z => eqS P f g ((x.drop o).take z) ((y.drop o).take z) | none => none) = some b →
       ∃ p q, (∀ w, (part g us.toArray o).run P w = .ok p w) ∧ (∀ w, (part g vs.toArray o).run P w = .ok q w) ∧ EqIn P d g p q b := by
     intro g o b hg
     split at hg
     · rename_i z hz
       have rx : SV.relL m K ((x.drop o).take z) ((us.drop o).take z) := relL_take _ (relL_drop _ hx)
       have ry : SV.relL m K ((y.drop o).take z) ((vs.drop o).take z) := relL_take _ (relL_drop _ hy)
       by_cases hst : AggT P g
       · have hl : ∀ ws : List Value, ∀ w, (part g ws.toArray o).run P w = .ok (.agg ((ws.drop o).take z).toArray) w := fun ws => by
           rcases hst with ⟨fs', hst⟩ | ⟨n', e', hst⟩
           · exact Ld0.agg hst hz (by rw [List.extract_toArray]; simp [List.extract_eq_take_drop])
           · exact Ld0.arr hst hz (by rw [List.extract_toArray]; simp [List.extract_eq_take_drop])
         exact ⟨.agg ((us.drop o).take z).toArray, .agg ((vs.drop o).take z).toArray, hl us, hl vs, eqS_ok f hg (by omega) rx ry (.inr ⟨rfl, hst⟩) (.inr ⟨rfl, hst⟩)⟩
       · have key : ∃ p q, (us.drop o).take z = [p] ∧ (vs.drop o).take z = [q] ∧ scalar P g = true := by
           have := hg
           cases f with
           | zero => cases this
           | succ f =>
             unfold eqS at this
             split at this
             · rename_i ht'
               obtain ⟨_, _, _, h1, h2, _⟩ := eqI_ok this rx ry
               exact ⟨_, _, h1, h2, by unfold scalar; rw [ht']⟩
             · rename_i ht'
               obtain ⟨_, _, h1, h2, _⟩ := eqB_ok this rx ry
               exact ⟨_, _, h1, h2, by unfold scalar; rw [ht']⟩
             · rename_i ht'
               obtain ⟨_, _, h1, h2, _⟩ := eqT_ok this rx ry
               exact ⟨_, _, h1, h2, by unfold scalar; rw [ht']⟩
             · rename_i ht'; exact absurd (.inl ⟨_, ht'⟩) hst
             · rename_i ht'; exact absurd (.inr ⟨_, _, ht'⟩) hst
             · cases this
         obtain ⟨p, q, e1, e2, hsc⟩ := key
         have g1 : us[o]? = some p := by
           have : ((us.drop o).take z)[0]? = some p := by rw [e1]; rfl
           rw [List.getElem?_take] at this; split at this
           · rw [List.getElem?_drop] at this; simpa using this
           · cases this
         have g2 : vs[o]? = some q := by
           have : ((vs.drop o).take z)[0]? = some q := by rw [e2]; rfl
           rw [List.getElem?_take] at this; split at this
           · rw [List.getElem?_drop] at this; simpa using this
           · cases this
         exact ⟨p, q, Ld0.sc hsc (by simpa using g1), Ld0.sc hsc (by simpa using g2), eqS_ok f hg (by omega) rx ry (.inl ⟨e1, hst⟩) (.inl ⟨e2, hst⟩)⟩
     · cases hg
   unfold eqS at h
   split at h
   · rename_i k0 ht
     obtain ⟨e1, e2⟩ := leaf (AggT.no ht (by intro _ h; cases h) (by intro _ _ h; cases h))
     obtain ⟨k, a, c, h1, h2, rfl⟩ := eqI_ok h hx hy
     rw [e1] at h1; rw [e2] at h2; cases h1; cases h2
     exact EqIn.int rfl ht
   · rename_i ht
     obtain ⟨e1, e2⟩ := leaf (AggT.no ht (by intro _ h; cases h) (by intro _ _ h; cases h))
     obtain ⟨a, c, h1, h2, rfl⟩ := eqB_ok h hx hy
     rw [e1] at h1; rw [e2] at h2; cases h1; cases h2
     exact EqIn.bool rfl ht
   · rename_i ht
     obtain ⟨e1, e2⟩ := leaf (AggT.no ht (by intro _ h; cases h) (by intro _ _ h; cases h))
     obtain ⟨a, c, h1, h2, rfl⟩ := eqT_ok h hx hy
     rw [e1] at h1; rw [e2] at h2; cases h1; cases h2
     exact EqIn.str rfl ht
   · rename_i fs ht
     replace h := biff h; obtain ⟨h0, h⟩ := h
     rcases hu with ⟨_, hu⟩ | ⟨rfl, _⟩
     · exact absurd (.inl ⟨_, ht⟩) hu
     rcases hv with ⟨_, hv⟩ | ⟨rfl, _⟩
     · exact absurd (.inl ⟨_, ht⟩) hv
     refine EqIn.st rfl ht h0 ?_
     have gen : ∀ (fs : List Field) (b : Bool), eqS.go P (fun g a b => eqS P f g a b) fs x y = some b → EqFs P d us.toArray vs.toArray fs b := by
       intro fs
       induction fs with
       | nil => intro b hb; cases hb; exact EqFs.nil
       | cons g gs ih =>
         intro b hb
         cases gs with
         | nil =>
           unfold eqS.go at hb
           obtain ⟨hn, hb⟩ := biff hb
           obtain ⟨p, q, h1, h2, h3⟩ := one g.type g.offset b hb
           exact EqFs.last (by simpa using hn) h1 h2 h3
         | cons g2 gs =>
           unfold eqS.go at hb
           obtain ⟨hn, hb⟩ := biff hb
           split at hb
           · rename_i z hz
             split at hb
             · rename_i b1 b2 e1 e2
               cases hb
               obtain ⟨p, q, h1, h2, h3⟩ := one g.type g.offset b1 (by rw [hz]; exact e1)
               exact EqFs.cons (by simpa using hn) h1 h2 h3 (ih _ e2)
             · cases hb
           · cases hb
     exact gen _ _ h
   · rename_i len e ht
     split at h
     · rename_i z hz
       rcases hu with ⟨_, hu⟩ | ⟨rfl, _⟩
       · exact absurd (.inr ⟨_, _, ht⟩) hu
       rcases hv with ⟨_, hv⟩ | ⟨rfl, _⟩
       · exact absurd (.inr ⟨_, _, ht⟩) hv
       refine EqIn.arr rfl ht hz ?_
       rw [List.range_eq_range']
       have gen : ∀ (n i : Nat) (b : Bool), eqA (fun a b => eqS P f e a b) z x y n i = some b → EqIs P d e z us.toArray vs.toArray (List.range' i n) b := by
         intro n
         induction n with
         | zero => intro i b hb; cases hb; exact EqIs.nil
         | succ n ih =>
           intro i b hb
           cases n with
           | zero =>
             obtain ⟨p, q, h1, h2, h3⟩ := one e (i * z) b (by rw [hz]; exact hb)
             have := EqIs.cons (is := []) h1 h2 h3 EqIs.nil
             rw [Bool.and_true] at this
             exact this
           | succ n =>
             unfold eqA at hb
             split at hb
             · rename_i b1 b2 e1 e2
               cases hb
               obtain ⟨p, q, h1, h2, h3⟩ := one e (i * z) b1 (by rw [hz]; exact e1)
               exact EqIs.cons h1 h2 h3 (ih _ _ e2)
             · cases hb
       exact gen _ _ _ h
     · cases h
   · cases h
def Bok (P : Program) (n : Nat) (C : World → Prop) (m : List M) (K : Hp) (σ : Zt) (ρ : Sl1) (op : BinOp) (t : TypeId) (x y : Operand) (k : Zt → SV → Option R) (r : R) : Prop :=
 ∃ sv v, k σ sv = some r ∧ SV.rel m K sv v ∧ ∀ (yt : TypeId) (d : Option Nat) (t' : TypeId) (pos : String) (af : Array Edge) (g : Option (Nat × Bool)), Val P n C ρ ⟨d, .binOp op t x y yt, t', pos, af, g⟩ v
section
variable {op : BinOp} {t : TypeId} {x y : Operand} {k : Zt → SV → Option R} {r : R}
theorem arith_ok {q : IntKind} {a b : Int} {sv : SV} (h : arith op q a b = some sv) (hx : ev n ρ x = .int q a) (hy : ev n ρ y = .int q b) : ∃ v, SV.rel m K sv v ∧ ∀ (yt : TypeId) (d : Option Nat) (t' : TypeId) (pos : String) (af : Array Edge) (g : Option (Nat × Bool)), Val P n C ρ ⟨d, .binOp op t x y yt, t', pos, af, g⟩ v := by
 unfold arith at h
 split at h <;> first | (cases h; done) | skip
 all_goals cases h
 · exact ⟨_, rfl, fun _ _ _ _ _ _ => V.add hx hy⟩
 · exact ⟨_, rfl, fun _ _ _ _ _ _ => V.sub hx hy⟩
 · exact ⟨_, rfl, fun _ _ _ _ _ _ => V.mul hx hy⟩
 · exact ⟨_, rfl, fun _ _ _ _ _ _ => V.and hx hy⟩
 · exact ⟨_, rfl, fun _ _ _ _ _ _ => V.or hx hy⟩
 · exact ⟨_, rfl, fun _ _ _ _ _ _ => V.xor hx hy⟩
 · exact ⟨_, rfl, fun _ _ _ _ _ _ => V.andNot hx hy⟩
 · exact ⟨_, rfl, fun _ _ _ _ _ _ => V.lss hx hy⟩
 · exact ⟨_, rfl, fun _ _ _ _ _ _ => V.leq hx hy⟩
 · exact ⟨_, rfl, fun _ _ _ _ _ _ => V.gtr hx hy⟩
 · exact ⟨_, rfl, fun _ _ _ _ _ _ => V.geq hx hy⟩
 · exact ⟨_, rfl, fun _ _ _ _ _ _ => V.eql hx hy⟩
 · exact ⟨_, rfl, fun _ _ _ _ _ _ => V.neq hx hy⟩
theorem binI_ok {q q' : IntKind} {a b : Int} (h : binI σ op q a q' b k = some r) (hx : ev n ρ x = .int q a) (hy : ev n ρ y = .int q' b) : Bok P n C m K σ ρ op t x y k r := by
 unfold binI at h
 split at h
 · replace h := ob h; obtain ⟨_, hu, h⟩ := h
   exact ⟨_, _, h, rfl, fun _ _ _ _ _ _ => V.shl hx hy (ge0_some hu)⟩
 · replace h := ob h; obtain ⟨_, hu, h⟩ := h
   exact ⟨_, _, h, rfl, fun _ _ _ _ _ _ => V.shr hx hy (ge0_some hu)⟩
 · split at h
   · rename_i hq; subst hq
     replace h := ob h; obtain ⟨_, hu, h⟩ := h
     exact ⟨_, _, h, rfl, fun _ _ _ _ _ _ => V.quo hx hy (nz_some hu)⟩
   · cases h
 · split at h
   · rename_i hq; subst hq
     replace h := ob h; obtain ⟨_, hu, h⟩ := h
     exact ⟨_, _, h, rfl, fun _ _ _ _ _ _ => V.rem hx hy (nz_some hu)⟩
   · cases h
 · split at h
   · rename_i hq; subst hq
     split at h
     · rename_i v hv
       obtain ⟨u, h1, h2⟩ := arith_ok (P := P) (C := C) (m := m) (K := K) (t := t) hv hx hy
       exact ⟨_, u, h, h1, h2⟩
     · cases h
   · cases h
theorem binB_ok {a b : Bool} (h : binB P σ op t a b k = some r) (hx : ev n ρ x = .bool a) (hy : ev n ρ y = .bool b) : Bok P n C m K σ ρ op t x y k r := by
 unfold binB at h
 split at h
 · rename_i ht
   split at h
   · exact ⟨_, _, h, rfl, fun _ _ _ _ _ _ => V.eqb ht hx hy⟩
   · exact ⟨_, _, h, rfl, fun _ _ _ _ _ _ => V.neb ht hx hy⟩
   · cases h
 · cases h
theorem binT_ok {a b : List UInt8} (h : binT σ op a b k = some r) (hx : ev n ρ x = .string ⟨a.toArray⟩) (hy : ev n ρ y = .string ⟨b.toArray⟩) : Bok P n C m K σ ρ op t x y k r := by
 unfold binT at h
 split at h
 · exact ⟨_, _, h, rfl, fun _ _ _ _ _ _ => V.eqs hx hy⟩
 · exact ⟨_, _, h, rfl, fun _ _ _ _ _ _ => V.nes hx hy⟩
 · replace h := ob h; obtain ⟨z, hz, h⟩ := h
   exact ⟨_, _, h, rfl, fun _ _ _ _ _ _ => V.cat hx hy hz⟩
 · cases h
theorem binA_ok {a b : List SV} {us vs : List Value} (h : binA P σ op t a b k = some r) (ha : SV.relL m K a us) (hb : SV.relL m K b vs) (hx : ev n ρ x = .agg us.toArray) (hy : ev n ρ y = .agg vs.toArray) : Bok P n C m K σ ρ op t x y k r := by
 unfold binA at h
 replace h := biff h; obtain ⟨hg, h⟩ := h
 split at h
 · rename_i fs e ht he
   have hst : AggT P t := .inl ⟨fs, ht⟩
   have hq : EqIn P 10000 t (.agg us.toArray) (.agg vs.toArray) e := eqS_ok 10 he (by decide) ha hb (.inr ⟨rfl, hst⟩) (.inr ⟨rfl, hst⟩)
   split at h
   · exact ⟨_, _, h, rfl, fun _ _ _ _ _ _ => V.eqst hg hq hx hy⟩
   · exact ⟨_, _, h, rfl, fun _ _ _ _ _ _ => V.nest hg hq hx hy⟩
   · cases h
 · rename_i len ee e ht he
   have hst : AggT P t := .inr ⟨len, ee, ht⟩
   have hq : EqIn P 10000 t (.agg us.toArray) (.agg vs.toArray) e := eqS_ok 10 he (by decide) ha hb (.inr ⟨rfl, hst⟩) (.inr ⟨rfl, hst⟩)
   split at h
   · exact ⟨_, _, h, rfl, fun _ _ _ _ _ _ => V.eqst hg hq hx hy⟩
   · exact ⟨_, _, h, rfl, fun _ _ _ _ _ _ => V.nest hg hq hx hy⟩
   · cases h
 · cases h
theorem isNilP_ok {B : List HA} {v : SV} {b : Bool} {u : Value} (h : isNilP B v = some b) (hB : ∀ a ∈ B, HA.ok m K a) (hv : SV.rel m K v u) : ∃ p, u = .pointer p ∧ b = p.isNone := by
 unfold isNilP at h
 split at h
 · split at h
   · rename_i q hq
     cases h
     obtain ⟨a, ha, hmem⟩ := findR_spec hq
     obtain rfl := boxR_eq ha
     obtain ⟨v, K0, h1, _, _, h5⟩ := hB _ hmem
     have h2 := hv.1
     rw [h1] at h2; cases h2
     rcases h5 with ⟨e, rfl⟩ | ⟨y, b, e, rfl⟩
     · exact ⟨_, rfl, by rw [e]; rfl⟩
     · exact ⟨_, rfl, by rw [e]; rfl⟩
   · cases h
 · cases h; obtain ⟨g, _, _, _, _, _, rfl⟩ := hv; exact ⟨_, rfl, rfl⟩
 · cases h; simp only [SV.rel] at hv; exact ⟨_, hv, rfl⟩
 · cases h; obtain ⟨b, _, rfl⟩ := hv; exact ⟨_, rfl, rfl⟩
 · cases h; obtain ⟨b, o, rfl, _⟩ := hv; exact ⟨_, rfl, rfl⟩
 · rename_i t x
   cases h
   cases x with
   | none => exact ⟨_, Is.ptr0 hv, rfl⟩
   | some y => obtain ⟨b, o, rfl, _⟩ := Is.ptr hv; exact ⟨_, rfl, rfl⟩
 · cases h
theorem binP_ok {v : SV} (h : binP P σ op t v k = some r) (hB : ∀ a ∈ σ.H ++ σ.Hf, HA.ok m K a) (hx : SV.rel m K v (ev n ρ x)) (hy : ev n ρ y = .pointer none) : Bok P n C m K σ ρ op t x y k r := by
 unfold binP at h
 split at h
 · rename_i e b ht hb
   obtain ⟨p, hp, rfl⟩ := isNilP_ok hb hB hx
   split at h
   · exact ⟨_, _, h, rfl, fun _ _ _ _ _ _ => V.pn_eql ht hp hy⟩
   · exact ⟨_, _, h, rfl, fun _ _ _ _ _ _ => V.pn_neq ht hp hy⟩
   · cases h
 · cases h
theorem binF_ok {f : Fn} {u v : Array Value} (h : binF P σ op t k = some r) (hx : ev n ρ x = .func f u v) (hy : ev n ρ y = .nilFunc) : Bok P n C m K σ ρ op t x y k r := by
 unfold binF at h
 split at h
 · rename_i a b c ht
   split at h
   · exact ⟨_, _, h, rfl, fun _ _ _ _ _ _ => V.fn_eql ht hx hy⟩
   · exact ⟨_, _, h, rfl, fun _ _ _ _ _ _ => V.fn_neq ht hx hy⟩
   · cases h
 · cases h
theorem V.ifc_eql {ms : Array (String × TypeId)} {u : TypeId} {v : Value} {a b : Operand} {T : TypeId} (ht : P.underlying t = some (.interface ms)) (hx : ev n ρ a = .iface u v) (hy : ev n ρ b = .nilIface) {C : World → Prop} {d : Option Nat} {ty : TypeId} {pos : String} {af : Array Edge} {g : Option (Nat × Bool)} : Val P n C ρ ⟨d, .binOp .eql t a b T, ty, pos, af, g⟩ (.bool false) := fun w _ => by
 have h : (Op.equal t (.iface u v) .nilIface).run P w = .ok false w := by
   unfold Op.equal
   rw [show Op.maxDepth = 9999 + 1 from rfl, Op.equalIn]
   simp only [Sem.run_bind, run_underlying ht, Result.andThen]
   rfl
 simp [execOp, eqGuard, hx, hy, binOp, h]
theorem V.ifc_neq {ms : Array (String × TypeId)} {u : TypeId} {v : Value} {a b : Operand} {T : TypeId} (ht : P.underlying t = some (.interface ms)) (hx : ev n ρ a = .iface u v) (hy : ev n ρ b = .nilIface) {C : World → Prop} {d : Option Nat} {ty : TypeId} {pos : String} {af : Array Edge} {g : Option (Nat × Bool)} : Val P n C ρ ⟨d, .binOp .neq t a b T, ty, pos, af, g⟩ (.bool true) := fun w _ => by
 have h : (Op.equal t (.iface u v) .nilIface).run P w = .ok false w := by
   unfold Op.equal
   rw [show Op.maxDepth = 9999 + 1 from rfl, Op.equalIn]
   simp only [Sem.run_bind, run_underlying ht, Result.andThen]
   rfl
 simp [execOp, eqGuard, hx, hy, binOp, h]
theorem binE_ok {u : TypeId} {v : Value} (h : binE P σ op t k = some r) (hx : ev n ρ x = .iface u v) (hy : ev n ρ y = .nilIface) : Bok P n C m K σ ρ op t x y k r := by
 unfold binE at h
 split at h
 · rename_i ms ht
   split at h
   · exact ⟨_, _, h, rfl, fun _ _ _ _ _ _ => V.ifc_eql ht hx hy⟩
   · exact ⟨_, _, h, rfl, fun _ _ _ _ _ _ => V.ifc_neq ht hx hy⟩
   · cases h
 · cases h
theorem isNilS_ok {v sv : SV} {neg : Bool} {u : Value} (h : isNilS σ neg v = some sv) (hB : ∀ a ∈ σ.H ++ σ.Hf, HA.ok m K a) (hv : SV.rel m K v u) : ∃ p l c, u = .slice p l c ∧ SV.rel m K sv (.bool (p.isNone ^^ neg)) := by
 unfold isNilS at h
 split at h
 · cases h; simp only [SV.rel] at hv; subst hv; exact ⟨none, 0, 0, rfl, by cases neg <;> rfl⟩
 · rename_i t l k
   cases h
   obtain ⟨hi, rfl⟩ := hv
   obtain ⟨ad, cap, rfl⟩ := hi.slv
   refine ⟨ad, _, cap, rfl, ad.isNone, rfl, fun hn => ?_⟩
   cases ad with
   | none => exact hi.nil_of
   | some a => cases hn
 · split at h
   · rename_i i q hq
     cases h
     obtain ⟨a, ha, hmem⟩ := findR_spec hq
     obtain rfl := rowR_eq ha
     obtain ⟨ad, cap, cs, h1, _, _, _, _, _, h2⟩ := hB _ hmem
     have h3 := hv.1
     rw [h1] at h3; cases h3
     refine ⟨ad, _, cap, rfl, ad.isNone, rfl, fun hn => ?_⟩
     cases ad with
     | none => exact hn_nil h2
     | some a => cases hn
   · split at h
     · rename_i q hq
       cases h
       obtain ⟨a, ha, hmem⟩ := findR_spec hq
       obtain rfl := rowsR_eq ha
       obtain ⟨v', K0, h1, _, _, ad, cap, rfl, h2⟩ := hB _ hmem
       have h3 := hv.1
       rw [h1] at h3; cases h3
       refine ⟨ad, _, cap, rfl, ad.isNone, rfl, fun hn => ?_⟩
       cases ad with
       | none =>
         cases hl : q.l with
         | nil => rfl
         | cons y ys =>
           obtain ⟨g, hg⟩ := h2 (by rw [hl]; exact Nat.succ_ne_zero _)
           cases hg
       | some a => cases hn
     · cases h
 · cases h
theorem binN_ok {v : SV} (h : binN P σ op t v k = some r) (hB : ∀ a ∈ σ.H ++ σ.Hf, HA.ok m K a) (hx : SV.rel m K v (ev n ρ x)) (hy : ev n ρ y = .slice none 0 0) : Bok P n C m K σ ρ op t x y k r := by
 unfold binN at h
 split at h
 · rename_i e ht
   split at h
   · split at h
     · rename_i sv hsv
       obtain ⟨p, l, c, hp, hr⟩ := isNilS_ok hsv hB hx
       rw [Bool.xor_false] at hr
       exact ⟨_, _, h, hr, fun _ _ _ _ _ _ => V.sn_eql ht hp hy⟩
     · cases h
   · split at h
     · rename_i sv hsv
       obtain ⟨p, l, c, hp, hr⟩ := isNilS_ok hsv hB hx
       rw [Bool.xor_true] at hr
       exact ⟨_, _, h, hr, fun _ _ _ _ _ _ => V.sn_neq ht hp hy⟩
     · cases h
   · cases h
 · cases h
theorem bin_ok (h : bin P σ op t (σ.ev n x) (σ.ev n y) k = some r) (hp : Pur fr σ m K ρ) : Bok P n C m K σ ρ op t x y k r := by
 have hx := hp.ev n x
 have hy := hp.ev n y
 unfold bin at h
 split at h
 · rename_i e1 e2; rw [e1] at hx; rw [e2] at hy; exact binI_ok h hx hy
 · rename_i e1 e2; rw [e1] at hx; rw [e2] at hy; exact binB_ok h hx hy
 · rename_i e1 e2; rw [e1] at hx; rw [e2] at hy; exact binT_ok h hx hy
 · rename_i e1 e2; rw [e1] at hx; rw [e2] at hy
   obtain ⟨us, hx, h1⟩ := hx
   obtain ⟨vs, hy, h2⟩ := hy
   exact binA_ok h h1 h2 hx hy
 · rename_i e1 e2; rw [e1] at hx; rw [e2] at hy
   obtain ⟨us, hx, h1⟩ := hx
   exact binF_ok h hx hy
 · rename_i e1 e2; rw [e1] at hx; rw [e2] at hy
   obtain ⟨us, hx, h1⟩ := hx
   exact binE_ok h hx hy
 · rename_i e2; rw [e2] at hy; exact binP_ok h hp.all hx hy
 · rename_i e2; rw [e2] at hy; exact binN_ok h hp.all hx hy
 · cases h
end
section
variable {k : Zt → SV → Option R} {r : R}
theorem lohi_ok {lo hi : Option Operand} {len l h : Int} (hh : lohi σ n lo hi len = some (l, h)) (hp : Pur fr σ m K ρ) : (∀ q, lo = some q → ∃ k, ev n ρ q = .int k l) ∧ (lo = none → l = 0) ∧ (∀ q, hi = some q → ∃ k, ev n ρ q = .int k h) ∧ (hi = none → h = len) := by
 unfold lohi at hh
 split at hh
 · rename_i l' h' h1 h2
   cases hh
   refine ⟨fun q hq => ?_, fun hq => ?_, fun q hq => ?_, fun hq => ?_⟩
   · subst hq
     simp only at h1
     split at h1
     · rename_i kk z hz
       cases h1
       have := hp.ev n q
       rw [hz] at this
       exact ⟨_, this⟩
     · cases h1
   · subst hq; cases h1; rfl
   · subst hq
     simp only at h2
     split at h2
     · rename_i kk z hz
       cases h2
       have := hp.ev n q
       rw [hz] at this
       exact ⟨_, this⟩
     · cases h2
   · subst hq; cases h2; rfl
 · cases hh
theorem vun_ok {op : UnOp} {t : TypeId} {x : Operand} (h : vun σ op (σ.ev n x) k = some r) (hp : Pur fr σ m K ρ) : VOk P n C m K σ ρ (.unOp op t x) k r := by
 have hx := hp.ev n x
 unfold vun at h
 split at h
 · rename_i e; rw [e] at hx; exact ⟨_, _, _, h, .inl rfl, rfl, fun _ _ _ _ _ => V.not hx⟩
 · rename_i e; rw [e] at hx; exact ⟨_, _, _, h, .inl rfl, rfl, fun _ _ _ _ _ => V.neg hx⟩
 · cases h
theorem vconv_ok {s d : TypeId} {x : Operand} (h : vconv P mem A σ s d (σ.ev n x) k = some r) (hp : Pur fr σ m K ρ) (hc : Cls E C mem A m K) : VOk P n C m K σ ρ (.convert s d x) k r := by
 have hx := hp.ev n x
 unfold vconv at h
 split at h
 · rename_i k1 k2 k3 a hs hd e
   rw [e] at hx
   split at h
   · rename_i hk; subst hk
     exact ⟨_, _, _, h, .inl rfl, rfl, fun _ _ _ _ _ => V.conv hs hd hx⟩
   · cases h
 · rename_i e hs hd
   split at h
   · rename_i he ev0
     rw [ev0] at hx
     refine ⟨_, _, .string ⟨(toU8 []).toArray⟩, h, .inl rfl, rfl, fun _ _ _ _ _ => fun w hw => ?_⟩
     have := run_b2s (P := P) (w := w) (cp := 0) (m := 0) (ad := none) (xs := []) hs he hd rfl (fun b hb => by cases hb) (fun _ => rfl)
     simp only [SV.rel] at hx
     simp [execOp, hx, this]
   · rename_i l nn he ev0
     rw [ev0] at hx
     replace h := bift h; obtain ⟨hm, h⟩ := h
     obtain ⟨hi, rfl⟩ := hx
     obtain ⟨ad, cp, hv⟩ := hi.slv
     rw [hv] at hi
     refine ⟨_, _, .string ⟨(toU8 l).toArray⟩, h, .inl rfl, rfl, fun _ _ _ _ _ => fun w hw => ?_⟩
     have hcell : ∀ b, ad = some b → ∀ j u, (l.map (Value.int .u8))[j]? = some u → w.cell? (b.add j) = some u := by
       intro b hb j u hj
       subst hb
       simp only [Is] at hi
       obtain ⟨ad', cap', h0, _, _, h4⟩ := hi
       simp only [List.cons.injEq, Value.slice.injEq, and_true] at h0
       obtain ⟨rfl, _, rfl⟩ := h0
       rw [List.getElem?_map, Option.map_eq_some_iff] at hj
       obtain ⟨z, hz, rfl⟩ := hj
       obtain ⟨b', o', hb, h5⟩ := h4 (fun e => by rw [e] at hz; simp at hz)
       cases hb
       obtain ⟨es, e1, e2, e3⟩ := h5 j z hz
       replace e2 : es = [.int .u8 z] := e2
       subst e2
       have := e3 0 (by decide)
       simp only [Tp.size, Nat.mul_one, Nat.add_zero] at this
       rw [addr_add]
       exact hc.kn hm _ _ _ this w hw
     have := run_b2s (P := P) (w := w) (cp := cp) (ad := ad) (xs := l) hs he hd rfl hcell (fun e => by subst e; exact hi.nil_of)
     simp [execOp, hv, this]
   · rename_i i he ev0
     rw [ev0] at hx
     split at h
     · rename_i c e' l nn hq
       obtain ⟨a, ha, hmem⟩ := findR_spec hq
       obtain rfl := rowR_eq ha
       have hok := (hc.rd _ hmem).1
       obtain ⟨ad, cap, cs, h1, h2, h3, h4⟩ := hc.row hmem
       obtain ⟨ad', cap', cs', g1, g2, g3, g4, _, _, g5⟩ := hok
       rw [h1] at g1; cases g1
       dsimp only at h1 h2 h3 g4 g5
       have hv := hx.1
       rw [h1] at hv
       have hv : ev n ρ x = .slice ad nn cap := by simp only [Option.some.injEq, M.val.injEq] at hv; exact hv.symm
       obtain rfl := els_u8 h3
       refine ⟨_, _, .string ⟨(toU8 l).toArray⟩, h, .inl rfl, rfl, fun _ _ _ _ _ => fun w hw => ?_⟩
       have hne : ad = none → l = [] := fun e => by subst e; exact hn_nil g5
       have hcell : ∀ b, ad = some b → ∀ j u, (l.map (Value.int .u8))[j]? = some u → w.cell? (b.add j) = some u := by
         intro b hb j u hj
         obtain ⟨g, hg⟩ := g5 (fun e => by rw [e] at hj; simp at hj)
         rw [hb] at hg; cases hg
         rw [addr_add, Nat.zero_add]
         exact h4 g hb j u hj w hw
       have := run_b2s (P := P) (w := w) (cp := cap) (ad := ad) (xs := l) hs he hd g4.symm hcell hne
       simp [execOp, hv, this]
     · cases h
   · cases h
 · cases h
theorem vcall_ok {c : Call} (h : vcall P n σ c k = some r) (hp : Pur fr σ m K ρ) : VOk P n C m K σ ρ (.call c) k r := by
 obtain ⟨cal, args, ats⟩ := c
 unfold vcall at h
 split at h
 · rename_i x t e0 e1 e2
   simp only at e0 e1 e2
   subst e0
   obtain rfl : args = #[x] := by simpa using congrArg List.toArray e1
   obtain rfl : ats = #[t] := by simpa using congrArg List.toArray e2
   have hx := hp.ev n x
   split at h
   · rename_i ht
     split at h
     · rename_i s es; rw [es] at hx
       exact ⟨_, _, _, h, .inl rfl, rfl, fun _ _ _ _ _ => V.lens ht hx⟩
     · cases h
   · rename_i e ht
     split at h
     · cases h
     · rename_i hns
       split at h
       · rename_i z hz
         obtain ⟨ad, kk, cap, hv, rfl⟩ := lenOf_ok hz hp.all (fun s hs => hns s hs) hx
         exact ⟨_, _, _, h, .inl rfl, rfl, fun _ _ _ _ _ => V.len ht hv⟩
       · cases h
   · cases h
 · rename_i x y e0 e1
   simp only at e0 e1
   subst e0
   obtain rfl : args = #[x, y] := by simpa using congrArg List.toArray e1
   have hx := hp.ev n x
   have hy := hp.ev n y
   split at h
   · rename_i e3 e4; rw [e3] at hx; rw [e4] at hy
     split at h
     · rename_i hq; subst hq
       exact ⟨_, _, _, h, .inl rfl, rfl, fun _ _ _ _ _ => V.max hx hy⟩
     · cases h
   · cases h
 · rename_i x y e0 e1
   simp only at e0 e1
   subst e0
   obtain rfl : args = #[x, y] := by simpa using congrArg List.toArray e1
   have hx := hp.ev n x
   have hy := hp.ev n y
   split at h
   · rename_i e3 e4; rw [e3] at hx; rw [e4] at hy
     split at h
     · rename_i hq; subst hq
       exact ⟨_, _, _, h, .inl rfl, rfl, fun _ _ _ _ _ => V.min hx hy⟩
     · cases h
   · cases h
 · cases h
theorem chR_eq {i : Nat} {a : HA} {q : ChR} (h : a.chR i = some q) : (∃ c, a = .od i c (.obj 1 (.cons (.int .i64) (.one (.sl q.t)))) q.x) ∨ ∃ c o x, a = .od i c (.chn o) x ∧ q = ⟨o.tp, x⟩ := by
 unfold HA.chR at h
 split at h
 · rename_i j c t x
   replace h := bift h; obtain ⟨hb, h⟩ := h
   obtain rfl := Nat.eq_of_beq_eq_true hb
   cases h
   exact .inl ⟨c, rfl⟩
 · rename_i j c t x
   replace h := bift h; obtain ⟨hb, h⟩ := h
   obtain rfl := Nat.eq_of_beq_eq_true hb
   cases h
   exact .inr ⟨c, _, _, rfl, rfl⟩
 · cases h
theorem chR_obj {i : Nat} {a : HA} {q : ChR} {E : En} {K' : Hp} {L : List Atom} {w : World} (hq : a.chR i = some q) : ∀ (y : Int × List q.t.den), q.x = some y → HA.ok m K a → Sep E K' (HA.conc m a :: L) w →
   ∃ rr buf sent rcvd, m[i]? = some (.val (.chan (some rr))) ∧ w.heap[rr]? = some (.chan (Int.toNat y.1) buf false sent rcvd false) ∧ (0 : Int) ≤ y.1 ∧ (buf.size : Int) = ((y.2.length : Nat) : Int) := by
 rcases chR_eq hq with ⟨c, rfl⟩ | ⟨c, o, x1, rfl, rfl⟩
 · rintro y hqx ⟨v, K0, g0, g1, _, hf⟩ hs
   simp only [HA.conc, g0, g1, hqx] at hs
   obtain ⟨h0, ⟨rr, o, e1, ⟨buf, sent, rcvd, rfl, h5, h6⟩, rfl⟩, hd, hs⟩ := hs
   exact ⟨rr, buf, sent, rcvd, by rw [g0]; simpa [objVal] using e1, hs.sub rr (.chan (Int.toNat y.1) buf false sent rcvd false) (Hp.join_right (by simp [one]) (hd rr (.chan (Int.toNat y.1) buf false sent rcvd false) (by simp [one]))), h5, by rw [← Array.length_toList, h6, List.length_map]⟩
 · intro (y : Int × List o.tp.den) (hqx : x1 = (some y : Option (Int × List o.tp.den))) ⟨v, K0, g0, g1, _, hf⟩ hs
   subst hqx
   simp only [HA.conc, g0, g1] at hs
   obtain ⟨h0, ⟨rr, buf, sent, rcvd, e1, h5, h6, hst⟩, hd, hs⟩ := hs
   have hs := Sep.split ⟨h0, hst, hd, hs⟩
   have hb := hs.swap.fact (fun h k => EEls.len (k := 1) (fun es x h k => by rw [OT.own_len o k, h6]) k)
   obtain ⟨h1, rfl, hd, hs⟩ := hs
   exact ⟨rr, buf, sent, rcvd, by rw [g0]; simpa using e1, hs.sub rr (.chan (Int.toNat y.1) buf false sent rcvd false) (Hp.join_right (by simp [one]) (hd rr (.chan (Int.toNat y.1) buf false sent rcvd false) (by simp [one]))), h5, by rw [← Array.length_toList, hb, Nat.mul_one]⟩
theorem chan_len {ats : Array TypeId} {t : TypeId} {e : TypeId} {dir : ChanDir} {tx : TypeId} (ht : P.underlying t = some (.chan dir e)) {w : World} {rr cp : Nat} {buf : Array Value} {s rc : Nat} (hw : w.heap[rr]? = some (.chan cp buf false s rc false)) :
   (Builtin.len_ #[t] tx #[.chan (some rr)]).run P w = .ok (goInt (buf.size : Int)) w ∧ (Builtin.cap_ #[t] tx #[.chan (some rr)]).run P w = .ok (goInt (cp : Int)) w := by
 constructor
 · simp [Builtin.len_, run_underlying ht, getObj, hw, Sem.run]
 · simp [Builtin.cap_, run_underlying ht, getObj, hw, Sem.run]
theorem chS_ok {t e tx : TypeId} {dir : ChanDir} {cap : Bool} {x : Operand} (ht : P.underlying t = some (.chan dir e)) (h : chS n A σ cap x k = some r) (hp : Pur fr σ m K ρ) (hc : Cls E C mem A m K) :
   VOk P n C m K σ ρ (.call ⟨.builtin (bif cap then .cap else .len), #[x], #[t]⟩) k r := by
 have hx := hp.ev n x
 unfold chS at h
 split at h
 · rename_i i ei
   rw [ei] at hx
   split at h
   · rename_i q hq
     obtain ⟨a, ha, hmem⟩ := findR_spec hq
     cases hqx : q.x with
     | none => rw [hqx] at h; cases h
     | some y =>
       rw [hqx] at h
       replace h : k σ (.int .i64 (bif cap then y.1 else ((y.2.length : Nat) : Int))) = some r := h
       obtain ⟨hok, hrd⟩ := hc.rd _ hmem
       refine ⟨_, _, _, h, .inl rfl, rfl, fun d t' pos af g w hw => ?_⟩
       obtain ⟨K', L', hs⟩ := hrd w hw
       obtain ⟨rr, buf, sent, rcvd, g0, hob, h5, hl⟩ := chR_obj ha y hqx hok hs
       have hvv : ev n ρ x = .chan (some rr) := by have hv := hx.1; rw [g0] at hv; simpa using hv.symm
       obtain ⟨k1, k2⟩ := chan_len (ats := #[]) (tx := t') ht hob
       cases cap with
       | true =>
         simp only [cond_true]
         have e9 : goInt ((Int.toNat y.1 : Nat) : Int) = Value.int .i64 y.1 := by rw [Int.toNat_of_nonneg h5]; rfl
         rw [e9] at k2
         simp [execOp, resolve, invoke, builtin, hvv, k2]
       | false =>
         simp only [cond_false]
         have e9 : goInt (buf.size : Int) = Value.int .i64 ((y.2.length : Nat) : Int) := by rw [hl]; rfl
         rw [e9] at k1
         simp [execOp, resolve, invoke, builtin, hvv, k1]
   · cases h
 · cases h
theorem mapR_eq {i : Nat} {a : HA} {x : Option (List (Int × Int))} (h : a.mapR i = some x) : ∃ c, a = .od i c (.obj 0 (.sl (.cons (.int .i64) (.one (.int .i64))))) x := by
 unfold HA.mapR at h
 split at h
 · rename_i j c x'
   replace h := bift h; obtain ⟨hb, h⟩ := h
   obtain rfl := Nat.eq_of_beq_eq_true hb
   cases h
   exact ⟨c, rfl⟩
 · cases h
theorem keyInt {t : TypeId} (h : P.underlying t = some (.int .i64)) : KeyNow P t (.int .i64) := ⟨⟨_, h, fun a b => by
 show some ((a : Int) == b) = some (decide ((b : Int) = a))
 by_cases hb : (b : Int) = a
 · subst hb; simp
 · have hb' : ¬ (a : Int) = b := fun e => hb e.symm
   simp [hb, hb'], fun e n a w => by
 unfold Instr.checkKey
 simp only [Sem.run_bind, run_underlying h, Result.andThen, keyV]
 rfl, fun n a => by simp [Instr.sameBits, keyV]⟩⟩
theorem mapOk_ok {mt : TypeId} (h : mapOk P mt = true) : ∃ t et, P.underlying mt = some (.map t et) ∧ P.underlying t = some (.int .i64) ∧ ∀ w, (zeroValue et).run P w = .ok (.int .i64 0) w := by
 unfold mapOk at h
 split at h
 · rename_i t et hm
   split at h
   · rename_i i ht hi
     split at h
     · rename_i hz
       refine ⟨t, et, hm, ht, fun w => ?_⟩
       unfold zeroValue
       simp [Sem.run_bind, typeInfo, hi, hz, Result.andThen]
     · cases h
   · cases h
 · cases h
theorem lookS_ok {mt : TypeId} {x y : Operand} {ok : Bool} (h : lookS P n A σ mt x y ok k = some r) (hp : Pur fr σ m K ρ) (hc : Cls E C mem A m K) : VOk P n C m K σ ρ (.lookup mt x y ok) k r := by
 have hx := hp.ev n x
 have hy := hp.ev n y
 unfold lookS at h
 replace h := bift h; obtain ⟨hm, h⟩ := h
 obtain ⟨kt, et, m1, m2, m3⟩ := mapOk_ok hm
 split at h
 · rename_i i c ei ec
   rw [ei] at hx
   rw [ec] at hy
   replace hy : ev n ρ y = .int .i64 c := hy
   split at h
   · rename_i q hq
     obtain ⟨a, ha, hmem⟩ := findR_spec hq
     obtain ⟨c0, rfl⟩ := mapR_eq ha
     cases q with
     | none => cases h
     | some l =>
       simp only [Option.bind_some] at h
       obtain ⟨⟨v, K0, g0, g1, _, hf⟩, hrd⟩ := hc.rd _ hmem
       have hv := hx.1
       rw [g0] at hv
       simp only [Option.some.injEq, M.val.injEq] at hv
       have key : ∀ w, C w → ∃ rr es cl, ev n ρ x = .map (some rr) ∧ w.heap[rr]? = some (.map es cl) ∧ es.toList.map (fun e => (e.key, e.val)) = l.map (fun p => (keyV (.int .i64) p.1, Value.int .i64 p.2)) := fun w hw => by
         obtain ⟨K', L', hs⟩ := hrd w hw
         simp only [HA.conc, g0, g1] at hs
         obtain ⟨h0, ⟨rr, o, e1, ⟨es, cl, rfl, h5, h6⟩, rfl⟩, hd, hs⟩ := hs
         have hob : w.heap[rr]? = some (.map es cl) := hs.sub rr (.map es cl) (Hp.join_right (by simp [one]) (hd rr (.map es cl) (by simp [one])))
         exact ⟨rr, es, cl, by rw [← hv]; simpa [objVal] using e1, hob, h5⟩
       haveI := keyInt m2
       cases ok with
       | true =>
         simp only [cond_true] at h
         refine ⟨_, _, .tuple #[.int .i64 (mget c l), .bool (mfind c l 0).isSome], h, .inl rfl, ⟨[_, _], rfl, _, _, rfl, rfl, _, _, rfl, rfl, rfl⟩, fun d t' pos af g w hw => ?_⟩
         obtain ⟨rr, es, cl, e1, e2, e3⟩ := key w hw
         have hl := run_lookup_ok (P := P) (kt := .int .i64) (mt := mt) m1 m3 c e2 e3
         simp only [keyV] at hl
         simp [execOp, e1, hy, hl]
       | false =>
         simp only [cond_false] at h
         refine ⟨_, _, .int .i64 (mget c l), h, .inl rfl, rfl, fun d t' pos af g w hw => ?_⟩
         obtain ⟨rr, es, cl, e1, e2, e3⟩ := key w hw
         have hl := run_lookup_map (P := P) (kt := .int .i64) (mt := mt) m1 m3 c e2 e3
         simp only [keyV] at hl
         simp [execOp, e1, hy, hl]
   · cases h
 · cases h
theorem vcallA_ok {c : Call} (h : vcallA P n A σ c k = some r) (hp : Pur fr σ m K ρ) (hc : Cls E C mem A m K) : VOk P n C m K σ ρ (.call c) k r := by
 unfold vcallA at h
 split at h
 · rename_i x t e0 e1 e2
   split at h
   · rename_i d e ht
     obtain ⟨cal, args, ats⟩ := c
     simp only at e0 e1 e2
     subst e0
     obtain rfl : args = #[x] := by simpa using congrArg List.toArray e1
     obtain rfl : ats = #[t] := by simpa using congrArg List.toArray e2
     exact chS_ok (tx := t) (cap := false) ht h hp hc
   · exact vcall_ok h hp
 · rename_i x t e0 e1 e2
   split at h
   · rename_i d e ht
     obtain ⟨cal, args, ats⟩ := c
     simp only at e0 e1 e2
     subst e0
     obtain rfl : args = #[x] := by simpa using congrArg List.toArray e1
     obtain rfl : ats = #[t] := by simpa using congrArg List.toArray e2
     exact chS_ok (tx := t) (cap := true) ht h hp hc
   · rename_i ht
     obtain ⟨cal, args, ats⟩ := c
     simp only at e0 e1 e2
     subst e0
     obtain rfl : args = #[x] := by simpa using congrArg List.toArray e1
     obtain rfl : ats = #[t] := by simpa using congrArg List.toArray e2
     have hx := hp.ev n x
     split at h
     · rename_i e4; rw [e4] at hx
       exact ⟨_, _, _, h, .inl rfl, rfl, fun _ _ _ _ _ => V.cap ht hx⟩
     · cases h
   · cases h
 · exact vcall_ok h hp
theorem ixa_some {α : Type} {r : α} : ∀ (n j : Nat) (i : Int) (f : Nat → Option α), ixa n j i f = some r → ∃ q, q < n ∧ i = ((j + q : Nat) : Int) ∧ f (j + q) = some r
 | 0, j, i, f, h => by cases h
 | n + 1, j, i, f, h => by
   unfold ixa at h
   by_cases hi : i = ((j : Nat) : Int)
   · rw [decide_eq_true hi] at h; exact ⟨0, by omega, hi, h⟩
   · rw [decide_eq_false hi] at h
     obtain ⟨q, h1, h2, h3⟩ := ixa_some n (j + 1) i f h
     exact ⟨q + 1, by omega, by rw [h2]; congr 1; omega, by rw [show j + (q + 1) = j + 1 + q by omega]; exact h3⟩
theorem viad_ok {t : TypeId} {x y : Operand} (h : viad P σ t (σ.ev n x) (σ.ev n y) k = some r) (hp : Pur fr σ m K ρ) : VOk P n C m K σ ρ (.indexAddr t x y) k r := by
 have hx := hp.ev n x
 have hy := hp.ev n y
 unfold viad at h
 split at h
 · rename_i e ht
   split at h
   · rename_i z tp l nn kk i hz e1 e2
     rw [e1] at hx; rw [e2] at hy
     replace h := bift h; obtain ⟨hb, h⟩ := h
     obtain rfl := Nat.eq_of_beq_eq_true hb
     replace h := ob h; obtain ⟨x0, hx0, h⟩ := h
     obtain ⟨p1, p2, p3⟩ := getI_some hx0
     obtain ⟨hi, hl⟩ := hx
     obtain ⟨ad, cap, hv⟩ := hi.slv
     rw [hv] at hi
     obtain ⟨b, o, rfl, hat⟩ := hi.at p2
     exact ⟨_, _, _, h, .inl rfl, ⟨b, _, by rw [Nat.add_zero], hat⟩, fun _ _ _ _ _ => V.iad ht hz hv rfl hy p1 p3⟩
   · rename_i z rr kk i hz e1 e2
     rw [e1] at hx; rw [e2] at hy
     split at h
     · rename_i q hq
       replace h := bift h; obtain ⟨hb, h⟩ := h
       have hb := Nat.eq_of_beq_eq_true hb
       replace h := ob h; obtain ⟨x0, hx0, h⟩ := h
       obtain ⟨p1, p2, p3⟩ := getI_some hx0
       obtain ⟨a, ha, hmem⟩ := findR_spec hq
       obtain rfl := rowR_eq ha
       obtain ⟨ad, cap, cs, h1, h2, h3, h4, h5, h6, h7⟩ := hp.all _ hmem
       have hv := hx.1
       rw [h1] at hv
       have hv : ev n ρ x = .slice ad q.n cap := by simp only [Option.some.injEq, M.val.injEq] at hv; exact hv.symm
       obtain ⟨g, rfl⟩ := h7 (fun e => by rw [e] at p2; simp at p2)
       subst hb
       exact ⟨_, _, .pointer (some ⟨g, 0 + i.toNat * q.t.size, none⟩), h, .inl rfl, ⟨g, q.n, cap, q.l, cs, h1, h2, hx0, by rw [Nat.add_zero, Nat.zero_add]⟩, fun _ _ _ _ _ => V.iad ht hz hv rfl hy p1 (by rw [← h4]; exact p3)⟩
     · split at h
       · rename_i q hq
         replace h := bift h; obtain ⟨hb, h⟩ := h
         have hb := Nat.eq_of_beq_eq_true hb
         replace h := ob h; obtain ⟨x0, hx0, h⟩ := h
         obtain ⟨p1, p2, p3⟩ := getI_some hx0
         obtain ⟨a, ha, hmem⟩ := findR_spec hq
         obtain rfl := rowsR_eq ha
         obtain ⟨v', K0, h1, _, _, ad, cap, rfl, h7⟩ := hp.all _ hmem
         have hv := hx.1
         rw [h1] at hv
         have hv : ev n ρ x = .slice ad q.l.length cap := by simp only [Option.some.injEq, M.val.injEq] at hv; exact hv.symm
         have hlt : i.toNat < q.l.length := (List.getElem?_eq_some_iff.1 p2).1
         obtain ⟨g, rfl⟩ := h7 (by show q.l.length ≠ 0; omega)
         subst hb
         exact ⟨_, _, .pointer (some ⟨g, 0 + i.toNat * q.o.tp.size, none⟩), h, .inl rfl, ⟨g, _, cap, h1, p1, hlt, by rw [Nat.add_zero, Nat.zero_add]⟩, fun _ _ _ _ _ => V.iad ht hz hv rfl hy p1 p3⟩
       · split at h
         · rename_i q hq
           replace h := bift h; obtain ⟨hb, h⟩ := h
           have hb := Nat.eq_of_beq_eq_true hb
           replace h := ob h; obtain ⟨x0, hx0, h⟩ := h
           obtain ⟨p1, p2, p3⟩ := getI_some hx0
           obtain ⟨a, ha, hmem⟩ := findR_spec hq
           obtain rfl := holR_eq ha
           obtain ⟨ad, cap, K0, es, h1, _, _, _, _, _, _, g, rfl⟩ := hp.all _ hmem
           have hv := hx.1
           rw [h1] at hv
           have hv : ev n ρ x = .slice (some ⟨g, 0, none⟩) q.l.length cap := by simp only [Option.some.injEq, M.val.injEq] at hv; exact hv.symm
           have hlt : i.toNat < q.l.length := (List.getElem?_eq_some_iff.1 p2).1
           subst hb
           exact ⟨_, _, .pointer (some ⟨g, 0 + i.toNat * q.o.tp.size, none⟩), h, .inl rfl, ⟨g, _, cap, h1, p1, hlt, by rw [Nat.add_zero, Nat.zero_add]⟩, fun _ _ _ _ _ => V.iad ht hz hv rfl hy p1 p3⟩
         · cases h
   · rename_i z b mm kk i hz e1 e2
     rw [e1] at hx; rw [e2] at hy
     split at h
     · rename_i j
       replace h := bift h; obtain ⟨hb, h⟩ := h
       rw [Nat.blt_eq] at hb
       obtain ⟨bb, h1, hv⟩ := hx
       exact ⟨_, _, .pointer (some ⟨bb, 0 + (Int.ofNat j).toNat * z, none⟩), h, .inl rfl, ⟨bb, h1, by simp⟩, fun _ _ _ _ _ => V.iad ht hz hv rfl hy (Int.natCast_nonneg j) (Int.ofNat_lt.2 hb)⟩
     · cases h
   · rename_i z b o mm cp kk i hz e1 e2
     rw [e1] at hx; rw [e2] at hy
     obtain ⟨q, hq, rfl, h'⟩ := ixa_some _ _ _ _ h
     rw [Nat.zero_add] at h' hy
     obtain ⟨bb, h1, hv⟩ := hx
     exact ⟨_, _, .pointer (some ⟨bb, o + ((q : Nat) : Int).toNat * z, none⟩), h', .inl rfl, ⟨bb, h1, rfl⟩, fun _ _ _ _ _ => V.iad ht hz hv rfl hy (Int.natCast_nonneg q) (Int.ofNat_lt.2 hq)⟩
   · cases h
 · rename_i len e ht
   split at h
   · rename_i z b o kk i hz e1 e2
     rw [e1] at hx; rw [e2] at hy
     obtain ⟨q, hq, rfl, h'⟩ := ixa_some _ _ _ _ h
     rw [Nat.zero_add] at h' hy
     obtain ⟨bb, h1, hv⟩ := hx
     exact ⟨_, _, .pointer (some ⟨bb, o + ((q : Nat) : Int).toNat * z, none⟩), h', .inl rfl, ⟨bb, h1, rfl⟩, fun _ _ _ _ _ => V.iadA ht hz hv hy (Int.natCast_nonneg q) (Int.ofNat_lt.2 hq)⟩
   · cases h
 · cases h
theorem V.subP {tx e : TypeId} {sz m cp : Nat} {ad : Option Addr} {a b : Int} {x : Operand} {lo hi : Option Operand} (ht : P.underlying tx = some (.slice e)) (hz : szOf P e = some sz) (hx : ev n ρ x = .slice ad m cp) (hcp : m ≤ cp) (a1 : 0 ≤ a) (a2 : a ≤ b) (a3 : b ≤ (m : Int))
   (hl : ∀ q, lo = some q → ∃ k, ev n ρ q = .int k a) (hl0 : lo = none → a = 0) (hh : ∀ q, hi = some q → ∃ k, ev n ρ q = .int k b) (hh0 : hi = none → b = (m : Int)) :
   ∃ ad', (∀ g, a < b → ad = some ⟨g, 0, none⟩ → ad' = some ⟨g, a.toNat * sz, none⟩) ∧ ∀ {C : World → Prop} {d : Option Nat} {t : TypeId} {pos : String} {af : Array Edge} {g : Option (Nat × Bool)}, Val P n C ρ ⟨d, .slice tx x lo hi none, t, pos, af, g⟩ (.slice ad' (b.toNat - a.toNat) (cp - a.toNat)) := by
 obtain ⟨l, rfl⟩ := Int.eq_ofNat_of_zero_le a1
 obtain ⟨h, rfl⟩ := Int.eq_ofNat_of_zero_le (show 0 ≤ b by omega)
 simp only [Int.toNat_natCast]
 have b1 : l ≤ h := by omega
 have b2 : h ≤ m := by omega
 refine ⟨if cp - l = 0 then ad else ad.map (·.add (l * sz)), fun g hlt e => by rw [if_neg (by omega), e]; simp only [Option.map_some, addr_add, Nat.zero_add], fun {C d t pos af g} w _ => ?_⟩
 unfold szOf at hz
 cases hi' : P.info? e with
 | none => rw [hi'] at hz; simp at hz
 | some i' =>
   rw [hi'] at hz
   simp at hz
   cases lo with
   | none =>
     have hl1 := hl0 rfl
     obtain rfl : l = 0 := by omega
     cases hi with
     | none =>
       have := hh0 rfl
       obtain rfl : h = m := by omega
       simp [execOp, hx, Instr.sliceAt, run_underlying ht, Instr.slice, Instr.sliceBounds, sizeOf, typeInfo, hi', hcp]
     | some q =>
       obtain ⟨k, hq⟩ := hh q rfl
       simp [execOp, hx, hq, Instr.sliceAt, run_underlying ht, Instr.slice, Instr.sliceBounds, Instr.sliceBound, asIntOf, sizeOf, typeInfo, hi', show h ≤ cp by omega]
   | some ql =>
     obtain ⟨k1, hq1⟩ := hl ql rfl
     cases hi with
     | none =>
       have := hh0 rfl
       obtain rfl : h = m := by omega
       simp [execOp, hx, hq1, Instr.sliceAt, run_underlying ht, Instr.slice, Instr.sliceBounds, Instr.sliceBound, asIntOf, sizeOf, typeInfo, hi', b1, show h ≤ cp by omega, hz]
       split <;> simp_all <;> (intro h9; omega)
     | some q =>
       obtain ⟨k, hq⟩ := hh q rfl
       simp [execOp, hx, hq, hq1, Instr.sliceAt, run_underlying ht, Instr.slice, Instr.sliceBounds, Instr.sliceBound, asIntOf, sizeOf, typeInfo, hi', b1, show h ≤ cp by omega, hz]
       split <;> simp_all <;> (intro h9; omega)
theorem V.subN {tx e : TypeId} {sz : Nat} {x : Operand} {lo hi : Option Operand} (ht : P.underlying tx = some (.slice e)) (hz : szOf P e = some sz) (hx : ev n ρ x = .slice none 0 0)
   (hl : ∀ q, lo = some q → ∃ k, ev n ρ q = .int k 0) (hh : ∀ q, hi = some q → ∃ k, ev n ρ q = .int k 0) {C : World → Prop} {d : Option Nat} {t : TypeId} {pos : String} {af : Array Edge} {g : Option (Nat × Bool)} :
   Val P n C ρ ⟨d, .slice tx x lo hi none, t, pos, af, g⟩ (.slice none 0 0) := fun w _ => by
 unfold szOf at hz
 cases hi' : P.info? e with
 | none => rw [hi'] at hz; simp at hz
 | some i' =>
   rw [hi'] at hz
   simp at hz
   cases lo with
   | none =>
     cases hi with
     | none => simp [execOp, hx, Instr.sliceAt, run_underlying ht, Instr.slice, Instr.sliceBounds, sizeOf, typeInfo, hi']
     | some q =>
       obtain ⟨k, hq⟩ := hh q rfl
       simp [execOp, hx, hq, Instr.sliceAt, run_underlying ht, Instr.slice, Instr.sliceBounds, Instr.sliceBound, asIntOf, sizeOf, typeInfo, hi']
   | some ql =>
     obtain ⟨k1, hq1⟩ := hl ql rfl
     cases hi with
     | none => simp [execOp, hx, hq1, Instr.sliceAt, run_underlying ht, Instr.slice, Instr.sliceBounds, Instr.sliceBound, asIntOf, sizeOf, typeInfo, hi']
     | some q =>
       obtain ⟨k, hq⟩ := hh q rfl
       simp [execOp, hx, hq, hq1, Instr.sliceAt, run_underlying ht, Instr.slice, Instr.sliceBounds, Instr.sliceBound, asIntOf, sizeOf, typeInfo, hi']
theorem V.subF {tx e : TypeId} {sz len b o l h : Nat} {x : Operand} {lo hi : Option Operand} (ht : P.underlying tx = some (.array len e)) (hz : szOf P e = some sz) (hx : ev n ρ x = .pointer (some ⟨b, o, none⟩)) (a2 : l ≤ h) (a3 : h ≤ len) (a4 : l < len)
   (hl : ∀ q, lo = some q → ∃ k, ev n ρ q = .int k ((l : Nat) : Int)) (hl0 : lo = none → ((l : Nat) : Int) = 0) (hh : ∀ q, hi = some q → ∃ k, ev n ρ q = .int k ((h : Nat) : Int)) (hh0 : hi = none → ((h : Nat) : Int) = ((len : Nat) : Int)) {C : World → Prop} {d : Option Nat} {t : TypeId} {pos : String} {af : Array Edge} {g : Option (Nat × Bool)} :
   Val P n C ρ ⟨d, .slice tx x lo hi none, t, pos, af, g⟩ (.slice (some ⟨b, o + l * sz, none⟩) (h - l) (len - l)) := by
 intro w _
 have hne : len ≠ l := by omega
 unfold szOf at hz
 cases hi' : P.info? e with
 | none => rw [hi'] at hz; simp at hz
 | some i' =>
   rw [hi'] at hz
   simp at hz
   cases lo with
   | none =>
     have := hl0 rfl
     obtain rfl : l = 0 := by omega
     cases hi with
     | none =>
       have := hh0 rfl
       obtain rfl : h = len := by omega
       simp [execOp, hx, Instr.sliceAt, run_underlying ht, Instr.sureAddr, Instr.sliceBounds, sizeOf, typeInfo, hi', hz, addr_add, hne]
     | some q =>
       obtain ⟨k, hq⟩ := hh q rfl
       simp [execOp, hx, hq, Instr.sliceAt, run_underlying ht, Instr.sureAddr, Instr.sliceBounds, Instr.sliceBound, asIntOf, a3, sizeOf, typeInfo, hi', hz, addr_add, hne]
   | some ql =>
     obtain ⟨k1, hq1⟩ := hl ql rfl
     cases hi with
     | none =>
       have := hh0 rfl
       obtain rfl : h = len := by omega
       simp [execOp, hx, hq1, Instr.sliceAt, run_underlying ht, Instr.sureAddr, Instr.sliceBounds, Instr.sliceBound, asIntOf, a2, sizeOf, typeInfo, hi', hz, addr_add, hne]
     | some q =>
       obtain ⟨k2, hq2⟩ := hh q rfl
       simp [execOp, hx, hq1, hq2, Instr.sliceAt, run_underlying ht, Instr.sureAddr, Instr.sliceBounds, Instr.sliceBound, asIntOf, a2, a3, sizeOf, typeInfo, hi', hz, addr_add, hne]
theorem vslc_ok {t : TypeId} {x : Operand} {lo hi : Option Operand} (h : vslc P n σ t (σ.ev n x) lo hi k = some r) (hp : Pur fr σ m K ρ) : VOk P n C m K σ ρ (.slice t x lo hi none) k r := by
 have hx := hp.ev n x
 unfold vslc at h
 split at h
 · rename_i s ht e1
   rw [e1] at hx
   split at h
   · rename_i l hh hlh
     replace h := ob h; obtain ⟨y, hy, h⟩ := h
     obtain ⟨q1, q2, q3, q4⟩ := lohi_ok hlh hp
     exact ⟨_, _, _, h, .inl rfl, rfl, fun _ _ _ _ _ => V.subs ht hx q1 q2 q3 q4 hy⟩
   · cases h
 · rename_i e i ht e1
   rw [e1] at hx
   split at h
   · rename_i q hq
     split at h
     · rename_i hz
       split at h
       · rename_i a b hlh
         replace h := ob h; obtain ⟨y, hy, h⟩ := h
         obtain ⟨q1, q2, q3, q4⟩ := lohi_ok hlh hp
         obtain ⟨at1, ha, hmem⟩ := findR_spec hq
         obtain rfl := rowR_eq ha
         obtain ⟨ad, cap, cs, h1, h2, h3, h4, h5, h6, h7⟩ := hp.all _ hmem
         have hv := hx.1
         rw [h1] at hv
         have hv : ev n ρ x = .slice ad q.n cap := by simp only [Option.some.injEq, M.val.injEq] at hv; exact hv.symm
         obtain ⟨s1, s2, s3, _⟩ := subL_some hy
         rw [h4] at s3
         obtain ⟨o, ho, hval⟩ := V.subP (P := P) (n := n) (ρ := ρ) (x := x) (lo := lo) (hi := hi) (a := a) (b := b) ht hz hv h5 s1 s2 s3 q1 q2 q3 q4
         exact ⟨_, _, _, h, .inl rfl, ⟨ad, q.n, cap, o, h1, s1, s2, by omega, ho, rfl⟩, fun _ _ _ _ _ => hval⟩
       · cases h
     · cases h
   · cases h
 · rename_i e ht e1
   rw [e1] at hx
   split at h
   · rename_i hz
     split at h
     · rename_i a b hlh
       replace h := ob h; obtain ⟨y, hy, h⟩ := h
       obtain ⟨q1, q2, q3, q4⟩ := lohi_ok hlh hp
       obtain ⟨s1, s2, s3, _⟩ := subL_some hy
       obtain ⟨z, hz⟩ := Option.isSome_iff_exists.1 hz
       have ea : a = 0 := by simp at s3; omega
       have eb : b = 0 := by simp at s3; omega
       subst ea eb
       exact ⟨_, _, _, h, .inl rfl, rfl, fun _ _ _ _ _ => V.subN ht hz hx q1 q3⟩
     · cases h
   · cases h
 · rename_i e tp l z ht e1
   rw [e1] at hx
   split at h
   · rename_i hz
     split at h
     · rename_i a b hlh
       replace h := ob h; obtain ⟨y, hy, h⟩ := h
       obtain ⟨q1, q2, q3, q4⟩ := lohi_ok hlh hp
       obtain ⟨hi', rfl⟩ := hx
       obtain ⟨ad, cap, hv⟩ := hi'.slv
       rw [hv] at hi'
       obtain ⟨ad', cp', hval, hf⟩ := V.subI (P := P) ht hz hi' hy
       exact ⟨_, _, _, h, .inl rfl, ⟨hf, rfl⟩, fun _ _ _ _ _ => hval hv q1 q2 q3 q4⟩
     · cases h
   · cases h
 · rename_i len e b o ht e1
   rw [e1] at hx
   split at h
   · rename_i z a hh hz hlh
     replace h := bift h; obtain ⟨hb, h⟩ := h
     simp only [Bool.and_eq_true, Nat.blt_eq] at hb
     obtain ⟨⟨b1, b2⟩, b3⟩ := hb
     obtain ⟨q1, q2, q3, q4⟩ := lohi_ok hlh hp
     obtain ⟨bb, h1, hv⟩ := hx
     exact ⟨_, _, _, h, .inl rfl, ⟨bb, h1, rfl⟩, fun _ _ _ _ _ => V.subF ht hz hv (Nat.le_of_ble_eq_true b1) (Nat.le_of_ble_eq_true b2) b3 q1 q2 q3 q4⟩
   · cases h
 · cases h
theorem map_ev (hp : Pur fr σ m K ρ) : ∀ xs : List Operand, SV.relL m K (xs.map (σ.ev n)) (xs.map (ev n ρ))
 | [] => rfl
 | x :: xs => ⟨_, _, rfl, hp.ev n x, map_ev hp xs⟩
theorem fieldAt_ok {s : TypeId} {i : Nat} {f : Field} (h : fieldAt P s i = some f) : ∃ fs, P.underlying s = some (.struct fs) ∧ fs[i]? = some f := by
 unfold fieldAt at h
 split at h
 · exact ⟨_, by assumption, h⟩
 · cases h
theorem zeroS_ok {t : TypeId} {zs : List SV} (h : zeroS P t = some zs) : ∃ z sz bt, Inf P t z sz bt ∧ SV.relL m K zs z.cells.toList := by
 unfold zeroS at h
 split at h
 · rename_i i hi
   split at h
   · rename_i z hz
     exact ⟨z, i.size, i.bytes, by unfold Inf; rw [hi]; simp [hz], cells_rel h (con_rel z)⟩
   · cases h
 · cases h
theorem build_ok {s : TypeId} {pl : List (Nat × Nat)} {z v : Value} {sz bt : Nat} {parts : Array (Nat × Operand)} {cs : List Value} (h : placesOf P s = some pl) (hi : Inf P s z sz bt) (hc : fillL (fun i => pl[i]?) z.cells.toList (parts.toList.map fun (i, x) => (i, ev n ρ x)) = some cs) (hcs : .agg cs.toArray = v) {d : Option Nat} {t : TypeId} {pos : String} {af : Array Edge} {g : Option (Nat × Bool)} : Val P n C ρ ⟨d, .build s parts, t, pos, af, g⟩ v := by
 unfold placesOf at h
 split at h
 · rename_i fs hu; exact V.build hi ⟨fs, hu, h⟩ hc hcs
 · rename_i len e hu
   cases he : P.info? e with
   | none => rw [he] at h; cases h
   | some i =>
     rw [he] at h; cases h
     refine V.buildA hi hu (sz1 := i.size) (by rw [he]; rfl) (fillL_mono ?_ hc) hcs
     intro j p hj
     rw [List.getElem?_map] at hj
     cases hq : (List.range len)[j]? with
     | none => rw [hq] at hj; cases hj
     | some q =>
       rw [hq] at hj
       obtain ⟨hlt, rfl⟩ := List.getElem?_eq_some_iff.1 hq
       simpa using hj
 · cases h
theorem vop_ok {o : Op} (h : vop P n mem A σ o k = some r) (hp : Pur fr σ m K ρ) (hc : Cls E C mem A m K) : VOk P n C m K σ ρ o k r := by
 cases o with
 | move x => exact ⟨_, _, _, h, .inl rfl, hp.evr n x, fun _ _ _ _ _ => V.mv rfl⟩
 | assign x => exact ⟨_, _, _, h, .inl rfl, hp.evr n x, fun _ _ _ _ _ => V.as rfl⟩
 | pick c x y =>
   have hcc := hp.ev n c
   dsimp only [vop] at h
   split at h
   · rename_i t e
     rw [e] at hcc
     cases t with
     | true => exact ⟨_, _, _, h, .inl rfl, hp.ev n x, fun _ _ _ _ _ => V.pickT hcc rfl rfl⟩
     | false => exact ⟨_, _, _, h, .inl rfl, hp.ev n y, fun _ _ _ _ _ => V.pickF hcc rfl rfl⟩
   · cases h
 | binOp op t x y yt =>
   obtain ⟨sv, v, h1, h2, h3⟩ := bin_ok (C := C) h hp
   exact ⟨σ, sv, v, h1, .inl rfl, h2, fun d t' pos af g => h3 yt d t' pos af g⟩
 | unOp op t x => exact vun_ok h hp
 | convert s d x => exact vconv_ok h hp hc
 | extract x i =>
   have hx := hp.ev n x
   dsimp only [vop] at h
   split at h
   · rename_i vs e
     rw [e] at hx
     obtain ⟨us, hv, hr⟩ := hx
     split at h
     · rename_i v hvi
       obtain ⟨u, hu, hr⟩ := relL_get hr hvi
       exact ⟨_, _, u, h, .inl rfl, hr, fun _ _ _ _ _ => V.ext hv (by simpa using hu)⟩
     · cases h
   · cases h
 | call c => exact vcallA_ok h hp hc
 | lookup t x y ok => exact lookS_ok h hp hc
 | fieldAddr s x i =>
   dsimp only [vop] at h
   split at h
   · rename_i f hf
     obtain ⟨fs, h1, h2⟩ := fieldAt_ok hf
     replace h := biff h; obtain ⟨hz, h⟩ := h
     have hz : P.cellsOf f.type ≠ 0 := fun e => by rw [e] at hz; cases hz
     obtain ⟨σ', v', h, hfine, hr⟩ := der_ok h hp
     split at h
     · rename_i v2 hv2
       obtain ⟨b, o, hb, hr2⟩ := addO_ok hv2 hr
       exact ⟨σ', v2, _, h, hfine, hr2, fun _ _ _ _ _ => V.fad h1 h2 hz hb⟩
     · cases h
   · cases h
 | field s x i =>
   have hx := hp.ev n x
   dsimp only [vop] at h
   split at h
   · rename_i f cs hf e
     rw [e] at hx
     obtain ⟨us, hv, hr⟩ := hx
     obtain ⟨fs, h1, h2⟩ := fieldAt_ok hf
     split at h
     · rename_i v hv2
       obtain ⟨u, h3, h4⟩ := ldp_ok hv2 hr
       exact ⟨_, _, u, h, .inl rfl, h4, fun _ _ _ _ _ => V.fld (ft := 0) h1 h2 h3 hv⟩
     · cases h
   · cases h
 | build s ps =>
   dsimp only [vop] at h
   split at h
   · rename_i z pl hz hpl
     obtain ⟨zv, sz, bt, h1, h2⟩ := zeroS_ok (m := m) (K := K) hz
     split at h
     · rename_i cs hcs
       obtain ⟨xs, h3, h4⟩ := fillS_ok hcs h2 (partsR_mapr hp ps.toList)
       exact ⟨_, _, .agg xs.toArray, h, .inl rfl, ⟨xs, rfl, h4⟩, fun _ _ _ _ _ => build_ok hpl h1 h3 rfl⟩
     · cases h
   · cases h
 | indexAddr t x y => exact viad_ok h hp
 | index t x y =>
   have hx := hp.ev n x
   have hy := hp.ev n y
   dsimp only [vop] at h
   split at h
   · rename_i s kk i ht e1 e2
     rw [e1] at hx; rw [e2] at hy
     replace h := ob h; obtain ⟨q, hq, h⟩ := h
     obtain ⟨p1, p2, p3⟩ := getI_some hq
     exact ⟨_, _, _, h, .inl rfl, rfl, fun _ _ _ _ _ => V.ixs ht hx hy p1 p2⟩
   · cases h
 | load s x =>
   dsimp only [vop] at h
   obtain ⟨σ', v', h, hfine, hr⟩ := der_ok h hp
   split at h
   · replace h := bift h; obtain ⟨hm, h⟩ := h
     obtain ⟨sv, b, o, u', h1, h2, h3, h4⟩ := load_ok h (fun _ _ _ _ => hm) hc hr
     exact ⟨σ', sv, u', h1, hfine, h4, fun _ _ _ _ _ => V.ld h2 h3⟩
   · rename_i hn
     obtain ⟨sv, b, o, u', h1, h2, h3, h4⟩ := load_ok h (fun t x o e => absurd e (hn t x o)) hc hr
     exact ⟨σ', sv, u', h1, hfine, h4, fun _ _ _ _ _ => V.ld h2 h3⟩
 | slice t x lo hi mx =>
   cases mx with
   | none => exact vslc_ok h hp
   | some _ => cases h
 | nilCheck x =>
   dsimp only [vop] at h
   obtain ⟨σ', v', h, hfine, hr⟩ := der_ok h hp
   split at h
   · obtain ⟨b, h1, h2⟩ := hr
     exact ⟨σ', _, _, h, hfine, ⟨b, h1, rfl⟩, fun _ _ _ _ _ => V.nck h2⟩
   · obtain ⟨b, o, h1, h2⟩ := hr
     exact ⟨σ', _, _, h, hfine, ⟨b, o, rfl, h2⟩, fun _ _ _ _ _ => V.nck h1⟩
   · obtain ⟨g, nn, cap, l, cs, h1, h2, h3, h4⟩ := hr
     exact ⟨σ', _, _, h, hfine, ⟨g, nn, cap, l, cs, h1, h2, h3, rfl⟩, fun _ _ _ _ _ => V.nck h4⟩
   · obtain ⟨g, nn, cap, h1, h2, h3, h4⟩ := hr
     exact ⟨σ', _, _, h, hfine, ⟨g, nn, cap, h1, h2, h3, rfl⟩, fun _ _ _ _ _ => V.nck h4⟩
   · cases h
 | makeInterface t0 x =>
   dsimp only [vop] at h
   split at h
   · cases h
   · rename_i d hne hd
     exact ⟨_, _, _, h, .inl rfl, ⟨_, rfl, hp.ev n x⟩, fun _ _ _ _ _ w _ => by
       simp only [execOp, Instr.makeInterface, Sem.run_bind, run_underlying hd, Result.andThen]
       cases d <;> first | rfl | (exact absurd rfl (hne _))⟩
   · cases h
 | typeAssert x t0 t1 ok =>
   cases ok with
   | false => cases h
   | true =>
     have hx := hp.ev n x
     dsimp only [vop] at h
     split at h
     · rename_i u v d e hd
       rw [e] at hx
       obtain ⟨w0, hv, hr⟩ := hx
       replace h := bift h; obtain ⟨h1, h⟩ := h
       rw [Bool.and_eq_true] at h1
       obtain rfl := Nat.eq_of_beq_eq_true h1.1
       exact ⟨_, _, .tuple #[w0, .bool true], h, .inl rfl, ⟨[w0, .bool true], rfl, w0, _, rfl, hr, _, _, rfl, rfl, rfl⟩, fun _ _ _ _ _ w _ => by
         simp only [execOp, Instr.typeAssert, hv, Sem.run_bind, run_underlying hd, Result.andThen]
         cases d <;> first | (simp at h1; done) | simp⟩
     · cases h
 | makeFunc f fs xs =>
   dsimp only [vop] at h
   split at h
   · rename_i ff
     replace h := bift h; obtain ⟨he, h⟩ := h
     obtain rfl : fs = #[] := by simpa using he
     exact ⟨_, _, .func (.func ff) #[] (xs.toList.map (ev n ρ)).toArray, h, .inl rfl, ⟨_, rfl, map_ev hp xs.toList⟩, fun _ _ _ _ _ => V.mkf (by simp)⟩
   · cases h
 | _ => cases h
end
end
end
section
variable [BldA]
section
variable {R : Type} {P : Program} {E : En} {n : Nat} {m m' : List M} {K K' : Hp} {fr : Frz} {σ : Zt} {ρ : Sl1} {w w' : World}
theorem wp_ds {o : Oper} {X : Act → World → Prop} {Q : Exit → Act → World → Prop} (h : o.wp P (act n ρ.f) w (fun a w' => X ⟨a.tmps, a.defers ++ ρ.ds⟩ w') (fun e a w' => Q e ⟨a.tmps, a.defers ++ ρ.ds⟩ w')) : o.wp P (act1 n ρ) w X Q := by
 unfold Oper.wp at h ⊢
 rw [eval_act] at h
 rw [eval_act1]
 have hp : ∀ v, (⟨((act n ρ.f).put o.dst v).tmps, ((act n ρ.f).put o.dst v).defers ++ ρ.ds⟩ : Act) = (act1 n ρ).put o.dst v := fun v => by
   cases o.dst <;> rfl
 cases hr : (execOp (ev n ρ.f) o).run P w with
 | ok nx w' =>
   rw [hr] at h
   cases nx with
   | value v => have h' : X ⟨((act n ρ.f).put o.dst v).tmps, ((act n ρ.f).put o.dst v).defers ++ ρ.ds⟩ w' := h; rw [hp] at h'; exact h'
   | skip => have h' : X ⟨((act n ρ.f).put o.dst undef).tmps, ((act n ρ.f).put o.dst undef).defers ++ ρ.ds⟩ w' := h; rw [hp] at h'; exact h'
   | defer d =>
     cases hd : o.dst <;> simpa [Oper.upon, Act.put, act, act1, hd] using h
   | enter f args =>
     refine Calls.mono h (fun e w'' he => ?_)
     cases e with
     | returned v => have h' : X ⟨((act n ρ.f).put o.dst v).tmps, ((act n ρ.f).put o.dst v).defers ++ ρ.ds⟩ w'' := he; rw [hp] at h'; exact h'
     | panicked c => exact he
     | outgrown => obtain ⟨a, w0, h0⟩ := he; exact ⟨_, _, h0⟩
   | row r args => refine Rows.mono h (fun v w'' he => ?_); have h' : X ⟨((act n ρ.f).put o.dst v).tmps, ((act n ρ.f).put o.dst v).defers ++ ρ.ds⟩ w'' := he; rw [hp] at h'; exact h'
   | _ => exact h.elim
 | halt x w' =>
   rw [hr] at h
   cases x with
   | panic v => exact h
   | _ => exact h.elim
theorem Pur.next (h : Pur fr σ m K ρ) (hm : m <+: m') (hK : K.le K') {H' : List HA} {nx : Nat} {kq : Bool} (hkq : kq = true → σ.kq = true ∧ K' = K) (hn : m'.length = nx) (hH : ∀ a ∈ H', HA.ok m' K' a) : Pur fr ⟨σ.base, σ.top, H', σ.Hf, nx, kq⟩ m' K' ρ where
 hm := h.hm.trans hm
 hK := h.hK.trans hK
 nx := hn
 kq := fun e => by obtain ⟨e1, e2⟩ := hkq e; rw [e2]; exact h.kq e1
 base := h.base
 dead := h.dead
 old := h.old
 top := fun i sv hi => SV.mono (fun _ _ k => pre_get hm k) hK _ (h.top i sv hi)
 okH := hH
 okF := h.okF
 mks := h.mks.mono hK
theorem Pur.fz' (h : Pur fr σ m K ρ) : σ.Hf.map (HA.conc m) = σ.Hf.map (HA.conc fr.m) := map_conc_mono (K := fr.K) h.mono h.okF
theorem Pur.okH' (h : Pur fr σ m K ρ) (hm : m <+: m') (hK : K.le K') : ∀ a ∈ σ.H, HA.ok m' K' a := fun a ha => HA.ok_mono (fun _ _ k => pre_get hm k) hK (h.okH a ha)
theorem Pur.conc (h : Pur fr σ m K ρ) (hm : m <+: m') {H : List HA} (hH : ∀ a ∈ H, a ∈ σ.H) : H.map (HA.conc m') = H.map (HA.conc m) := map_conc_mono (K := K) (fun _ _ k => pre_get hm k) (fun a ha => h.okH a (hH a ha))
theorem Rel.cls (h : Rel E fr σ m K ρ w) : Cls E (Hold E K (σ.atoms fr m)) true (σ.H ++ σ.Hf) m K where
 rd := fun a ha => ⟨h.toPur.all a ha, fun w' ⟨K', L', h1, h2⟩ => by
   have hmem : HA.conc m a ∈ σ.atoms fr m := by
     unfold Zt.atoms
     rcases List.mem_append.1 ha with ha | ha
     · exact List.mem_append_left _ (List.mem_map_of_mem ha)
     · refine List.mem_append_right _ (List.mem_append_left _ ?_)
       rw [HA.conc_mono h.toPur.mono (h.okF a ha)]
       exact List.mem_map_of_mem ha
   obtain ⟨i, hi, he⟩ := List.getElem_of_mem hmem
   have hg : (σ.atoms fr m ++ L')[i]? = some (HA.conc m a) := by
     rw [List.getElem?_append_left hi, List.getElem?_eq_getElem hi, he]
   exact ⟨K', _, h2.front i hg⟩⟩
 kn := fun _ b o v hv => Rd.k hv (Hp.le_refl K)
theorem Rel.hold (h : Rel E fr σ m K ρ w) : Hold E K (σ.atoms fr m) w := Hold.of_sep h.sep
def Same (σ σ' : Zt) : Prop := 0 = 0 ∧ σ'.Hf = σ.Hf
theorem Same.rfl' : Same σ σ := ⟨rfl, rfl⟩
theorem Same.trans {σ1 σ2 σ3 : Zt} (h : Same σ1 σ2) (k : Same σ2 σ3) : Same σ1 σ3 := ⟨rfl, k.2.trans h.2⟩
theorem Fine.same {σ' : Zt} (f : Fine m K ρ σ σ') : Same σ σ' := by
 rcases f with rfl | ⟨d, sv, rfl, _⟩ | ⟨j, v, u, rfl, _⟩
 · exact Same.rfl'
 · exact ⟨rfl, ref_H.2⟩
 · exact ⟨rfl, rfl⟩
theorem Rel.toSep (h : Rel E fr σ m K ρ w) : Sep E K (σ.H.map (HA.conc m) ++ σ.fz fr) w := h.sep
theorem pre_app (m ms : List M) : m <+: m ++ ms := ⟨ms, rfl⟩
theorem get_new {m ms : List M} {k nx : Nat} (h : m.length = nx) : (m ++ ms)[nx + k]? = ms[k]? := by
 subst h; rw [List.getElem?_append_right (by omega)]; congr 1; omega
theorem get_new0 {m ms : List M} {nx : Nat} (h : m.length = nx) : (m ++ ms)[nx]? = ms[0]? := get_new (k := 0) h
theorem Rel.newB (h : Rel E fr σ m K ρ w) {d b : Nat} {e : TypeId} {cs : List SV} {us : List Value} (hr : SV.relL m K cs us) (hs : Sep E K (Cl b e us :: σ.atoms fr m) w') :
   Rel E fr ⟨σ.base, (d, .ptr σ.nx 0) :: σ.top, .blk σ.nx (σ.nx + 1) e cs :: σ.H, σ.Hf, σ.nx + 2, σ.kq⟩ (m ++ [.val (.pointer (some ⟨b, 0, none⟩)), .cells us]) K (upd1 ρ d (.pointer (some ⟨b, 0, none⟩))) w' := by
 have hp := pre_app m [.val (.pointer (some ⟨b, 0, none⟩)), .cells us]
 have g0 : (m ++ [.val (.pointer (some ⟨b, 0, none⟩)), .cells us])[σ.nx]? = some (.val (.pointer (some ⟨b, 0, none⟩))) := get_new0 h.nx
 have g1 : (m ++ [.val (.pointer (some ⟨b, 0, none⟩)), .cells us])[σ.nx + 1]? = some (.cells us) := get_new (k := 1) h.nx
 have q : Pur fr ⟨σ.base, σ.top, .blk σ.nx (σ.nx + 1) e cs :: σ.H, σ.Hf, σ.nx + 2, σ.kq⟩ (m ++ [.val (.pointer (some ⟨b, 0, none⟩)), .cells us]) K ρ := by
   refine Pur.next h.toPur hp (Hp.le_refl K) (fun e => ⟨e, rfl⟩) (by simp [h.nx]) ?_
   intro a ha
   rcases List.mem_cons.1 ha with rfl | ha
   · exact ⟨b, us, g0, g1, SV.monoL (fun _ _ k => pre_get hp k) (Hp.le_refl K) _ hr⟩
   · exact h.toPur.okH' hp (Hp.le_refl K) a ha
 refine ⟨q.set (d := d) (sv := .ptr σ.nx 0) (v := .pointer (some ⟨b, 0, none⟩)) ⟨b, g0, rfl⟩, ?_⟩
 · show Sep E K ((HA.conc _ _ :: σ.H.map (HA.conc _)) ++ σ.fz fr) w'
   rw [h.toPur.conc hp (fun a ha => ha)]
   simp only [HA.conc, g0, g1]
   exact hs
theorem Rel.newR (h : Rel E fr σ m K ρ w) {d : Nat} {H : List HA} (hH : ∀ a ∈ H, a ∈ σ.H) {e : TypeId} {t : Tp} {l : List t.den} {v : Value} {K0 : Hp} (hK0 : K0.le K) (hs : Sep E K (Row K0 e t v l :: (H.map (HA.conc m) ++ σ.fz fr)) w') :
   ∃ m', Rel E fr ⟨σ.base, (d, .own σ.nx) :: σ.top, .row σ.nx (σ.nx + 1) e t l l.length :: H, σ.Hf, σ.nx + 2, σ.kq⟩ m' K (upd1 ρ d v) w' := by
 obtain ⟨h0, ⟨cs, h1, h2⟩, h3, h4⟩ := hs
 obtain ⟨ad, cap, rfl, f1, f2, f3⟩ := Row.form h0 ⟨cs, h1, h2⟩
 refine ⟨m ++ [.val (.slice ad l.length cap), .cont t l cs], ?_⟩
 have hp := pre_app m [.val (.slice ad l.length cap), .cont t l cs]
 have g0 : (m ++ [.val (.slice ad l.length cap), .cont t l cs])[σ.nx]? = some (.val (.slice ad l.length cap)) := get_new0 h.nx
 have g1 : (m ++ [.val (.slice ad l.length cap), .cont t l cs])[σ.nx + 1]? = some (.cont t l cs) := get_new (k := 1) h.nx
 have q : Pur fr ⟨σ.base, σ.top, .row σ.nx (σ.nx + 1) e t l l.length :: H, σ.Hf, σ.nx + 2, σ.kq⟩ (m ++ [.val (.slice ad l.length cap), .cont t l cs]) K ρ := by
   refine Pur.next h.toPur hp (Hp.le_refl K) (fun e => ⟨e, rfl⟩) (by simp [h.nx]) ?_
   intro a ha
   rcases List.mem_cons.1 ha with rfl | ha
   · exact ⟨ad, cap, cs, g0, g1, h1.mono hK0, rfl, f1, f2, f3⟩
   · exact h.toPur.okH' hp (Hp.le_refl K) a (hH a ha)
 refine ⟨q.set (d := d) (sv := .own σ.nx) (v := .slice ad l.length cap) ⟨g0, rfl⟩, ?_⟩
 · show Sep E K ((HA.conc _ _ :: H.map (HA.conc _)) ++ σ.fz fr) w'
   rw [h.toPur.conc hp hH]
   simp only [HA.conc, g0, g1]
   exact ⟨h0, h2, h3, h4⟩
theorem Rel.take (h : Rel E fr σ m K ρ w) {β : Type} {f : HA → Option β} {q : β} {H : List HA} (hq : pick f σ.H = some (q, H)) : ∃ a, f a = some q ∧ a ∈ σ.H ∧ (∀ x ∈ H, x ∈ σ.H) ∧ Sep E K (HA.conc m a :: (H.map (HA.conc m) ++ σ.fz fr)) w := by
 obtain ⟨a, h1, h2, h3⟩ := pick_spec hq
 exact ⟨a, h1, h2, fun x hx => h3.symm.subset (List.mem_cons_of_mem _ hx), Sep.perm (((h3.map (HA.conc m)).append_right _)) h.toSep⟩
theorem Row.of_rw {e : TypeId} {t : Tp} {l : List t.den} {cs : List Value} {v : Value} (h : Els K t cs l) : ∀ h0, Rw e t.size v l.length cs h0 → Row K e t v l h0 := fun h0 hr => ⟨cs, h, hr⟩
theorem HA.ok_row {i c : Nat} {e : TypeId} {t : Tp} {l : List t.den} {k : Nat} (h : HA.ok m K (.row i c e t l k)) : ∃ ad cap cs, m[i]? = some (.val (.slice ad k cap)) ∧ m[c]? = some (.cont t l cs) ∧ Els K t cs l ∧ l.length = k ∧ (l ≠ [] → ∃ g, ad = some ⟨g, 0, none⟩) ∧ HA.conc m (.row i c e t l k) = Rw e t.size (.slice ad k cap) k cs := by
 obtain ⟨ad, cap, cs, h1, h2, h3, h4, _, _, h5⟩ := h
 exact ⟨ad, cap, cs, h1, h2, h3, h4, h5, by simp only [HA.conc, h1, h2]⟩
theorem HA.ok_blk {i c : Nat} {e : TypeId} {cs : List SV} (h : HA.ok m K (.blk i c e cs)) : ∃ b vs, m[i]? = some (.val (.pointer (some ⟨b, 0, none⟩))) ∧ m[c]? = some (.cells vs) ∧ SV.relL m K cs vs ∧ HA.conc m (.blk i c e cs) = Cl b e vs := by
 obtain ⟨b, vs, h1, h2, h3⟩ := h
 exact ⟨b, vs, h1, h2, h3, by simp only [HA.conc, h1, h2]⟩
end
end
section
variable [BldA]
section
variable {R : Type} {P : Program} {E : En} {n : Nat} {m m' : List M} {K K' : Hp} {fr : Frz} {σ : Zt} {ρ : Sl1} {w w' : World}
def OpOk (P : Program) (E : En) (n : Nat) (fr : Frz) (σ : Zt) (ρ : Sl1) (w : World) (o : Oper) (Ψ : Zt → Prop) : Prop :=
 ∀ (X : Act → World → Prop) (Q : Exit → Act → World → Prop), (∀ σ' m' K' ρ' w', Rel E fr σ' m' K' ρ' w' → Same σ σ' → Ψ σ' → X (act1 n ρ') w') → o.wp P (act1 n ρ) w X Q
variable {k : Zt → Option R} {r : R} {d : Nat} {op : Op} {t : TypeId} {pos : String} {af : Array Edge}
theorem OpOk.mono {o : Oper} {Ψ Ψ' : Zt → Prop} (h : OpOk P E n fr σ ρ w o Ψ) (k : ∀ σ', Ψ σ' → Ψ' σ') : OpOk P E n fr σ ρ w o Ψ' := fun X Q hX => h X Q (fun σ' m' K' ρ' w' h1 h2 h3 => hX σ' m' K' ρ' w' h1 h2 (k σ' h3))
theorem opVal_ok {h0 : Hn P} {k : Hn P → Zt → Option R} (h : opVal n ⟨some d, op, t, pos, af, none⟩ h0 σ k = some r) (hr : Rel E fr σ m K ρ w) : OpOk P E n fr σ ρ w ⟨some d, op, t, pos, af, none⟩ (fun σ' => k h0 σ' = some r) := fun X Q hX => by
 obtain ⟨σ', sv, v, h1, h2, h3, h4⟩ := vop_ok (show vop P n true (σ.H ++ σ.Hf) σ op (fun σ v => k h0 (σ.set d v)) = some r from h) hr.toPur hr.cls
 unfold Oper.wp
 rw [eval_act1, h4 _ _ _ _ _ w hr.hold, Oper.upon_value, put_act1]
 have h5 := (h2.rel hr).set (d := d) h3
 exact hX _ _ _ _ _ h5 (h2.same.trans ⟨rfl, rfl⟩) h1
theorem opAlloc_ok {e : TypeId} (h : opAlloc P σ (some d) e k = some r) (hr : Rel E fr σ m K ρ w) : OpOk P E n fr σ ρ w ⟨some d, .alloc e, t, pos, af, none⟩ (fun σ' => k σ' = some r) := fun X Q hX => by
 unfold opAlloc at h
 cases hb : Nat.beq e BldA.t with
 | true =>
   rw [hb] at h
   simp only [cond_true] at h
   replace h := bift h; obtain ⟨h1, h⟩ := h
   obtain rfl := Nat.eq_of_beq_eq_true hb
   have hz : ∃ sz bt, Inf P BldA.t (.agg #[.pointer none, .slice none 0 0]) sz bt := by
     unfold isBld at h1
     split at h1
     · rename_i i hi
       split at h1
       · rename_i cs hz
         split at h1
         · rename_i hcs
           obtain rfl : cs = #[.pointer none, .slice none 0 0] := by simpa using congrArg List.toArray hcs
           exact ⟨i.size, i.bytes, by unfold Inf; rw [hi]; simp [hz]⟩
         · cases h1
       · cases h1
     · cases h1
   obtain ⟨sz, bt, hz⟩ := hz
   refine wp_ds ((A.alloc (cs := [.pointer none, .slice none 0 0]) hz rfl).go w hr.toSep _ _ ?_)
   rintro ρ' K' L' w' ⟨b, rfl, rfl, rfl⟩ hs
   have hs := BldA.fresh hs
   have hp := pre_app m [.val (.pointer (some ⟨b, 0, none⟩))]
   have g0 : (m ++ [.val (.pointer (some ⟨b, 0, none⟩))])[σ.nx]? = some (.val (.pointer (some ⟨b, 0, none⟩))) := get_new0 hr.nx
   have q : Pur fr ⟨σ.base, σ.top, .bld σ.nx [] :: σ.H, σ.Hf, σ.nx + 1, σ.kq⟩ (m ++ [.val (.pointer (some ⟨b, 0, none⟩))]) K ρ := by
     refine Pur.next hr.toPur hp (Hp.le_refl K) (fun e => ⟨e, rfl⟩) (by simp [hr.nx]) ?_
     intro a ha
     rcases List.mem_cons.1 ha with rfl | ha
     · exact ⟨b, g0⟩
     · exact hr.toPur.okH' hp (Hp.le_refl K) a ha
   refine hX _ _ _ _ _ ⟨q.set (d := d) (sv := .ptr σ.nx 0) (v := .pointer (some ⟨b, 0, none⟩)) ⟨b, g0, rfl⟩, ?_⟩ ⟨rfl, rfl⟩ h
   show Sep E K ((HA.conc _ _ :: σ.H.map (HA.conc _)) ++ σ.fz fr) w'
   rw [hr.toPur.conc hp (fun a ha => ha)]
   simp only [HA.conc, g0]
   exact hs
 | false =>
   rw [hb] at h
   simp only [cond_false] at h
   split at h
   · rename_i cs hcs
     obtain ⟨z, sz, bt, h1, h2⟩ := zeroS_ok (m := m) (K := K) hcs
     refine wp_ds ((A.alloc h1 rfl).go w hr.toSep _ _ ?_)
     rintro ρ' K' L' w' ⟨b, rfl, rfl, rfl⟩ hs
     exact hX _ _ _ _ _ (hr.newB h2 hs) ⟨rfl, rfl⟩ h
   · cases h
theorem opBox_ok {e : TypeId} {x : Operand} {cs : List SV} (hc : (σ.evr n x).cells = some cs) (h : newB σ (some d) e cs k = some r) (hr : Rel E fr σ m K ρ w) : OpOk P E n fr σ ρ w ⟨some d, .box e x, t, pos, af, none⟩ (fun σ' => k σ' = some r) := fun X Q hX => by
 have h2 := cells_rel hc (hr.toPur.evr n x)
 refine wp_ds ((A.box rfl rfl).go w hr.toSep _ _ ?_)
 rintro ρ' K' L' w' ⟨b, rfl, rfl, rfl⟩ hs
 exact hX _ _ _ _ _ (hr.newB h2 hs) ⟨rfl, rfl⟩ h
theorem leafs_one : ∀ {vs : List SV} {us : List Value}, vs.all SV.leaf = true → SV.relL m K vs us → us.all (fun u => u.oneCell') = true
 | [], us, h, hr => by obtain rfl := relL_nil hr; rfl
 | v :: vs, us, h, hr => by
   obtain ⟨u, q, rfl, h1, h2⟩ := relL_cons hr
   simp only [List.all_cons, Bool.and_eq_true] at h ⊢
   exact ⟨leaf_one _ h.1 h1, leafs_one h.2 h2⟩
theorem splice_rel {t : Tp} {x : t.den} {es : List Value} {vs : List SV} {us : List Value} {o : Nat} {y : t.den} (hd : dt t (splice (SV.lv t x) o vs) = some (y, [])) (hi : Is K t es x) (hr : SV.relL m K vs us) : Is K t (es.take o ++ us ++ es.drop (o + us.length)) y := by
 obtain ⟨c1, c2, h1, h2, h3⟩ := dt_is t hd (relL_splice o (lv_rel (m := m) t hi) hr)
 obtain rfl := relL_nil h3
 rw [List.append_nil] at h1
 rw [h1]; exact h2
theorem Els.splice {t : Tp} : ∀ {xs : List t.den} {cs : List Value}, Els K t cs xs → ∀ (i : Nat) (x y : t.den), xs[i]? = some x → ∀ (o : Nat) (us : List Value), o + us.length ≤ t.size → (∀ es, Is K t es x → Is K t (es.take o ++ us ++ es.drop (o + us.length)) y) →
   Els K t (cs.take (i * t.size + o) ++ us ++ cs.drop (i * t.size + o + us.length)) (xs.set i y)
 | [], cs, h, i, x, y, hx, _, _, _, _ => by simp at hx
 | z :: xs, cs, h, 0, x, y, hx, o, us, ho, hs => by
   obtain ⟨es, q, rfl, h1, h2⟩ := h
   simp at hx; subst hx
   have hl := h1.len
   refine ⟨es.take o ++ us ++ es.drop (o + us.length), q, ?_, hs es h1, h2⟩
   rw [Nat.zero_mul, Nat.zero_add, List.take_append_of_le_length (by omega), List.drop_append_of_le_length (by omega)]
   simp
 | z :: xs, cs, h, i + 1, x, y, hx, o, us, ho, hs => by
   obtain ⟨es, q, rfl, h1, h2⟩ := h
   have hl := h1.len
   refine ⟨es, _, ?_, h1, Els.splice h2 i x y (by simpa using hx) o us ho hs⟩
   have e : (i + 1) * t.size + o = es.length + (i * t.size + o) := by rw [hl, Nat.succ_mul]; omega
   rw [e, List.take_length_add_append, Nat.add_assoc es.length, List.drop_length_add_append]
   simp
theorem A.storeRw {s e : TypeId} {b mm cap sz kk nn o : Nat} {cs ds : List Value} {L : List Atom} {x y : Operand} {v : Value} {g : Option (Nat × Bool)} (hz : (P.info? s).map (·.size) = some sz) (hx : ev n ρ x = .pointer (some ⟨b, o, none⟩)) (hy : ev n ρ y = v) (hl : v.cells.toList = ds) (h1' : ds.all (fun u => u.oneCell') = true)
   (hsz : ds.length = sz) (ho : o + ds.length ≤ cs.length) :
   Ao P E n ⟨none, .store s x y, t, pos, af, g⟩ ρ K (Rw e kk (.slice (some ⟨b, 0, none⟩) mm cap) nn cs :: L) (fun ρ' K' L' => ρ = ρ' ∧ K = K' ∧ L' = Rw e kk (.slice (some ⟨b, 0, none⟩) mm cap) nn (cs.take o ++ ds ++ cs.drop (o + ds.length)) :: L) :=
 Ao.ofU rfl (fun w hsep => by
   have h1 : ∀ u ∈ ds, u.oneCell' = true := List.all_eq_true.1 h1'
   obtain ⟨h, ⟨hlen, h3⟩, hd0, hs2⟩ := hsep
   rcases h3 with ⟨h3, _⟩ | ⟨gb, cp, cur, h3, rfl, h4, h5, h6, h7⟩
   · cases h3
   simp only [Value.slice.injEq, Option.some.injEq, Addr.mk.injEq, and_true] at h3
   obtain ⟨rfl, hm, rfl⟩ := h3
   have hblk : w.heap[b]? = some (.cells cur e (0, 0)) := hs2.sub b _ (Hp.join_right (one_of b _) (hd0 b _ (one_of b _)))
   have hcz : cur.toList.length = cap * kk := by rw [Array.length_toList]; exact h6
   have hle : nn * kk ≤ cap * kk := Nat.mul_le_mul_right _ h4
   have L1 : (cur.toList.take o).length = o := by rw [List.length_take, hcz]; omega
   have L2 : (cs.take o).length = o := by rw [List.length_take]; omega
   have hvs : v.cells.size = ds.length := by rw [← hl, Array.length_toList]
   subst hsz
   cases hi : P.info? s with
   | none => rw [hi] at hz; simp at hz
   | some i' =>
     rw [hi] at hz
     simp at hz
     have h8 := run_storeCells_at P b o e ds 0 cur w hblk (by rw [← Array.length_toList, hcz]; omega) h1
     simp only [Nat.add_zero] at h8
     refine ⟨w.setRow b (cur.toList.take o ++ ds ++ cur.toList.drop (o + ds.length)).toArray, K, _, ?_, ?_, rfl, rfl, rfl⟩
     · simp [execOp, hx, hy, Instr.storeAt, Instr.sureAddr, storeVar, sizeOf, typeInfo, hi, hz, hvs, hl]
       rw [h8]; simp
     · refine Sep.turn (A := fun h => h = one b (.cells cur e (0, 0))) ⟨_, rfl, hd0, hs2⟩ (fun e => e) (fun h0 ha _ => ?_)
       obtain rfl : h0 = _ := ha
       refine ⟨one b (.cells (cur.toList.take o ++ ds ++ cur.toList.drop (o + ds.length)).toArray e (0, 0)), ⟨?_, .inr ⟨b, cap, _, by rw [hm], rfl, h4, h5, ?_, ?_⟩⟩, fun n o' e' => ?_, fun n o' e' h1 => ?_⟩
       · rw [List.length_append, List.length_append, L2, List.length_drop]; omega
       · rw [List.size_toArray, List.length_append, List.length_append, L1, List.length_drop, hcz]; omega
       · rw [← h7]
         rw [List.take_take, Nat.min_eq_left (by omega), List.append_assoc, List.take_append, List.take_append, L1, List.take_take, Nat.min_eq_right (by omega), List.take_of_length_le (l := ds) (by omega), List.drop_take, List.append_assoc, Nat.sub_sub]
       · obtain ⟨rfl, rfl⟩ := one_some e'
         exact ⟨setRow_heap w n _ _ e (0, 0) hblk, fun h => by rw [one_of] at h; cases h⟩
       · have hn : n ≠ b := fun e => by subst e; rw [one_of] at h1; cases h1
         rw [setRow_other w b n _ hn]; exact e')
theorem bif_and {α : Type} {a b : Bool} {x : Option α} {r : α} (h : (bif a && b then x else none) = some r) : a = true ∧ b = true ∧ x = some r := by
 cases a <;> cases b <;> first | (cases h; done) | exact ⟨rfl, rfl, h⟩
theorem sto_ok {s : TypeId} {x y : Operand} {p : SV} (h : sto P σ s p (σ.evr n y) k = some r) (hr : Rel E fr σ m K ρ w) (hx : SV.rel m K p (ev n ρ x)) : OpOk P E n fr σ ρ w ⟨none, .store s x y, t, pos, af, none⟩ (fun σ' => k σ' = some r) := fun X Q hX => by
 have hy := hr.toPur.evr n y
 unfold sto at h
 split at h
 · rename_i vs z hvs hz
   replace h := bif_and h; obtain ⟨h1, h2, h⟩ := h
   have h1 := Nat.eq_of_beq_eq_true h1
   have hc := cells_rel hvs hy
   have hlen := relL_len hc
   have hone := leafs_one h2 hc
   split at h
   · rename_i i o
     split at h
     · rename_i q H hq
       replace h := bift h; obtain ⟨hb, h⟩ := h
       have hb' := Nat.le_of_ble_eq_true hb
       obtain ⟨a, ha, hmem, hsub, hs⟩ := hr.take hq
       obtain rfl := blkR_eq ha
       obtain ⟨b, us, g1, g2, g3, g4⟩ := HA.ok_blk (hr.okH _ hmem)
       rw [g4] at hs
       obtain ⟨b', g5, hx⟩ := hx
       rw [g1] at g5; cases g5
       have hul := relL_len g3
       refine wp_ds ((A.store (v := ev n ρ y) hz hx rfl (by rw [← Array.length_toList, hlen, h1]) (by rw [hul]; exact hb) hone rfl).go w hs _ _ ?_)
       rintro ρ' K' L' w' ⟨rfl, rfl, rfl⟩ hs'
       have hp := pre_app m [.cells (us.take o ++ (ev n ρ y).cells.toList ++ us.drop (o + z))]
       have gn : (m ++ [.cells (us.take o ++ (ev n ρ y).cells.toList ++ us.drop (o + z))])[σ.nx]? = some (.cells (us.take o ++ (ev n ρ y).cells.toList ++ us.drop (o + z))) := get_new0 hr.nx
       refine hX ⟨σ.base, σ.top, .blk i σ.nx q.e (splice q.cs o vs) :: H, σ.Hf, σ.nx + 1, σ.kq⟩ (m ++ [.cells (us.take o ++ (ev n ρ y).cells.toList ++ us.drop (o + z))]) K _ _ ⟨Pur.next hr.toPur hp (Hp.le_refl K) (fun e => ⟨e, rfl⟩) (by simp [hr.nx]) ?_, ?_⟩ ⟨rfl, rfl⟩ h
       · intro a ha
         rcases List.mem_cons.1 ha with rfl | ha
         · refine ⟨b, _, pre_get hp g1, gn, ?_⟩
           have := relL_splice o g3 hc
           rw [hlen, h1] at this
           exact SV.monoL (fun _ _ k => pre_get hp k) (Hp.le_refl K) _ this
         · exact hr.toPur.okH' hp (Hp.le_refl K) a (hsub a ha)
       · show Sep E K ((HA.conc _ _ :: H.map (HA.conc _)) ++ σ.fz fr) w'
         rw [hr.toPur.conc hp hsub]
         simp only [HA.conc, pre_get hp g1, gn]
         exact hs'
     · cases h
   · rename_i i c tp j x0 o
     split at h
     · rename_i q H hq
       replace h := bif_and h; obtain ⟨hb1, hb, h⟩ := h
       have hb1 := Nat.eq_of_beq_eq_true hb1
       have hb' := Nat.le_of_ble_eq_true hb
       split at h
       · rename_i hsm y0 hsm' hd
         obtain ⟨hsm⟩ := hsm
         obtain ⟨a, ha, hmem, hsub, hs⟩ := hr.take hq
         obtain rfl := rowR_eq ha
         obtain ⟨c0, e0, t0, l0, n0⟩ := q
         dsimp only at *
         subst hsm
         subst hb1
         obtain ⟨ad, cap, cs, g1, g2, g3, g4, g5, g6⟩ := HA.ok_row (hr.okH _ hmem)
         rw [g6] at hs
         obtain ⟨g, nn, cap', l', cs', q1, q2, q3, hx⟩ := hx
         rw [g1] at q1
         simp only [Option.some.injEq, M.val.injEq, Value.slice.injEq] at q1
         obtain ⟨rfl, rfl, rfl⟩ := q1
         rw [g2] at q2
         simp only [Option.some.injEq, M.cont.injEq, heq_eq_eq, true_and] at q2
         obtain ⟨rfl, rfl⟩ := q2
         obtain ⟨p1, p2, p3⟩ := getI_some q3
         have hcl := g3.len
         have hjl := (List.getElem?_eq_some_iff.1 p2).1
         have hle : (j.toNat + 1) * t0.size ≤ l0.length * t0.size := Nat.mul_le_mul_right _ (by omega)
         rw [Nat.succ_mul] at hle
         obtain ⟨zs, hzs, h⟩ := ob h
         cases hzs
         have hel := Els.splice g3 j.toNat x0 y0 p2 o (ev n ρ y).cells.toList (by rw [hlen, h1]; exact hb') (fun es hes => splice_rel (m := m) hd hes (stL_rel _ hc))
         refine wp_ds ((A.storeRw (nn := n0) hz hx rfl rfl hone (by rw [hlen, h1]) (by rw [hlen, h1, hcl]; have hb2 : o + z ≤ t0.size := hb'; show j.toNat * t0.size + o + z ≤ l0.length * t0.size; omega)).go w hs _ _ ?_)
         rintro ρ' K' L' w' ⟨rfl, rfl, rfl⟩ hs'
         have hp := pre_app m [.cont t0 (l0.set j.toNat y0) (cs.take (j.toNat * t0.size + o) ++ (ev n ρ y).cells.toList ++ cs.drop (j.toNat * t0.size + o + (ev n ρ y).cells.toList.length))]
         have gn : (m ++ [.cont t0 (l0.set j.toNat y0) (cs.take (j.toNat * t0.size + o) ++ (ev n ρ y).cells.toList ++ cs.drop (j.toNat * t0.size + o + (ev n ρ y).cells.toList.length))])[σ.nx]? = some (.cont t0 (l0.set j.toNat y0) (cs.take (j.toNat * t0.size + o) ++ (ev n ρ y).cells.toList ++ cs.drop (j.toNat * t0.size + o + (ev n ρ y).cells.toList.length))) := get_new0 hr.nx
         obtain ⟨_, _, _, k1, _, _, _, k5, k6, _⟩ := hr.okH _ hmem
         refine hX ⟨σ.base, σ.top, .row i σ.nx e0 t0 (l0.set j.toNat y0) n0 :: H, σ.Hf, σ.nx + 1, σ.kq⟩ _ K _ _ ⟨Pur.next hr.toPur hp (Hp.le_refl K) (fun e => ⟨e, rfl⟩) (by simp [hr.nx]) ?_, ?_⟩ ⟨rfl, rfl⟩ h
         · intro a ha
           rcases List.mem_cons.1 ha with rfl | ha
           · rw [g1] at k1
             simp only [Option.some.injEq, M.val.injEq, Value.slice.injEq] at k1
             obtain ⟨rfl, _, rfl⟩ := k1
             exact ⟨_, _, _, pre_get hp g1, gn, hel, by rw [List.length_set]; exact g4, k5, k6, fun _ => ⟨_, rfl⟩⟩
           · exact hr.toPur.okH' hp (Hp.le_refl K) a (hsub a ha)
         · show Sep E K ((HA.conc _ _ :: H.map (HA.conc _)) ++ σ.fz fr) w'
           rw [hr.toPur.conc hp hsub]
           simp only [HA.conc, pre_get hp g1, gn]
           exact hs'
       · cases h
     · cases h
   · rename_i i o j off
     split at h
     · rename_i q H hq
       replace h := ob h; obtain ⟨_, hcj, h⟩ := h
       have hcj : j = q.j := of_decide_eq_true (bift hcj).1
       replace h := bif_and h; obtain ⟨hb1, hb, h⟩ := h
       have hb1 : off + z ≤ q.cs.length := Nat.le_of_ble_eq_true hb1
       have hb := Nat.eq_of_beq_eq_true hb
       obtain ⟨a, ha, hmem, hsub, hs⟩ := hr.take hq
       obtain rfl := holR_eq ha
       obtain ⟨ad, cap, K0, es, g1, g2, g3, g4, g5, g6, g7, g, rfl⟩ := hr.okH _ hmem
       simp only [HA.conc, g1, g2] at hs
       obtain ⟨h0, ⟨c1, c2, hl, hst⟩, hd, hs⟩ := hs
       have hs := Sep.split ⟨h0, hst, hd, hs⟩
       obtain ⟨g', nn, cap', q1, q2, q3, hx⟩ := hx
       rw [g1] at q1
       simp only [Option.some.injEq, M.val.injEq, Value.slice.injEq, Addr.mk.injEq, and_true] at q1
       obtain ⟨rfl, rfl, rfl⟩ := q1
       have hesl := relL_len g4
       subst hcj
       rw [hb] at hx
       refine wp_ds ((A.storeRw (nn := q.l.length) hz hx rfl rfl hone (by rw [hlen, h1]) (by rw [hlen, h1, List.length_append, List.length_append, hl]; omega)).go w hs _ _ ?_)
       rintro ρ' K' L' w' ⟨rfl, rfl, rfl⟩ hs'
       have hp := pre_app m [.hol K0 (es.take off ++ (ev n ρ y).cells.toList ++ es.drop (off + z))]
       have gn : (m ++ [.hol K0 (es.take off ++ (ev n ρ y).cells.toList ++ es.drop (off + z))])[σ.nx]? = some (.hol K0 (es.take off ++ (ev n ρ y).cells.toList ++ es.drop (off + z))) := get_new0 hr.nx
       have hcat : (c1 ++ (es ++ c2)).take (q.j.toNat * q.o.tp.size + off) ++ (ev n ρ y).cells.toList ++ (c1 ++ (es ++ c2)).drop (q.j.toNat * q.o.tp.size + off + (ev n ρ y).cells.toList.length) = c1 ++ ((es.take off ++ (ev n ρ y).cells.toList ++ es.drop (off + z)) ++ c2) := by
         rw [hlen, h1, ← hl, List.take_length_add_append, Nat.add_assoc c1.length, List.drop_length_add_append, List.take_append_of_le_length (by omega), List.drop_append_of_le_length (by omega)]
         simp
       rw [hcat] at hs'
       refine hX ⟨σ.base, σ.top, .hole i σ.nx q.e q.o q.l q.j (splice q.cs off vs) :: H, σ.Hf, σ.nx + 1, σ.kq⟩ (m ++ [.hol K0 (es.take off ++ (ev n ρ y).cells.toList ++ es.drop (off + z))]) K _ _ ⟨Pur.next hr.toPur hp (Hp.le_refl K) (fun e => ⟨e, rfl⟩) (by simp [hr.nx]) ?_, ?_⟩ ⟨rfl, rfl⟩ h
       · intro a ha
         rcases List.mem_cons.1 ha with rfl | ha
         · refine ⟨_, _, K0, _, pre_get hp g1, gn, g3, ?_, g5, g6, ?_, _, rfl⟩
           · have := relL_splice off g4 hc
             rw [hlen, h1] at this
             exact SV.monoL (fun _ _ k => pre_get hp k) (Hp.le_refl K) _ this
           · rw [List.length_append, List.length_append, List.length_take, List.length_drop, hlen, h1]; omega
         · exact hr.toPur.okH' hp (Hp.le_refl K) a (hsub a ha)
       · show Sep E K ((HA.conc _ _ :: H.map (HA.conc _)) ++ σ.fz fr) w'
         rw [hr.toPur.conc hp hsub]
         simp only [HA.conc, pre_get hp g1, gn]
         exact (Sep.join hs').mono (fun h k => ⟨c1, c2, hl, k⟩)
     · cases h
   · cases h
 · cases h
end
end
section
variable [BldA]
section
variable {R : Type} {P : Program} {E : En} {n : Nat} {m m' : List M} {K K' : Hp} {fr : Frz} {σ : Zt} {ρ : Sl1} {w w' : World} {d : Option Nat} {t : TypeId} {pos : String} {af : Array Edge}
theorem Els.take1 {K : Hp} {ty : Tp} (h1 : ty.size = 1) : ∀ {xs : List ty.den} {cs : List Value} (k : Nat), Els K ty cs xs → Els K ty (cs.take k) (xs.take k)
 | [], cs, k, h => by
   obtain rfl : cs = [] := h
   simp [Els]
 | x :: xs, cs, 0, h => by simp [Els]
 | x :: xs, cs, k + 1, h => by
   obtain ⟨es, r, rfl, h2, h3⟩ := h
   have hl := h2.len
   rw [h1] at hl
   rw [List.take_append, hl, Nat.add_sub_cancel, List.take_of_length_le (by omega)]
   exact ⟨es, _, rfl, h2, Els.take1 h1 k h3⟩
theorem Els.drop1 {K : Hp} {ty : Tp} (h1 : ty.size = 1) : ∀ {xs : List ty.den} {cs : List Value} (k : Nat), Els K ty cs xs → Els K ty (cs.drop k) (xs.drop k)
 | [], cs, k, h => by
   obtain rfl : cs = [] := h
   simp [Els]
 | x :: xs, cs, 0, h => h
 | x :: xs, cs, k + 1, h => by
   obtain ⟨es, r, rfl, h2, h3⟩ := h
   have hl := h2.len
   rw [h1] at hl
   rw [List.drop_append, hl, Nat.add_sub_cancel, List.drop_of_length_le (by omega), List.nil_append]
   exact Els.drop1 h1 k h3
theorem A.copyRw {s s2 e : TypeId} {lo dl dc m cap sl sc : Nat} {cs ds : List Value} {ad adr adx : Option Addr} {L : List Atom} {x y : Operand} (hs : P.underlying s = some (.slice e)) (hi : (P.info? e).map (·.size) = some 1)
   (hx : ev n ρ x = .slice adx dl dc) (ho : dl = 0 ∨ ∃ b, adr = some ⟨b, 0, none⟩ ∧ adx = some ⟨b, lo, none⟩) (hlo : lo + dl ≤ m) (hy : ev n ρ y = .slice ad sl sc) (hsl : sl = ds.length) (h1 : ∀ v ∈ ds, v.oneCell' = true)
   (hld : ∀ w, Sep E K (Rw e 1 (.slice adr m cap) m cs :: L) w → ∀ a, ad = some a → ∀ j u, ds[j]? = some u → w.cell? (a.add j) = some u) (hnil : ad = none → ds = []) :
   Ao P E n ⟨d, .call ⟨.builtin .copy, #[x, y], #[s, s2]⟩, t, pos, af, none⟩ ρ.f K (Rw e 1 (.slice adr m cap) m cs :: L)
     (fun ρ' K' L' => ρ' = (match d with | some d => upd ρ.f d (.int .i64 ((min ds.length dl : Nat) : Int)) | none => ρ.f) ∧ K = K' ∧ L' = Rw e 1 (.slice adr m cap) m (cs.take lo ++ (ds.take dl ++ cs.drop (lo + (ds.take dl).length))) :: L) := by
 refine ⟨fun w hsep X Q hX => ?_⟩
 have hsep' := hsep
 have hT : (ds.take dl).length = min ds.length dl := by rw [List.length_take, Nat.min_comm]
 subst hsl
 have hrun : ∃ w', (Builtin.copy_ #[s, s2] t #[.slice adx dl dc, .slice ad ds.length sc]).run P w = .ok (goInt ((min ds.length dl : Nat) : Int)) w' ∧ Sep E K (Rw e 1 (.slice adr m cap) m (cs.take lo ++ (ds.take dl ++ cs.drop (lo + (ds.take dl).length))) :: L) w' := by
   by_cases h0 : min ds.length dl = 0
   · refine ⟨w, ?_, ?_⟩
     · rw [run_copy_none w s s2 t e _ _ _ _ _ _ hs hi h0, h0]; rfl
     · have e1 : ds.take dl = [] := List.length_eq_zero_iff.1 (by rw [hT, h0])
       rw [e1, List.nil_append, List.length_nil, Nat.add_zero, List.take_append_drop]
       exact hsep'
   · obtain ⟨b, rfl, rfl⟩ := ho.resolve_left (by omega)
     obtain ⟨h, ⟨hlen, h3⟩, hd0, hs2⟩ := hsep
     rcases h3 with ⟨h3, _⟩ | ⟨gb, cp, cur, h3, rfl, h4, h5, h6, h7⟩
     · cases h3
     simp only [Value.slice.injEq, Option.some.injEq, Addr.mk.injEq, and_true, true_and] at h3
     obtain ⟨rfl, rfl⟩ := h3
     rw [Nat.mul_one] at h6 h7 hlen
     have hblk : w.heap[b]? = some (.cells cur e (0, 0)) := hs2.sub b _ (Hp.join_right (one_of b _) (hd0 b _ (one_of b _)))
     have hcz : cur.toList.length = cap := by rw [Array.length_toList]; exact h6
     cases ad with
     | none => rw [hnil rfl] at h0; simp at h0
     | some a =>
       have hr := run_copy_row (P := P) w s s2 t e b lo dl dc a ds.length sc cur e (ds.take dl) hs hi hblk hT (fun j u hj => hld w hsep' a rfl j u (by
         rw [List.getElem?_take] at hj
         split at hj
         · exact hj
         · cases hj)) (by rw [← Array.length_toList, hcz, hT]; omega) (fun v hv => h1 v (List.mem_of_mem_take hv))
       rw [hT] at hr
       refine ⟨_, hr, ?_⟩
       have L1 : (cur.toList.take lo).length = lo := by rw [List.length_take, hcz]; omega
       have L2 : (cs.take lo).length = lo := by rw [List.length_take]; omega
       rw [← hT]
       generalize hds : ds.take dl = es at *
       have hes : lo + es.length ≤ cs.length := by rw [hT, hlen]; omega
       refine Sep.turn (A := fun h => h = one b (.cells cur e (0, 0))) ⟨_, rfl, hd0, hs2⟩ (fun e => e) (fun h0 ha _ => ?_)
       obtain rfl : h0 = _ := ha
       refine ⟨one b (.cells (cur.toList.take lo ++ es ++ cur.toList.drop (lo + es.length)).toArray e (0, 0)), ⟨?_, .inr ⟨b, cap, _, rfl, rfl, h4, h5, ?_, ?_⟩⟩, fun n o' e' => ?_, fun n o' e' h1 => ?_⟩
       · rw [List.length_append, List.length_append, L2, List.length_drop]; omega
       · rw [List.size_toArray, List.length_append, List.length_append, L1, List.length_drop, hcz]; omega
       · rw [← h7, Nat.mul_one]
         rw [List.take_take, Nat.min_eq_left (by omega), List.append_assoc, List.take_append, List.take_append, L1, List.take_take, Nat.min_eq_right (by omega), List.take_of_length_le (l := es) (by omega), List.drop_take, Nat.sub_sub]
       · obtain ⟨rfl, rfl⟩ := one_some e'
         exact ⟨setRow_heap w n _ _ e (0, 0) hblk, fun h => by rw [one_of] at h; cases h⟩
       · have hn : n ≠ b := fun e => by subst e; rw [one_of] at h1; cases h1
         rw [setRow_other w b n _ hn]; exact e'
 obtain ⟨w', hr, hsw⟩ := hrun
 unfold Oper.wp
 have he : (execOp (ev n ρ) ⟨d, .call ⟨.builtin .copy, #[x, y], #[s, s2]⟩, t, pos, af, none⟩).run P w = .ok (.value (goInt ((min ds.length dl : Nat) : Int))) w' := by
   simp [execOp, resolve, invoke, builtin, hx, hy] at hr ⊢
   rw [hr]; rfl
 rw [eval_act, he, Oper.upon_value]
 cases d with
 | none => exact hX ρ.f K _ w' ⟨rfl, rfl, rfl⟩ hsw
 | some d => rw [put_act]; exact hX _ K _ w' ⟨rfl, rfl, rfl⟩ hsw
theorem infOk_size {e : TypeId} {z : Nat} (h : infOk P e z = true) : (P.info? e).map (·.size) = some z := by
 unfold infOk at h
 split at h
 · rename_i i hi
   simp only [Bool.and_eq_true] at h
   rw [hi]
   have := Nat.eq_of_beq_eq_true h.1.1.1
   simp [this]
 · cases h
theorem cpRow_ok {ty : Tp} {i : Nat} {ys : List ty.den} {C : World → Prop} (h : cpRow ty i (σ.H ++ σ.Hf) = some ys) (hc : Cls E C true (σ.H ++ σ.Hf) m K) (h1 : ty.size = 1) :
   ∃ ad cap cs, m[i]? = some (.val (.slice ad ys.length cap)) ∧ Els K ty cs ys ∧ cs.length = ys.length ∧ (∀ w', C w' → ∀ a, ad = some a → ∀ j u, cs[j]? = some u → w'.cell? (a.add j) = some u) ∧ (ys ≠ [] → ∃ g, ad = some ⟨g, 0, none⟩) := by
 unfold cpRow at h
 split at h
 · rename_i q hq
   split at h
   · rename_i hsm hsm'
     obtain ⟨hsm⟩ := hsm
     cases h
     obtain ⟨at1, ha, hmem⟩ := findR_spec hq
     obtain rfl := rowR_eq ha
     obtain ⟨c0, e0, t0, l0, n0⟩ := q
     dsimp only at hsm hmem ⊢
     subst hsm
     obtain ⟨hok, hrd⟩ := hc.rd _ hmem
     obtain ⟨ad, cap, cs, g1, g2, g3, g4, g5, g6⟩ := HA.ok_row hok
     have hcl : cs.length = l0.length := by rw [g3.len, h1, Nat.mul_one]
     refine ⟨ad, cap, cs, by rw [show (cstL ⟨rfl⟩ l0).length = n0 from g4]; exact g1, g3, hcl, fun w' hw' a hae j u hj => ?_, g5⟩
     obtain ⟨K', L', hs⟩ := hrd w' hw'
     rw [g6] at hs
     obtain ⟨h0, hR, hd, hs2⟩ := hs
     have hle : h0.le (Hp.of w') := fun n o e => hs2.sub n o (Hp.join_right e (hd n o e))
     obtain ⟨g, cap', hv, hcc⟩ := Rw.cells hR j u hj
     simp only [Value.slice.injEq] at hv
     rw [hae] at hv
     have := Option.some.inj hv.1
     rw [this, addr_add, Nat.zero_add]
     exact cellK_world hle hcc
   · cases h
 · cases h
theorem cpFrom_ok {ty : Tp} {sv : SV} {v : Value} {ys : List ty.den} {C : World → Prop} (h : cpFrom ty (σ.H ++ σ.Hf) sv = some ys) (hv : SV.rel m K sv v) (hc : Cls E C true (σ.H ++ σ.Hf) m K) (hK : ∀ w', C w' → K.le (Hp.of w')) (h1 : ty.size = 1) :
   ∃ ad sc ds, v = .slice ad ds.length sc ∧ Els K ty ds ys ∧ ds.length = ys.length ∧ (∀ w', C w' → ∀ a, ad = some a → ∀ j u, ds[j]? = some u → w'.cell? (a.add j) = some u) ∧ (ad = none → ds = []) := by
 cases sv with
 | nils =>
   cases h
   exact ⟨none, 0, [], hv, rfl, rfl, fun _ _ a e => (by cases e), fun _ => rfl⟩
 | row u l z =>
   dsimp only [cpFrom] at h
   split at h
   · rename_i hsm hsm'
     obtain ⟨hsm⟩ := hsm
     cases h
     subst hsm
     obtain ⟨hi, hl⟩ := hv
     obtain ⟨ad, cap, hv⟩ := hi.slv
     rw [hv] at hi
     cases ad with
     | none =>
       obtain ⟨e1, e2⟩ := hi.nil_len
       have e1 : l = [] := e1
       subst e1
       exact ⟨none, cap, [], hv, rfl, rfl, fun _ _ a e => (by cases e), fun _ => rfl⟩
     | some b =>
       obtain ⟨ds, h5, h6, h7⟩ := hi.cells (by omega)
       have hdl : ds.length = l.length := by rw [h5.len, h1, Nat.mul_one]
       exact ⟨some b, cap, ds, by rw [hv, hdl], h5, hdl, fun w' hw' a e => by cases e; exact h7 w' (hK w' hw'), fun e => by cases e⟩
   · cases h
 | own i =>
   obtain ⟨ad, cap, cs, g1, g2, g3, g4, g5⟩ := cpRow_ok h hc h1
   have hx := hv.1
   rw [g1] at hx
   have hx : v = .slice ad ys.length cap := by simp only [Option.some.injEq, M.val.injEq] at hx; exact hx.symm
   refine ⟨ad, cap, cs, by rw [hx, g3], g2, g3, g4, fun e => ?_⟩
   have : ys = [] := by
     by_cases q : ys = []
     · exact q
     · obtain ⟨g, hg⟩ := g5 q; rw [e] at hg; cases hg
   exact List.length_eq_zero_iff.1 (by rw [g3, this]; rfl)
 | prt i z lo hi =>
   unfold cpFrom at h
   replace h := biff h; obtain ⟨hz, h⟩ := h
   have hz : z = 1 := by simpa using hz
   subst hz
   split at h
   · rename_i l hl
     cases h
     obtain ⟨ad, cap, cs, g1, g2, g3, g4, g5⟩ := cpRow_ok hl hc h1
     obtain ⟨ad0, nn, cap', ad1, q1, q2, q3, q4, q5, hx⟩ := hv
     rw [g1] at q1
     simp only [Option.some.injEq, M.val.injEq, Value.slice.injEq] at q1
     obtain ⟨rfl, rfl, rfl⟩ := q1
     have hcl : ((cs.take hi.toNat).drop lo.toNat).length = hi.toNat - lo.toNat := by rw [List.length_drop, List.length_take, g3]; omega
     refine ⟨ad1, cap - lo.toNat, (cs.take hi.toNat).drop lo.toNat, by rw [hx, hcl], Els.drop1 h1 _ (Els.take1 h1 _ g2), ?_, fun w' hw' a e j u hj => ?_, fun e => ?_⟩
     · rw [hcl, List.length_drop, List.length_take]; omega
     · rw [List.getElem?_drop] at hj
       have hlt : lo.toNat + j < hi.toNat := by
         by_cases c : lo.toNat + j < hi.toNat
         · exact c
         · rw [List.getElem?_take, if_neg c] at hj; cases hj
       rw [List.getElem?_take, if_pos hlt] at hj
       obtain ⟨g, eg⟩ := g5 (fun e => by rw [e] at q4; simp at q4; omega)
       have h9 := g4 w' hw' _ eg (lo.toNat + j) u hj
       rw [addr_add, Nat.zero_add] at h9
       rw [q5 g (by omega) eg, Nat.mul_one] at e
       cases e
       rw [addr_add]
       exact h9
     · apply List.length_eq_zero_iff.1
       rw [hcl]
       by_cases c : lo < hi
       · exfalso
         obtain ⟨g, eg⟩ := g5 (fun e => by rw [e] at q4; simp at q4; omega)
         rw [q5 g c eg] at e
         cases e
       · omega
   · cases h
 | _ => cases h
theorem opCopy_ok {s s2 : TypeId} {x y : Operand} {k : Zt → Option R} {r : R} (h : opCopy P σ d s (σ.ev n x) (σ.ev n y) k = some r) (hr : Rel E fr σ m K ρ w) : OpOk P E n fr σ ρ w ⟨d, .call ⟨.builtin .copy, #[x, y], #[s, s2]⟩, t, pos, af, none⟩ (fun σ' => k σ' = some r) := fun X Q hX => by
 have hx := hr.toPur.ev n x
 have hy := hr.toPur.ev n y
 unfold opCopy at h
 split at h
 · rename_i e i lo hi hs hto
   split at h
   · rename_i q H hq
     replace h := bif_and h; obtain ⟨hb, hb2, h⟩ := h
     rw [Bool.and_eq_true] at hb2
     have hb := Nat.eq_of_beq_eq_true hb
     have h1 := Nat.eq_of_beq_eq_true hb2.2
     split at h
     · rename_i ys hys
       obtain ⟨zs, hzs, h⟩ := ob h
       cases hzs
       obtain ⟨at1, hat, hperm⟩ := pick_spec hq
       have hsep0 := hr.take hq
       obtain ⟨a, ha, hmem, hsub, hsep⟩ := hsep0
       obtain rfl := rowR_eq ha
       obtain rfl := rowR_eq hat
       obtain ⟨c0, e0, t0, l0, n0⟩ := q
       change e0 = e at hb
       subst hb
       change HA.row i c0 e0 t0 l0 n0 ∈ σ.H at hmem
       obtain ⟨ad, cap, cs, g1, g2, g3, g4, g5, g6⟩ := HA.ok_row (hr.okH _ hmem)
       obtain ⟨_, _, _, k1, _, _, _, k5, k6, _⟩ := hr.okH _ hmem
       rw [g1] at k1
       simp only [Option.some.injEq, M.val.injEq, Value.slice.injEq, true_and] at k1
       obtain ⟨_, rfl⟩ := k1
       dsimp only at h1 hys h
       -- the worlds in which it is read
       have hC : ∀ w', Sep E K (HA.conc m (.row i c0 e0 t0 l0 n0) :: (H.map (HA.conc m) ++ σ.fz fr)) w' → Hold E K (σ.atoms fr m) w' := fun w' h' =>
         Hold.of_sep (Sep.perm ((hperm.2.map (HA.conc m)).append_right _).symm h')
       obtain ⟨ad2, sc, ds, v1, v2, v3, v4, v5⟩ := cpFrom_ok hys hy hr.cls (fun w' ⟨K', L', hk, h'⟩ => hk.trans h'.sub) h1
       have hdst : ∃ adx dl dc, ev n ρ x = .slice adx dl dc ∧ (dl = 0 ∨ ∃ b, ad = some ⟨b, 0, none⟩ ∧ adx = some ⟨b, lo.toNat, none⟩) ∧ lo.toNat + dl ≤ n0 ∧ dl = cpEnd n0 hi - lo.toNat := by
         generalize hsv : σ.ev n x = sv at hto hx
         cases sv with
         | own i' =>
           simp only [cpTo, Option.some.injEq, Prod.mk.injEq] at hto
           obtain ⟨rfl, rfl, rfl⟩ := hto
           have hv := hx.1
           rw [g1] at hv
           simp only [Option.some.injEq, M.val.injEq] at hv
           refine ⟨ad, n0, cap, hv.symm, ?_, by simp, by simp [cpEnd]⟩
           by_cases c : n0 = 0
           · exact .inl c
           · obtain ⟨g, eg⟩ := g5 (fun e => c (by rw [← show l0.length = n0 from g4, show l0 = _ from e]; rfl))
             exact .inr ⟨g, eg, eg⟩
         | prt i' z lo' hi' =>
           simp only [cpTo] at hto
           replace hto := bift hto; obtain ⟨hz, hto⟩ := hto
           have hz := Nat.eq_of_beq_eq_true hz
           subst hz
           simp only [Option.some.injEq, Prod.mk.injEq] at hto
           obtain ⟨rfl, rfl, rfl⟩ := hto
           obtain ⟨ad0, nn, cap', ad1, q1, q2, q3, q4, q5, hv⟩ := hx
           rw [g1] at q1
           simp only [Option.some.injEq, M.val.injEq, Value.slice.injEq] at q1
           obtain ⟨rfl, rfl, rfl⟩ := q1
           refine ⟨ad1, _, _, hv, ?_, by omega, rfl⟩
           by_cases c : lo' < hi'
           · obtain ⟨g, eg⟩ := g5 (fun e => by have g4 : l0.length = n0 := g4; rw [show l0 = _ from e] at g4; simp at g4; omega)
             exact .inr ⟨g, eg, by rw [q5 g c eg, Nat.mul_one]⟩
           · exact .inl (by omega)
         | _ => simp [cpTo] at hto
       obtain ⟨adx, dl, dc, d1, d2, d3, d4⟩ := hdst
       rw [g6, h1] at hsep
       rw [g6, h1] at hC
       refine wp_ds ((A.copyRw (t := t) (pos := pos) (af := af) (d := d) (s2 := s2) (cs := cs) hs (infOk_size hb2.1) d1 d2 d3 v1 rfl v2.one' (fun w' hw' => v4 w' (hC w' hw')) v5).go w hsep _ _ ?_)
       rintro ρ' K' L' w' ⟨e, rfl, rfl⟩ hs'
       have hdle : dl = cpEnd n0 hi - lo.toNat := d4
       generalize hcn : cs.take lo.toNat ++ (ds.take dl ++ cs.drop (lo.toNat + (ds.take dl).length)) = cn at hs'
       have hp := pre_app m [.cont t0 (cpy l0 lo.toNat (ys.take (cpEnd n0 hi - lo.toNat))) cn]
       have gn : (m ++ [.cont t0 (cpy l0 lo.toNat (ys.take (cpEnd n0 hi - lo.toNat))) cn])[σ.nx]? = some (.cont t0 (cpy l0 lo.toNat (ys.take (cpEnd n0 hi - lo.toNat))) cn) := get_new0 hr.nx
       have hcl : cs.length = l0.length := by rw [g3.len, h1, Nat.mul_one]
       have hln : l0.length = n0 := g4
       have hcut : (ys.take dl).length = (ds.take dl).length := by rw [List.length_take, List.length_take, v3]
       have hel : Els K t0 cn (cpy l0 lo.toNat (ys.take (cpEnd n0 hi - lo.toNat))) := by
         rw [← hcn, ← hdle]
         unfold cpy
         rw [hcut]
         exact (Els.take1 h1 _ g3).app ((Els.take1 h1 _ v2).app (Els.drop1 h1 _ g3))
       have hnl : (cpy l0 lo.toNat (ys.take (cpEnd n0 hi - lo.toNat))).length = n0 := by
         rw [← hdle]
         unfold cpy
         rw [List.length_append, List.length_append, List.length_take, List.length_drop, List.length_take, hln]
         omega
       have hmin : min ys.length (cpEnd n0 hi - lo.toNat) = min ds.length dl := by rw [v3, hdle]
       rw [hmin] at h
       have hat : ∀ a ∈ (HA.row i σ.nx e0 t0 (cpy l0 lo.toNat (ys.take (cpEnd n0 hi - lo.toNat))) n0 :: H), a.ok (m ++ [.cont t0 (cpy l0 lo.toNat (ys.take (cpEnd n0 hi - lo.toNat))) cn]) K := by
         intro a ha
         rcases List.mem_cons.1 ha with rfl | ha
         · refine ⟨_, _, _, pre_get hp g1, gn, hel, hnl, k5, k6, fun hne => g5 (fun e => hne (List.length_eq_zero_iff.1 ?_))⟩
           rw [hnl, ← hln, show l0 = _ from e]; rfl
         · exact hr.toPur.okH' hp (Hp.le_refl K) a (hsub a ha)
       have hsp : Sep E K ((HA.conc (m ++ [.cont t0 (cpy l0 lo.toNat (ys.take (cpEnd n0 hi - lo.toNat))) cn]) (.row i σ.nx e0 t0 (cpy l0 lo.toNat (ys.take (cpEnd n0 hi - lo.toNat))) n0) :: H.map (HA.conc (m ++ [.cont t0 (cpy l0 lo.toNat (ys.take (cpEnd n0 hi - lo.toNat))) cn]))) ++ σ.fz fr) w' := by
         rw [hr.toPur.conc hp hsub]
         simp only [HA.conc, pre_get hp g1, gn]
         rw [h1]
         exact hs'
       have hbs : Rel E fr ⟨σ.base, σ.top, .row i σ.nx e0 t0 (cpy l0 lo.toNat (ys.take (cpEnd n0 hi - lo.toNat))) n0 :: H, σ.Hf, σ.nx + 1, σ.kq⟩ (m ++ [.cont t0 (cpy l0 lo.toNat (ys.take (cpEnd n0 hi - lo.toNat))) cn]) K ρ w' := ⟨Pur.next hr.toPur hp (Hp.le_refl K) (fun e => ⟨e, rfl⟩) (by simp [hr.nx]) hat, hsp⟩
       cases d with
       | none =>
         subst e
         exact hX ⟨σ.base, [] ++ σ.top, .row i σ.nx e0 t0 (cpy l0 lo.toNat (ys.take (cpEnd n0 hi - lo.toNat))) n0 :: H, σ.Hf, σ.nx + 1, σ.kq⟩ (m ++ [.cont t0 (cpy l0 lo.toNat (ys.take (cpEnd n0 hi - lo.toNat))) cn]) K _ w' hbs ⟨rfl, rfl⟩ h
       | some d =>
         subst e
         have hs2 := hbs.set (d := d) (sv := .int .i64 ((min ds.length dl : Nat) : Int)) (v := .int .i64 ((min ds.length dl : Nat) : Int)) rfl
         have h : k ((⟨σ.base, σ.top, .row i σ.nx e0 t0 (cpy l0 lo.toNat (ys.take (cpEnd n0 hi - lo.toNat))) n0 :: H, σ.Hf, σ.nx + 1, σ.kq⟩ : Zt).set d (.int .i64 ((min ds.length dl : Nat) : Int))) = some r := h
         show X (act1 n (upd1 ρ d (.int .i64 ((min ds.length dl : Nat) : Int)))) w'
         exact hX ((⟨σ.base, σ.top, .row i σ.nx e0 t0 (cpy l0 lo.toNat (ys.take (cpEnd n0 hi - lo.toNat))) n0 :: H, σ.Hf, σ.nx + 1, σ.kq⟩ : Zt).set d (.int .i64 ((min ds.length dl : Nat) : Int))) (m ++ [.cont t0 (cpy l0 lo.toNat (ys.take (cpEnd n0 hi - lo.toNat))) cn]) K _ w' hs2 ⟨rfl, rfl⟩ h
     · cases h
   · cases h
 · cases h
end
end
section
variable [BldA]
section
variable {R : Type} {P : Program} {E : En} {n : Nat} {m m' : List M} {K K' : Hp} {fr : Frz} {σ : Zt} {ρ : Sl1} {w w' : World}
variable {k : Zt → Option R} {r : R} {d : Nat} {op : Op} {t : TypeId} {pos : String} {af : Array Edge}
theorem infOk_ok {e : TypeId} {sz : Nat} (h : infOk P e sz = true) : ∃ z bt, Inf P e z sz bt ∧ z.cells.size = sz ∧ bt ≤ 100000 ∧ 0 < sz := by
 unfold infOk at h
 split at h
 · rename_i i hi
   simp only [Bool.and_eq_true] at h
   obtain ⟨⟨⟨h1, h2⟩, h3⟩, h4⟩ := h
   obtain rfl := Nat.eq_of_beq_eq_true h1
   have h2 := Nat.le_of_ble_eq_true h2
   rw [Nat.blt_eq] at h3
   split at h4
   · rename_i z hz
     exact ⟨z, i.bytes, by unfold Inf; rw [hi]; simp [hz], Nat.eq_of_beq_eq_true h4, h2, h3⟩
   · cases h4
 · cases h
theorem Inf.zero_eq {e : TypeId} {z z' : Value} {s s' b b' : Nat} (h : Inf P e z s b) (h' : Inf P e z' s' b') : z = z' ∧ s = s' ∧ b = b' := by
 obtain ⟨i, h1, h2, h3, h4⟩ := h.open
 obtain ⟨i', h1', h2', h3', h4'⟩ := h'.open
 rw [h1] at h1'; cases h1'
 rw [h2] at h2'; cases h2'
 exact ⟨rfl, h3.symm.trans h3', h4.symm.trans h4'⟩
theorem newR_some {H : List HA} {e : TypeId} {tp : Tp} {l : List tp.den} {d : Option Nat} (h : newR σ d H e tp l k = some r) : ∃ d0, d = some d0 ∧ k ⟨σ.base, (d0, .own σ.nx) :: σ.top, .row σ.nx (σ.nx + 1) e tp l l.length :: H, σ.Hf, σ.nx + 2, σ.kq⟩ = some r := by
 unfold newR at h
 split at h
 · exact ⟨_, rfl, h⟩
 · cases h
def rowsR (m : List M) (K : Hp) : List (List SV) → List (List Value) → Prop
 | [], vs => vs = []
 | c :: cs, vs => ∃ v r, vs = v :: r ∧ SV.relL m K c v ∧ rowsR m K cs r
theorem rowsR_set : ∀ {cs : List (List SV)} {vs : List (List Value)} (i : Nat) {c : List SV} {v : List Value}, rowsR m K cs vs → SV.relL m K c v → rowsR m K (cs.set i c) (vs.set i v)
 | [], vs, i, c, v, h, hv => by obtain rfl : vs = [] := h; exact rfl
 | a :: cs, vs, 0, c, v, ⟨x, r, e, h1, h2⟩, hv => by subst e; exact ⟨v, r, rfl, hv, h2⟩
 | a :: cs, vs, i + 1, c, v, ⟨x, r, e, h1, h2⟩, hv => by subst e; exact ⟨x, _, rfl, h1, rowsR_set i h2 hv⟩
theorem rowsR_len : ∀ {cs : List (List SV)} {vs : List (List Value)}, rowsR m K cs vs → vs.length = cs.length
 | [], vs, h => by obtain rfl : vs = [] := h; rfl
 | a :: cs, vs, ⟨x, r, e, h1, h2⟩ => by subst e; simp [rowsR_len h2]
theorem rowsR_rep {z : List SV} {zv : List Value} (h : SV.relL m K z zv) : ∀ len, rowsR m K (List.replicate len z) (List.replicate len zv)
 | 0 => rfl
 | len + 1 => ⟨zv, _, rfl, h, rowsR_rep h len⟩
theorem zrow_flat (z : List Value) : ∀ len, zrow len z = (List.replicate len z).flatten
 | 0 => rfl
 | len + 1 => by simp [zrow, List.replicate_succ, zrow_flat z len]
theorem dtAll_ok {tp : Tp} : ∀ {cs : List (List SV)} {l : List tp.den} {vs : List (List Value)}, dtAll tp cs = some l → rowsR m K cs vs → Els K tp vs.flatten l ∧ l.length = vs.length
 | [], l, vs, h, hr => by
   cases h
   obtain rfl : vs = [] := hr
   exact ⟨rfl, rfl⟩
 | c :: cs, l, vs, h, hr => by
   obtain ⟨v, q, rfl, hr0, hr1⟩ := hr
   unfold dtAll at h
   split at h
   · rename_i x xs h1 h2
     cases h
     obtain ⟨c1, c2, e1, e2, e3⟩ := dt_is tp h1 hr0
     obtain rfl := relL_nil e3
     obtain ⟨i1, i2⟩ := dtAll_ok h2 hr1
     exact ⟨⟨v, q.flatten, by simp, by rw [e1]; simpa using e2, i1⟩, by simp [i2]⟩
   · cases h
theorem setAll_at : ∀ (xs us : List Value) (off : Nat), off + xs.length ≤ us.length → setAll us off xs = us.take off ++ xs ++ us.drop (off + xs.length)
 | [], us, off, _ => by simp [setAll]
 | x :: xs, us, off, hle => by
   simp only [List.length_cons] at hle
   unfold setAll
   rw [setAll_at xs _ _ (by rw [List.length_set]; omega), List.take_set, List.drop_set, if_pos (by omega)]
   have e : us.take (off + 1) = us.take off ++ [us[off]] := by rw [List.take_succ_eq_append_getElem (by omega)]
   rw [e, List.set_append_right _ _ (by rw [List.length_take]; omega), List.length_take, Nat.min_eq_left (by omega), Nat.sub_self]
   simp [Nat.add_comm, Nat.add_left_comm]
theorem fillL_rows (sz : Nat) (hsz : 0 < sz) : ∀ (qs : List (Nat × Value)) (rows : List (List Value)), (∀ x ∈ rows, x.length = sz) → (∀ p ∈ qs, p.1 < rows.length ∧ p.2.cells.toList.length = sz) →
   fillL (fun i => some (i * sz, sz)) rows.flatten qs = some (qs.foldl (fun rs p => rs.set p.1 p.2.cells.toList) rows).flatten
 | [], rows, _, _ => rfl
 | p :: qs, rows, hr, hq => by
   obtain ⟨i, v⟩ := p
   obtain ⟨h1, h2⟩ := hq (i, v) (by simp)
   dsimp only at h1 h2
   have flen : ∀ (rs : List (List Value)), (∀ x ∈ rs, x.length = sz) → rs.flatten.length = rs.length * sz := by
     intro rs
     induction rs with
     | nil => intro _; simp
     | cons a rs ih => intro h; simp only [List.flatten_cons, List.length_append, List.length_cons]; rw [ih (fun x hx => h x (by simp [hx])), h a (by simp), Nat.succ_mul, Nat.add_comm]
   have hlen := flen rows hr
   have hle : (i + 1) * sz ≤ rows.length * sz := Nat.mul_le_mul_right _ (by omega)
   rw [Nat.succ_mul] at hle
   have fset : ∀ (rs : List (List Value)) (i : Nat), (∀ x ∈ rs, x.length = sz) → i < rs.length → ∀ c : List Value, c.length = sz → (rs.set i c).flatten = rs.flatten.take (i * sz) ++ c ++ rs.flatten.drop (i * sz + sz) := by
     intro rs
     induction rs with
     | nil => intro i _ hi; simp at hi
     | cons a rs ih =>
       intro i h hi c hc
       have ha := h a (by simp)
       cases i with
       | zero => simp [ha]
       | succ i =>
         simp only [List.set_cons_succ, List.flatten_cons]
         rw [ih i (fun x hx => h x (by simp [hx])) (by simpa using hi) c hc]
         have e : (i + 1) * sz = a.length + i * sz := by rw [ha, Nat.succ_mul, Nat.add_comm]
         rw [e, List.take_length_add_append, Nat.add_assoc, List.drop_length_add_append]
         simp
   unfold fillL
   simp only
   rw [h2, Nat.beq_refl, Bool.true_and, Nat.ble_eq_true_of_le (by rw [hlen]; omega)]
   simp only [cond_true]
   rw [setAll_at _ _ _ (by rw [h2, hlen]; omega), h2, ← fset rows i hr h1 _ h2]
   rw [fillL_rows sz hsz qs (rows.set i v.cells.toList) (fun x hx => ?_) (fun p hp => ?_)]
   · rfl
   · rcases List.mem_or_eq_of_mem_set hx with hx | rfl
     · exact hr x hx
     · exact h2
   · rw [List.length_set]; exact hq p (by simp [hp])
theorem litF_ok (sz : Nat) (hsz : 0 < sz) : ∀ {ps : List (Nat × SV)} {qs : List (Nat × Value)} {rs cs : List (List SV)} {vs : List (List Value)}, litF sz rs ps = some cs → partsR m K ps qs → rowsR m K rs vs → (∀ x ∈ vs, x.length = sz) →
   ∃ ws, fillL (fun i => some (i * sz, sz)) vs.flatten qs = some ws.flatten ∧ rowsR m K cs ws ∧ ws.length = vs.length ∧ ∀ x ∈ ws, x.length = sz
 | [], qs, rs, cs, vs, h, hp, hr, hv => by
   cases h
   obtain rfl : qs = [] := hp
   exact ⟨vs, rfl, hr, rfl, hv⟩
 | p :: ps, qs, rs, cs, vs, h, hp, hr, hv => by
   obtain ⟨u, q, rfl, h1, h2⟩ := hp
   unfold litF at h
   split at h
   · rename_i c hc
     replace h := bif_and h; obtain ⟨b1, b2, h⟩ := h
     rw [Nat.blt_eq] at b1
     have b2 := Nat.eq_of_beq_eq_true b2
     have hcr := cells_rel hc h1
     have hcl := relL_len hcr
     have hl := rowsR_len hr
     have hv' : ∀ x ∈ vs.set p.1 u.cells.toList, x.length = sz := fun x hx => by
       rcases List.mem_or_eq_of_mem_set hx with hx | rfl
       · exact hv x hx
       · rw [hcl, b2]
     obtain ⟨ws, g1, g2, g3, g4⟩ := litF_ok sz hsz h h2 (rowsR_set p.1 hr hcr) hv'
     refine ⟨ws, ?_, g2, by rw [g3, List.length_set], g4⟩
     have hone := fillL_rows sz hsz [(p.1, u)] vs hv (fun x hx => by
       simp only [List.mem_singleton] at hx; subst hx
       exact ⟨by rw [hl]; exact b1, by rw [hcl, b2]⟩)
     have step : ∀ (q : List (Nat × Value)), fillL (fun i => some (i * sz, sz)) vs.flatten ((p.1, u) :: q) = fillL (fun i => some (i * sz, sz)) (vs.set p.1 u.cells.toList).flatten q := by
       intro q
       unfold fillL at hone
       unfold fillL
       simp only at hone ⊢
       cases hb : (Nat.beq u.cells.toList.length sz && Nat.ble (p.1 * sz + u.cells.toList.length) vs.flatten.length) with
       | false => rw [hb] at hone; cases hone
       | true =>
         rw [hb] at hone
         simp only [cond_true] at hone ⊢
         unfold fillL at hone
         simp only [List.foldl_cons, List.foldl_nil, Option.some.injEq] at hone
         rw [hone]
         cases q <;> rfl
     rw [step]
     exact g1
   · cases h
theorem opMake_ok {s : TypeId} {x y : Operand} (h : opMake P σ (some d) s (σ.ev n x) (σ.ev n y) k = some r) (hr : Rel E fr σ m K ρ w) : OpOk P E n fr σ ρ w ⟨some d, .makeSlice s x y, t, pos, af, none⟩ (fun σ' => k σ' = some r) := fun X Q hX => by
 have hx := hr.toPur.ev n x
 have hy := hr.toPur.ev n y
 unfold opMake at h
 split at h
 · rename_i e k1 a k2 b hs e1 e2
   rw [e1] at hx; rw [e2] at hy
   split at h
   · rename_i z tp hz htp
     replace h := bift h; obtain ⟨hi, h⟩ := h
     obtain ⟨zv, bt, i1, i2, i3, i4⟩ := infOk_ok hi
     obtain ⟨zv', sz', bt', j1, j2⟩ := zeroS_ok (m := m) (K := K) hz
     obtain ⟨rfl, rfl, rfl⟩ := i1.zero_eq j1
     split at h
     · rename_i x0 hd
       obtain ⟨c1, c2, q1, q2, q3⟩ := dt_is tp hd j2
       obtain rfl := relL_nil q3
       rw [List.append_nil] at q1
       rw [← q1] at q2
       replace h := ob h; obtain ⟨l, hl, h⟩ := h
       obtain ⟨d0, hd0, h⟩ := newR_some h
       cases hd0
       refine wp_ds ((A.make (K0 := K) (ty := tp) hs i1 rfl q2 i4 i3 hx hy hl).go w hr.toSep _ _ ?_)
       rintro ρ' K' L' w' ⟨bb, rfl, rfl, rfl⟩ hs'
       obtain ⟨m', hrel⟩ := hr.newR (d := d) (fun a ha => ha) (Hp.le_refl K) hs'
       exact hX _ _ _ _ _ hrel ⟨rfl, rfl⟩ h
     · cases h
   · cases h
 · cases h
theorem allFn_ok : ∀ {cs : List (List SV)} {fs : List SV} {vs : List (List Value)}, allFn cs = some fs → rowsR m K cs vs → SV.relL m K fs vs.flatten ∧ ∀ x ∈ vs, x.length = 1
 | [], fs, vs, h, hr => by
   cases h
   obtain rfl : vs = [] := hr
   exact ⟨rfl, by simp⟩
 | c :: cs, fs, vs, h, hr => by
   obtain ⟨v, q, rfl, hr0, hr1⟩ := hr
   unfold allFn at h
   split at h
   · rename_i h0; cases h0
   · rename_i f cc r0 h0
     cases h0
     split at h
     · rename_i l hl
       cases h
       obtain ⟨u, q2, rfl, g1, g2⟩ := relL_cons hr0
       obtain rfl := relL_nil g2
       obtain ⟨i1, i2⟩ := allFn_ok hl hr1
       exact ⟨⟨u, q.flatten, by simp, g1, i1⟩, by simp; exact i2⟩
     · cases h
   · cases h
theorem opLit_ok {s : TypeId} {len : Nat} {ps : Array (Nat × Operand)} (h : opLit P n σ (some d) s len (ps.toList.map fun p => (p.1, σ.ev n p.2)) k = some r) (hr : Rel E fr σ m K ρ w) : OpOk P E n fr σ ρ w ⟨some d, .buildSlice s len ps, t, pos, af, none⟩ (fun σ' => k σ' = some r) := fun X Q hX => by
 unfold opLit at h
 split at h
 · rename_i e hs
   split at h
   · rename_i z hz
     split at h
     · rename_i cs hcs
       obtain ⟨zv, sz, bt, j1, j2⟩ := zeroS_ok (m := m) (K := K) hz
       have hzl := relL_len j2
       have hps : partsR m K (ps.toList.map fun p => (p.1, σ.ev n p.2)) (ps.toList.map fun p => (p.1, ev n ρ p.2)) := partsR_map hr.toPur ps.toList
       split at h
       · rename_i fs c0 cs0 hfs
         replace h := bif_and h; obtain ⟨hi, hb, h⟩ := h
         have hb := Nat.le_of_ble_eq_true hb
         obtain ⟨zv', bt', i1, i2, i3, i4⟩ := infOk_ok hi
         obtain ⟨rfl, rfl, rfl⟩ := i1.zero_eq j1
         have hz1 : z.length = 1 := by rw [← hzl, Array.length_toList]; exact i2
         rw [hz1] at hcs
         obtain ⟨ws, g1, g2, g3, g4⟩ := litF_ok 1 (by decide) hcs hps (rowsR_rep j2 len) (fun x hx => by obtain ⟨_, rfl⟩ := List.mem_replicate.1 hx; rw [Array.length_toList]; exact i2)
         obtain ⟨f1, f2⟩ := allFn_ok hfs g2
         rw [← zrow_flat] at g1
         have hpos : 0 < len := by
           have := rowsR_len g2
           rw [g3, List.length_replicate] at this
           rw [this]; simp
         refine wp_ds ((A.litC (len := len) (cs := ws.flatten) hs i1 (by omega) i2 g1 (by omega)).go w hr.toSep _ _ ?_)
         rintro ρ' K' L' w' ⟨b, rfl, rfl, rfl⟩ hs'
         have hnb := hr.newB (d := d) (b := b) f1 hs'
         have g0 : (m ++ [M.val (.pointer (some ⟨b, 0, none⟩)), .cells ws.flatten])[σ.nx]? = some (.val (.pointer (some ⟨b, 0, none⟩))) := get_new0 hr.nx
         have hset := Rel.set hnb (d := d) (sv := .fsl σ.nx len) (v := .slice (some ⟨b, 0, none⟩) len len) ⟨b, g0, rfl⟩
         have key : Rel E fr ⟨σ.base, (d, .fsl σ.nx len) :: σ.top, .blk σ.nx (σ.nx + 1) e fs :: σ.H, σ.Hf, σ.nx + 2, σ.kq⟩ (m ++ [M.val (.pointer (some ⟨b, 0, none⟩)), .cells ws.flatten]) K (upd1 ρ d (.slice (some ⟨b, 0, none⟩) len len)) w' := by
           have q : Pur fr ⟨σ.base, σ.top, .blk σ.nx (σ.nx + 1) e fs :: σ.H, σ.Hf, σ.nx + 2, σ.kq⟩ (m ++ [M.val (.pointer (some ⟨b, 0, none⟩)), .cells ws.flatten]) K ρ :=
             Pur.next hr.toPur (pre_app _ _) (Hp.le_refl K) (fun e => ⟨e, rfl⟩) (by simp [hr.nx]) hnb.okH
           exact ⟨q.set (d := d) (sv := .fsl σ.nx len) (v := .slice (some ⟨b, 0, none⟩) len len) ⟨b, g0, rfl⟩, hnb.sep⟩
         exact hX _ _ _ _ _ key ⟨rfl, rfl⟩ h
       · split at h
         · rename_i tp htp
           replace h := bif_and h; obtain ⟨hi, hb, h⟩ := h
           have hb := Nat.le_of_ble_eq_true hb
           obtain ⟨zv', bt', i1, i2, i3, i4⟩ := infOk_ok hi
           obtain ⟨rfl, rfl, rfl⟩ := i1.zero_eq j1
           have hz1 : z.length = tp.size := by rw [← hzl, Array.length_toList]; exact i2
           rw [hz1] at hcs
           obtain ⟨ws, g1, g2, g3, g4⟩ := litF_ok tp.size i4 hcs hps (rowsR_rep j2 len) (fun x hx => by obtain ⟨_, rfl⟩ := List.mem_replicate.1 hx; rw [Array.length_toList]; exact i2)
           rw [← zrow_flat] at g1
           split at h
           · rename_i l hl
             obtain ⟨f1, f2⟩ := dtAll_ok hl g2
             rw [g3, List.length_replicate] at f2
             obtain ⟨d0, hd0, h⟩ := newR_some h
             cases hd0
             refine wp_ds ((A.lit (K0 := K) (ty := tp) (xs := l) (len := len) hs i1 rfl hb i2 g1 ?_ f1 f2 i4).go w hr.toSep _ _ ?_)
             · rw [f1.len, f2]
             rintro ρ' K' L' w' ⟨bb, rfl, rfl, rfl⟩ hs'
             obtain ⟨m', hrel⟩ := hr.newR (d := d) (fun a ha => ha) (Hp.le_refl K) hs'
             exact hX _ _ _ _ _ hrel ⟨rfl, rfl⟩ h
           · cases h
         · cases h
     · cases h
   · cases h
 · cases h
theorem isU8_ok {e : TypeId} (h : isU8 P e = true) : Inf P e (.int .u8 0) 1 1 := by
 unfold isU8 at h
 split at h
 · rename_i i hi
   simp only [Bool.and_eq_true] at h
   obtain ⟨⟨h1, h2⟩, h3⟩ := h
   have h1 := Nat.eq_of_beq_eq_true h1
   have h2 := Nat.eq_of_beq_eq_true h2
   split at h3
   · rename_i hz
     unfold Inf; rw [hi]; simp [hz, h1, h2]
   · cases h3
 · cases h
theorem appS_ok {e s u : TypeId} {tp : Tp} {l : List tp.den} {x y : Operand} {H : List HA} {v : Value} (hs : P.underlying s = some (.slice e)) (h : appS P σ H (some d) e s u tp l (σ.ev n y) k = some r) (hr : Rel E fr σ m K ρ w)
   (hH : ∀ a ∈ H, a ∈ σ.H) (hsep : Sep E K (Row K e tp v l :: (H.map (HA.conc m) ++ σ.fz fr)) w) (hx : ev n ρ x = v) :
   OpOk P E n fr σ ρ w ⟨some d, .call ⟨.builtin .append, #[x, y], #[s, u]⟩, t, pos, af, none⟩ (fun σ' => k σ' = some r) := fun X Q hX => by
 have hy := hr.toPur.ev n y
 unfold appS at h
 split at h
 · rename_i z ez
   rw [ez] at hy
   split at h
   · rename_i l
     unfold appT at h
     split at h
     · rename_i hu
       replace h := bift h; obtain ⟨hi, h⟩ := h
       replace h := ob h; obtain ⟨zs, hz, h⟩ := h
       obtain ⟨d0, hd0, h⟩ := newR_some h
       cases hd0
       refine wp_ds ((A.appS hs hu (isU8_ok hi) hx hy hz).go w hsep _ _ ?_)
       rintro ρ' K' L' w' ⟨v', rfl, rfl, rfl⟩ hs'
       obtain ⟨m', hrel⟩ := hr.newR (d := d) hH (Hp.nil_le _) hs'
       exact hX _ _ _ _ _ hrel ⟨rfl, rfl⟩ h
     · cases h
   · cases h
 · rename_i ez
   rw [ez] at hy
   replace h := bif_and h; obtain ⟨hi, hb, h⟩ := h
   obtain rfl := Nat.eq_of_beq_eq_true hb
   obtain ⟨zv, bt, i1, i2, i3, i4⟩ := infOk_ok hi
   replace h := ob h; obtain ⟨zs, hz, h⟩ := h
   obtain ⟨d0, hd0, h⟩ := newR_some h
   cases hd0
   refine wp_ds ((A.appP (K1 := K) (Kr := K) hs i1 rfl i2 i4 i3 hx hy isNil (Hp.le_refl K) (fun h => h) (fun h => h) hz).go w hsep _ _ ?_)
   rintro ρ' K' L' w' ⟨v', rfl, rfl, rfl⟩ hs'
   obtain ⟨m', hrel⟩ := hr.newR (d := d) hH (Hp.le_refl K) hs'
   exact hX _ _ _ _ _ hrel ⟨rfl, rfl⟩ h
 · rename_i t' l' z ez
   rw [ez] at hy
   replace h := bif_and h; obtain ⟨hi, hb, h⟩ := h
   obtain rfl := Nat.eq_of_beq_eq_true hb
   obtain ⟨zv, bt, i1, i2, i3, i4⟩ := infOk_ok hi
   split at h
   · rename_i hsm _
     obtain ⟨hy, rfl⟩ := hy
     have hy := cstL_is hsm hy
     obtain ⟨ad, cap, hv⟩ := hy.slv
     rw [hv] at hy
     replace h := ob h; obtain ⟨zs, hz, h⟩ := h
     obtain ⟨d0, hd0, h⟩ := newR_some h
     cases hd0
     refine wp_ds ((A.appP (K1 := K) (Kr := K) hs i1 rfl i2 i4 i3 hx hv hy (Hp.le_refl K) (fun h => h) (fun h => h) hz).go w hsep _ _ ?_)
     rintro ρ' K' L' w' ⟨v', rfl, rfl, rfl⟩ hs'
     obtain ⟨m', hrel⟩ := hr.newR (d := d) hH (Hp.le_refl K) hs'
     exact hX _ _ _ _ _ hrel ⟨rfl, rfl⟩ h
   · cases h
 · rename_i j ez
   rw [ez] at hy
   replace h := bif_and h; obtain ⟨hi, hb, h⟩ := h
   obtain rfl := Nat.eq_of_beq_eq_true hb
   obtain ⟨zv, bt, i1, i2, i3, i4⟩ := infOk_ok hi
   split at h
   · rename_i q H2 hq
     replace h := bift h; obtain ⟨hb, h⟩ := h
     have hb := Nat.eq_of_beq_eq_true hb
     split at h
     · rename_i hsm _
       obtain ⟨a, ha, hmem, hperm⟩ := pick_spec hq
       obtain rfl := rowR_eq ha
       obtain ⟨c0, e0, t0, l0, n0⟩ := q
       obtain ⟨hsm⟩ := hsm
       change e0 = e at hb
       change t0 = tp at hsm
       subst hsm
       subst hb
       change HA.row j c0 e0 t0 l0 n0 ∈ H at hmem
       change H.Perm (HA.row j c0 e0 t0 l0 n0 :: H2) at hperm
       obtain ⟨ad, cap, cs, g1, g2, g3, g4, g5, g6⟩ := HA.ok_row (hr.okH _ (hH _ hmem))
       have hyv := hy.1
       rw [g1] at hyv
       simp only [Option.some.injEq, M.val.injEq] at hyv
       have hsep2 : Sep E K (Row K e0 t0 v l :: HA.conc m (.row j c0 e0 t0 l0 n0) :: (H2.map (HA.conc m) ++ σ.fz fr)) w :=
         Sep.perm (((hperm.map (HA.conc m)).append_right _).cons _) hsep
       rw [g6] at hsep2
       have hsep3 := (hsep2.swap.mono (fun h0 hr0 => Row.of_rw g3 h0 (by rw [g4]; exact hr0))).swap
       replace h := ob h; obtain ⟨zs, hz, h⟩ := h
       obtain ⟨d0, hd0, h⟩ := newR_some h
       cases hd0
       refine wp_ds ((A.appR (Kr := K) hs i1 rfl i2 i4 i3 hx hyv.symm (fun h => h) (fun h => h) hz).go w hsep3 _ _ ?_)
       rintro ρ' K' L' w' ⟨v', rfl, rfl, rfl⟩ hs'
       obtain ⟨m', hrel⟩ := hr.newR (d := d) (fun a ha => hH a (hperm.symm.subset (List.mem_cons_of_mem _ ha))) (Hp.le_refl K) hs'
       exact hX _ _ _ _ _ hrel ⟨rfl, rfl⟩ h
     · cases h
   · cases h
 · rename_i kq c ez
   rw [ez] at hy
   replace h := bift h; obtain ⟨hi, h⟩ := h
   obtain ⟨zv, bt, i1, i2, i3, i4⟩ := infOk_ok hi
   split at h
   · rename_i kn z hu hz
     obtain ⟨zv', sz', bt', j1, j2⟩ := zeroS_ok (m := m) (K := K) hz
     obtain ⟨rfl, rfl, rfl⟩ := i1.zero_eq j1
     split at h
     · rename_i x0 hd
       obtain ⟨c1, c2, q1, q2, q3⟩ := dt_is tp hd j2
       obtain rfl := relL_nil q3
       rw [List.append_nil] at q1
       rw [← q1] at q2
       replace h := ob h; obtain ⟨ys, hm, h⟩ := h
       replace h := ob h; obtain ⟨zs, hz, h⟩ := h
       obtain ⟨d0, hd0, h⟩ := newR_some h
       cases hd0
       refine wp_ds ((A.appZ (K0 := K) (ty := tp) hs hu i1 rfl q2 i2 i4 i3 hx hy hm hz).go w hsep _ _ ?_)
       rintro ρ' K' L' w' ⟨v', rfl, rfl, rfl⟩ hs'
       obtain ⟨m', hrel⟩ := hr.newR (d := d) hH (Hp.le_refl K) hs'
       exact hX _ _ _ _ _ hrel ⟨rfl, rfl⟩ h
     · cases h
   · cases h
 · cases h
theorem opApp_ok {s u : TypeId} {x y : Operand} (h : opApp P σ (some d) s u (σ.ev n x) (σ.ev n y) k = some r) (hr : Rel E fr σ m K ρ w) : OpOk P E n fr σ ρ w ⟨some d, .call ⟨.builtin .append, #[x, y], #[s, u]⟩, t, pos, af, none⟩ (fun σ' => k σ' = some r) := by
 have hx := hr.toPur.ev n x
 unfold opApp at h
 split at h
 · rename_i e i hs ex
   rw [ex] at hx
   split at h
   · rename_i q H hq
     replace h := bift h; obtain ⟨hb, h⟩ := h
     have hb := Nat.eq_of_beq_eq_true hb
     obtain ⟨a, ha, hmem, hsub, hsep⟩ := hr.take hq
     obtain rfl := rowR_eq ha
     obtain ⟨c0, e0, t0, l0, n0⟩ := q
     change e0 = e at hb
     subst hb
     change HA.row i c0 e0 t0 l0 n0 ∈ σ.H at hmem
     obtain ⟨ad, cap, cs, g1, g2, g3, g4, g5, g6⟩ := HA.ok_row (hr.okH _ hmem)
     change Sep E K (HA.conc m (.row i c0 e0 t0 l0 n0) :: _) w at hsep
     rw [g6] at hsep
     have hxv := hx.1
     rw [g1] at hxv
     simp only [Option.some.injEq, M.val.injEq] at hxv
     exact appS_ok hs h hr hsub (hsep.mono (fun h0 hr0 => Row.of_rw g3 h0 (by rw [g4]; exact hr0))) hxv.symm
   · cases h
 · rename_i e hs ex
   rw [ex] at hx
   split at h
   · rename_i tp htp
     exact appS_ok hs h hr (fun a ha => ha) ((Sep.rowNil hr.toSep).mono (Row.mono (Hp.nil_le K))) hx
   · cases h
 · cases h
end
end
section
variable [BldA]
section
variable {R : Type} {P : Program} {E : En} {n : Nat} {m m' : List M} {K K' : Hp} {fr : Frz} {σ : Zt} {ρ : Sl1} {w w' : World}
theorem form_row {e : TypeId} {a : OT} {v : Value} {l : List a.tp.den} {k : Nat} {cs : List Value} {h : Hp} (hr : Rw e k v l.length cs h) : OT.form (.row e a) v l := by
 obtain ⟨ad, cap, h1, _, _, h2⟩ := Rw.form h hr
 exact ⟨ad, cap, h1, h2⟩
theorem form_one : ∀ {o : OT} {v : Value} {x : o.tp.den}, o.form v x → v.oneCell' = true
 | .row e a, v, x, h => by obtain ⟨ad, cap, rfl, _⟩ := h; rfl
 | .box e a, v, x, h => by
   rcases h with ⟨_, rfl⟩ | ⟨y, b, _, rfl⟩ <;> rfl
 | .obj n u, v, x, h => by
   rcases h with ⟨_, rfl⟩ | ⟨y, b, _, rfl⟩
   · exact objNil_one n
   · exact objVal_one n b
 | .chn a, v, x, h => by
   rcases h with ⟨_, rfl⟩ | ⟨y, b, _, rfl⟩ <;> rfl
 | .dat _, _, _, h => h.elim
 | .one _, _, _, h => h.elim
 | .cons _ _, _, _, h => h.elim
theorem own_form_row {K0 : Hp} {e : TypeId} {a : OT} {es : List Value} {l : List a.tp.den} {h : Hp} (k : OT.own K0 (.row e a) es l h) : ∃ v, es = [v] ∧ OT.form (.row e a) v l := by
 obtain ⟨v, vs, rfl, h1, h2, k1, _⟩ := k
 exact ⟨v, rfl, form_row k1⟩
theorem own_form_box {K0 : Hp} {e : TypeId} {a : OT} {es : List Value} {x : (OT.box e a).tp.den} {h : Hp} (k : OT.own K0 (.box e a) es x h) : ∃ v, es = [v] ∧ OT.form (.box e a) v x := by
 unfold OT.own at k
 split at k
 · exact ⟨_, k.1, .inl ⟨rfl, rfl⟩⟩
 · obtain ⟨b, vs, rfl, _⟩ := k
   exact ⟨_, rfl, .inr ⟨_, b, rfl, rfl⟩⟩
theorem own_form_obj {K0 : Hp} {n : Nat} {u : Tp} {es : List Value} {x : (OT.obj n u).tp.den} {h : Hp} (k : OT.own K0 (.obj n u) es x h) : ∃ v, es = [v] ∧ OT.form (.obj n u) v x := by
 unfold OT.own at k
 split at k
 · exact ⟨_, k.1, .inl ⟨rfl, rfl⟩⟩
 · obtain ⟨r, o, rfl, _⟩ := k
   exact ⟨_, rfl, .inr ⟨_, r, rfl, rfl⟩⟩
theorem own_form_chn {K0 : Hp} {a : OT} {es : List Value} {x : (OT.chn a).tp.den} {h : Hp} (k : OT.own K0 (.chn a) es x h) : ∃ v, es = [v] ∧ OT.form (.chn a) v x := by
 unfold OT.own at k
 split at k
 · exact ⟨_, k.1, .inl ⟨rfl, rfl⟩⟩
 · obtain ⟨r, b, s, c, rfl, _⟩ := k
   exact ⟨_, rfl, .inr ⟨_, r, rfl, rfl⟩⟩
theorem ex_od {c : Nat} {K0 : Hp} {o : OT} {x : o.tp.den} {es : List Value} {L : List Atom} {nx : Nat} (hf : ∀ h, o.own K0 es x h → ∃ v, es = [v] ∧ o.form v x) (hn : m.length = nx) (hc : m[c]? = some (.hp K0)) (hk : KOk K0 K o) (hs : Sep E K (o.own K0 es x :: L) w) :
   ∃ ms, (m ++ ms).length = nx + 1 ∧ SV.relL (m ++ ms) K [.own nx] es ∧ (∀ a ∈ [HA.od nx c o x], HA.ok (m ++ ms) K a) ∧ Sep E K ([HA.od nx c o x].map (HA.conc (m ++ ms)) ++ L) w := by
 obtain ⟨v, rfl, h1⟩ := hs.fact (p := ∃ v, es = [v] ∧ o.form v x) (fun h k => hf h k)
 have hp := pre_app m [M.val v]
 have g0 : (m ++ [M.val v])[nx]? = some (.val v) := get_new0 hn
 refine ⟨[.val v], by simp [hn], ⟨v, [], rfl, ⟨g0, form_one h1⟩, rfl⟩, ?_, ?_⟩
 · intro a ha
   simp only [List.mem_singleton] at ha
   subst ha
   exact ⟨v, K0, g0, pre_get hp hc, hk, h1⟩
 · simp only [List.map_cons, List.map_nil, List.cons_append, List.nil_append, HA.conc, g0, pre_get hp hc]
   exact hs
theorem ex_ok {c : Nat} {K0 : Hp} : ∀ (o : OT) (hk : KOk K0 K o) {x : o.tp.den} {m : List M} {nx : Nat} {es : List Value} {L : List Atom} {vs : List SV} {Hn : List HA} {nx' : Nat}, OT.ex c o x nx = (vs, Hn, nx') → m.length = nx → m[c]? = some (.hp K0) → Sep E K (o.own K0 es x :: L) w →
   ∃ ms, (m ++ ms).length = nx' ∧ SV.relL (m ++ ms) K vs es ∧ (∀ a ∈ Hn, HA.ok (m ++ ms) K a) ∧ Sep E K (Hn.map (HA.conc (m ++ ms)) ++ L) w
 | .dat t, hk, x, m, nx, es, L, vs, Hn, nx', h, hn, hc, hs => by
   cases h
   obtain ⟨h1, h2⟩ := Sep.ownDat hs
   exact ⟨[], by simpa using hn, by simpa using lv_rel t (hk.is h1), by simp, h2⟩
 | .row e (.dat t), hk, x, m, nx, es, L, vs, Hn, nx', h, hn, hc, hs => by
   cases h
   obtain ⟨v, cs, rfl, h1, h2⟩ := Sep.ownLeaf hs
   obtain ⟨ad, cap, rfl, f1, f2, f3⟩ := h2.fact (p := ∃ ad cap, v = .slice ad (List.length (α := t.den) x) cap ∧ List.length (α := t.den) x ≤ cap ∧ cap ≤ maxLen ∧ (List.length (α := t.den) x ≠ 0 → ∃ g, ad = some ⟨g, 0, none⟩)) (fun h k => Rw.form h k)
   have g0 : (m ++ [M.val (.slice ad (List.length (α := t.den) x) cap), .cont t x cs])[nx]? = some (.val (.slice ad (List.length (α := t.den) x) cap)) := get_new0 hn
   have g1 : (m ++ [M.val (.slice ad (List.length (α := t.den) x) cap), .cont t x cs])[nx + 1]? = some (.cont t x cs) := get_new (k := 1) hn
   refine ⟨[.val (.slice ad (List.length (α := t.den) x) cap), .cont t x cs], by simp [hn], ⟨_, [], rfl, ⟨g0, rfl⟩, rfl⟩, ?_, ?_⟩
   · intro a ha
     simp only [List.mem_singleton] at ha
     subst ha
     exact ⟨ad, cap, cs, g0, g1, KOk.els (t := t) hk h1, rfl, f1, f2, fun hne => f3 (fun e => hne (List.length_eq_zero_iff.1 e))⟩
   · simp only [List.map_cons, List.map_nil, List.cons_append, List.nil_append, HA.conc, g0, g1]
     exact h2
 | .row e (.row e' a), hk, x, m, nx, es, L, vs, Hn, nx', h, hn, hc, hs => by
   cases h; exact ex_od (fun h k => own_form_row k) hn hc hk hs
 | .row e (.box e' a), hk, x, m, nx, es, L, vs, Hn, nx', h, hn, hc, hs => by
   cases h; exact ex_od (fun h k => own_form_row k) hn hc hk hs
 | .row e (.one a), hk, x, m, nx, es, L, vs, Hn, nx', h, hn, hc, hs => by
   cases h; exact ex_od (fun h k => own_form_row k) hn hc hk hs
 | .row e (.cons a r), hk, x, m, nx, es, L, vs, Hn, nx', h, hn, hc, hs => by
   cases h; exact ex_od (fun h k => own_form_row k) hn hc hk hs
 | .row e (.obj n u), hk, x, m, nx, es, L, vs, Hn, nx', h, hn, hc, hs => by
   cases h; exact ex_od (fun h k => own_form_row k) hn hc hk hs
 | .row e (.chn a), hk, x, m, nx, es, L, vs, Hn, nx', h, hn, hc, hs => by
   cases h; exact ex_od (fun h k => own_form_row k) hn hc hk hs
 | .chn a, hk, x, m, nx, es, L, vs, Hn, nx', h, hn, hc, hs => by
   cases h; exact ex_od (fun h k => own_form_chn k) hn hc hk hs
 | .obj n u, hk, x, m, nx, es, L, vs, Hn, nx', h, hn, hc, hs => by
   cases h; exact ex_od (fun h k => own_form_obj k) hn hc hk hs
 | .box e a, hk, x, m, nx, es, L, vs, Hn, nx', h, hn, hc, hs => by
   cases h; exact ex_od (fun h k => own_form_box k) hn hc hk hs
 | .one a, hk, x, m, nx, es, L, vs, Hn, nx', h, hn, hc, hs => ex_ok a hk (x := x) h hn hc hs
 | .cons a r, hk, x, m, nx, es, L, vs, Hn, nx', h, hn, hc, hs => by
   unfold OT.ex at h
   cases h1 : OT.ex c a x.1 nx with
   | mk v1 q =>
     obtain ⟨H1, n1⟩ := q
     rw [h1] at h
     cases h2 : OT.ex c r x.2 n1 with
     | mk v2 q =>
       obtain ⟨H2, n2⟩ := q
       simp only [h2] at h
       cases h
       obtain ⟨c1, c2, rfl, _, hs⟩ := Sep.ownCons hs
       obtain ⟨ms, k1, k2, k3, k4⟩ := ex_ok a hk.car.1 h1 hn hc hs
       have hs2 : Sep E K (r.own K0 c2 x.2 :: (H1.map (HA.conc (m ++ ms)) ++ L)) w := Sep.perm (List.perm_middle) k4
       obtain ⟨ms2, q1, q2, q3, q4⟩ := ex_ok r hk.car.2 h2 k1 (pre_get (pre_app m ms) hc) hs2
       have hp := pre_app (m ++ ms) ms2
       refine ⟨ms ++ ms2, by rw [← List.append_assoc]; exact q1, ?_, ?_, ?_⟩
       · rw [← List.append_assoc]
         exact relL_app (SV.monoL (fun _ _ k => pre_get hp k) (Hp.le_refl K) _ k2) q2
       · rw [← List.append_assoc]
         intro a ha
         rcases List.mem_append.1 ha with ha | ha
         · exact HA.ok_mono (fun _ _ k => pre_get hp k) (Hp.le_refl K) (k3 a ha)
         · exact q3 a ha
       · rw [← List.append_assoc, List.map_append, map_conc_mono (K := K) (fun _ _ k => pre_get hp k) k3, List.append_assoc]
         exact Sep.perm (perm3 _ _ _) q4
theorem pick_sep {α β : Type} {f : HA → Option β} {q : β} {H H' : List HA} (h : pick f H = some (q, H')) : ∃ a, f a = some q ∧ a ∈ H ∧ (∀ x ∈ H', x ∈ H) ∧ ∀ {E : En} {w : World} {L : List Atom}, Sep E K (H.map (HA.conc m) ++ L) w → Sep E K (HA.conc m a :: (H'.map (HA.conc m) ++ L)) w := by
 obtain ⟨a, h1, h2, h3⟩ := pick_spec h
 exact ⟨a, h1, h2, fun x hx => h3.symm.subset (List.mem_cons_of_mem _ hx), fun hs => Sep.perm (((h3.map (HA.conc m)).append_right _)) hs⟩
theorem od_own {i c : Nat} {o : OT} {x : o.tp.den} (h : HA.ok m K (.od i c o x)) : ∃ v, m[i]? = some (.val v) ∧ o.form v x ∧ ∀ {E : En} {w : World} {L : List Atom}, Sep E K (HA.conc m (.od i c o x) :: L) w → Sep E K (o.own K [v] x :: L) w := by
 obtain ⟨v, K0, h1, h2, h3, h4⟩ := h
 refine ⟨v, h1, h4, fun hs => ?_⟩
 simp only [HA.conc, h1, h2] at hs
 exact hs.mono (fun h k => KOk.own h3 k)
theorem pickX_ok {i : Nat} {o : OT} {x : o.tp.den} {H H' : List HA} (hp : pickX i o H = some (x, H')) (hok : ∀ a ∈ H, HA.ok m K a) : ∃ v, m[i]? = some (.val v) ∧ o.form v x ∧ (∀ a ∈ H', a ∈ H) ∧ ∀ {E : En} {w : World} {L : List Atom}, Sep E K (H.map (HA.conc m) ++ L) w → Sep E K (o.own K [v] x :: (H'.map (HA.conc m) ++ L)) w := by
 have main : ∀ {o : OT} {x : o.tp.den}, pick (HA.odX i o) H = some (x, H') → ∃ v, m[i]? = some (.val v) ∧ o.form v x ∧ (∀ a ∈ H', a ∈ H) ∧ ∀ {E : En} {w : World} {L : List Atom}, Sep E K (H.map (HA.conc m) ++ L) w → Sep E K (o.own K [v] x :: (H'.map (HA.conc m) ++ L)) w := by
   intro o x hp
   obtain ⟨a, ha, hmem, hsub, hs⟩ := pick_sep (α := Nat) (K := K) (m := m) hp
   obtain ⟨c, rfl⟩ := odX_eq ha
   obtain ⟨v, h1, h2, h3⟩ := od_own (hok _ hmem)
   exact ⟨v, h1, h2, hsub, fun k => h3 (hs k)⟩
 unfold pickX at hp
 split at hp
 · rename_i e a
   split at hp
   · rename_i t
     obtain ⟨a, ha, hmem, hsub, hs⟩ := pick_sep (α := Nat) (K := K) (m := m) hp
     obtain ⟨c, k, rfl⟩ := rowX_eq ha
     obtain ⟨ad, cap, cs, h1, h2, h3, h4, h5, h6⟩ := HA.ok_row (hok _ hmem)
     refine ⟨_, h1, ⟨ad, cap, by subst h4; rfl, fun hne => h5 (fun e => hne (by subst e; rfl))⟩, hsub, fun hh => ?_⟩
     have := hs hh
     rw [h6] at this
     subst h4
     exact Sep.ownLeaf' h3 this
   · exact main hp
 · exact main hp
theorem col_ok : ∀ (o : OT) {vs : List SV} {H : List HA} {x : o.tp.den} {r : List SV} {H' : List HA} {us : List Value}, OT.col o vs H = some (x, r, H') → SV.relL m K vs us → (∀ a ∈ H, HA.ok m K a) →
   ∃ c1 c2, us = c1 ++ c2 ∧ SV.relL m K r c2 ∧ (∀ a ∈ H', a ∈ H) ∧ ∀ {E : En} {w : World} {L : List Atom}, Sep E K (H.map (HA.conc m) ++ L) w → Sep E K (o.own K c1 x :: (H'.map (HA.conc m) ++ L)) w
 | .dat t, vs, H, x, r, H', us, h, hr, hok => by
   unfold OT.col at h
   split at h
   · rename_i x' r' hd
     cases h
     obtain ⟨c1, c2, rfl, h1, h2⟩ := dt_is t hd hr
     exact ⟨c1, c2, rfl, h2, fun a ha => ha, fun hs => Sep.ownDat' h1 hs⟩
   · cases h
 | .row e a, vs, H, x, r, H', us, h, hr, hok => by
   unfold OT.col at h
   split at h
   · rename_i v r'
     obtain ⟨u, us, rfl, h1, h2⟩ := relL_cons hr
     split at h
     · cases h
       simp only [SV.rel] at h1; subst h1
       refine ⟨[_], us, rfl, h2, fun a ha => ha, fun hs => ?_⟩
       exact hs.emp.mono (fun h k => by obtain rfl : h = Hp.nil := k; exact ⟨_, [], rfl, star_nil ⟨by simp, .inl ⟨rfl, rfl, rfl⟩⟩ ⟨rfl, rfl⟩⟩)
     · rename_i i
       split at h
       · rename_i x' H1 hp
         cases h
         obtain ⟨v, g1, _, g2, g3⟩ := pickX_ok hp hok
         have := h1.1
         rw [g1] at this; cases this
         exact ⟨[_], us, rfl, h2, g2, g3⟩
       · cases h
     · cases h
   · cases h
 | .box e a, vs, H, x, r, H', us, h, hr, hok => by
   unfold OT.col at h
   split at h
   · rename_i v r'
     obtain ⟨u, us, rfl, h1, h2⟩ := relL_cons hr
     split at h
     · cases h
       simp only [SV.rel] at h1; subst h1
       exact ⟨[_], us, rfl, h2, fun a ha => ha, fun hs => Sep.ownNil hs⟩
     · rename_i i o
       replace h := bift h; obtain ⟨ho, h⟩ := h
       obtain rfl := Nat.eq_of_beq_eq_true ho
       split at h
       · rename_i q H1 hq
         replace h := bift h; obtain ⟨he, h⟩ := h
         have he := Nat.eq_of_beq_eq_true he
         split at h
         · rename_i y H2 hcol
           cases h
           obtain ⟨a', ha, hmem, hsub, hs⟩ := pick_sep (α := Nat) (K := K) (m := m) hq
           obtain rfl := blkR_eq ha
           obtain ⟨b, bs, g1, g2, g3, g4⟩ := HA.ok_blk (hok _ hmem)
           obtain ⟨b', g5, rfl⟩ := h1
           rw [g1] at g5; cases g5
           obtain ⟨c1, c2, rfl, k2, k3, k4⟩ := col_ok a hcol (stL_rel _ g3) (fun a ha => hok a (hsub a ha))
           obtain rfl := relL_nil k2
           rw [List.append_nil] at g4
           refine ⟨[_], us, rfl, h2, fun a ha => hsub a (k3 a ha), fun hh => ?_⟩
           have := hs hh
           rw [g4, he] at this
           have s2 := k4 (Sep.perm (List.perm_middle.symm) this)
           exact Sep.ownBox' (Sep.perm (((List.perm_middle).cons _).trans (List.Perm.swap _ _ _)) s2)
         · cases h
       · cases h
     · rename_i i
       split at h
       · rename_i x' H1 hp
         cases h
         obtain ⟨v, g1, _, g2, g3⟩ := pickX_ok hp hok
         have := h1.1
         rw [g1] at this; cases this
         exact ⟨[_], us, rfl, h2, g2, g3⟩
       · cases h
     · cases h
   · cases h
 | .chn a, vs, H, x, r, H', us, h, hr, hok => by
   unfold OT.col at h
   split at h
   · rename_i v r'
     obtain ⟨v0, us, rfl, h1, h2⟩ := relL_cons hr
     split at h
     · cases h
       simp only [SV.rel] at h1; subst h1
       exact ⟨[_], us, rfl, h2, fun a ha => ha, fun hs => hs.emp.mono (fun h k => ⟨rfl, k⟩)⟩
     · rename_i i
       split at h
       · rename_i x' H1 hp
         cases h
         obtain ⟨v, g1, _, g2, g3⟩ := pickX_ok hp hok
         have := h1.1
         rw [g1] at this; cases this
         exact ⟨[_], us, rfl, h2, g2, g3⟩
       · cases h
     · cases h
   · cases h
 | .obj n u, vs, H, x, r, H', us, h, hr, hok => by
   unfold OT.col at h
   split at h
   · rename_i v r'
     obtain ⟨v0, us, rfl, h1, h2⟩ := relL_cons hr
     split at h
     · replace h := bift h; obtain ⟨hn, h⟩ := h
       obtain rfl := Nat.eq_of_beq_eq_true hn
       cases h
       simp only [SV.rel] at h1; subst h1
       exact ⟨[_], us, rfl, h2, fun a ha => ha, fun hs => hs.emp.mono (fun h k => ⟨rfl, k⟩)⟩
     · cases hn : Nat.beq n 0 with
       | true => rw [hn] at h; cases h
       | false =>
         rw [hn] at h
         cases h
         simp only [SV.rel] at h1; subst h1
         obtain ⟨j, rfl⟩ : ∃ j, n = j + 1 := by cases n with | zero => cases hn | succ j => exact ⟨j, rfl⟩
         exact ⟨[_], us, rfl, h2, fun a ha => ha, fun hs => hs.emp.mono (fun h k => ⟨rfl, k⟩)⟩
     · rename_i i
       split at h
       · rename_i x' H1 hp
         cases h
         obtain ⟨v, g1, _, g2, g3⟩ := pickX_ok hp hok
         have := h1.1
         rw [g1] at this; cases this
         exact ⟨[_], us, rfl, h2, g2, g3⟩
       · cases h
     · cases h
   · cases h
 | .one a, vs, H, x, r, H', us, h, hr, hok => col_ok a (x := x) h hr hok
 | .cons a b, vs, H, x, r, H', us, h, hr, hok => by
   unfold OT.col at h
   split at h
   · rename_i x1 r1 H1 hc1
     split at h
     · rename_i y r2 H2 hc2
       cases h
       obtain ⟨c1, c2, rfl, h2, h3, h4⟩ := col_ok a hc1 hr hok
       obtain ⟨d1, d2, rfl, k2, k3, k4⟩ := col_ok b hc2 h2 (fun a ha => hok a (h3 a ha))
       refine ⟨c1 ++ d1, d2, by simp, k2, fun a ha => h3 a (k3 a ha), fun {E w L} hs => ?_⟩
       have s1 := h4 hs
       have s2 : Sep E K (H1.map (HA.conc m) ++ (a.own K c1 x1 :: L)) w := Sep.perm (List.perm_middle.symm) s1
       have s3 := k4 s2
       have s4 : Sep E K (a.own K c1 x1 :: b.own K d1 y :: (H'.map (HA.conc m) ++ L)) w := by
         refine Sep.perm ?_ s3
         have : (H'.map (HA.conc m) ++ (a.own K c1 x1 :: L)).Perm (a.own K c1 x1 :: (H'.map (HA.conc m) ++ L)) := List.perm_middle
         exact (this.cons _).trans (List.Perm.swap _ _ _)
       exact Sep.ownCons' s4
     · cases h
   · cases h
end
end
set_option maxRecDepth 100000
section
theorem beq_swap {α : Type} [DecidableEq α] [BEq α] [LawfulBEq α] (a b : α) : (a == b) = decide (b = a) := by
 by_cases h : b = a
 · subst h; simp
 · have h' : ¬ a = b := fun e => h e.symm
   simp [h, h']
theorem bytes_dec (a b : List UInt8) : ((⟨a.toArray⟩ : ByteArray) == ⟨b.toArray⟩) = decide (b = a) := by
 by_cases h : b = a
 · subst h; simp [(MapKept.bytes_beq _ _).2]
 · have h' : ¬ ((⟨a.toArray⟩ : ByteArray) == ⟨b.toArray⟩) = true := fun e => h (by
     have := congrArg (fun x : ByteArray => x.data.toList) ((MapKept.bytes_beq _ _).1 e)
     exact this.symm)
   simp only [h, decide_false]
   simpa using h'
def Onl (w w' : World) (r : Nat) (o : Obj) : Prop := w'.heap[r]? = some o ∧ (∀ n x, n ≠ r → w.heap[n]? = some x → w'.heap[n]? = some x) ∧ w'.os = w.os ∧ w'.tape = w.tape ∧ w'.output = w.output
def Onl2 (w w' : World) (b : Nat) (ob : Obj) (r : Nat) (o : Obj) : Prop := w'.heap[b]? = some ob ∧ w'.heap[r]? = some o ∧ w.heap[r]? = none ∧ (∀ n x, n ≠ b → w.heap[n]? = some x → w'.heap[n]? = some x) ∧ w'.os = w.os ∧ w'.tape = w.tape ∧ w'.output = w.output
def TurnM (w w' : World) (r : Nat) (kt : Tp) (l : List (kt.den × Int)) : Prop := ∃ es cl, Onl w w' r (.map es cl) ∧ es.toList.map (fun e => (e.key, e.val)) = l.map (fun p => (keyV kt p.1, Value.int .i64 p.2)) ∧ Brn es cl
def NewM (w w' : World) (b : Nat) (ob : Nat → Obj) (kt : Tp) (l : List (kt.den × Int)) : Prop := ∃ r es cl, Onl2 w w' b (ob r) r (.map es cl) ∧ es.toList.map (fun e => (e.key, e.val)) = l.map (fun p => (keyV kt p.1, Value.int .i64 p.2)) ∧ Brn es cl
theorem alloc_old {w : World} {o x : Obj} {n : Nat} (h : w.heap[n]? = some x) : (w.alloc o).heap[n]? = some x := (Below.heap_alloc _ _ _ (lt_of_block h)).trans h
theorem setCell_ne {w : World} {b i n : Nat} {v : Value} (h : n ≠ b) : (w.setCell ⟨b, i, none⟩ v).heap[n]? = w.heap[n]? := by
 simp only [World.setCell, Array.getElem?_modify]
 rw [if_neg (fun e => h e.symm)]
section
variable {E : En} {K : Hp} {L : List Atom} {w w' : World}
theorem Sep.grow (hs : Sep E K L w) (ho : ∀ (n : Nat) (x : Obj), w.heap[n]? = some x → w'.heap[n]? = some x) (he : w'.os = w.os ∧ w'.tape = w.tape ∧ w'.output = w.output) : Sep E K L w' :=
 Sep.move (fun ⟨a, b, c⟩ => ⟨he.1.trans a, he.2.1.trans b, he.2.2.trans c⟩) hs (fun n o e => ho n o (hs.sub n o e)) (fun n o e h => ⟨h, ho n o e⟩)
theorem Sep.obj {r : Nat} {o : Obj} (hs : Sep E K ((fun h => h = one r o) :: L) w) : w.heap[r]? = some o := by
 obtain ⟨h, rfl, hd, hs⟩ := hs
 exact hs.sub r _ (Hp.join_right (by simp [one]) (hd r o (by simp [one])))
theorem Sep.onl {r : Nat} {o o' : Obj} (hs : Sep E K ((fun h => h = one r o) :: L) w) (h : Onl w w' r o') : Sep E K ((fun h => h = one r o') :: L) w' :=
 Sep.turn hs (fun ⟨a, b, c⟩ => ⟨h.2.2.1.trans a, h.2.2.2.1.trans b, h.2.2.2.2.trans c⟩) (fun h0 ha _ => by
   subst ha
   refine ⟨_, rfl, fun n x e => ?_, fun n x e h1 => ?_⟩
   · obtain ⟨rfl, rfl⟩ := one_some e
     exact ⟨h.1, fun e => by simp [one] at e⟩
   · exact h.2.1 n x (fun e => by subst e; simp [one] at h1) e)
theorem Sep.onl2 {b r : Nat} {t : TypeId} {cs cs' : List Value} {o : Obj} (hs : Sep E K (Cl b t cs :: L) w) (h : Onl2 w w' b (.cells cs'.toArray t (0, 0)) r o) : Sep E K (Cl b t cs' :: (fun h => h = one r o) :: L) w' := by
 have hb := hs.cl
 refine Sep.split (Sep.turn hs (fun ⟨a, b, c⟩ => ⟨h.2.2.2.2.1.trans a, h.2.2.2.2.2.1.trans b, h.2.2.2.2.2.2.trans c⟩) (fun h0 ha _ => ?_))
 unfold Cl at ha; subst ha
 have hne : ∀ x, one r o b = some x → False := fun x e => by
   obtain ⟨rfl, _⟩ := one_some e
   rw [h.2.2.1] at hb; cases hb
 refine ⟨(one b (.cells cs'.toArray t (0, 0))).join (one r o), ⟨_, _, rfl, rfl, fun n x e => ?_, rfl⟩, fun n x e => ?_, fun n x e h1 => ?_⟩
 · by_cases hn : n = b
   · subst hn; exact (hne x e).elim
   · simp [one, hn]
 · rcases Hp.join_some e with e | ⟨_, e⟩
   · obtain ⟨rfl, rfl⟩ := one_some e
     exact ⟨h.1, fun e => by simp [one] at e⟩
   · obtain ⟨rfl, rfl⟩ := one_some e
     exact ⟨h.2.1, fun _ => h.2.2.1⟩
 · exact h.2.2.2.1 n x (fun e => by subst e; simp [one] at h1) e
end
section
variable {α : Type} [DecidableEq α]
def markB (k : α) (x : Option (List (α × Int))) : Bool := match x with | none => true | some l => !decide (mget k l > 0)
def markL (k : α) (x : Option (List (α × Int))) : List (α × Int) := match x with | none => mset k (wrap64 (mget k [] + 1)) [] | some l => if mget k l > 0 then l else mset k (wrap64 (mget k l + 1)) l
end
end
section
variable [BldA]
section
variable {R : Type} {P : Program} {E : En} {n : Nat} {m m' : List M} {K K' : Hp} {fr : Frz} {σ : Zt} {ρ : Sl1} {w w' : World}
variable {k : Zt → Option R} {r : R} {d : Nat} {op : Op} {t : TypeId} {pos : String} {af : Array Edge}
theorem Rel.newO (h : Rel E fr σ m K ρ w) {d : Nat} {H : List HA} (hH : ∀ a ∈ H, a ∈ σ.H) {e : TypeId} {o : OT} {l : List o.tp.den} {v : Value} (hs : Sep E K (OT.own K (.row e o) [v] l :: (H.map (HA.conc m) ++ σ.fz fr)) w') :
   ∃ m', Rel E fr ⟨σ.base, (d, .own σ.nx) :: σ.top, .od σ.nx (σ.nx + 1) (.row e o) l :: H, σ.Hf, σ.nx + 2, σ.kq⟩ m' K (upd1 ρ d v) w' := by
 obtain ⟨v', e1, hf⟩ := hs.fact (p := ∃ v', [v] = [v'] ∧ OT.form (.row e o) v' l) (fun h k => own_form_row k)
 cases e1
 have hp := pre_app m [.val v, .hp K]
 have g0 : (m ++ [.val v, .hp K])[σ.nx]? = some (.val v) := get_new0 h.nx
 have g1 : (m ++ [.val v, .hp K])[σ.nx + 1]? = some (.hp K) := get_new (k := 1) h.nx
 have q : Pur fr ⟨σ.base, σ.top, .od σ.nx (σ.nx + 1) (.row e o) l :: H, σ.Hf, σ.nx + 2, σ.kq⟩ (m ++ [.val v, .hp K]) K ρ := by
   refine Pur.next h.toPur hp (Hp.le_refl K) (fun e => ⟨e, rfl⟩) (by simp [h.nx]) ?_
   intro a ha
   rcases List.mem_cons.1 ha with rfl | ha
   · exact ⟨v, K, g0, g1, KOk.refl, hf⟩
   · exact h.toPur.okH' hp (Hp.le_refl K) a (hH a ha)
 refine ⟨_, q.set (d := d) (sv := .own σ.nx) (v := v) ⟨g0, form_one hf⟩, ?_⟩
 show Sep E K ((HA.conc _ _ :: H.map (HA.conc _)) ++ σ.fz fr) w'
 rw [h.toPur.conc hp hH]
 simp only [HA.conc, g0, g1]
 exact hs
theorem Rel.newOwn (h : Rel E fr σ m K ρ w) {d : Nat} {o : OT} {x : o.tp.den} {v : Value} (ho : ∀ h, OT.own K o [v] x h → ∃ v', [v] = [v'] ∧ OT.form o v' x) (hs : Sep E K (OT.own K o [v] x :: (σ.H.map (HA.conc m) ++ σ.fz fr)) w') :
   ∃ m', Rel E fr ⟨σ.base, (d, .own σ.nx) :: σ.top, .od σ.nx (σ.nx + 1) o x :: σ.H, σ.Hf, σ.nx + 2, σ.kq⟩ m' K (upd1 ρ d v) w' := by
 obtain ⟨v', e1, hf⟩ := hs.fact (p := ∃ v', [v] = [v'] ∧ OT.form o v' x) ho
 cases e1
 have hp := pre_app m [.val v, .hp K]
 have g0 : (m ++ [.val v, .hp K])[σ.nx]? = some (.val v) := get_new0 h.nx
 have g1 : (m ++ [.val v, .hp K])[σ.nx + 1]? = some (.hp K) := get_new (k := 1) h.nx
 have q : Pur fr ⟨σ.base, σ.top, .od σ.nx (σ.nx + 1) o x :: σ.H, σ.Hf, σ.nx + 2, σ.kq⟩ (m ++ [.val v, .hp K]) K ρ := by
   refine Pur.next h.toPur hp (Hp.le_refl K) (fun e => ⟨e, rfl⟩) (by simp [h.nx]) ?_
   intro a ha
   rcases List.mem_cons.1 ha with rfl | ha
   · exact ⟨v, K, g0, g1, KOk.refl, hf⟩
   · exact h.toPur.okH' hp (Hp.le_refl K) a ha
 refine ⟨_, q.set (d := d) (sv := .own σ.nx) (v := v) ⟨g0, form_one hf⟩, ?_⟩
 show Sep E K ((HA.conc _ _ :: σ.H.map (HA.conc _)) ++ σ.fz fr) w'
 rw [h.toPur.conc hp (fun a ha => ha)]
 simp only [HA.conc, g0, g1]
 exact hs
theorem Rel.newObj (h : Rel E fr σ m K ρ w) {d : Nat} {i : Nat} {u : Tp} {x : (OT.obj i u).tp.den} {v : Value} (hs : Sep E K (OT.own K (.obj i u) [v] x :: (σ.H.map (HA.conc m) ++ σ.fz fr)) w') :
   ∃ m', Rel E fr ⟨σ.base, (d, .own σ.nx) :: σ.top, .od σ.nx (σ.nx + 1) (.obj i u) x :: σ.H, σ.Hf, σ.nx + 2, σ.kq⟩ m' K (upd1 ρ d v) w' := h.newOwn (fun _ k => own_form_obj k) hs
theorem A.makeMap {K : Hp} {L : List Atom} {ρ : Sl0} {s : TypeId} {g : Option (Nat × Bool)} : Ao P E n ⟨some d, .makeMap s none, t, pos, af, g⟩ ρ K L (fun ρ' K' L' => ∃ b, ρ' = upd ρ d (.map (some b)) ∧ K = K' ∧ L' = (fun h => h = one b (.map #[] 0)) :: L) :=
 Ao.of rfl (fun w hs => by
   refine ⟨_, _, K, _, ?_, Sep.allocN hs (.map #[] 0), w.heap.size, rfl, rfl, rfl⟩
   simp only [execOp, Instr.makeMap, Sem.run_bind, Sem.run_pure, run_newObj_alloc, Result.andThen]; rfl)
theorem opMap_some {u : Tp} {d : Option Nat} (h : opMap σ d u k = some r) : ∃ d0, d = some d0 := by
 unfold opMap at h
 split at h
 · exact ⟨_, rfl⟩
 · cases h
theorem opMap_ok {s : TypeId} {u : Tp} (h : opMap σ (some d) u k = some r) (hr : Rel E fr σ m K ρ w) : OpOk P E n fr σ ρ w ⟨some d, .makeMap s none, t, pos, af, none⟩ (fun σ' => k σ' = some r) := fun X Q hX => by
 unfold opMap at h
 split at h
 · rename_i d0 kt e
   cases e
   refine wp_ds ((A.makeMap).go w hr.toSep _ _ ?_)
   rintro ρ' K' L' w' ⟨bb, rfl, rfl, rfl⟩ hs'
   obtain ⟨m', hrel⟩ := hr.newObj (d := d) (i := 0) (u := .sl (.cons kt (.one (.int .i64)))) (x := (some ([] : List (kt.den × Int)) : Option (List (kt.den × Int)))) (hs'.mono (fun h k => ⟨bb, _, rfl, ⟨#[], 0, rfl, rfl, List.nodup_nil, fun e he => by cases he⟩, k⟩))
   exact hX _ _ _ _ _ hrel ⟨rfl, rfl⟩ h
 · cases h
theorem A.mapUp {K : Hp} {L : List Atom} {ρ : Sl0} {mt kt et : TypeId} {x y z : Operand} {rr : Nat} {c v : Int} {es : Array MapEntry} {cl : Nat} {l : List (Int × Int)} {g : Option (Nat × Bool)} (m1 : P.underlying mt = some (.map kt et)) (m2 : P.underlying kt = some (.int .i64)) (m3 : ∀ w, (zeroValue et).run P w = .ok (.int .i64 0) w)
   (hx : ev n ρ x = .map (some rr)) (hy : ev n ρ y = .int .i64 c) (hz : ev n ρ z = .int .i64 v) (hl : es.toList.map (fun e => (e.key, e.val)) = l.map (fun p => (keyV (.int .i64) p.1, Value.int .i64 p.2))) (hB : Brn es cl) :
   Ao P E n ⟨none, .mapUpdate mt x y z, t, pos, af, g⟩ ρ K ((fun h => h = one rr (.map es cl)) :: L) (fun ρ' K' L' => ∃ es' cl', ρ = ρ' ∧ K = K' ∧ L' = (fun h => h = one rr (.map es' cl')) :: L ∧ es'.toList.map (fun e => (e.key, e.val)) = (mset c v l).map (fun p => (keyV (.int .i64) p.1, Value.int .i64 p.2)) ∧ Brn es' cl') :=
 Ao.ofU rfl (fun w hs => by
   haveI := keyInt m2
   have hob := hs.obj
   obtain ⟨es', cl', h1, h2, h3⟩ := run_mapUpdate_map (P := P) (kt := .int .i64) (mt := mt) m1 c v hob hl hB
   have hlt := (Array.getElem?_eq_some_iff.1 hob).1
   simp only [keyV] at h1
   refine ⟨_, K, _, ?_, Sep.onl hs (w' := { w with heap := w.heap.setIfInBounds rr (.map es' cl') }) ⟨by simp [hlt], fun k x hk hx => ?_, rfl, rfl, rfl⟩, es', cl', rfl, rfl, rfl, h2, h3⟩
   · simp [execOp, hx, hy, hz, h1]
   · simp only [Array.getElem?_setIfInBounds]
     rw [if_neg (fun e => hk e.symm)]; exact hx)
theorem opMapUp_ok {mt : TypeId} {x y z : Operand} (h : opMapUp P σ none mt (σ.ev n x) (σ.ev n y) (σ.ev n z) k = some r) (hr : Rel E fr σ m K ρ w) : OpOk P E n fr σ ρ w ⟨none, .mapUpdate mt x y z, t, pos, af, none⟩ (fun σ' => k σ' = some r) := fun X Q hX => by
 have hx := hr.toPur.ev n x
 have hy := hr.toPur.ev n y
 have hz := hr.toPur.ev n z
 unfold opMapUp at h
 replace h := bift h; obtain ⟨hm, h⟩ := h
 obtain ⟨kt, et, m1, m2, m3⟩ := mapOk_ok hm
 split at h
 · rename_i i c v _ ei ec ev'
   rw [ei] at hx
   rw [ec] at hy
   rw [ev'] at hz
   replace hy : Go.Proofs.YtmlbbjkojaljnaaDoor.ev n ρ.f y = .int .i64 c := hy
   replace hz : Go.Proofs.YtmlbbjkojaljnaaDoor.ev n ρ.f z = .int .i64 v := hz
   split at h
   · rename_i q H hq
     obtain ⟨a, ha, hmem, hsub, hs⟩ := hr.take hq
     obtain ⟨c0, rfl⟩ := mapR_eq ha
     obtain ⟨vv, K0, g0, g1, _, _⟩ := hr.okH _ hmem
     have hv := hx.1
     rw [g0] at hv
     simp only [Option.some.injEq, M.val.injEq] at hv
     replace h := ob h; obtain ⟨l, hl, h⟩ := h
     subst hl
     simp only [HA.conc, g0, g1] at hs
     obtain ⟨h0, ⟨rr, o, e1, ⟨es, cl, rfl, h5, h6⟩, rfl⟩, hd, hs0⟩ := hs
     have hs1 : Sep E K ((fun h => h = one rr (.map es cl)) :: (H.map (HA.conc m) ++ σ.fz fr)) w := ⟨_, rfl, hd, hs0⟩
     have hvv : Go.Proofs.YtmlbbjkojaljnaaDoor.ev n ρ.f x = .map (some rr) := by rw [← hv]; simpa [objVal] using e1
     refine wp_ds ((A.mapUp m1 m2 m3 hvv hy hz h5 h6).go w hs1 _ _ ?_)
     rintro ρ' K' L' w' ⟨es', cl', rfl, rfl, rfl, h7, h8⟩ hs'
     have hp := pre_app m [M.hp K]
     have gn : (m ++ [M.hp K])[σ.nx]? = some (.hp K) := get_new0 hr.nx
     refine hX ⟨σ.base, σ.top, .od i σ.nx (.obj 0 (.sl (.cons (.int .i64) (.one (.int .i64))))) (some (mset c v l)) :: H, σ.Hf, σ.nx + 1, σ.kq⟩ _ K _ _ ⟨Pur.next hr.toPur hp (Hp.le_refl K) (fun e => ⟨e, rfl⟩) (by simp [hr.nx]) ?_, ?_⟩ ⟨rfl, rfl⟩ h
     · intro a ha
       rcases List.mem_cons.1 ha with rfl | ha
       · exact ⟨vv, K, pre_get hp g0, gn, .inr rfl, .inr ⟨_, rr, rfl, by simpa [objVal] using e1⟩⟩
       · exact hr.toPur.okH' hp (Hp.le_refl K) a (hsub a ha)
     · show Sep E K ((HA.conc _ _ :: H.map (HA.conc _)) ++ σ.fz fr) w'
       rw [hr.toPur.conc hp hsub]
       simp only [HA.conc, pre_get hp g0, gn]
       exact hs'.mono (fun h k => ⟨rr, _, by simpa [objVal] using e1, ⟨es', cl', rfl, h7, h8⟩, k⟩)
   · cases h
 · cases h
theorem szOf_some {s : TypeId} (h : (match szOf P s with | some z => Nat.blt 0 z | none => false) = true) : ∃ j, P.info? s = some j ∧ j.size ≠ 0 := by
 unfold szOf at h
 cases hi : P.info? s with
 | none => rw [hi] at h; cases h
 | some j =>
   rw [hi] at h
   simp only [Option.map_some] at h
   exact ⟨j, rfl, by rw [Nat.blt_eq] at h; omega⟩
theorem opPeq_ok {s tx : TypeId} {x y : Operand} {i j : Nat} (h : opPeq P σ (some d) s i j k = some r) (hr : Rel E fr σ m K ρ w) (ex : σ.ev n x = .ptr i 0) (ey : σ.ev n y = .ptr j 0) :
   OpOk P E n fr σ ρ w ⟨some d, .binOp .eql s x y tx, t, pos, af, none⟩ (fun σ' => k σ' = some r) := fun X Q hX => by
 have hx := hr.toPur.ev n x
 have hy := hr.toPur.ev n y
 rw [ex] at hx
 rw [ey] at hy
 obtain ⟨b, q1, q2⟩ := hx
 obtain ⟨b', q3, q4⟩ := hy
 unfold opPeq at h
 split at h
 · rename_i e d0 hs e0
   cases e0
   replace h := bift h; obtain ⟨hz, h⟩ := h
   obtain ⟨te, hi, hsz⟩ := szOf_some hz
   have fin : ∀ bo : Bool, (binOp .eql s (ev n ρ.f x) (ev n ρ.f y)).run P w = .ok (.bool bo) w → k (σ.set d (.bool bo)) = some r → (⟨some d, .binOp .eql s x y tx, t, pos, af, none⟩ : Oper).wp P (act1 n ρ) w X Q := fun bo hb hk => by
     unfold Oper.wp
     have he : (execOp (ev n ρ.f) ⟨some d, .binOp .eql s x y tx, t, pos, af, none⟩).run P w = .ok (.value (.bool bo)) w := by
       simp only [execOp]
       rw [q2, q4] at hb ⊢
       simp [eqGuard, hb]
     rw [eval_act1, he, Oper.upon_value, put_act1]
     exact hX _ _ _ _ _ (hr.set (d := d) (sv := .bool bo) (v := .bool bo) rfl) ⟨rfl, rfl⟩ hk
   cases hij : Nat.beq i j with
   | true =>
     rw [hij] at h
     obtain rfl := Nat.eq_of_beq_eq_true hij
     rw [q1] at q3; cases q3
     refine fin true ?_ h
     rw [q2, q4]
     exact run_eql_ptr_same w ⟨b, 0, none⟩ hs hi
   | false =>
     rw [hij] at h
     simp only [cond_false] at h
     split at h
     · rename_i q H hq
       split at h
       · rename_i qH hq'
         obtain ⟨q', H'⟩ := qH
         obtain ⟨a, ha, hmem, hsub, hsep⟩ := pick_sep (α := Nat) (K := K) (m := m) hq
         obtain rfl := blkR_eq ha
         obtain ⟨bb, vs, g1, g2, _, g4⟩ := HA.ok_blk (hr.okH _ hmem)
         obtain ⟨a', ha', hmem', hsub', hsep'⟩ := pick_sep (α := Nat) (K := K) (m := m) hq'
         obtain rfl := blkR_eq ha'
         obtain ⟨bb', vs', g1', g2', _, g4'⟩ := HA.ok_blk (hr.okH _ (hsub _ hmem'))
         rw [g1] at q1; cases q1
         rw [g1'] at q3; cases q3
         have h1 := hsep hr.toSep
         rw [g4] at h1
         have h2 : Sep E K (Cl b q.e vs :: HA.conc m (.blk j q'.c q'.e q'.cs) :: (H'.map (HA.conc m) ++ σ.fz fr)) w := by
           have := (hsep' (L := Cl b q.e vs :: σ.fz fr) (Sep.perm (List.perm_middle.symm) h1))
           exact (Sep.perm ((List.perm_middle).cons _) this).swap
         rw [g4'] at h2
         refine fin false ?_ h
         rw [q2, q4]
         have hb1 := h2.cl
         have hb2 := h2.swap.cl
         refine run_eql_ptr_other w hs hi hsz (fun e9 => ?_) hb1 hb2
         simp only [Addr.mk.injEq] at e9
         obtain ⟨rfl, _⟩ := e9
         obtain ⟨p1, a1, d1, p2, a2, d2, _⟩ := h2
         unfold Cl at a1 a2
         subst a1 a2
         have := d2 b _ (by simp [one]; rfl)
         simp [Hp.join, one] at this
       · cases h
     · cases h
 · cases h
theorem run_eql_nil_ptr {tp te : TypeId} (b : Addr) (hp : P.underlying tp = some (.pointer te)) : (binOp .eql tp (.pointer none) (.pointer (some b))).run P w = .ok (.bool false) w := by
 have h : ∀ d : Nat, (Op.equalIn (d + 1) tp (.pointer none) (.pointer (some b))).run P w = .ok false w := fun d => by
   simp [Op.equalIn, run_underlying hp]
 simp only [binOp]
 simp [Op.equal, Op.maxDepth, h 9999]
theorem opPn_ok {s tx : TypeId} {x y : Operand} {j : Nat} (h : opPn P σ (some d) s k = some r) (hr : Rel E fr σ m K ρ w) (ex : σ.ev n x = .nilp) (ey : σ.ev n y = .ptr j 0) :
   OpOk P E n fr σ ρ w ⟨some d, .binOp .eql s x y tx, t, pos, af, none⟩ (fun σ' => k σ' = some r) := fun X Q hX => by
 have hx := hr.toPur.ev n x
 have hy := hr.toPur.ev n y
 rw [ex] at hx
 rw [ey] at hy
 obtain ⟨b', q3, q4⟩ := hy
 replace hx : ev n ρ.f x = .pointer none := hx
 unfold opPn at h
 split at h
 · rename_i e d0 hs e0
   cases e0
   have hb := run_eql_nil_ptr (P := P) (w := w) ⟨b', 0, none⟩ hs
   unfold Oper.wp
   have he : (execOp (ev n ρ.f) ⟨some d, .binOp .eql s x y tx, t, pos, af, none⟩).run P w = .ok (.value (.bool false)) w := by
     simp only [execOp]
     rw [hx, q4]
     simp [eqGuard, hb]
   rw [eval_act1, he, Oper.upon_value, put_act1]
   exact hX _ _ _ _ _ (hr.set (d := d) (sv := .bool false) (v := .bool false) rfl) ⟨rfl, rfl⟩ h
 · cases h
theorem opChan_some {s : TypeId} {u : Tp} {x : SV} {d : Option Nat} (h : opChan P σ d s u x k = some r) : ∃ d0, d = some d0 := by
 unfold opChan at h
 split at h
 · exact ⟨_, rfl⟩
 · cases h
theorem A.makeChan {K : Hp} {L : List Atom} {ρ : Sl0} {s e : TypeId} {dr : ChanDir} {i : TypeInfo} {kk : IntKind} {c : Nat} {x : Operand} {g : Option (Nat × Bool)} (hs : P.underlying s = some (.chan dr e)) (hi : P.info? e = some i) (hx : ev n ρ x = .int kk c) (h3 : (c : Int) ≤ 1073741824) (hbc : (i.bytes : Int) * (c : Int) ≤ 281474976710544) :
   Ao P E n ⟨some d, .makeChan s x, t, pos, af, g⟩ ρ K L (fun ρ' K' L' => ∃ b, ρ' = upd ρ d (.chan (some b)) ∧ K = K' ∧ L' = (fun h => h = one b (.chan c #[] false 0 0 false)) :: L) := by
 refine ⟨fun w0 hs0 X Q hX => ?_⟩
 have hrun0 := Go.Conc.run_makeChan (P := P) (w := w0) hs hi kk c (by omega) hbc
 unfold Oper.wp
 have he : (execOp (ev n ρ) ⟨some d, .makeChan s x, t, pos, af, g⟩).run P w0 = .ok (.value (.chan (some w0.heap.size))) (w0.alloc (.chan c #[] false 0 0 false)) := by
   simp [execOp, hx, hrun0]
 rw [eval_act, he, Oper.upon_value, put_act]
 exact hX _ _ _ _ ⟨w0.heap.size, rfl, rfl, rfl⟩ (Sep.allocN hs0 (.chan c #[] false 0 0 false))
theorem opChnO_some {s : TypeId} {a : OT} {x : SV} {d : Option Nat} (h : opChnO P σ d s a x k = some r) : ∃ d0, d = some d0 := by
 unfold opChnO at h
 split at h
 · exact ⟨_, rfl⟩
 · cases h
theorem opChnO_ok {s : TypeId} {a : OT} {x : Operand} (h : opChnO P σ (some d) s a (σ.ev n x) k = some r) (hr : Rel E fr σ m K ρ w) : OpOk P E n fr σ ρ w ⟨some d, .makeChan s x, t, pos, af, none⟩ (fun σ' => k σ' = some r) := fun X Q hX => by
 have hx := hr.toPur.ev n x
 unfold opChnO at h
 split at h
 · rename_i d0 kk c e0 ex
   cases e0
   rw [ex] at hx
   replace hx : ev n ρ.f x = .int kk c := hx
   split at h
   · rename_i dr e hs
     split at h
     · rename_i i hi
       replace h := bift h; obtain ⟨hb, h⟩ := h
       rw [Bool.and_eq_true, Nat.ble_eq] at hb
       obtain ⟨hb, hz⟩ := hb
       have hz := Nat.eq_of_beq_eq_true hz
       replace h := ob h; obtain ⟨l, hl, h⟩ := h
       obtain ⟨h1, _, h3, _⟩ := mk_some hl
       obtain ⟨c, rfl⟩ := Int.eq_ofNat_of_zero_le h1
       have hbc : (i.bytes : Int) * (c : Int) ≤ 281474976710544 := by
         have a1 : (i.bytes : Int) ≤ 100000 := by omega
         have a2 : (i.bytes : Int) * (c : Int) ≤ 100000 * (c : Int) := Int.mul_le_mul_of_nonneg_right a1 (by omega)
         omega
       refine wp_ds ((A.makeChan hs hi hx (by omega) hbc).go w hr.toSep _ _ ?_)
       rintro ρ' K' L' w' ⟨bb, rfl, rfl, rfl⟩ hs'
       obtain ⟨m', hrel⟩ := hr.newOwn (d := d) (o := .chn a) (v := .chan (some bb)) (x := (some ((c : Int), ([] : List a.tp.den)) : Option (Int × List a.tp.den))) (fun _ k => own_form_chn k) (hs'.mono (fun h k => ⟨bb, #[], 0, 0, rfl, by show (0 : Int) ≤ (c : Int); omega, hz, h, Hp.nil, k, ⟨rfl, rfl⟩, (fun n o e => by cases e), (Hp.join_nil h).symm⟩))
       exact hX _ _ _ _ _ hrel ⟨rfl, rfl⟩ h
     · cases h
   · cases h
 · cases h
theorem opChan_ok {s : TypeId} {u : Tp} {x : Operand} (h : opChan P σ (some d) s u (σ.ev n x) k = some r) (hr : Rel E fr σ m K ρ w) : OpOk P E n fr σ ρ w ⟨some d, .makeChan s x, t, pos, af, none⟩ (fun σ' => k σ' = some r) := fun X Q hX => by
 have hx := hr.toPur.ev n x
 unfold opChan at h
 split at h
 · rename_i d0 t0 kk c e0 ex
   cases e0
   rw [ex] at hx
   replace hx : ev n ρ.f x = .int kk c := hx
   split at h
   · rename_i dr e hs
     split at h
     · rename_i i hi
       replace h := bift h; obtain ⟨hb, h⟩ := h
       rw [Nat.ble_eq] at hb
       replace h := ob h; obtain ⟨l, hl, h⟩ := h
       obtain ⟨h1, _, h3, _⟩ := mk_some hl
       obtain ⟨c, rfl⟩ := Int.eq_ofNat_of_zero_le h1
       have hbc : (i.bytes : Int) * (c : Int) ≤ 281474976710544 := by
         have a1 : (i.bytes : Int) ≤ 100000 := by omega
         have a2 : (i.bytes : Int) * (c : Int) ≤ 100000 * (c : Int) := Int.mul_le_mul_of_nonneg_right a1 (by omega)
         omega
       refine wp_ds ((A.makeChan hs hi hx (by omega) hbc).go w hr.toSep _ _ ?_)
       rintro ρ' K' L' w' ⟨bb, rfl, rfl, rfl⟩ hs'
       obtain ⟨m', hrel⟩ := hr.newObj (d := d) (i := 1) (u := .cons (.int .i64) (.one (.sl t0))) (x := (some ((c : Int), ([] : List t0.den)) : Option (Int × List t0.den))) (hs'.mono (fun h k => ⟨bb, _, rfl, ⟨#[], 0, 0, rfl, by show (0 : Int) ≤ (c : Int); omega, rfl⟩, k⟩))
       exact hX _ _ _ _ _ hrel ⟨rfl, rfl⟩ h
     · cases h
   · cases h
 · cases h
theorem newO_some {H : List HA} {e : TypeId} {o : OT} {l : List o.tp.den} {d : Option Nat} (h : newO σ d H e o l k = some r) : ∃ d0, d = some d0 ∧ k ⟨σ.base, (d0, .own σ.nx) :: σ.top, .od σ.nx (σ.nx + 1) (.row e o) l :: H, σ.Hf, σ.nx + 2, σ.kq⟩ = some r := by
 unfold newO at h
 split at h
 · exact ⟨_, rfl, h⟩
 · cases h
theorem z0_ok {K0 : Hp} : ∀ (o : OT) {vs : List SV} {x : o.tp.den} {q : List SV} {us : List Value}, OT.z0 o vs = some (x, q) → SV.relL m K vs us → ∃ c1 c2, us = c1 ++ c2 ∧ o.own K c1 x Hp.nil ∧ SV.relL m K q c2
 | .dat t, vs, x, q, us, h, hr => by
   obtain ⟨c1, c2, rfl, h1, h2⟩ := dt_is t h hr
   exact ⟨c1, c2, rfl, ⟨h1, rfl⟩, h2⟩
 | .row e a, vs, x, q, us, h, hr => by
   unfold OT.z0 at h
   split at h
   · cases h
     obtain ⟨u, us, rfl, h1, h2⟩ := relL_cons hr
     simp only [SV.rel] at h1; subst h1
     exact ⟨[_], us, rfl, ⟨_, [], rfl, star_nil ⟨by simp, .inl ⟨rfl, rfl, rfl⟩⟩ ⟨rfl, rfl⟩⟩, h2⟩
   · cases h
 | .box e a, vs, x, q, us, h, hr => by
   unfold OT.z0 at h
   split at h
   · cases h
     obtain ⟨u, us, rfl, h1, h2⟩ := relL_cons hr
     simp only [SV.rel] at h1; subst h1
     exact ⟨[_], us, rfl, ⟨rfl, rfl⟩, h2⟩
   · cases h
 | .chn a, vs, x, q, us, h, hr => by
   unfold OT.z0 at h
   split at h
   · cases h
     obtain ⟨u, us, rfl, h1, h2⟩ := relL_cons hr
     simp only [SV.rel] at h1; subst h1
     exact ⟨[_], us, rfl, ⟨rfl, rfl⟩, h2⟩
   · cases h
 | .obj n u, vs, x, q, us, h, hr => by
   unfold OT.z0 at h
   split at h
   · replace h := bift h; obtain ⟨hn, h⟩ := h
     obtain rfl := Nat.eq_of_beq_eq_true hn
     cases h
     obtain ⟨v0, us, rfl, h1, h2⟩ := relL_cons hr
     simp only [SV.rel] at h1; subst h1
     exact ⟨[_], us, rfl, ⟨rfl, rfl⟩, h2⟩
   · cases hn : Nat.beq n 0 with
     | true => rw [hn] at h; cases h
     | false =>
       rw [hn] at h
       cases h
       obtain ⟨v0, us, rfl, h1, h2⟩ := relL_cons hr
       simp only [SV.rel] at h1; subst h1
       obtain ⟨j, rfl⟩ : ∃ j, n = j + 1 := by cases n with | zero => cases hn | succ j => exact ⟨j, rfl⟩
       exact ⟨[_], us, rfl, ⟨rfl, rfl⟩, h2⟩
   · cases h
 | .one a, vs, x, q, us, h, hr => z0_ok (K0 := K0) a (x := x) h hr
 | .cons a b, vs, x, q, us, h, hr => by
   unfold OT.z0 at h
   split at h
   · rename_i x1 r1 h1
     split at h
     · rename_i y r2 h2
       cases h
       obtain ⟨c1, c2, rfl, k1, k2⟩ := z0_ok (K0 := K0) a h1 hr
       obtain ⟨d1, d2, rfl, q1, q2⟩ := z0_ok (K0 := K0) b h2 k2
       exact ⟨c1 ++ d1, d2, by simp, ⟨c1, d1, rfl, OT.own_len a k1, star_nil k1 q1⟩, q2⟩
     · cases h
   · cases h
theorem opMakeO_ok {s : TypeId} {x y : Operand} {o : OT} (h : opMakeO P σ (some d) s (σ.ev n x) (σ.ev n y) o k = some r) (hr : Rel E fr σ m K ρ w) : OpOk P E n fr σ ρ w ⟨some d, .makeSlice s x y, t, pos, af, none⟩ (fun σ' => k σ' = some r) := fun X Q hX => by
 have hx := hr.toPur.ev n x
 have hy := hr.toPur.ev n y
 unfold opMakeO at h
 split at h
 · rename_i e k1 a k2 b hs e1 e2
   rw [e1] at hx; rw [e2] at hy
   split at h
   · rename_i z hz
     replace h := bift h; obtain ⟨hi, h⟩ := h
     obtain ⟨zv, bt, i1, i2, i3, i4⟩ := infOk_ok hi
     obtain ⟨zv', sz', bt', j1, j2⟩ := zeroS_ok (m := m) (K := K) hz
     obtain ⟨rfl, rfl, rfl⟩ := i1.zero_eq j1
     split at h
     · rename_i x0 hd
       obtain ⟨c1, c2, q1, q2, q3⟩ := z0_ok (K0 := K) o hd j2
       obtain rfl := relL_nil q3
       rw [List.append_nil] at q1
       rw [← q1] at q2
       replace h := ob h; obtain ⟨l, hl, h⟩ := h
       obtain ⟨m1, m2, m3, rfl⟩ := mk_some hl
       obtain ⟨d0, hd0, h⟩ := newO_some h
       cases hd0
       refine wp_ds ((A.makeW hs i1 (by rw [Array.length_toList]; exact i2) i4 i3 hx hy m1 m2 m3).go w hr.toSep _ _ ?_)
       rintro ρ' K' L' w' ⟨bb, rfl, rfl, rfl⟩ hs'
       have hs2 := hs'.emp.mono (B := EEls (OT.own K o) (zrow a.toNat zv.cells.toList) (List.replicate a.toNat x0)) (fun h k => by
         obtain rfl : h = Hp.nil := k
         rw [zrow_flat]
         exact EEls.zero q2 _)
       have hs3 : Sep E K (OT.own K (.row e o) [.slice (some ⟨bb, 0, none⟩) a.toNat b.toNat] (List.replicate a.toNat x0 : List o.tp.den) :: (σ.H.map (HA.conc m) ++ σ.fz fr)) w' :=
         (Sep.join hs2.swap).mono (fun h k => ⟨_, _, rfl, by rw [List.length_replicate]; exact k⟩)
       obtain ⟨m', hrel⟩ := hr.newO (d := d) (fun a ha => ha) hs3
       exact hX _ _ _ _ _ hrel ⟨rfl, rfl⟩ h
     · cases h
   · cases h
 · cases h
theorem colA_ok {o : OT} : ∀ {cs : List (List SV)} {H : List HA} {xs : List o.tp.den} {H' : List HA} {vs : List (List Value)}, OT.colA o cs H = some (xs, H') → rowsR m K cs vs → (∀ a ∈ H, HA.ok m K a) →
   (∀ a ∈ H', a ∈ H) ∧ xs.length = vs.length ∧ ∀ {E : En} {w : World} {L : List Atom}, Sep E K (H.map (HA.conc m) ++ L) w → Sep E K (EEls (o.own K) vs.flatten xs :: (H'.map (HA.conc m) ++ L)) w
 | [], H, xs, H', vs, h, hr, hok => by
   cases h
   obtain rfl : vs = [] := hr
   exact ⟨fun a ha => ha, rfl, fun hs => hs.emp.mono (fun h k => ⟨rfl, k⟩)⟩
 | c :: cs, H, xs, H', vs, h, hr, hok => by
   obtain ⟨v, q, rfl, hr0, hr1⟩ := hr
   unfold OT.colA at h
   split at h
   · rename_i x H1 h1
     split at h
     · rename_i ys H2 h2
       cases h
       obtain ⟨c1, c2, rfl, k2, k3, k4⟩ := col_ok o h1 (stL_rel _ hr0) hok
       obtain rfl := relL_nil k2
       obtain ⟨i1, i2, i3⟩ := colA_ok h2 hr1 (fun a ha => hok a (k3 a ha))
       refine ⟨fun a ha => k3 a (i1 a ha), by simp [i2], fun {E w L} hs => ?_⟩
       have s1 : Sep E K (H1.map (HA.conc m) ++ (o.own K c1 x :: L)) w := Sep.perm (List.perm_middle.symm) (k4 hs)
       have s2 := i3 s1
       have s3 : Sep E K (o.own K c1 x :: EEls (o.own K) q.flatten ys :: (H'.map (HA.conc m) ++ L)) w := Sep.perm (((List.perm_middle).cons _).trans (List.Perm.swap _ _ _)) s2
       exact (Sep.join s3).mono (fun h k => ⟨c1, q.flatten, by simp, k⟩)
     · cases h
   · cases h
theorem leaf_all : ∀ {cs : List (List SV)} {vs : List (List Value)}, cs.all (fun c => c.all SV.leaf) = true → rowsR m K cs vs → ∀ u ∈ vs.flatten, u.oneCell' = true
 | [], vs, h, hr => by obtain rfl : vs = [] := hr; simp
 | c :: cs, vs, h, hr => by
   obtain ⟨v, q, rfl, hr0, hr1⟩ := hr
   simp only [List.all_cons, Bool.and_eq_true] at h
   intro u hu
   rw [List.flatten_cons] at hu
   rcases List.mem_append.1 hu with hu | hu
   · have := leafs_one h.1 hr0
     rw [List.all_eq_true] at this
     exact this u hu
   · exact leaf_all h.2 hr1 u hu
theorem opLitO_ok {s : TypeId} {len : Nat} {ps : Array (Nat × Operand)} {o : OT} (h : opLitO P σ (some d) s len (ps.toList.map fun p => (p.1, σ.ev n p.2)) o k = some r) (hr : Rel E fr σ m K ρ w) : OpOk P E n fr σ ρ w ⟨some d, .buildSlice s len ps, t, pos, af, none⟩ (fun σ' => k σ' = some r) := fun X Q hX => by
 unfold opLitO at h
 split at h
 · rename_i e hs
   split at h
   · rename_i z hz
     split at h
     · rename_i cs hcs
       obtain ⟨zv, sz, bt, j1, j2⟩ := zeroS_ok (m := m) (K := K) hz
       have hzl := relL_len j2
       have hps : partsR m K (ps.toList.map fun p => (p.1, σ.ev n p.2)) (ps.toList.map fun p => (p.1, ev n ρ p.2)) := partsR_map hr.toPur ps.toList
       replace h := bift h; obtain ⟨hb, h⟩ := h
       rw [Bool.and_eq_true, Bool.and_eq_true] at hb
       obtain ⟨⟨hi, hb⟩, hlf⟩ := hb
       have hb := Nat.le_of_ble_eq_true hb
       obtain ⟨zv', bt', i1, i2, i3, i4⟩ := infOk_ok hi
       obtain ⟨rfl, rfl, rfl⟩ := i1.zero_eq j1
       have hz1 : z.length = o.tp.size := by rw [← hzl, Array.length_toList]; exact i2
       rw [hz1] at hcs
       obtain ⟨ws, g1, g2, g3, g4⟩ := litF_ok o.tp.size i4 hcs hps (rowsR_rep j2 len) (fun x hx => by obtain ⟨_, rfl⟩ := List.mem_replicate.1 hx; rw [Array.length_toList]; exact i2)
       rw [← zrow_flat] at g1
       split at h
       · rename_i l H hl
         obtain ⟨f1, f2, f3⟩ := colA_ok hl g2 (fun a ha => hr.okH a ha)
         rw [g3, List.length_replicate] at f2
         obtain ⟨d0, hd0, h⟩ := newO_some h
         cases hd0
         have hs1 := f3 (L := σ.fz fr) hr.toSep
         have hfl : ws.flatten.length = len * o.tp.size := by
           have := hs1.fact (p := ws.flatten.length = l.length * o.tp.size) (fun h k => EEls.len (fun es x h k => OT.own_len o k) k)
           rw [this, f2]
         refine wp_ds ((A.litW (len := len) hs i1 hb i2 g1 hfl i4).go w hs1 _ _ ?_)
         rintro ρ' K' L' w' ⟨bb, rfl, rfl, rfl⟩ hs'
         have hs3 : Sep E K (OT.own K (.row e o) [.slice (some ⟨bb, 0, none⟩) len len] (l : List o.tp.den) :: (H.map (HA.conc m) ++ σ.fz fr)) w' :=
           (Sep.join hs').mono (fun h k => ⟨_, _, rfl, by rw [f2]; exact k⟩)
         obtain ⟨m', hrel⟩ := hr.newO (d := d) f1 hs3
         exact hX _ _ _ _ _ hrel ⟨rfl, rfl⟩ h
       · cases h
     · cases h
   · cases h
 · cases h
theorem appO_ok {e s : TypeId} {o : OT} {l : List o.tp.den} {x y : Operand} {H : List HA} {v : Value} (hs : P.underlying s = some (.slice e)) (h : appO P σ (some d) H e o l (σ.ev n y) k = some r) (hr : Rel E fr σ m K ρ w)
   (hH : ∀ a ∈ H, a ∈ σ.H) (hsep : Sep E K (OT.own K (.row e o) [v] l :: (H.map (HA.conc m) ++ σ.fz fr)) w) (hx : ev n ρ x = v) :
   OpOk P E n fr σ ρ w ⟨some d, .call ⟨.builtin .append, #[x, y], #[s, s]⟩, t, pos, af, none⟩ (fun σ' => k σ' = some r) := fun X Q hX => by
 have hy := hr.toPur.ev n y
 unfold appO at h
 split at h
 · rename_i j ez
   rw [ez] at hy
   replace h := bift h; obtain ⟨hi, h⟩ := h
   obtain ⟨zv, bt, i1, i2, i3, i4⟩ := infOk_ok hi
   split at h
   · rename_i l' H2 hq
     obtain ⟨l2, rfl⟩ : ∃ l2 : List o.tp.den, l2 = l' := ⟨l', rfl⟩
     obtain ⟨a, ha, hmem, hsub, hps⟩ := pick_sep (α := Nat) (K := K) (m := m) hq
     obtain ⟨c, rfl⟩ := odX_eq ha
     obtain ⟨u, u1, u2, u3⟩ := od_own (hr.okH _ (hH _ hmem))
     have hyv := hy.1
     rw [u1] at hyv
     simp only [Option.some.injEq, M.val.injEq] at hyv
     replace h := ob h; obtain ⟨zs, hz, h⟩ := h
     obtain ⟨hlen, rfl⟩ := app_some hz
     obtain ⟨d0, hd0, h⟩ := newO_some h
     cases hd0
     have s1 : Sep E K (H.map (HA.conc m) ++ (OT.own K (.row e o) [v] l :: σ.fz fr)) w := Sep.perm (List.perm_middle.symm) hsep
     have s2 := u3 (hps s1)
     have s3 : Sep E K (OT.own K (.row e o) [v] l :: OT.own K (.row e o) [u] l2 :: (H2.map (HA.conc m) ++ σ.fz fr)) w := Sep.perm (((List.perm_middle).cons _).trans (List.Perm.swap _ _ _)) s2
     obtain ⟨v1, cs, e1, s4⟩ := Sep.ownRow (a := o) (xs := l) s3
     cases e1
     have s5 : Sep E K (OT.own K (.row e o) [u] l2 :: Rw e o.tp.size v l.length cs :: EEls (OT.own K o) cs l :: (H2.map (HA.conc m) ++ σ.fz fr)) w := Sep.front 2 rfl s4
     obtain ⟨u', ds, e1, s6⟩ := Sep.ownRow (a := o) (xs := l2) s5
     cases e1
     have s7 : Sep E K (Rw e o.tp.size v l.length cs :: Rw e o.tp.size u l2.length ds :: EEls (OT.own K o) ds l2 :: EEls (OT.own K o) cs l :: (H2.map (HA.conc m) ++ σ.fz fr)) w := Sep.front 2 rfl s6
     have hone : ∀ c ∈ ds, c.oneCell' = true := (Sep.front 2 rfl s7).fact (fun h k => EEls.one' (fun es x h k => OT.own_one o k) k)
     refine wp_ds ((A.appW (t := t) (pos := pos) (af := af) hs i1 i2 i4 i3 hx hyv.symm hone hlen).go w s7 _ _ ?_)
     rintro ρ' K' L' w' ⟨v', rfl, rfl, rfl⟩ hs'
     have t1 : Sep E K (EEls (OT.own K o) (cs ++ ds) (l ++ l2) :: Rw e o.tp.size v' (l.length + l2.length) (cs ++ ds) :: (H2.map (HA.conc m) ++ σ.fz fr)) w' :=
       Sep.appEls (Sep.perm ((List.Perm.swap _ _ _).trans (((List.Perm.swap _ _ _).cons _).trans (List.Perm.swap _ _ _))) hs')
     have t2 : Sep E K (OT.own K (.row e o) [v'] (l ++ l2 : List o.tp.den) :: (H2.map (HA.conc m) ++ σ.fz fr)) w' :=
       (Sep.join t1.swap).mono (fun h k => ⟨_, _, rfl, by rw [List.length_append]; exact k⟩)
     obtain ⟨m', hrel⟩ := hr.newO (d := d) (fun a ha => hH a (hsub a ha)) t2
     exact hX _ _ _ _ _ hrel ⟨rfl, rfl⟩ h
   · cases h
 · cases h
theorem opAppO_ok {s u : TypeId} {x y : Operand} {o : OT} (h : opAppO P σ (some d) s u (σ.ev n x) (σ.ev n y) o k = some r) (hr : Rel E fr σ m K ρ w) : OpOk P E n fr σ ρ w ⟨some d, .call ⟨.builtin .append, #[x, y], #[s, u]⟩, t, pos, af, none⟩ (fun σ' => k σ' = some r) := by
 have hx := hr.toPur.ev n x
 unfold opAppO at h
 split at h
 · rename_i e i hs ex
   rw [ex] at hx
   replace h := bift h; obtain ⟨hb, h⟩ := h
   obtain rfl := Nat.eq_of_beq_eq_true hb
   split at h
   · rename_i l H hq
     obtain ⟨a, ha, hmem, hsub, hps⟩ := pick_sep (α := Nat) (K := K) (m := m) hq
     obtain ⟨c, rfl⟩ := odX_eq ha
     obtain ⟨u, u1, u2, u3⟩ := od_own (hr.okH _ hmem)
     have hxv := hx.1
     rw [u1] at hxv
     simp only [Option.some.injEq, M.val.injEq] at hxv
     exact appO_ok hs h hr hsub (u3 (hps hr.toSep)) hxv.symm
   · cases h
 · rename_i e hs ex
   rw [ex] at hx
   replace h := bift h; obtain ⟨hb, h⟩ := h
   obtain rfl := Nat.eq_of_beq_eq_true hb
   simp only [SV.rel] at hx
   exact appO_ok hs h hr (fun a ha => ha) (hr.toSep.emp.mono (fun h k => by obtain rfl : h = Hp.nil := k; exact ⟨_, [], rfl, star_nil ⟨by simp, .inl ⟨rfl, rfl, rfl⟩⟩ ⟨rfl, rfl⟩⟩)) hx
 · cases h
theorem perm_in {α : Type _} (A B F : List α) (x : α) : (A ++ x :: (B ++ F)).Perm ((x :: (A ++ B)) ++ F) := by
 rw [List.cons_append, List.append_assoc]; exact List.perm_middle
theorem Rel.open (hr : Rel E fr σ m K ρ w) {ms : List M} {H : List HA} {nx : Nat} (hn : (m ++ ms).length = nx) (hH : ∀ a ∈ H, HA.ok (m ++ ms) K a) (hs : Sep E K (H.map (HA.conc (m ++ ms)) ++ σ.fz fr) w) : Rel E fr ⟨σ.base, σ.top, H, σ.Hf, nx, σ.kq⟩ (m ++ ms) K ρ w :=
 ⟨Pur.next hr.toPur (pre_app m ms) (Hp.le_refl K) (fun e => ⟨e, rfl⟩) hn hH, hs⟩
theorem opn_ok {i : Nat} {j : Int} {k : Zt → Option R} {r : R} (h : σ.opn i j k = some r) (hr : Rel E fr σ m K ρ w) : ∃ σ' m', k σ' = some r ∧ Same σ σ' ∧ Rel E fr σ' m' K ρ w := by
 unfold Zt.opn at h
 split at h
 · rename_i q H hq
   replace h := ob h; obtain ⟨x, hx, h⟩ := h
   obtain ⟨p1, p2, p3⟩ := getI_some hx
   obtain ⟨a, ha, hmem, hsub, hs⟩ := hr.take hq
   obtain rfl := rowsR_eq ha
   obtain ⟨v, K0, g1, g2, g3, ad, cap, rfl, g5⟩ := hr.okH _ hmem
   simp only [HA.conc, g1, g2] at hs
   obtain ⟨es, k1, hs⟩ := Sep.openH (o := q.o) (xs := q.l) p2 hs
   have hlt : j.toNat < q.l.length := (List.getElem?_eq_some_iff.1 p2).1
   obtain ⟨g, rfl⟩ := g5 (by show q.l.length ≠ 0; omega)
   have hp := pre_app m [M.hol K0 es]
   have gn : (m ++ [M.hol K0 es])[σ.nx]? = some (.hol K0 es) := get_new0 hr.nx
   cases hex : OT.ex q.c q.o x (σ.nx + 1) with
   | mk vs q2 =>
     obtain ⟨Hn, nx⟩ := q2
     simp only [hex] at h
     obtain ⟨ms, e1, e2, e3, e4⟩ := ex_ok (m := m ++ [M.hol K0 es]) q.o g3 hex (by simp [hr.nx]) (pre_get hp g2) hs.swap
     have hp2 := pre_app (m ++ [M.hol K0 es]) ms
     have hp3 : m <+: (m ++ [M.hol K0 es]) ++ ms := hp.trans hp2
     rw [List.append_assoc] at e1 e2 e3 e4 hp2 hp3
     have gi := pre_get hp3 g1
     have gc : (m ++ ([M.hol K0 es] ++ ms))[σ.nx]? = some (.hol K0 es) := pre_get hp2 gn
     refine ⟨_, m ++ ([M.hol K0 es] ++ ms), h, ⟨rfl, rfl⟩, Rel.open hr e1 ?_ ?_⟩
     · intro a ha
       rcases List.mem_cons.1 ha with rfl | ha
       · exact ⟨_, cap, K0, es, gi, gc, g3, e2, p1, hlt, k1, g, rfl⟩
       · rcases List.mem_append.1 ha with ha | ha
         · exact e3 a ha
         · exact hr.toPur.okH' hp3 (Hp.le_refl K) a (hsub a ha)
     · rw [List.map_cons, List.map_append, hr.toPur.conc hp3 hsub]
       simp only [HA.conc, gi, gc]
       refine Sep.perm ?_ e4
       exact perm_in _ _ _ _
 · cases h
theorem svF_rel {i : Nat} {x : SV} {v : Value} (h1 : m[i]? = some (.val v)) (h2 : SV.rel m K x v) : ∀ a b u, svF i x a = some b → SV.rel m K a u → SV.rel m K b u := by
 intro a b u hf hr
 unfold svF at hf
 split at hf
 · replace hf := bift hf; obtain ⟨hb, hf⟩ := hf
   have hb := Nat.eq_of_beq_eq_true hb
   subst hb
   cases hf
   have h4 := hr.1
   rw [h1] at h4
   simp only [Option.some.injEq, M.val.injEq] at h4
   subst h4
   exact h2
 · cases hf
theorem opb_ok {i : Nat} {k : Zt → Option R} {r : R} (h : σ.opb i k = some r) (hr : Rel E fr σ m K ρ w) : ∃ σ' m', k σ' = some r ∧ Same σ σ' ∧ Rel E fr σ' m' K ρ w := by
 unfold Zt.opb at h
 split at h
 · rename_i q H hq
   obtain ⟨a, ha, hmem, hsub, hs⟩ := hr.take hq
   obtain rfl := boxR_eq ha
   obtain ⟨qc, qe, qo, qx⟩ := q
   dsimp only at h hmem hs
   replace h := ob h; obtain ⟨y, hy, h⟩ := h
   subst hy
   obtain ⟨v, K0, g1, g2, g3, g4⟩ := hr.okH _ hmem
   change m[qc]? = some (.hp K0) at g2
   change Sep E K (HA.conc m (.od i qc (.box qe qo) (some y)) :: _) w at hs
   simp only [HA.conc, g1, g2] at hs
   obtain ⟨b, es, e0, hs1⟩ := Sep.ownBox hs
   clear hs
   simp only [List.cons.injEq, and_true] at e0
   subst e0
   have hp := pre_app m [M.cells es]
   have gn : (m ++ [M.cells es])[σ.nx]? = some (.cells es) := get_new0 hr.nx
   cases hex : OT.ex qc qo y (σ.nx + 1) with
   | mk vs q2 =>
     obtain ⟨Hn, nx⟩ := q2
     simp only [hex] at h
     obtain ⟨ms, e1, e2, e3, e4⟩ := ex_ok (m := m ++ [M.cells es]) qo g3 hex (by simp [hr.nx]) (pre_get hp g2) hs1.swap
     have hp2 := pre_app (m ++ [M.cells es]) ms
     have hp3 : m <+: (m ++ [M.cells es]) ++ ms := hp.trans hp2
     rw [List.append_assoc] at e1 e2 e3 e4 hp2 hp3
     have gi := pre_get hp3 g1
     have gc : (m ++ ([M.cells es] ++ ms))[σ.nx]? = some (.cells es) := pre_get hp2 gn
     have hf := svF_rel (K := K) (x := .ptr i 0) gi ⟨b, gi, rfl⟩
     have okS : ∀ a ∈ H.map (HA.sub (svF i (.ptr i 0))), HA.ok (m ++ ([M.cells es] ++ ms)) K a := fun a ha => by
       obtain ⟨a0, h0, rfl⟩ := List.mem_map.1 ha
       exact ok_sub hf (hr.toPur.okH' hp3 (Hp.le_refl K) a0 (hsub a0 h0))
     refine ⟨_, m ++ ([M.cells es] ++ ms), h, ⟨rfl, rfl⟩, ⟨⟨?_, hr.hK, e1, hr.kq, hr.base, hr.dead, ?_, ?_, ?_, hr.okF, hr.mks⟩, ?_⟩⟩
     · exact hr.hm.trans hp3
     · intro i' hi'
       rw [show look (subT _ σ.top) i' = _ from look_sub σ.top i'] at hi'
       cases hl : look σ.top i' with
       | none => exact hr.old i' hl
       | some x => rw [hl] at hi'; cases hi'
     · intro i' sv hi'
       rw [show look (subT _ σ.top) i' = _ from look_sub σ.top i'] at hi'
       cases hl : look σ.top i' with
       | none => rw [hl] at hi'; cases hi'
       | some x =>
         rw [hl] at hi'; cases hi'
         exact sub_rel hf x (SV.mono (fun _ _ k => pre_get hp3 k) (Hp.le_refl K) x (hr.top i' x hl))
     · intro a ha
       rcases List.mem_cons.1 ha with rfl | ha
       · exact ⟨b, es, gi, gc, e2⟩
       · rcases List.mem_append.1 ha with ha | ha
         · exact e3 a ha
         · exact okS a ha
     · show Sep E K ((HA.conc _ _ :: (Hn ++ H.map _).map (HA.conc _)) ++ σ.fz fr) w
       rw [List.map_append, map_conc_sub, hr.toPur.conc hp3 hsub]
       simp only [HA.conc, gi, gc]
       refine Sep.perm ?_ e4
       exact perm_in _ _ _ _
 · cases h
theorem cls_ok {i : Nat} {σ' : Zt} (h : σ.cls i = some σ') (hr : Rel E fr σ m K ρ w) : ∃ m', Same σ σ' ∧ Rel E fr σ' m' K ρ w := by
 unfold Zt.cls at h
 split at h
 · rename_i q H hq
   obtain ⟨a, ha, hmem, hsub, hs⟩ := hr.take hq
   obtain rfl := holR_eq ha
   obtain ⟨ad, cap, K0, es, g1, g2, g3, g4, g5, g6, g7, g, rfl⟩ := hr.okH _ hmem
   simp only [HA.conc, g1, g2] at hs
   split at h
   · rename_i y H1 hcol
     cases h
     obtain ⟨c1, c2, rfl, k2, k3, k4⟩ := col_ok q.o hcol (stL_rel _ g4) (fun a ha => hr.okH a (hsub a ha))
     obtain rfl := relL_nil k2
     rw [List.append_nil] at hs
     have s1 := k4 (Sep.perm (List.perm_middle.symm) hs)
     have s2 : Sep E K (HoleA K0 q.e q.o (.slice (some ⟨g, 0, none⟩) q.l.length cap) q.l q.j.toNat c1 :: q.o.own K c1 y :: (H1.map (HA.conc m) ++ σ.fz fr)) w := Sep.perm (((List.perm_middle).cons _).trans (List.Perm.swap _ _ _)) s1
     have s3 := s2.mono (B := HoleA K q.e q.o (.slice (some ⟨g, 0, none⟩) q.l.length cap) q.l q.j.toNat c1) (fun h ⟨a1, a2, e1, hst⟩ => ⟨a1, a2, e1, star_mono (fun _ k => k) (fun h k => star_mono (fun h k => EEls.mono (fun es x h k => KOk.own g3 k) k) (fun h k => EEls.mono (fun es x h k => KOk.own g3 k) k) k) hst⟩)
     have s4 := Sep.closeH (o := q.o) g6 s3
     have hp := pre_app m [M.hp K]
     have gn : (m ++ [M.hp K])[σ.nx]? = some (.hp K) := get_new0 hr.nx
     have gi := pre_get hp g1
     refine ⟨m ++ [M.hp K], ⟨rfl, rfl⟩, Rel.open hr (by simp [hr.nx]) ?_ ?_⟩
     · intro a ha
       rcases List.mem_cons.1 ha with rfl | ha
       · exact ⟨_, K, gi, gn, KOk.refl, _, cap, by rw [show List.length (α := q.o.tp.den) (q.l.set q.j.toNat y) = q.l.length from List.length_set], fun _ => ⟨g, rfl⟩⟩
       · exact hr.toPur.okH' hp (Hp.le_refl K) a (hsub a (k3 a ha))
     · rw [List.map_cons, hr.toPur.conc hp (fun a ha => hsub a (k3 a ha))]
       simp only [HA.conc, gi, gn]
       exact s4
   · cases h
 · split at h
   · rename_i q H hq
     cases h
     obtain ⟨a, ha, hmem, hsub, hs⟩ := hr.take hq
     obtain rfl := rowR_eq ha
     obtain ⟨ad, cap, cs, g1, g2, g3, g4, g5, g6, g7⟩ := hr.okH _ hmem
     simp only [HA.conc, g1, g2] at hs
     have hp := pre_app m [M.hp K]
     have gn : (m ++ [M.hp K])[σ.nx]? = some (.hp K) := get_new0 hr.nx
     have gi := pre_get hp g1
     refine ⟨m ++ [M.hp K], ⟨rfl, rfl⟩, Rel.open hr (by simp [hr.nx]) ?_ ?_⟩
     · intro a ha
       rcases List.mem_cons.1 ha with rfl | ha
       · exact ⟨_, K, gi, gn, KOk.refl, ad, cap, by rw [← g4]; rfl, fun hl => g7 (fun e => hl (by rw [e]; rfl))⟩
       · exact hr.toPur.okH' hp (Hp.le_refl K) a (hsub a ha)
     · rw [List.map_cons, hr.toPur.conc hp hsub]
       simp only [HA.conc, gi, gn]
       rw [← g4] at hs
       have h1 := hs.emp.mono (B := EEls (OT.own K (.one (.dat q.t))) cs q.l) (fun h k => by obtain rfl : h = Hp.nil := k; exact (show EEls (OT.own K (.dat q.t)) cs q.l Hp.nil from EEls.dat' g3))
       rw [← g4]
       exact Sep.ownRow' (a := .one (.dat q.t)) (Sep.perm (List.Perm.swap _ _ _) h1)
   · cases h
theorem col_det {o : OT} {v : SV} {H H' : List HA} {x : o.tp.den} (hnl : o.nl = true) (h : OT.col o [v] H = some (x, [], H')) (hok : ∀ a ∈ H, HA.ok m K a) : ∃ u0, (∀ u, SV.rel m K v u → u = u0) ∧ o.form u0 x ∧ (∀ a ∈ H', a ∈ H) ∧ ∀ {E : En} {w : World} {L : List Atom}, Sep E K (H.map (HA.conc m) ++ L) w → Sep E K (o.own K [u0] x :: (H'.map (HA.conc m) ++ L)) w := by
 have main : ∃ u0, SV.rel m K v u0 ∧ (∀ u, SV.rel m K v u → u = u0) ∧ o.form u0 x := by
   cases o with
   | row e a =>
     unfold OT.col at h
     split at h
     · rename_i v' r' hv
       cases hv
       split at h
       · cases h; exact ⟨_, rfl, fun u hu => hu, none, 0, rfl, fun h => absurd rfl h⟩
       · rename_i i
         split at h
         · rename_i x' H1 hp
           cases h
           obtain ⟨v, g1, g2, _, _⟩ := pickX_ok hp hok
           refine ⟨v, ⟨g1, form_one g2⟩, fun u hu => ?_, g2⟩
           have := hu.1; rw [g1] at this; cases this; rfl
         · cases h
       · cases h
     · cases h
   | box e a =>
     unfold OT.col at h
     split at h
     · rename_i v' r' hv
       cases hv
       split at h
       · cases h; exact ⟨_, rfl, fun u hu => hu, .inl ⟨rfl, rfl⟩⟩
       · rename_i i o
         replace h := bift h; obtain ⟨ho, h⟩ := h
         obtain rfl := Nat.eq_of_beq_eq_true ho
         split at h
         · rename_i q H1 hq
           replace h := bift h; obtain ⟨he, h⟩ := h
           split at h
           · rename_i y H2 hcol
             cases h
             obtain ⟨a', ha, hmem, hperm⟩ := pick_spec hq
             obtain rfl := blkR_eq ha
             obtain ⟨b, bs, g1, g2, g3, g4⟩ := HA.ok_blk (hok _ hmem)
             refine ⟨.pointer (some ⟨b, 0, none⟩), ⟨b, g1, rfl⟩, fun u hu => ?_, .inr ⟨y, b, rfl, rfl⟩⟩
             obtain ⟨b', g5, rfl⟩ := hu
             rw [g1] at g5; cases g5; rfl
           · cases h
         · cases h
       · rename_i i
         split at h
         · rename_i x' H1 hp
           cases h
           obtain ⟨v, g1, g2, _, _⟩ := pickX_ok hp hok
           refine ⟨v, ⟨g1, form_one g2⟩, fun u hu => ?_, g2⟩
           have := hu.1; rw [g1] at this; cases this; rfl
         · cases h
       · cases h
     · cases h
   | chn a =>
     unfold OT.col at h
     split at h
     · rename_i v' r' hv
       cases hv
       split at h
       · cases h; exact ⟨_, rfl, fun u hu => hu, .inl ⟨rfl, rfl⟩⟩
       · rename_i i
         split at h
         · rename_i x' H1 hp
           cases h
           obtain ⟨v, g1, g2, _, _⟩ := pickX_ok hp hok
           refine ⟨v, ⟨g1, form_one g2⟩, fun u hu => ?_, g2⟩
           have := hu.1; rw [g1] at this; cases this; rfl
         · cases h
       · cases h
     · cases h
   | obj i u =>
     unfold OT.col at h
     split at h
     · rename_i v' r' hv
       cases hv
       split at h
       · replace h := bift h; obtain ⟨hn, h⟩ := h
         obtain rfl := Nat.eq_of_beq_eq_true hn
         cases h; exact ⟨_, rfl, fun u hu => hu, .inl ⟨rfl, rfl⟩⟩
       · cases hn : Nat.beq i 0 with
         | true => rw [hn] at h; cases h
         | false =>
           rw [hn] at h
           obtain ⟨j, rfl⟩ : ∃ j, i = j + 1 := by cases i with | zero => cases hn | succ j => exact ⟨j, rfl⟩
           cases h; exact ⟨_, rfl, fun u hu => hu, .inl ⟨rfl, rfl⟩⟩
       · rename_i i
         split at h
         · rename_i x' H1 hp
           cases h
           obtain ⟨v, g1, g2, _, _⟩ := pickX_ok hp hok
           refine ⟨v, ⟨g1, form_one g2⟩, fun u hu => ?_, g2⟩
           have := hu.1; rw [g1] at this; cases this; rfl
         · cases h
       · cases h
     · cases h
   | _ => cases hnl
 obtain ⟨u0, h1, h2, h3⟩ := main
 have hl : SV.relL m K [v] [u0] := ⟨u0, [], rfl, h1, rfl⟩
 obtain ⟨c1, c2, e, k1, k2, k3⟩ := col_ok o h hl hok
 obtain rfl := relL_nil k1
 rw [List.append_nil] at e
 subst e
 exact ⟨u0, h2, h3, k2, k3⟩
theorem kn_ok {o : OT} {x : o.tp.den} {v : Value} {y : SV} (h : OT.kn o x = some y) (hi : Is K o.tp [v] x) : SV.rel m K y v := by
 unfold OT.kn at h
 split at h
 · cases h; exact ⟨(show Is K (.sl _) [v] _ from hi), rfl⟩
 · cases h; exact ⟨hi, rfl⟩
 · cases h; exact hi
 · cases h
end
end
section
variable [BldA]
theorem same_self : ∀ (t : Tp), ∃ h, Tp.same t t = some h
 | .int k => ⟨⟨rfl⟩, by simp [Tp.same]⟩
 | .bool => ⟨⟨rfl⟩, rfl⟩
 | .str => ⟨⟨rfl⟩, rfl⟩
 | .sl a => by obtain ⟨h, e⟩ := same_self a; exact ⟨⟨rfl⟩, by simp [Tp.same, e]⟩
 | .ptr a => by obtain ⟨h, e⟩ := same_self a; exact ⟨⟨rfl⟩, by simp [Tp.same, e]⟩
 | .emp => ⟨⟨rfl⟩, rfl⟩
 | .one a => by obtain ⟨h, e⟩ := same_self a; exact ⟨⟨rfl⟩, by simp [Tp.same, e]⟩
 | .cons a r => by
   obtain ⟨h, e⟩ := same_self a
   obtain ⟨h2, e2⟩ := same_self r
   exact ⟨⟨rfl⟩, by simp [Tp.same, e, e2]⟩
theorem as_self {t : Tp} {x : t.den} : (⟨t, x⟩ : Dat).as t = some x := by
 obtain ⟨⟨h⟩, e⟩ := same_self t
 unfold Dat.as
 rw [e]
theorem as_spec {d : Dat} {t : Tp} {x : t.den} (h : d.as t = some x) : d = ⟨t, x⟩ := by
 unfold Dat.as at h
 split at h
 · rename_i q _
   obtain ⟨t0, x0⟩ := d
   obtain ⟨q⟩ := q
   change t0 = t at q
   subst q
   cases h; rfl
 · cases h
theorem TL.of_list : ∀ {ts : List Tp} {ds : List Dat} {x : TL ts}, TL.of ts ds = some x → TL.list ts x = ds
 | [], [], x, h => rfl
 | [], d :: ds, x, h => by cases h
 | [t], [], x, h => by cases h
 | [t], [d], x, h => by
   have := as_spec (show d.as t = some x from h)
   rw [this]; rfl
 | [t], d :: e :: ds, x, h => by cases h
 | t :: u :: r, [], x, h => by cases h
 | t :: u :: r, d :: ds, x, h => by
   unfold TL.of at h
   split at h
   · rename_i y z h1 h2
     cases h
     have e1 := as_spec h1
     have e2 := TL.of_list h2
     show ⟨t, y⟩ :: TL.list (u :: r) z = d :: ds
     rw [e1, e2]
   · cases h
section
variable {m : List M} {K : Hp}
theorem dtv_ok {t : Tp} {v : SV} {x : t.den} {u : Value} (h : dtv t v = some x) (hr : SV.rel m K v u) : IsV K t u x := by
 unfold dtv at h
 split at h
 · rename_i vs
   replace h := bift h; obtain ⟨hs, h⟩ := h
   obtain ⟨us, rfl, hr⟩ := hr
   split at h
   · rename_i x' hd
     cases h
     obtain ⟨c1, c2, h1, h2, h3⟩ := dt_is t hd hr
     obtain rfl := relL_nil h3
     rw [List.append_nil] at h1
     subst h1
     cases t <;> first | (cases hs; done) | exact ⟨us, rfl, h2⟩
   · cases h
 · replace h := biff h; obtain ⟨hs, h⟩ := h
   split at h
   · rename_i x' hd
     cases h
     obtain ⟨c1, c2, h1, h2, h3⟩ := dt_is t hd (show SV.relL m K [v] [u] from ⟨u, [], rfl, hr, rfl⟩)
     obtain rfl := relL_nil h3
     rw [List.append_nil] at h1
     subst h1
     cases t <;> first | (cases hs; done) | exact h2
   · cases h
theorem same_rel {w v : SV} {u : Value} {mu : List M} {K' : Hp} (h : SV.same w v = true) (hr : SV.rel m K v u) : SV.rel mu K' w u := by
 unfold SV.same at h
 split at h
 · simp only [Bool.and_eq_true, decide_eq_true_eq] at h
   obtain ⟨rfl, rfl⟩ := h; exact hr
 · have := eq_of_beq h
   subst this; exact hr
 · simp only [decide_eq_true_eq] at h
   subst h; exact hr
 · exact hr
 · exact hr
 · cases h
def RsR (m mu : List M) (gr : List (Option Nat)) (rs : List Nat) : Prop := gr.length = rs.length ∧ ∀ j i id : Nat, gr[j]? = some (some i) → rs[j]? = some id → mu[id]? = m[i]?
theorem RsR.mono {mu ms : List M} {gr : List (Option Nat)} {rs : List Nat} (h : RsR m mu gr rs) (hi : ∀ i : Nat, some i ∈ gr → m[i]? ≠ none) : RsR m (mu ++ ms) gr rs := by
 refine ⟨h.1, fun j i id h1 h2 => ?_⟩
 have := h.2 j i id h1 h2
 have hne := hi i (List.mem_of_getElem? h1)
 cases hm : m[i]? with
 | none => exact absurd hm hne
 | some x => rw [hm] at this; exact pre_get (pre_app mu ms) this
theorem RsR.snoc {mu : List M} {gr : List (Option Nat)} {rs : List Nat} (h : RsR m mu gr rs) {o : Option Nat} {id : Nat} (hi : ∀ i, o = some i → mu[id]? = m[i]?) : RsR m mu (gr ++ [o]) (rs ++ [id]) := by
 refine ⟨by simp [h.1], fun j i id' h1 h2 => ?_⟩
 rcases Nat.lt_trichotomy j gr.length with hj | hj | hj
 · rw [List.getElem?_append_left hj] at h1
   rw [List.getElem?_append_left (by rw [← h.1]; exact hj)] at h2
   exact h.2 j i id' h1 h2
 · subst hj
   rw [List.getElem?_append_right (Nat.le_refl _), Nat.sub_self] at h1
   rw [List.getElem?_append_right (by rw [h.1]; exact Nat.le_refl _), h.1, Nat.sub_self] at h2
   simp at h1 h2
   subst h2
   exact hi i h1
 · rw [List.getElem?_eq_none (by simp; omega)] at h1; cases h1
def BiR (m mu : List M) (β : Nat → Option Nat) (bi : List Nat) : Prop := ∀ j i i' : Nat, β j = some i → bi[j]? = some i' → ∀ x, m[i]? = some x → mu[i']? = some x
theorem BiR.mono {mu ms : List M} {β : Nat → Option Nat} {bi : List Nat} (h : BiR m mu β bi) : BiR m (mu ++ ms) β bi := fun j i i' h1 h2 x hx => pre_get (pre_app mu ms) (h j i i' h1 h2 x hx)
structure GU (m : List M) (K : Hp) (β : Nat → Option Nat) (bi : List Nat) (g g' : Gt) (ds1 : List Dat) (un : Un → Option (SV × Un)) (v : SV) : Prop where
 ds : g'.ds = g.ds ++ ds1
 sub : ∀ a ∈ g'.H, a ∈ g.H
 rsm : ∀ i : Nat, some i ∈ g'.rs → m[i]? ≠ none
 go : ∀ (rest : List Dat) (mu : List M) (Hu : List HA) (rs : List Nat), BiR m mu β bi → RsR m mu g.rs rs →
   ∃ sv ms Hu2 rs2, un ⟨ds1 ++ rest, mu.length, Hu, rs⟩ = some (sv, ⟨rest, (mu ++ ms).length, Hu2 ++ Hu, rs ++ rs2⟩) ∧ (∀ u, SV.rel m K v u → SV.rel (mu ++ ms) K sv u) ∧
     (∀ a ∈ Hu2, HA.ok (mu ++ ms) K a) ∧ RsR m (mu ++ ms) g'.rs (rs ++ rs2) ∧ ∀ E F w, Sep E K (g.H.map (HA.conc m) ++ F) w → Sep E K (Hu2.map (HA.conc (mu ++ ms)) ++ (g'.H.map (HA.conc m) ++ F)) w
structure GUL (m : List M) (K : Hp) (β : Nat → Option Nat) (bi : List Nat) (g g' : Gt) (ds1 : List Dat) (un : Un → Option (List SV × Un)) (vs : List SV) : Prop where
 ds : g'.ds = g.ds ++ ds1
 sub : ∀ a ∈ g'.H, a ∈ g.H
 rsm : ∀ i : Nat, some i ∈ g'.rs → m[i]? ≠ none
 go : ∀ (rest : List Dat) (mu : List M) (Hu : List HA) (rs : List Nat), BiR m mu β bi → RsR m mu g.rs rs →
   ∃ svs ms Hu2 rs2, un ⟨ds1 ++ rest, mu.length, Hu, rs⟩ = some (svs, ⟨rest, (mu ++ ms).length, Hu2 ++ Hu, rs ++ rs2⟩) ∧ (∀ us, SV.relL m K vs us → SV.relL (mu ++ ms) K svs us) ∧
     (∀ a ∈ Hu2, HA.ok (mu ++ ms) K a) ∧ RsR m (mu ++ ms) g'.rs (rs ++ rs2) ∧ ∀ E F w, Sep E K (g.H.map (HA.conc m) ++ F) w → Sep E K (Hu2.map (HA.conc (mu ++ ms)) ++ (g'.H.map (HA.conc m) ++ F)) w
theorem GU.off {β : Nat → Option Nat} {bi : List Nat} {g g' : Gt} {un : Un → Option (SV × Un)} {v w : SV} {B : Prop} (hv : v.st = w) (h : (∃ ds1, GU m K β bi g g' ds1 un w) ∧ B) : (∃ ds1, GU m K β bi g g' ds1 un v) ∧ B := by
 obtain ⟨⟨d, h1, h2, h3, h4⟩, hB⟩ := h
 refine ⟨⟨d, h1, h2, h3, fun rest mu Hu rs hb hr => ?_⟩, hB⟩
 obtain ⟨sv, ms, Hu2, rs2, w1, w2, w3⟩ := h4 rest mu Hu rs hb hr
 exact ⟨sv, ms, Hu2, rs2, w1, fun u hu => w2 u (by rw [← hv]; exact st_rel _ hu), w3⟩
theorem GU.still {β : Nat → Option Nat} {bi : List Nat} {g : Gt} {un : Un → Option (SV × Un)} {v : SV} (hrs : ∀ i : Nat, some i ∈ g.rs → m[i]? ≠ none)
   (h : ∀ (mu : List M) (rs : List Nat), BiR m mu β bi → RsR m mu g.rs rs → ∃ sv, (∀ ds nx H, un ⟨ds, nx, H, rs⟩ = some (sv, ⟨ds, nx, H, rs⟩)) ∧ ∀ u, SV.rel m K v u → SV.rel mu K sv u) : GU m K β bi g g [] un v where
 ds := by simp
 sub := fun a h => h
 rsm := hrs
 go := fun rest mu Hu rs hb hr => by
   obtain ⟨sv, h1, h2⟩ := h mu rs hb hr
   exact ⟨sv, [], [], [], by simpa using h1 rest mu.length Hu, by simpa using h2, by simp, by simpa using hr, fun E F w hs => by simpa using hs⟩
theorem bind_spec {g g' : Gt} {j i : Nat} (h : g.bind j i = some g') : g'.ds = g.ds ∧ g'.rs = g.rs ∧ g'.H = g.H ∧ lookN g'.bm j = some i ∧ ∀ j' i', lookN g.bm j' = some i' → lookN g'.bm j' = some i' := by
 unfold Gt.bind at h
 split at h
 · rename_i i0 h0
   replace h := bift h; obtain ⟨hb, h⟩ := h
   cases h
   have := Nat.eq_of_beq_eq_true hb
   subst this
   exact ⟨rfl, rfl, rfl, h0, fun _ _ h => h⟩
 · rename_i h0
   cases h
   refine ⟨rfl, rfl, rfl, by simp [lookN], fun j' i' h => ?_⟩
   show (bif Nat.beq j j' then some i else lookN g.bm j') = some i'
   cases hb : Nat.beq j j' with
   | true => have := Nat.eq_of_beq_eq_true hb; subst this; rw [h0] at h; cases h
   | false => exact h
theorem GU.bound {β : Nat → Option Nat} {bi : List Nat} {g g' : Gt} {j i : Nat} {un : Un → Option (SV × Un)} {v : SV} (hb : g.bind j i = some g') (hβ : ∀ j i, lookN g'.bm j = some i → β j = some i) (hbi : ∀ j i, β j = some i → ∃ i', bi[j]? = some i') (hrs : ∀ i : Nat, some i ∈ g.rs → m[i]? ≠ none)
   (h : ∀ (i' : Nat) (mu : List M), bi[j]? = some i' → (∀ x, m[i]? = some x → mu[i']? = some x) → ∃ sv, (∀ u : Un, un u = some (sv, u)) ∧ ∀ u, SV.rel m K v u → SV.rel mu K sv u) : GU m K β bi g g' [] un v := by
 obtain ⟨b1, b2, b3, b4, b5⟩ := bind_spec hb
 have hj := hβ j i b4
 obtain ⟨i', hi'⟩ := hbi j i hj
 refine ⟨by simp [b1], fun a ha => by rw [← b3]; exact ha, fun i hi => hrs i (by rw [← b2]; exact hi), fun rest mu Hu rs hbr hr => ?_⟩
 obtain ⟨sv, h1, h2⟩ := h i' mu hi' (hbr j i i' hj hi')
 refine ⟨sv, [], [], [], by simpa using h1 ⟨rest, mu.length, Hu, rs⟩, by simpa using h2, by simp, by rw [b2]; simpa using hr, fun E F w hs => by rw [b3]; simpa using hs⟩
mutual
theorem get_bm : ∀ (k : Kd) {v : SV} {g g' : Gt}, Kd.get k v g = some g' → ∀ j i, lookN g.bm j = some i → lookN g'.bm j = some i
 | .any, v, g, g', h => by cases h; exact fun _ _ h => h
 | .dat t, v, g, g', h => by
   unfold Kd.get at h; split at h
   · cases h; exact fun _ _ h => h
   · cases h
 | .nilp, v, g, g', h => by unfold Kd.get at h; split at h <;> first | (cases h; done) | (cases h; exact fun _ _ h => h)
 | .nils, v, g, g', h => by unfold Kd.get at h; split at h <;> first | (cases h; done) | (cases h; exact fun _ _ h => h)
 | .nilf, v, g, g', h => by unfold Kd.get at h; split at h <;> first | (cases h; done) | (cases h; exact fun _ _ h => h)
 | .ptr j o, v, g, g', h => by
   unfold Kd.get at h; split at h
   · replace h := bift h; exact (bind_spec h.2).2.2.2.2
   · cases h
 | .own e t, v, g, g', h => by
   unfold Kd.get at h; split at h
   · split at h
     · replace h := (bift h).2
       split at h
       · cases h; exact fun _ _ h => h
       · cases h
     · cases h
   · cases h; exact fun _ _ h => h
   · cases h
 | .al j, v, g, g', h => by
   unfold Kd.get at h; split at h
   · replace h := (bift h).2; cases h; exact fun _ _ h => h
   · cases h
 | .fsl j k, v, g, g', h => by
   unfold Kd.get at h; split at h
   · replace h := bift h; exact (bind_spec h.2).2.2.2.2
   · cases h
 | .agg ks, v, g, g', h => by
   unfold Kd.get at h; split at h
   · exact getL_bm ks h
   · cases h
 | .tup ks, v, g, g', h => by
   unfold Kd.get at h; split at h
   · exact getL_bm ks h
   · cases h
 | .fn f ks, v, g, g', h => by
   unfold Kd.get at h; split at h
   · exact getL_bm ks (bift h).2
   · cases h
 | .lit w, v, g, g', h => by
   unfold Kd.get at h; replace h := (bift h).2; cases h; exact fun _ _ h => h
 | .od o, v, g, g', h => by
   unfold Kd.get at h; replace h := (bift h).2; split at h
   · cases h; exact fun _ _ h => h
   · cases h
 | .rp j, v, g, g', h => by
   unfold Kd.get at h; split at h
   · exact (bind_spec h).2.2.2.2
   · cases h
 | .kat t o, v, g, g', h => by
   unfold Kd.get at h; split at h
   · replace h := (bift h).2; split at h
     · cases h; exact fun _ _ h => h
     · cases h
   · cases h
 | .ifc t k, v, g, g', h => by
   unfold Kd.get at h; split at h
   · exact get_bm k (bift h).2
   · cases h
 | .is j0 k, v, g, g', h => by
   unfold Kd.get at h; split at h
   · split at h
     · rename_i g1 hb; exact fun j i hj => get_bm k h j i ((bind_spec hb).2.2.2.2 j i hj)
     · cases h
   · cases h
theorem getL_bm : ∀ (ks : List Kd) {vs : List SV} {g g' : Gt}, Kd.getL ks vs g = some g' → ∀ j i, lookN g.bm j = some i → lookN g'.bm j = some i
 | [], vs, g, g', h => by
   unfold Kd.getL at h; split at h
   · cases h; exact fun _ _ h => h
   · cases h
 | k :: ks, vs, g, g', h => by
   unfold Kd.getL at h; split at h
   · split at h
     · rename_i hg1; exact fun j i hj => getL_bm ks h j i (get_bm k hg1 j i hj)
     · cases h
   · cases h
end
mutual
theorem get_un {β : Nat → Option Nat} {bi : List Nat} (hbi : ∀ j i, β j = some i → ∃ i', bi[j]? = some i') : ∀ (k : Kd) {v : SV} {g g' : Gt}, Kd.get k v g = some g' → (∀ a ∈ g.H, HA.ok m K a) → (∀ i : Nat, some i ∈ g.rs → m[i]? ≠ none) → (∀ j i, lookN g'.bm j = some i → β j = some i) →
   (∃ ds1, GU m K β bi g g' ds1 (Kd.un bi k) v) ∧ ∀ j i, lookN g.bm j = some i → lookN g'.bm j = some i
 | .any, v, g, g', h, hok, hrs, hβ => by
   cases h
   exact ⟨⟨[], GU.still hrs (fun mu rs _ _ => ⟨.any, fun _ _ _ => rfl, fun _ _ => trivial⟩)⟩, fun _ _ h => h⟩
 | .dat t, v, g, g', h, hok, hrs, hβ => by
   unfold Kd.get at h
   generalize hv : v.st = v' at h
   refine GU.off hv ?_
   clear hv
   clear v
   split at h
   · rename_i x hx
     cases h
     refine ⟨⟨[⟨t, x⟩], rfl, fun a h => h, hrs, fun rest mu Hu rs hb hr => ⟨.of t x, [], [], [], by simp [Kd.un], fun u hu => of_rel t (by simpa using dtv_ok hx hu), by simp, by simpa using hr, fun E F w hs => by simpa using hs⟩⟩, fun _ _ h => h⟩
   · cases h
 | .nilp, v, g, g', h, hok, hrs, hβ => by
   unfold Kd.get at h
   generalize hv : v.st = v' at h
   refine GU.off hv ?_
   clear hv
   clear v
   split at h
   · cases h; exact ⟨⟨[], GU.still hrs (fun mu rs _ _ => ⟨.nilp, fun _ _ _ => rfl, fun _ h => h⟩)⟩, fun _ _ h => h⟩
   · cases h
 | .nils, v, g, g', h, hok, hrs, hβ => by
   unfold Kd.get at h
   generalize hv : v.st = v' at h
   refine GU.off hv ?_
   clear hv
   clear v
   split at h
   · cases h; exact ⟨⟨[], GU.still hrs (fun mu rs _ _ => ⟨.nils, fun _ _ _ => rfl, fun _ h => h⟩)⟩, fun _ _ h => h⟩
   · cases h
 | .nilf, v, g, g', h, hok, hrs, hβ => by
   unfold Kd.get at h
   generalize hv : v.st = v' at h
   refine GU.off hv ?_
   clear hv
   clear v
   split at h
   · cases h; exact ⟨⟨[], GU.still hrs (fun mu rs _ _ => ⟨.raw .nilFunc, fun _ _ _ => rfl, fun _ h => h⟩)⟩, fun _ _ h => h⟩
   · cases h
 | .ptr j o, v, g, g', h, hok, hrs, hβ => by
   unfold Kd.get at h
   generalize hv : v.st = v' at h
   refine GU.off hv ?_
   clear hv
   clear v
   split at h
   · rename_i i o'
     replace h := bift h; obtain ⟨ho, h⟩ := h
     have ho := Nat.eq_of_beq_eq_true ho
     subst ho
     refine ⟨⟨[], GU.bound h hβ hbi hrs (fun i' mu hi' hmu => ⟨.ptr i' o, fun u => by simp [Kd.un, hi'], fun u ⟨b, h1, h2⟩ => ⟨b, hmu _ h1, h2⟩⟩)⟩, (bind_spec h).2.2.2.2⟩
   · cases h
 | .own e t, v, g, g', h, hok, hrs, hβ => by
   unfold Kd.get at h
   generalize hv : v.st = v' at h
   refine GU.off hv ?_
   clear hv
   clear v
   split at h
   · rename_i i
     split at h
     · rename_i q H hq
       replace h := bift h; obtain ⟨he, h⟩ := h
       have he := Nat.eq_of_beq_eq_true he
       split at h
       · rename_i hsm _
         cases h
         obtain ⟨a, ha, hmem, hperm⟩ := pick_spec hq
         obtain rfl := rowR_eq ha
         obtain ⟨c0, e0, t0, l0, n0⟩ := q
         obtain ⟨hsm⟩ := hsm
         change e0 = e at he
         change t0 = t at hsm
         subst hsm he
         change HA.row i c0 e0 t0 l0 n0 ∈ g.H at hmem
         change g.H.Perm (HA.row i c0 e0 t0 l0 n0 :: H) at hperm
         obtain ⟨ad, cap, cs, g1, g2, g3, g4, g5, g6⟩ := HA.ok_row (hok _ hmem)
         obtain ⟨_, _, _, k1, _, _, _, k5, k6, _⟩ := hok _ hmem
         rw [g1] at k1
         simp only [Option.some.injEq, M.val.injEq, Value.slice.injEq] at k1
         obtain ⟨rfl, _, rfl⟩ := k1
         refine ⟨⟨[⟨.sl t0, l0⟩], rfl, fun a ha => hperm.symm.subset (List.mem_cons_of_mem _ ha), fun i' hi' => ?_, fun rest mu Hu rs hb hr => ?_⟩, fun _ _ h => h⟩
         · rcases List.mem_append.1 hi' with hi' | hi'
           · exact hrs i' hi'
           · simp at hi'; subst hi'; rw [g1]; simp
         · have q0 : (mu ++ [.val (.slice ad n0 cap), .cont t0 l0 cs])[mu.length]? = some (.val (.slice ad n0 cap)) := get_new0 rfl
           have q1 : (mu ++ [.val (.slice ad n0 cap), .cont t0 l0 cs])[mu.length + 1]? = some (.cont t0 l0 cs) := get_new (k := 1) rfl
           refine ⟨.own mu.length, [.val (.slice ad n0 cap), .cont t0 l0 cs], [.row mu.length (mu.length + 1) e0 t0 l0 l0.length], [mu.length], by simp [Kd.un], fun u hu => ?_, fun a ha => ?_, ?_, fun E F w hs => ?_⟩
           · have h1 := hu.1
             rw [g1] at h1
             exact ⟨by rw [q0]; exact h1, hu.2⟩
           · simp only [List.mem_singleton] at ha
             subst ha
             exact ⟨ad, cap, cs, by rw [g4]; exact q0, q1, g3, rfl, by rw [g4]; exact k5, k6, g5⟩
           · exact (hr.mono (fun i hi => hrs i hi)).snoc (fun i' hi' => by cases hi'; rw [q0, g1])
           · have := Sep.perm ((hperm.map (HA.conc m)).append_right F) hs
             simp only [List.map_cons, g6] at this
             simp only [List.map_cons, List.map_nil, HA.conc, q0, q1, g4]
             exact this
       · cases h
     · cases h
   · cases h
     refine ⟨⟨[⟨.sl t, ([] : List t.den)⟩], rfl, fun a ha => ha, fun i' hi' => ?_, fun rest mu Hu rs hb hr => ?_⟩, fun _ _ h => h⟩
     · rcases List.mem_append.1 hi' with hi' | hi'
       · exact hrs i' hi'
       · simp at hi'
     · have q0 : (mu ++ [.val (.slice none 0 0), .cont t ([] : List t.den) []])[mu.length]? = some (.val (.slice none 0 0)) := get_new0 rfl
       have q1 : (mu ++ [.val (.slice none 0 0), .cont t ([] : List t.den) []])[mu.length + 1]? = some (.cont t ([] : List t.den) []) := get_new (k := 1) rfl
       refine ⟨.own mu.length, [.val (.slice none 0 0), .cont t ([] : List t.den) []], [.row mu.length (mu.length + 1) e t ([] : List t.den) 0], [mu.length], by simp [Kd.un], fun u hu => ?_, fun a ha => ?_, ?_, fun E F w hs => ?_⟩
       · simp only [SV.rel] at hu; subst hu
         exact ⟨q0, rfl⟩
       · simp only [List.mem_singleton] at ha
         subst ha
         exact ⟨none, 0, [], q0, q1, rfl, rfl, Nat.le_refl _, Nat.zero_le _, fun h => absurd rfl h⟩
       · exact (hr.mono (fun i hi => hrs i hi)).snoc (fun i' hi' => by cases hi')
       · simp only [List.map_cons, List.map_nil, HA.conc, q0, q1]
         refine (Sep.emp hs).mono (fun h0 e0 => ?_)
         exact ⟨by simp, .inl ⟨rfl, rfl, e0⟩⟩
   · cases h
 | .al j, v, g, g', h, hok, hrs, hβ => by
   unfold Kd.get at h
   generalize hv : v.st = v' at h
   refine GU.off hv ?_
   clear hv
   clear v
   split at h
   · rename_i i i' hj
     replace h := bift h; obtain ⟨hb, h⟩ := h
     have hb := Nat.eq_of_beq_eq_true hb
     subst hb
     cases h
     refine ⟨⟨[], GU.still hrs (fun mu rs _ hr => ?_)⟩, fun _ _ h => h⟩
     have hlt : j < rs.length := by rw [← hr.1]; exact (List.getElem?_eq_some_iff.1 hj).1
     have hid : rs[j]? = some rs[j] := List.getElem?_eq_getElem hlt
     refine ⟨.own rs[j], fun _ _ _ => by simp [Kd.un, hid], fun u hu => ⟨?_, hu.2⟩⟩
     rw [hr.2 j i' rs[j] hj hid]; exact hu.1
   · cases h
 | .fsl j k, v, g, g', h, hok, hrs, hβ => by
   unfold Kd.get at h
   generalize hv : v.st = v' at h
   refine GU.off hv ?_
   clear hv
   clear v
   split at h
   · rename_i i o'
     replace h := bift h; obtain ⟨ho, h⟩ := h
     have ho := Nat.eq_of_beq_eq_true ho
     subst ho
     refine ⟨⟨[], GU.bound h hβ hbi hrs (fun i' mu hi' hmu => ⟨.fsl i' k, fun u => by simp [Kd.un, hi'], fun u ⟨b, h1, h2⟩ => ⟨b, hmu _ h1, h2⟩⟩)⟩, (bind_spec h).2.2.2.2⟩
   · cases h
 | .agg ks, v, g, g', h, hok, hrs, hβ => by
   unfold Kd.get at h
   split at h
   · rename_i vs
     obtain ⟨⟨ds1, q1, q2, q3, q4⟩, q5⟩ := getL_un hbi ks h hok hrs hβ
     refine ⟨⟨ds1, q1, q2, q3, fun rest mu Hu rs hb hr => ?_⟩, q5⟩
     obtain ⟨svs, ms, Hu2, rs2, w1, w2, w3⟩ := q4 rest mu Hu rs hb hr
     exact ⟨.agg svs, ms, Hu2, rs2, by simp [Kd.un, w1], fun u ⟨us, h1, h2⟩ => ⟨us, h1, w2 us h2⟩, w3⟩
   · cases h
 | .tup ks, v, g, g', h, hok, hrs, hβ => by
   unfold Kd.get at h
   split at h
   · rename_i vs
     obtain ⟨⟨ds1, q1, q2, q3, q4⟩, q5⟩ := getL_un hbi ks h hok hrs hβ
     refine ⟨⟨ds1, q1, q2, q3, fun rest mu Hu rs hb hr => ?_⟩, q5⟩
     obtain ⟨svs, ms, Hu2, rs2, w1, w2, w3⟩ := q4 rest mu Hu rs hb hr
     exact ⟨.tup svs, ms, Hu2, rs2, by simp [Kd.un, w1], fun u ⟨us, h1, h2⟩ => ⟨us, h1, w2 us h2⟩, w3⟩
   · cases h
 | .fn f ks, v, g, g', h, hok, hrs, hβ => by
   unfold Kd.get at h
   split at h
   · rename_i f' vs
     replace h := bift h; obtain ⟨hf, h⟩ := h
     have hf := Nat.eq_of_beq_eq_true hf
     subst hf
     obtain ⟨⟨ds1, q1, q2, q3, q4⟩, q5⟩ := getL_un hbi ks h hok hrs hβ
     refine ⟨⟨ds1, q1, q2, q3, fun rest mu Hu rs hb hr => ?_⟩, q5⟩
     obtain ⟨svs, ms, Hu2, rs2, w1, w2, w3⟩ := q4 rest mu Hu rs hb hr
     exact ⟨.fn f svs, ms, Hu2, rs2, by simp [Kd.un, w1], fun u ⟨us, h1, h2⟩ => ⟨us, h1, w2 us h2⟩, w3⟩
   · cases h
 | .kat t o, v, g, g', h, hok, hrs, hβ => by
   unfold Kd.get at h
   generalize hv : v.st = v' at h
   refine GU.off hv ?_
   clear hv
   clear v
   split at h
   · rename_i t' x o'
     replace h := bift h; obtain ⟨hf, h⟩ := h
     obtain rfl := Nat.eq_of_beq_eq_true hf
     split at h
     · rename_i q _
       obtain ⟨q⟩ := q
       subst q
       cases h
       refine ⟨⟨[⟨t', x⟩], rfl, fun a h => h, hrs, fun rest mu Hu rs hb hr => ⟨.kat t' x o, [], [], [], ?_, fun u hu => ?_, by simp, by simpa using hr, fun E F w hs => by simpa using hs⟩⟩, fun _ _ h => h⟩
       · rw [List.append_nil]
         show Kd.un bi (.kat t' o) ⟨⟨t', x⟩ :: rest, mu.length, Hu, rs⟩ = _
         unfold Kd.un
         dsimp only
         rw [as_self]; simp
       · rw [List.append_nil]; exact hu
     · cases h
   · cases h
 | .ifc t k, v, g, g', h, hok, hrs, hβ => by
   unfold Kd.get at h
   generalize hv : v.st = v' at h
   refine GU.off hv ?_
   clear hv
   clear v
   split at h
   · replace h := bift h; obtain ⟨hf, h⟩ := h
     obtain rfl := Nat.eq_of_beq_eq_true hf
     obtain ⟨⟨ds1, q1, q2, q3, q4⟩, q5⟩ := get_un hbi k h hok hrs hβ
     refine ⟨⟨ds1, q1, q2, q3, fun rest mu Hu rs hb hr => ?_⟩, q5⟩
     obtain ⟨sv, ms, Hu2, rs2, w1, w2, w3⟩ := q4 rest mu Hu rs hb hr
     exact ⟨.ifc t sv, ms, Hu2, rs2, by simp [Kd.un, w1], fun u ⟨w, h1, h2⟩ => ⟨w, h1, w2 w h2⟩, w3⟩
   · cases h
 | .lit w, v, g, g', h, hok, hrs, hβ => by
   unfold Kd.get at h
   replace h := bift h; obtain ⟨hs, h⟩ := h
   cases h
   exact ⟨⟨[], GU.still hrs (fun mu rs _ _ => ⟨w, fun _ _ _ => rfl, fun u hu => same_rel hs (st_rel _ hu)⟩)⟩, fun _ _ h => h⟩
 | .od o, v, g, g', h, hok, hrs, hβ => by
   unfold Kd.get at h
   generalize hv : v.st = v' at h
   refine GU.off hv ?_
   clear hv
   clear v
   replace h := bift h; obtain ⟨hnl, h⟩ := h
   split at h
   · rename_i x H hcol
     cases h
     obtain ⟨u0, e1, e2, e3, e4⟩ := col_det hnl hcol hok
     refine ⟨⟨[⟨o.tp, x⟩], rfl, e3, hrs, fun rest mu Hu rs hb hr => ?_⟩, fun _ _ h => h⟩
     have q0 : (mu ++ [.val u0, .hp K])[mu.length]? = some (.val u0) := get_new0 rfl
     have q1 : (mu ++ [.val u0, .hp K])[mu.length + 1]? = some (.hp K) := get_new (k := 1) rfl
     refine ⟨.own mu.length, [.val u0, .hp K], [.od mu.length (mu.length + 1) o x], [], by simp [Kd.un, hnl, as_self], fun u hu => ?_, fun a ha => ?_, ?_, fun E F w hs => ?_⟩
     · rw [e1 u hu]; exact ⟨q0, form_one e2⟩
     · simp only [List.mem_singleton] at ha
       subst ha
       exact ⟨u0, K, q0, q1, KOk.refl, e2⟩
     · rw [List.append_nil]; exact hr.mono (fun i hi => hrs i hi)
     · simp only [List.map_cons, List.map_nil, HA.conc, q0, q1]
       exact e4 hs
   · cases h
 | .rp j, v, g, g', h, hok, hrs, hβ => by
   unfold Kd.get at h
   generalize hv : v.st = v' at h
   refine GU.off hv ?_
   clear hv
   clear v
   split at h
   · rename_i i
     refine ⟨⟨[], GU.bound h hβ hbi hrs (fun i' mu hi' hmu => ⟨.own i', fun u => by simp [Kd.un, hi'], fun u ⟨h1, h2⟩ => ⟨hmu _ h1, h2⟩⟩)⟩, (bind_spec h).2.2.2.2⟩
   · cases h
 | .is j0 k, v, g, g', h, hok, hrs, hβ => by
   unfold Kd.get at h
   split at h
   · rename_i i0 w
     split at h
     · rename_i g1 hb1
       obtain ⟨b1, b2, b3, b4, b5⟩ := bind_spec hb1
       obtain ⟨⟨ds1, q1, q2, q3, q4⟩, q5⟩ := get_un hbi k h (by rw [b3]; exact hok) (by rw [b2]; exact hrs) hβ
       have hj := hβ j0 i0 (q5 _ _ b4)
       obtain ⟨i', hi'⟩ := hbi j0 i0 hj
       refine ⟨⟨ds1, by rw [q1, b1], fun a ha => by rw [← b3]; exact q2 a ha, q3, fun rest mu Hu rs hb hr => ?_⟩, fun j i hj' => q5 j i (b5 j i hj')⟩
       obtain ⟨sv, ms, Hu2, rs2, w1, w2, w3, w4, w5⟩ := q4 rest mu Hu rs hb (by rw [b2]; exact hr)
       refine ⟨.is i' sv, ms, Hu2, rs2, by unfold Kd.un; simp only [hi', w1], fun u hu => ⟨pre_get (pre_app mu ms) (hb j0 i0 i' hj hi' _ hu.1), w2 u hu.2⟩, w3, w4, by rw [b3] at w5; exact w5⟩
     · cases h
   · cases h
theorem getL_un {β : Nat → Option Nat} {bi : List Nat} (hbi : ∀ j i, β j = some i → ∃ i', bi[j]? = some i') : ∀ (ks : List Kd) {vs : List SV} {g g' : Gt}, Kd.getL ks vs g = some g' → (∀ a ∈ g.H, HA.ok m K a) → (∀ i : Nat, some i ∈ g.rs → m[i]? ≠ none) → (∀ j i, lookN g'.bm j = some i → β j = some i) →
   (∃ ds1, GUL m K β bi g g' ds1 (Kd.unL bi ks) vs) ∧ ∀ j i, lookN g.bm j = some i → lookN g'.bm j = some i
 | [], vs, g, g', h, hok, hrs, hβ => by
   unfold Kd.getL at h
   split at h
   · cases h
     exact ⟨⟨[], by simp, fun a h => h, hrs, fun rest mu Hu rs hb hr => ⟨[], [], [], [], by simp [Kd.unL], fun us h => h, by simp, by simpa using hr, fun E F w hs => by simpa using hs⟩⟩, fun _ _ h => h⟩
   · cases h
 | k :: ks, vs, g, g', h, hok, hrs, hβ => by
   unfold Kd.getL at h
   split at h
   · rename_i v vs
     split at h
     · rename_i g1 hg1
       have pre := getL_bm ks h
       obtain ⟨⟨d1, a1, a2, a3, a4⟩, a5⟩ := get_un hbi k hg1 hok hrs (fun j i hj => hβ j i (pre j i hj))
       obtain ⟨⟨d2, c1, c2, c3, c4⟩, c5⟩ := getL_un hbi ks h (fun a ha => hok a (a2 a ha)) a3 hβ
       refine ⟨⟨d1 ++ d2, by rw [c1, a1]; simp, fun a ha => a2 a (c2 a ha), c3, fun rest mu Hu rs hb hr => ?_⟩, fun j i hj => pre j i (a5 j i hj)⟩
       obtain ⟨sv, ms1, Hu1, rs1, w1, w2, w3, w4, w5⟩ := a4 (d2 ++ rest) mu Hu rs hb hr
       obtain ⟨svs, ms2, Hu2, rs2, x1, x2, x3, x4, x5⟩ := c4 rest (mu ++ ms1) (Hu1 ++ Hu) (rs ++ rs1) hb.mono w4
       have hp := pre_app (mu ++ ms1) ms2
       refine ⟨sv :: svs, ms1 ++ ms2, Hu2 ++ Hu1, rs1 ++ rs2, ?_, fun us hu => ?_, fun a ha => ?_, ?_, fun E F w hs => ?_⟩
       · unfold Kd.unL
         rw [List.append_assoc, w1]
         simp only [x1, List.append_assoc]
       · obtain ⟨u, q, rfl, h1, h2⟩ := relL_cons hu
         rw [← List.append_assoc]
         exact ⟨u, q, rfl, SV.mono (fun _ _ k => pre_get hp k) (Hp.le_refl K) _ (w2 u h1), x2 q h2⟩
       · rw [← List.append_assoc]
         rcases List.mem_append.1 ha with ha | ha
         · exact x3 a ha
         · exact HA.ok_mono (fun _ _ k => pre_get hp k) (Hp.le_refl K) (w3 a ha)
       · rw [← List.append_assoc, ← List.append_assoc]
         exact x4
       · have s1 := w5 E F w hs
         have s2 : Sep E K (g1.H.map (HA.conc m) ++ (Hu1.map (HA.conc (mu ++ ms1)) ++ F)) w := Sep.perm (by
           rw [← List.append_assoc, ← List.append_assoc]
           exact (List.perm_append_comm).append_right F) s1
         have s3 := x5 E _ w s2
         rw [← List.append_assoc mu ms1 ms2, List.map_append, map_conc_mono (K := K) (fun _ _ k => pre_get hp k) w3]
         refine Sep.perm ?_ s3
         simp only [List.append_assoc]
         refine List.Perm.append_left _ ?_
         rw [← List.append_assoc, ← List.append_assoc]
         exact (List.perm_append_comm).append_right F
     · cases h
   · cases h
end
end
end
section
variable [BldA]
section
variable {m : List M} {K : Hp}
def slC (m : List M) (K : Hp) (f : Nat → SV) (mu : List M) : List (Nat × Kd) → List (Nat × SV) → Prop
 | [], vs => vs = []
 | p :: sl, vs => ∃ sv r, vs = (p.1, sv) :: r ∧ (∀ u, SV.rel m K (f p.1) u → SV.rel mu K sv u) ∧ slC m K f mu sl r
theorem slC.mono {f : Nat → SV} {mu ms : List M} : ∀ {sl : List (Nat × Kd)} {vs : List (Nat × SV)}, slC m K f mu sl vs → slC m K f (mu ++ ms) sl vs
 | [], vs, h => h
 | p :: sl, vs, ⟨sv, r, h1, h2, h3⟩ => ⟨sv, r, h1, fun u hu => SV.mono (fun _ _ k => pre_get (pre_app mu ms) k) (Hp.le_refl K) _ (h2 u hu), h3.mono⟩
theorem getS_bm {f : Nat → SV} : ∀ (sl : List (Nat × Kd)) {g g' : Gt}, getS f sl g = some g' → ∀ j i, lookN g.bm j = some i → lookN g'.bm j = some i
 | [], g, g', h => by cases h; exact fun _ _ h => h
 | p :: sl, g, g', h => by
   unfold getS at h; split at h
   · rename_i g1 hg1; exact fun j i hj => getS_bm sl h j i (get_bm p.2 hg1 j i hj)
   · cases h
structure GW (m : List M) (K : Hp) (β : Nat → Option Nat) (bi : List Nat) (g g' : Gt) (ds1 : List Dat) {α : Type} (un : Un → Option (α × Un)) (Q : List M → α → Prop) : Prop where
 ds : g'.ds = g.ds ++ ds1
 sub : ∀ a ∈ g'.H, a ∈ g.H
 rsm : ∀ i : Nat, some i ∈ g'.rs → m[i]? ≠ none
 go : ∀ (rest : List Dat) (mu : List M) (Hu : List HA) (rs : List Nat), BiR m mu β bi → RsR m mu g.rs rs →
   ∃ x ms Hu2 rs2, un ⟨ds1 ++ rest, mu.length, Hu, rs⟩ = some (x, ⟨rest, (mu ++ ms).length, Hu2 ++ Hu, rs ++ rs2⟩) ∧ Q (mu ++ ms) x ∧
     (∀ a ∈ Hu2, HA.ok (mu ++ ms) K a) ∧ RsR m (mu ++ ms) g'.rs (rs ++ rs2) ∧ ∀ E F w, Sep E K (g.H.map (HA.conc m) ++ F) w → Sep E K (Hu2.map (HA.conc (mu ++ ms)) ++ (g'.H.map (HA.conc m) ++ F)) w
theorem sep_two {E : En} {F : List Atom} {w : World} {A B C D C' : List Atom} (h : ∀ F, Sep E K (A ++ F) w → Sep E K (B ++ (C ++ F)) w) (k : ∀ F, Sep E K (C ++ F) w → Sep E K (D ++ (C' ++ F)) w) (hs : Sep E K (A ++ F) w) : Sep E K (D ++ (C' ++ (B ++ F))) w := by
 have s1 := h F hs
 have s2 : Sep E K (C ++ (B ++ F)) w := Sep.perm (by
   rw [← List.append_assoc, ← List.append_assoc]
   exact (List.perm_append_comm).append_right F) s1
 exact k _ s2
theorem GW.two {β : Nat → Option Nat} {bi : List Nat} {g g1 g' : Gt} {d1 d2 : List Dat} {α α' : Type} {un1 : Un → Option (α × Un)} {un2 : Un → Option (α' × Un)} {Q1 : List M → α → Prop} {Q2 : List M → α' → Prop}
   (h1 : GW m K β bi g g1 d1 un1 Q1) (h2 : GW m K β bi g1 g' d2 un2 Q2) {γ : Type} (un : Un → Option (γ × Un)) (f : α → α' → γ) {Q : List M → γ → Prop}
   (hun : ∀ u x u1 y u2, un1 u = some (x, u1) → un2 u1 = some (y, u2) → un u = some (f x y, u2)) (hQ : ∀ mu ms x y, Q1 mu x → Q2 (mu ++ ms) y → Q (mu ++ ms) (f x y)) : GW m K β bi g g' (d1 ++ d2) un Q where
 ds := by rw [h2.ds, h1.ds]; simp
 sub := fun a ha => h1.sub a (h2.sub a ha)
 rsm := h2.rsm
 go := fun rest mu Hu rs hb hr => by
   obtain ⟨x, ms1, Hu1, rs1, w1, w2, w3, w4, w5⟩ := h1.go (d2 ++ rest) mu Hu rs hb hr
   obtain ⟨y, ms2, Hu2, rs2, x1, x2, x3, x4, x5⟩ := h2.go rest (mu ++ ms1) (Hu1 ++ Hu) (rs ++ rs1) hb.mono w4
   have hp := pre_app (mu ++ ms1) ms2
   refine ⟨f x y, ms1 ++ ms2, Hu2 ++ Hu1, rs1 ++ rs2, ?_, ?_, fun a ha => ?_, ?_, fun E F w hs => ?_⟩
   · rw [List.append_assoc, hun _ _ _ _ _ w1 x1]; simp
   · rw [← List.append_assoc]; exact hQ _ _ _ _ w2 x2
   · rw [← List.append_assoc]
     rcases List.mem_append.1 ha with ha | ha
     · exact x3 a ha
     · exact HA.ok_mono (fun _ _ k => pre_get hp k) (Hp.le_refl K) (w3 a ha)
   · rw [← List.append_assoc, ← List.append_assoc]; exact x4
   · have := sep_two (fun F => w5 E F w) (fun F => x5 E F w) hs
     rw [← List.append_assoc mu ms1 ms2, List.map_append, map_conc_mono (K := K) (fun _ _ k => pre_get hp k) w3]
     refine Sep.perm ?_ this
     simp only [List.append_assoc]
     refine List.Perm.append_left _ ?_
     rw [← List.append_assoc, ← List.append_assoc]
     exact (List.perm_append_comm).append_right F
theorem GU.gw {β : Nat → Option Nat} {bi : List Nat} {g g' : Gt} {d1 : List Dat} {un : Un → Option (SV × Un)} {v : SV} (h : GU m K β bi g g' d1 un v) : GW m K β bi g g' d1 un (fun mu sv => ∀ u, SV.rel m K v u → SV.rel mu K sv u) := ⟨h.ds, h.sub, h.rsm, h.go⟩
theorem GUL.gw {β : Nat → Option Nat} {bi : List Nat} {g g' : Gt} {d1 : List Dat} {un : Un → Option (List SV × Un)} {vs : List SV} (h : GUL m K β bi g g' d1 un vs) : GW m K β bi g g' d1 un (fun mu svs => ∀ us, SV.relL m K vs us → SV.relL mu K svs us) := ⟨h.ds, h.sub, h.rsm, h.go⟩
theorem GW.nil {β : Nat → Option Nat} {bi : List Nat} {g : Gt} {α : Type} {un : Un → Option (α × Un)} {Q : List M → α → Prop} {x : α} (hrs : ∀ i : Nat, some i ∈ g.rs → m[i]? ≠ none) (hun : ∀ u, un u = some (x, u)) (hQ : ∀ mu, Q mu x) : GW m K β bi g g [] un Q where
 ds := by simp
 sub := fun a h => h
 rsm := hrs
 go := fun rest mu Hu rs hb hr => ⟨x, [], [], [], by simp [hun], hQ _, by simp, by simpa using hr, fun E F w hs => by simpa using hs⟩
theorem getS_un {f : Nat → SV} {β : Nat → Option Nat} {bi : List Nat} (hbi : ∀ j i, β j = some i → ∃ i', bi[j]? = some i') : ∀ (sl : List (Nat × Kd)) {g g' : Gt}, getS f sl g = some g' → (∀ a ∈ g.H, HA.ok m K a) → (∀ i : Nat, some i ∈ g.rs → m[i]? ≠ none) → (∀ j i, lookN g'.bm j = some i → β j = some i) →
   ∃ ds1, GW m K β bi g g' ds1 (unS bi sl) (fun mu vs => slC m K f mu sl vs)
 | [], g, g', h, hok, hrs, hβ => by cases h; exact ⟨[], GW.nil hrs (fun u => rfl) (fun mu => rfl)⟩
 | p :: sl, g, g', h, hok, hrs, hβ => by
   unfold getS at h
   split at h
   · rename_i g1 hg1
     obtain ⟨⟨d1, h1⟩, _⟩ := get_un hbi p.2 hg1 hok hrs (fun j i hj => hβ j i (getS_bm sl h j i hj))
     obtain ⟨d2, h2⟩ := getS_un hbi sl h (fun a ha => hok a (h1.sub a ha)) h1.rsm hβ
     refine ⟨d1 ++ d2, h1.gw.two h2 (unS bi (p :: sl)) (fun x y => (p.1, x) :: y) (fun u x u1 y u2 e1 e2 => by unfold unS; rw [e1]; simp only [e2]) (fun mu ms x y q1 q2 => ?_)⟩
     exact ⟨x, y, rfl, fun u hu => SV.mono (fun _ _ k => pre_get (pre_app mu ms) k) (Hp.le_refl K) _ (q1 u hu), q2⟩
   · cases h
theorem getB1_spec {j : Nat} {b : Bk} {g g' : Gt} (h : getB1 j b g = some g') : (∀ j' i, lookN g.bm j' = some i → lookN g'.bm j' = some i) ∧ (∀ i, b.old = some i → lookN g'.bm j = some i) ∧ (∃ i, lookN g'.bm j = some i) := by
 unfold getB1 at h
 split at h
 · rename_i g1 h1
   have hb : (∀ j' i, lookN g.bm j' = some i → lookN g1.bm j' = some i) ∧ (∀ i, b.old = some i → lookN g1.bm j = some i) := by
     split at h1
     · rename_i i0 ho
       obtain ⟨_, _, _, q1, q2⟩ := bind_spec h1
       exact ⟨q2, fun i hi => by rw [ho] at hi; cases hi; exact q1⟩
     · rename_i ho
       cases h1
       exact ⟨fun _ _ h => h, fun i hi => by rw [ho] at hi; cases hi⟩
   split at h
   · rename_i i0 hi
     have key : ∀ j' i, lookN g1.bm j' = some i → lookN g'.bm j' = some i := by
       cases hnu : b.nu with
       | true =>
         rw [hnu] at h
         simp only [cond_true] at h
         cases h; exact fun _ _ h => h
       | false =>
       rw [hnu] at h
       simp only [cond_false] at h
       cases hlp : b.lp with
       | true =>
         rw [hlp] at h
         simp only [cond_true] at h
         split at h
         · cases h; exact fun _ _ h => h
         · cases h
       | false =>
       rw [hlp] at h
       simp only [cond_false] at h
       cases hrw : b.rw with
       | some o =>
         rw [hrw] at h
         simp only at h
         cases hbu : b.bu with
         | true =>
           rw [hbu] at h
           simp only [cond_true] at h
           split at h
           · replace h := (bift h).2
             split at h
             · exact fun j' i hj => getL_bm b.ks h j' i hj
             · cases h
           · cases h
         | false =>
         rw [hbu] at h
         simp only [cond_false] at h
         split at h
         · cases h; exact fun _ _ h => h
         · cases h
       | none =>
       rw [hrw] at h
       simp only at h
       cases hbu : b.bu with
       | true =>
         rw [hbu] at h
         simp only [cond_true] at h
         split at h
         · cases h; exact fun _ _ h => h
         · cases h
       | false =>
         rw [hbu] at h
         simp only [cond_false] at h
         split at h
         · exact fun j' i hj => getL_bm b.ks (bift h).2 j' i hj
         · cases h
     exact ⟨fun j' i h => key j' i (hb.1 j' i h), fun i h => key j i (hb.2 i h), i0, key j i0 hi⟩
   · cases h
 · cases h
theorem at1_ok {i : Nat} {o : OT} {x : o.tp.den} {H H' : List HA} (hp : pickX i o H = some (x, H')) (hok : ∀ a ∈ H, HA.ok m K a) : ∃ (y : M), (∀ a ∈ H', a ∈ H) ∧
   (∀ (mu : List M) (id : Nat), (∀ z, m[i]? = some z → mu[id]? = some z) → HA.ok (mu ++ [y]) K (OT.at1 id mu.length o x)) ∧
   (∀ (mu : List M) (id : Nat), (∀ z, m[i]? = some z → mu[id]? = some z) → ∀ {E : En} {w : World} {F : List Atom}, Sep E K (H.map (HA.conc m) ++ F) w → Sep E K ([OT.at1 id mu.length o x].map (HA.conc (mu ++ [y])) ++ (H'.map (HA.conc m) ++ F)) w) ∧ True := by
 have main : ∀ {o : OT} {x : o.tp.den}, (∀ id c, OT.at1 id c o x = .od id c o x) → pick (HA.odX i o) H = some (x, H') → ∃ (y : M), (∀ a ∈ H', a ∈ H) ∧
     (∀ (mu : List M) (id : Nat), (∀ z, m[i]? = some z → mu[id]? = some z) → HA.ok (mu ++ [y]) K (OT.at1 id mu.length o x)) ∧
     (∀ (mu : List M) (id : Nat), (∀ z, m[i]? = some z → mu[id]? = some z) → ∀ {E : En} {w : World} {F : List Atom}, Sep E K (H.map (HA.conc m) ++ F) w → Sep E K ([OT.at1 id mu.length o x].map (HA.conc (mu ++ [y])) ++ (H'.map (HA.conc m) ++ F)) w) ∧ True := by
   intro o x hat hp
   obtain ⟨a, ha, hmem, hsub, hs⟩ := pick_sep (α := Nat) (K := K) (m := m) hp
   obtain ⟨c, rfl⟩ := odX_eq ha
   obtain ⟨v, h1, h2, h3⟩ := od_own (hok _ hmem)
   refine ⟨.hp K, hsub, fun mu id hin => ?_, fun mu id hin {E w F} k => ?_, trivial⟩
   · rw [hat]
     exact ⟨v, K, pre_get (pre_app _ _) (hin _ h1), get_new0 rfl, KOk.refl, h2⟩
   · rw [hat]
     have g0 : (mu ++ [M.hp K])[id]? = some (.val v) := pre_get (pre_app _ _) (hin _ h1)
     have g1 : (mu ++ [M.hp K])[mu.length]? = some (.hp K) := get_new0 rfl
     simp only [List.map_cons, List.map_nil, HA.conc, g0, g1]
     exact h3 (hs k)
 unfold pickX at hp
 split at hp
 · rename_i e a
   split at hp
   · rename_i t
     obtain ⟨a, ha, hmem, hsub, hs⟩ := pick_sep (α := Nat) (K := K) (m := m) hp
     obtain ⟨c, k, rfl⟩ := rowX_eq ha
     obtain ⟨ad, cap, cs, h1, h2, h3, h4, h5, h6, h7⟩ := hok _ hmem
     subst h4
     refine ⟨.cont t x cs, hsub, fun mu id hin => ?_, fun mu id hin {E w F} k => ?_, trivial⟩
     · exact ⟨ad, cap, cs, pre_get (pre_app _ _) (hin _ h1), get_new0 rfl, h3, rfl, h5, h6, h7⟩
     · have g0 := pre_get (pre_app mu [M.cont t x cs]) (hin _ h1)
       have g1 : (mu ++ [M.cont t x cs])[mu.length]? = some (.cont t x cs) := get_new0 rfl
       have := hs k
       simp only [HA.conc, h1, h2] at this
       simp only [List.map_cons, List.map_nil, OT.at1, HA.conc, g0, g1]
       exact this
   · rename_i hn
     exact main (fun id c => by cases a <;> first | rfl | exact absurd rfl (hn _)) hp
 · rename_i hn
   exact main (fun id c => by cases o <;> first | rfl | exact absurd rfl (hn _ _)) hp
theorem getB1_un {β : Nat → Option Nat} {bi : List Nat} (hbi : ∀ j i, β j = some i → ∃ i', bi[j]? = some i') {j : Nat} {b : Bk} {g g' : Gt} {id : Nat} (h : getB1 j b g = some g') (hok : ∀ a ∈ g.H, HA.ok m K a) (hrs : ∀ i : Nat, some i ∈ g.rs → m[i]? ≠ none) (hβ : ∀ j i, lookN g'.bm j = some i → β j = some i) (hid : bi[j]? = some id) :
   ∃ ds1, GW m K β bi g g' ds1 (unB1 bi b id) (fun _ _ => True) := by
 unfold getB1 at h
 split at h
 · rename_i g1 h1
   have e : g1.ds = g.ds ∧ g1.rs = g.rs ∧ g1.H = g.H := by
     split at h1
     · obtain ⟨q1, q2, q3, _⟩ := bind_spec h1; exact ⟨q1, q2, q3⟩
     · cases h1; exact ⟨rfl, rfl, rfl⟩
   split at h
   · rename_i i0 hi
     cases hnu : b.nu with
     | true =>
       rw [hnu] at h
       simp only [cond_true] at h
       cases h
       exact ⟨[], by simp [e.1], fun a ha => by rw [← e.2.2]; exact ha, fun i hi => hrs i (by rw [← e.2.1]; exact hi), fun rest mu Hu rs hb hr => ⟨(), [], [], [], by simp [unB1, hnu], trivial, by simp, by rw [e.2.1]; simpa using hr, fun E F w hs => by rw [e.2.2]; simpa using hs⟩⟩
     | false =>
     rw [hnu] at h
     simp only [cond_false] at h
     cases hlp : b.lp with
     | true =>
       rw [hlp] at h
       simp only [cond_true] at h
       split at h
       · rename_i H hq
         cases h
         obtain ⟨a, ha, hmem, hperm⟩ := pick_spec hq
         obtain rfl := lpR_eq ha
         rw [e.2.2] at hmem hperm
         obtain ⟨l0, r0, hbb⟩ := hok _ hmem
         refine ⟨[], by simp [e.1], fun a ha => hperm.symm.subset (List.mem_cons_of_mem _ ha), fun i hi => hrs i (by rw [← e.2.1]; exact hi), fun rest mu Hu rs hb hr => ?_⟩
         have q2 := hb j i0 id (hβ j i0 hi) hid _ hbb
         refine ⟨(), [], [.lp id .ready], [], by simp [unB1, hnu, hlp], trivial, fun a ha => ?_, by rw [List.append_nil, List.append_nil, e.2.1]; exact hr, fun E F w hs => ?_⟩
         · simp only [List.mem_singleton] at ha; subst ha
           exact ⟨l0, r0, by rw [List.append_nil]; exact q2⟩
         · have := Sep.perm ((hperm.map (HA.conc m)).append_right F) hs
           simp only [List.map_cons, HA.conc, hbb, List.map_nil, List.append_nil, q2] at this ⊢
           exact this
       · cases h
     | false =>
     rw [hlp] at h
     simp only [cond_false] at h
     cases hrw : b.rw with
     | some o =>
       rw [hrw] at h
       simp only at h
       cases hbu : b.bu with
       | true =>
         rw [hbu] at h
         simp only [cond_true] at h
         split at h
         · rename_i q H hq
           replace h := bift h; obtain ⟨he, h⟩ := h
           have he := Nat.eq_of_beq_eq_true he
           obtain ⟨a, ha, hmem, hperm⟩ := pick_spec hq
           obtain rfl := holR_eq ha
           obtain ⟨qc, qe, qo, ql, qj, qcs⟩ := q
           dsimp only at *
           split at h
           · rename_i ho _
             obtain ⟨ho⟩ := ho
             subst ho
             rw [e.2.2] at hmem hperm
             obtain ⟨ad, cap, K0, es, o1, o2, o3, o4, o5, o6, o7, o8⟩ := hok _ hmem
             have hsub : ∀ a ∈ H, a ∈ g.H := fun a ha => hperm.symm.subset (List.mem_cons_of_mem _ ha)
             obtain ⟨⟨d1, g1u⟩, _⟩ := getL_un hbi b.ks h (fun a ha => hok a (hsub a ha)) (fun i hi => hrs i (by rw [← e.2.1]; exact hi)) hβ
             have hbm := getL_bm b.ks h
             refine ⟨⟨.sl qo.tp, ql⟩ :: ⟨.int .i64, qj⟩ :: d1, by rw [g1u.ds]; simp [e.1, cstH], fun a ha => hsub a (g1u.sub a ha), g1u.rsm, fun rest mu Hu rs hb hr => ?_⟩
             obtain ⟨svs, ms, Hu2, rs2, w1, w2, w3, w4, w5⟩ := g1u.go rest mu Hu rs hb (by rw [show (⟨g1.ds ++ [⟨.sl qo.tp, cstH ⟨rfl⟩ ql⟩, ⟨.int .i64, qj⟩], g1.bm, g1.rs, H⟩ : Gt).rs = g.rs from e.2.1]; exact hr)
             have q2 := hb j i0 id (hβ j i0 (hbm j i0 hi)) hid _ o1
             have hp := pre_app (mu ++ ms) [.hol K0 es]
             have hm2 : (mu ++ (ms ++ [M.hol K0 es]))[id]? = some (.val (.slice ad ql.length cap)) := pre_get (pre_app mu _) q2
             have hc : (mu ++ (ms ++ [M.hol K0 es]))[(mu ++ ms).length]? = some (.hol K0 es) := by rw [← List.append_assoc]; exact get_new0 rfl
             refine ⟨(), ms ++ [.hol K0 es], .hole id (mu ++ ms).length b.e qo ql qj svs :: Hu2, rs2, ?_, trivial, fun a ha => ?_, ?_, fun E F w hs => ?_⟩
             · unfold unB1
               rw [hnu, hlp, hrw]
               simp only [cond_false, hbu, cond_true, List.cons_append, as_self, w1]
               simp [Nat.add_assoc]
             · rcases List.mem_cons.1 ha with rfl | ha
               · refine ⟨ad, cap, K0, es, hm2, hc, o3, ?_, o5, o6, o7, o8⟩
                 rw [← List.append_assoc]
                 exact SV.monoL (fun _ _ k => pre_get hp k) (Hp.le_refl K) _ (w2 es o4)
               · rw [← List.append_assoc]
                 exact HA.ok_mono (fun _ _ k => pre_get hp k) (Hp.le_refl K) (w3 a ha)
             · rw [← List.append_assoc]
               exact w4.mono g1u.rsm
             · have s1 := Sep.perm ((hperm.map (HA.conc m)).append_right F) hs
               simp only [List.map_cons, HA.conc, o1, o2, he] at s1
               have s2 : Sep E K (H.map (HA.conc m) ++ (HoleA K0 b.e qo (.slice ad ql.length cap) ql qj.toNat es :: F)) w := Sep.perm (by
                 rw [List.cons_append]
                 exact (List.perm_middle).symm) s1
               have s3 := w5 E _ w s2
               have s4 : Sep E K (HoleA K0 b.e qo (.slice ad ql.length cap) ql qj.toNat es :: (Hu2.map (HA.conc (mu ++ ms)) ++ (g'.H.map (HA.conc m) ++ F))) w := Sep.perm (by
                 rw [← List.append_assoc]
                 refine List.perm_middle.trans ?_
                 rw [List.append_assoc]) s3
               rw [List.map_cons]
               simp only [HA.conc, hm2, hc]
               rw [← List.append_assoc mu ms, show Hu2.map (HA.conc (mu ++ ms ++ [M.hol K0 es])) = Hu2.map (HA.conc (mu ++ ms)) from map_conc_mono (K := K) (fun _ _ k => pre_get hp k) w3]
               exact s4
           · cases h
         · cases h
       | false =>
       rw [hbu] at h
       simp only [cond_false] at h
       split at h
       · rename_i x H hx
         cases h
         rw [e.2.2] at hx
         obtain ⟨ms1, q1, q2, q3, _⟩ := at1_ok hx hok
         refine ⟨[⟨o.tp, x⟩], by simp [e.1], q1, fun i hi => hrs i (by rw [← e.2.1]; exact hi), fun rest mu Hu rs hb hr => ?_⟩
         have hin : ∀ y, m[i0]? = some y → mu[id]? = some y := hb j i0 id (hβ j i0 hi) hid
         refine ⟨(), [ms1], [OT.at1 id mu.length o x], [], by simp [unB1, hnu, hlp, hrw, hbu, as_self], trivial, fun a ha => ?_, by rw [List.append_nil]; exact e.2.1 ▸ (hr.mono (fun i hi => hrs i hi)), fun E F w hs => ?_⟩
         · simp only [List.mem_singleton] at ha; subst ha
           exact q2 mu id hin
         · have := q3 mu id hin hs
           exact this
       · cases h
     | none =>
     rw [hrw] at h
     simp only at h
     cases hbu : b.bu with
     | true =>
       rw [hbu] at h
       simp only [cond_true] at h
       split at h
       · rename_i s H hq
         cases h
         obtain ⟨a, ha, hmem, hperm⟩ := pick_spec hq
         obtain rfl := bldR_eq ha
         rw [e.2.2] at hmem hperm
         obtain ⟨bb, hbb⟩ := hok _ hmem
         refine ⟨[⟨.str, s⟩], by simp [e.1], fun a ha => hperm.symm.subset (List.mem_cons_of_mem _ ha), fun i hi => hrs i (by rw [← e.2.1]; exact hi), fun rest mu Hu rs hb hr => ?_⟩
         have q2 := hb j i0 id (hβ j i0 hi) hid _ hbb
         refine ⟨(), [], [.bld id s], [], by simp [unB1, hnu, hlp, hrw, hbu], trivial, fun a ha => ?_, by rw [List.append_nil, List.append_nil, e.2.1]; exact hr, fun E F w hs => ?_⟩
         · simp only [List.mem_singleton] at ha; subst ha
           exact ⟨bb, by rw [List.append_nil]; exact q2⟩
         · have := Sep.perm ((hperm.map (HA.conc m)).append_right F) hs
           simp only [List.map_cons, HA.conc, hbb, List.map_nil, List.append_nil, q2] at this ⊢
           exact this
       · cases h
     | false =>
       rw [hbu] at h
       simp only [cond_false] at h
       split at h
       · rename_i q H hq
         replace h := bift h; obtain ⟨he, h⟩ := h
         have he := Nat.eq_of_beq_eq_true he
         obtain ⟨a, ha, hmem, hperm⟩ := pick_spec hq
         obtain rfl := blkR_eq ha
         rw [e.2.2] at hmem hperm
         obtain ⟨bb, us, o1, o2, o3, o4⟩ := HA.ok_blk (hok _ hmem)
         have hsub : ∀ a ∈ H, a ∈ g.H := fun a ha => hperm.symm.subset (List.mem_cons_of_mem _ ha)
         obtain ⟨⟨d1, g1u⟩, _⟩ := getL_un hbi b.ks h (fun a ha => hok a (hsub a ha)) (fun i hi => hrs i (by rw [← e.2.1]; exact hi)) hβ
         have hbm := getL_bm b.ks h
         refine ⟨d1, by rw [g1u.ds]; simp [e.1], fun a ha => hsub a (g1u.sub a ha), g1u.rsm, fun rest mu Hu rs hb hr => ?_⟩
         obtain ⟨svs, ms, Hu2, rs2, w1, w2, w3, w4, w5⟩ := g1u.go rest mu Hu rs hb (by rw [show (⟨g1.ds, g1.bm, g1.rs, H⟩ : Gt).rs = g.rs from e.2.1]; exact hr)
         have q2 := hb j i0 id (hβ j i0 (hbm j i0 hi)) hid _ o1
         have hp := pre_app (mu ++ ms) [.cells us]
         have hm2 : (mu ++ (ms ++ [M.cells us]))[id]? = some (.val (.pointer (some ⟨bb, 0, none⟩))) := pre_get (pre_app mu _) q2
         have hc : (mu ++ (ms ++ [M.cells us]))[(mu ++ ms).length]? = some (.cells us) := by rw [← List.append_assoc]; exact get_new0 rfl
         refine ⟨(), ms ++ [.cells us], .blk id (mu ++ ms).length b.e svs :: Hu2, rs2, ?_, trivial, fun a ha => ?_, ?_, fun E F w hs => ?_⟩
         · unfold unB1
           rw [hnu, hlp, hrw, hbu]
           simp only [cond_false, w1]
           simp [Nat.add_assoc]
         · rcases List.mem_cons.1 ha with rfl | ha
           · refine ⟨bb, us, hm2, hc, ?_⟩
             rw [← List.append_assoc]
             exact SV.monoL (fun _ _ k => pre_get hp k) (Hp.le_refl K) _ (w2 us o3)
           · rw [← List.append_assoc]
             exact HA.ok_mono (fun _ _ k => pre_get hp k) (Hp.le_refl K) (w3 a ha)
         · rw [← List.append_assoc]
           exact w4.mono g1u.rsm
         · have s1 := Sep.perm ((hperm.map (HA.conc m)).append_right F) hs
           rw [List.map_cons, o4, he] at s1
           have s2 : Sep E K (H.map (HA.conc m) ++ (Cl bb b.e us :: F)) w := Sep.perm (by
             rw [List.cons_append]
             exact (List.perm_middle).symm) s1
           have s3 := w5 E _ w s2
           have s4 : Sep E K (Cl bb b.e us :: (Hu2.map (HA.conc (mu ++ ms)) ++ (g'.H.map (HA.conc m) ++ F))) w := Sep.perm (by
             rw [← List.append_assoc]
             refine List.perm_middle.trans ?_
             rw [List.append_assoc]) s3
           rw [List.map_cons]
           simp only [HA.conc, hm2, hc]
           rw [← List.append_assoc mu ms, show Hu2.map (HA.conc (mu ++ ms ++ [M.cells us])) = Hu2.map (HA.conc (mu ++ ms)) from map_conc_mono (K := K) (fun _ _ k => pre_get hp k) w3]
           exact s4
       · cases h
   · cases h
 · cases h
end
end
section
variable [BldA]
section
variable {m : List M} {K : Hp}
theorem getB_bm : ∀ (bl : List Bk) {j : Nat} {g g' : Gt}, getB j bl g = some g' → (∀ j' i, lookN g.bm j' = some i → lookN g'.bm j' = some i) ∧ ∀ k b, bl[k]? = some b → (∃ i, lookN g'.bm (j + k) = some i) ∧ ∀ i, b.old = some i → lookN g'.bm (j + k) = some i
 | [], j, g, g', h => by cases h; exact ⟨fun _ _ h => h, fun k b hb => by simp at hb⟩
 | b :: bl, j, g, g', h => by
   unfold getB at h
   split at h
   · rename_i g1 h1
     obtain ⟨q1, q2, i0, q3⟩ := getB1_spec h1
     obtain ⟨r1, r2⟩ := getB_bm bl h
     refine ⟨fun j' i hj => r1 j' i (q1 j' i hj), fun k b' hb => ?_⟩
     cases k with
     | zero =>
       simp at hb; subst hb
       exact ⟨⟨i0, r1 _ _ q3⟩, fun i hi => r1 _ _ (q2 i hi)⟩
     | succ k =>
       have := r2 k b' (by simpa using hb)
       rwa [Nat.add_assoc, Nat.add_comm 1 k] at this
   · cases h
def unBu (bi : List Nat) (bl : List Bk) (is : List Nat) (u : Un) : Option (Unit × Un) := match unB bi bl is u with | some u => some ((), u) | none => none
theorem getB_un {β : Nat → Option Nat} {bi : List Nat} (hbi : ∀ j i, β j = some i → ∃ i', bi[j]? = some i') : ∀ (bl : List Bk) {j : Nat} {g g' : Gt} {is : List Nat}, getB j bl g = some g' → (∀ a ∈ g.H, HA.ok m K a) → (∀ i : Nat, some i ∈ g.rs → m[i]? ≠ none) → (∀ j i, lookN g'.bm j = some i → β j = some i) →
   is.length = bl.length → (∀ k id, is[k]? = some id → bi[j + k]? = some id) → ∃ ds1, GW m K β bi g g' ds1 (unBu bi bl is) (fun _ _ => True)
 | [], j, g, g', is, h, hok, hrs, hβ, hl, his => by
   cases h
   obtain rfl : is = [] := List.length_eq_zero_iff.1 hl
   exact ⟨[], GW.nil hrs (fun u => rfl) (fun _ => trivial)⟩
 | b :: bl, j, g, g', is, h, hok, hrs, hβ, hl, his => by
   cases is with
   | nil => cases hl
   | cons id is =>
     unfold getB at h
     split at h
     · rename_i g1 h1
       obtain ⟨r1, _⟩ := getB_bm bl h
       obtain ⟨d1, q1⟩ := getB1_un (id := id) hbi h1 hok hrs (fun j i hj => hβ j i (r1 j i hj)) (by simpa using his 0 id rfl)
       obtain ⟨d2, q2⟩ := getB_un (is := is) hbi bl h (fun a ha => hok a (q1.sub a ha)) q1.rsm hβ (by simpa using hl) (fun k id' hk => by
         have := his (k + 1) id' (by simpa using hk)
         rwa [Nat.add_assoc, Nat.add_comm 1 k])
       refine ⟨d1 ++ d2, q1.two q2 (unBu bi (b :: bl) (id :: is)) (fun _ _ => ()) (fun u x u1 y u2 e1 e2 => ?_) (fun _ _ _ _ _ _ => trivial)⟩
       unfold unBu at e2 ⊢
       rw [unB, e1]
       exact e2
     · cases h
def ents (m : List M) (β : Nat → Option Nat) : Nat → List Bk → List M
 | _, [] => []
 | j, b :: r => match b.old with
   | some _ => ents m β (j + 1) r
   | none => (match (β j).bind (fun i => m[i]?) with | some x => x | none => .cells []) :: ents m β (j + 1) r
theorem idsB_spec {β : Nat → Option Nat} {m0 : List M} (hm : m0 <+: m) : ∀ (bl : List Bk) (j nx : Nat) (base : List M), base.length = nx → m0 <+: base → oldOk bl m0.length = true → (∀ k b, bl[k]? = some b → ∀ i, b.old = some i → β (j + k) = some i) →
   (idsB bl nx).2 = (base ++ ents m β j bl).length ∧ (idsB bl nx).1.length = bl.length ∧ ∀ (k i i' : Nat), β (j + k) = some i → (idsB bl nx).1[k]? = some i' → ∀ x, m[i]? = some x → (base ++ ents m β j bl)[i']? = some x := by
 intro bl
 induction bl with
 | nil => intro j nx base hl _ _ _; subst hl; exact ⟨by simp [idsB, ents], rfl, fun k i i' _ h => by simp [idsB] at h⟩
 | cons b bl ih =>
   intro j nx base hl hpre ho hold
   simp only [oldOk, Bool.and_eq_true] at ho
   obtain ⟨ho1, ho2⟩ := ho
   have hold' : ∀ k b', bl[k]? = some b' → ∀ i, b'.old = some i → β (j + 1 + k) = some i := fun k b' hb i hi => by
     have := hold (k + 1) b' (by simpa using hb) i hi
     rwa [Nat.add_assoc, Nat.add_comm 1 k]
   cases hb : b.old with
   | some i0 =>
     rw [hb] at ho1
     simp only [Nat.blt_eq] at ho1
     obtain ⟨q1, q2, q3⟩ := ih (j + 1) nx base hl hpre ho2 hold'
     simp only [idsB, ents, hb]
     refine ⟨q1, by simp [q2], fun k i i' hk hi x hx => ?_⟩
     cases k with
     | zero =>
       simp at hi; subst hi
       have := hold 0 b rfl i0 hb
       rw [hk] at this; cases this
       obtain ⟨r, rfl⟩ := hm
       obtain ⟨r2, rfl⟩ := hpre
       rw [List.getElem?_append_left ho1] at hx
       rw [List.append_assoc, List.getElem?_append_left ho1]; exact hx
     | succ k => exact q3 k i i' (by rwa [Nat.add_assoc, Nat.add_comm 1 k]) (by simpa using hi) x hx
   | none =>
     have hx : ∃ x, (match (β j).bind (fun i => m[i]?) with | some x => x | none => .cells []) = x := ⟨_, rfl⟩
     obtain ⟨x, hx⟩ := hx
     obtain ⟨q1, q2, q3⟩ := ih (j + 1) (nx + 1) (base ++ [x]) (by simp [hl]) (hpre.trans (pre_app _ _)) ho2 hold'
     simp only [idsB, ents, hb, hx]
     rw [List.append_assoc] at q1 q3
     refine ⟨q1, by simp [q2], fun k i i' hk hi y hy => ?_⟩
     cases k with
     | zero =>
       simp at hi; subst hi
       rw [Nat.add_zero] at hk
       rw [hk] at hx
       simp only [Option.bind_some, hy] at hx
       subst hx hl
       simp
     | succ k => exact q3 k i i' (by rwa [Nat.add_assoc, Nat.add_comm 1 k]) (by simpa using hi) y hy
theorem Sh.get_un {s : Sh} {f : Nat → SV} {H : List HA} {g : Gt} (hg : s.get f H = some g) (hok : ∀ a ∈ H, HA.ok m K a) {m0 : List M} (hm : m0 <+: m) (ho : oldOk s.bl m0.length = true) :
   ∃ vs u ms, s.un g.ds m0.length = some (vs, u) ∧ (m0 ++ ms).length = u.nx ∧ slC m K f (m0 ++ ms) s.sl vs ∧ (∀ a ∈ u.H, HA.ok (m0 ++ ms) K a) ∧ (∀ a ∈ g.H, a ∈ H) ∧
     (∀ E F w, Sep E K (H.map (HA.conc m) ++ F) w → Sep E K (u.H.map (HA.conc (m0 ++ ms)) ++ (g.H.map (HA.conc m) ++ F)) w) ∧
     (∀ (k i i' : Nat), lookN g.bm k = some i → (idsB s.bl m0.length).1[k]? = some i' → ∀ x, m[i]? = some x → (m0 ++ ms)[i']? = some x) ∧ ∀ k, k < s.bl.length → ∃ i, lookN g.bm k = some i := by
 unfold Sh.get at hg
 split at hg
 · rename_i g1 hg1
   split at hg
   · rename_i g2 hg2
     replace hg := bift hg; obtain ⟨hk, hg⟩ := hg
     cases hg
     obtain ⟨b1, b2⟩ := getB_bm s.bl hg2
     have hlen0 : (idsB s.bl m0.length).1.length = s.bl.length := by
       have gen : ∀ (bl : List Bk) (nx : Nat), (idsB bl nx).1.length = bl.length := by
         intro bl
         induction bl with
         | nil => intro nx; rfl
         | cons b bl ih =>
           intro nx
           cases hb : b.old with
           | some i => simp only [idsB, hb, List.length_cons, ih]
           | none => simp only [idsB, hb, List.length_cons, ih]
       exact gen _ _
     have hlt : ∀ (l : List (Nat × Nat)) (n j i : Nat), keysLt n l = true → lookN l j = some i → j < n := by
       intro l
       induction l with
       | nil => intro n j i _ h; cases h
       | cons p l ih =>
         intro n j i hk h
         simp only [keysLt, Bool.and_eq_true, Nat.blt_eq] at hk
         change (bif Nat.beq p.1 j then some p.2 else lookN l j) = some i at h
         cases hb : Nat.beq p.1 j with
         | true => have := Nat.eq_of_beq_eq_true hb; rw [← this]; exact hk.1
         | false => rw [hb] at h; exact ih n j i hk.2 h
     have hbi : ∀ j i, lookN g.bm j = some i → ∃ i', (idsB s.bl m0.length).1[j]? = some i' := fun j i hj => by
       have := hlt _ _ _ _ hk hj
       exact ⟨_, List.getElem?_eq_getElem (by rw [hlen0]; exact this)⟩
     obtain ⟨d1, w1⟩ := getS_un hbi s.sl hg1 hok (fun i hi => by simp at hi) (fun j i hj => b1 j i hj)
     obtain ⟨d2, w2⟩ := getB_un (is := (idsB s.bl m0.length).1) hbi s.bl hg2 (fun a ha => hok a (w1.sub a ha)) w1.rsm (fun _ _ h => h) hlen0 (fun k id hk => by rw [Nat.zero_add]; exact hk)
     obtain ⟨e1, e2, e3⟩ := idsB_spec (β := lookN g.bm) hm s.bl 0 m0.length m0 rfl (List.prefix_refl _) ho (fun k b hb => (b2 k b hb).2)
     have hbr : BiR m (m0 ++ ents m (lookN g.bm) 0 s.bl) (lookN g.bm) (idsB s.bl m0.length).1 := fun j i i' hj hi' => e3 j i i' (by rw [Nat.zero_add]; exact hj) hi'
     have w := w1.two w2 (fun u => match unS (idsB s.bl m0.length).1 s.sl u with | some (vs, u) => (match unB (idsB s.bl m0.length).1 s.bl (idsB s.bl m0.length).1 u with | some u => some (vs, u) | none => none) | none => none) (fun x _ => x)
       (Q := fun mu vs => slC m K f mu s.sl vs) (fun u x u1 y u2 h1 h2 => by
         rw [h1]
         unfold unBu at h2
         simp only
         split at h2
         · cases h2; simp only [*]
         · cases h2) (fun mu ms x y h _ => h.mono)
     obtain ⟨vs, ms, Hu2, rs2, v1, v2, v3, v4, v5⟩ := w.go [] _ [] [] hbr ⟨rfl, fun j i id h => by simp at h⟩
     have hds : g.ds = d1 ++ d2 := by rw [w.ds]; rfl
     refine ⟨vs, ⟨[], (m0 ++ (ents m (lookN g.bm) 0 s.bl ++ ms)).length, Hu2 ++ [], [] ++ rs2⟩, ents m (lookN g.bm) 0 s.bl ++ ms, ?_, rfl, by rw [← List.append_assoc]; exact v2, by rw [← List.append_assoc]; exact fun a ha => v3 a (by simpa using ha), w.sub, fun E F w' hs => ?_, fun k i i' hk hi x hx => ?_, fun k hk => by
       have := (b2 k _ (List.getElem?_eq_getElem hk)).1
       rwa [Nat.zero_add] at this⟩
     · unfold Sh.un
       rw [ho, hds]
       simp only [cond_true]
       rw [List.append_nil, ← e1] at v1
       rw [← List.append_assoc]
       exact v1
     · have := v5 E F w' hs
       rw [← List.append_assoc]
       simpa using this
     · rw [← List.append_assoc]; exact pre_get (pre_app _ ms) (hbr k i i' hk hi x hx)
   · cases hg
 · cases hg
end
end
section
variable [BldA]
section
variable {m m2 : List M} {K K2 : Hp} {φ : Nat → Nat}
mutual
theorem ren_rel (hφ : ∀ (j : Nat) (e : M), m[j]? = some e → m2[φ j]? = some e) : ∀ (sv : SV) {v : Value}, SV.rel m K sv v → SV.rel m2 K (sv.ren φ) v
 | .any, v, h => trivial
 | .raw _, v, h => h
 | .int _ _, v, h => h
 | .bool _, v, h => h
 | .str _, v, h => h
 | .nilp, v, h => h
 | .nils, v, h => h
 | .row t l n, v, h => h
 | .pk t x, v, h => h
 | .kat t x o, v, h => h
 | .own i, v, h => ⟨hφ _ _ h.1, h.2⟩
 | .ptr i o, v, ⟨b, h1, h2⟩ => ⟨b, hφ _ _ h1, h2⟩
 | .rat i c t j x o, v, ⟨g, n, cap, l, cs, h1, h2, h3, h4⟩ => ⟨g, n, cap, l, cs, hφ _ _ h1, hφ _ _ h2, h3, h4⟩
 | .fsl i k, v, ⟨b, h1, h2⟩ => ⟨b, hφ _ _ h1, h2⟩
 | .fsa i o k cap, v, ⟨b, h1, h2⟩ => ⟨b, hφ _ _ h1, h2⟩
 | .nlt t l neg, v, h => h
 | .agg vs, v, ⟨us, h1, h2⟩ => ⟨us, h1, renL_rel hφ vs h2⟩
 | .tup vs, v, ⟨us, h1, h2⟩ => ⟨us, h1, renL_rel hφ vs h2⟩
 | .fn f vs, v, ⟨us, h1, h2⟩ => ⟨us, h1, renL_rel hφ vs h2⟩
 | .is j w, v, ⟨h1, h2⟩ => ⟨hφ _ _ h1, ren_rel hφ w h2⟩
 | .ifc t w, v, ⟨u, h1, h2⟩ => ⟨u, h1, ren_rel hφ w h2⟩
 | .hat i o j off, v, h => by obtain ⟨g, n, cap, h1, h2⟩ := h; exact ⟨g, n, cap, hφ _ _ h1, h2⟩
 | .prt i z lo hi, v, h => by obtain ⟨g, n, cap, o, h1, h2⟩ := h; exact ⟨g, n, cap, o, hφ _ _ h1, h2⟩
 | .yld _ _ _ _ _ _, v, h => trivial
theorem renL_rel (hφ : ∀ (j : Nat) (e : M), m[j]? = some e → m2[φ j]? = some e) : ∀ (vs : List SV) {us : List Value}, SV.relL m K vs us → SV.relL m2 K (SV.renL φ vs) us
 | [], us, h => h
 | v :: vs, us, ⟨u, r, h1, h2, h3⟩ => ⟨u, r, h1, ren_rel hφ v h2, renL_rel hφ vs h3⟩
end
theorem ren_ok (hφ : ∀ (j : Nat) (e : M), m[j]? = some e → m2[φ j]? = some e) : ∀ {a : HA}, a.ok m K → (a.ren φ).ok m2 K
 | .blk i c e cs, ⟨b, vs, h1, h2, h3⟩ => ⟨b, vs, hφ _ _ h1, hφ _ _ h2, renL_rel hφ _ h3⟩
 | .row i c e t l n, ⟨ad, cap, cs, h1, h2, h3⟩ => ⟨ad, cap, cs, hφ _ _ h1, hφ _ _ h2, h3⟩
 | .bld i l, ⟨b, h1⟩ => ⟨b, hφ _ _ h1⟩
 | .od i c o x, ⟨v, K0, h1, h2, h3⟩ => ⟨v, K0, hφ _ _ h1, hφ _ _ h2, h3⟩
 | .hole i c e o l j cs, h => by
   obtain ⟨ad, cap, K0, es, h1, h2, h3, h4, h5⟩ := h
   exact ⟨ad, cap, K0, es, hφ _ _ h1, hφ _ _ h2, h3, renL_rel hφ _ h4, h5⟩
 | .lp i s, ⟨l, r, h⟩ => ⟨l, r, hφ _ _ h⟩
theorem ren_conc (hφ : ∀ (j : Nat) (e : M), m[j]? = some e → m2[φ j]? = some e) : ∀ {a : HA}, a.ok m K → (a.ren φ).conc m2 = a.conc m
 | .blk i c e cs, ⟨b, vs, h1, h2, h3⟩ => by simp only [HA.ren, HA.conc, h1, h2, hφ _ _ h1, hφ _ _ h2]
 | .row i c e t l n, ⟨ad, cap, cs, h1, h2, h3⟩ => by simp only [HA.ren, HA.conc, h1, h2, hφ _ _ h1, hφ _ _ h2]
 | .bld i l, ⟨b, h1⟩ => by simp only [HA.ren, HA.conc, h1, hφ _ _ h1]
 | .od i c o x, ⟨v, K0, h1, h2, h3⟩ => by simp only [HA.ren, HA.conc, h1, h2, hφ _ _ h1, hφ _ _ h2]
 | .hole i c e o l j cs, h => by
   obtain ⟨ad, cap, K0, es, h1, h2, h3, h4, h5⟩ := h
   simp only [HA.ren, HA.conc, h1, h2, hφ _ _ h1, hφ _ _ h2]
 | .lp i s, ⟨l, r, h⟩ => by simp only [HA.ren, HA.conc, h, hφ _ _ h]
theorem ren_map (hφ : ∀ (j : Nat) (e : M), m[j]? = some e → m2[φ j]? = some e) : ∀ {H : List HA}, (∀ a ∈ H, HA.ok m K a) → (H.map (HA.ren φ)).map (HA.conc m2) = H.map (HA.conc m)
 | [], _ => rfl
 | a :: H, h => by rw [List.map_cons, List.map_cons, List.map_cons, ren_conc hφ (h a (by simp)), ren_map hφ (fun b hb => h b (by simp [hb]))]
mutual
theorem kf_rel : ∀ (sv : SV) {v : Value}, sv.kf = true → SV.rel m K sv v → SV.rel m K2 sv v
 | .any, v, h, _ => trivial
 | .raw _, v, _, h => h
 | .int _ _, v, _, h => h
 | .bool _, v, _, h => h
 | .str _, v, _, h => h
 | .nilp, v, _, h => h
 | .nils, v, _, h => h
 | .row t l n, v, h, _ => by cases h
 | .pk t x, v, h, _ => by cases h
 | .kat t x o, v, h, _ => by cases h
 | .own i, v, _, h => h
 | .ptr i o, v, _, h => h
 | .rat i c t j x o, v, _, h => h
 | .fsl i k, v, _, h => h
 | .fsa i o k cap, v, _, h => h
 | .nlt t l neg, v, _, h => h
 | .agg vs, v, hk, ⟨us, h1, h2⟩ => ⟨us, h1, kfL_rel vs hk h2⟩
 | .tup vs, v, hk, ⟨us, h1, h2⟩ => ⟨us, h1, kfL_rel vs hk h2⟩
 | .fn f vs, v, hk, ⟨us, h1, h2⟩ => ⟨us, h1, kfL_rel vs hk h2⟩
 | .is j w, v, hk, ⟨h1, h2⟩ => ⟨h1, kf_rel w hk h2⟩
 | .ifc t w, v, hk, ⟨u, h1, h2⟩ => ⟨u, h1, kf_rel w hk h2⟩
 | .hat i o j off, v, _, h => h
 | .prt i z lo hi, v, _, h => h
 | .yld _ _ _ _ _ _, v, hk, _ => by cases hk
theorem kfL_rel : ∀ (vs : List SV) {us : List Value}, SV.kfL vs = true → SV.relL m K vs us → SV.relL m K2 vs us
 | [], us, _, h => h
 | v :: vs, us, hk, ⟨u, r, h1, h2, h3⟩ => by
   simp only [SV.kfL, Bool.and_eq_true] at hk
   exact ⟨u, r, h1, kf_rel v hk.1 h2, kfL_rel vs hk.2 h3⟩
end
theorem kf_ok : ∀ {a : HA}, a.kf = true → a.ok m K → a.ok m K2
 | .blk i c e cs, hk, ⟨b, vs, h1, h2, h3⟩ => ⟨b, vs, h1, h2, kfL_rel cs hk h3⟩
 | .row i c e t l n, hk, ⟨ad, cap, cs, h1, h2, h3, h4⟩ => ⟨ad, cap, cs, h1, h2, Els.flat hk h3, h4⟩
 | .bld i l, hk, h => h
 | .od i c o x, hk, ⟨v, K0, h1, h2, h3, h4⟩ => ⟨v, K0, h1, h2, .inr hk, h4⟩
 | .hole i c e o l j cs, hk, h => by
   obtain ⟨ad, cap, K0, es, h1, h2, h3, h4, h5⟩ := h
   simp only [HA.kf, Bool.and_eq_true] at hk
   exact ⟨ad, cap, K0, es, h1, h2, .inr hk.1, kfL_rel cs hk.2 h4, h5⟩
 | .lp i s, hk, h => h
theorem rowF_rel {i c : Nat} {e : TypeId} {t : Tp} {l : List t.den} {n : Nat} {ad : Option Addr} {cap : Nat} (h1 : m[i]? = some (.val (.slice ad n cap))) (h2 : l.length = n) (h3 : Is K (.sl t) [.slice ad n cap] l) : ∀ a b v, rowF i t l n a = some b → SV.rel m K a v → SV.rel m K b v := by
 intro a b v hf hr
 unfold rowF at hf
 split at hf
 · replace hf := bift hf; obtain ⟨hb, hf⟩ := hf
   have hb := Nat.eq_of_beq_eq_true hb
   subst hb
   cases hf
   have h4 := hr.1
   rw [h1] at h4
   simp only [Option.some.injEq, M.val.injEq] at h4
   subst h4
   exact ⟨h3, h2⟩
 · cases hf
theorem Rw.is {e : TypeId} {t : Tp} {v : Value} {l : List t.den} {cs : List Value} {K0 K' : Hp} (he : Els K t cs l) (h : Rw e t.size v l.length cs K0) (k1 : K.le K') (k2 : K0.le K') (h0 : 0 < t.size) : Is K' (.sl t) [v] l :=
 Row.is (Row.of_rw he K0 h) k1 k2 h0
theorem mkOf_rel {i : Nat} {v w : SV} {u : Value} (h : SV.mkOf i v = some w) (hr : SV.rel m K v u) : m[i]? = some (.val u) ∧ SV.rel m K w u := by
 unfold SV.mkOf at h
 split at h
 · rename_i j x
   cases hb : Nat.beq j i with
   | false => rw [hb] at h; cases h
   | true =>
     rw [hb] at h
     have hb := Nat.eq_of_beq_eq_true hb
     subst hb
     simp only [cond_true] at h
     split at h
     · cases h
     · cases h; exact hr
 · cases h
theorem findMk {i : Nat} {w : SV} : ∀ {cs : List SV} {us : List Value}, findR (SV.mkOf i) cs = some w → SV.relL m K cs us → ∃ u, m[i]? = some (.val u) ∧ SV.rel m K w u
 | [], us, h, _ => by cases h
 | c :: cs, us, h, hr => by
   obtain ⟨u, r, rfl, h1, h2⟩ := relL_cons hr
   unfold findR at h
   split at h
   · rename_i hm; cases h; exact ⟨u, mkOf_rel hm h1⟩
   · exact findMk h h2
theorem mark_ok {fr : Frz} {σ : Zt} {ρ : Sl1} (hp : Pur fr σ m K ρ) {i : Nat} {w : SV} (h : σ.mark i = some w) : ∃ u, m[i]? = some (.val u) ∧ SV.rel m K w u := by
 unfold Zt.mark at h
 split at h
 · rename_i v hv
   cases h
   obtain ⟨p, h1, _⟩ := findR_spec hv
   exact ⟨_, mkOf_rel h1 (hp.get p.1)⟩
 · obtain ⟨a, h1, h2⟩ := findR_spec h
   have hok := hp.all a h2
   cases a with
   | blk j c e cs =>
     obtain ⟨b, vs, _, _, h3⟩ := hok
     exact findMk h1 h3
   | row => cases h1
   | bld => cases h1
   | od => cases h1
   | lp => cases h1
   | hole j c e o l k cs =>
     obtain ⟨ad, cap, K0, es, _, _, _, h3, _⟩ := hok
     exact findMk h1 h3
theorem fillF_rel {fr : Frz} {σ : Zt} {ρ : Sl1} (hp : Pur fr σ m K ρ) {m' : List M} {K' : Hp} (hm : ∀ (i : Nat) (x : M), m[i]? = some x → m'[i]? = some x) (hK : K.le K') : ∀ a b v, fillF σ a = some b → SV.rel m' K' a v → SV.rel m' K' b v := by
 intro a b v hf hr
 unfold fillF at hf
 split at hf
 · rename_i i x
   split at hf
   · split at hf
     · rename_i w hw
       cases hf
       obtain ⟨u, h1, h2⟩ := mark_ok hp hw
       have h3 := hr.1
       rw [hm _ _ h1] at h3
       cases h3
       exact ⟨hm _ _ h1, SV.mono hm hK _ h2⟩
     · cases hf
   · cases hf
 · cases hf
theorem valsLt_ok {n : Nat} : ∀ {l : List (Nat × Nat)} {j i : Nat}, valsLt n l = true → lookN l j = some i → i < n
 | [], j, i, _, h => by cases h
 | p :: l, j, i, hk, h => by
   simp only [valsLt, Bool.and_eq_true, Nat.blt_eq] at hk
   change (bif Nat.beq p.1 j then some p.2 else lookN l j) = some i at h
   cases hb : Nat.beq p.1 j with
   | true => rw [hb] at h; cases h; exact hk.1
   | false => rw [hb] at h; exact valsLt_ok hk.2 h
end
end
end Go.Proofs.YtmlbbjkojaljnaaDoor

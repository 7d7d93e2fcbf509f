/- Regions whose makings have no order among them: each order is walked. Nothing of the program is here. -/
import Derived.Test.YtbaaamdljojknaaOz
namespace Go.Proofs.Ytbaaamdljojknaa
open Go.RowKit
set_option linter.unusedVariables false
theorem A.val {P : Program} {E : En} {n d : Nat} {ρ : Sl0} {K : Hp} {L : List Atom} {o : Oper} {v : Value} (ho : o.dst = some d) (hv : Val P n (Hold E K L) ρ o v) : Ao P E n o ρ K L (fun ρ' K' L' => ρ' = upd ρ d v ∧ K = K' ∧ L = L') :=
  Ao.of ho (fun w hs => ⟨v, w, K, L, hv w (Hold.of_sep hs), hs, rfl, rfl, rfl⟩)
/-- The orders of a region: still ones first, then whatever may come next. -/
inductive MT
  | leaf (fin : List Nat)
  | still (s : List Nat) (t : MT)
  | alt (k : Nat) (t r : MT)
  | done
def wpT (P : Program) (C : World → Prop) (F : Act → World → Prop) (l : List Oper) : MT → Act → World → Prop
  | .leaf fin, a, w => wpQuiet P l.toArray C (fun a' => F a' w) (picks l fin) a
  | .still s t, a, w => wpQuiet P l.toArray C (fun a' => wpT P C F l t a' w) (picks l s) a
  | .alt k t r, a, w => (∀ o, l[k]? = some o → aloneOp P l.toArray C o (wpT P C F l t) a w) ∧ wpT P C F l r a w
  | .done, _, _ => True
section
variable {P : Program} {C : World → Prop} {Q : Exit → Act → World → Prop} {md : Region.Mode}
end
section
variable {P : Program} {E : En} {n : Nat} {Φ : Post} {ρ : Sl0} {K K0 : Hp} {L : List Atom} {l : List Oper} {C : World → Prop} {F : Act → World → Prop} {e : TypeId} {t : Tp} {v : Value} {xs : List t.den} {b : Nat} {cs : List Value} {x : t.den} {tr rr : MT}
structure JT (P : Program) (E : En) (n : Nat) (l : List Oper) (C : World → Prop) (F : Act → World → Prop) (tr : MT) (ρ : Sl0) (K : Hp) (L : List Atom) : Prop where
  go : ∀ w, Sep E K L w → wpT P C F l tr (act n ρ) w
structure JB (P : Program) (E : En) (n : Nat) (l : List Oper) (C : World → Prop) (F : Act → World → Prop) (o : Oper) (tr : MT) (ρ : Sl0) (K : Hp) (L : List Atom) : Prop where
  go : ∀ w, Sep E K L w → aloneOp P l.toArray C o (wpT P C F l tr) (act n ρ) w
theorem JT.leaf {fin : List Nat} {fs ts : List Oper} (hfs : picks l fin = fs) (h : JQ P n l.toArray C fs (fun ρ' => J P E n l.toArray ts Φ ρ' K L) ρ) : JT P E n l C (fun a' w' => wpList P l.toArray (Lift E n Φ) ts a' w') (.leaf fin) ρ K L := ⟨fun w hs => by
  subst hfs
  exact wpQuiet_mono (fun a ⟨ρ', ha, hJ⟩ => by subst ha; exact hJ.go w hs) h.go⟩
theorem JT.still {s : List Nat} {ss : List Oper} (hss : picks l s = ss) (h : JQ P n l.toArray C ss (fun ρ' => JT P E n l C F tr ρ' K L) ρ) : JT P E n l C F (.still s tr) ρ K L := ⟨fun w hs => by
  subst hss
  exact wpQuiet_mono (fun a ⟨ρ', ha, hJ⟩ => by subst ha; exact hJ.go w hs) h.go⟩
theorem JT.alt {k : Nat} {o : Oper} (ho : l[k]? = some o) (h : JB P E n l C F o tr ρ K L) (h2 : JT P E n l C F rr ρ K L) : JT P E n l C F (.alt k tr rr) ρ K L := ⟨fun w hs =>
  ⟨fun o' ho' => by rw [ho] at ho'; cases ho'; exact h.go w hs, h2.go w hs⟩⟩
theorem JT.done : JT P E n l C F .done ρ K L := ⟨fun _ _ => trivial⟩
theorem JB.op {o : Oper} {N : Sl0 → Hp → List Atom → Prop} (hg : o.guard = none) (hv : Ao P E n o ρ K L N) (h : ∀ ρ' K' L', N ρ' K' L' → (∀ w, Sep E K' L' w → C w) ∧ JT P E n l C F tr ρ' K' L') : JB P E n l C F o tr ρ K L := ⟨fun w hs => by
  unfold aloneOp
  rw [if_pos (by simp [Region.wanted, hg])]
  exact hv.go w hs _ _ (fun ρ' K' L' w' hN hs' => ⟨(h ρ' K' L' hN).1 w' hs', (h ρ' K' L' hN).2.go w' hs'⟩)⟩
theorem JB.run {o : Oper} {g d : Nat} {b c : Bool} (hg : o.guard = some (g, c)) (hd : (l.toArray[g]?).bind (·.dst) = some d) (hv : ev n ρ (.tmp d) = .bool b) (hb : b = c) (h : JB P E n l C F { o with guard := none } tr ρ K L) : JB P E n l C F o tr ρ K L := ⟨fun w hs => by
  have h' := h.go w hs
  unfold aloneOp at h' ⊢
  rw [if_pos (wanted_run hg hd hv hb)]
  rw [if_pos (by rfl)] at h'
  exact h'⟩
theorem JB.skip {o : Oper} {g d e : Nat} {b c : Bool} (hg : o.guard = some (g, c)) (he : o.dst = some e) (hd : (l.toArray[g]?).bind (·.dst) = some d) (hv : ev n ρ (.tmp d) = .bool b) (hb : b = !c) (h : JT P E n l C F tr (upd ρ e undef) K L) : JB P E n l C F o tr ρ K L := ⟨fun w hs =>
  alone_skip (wanted_skip hg hd hv hb) (by rw [he, put_act]; exact h.go w hs)⟩
theorem JB.skipu {o : Oper} {g d e : Nat} {c : Bool} (hg : o.guard = some (g, c)) (he : o.dst = some e) (hd : (l.toArray[g]?).bind (·.dst) = some d) (hv : ev n ρ (.tmp d) = undef) (h : JT P E n l C F tr (upd ρ e undef) K L) : JB P E n l C F o tr ρ K L := ⟨fun w hs =>
  alone_skip (wanted_skipu hg hd hv) (by rw [he, put_act]; exact h.go w hs)⟩
theorem JB.front (i : Nat) {A : Atom} {o : Oper} (hi : L[i]? = some A) (h : JB P E n l C F o tr ρ K (A :: L.eraseIdx i)) : JB P E n l C F o tr ρ K L := ⟨fun w hs => h.go w (hs.front i hi)⟩
theorem JT.front (i : Nat) {A : Atom} (hi : L[i]? = some A) (h : JT P E n l C F tr ρ K (A :: L.eraseIdx i)) : JT P E n l C F tr ρ K L := ⟨fun w hs => h.go w (hs.front i hi)⟩
theorem JT.wit {A : Atom} {p : Prop} (k : ∀ h, A h → p) (h : p → JT P E n l C F tr ρ K (A :: L)) : JT P E n l C F tr ρ K (A :: L) := ⟨fun w hs => (h (hs.fact k)).go w hs⟩
theorem JT.by {K' : Hp} {L' : List Atom} (k : ∀ w, Sep E K L w → Sep E K' L' w) (h : JT P E n l C F tr ρ K' L') : JT P E n l C F tr ρ K L := ⟨fun w hs => h.go w (k w hs)⟩
theorem JB.by {o : Oper} {K' : Hp} {L' : List Atom} (k : ∀ w, Sep E K L w → Sep E K' L' w) (h : JB P E n l C F o tr ρ K' L') : JB P E n l C F o tr ρ K L := ⟨fun w hs => h.go w (k w hs)⟩
theorem JM.by {ops : Array Oper} {X : Act → World → Prop} {ss : List (List Oper × Oper)} {K' : Hp} {L' : List Atom} (k : ∀ w, Sep E K L w → Sep E K' L' w) (h : JM P E n ops C X ss ρ K' L') : JM P E n ops C X ss ρ K L := ⟨fun w hs => h.go w (k w hs)⟩
theorem JT.persist (k : K0.le K) (h0 : 0 < t.size) (h : ∀ K', K.le K' → Is K' (.sl t) [v] xs → JT P E n l C F tr ρ K' L) : JT P E n l C F tr ρ K (Row K0 e t v xs :: L) := ⟨fun w hs =>
  let ⟨K', h1, h2, h3⟩ := hs.persist k h0; (h K' h1 h2).go w h3⟩
theorem JM.persist {ops : Array Oper} {X : Act → World → Prop} {ss : List (List Oper × Oper)} (k : K0.le K) (h0 : 0 < t.size) (h : ∀ K', K.le K' → Is K' (.sl t) [v] xs → JM P E n ops C X ss ρ K' L) : JM P E n ops C X ss ρ K (Row K0 e t v xs :: L) := ⟨fun w hs =>
  let ⟨K', h1, h2, h3⟩ := hs.persist k h0; (h K' h1 h2).go w h3⟩
theorem JB.persist {o : Oper} (k : K0.le K) (h0 : 0 < t.size) (h : ∀ K', K.le K' → Is K' (.sl t) [v] xs → JB P E n l C F o tr ρ K' L) : JB P E n l C F o tr ρ K (Row K0 e t v xs :: L) := ⟨fun w hs =>
  let ⟨K', h1, h2, h3⟩ := hs.persist k h0; (h K' h1 h2).go w h3⟩
end
end Go.Proofs.Ytbaaamdljojknaa

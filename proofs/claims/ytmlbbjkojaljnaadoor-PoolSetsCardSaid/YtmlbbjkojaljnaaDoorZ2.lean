/- A part of the proof: what lies ahead of the law. Nothing is claimed here. -/
import Derived.Test.YtmlbbjkojaljnaaDoorZ1
import Derived.Scope
import Derived.ControlIn
import Derived.Lib.AppendStr
import Derived.Lib.AppendZerosOnto
namespace Go.Proofs.YtmlbbjkojaljnaaDoor
set_option linter.unusedVariables false
open Go.RowKit
section
theorem A.val {P : Program} {E : En} {n d : Nat} {ρ : Sl0} {K : Hp} {L : List Atom} {o : Oper} {v : Value} (ho : o.dst = some d) (hv : Val P n (Hold E K L) ρ o v) : Ao P E n o ρ K L (fun ρ' K' L' => ρ' = upd ρ d v ∧ K = K' ∧ L = L') :=
 Ao.of ho (fun w hs => ⟨v, w, K, L, hv w (Hold.of_sep hs), hs, rfl, rfl, rfl⟩)
inductive MT
 | leaf (fin : List Nat)
 | still (s : List Nat) (t : MT)
 | alt (k : Nat) (t r : MT)
 | done
def MT.keys : MT → List Nat
 | .alt k _ r => k :: r.keys
 | _ => []
def mtB (md : Region.Mode) (ops : Array Oper) (tail : List Nat) : Bool → MT → Nat → Array Bool → Bool
 | _, .leaf fin, n, l => Nat.beq n (fin.length + tail.length) && match mixStill md ops tail fin l with | some l' => mixTail md ops tail tail l' | none => false
 | _, .still s t, n, l => Nat.ble s.length n && match mixStill md ops tail s l with | some l' => mtB md ops tail true t (n - s.length) l' | none => false
 | top, .alt k t r, n, l => (!top || Region.ready md ops l == k :: r.keys) && Nat.ble 1 n && !tail.contains k && (Region.ready md ops l).contains k && mtB md ops tail true t (n - 1) (l.setIfInBounds k true) && mtB md ops tail false r n l
 | top, .done, _, _ => !top
def wpT (P : Program) (C : World → Prop) (F : Act → World → Prop) (l : List Oper) : MT → Act → World → Prop
 | .leaf fin, a, w => wpQuiet P l.toArray C (fun a' => F a' w) (picks l fin) a
 | .still s t, a, w => wpQuiet P l.toArray C (fun a' => wpT P C F l t a' w) (picks l s) a
 | .alt k t r, a, w => (∀ o, l[k]? = some o → aloneOp P l.toArray C o (wpT P C F l t) a w) ∧ wpT P C F l r a w
 | .done, _, _ => True
section
variable {P : Program} {C : World → Prop} {Q : Exit → Act → World → Prop} {md : Region.Mode}
theorem mixStill_shut {ops : Array Oper} {tail : List Nat} : ∀ (s : List Nat) (listed l1 : Array Bool), mixStill md ops tail s listed = some l1 → Shut md ops listed → Shut md ops l1
 | [], a, b, h1, h2 => by simp only [mixStill, Option.some.injEq] at h1; subst h1; exact h2
 | i :: s, a, b, h1, h2 => by
   simp only [mixStill] at h1
   split at h1
   case isFalse => cases h1
   case isTrue hb =>
     simp only [Bool.and_eq_true] at hb
     exact mixStill_shut s _ _ h1 (shut_set h2 (by simpa using hb.1.1.1.1))
theorem mt_any {l : List Oper} {tail : List Nat} (hs : Region.noSelect l.toArray = true) : ∀ (t : MT) (top : Bool) (n : Nat) (listed : Array Bool) (a : Act) (w : World), mtB md l.toArray tail top t n listed = true → C w → Shut md l.toArray listed →
   wpT P C (fun a' w' => wpLs P l.toArray Q (picks l tail) a' w') l t a w →
   (top = true → mixAny P md l.toArray C (tail.contains ·) Q n listed a w) ∧ (top = false → ∀ i ∈ t.keys, mixOp P l.toArray C (tail.contains ·) Q i (mixAny P md l.toArray C (tail.contains ·) Q (n - 1) (listed.setIfInBounds i true)) a w)
 | .leaf fin, top, n, listed, a, w, hB, hC, hS, h => by
   refine ⟨fun _ => ?_, fun _ i hi => by simp [MT.keys] at hi⟩
   simp only [mtB, Bool.and_eq_true] at hB
   obtain ⟨hn, hB⟩ := hB
   have hn := Nat.eq_of_beq_eq_true hn
   split at hB
   case h_2 => cases hB
   case h_1 l2 h2 =>
     have := (mix_still (P := P) (Q := Q) (md := md) (tail := tail) (C := C) hs fin tail.length listed l2 a w _ h2 hC hS (fun a2 hk => mix_tail tail l2 a2 w hB hk) h).2
     rw [hn, Nat.add_comm]; exact this
 | .still s t, top, n, listed, a, w, hB, hC, hS, h => by
   refine ⟨fun _ => ?_, fun _ i hi => by simp [MT.keys] at hi⟩
   simp only [mtB, Bool.and_eq_true] at hB
   obtain ⟨hn, hB⟩ := hB
   have hn := Nat.le_of_ble_eq_true hn
   split at hB
   case h_2 => cases hB
   case h_1 l2 h2 =>
     have hS2 := mixStill_shut s listed l2 h2 hS
     have := (mix_still (P := P) (Q := Q) (md := md) (tail := tail) (C := C) hs s (n - s.length) listed l2 a w _ h2 hC hS (fun a2 hk => (mt_any hs t true (n - s.length) l2 a2 w hB hC hS2 hk).1 rfl) h).2
     rw [show n - s.length + s.length = n by omega] at this
     exact this
 | .alt k t r, top, n, listed, a, w, hB, hC, hS, h => by
   simp only [mtB, Bool.and_eq_true] at hB
   obtain ⟨⟨⟨⟨⟨h1, h2⟩, h3⟩, h4⟩, h5⟩, h6⟩ := hB
   have h2 := Nat.le_of_ble_eq_true h2
   have hmem : k ∈ Region.ready md l.toArray listed := by simpa using h4
   obtain ⟨_, o, ho, _⟩ := mem_ready.1 hmem
   have ho' : l[k]? = some o := by simpa using ho
   have key : ∀ i ∈ k :: r.keys, mixOp P l.toArray C (tail.contains ·) Q i (mixAny P md l.toArray C (tail.contains ·) Q (n - 1) (listed.setIfInBounds i true)) a w := by
     intro i hi
     rcases List.mem_cons.1 hi with rfl | hi
     · have hk := h.1 o ho'
       unfold mixOp
       have h3' : tail.contains i = false := by simpa using h3
       simp only [ho, h3', Bool.false_eq_true, if_false]
       unfold aloneOp at hk
       split
       · rename_i hw
         simp only [hw, if_true] at hk
         exact Oper.wp_mono (fun a2 w2 hk2 => ⟨hk2.1, (mt_any hs t true (n - 1) _ a2 w2 h5 hk2.1 (shut_set hS hmem) hk2.2).1 rfl⟩) hk
       · rename_i hw
         simp only [hw] at hk
         exact (mt_any hs t true (n - 1) _ _ w h5 hC (shut_set hS hmem) hk).1 rfl
     · exact (mt_any hs r false n listed a w h6 hC hS h.2).2 rfl i hi
   refine ⟨fun ht => ?_, fun _ => key⟩
   subst ht
   simp only [Bool.not_true, Bool.false_or, beq_iff_eq] at h1
   obtain ⟨m, rfl⟩ : ∃ m, n = m + 1 := ⟨n - 1, by omega⟩
   exact ⟨fun h0 => (by rw [h1] at h0; cases h0), fun i hi => key i (by rw [← h1]; exact hi)⟩
 | .done, top, n, listed, a, w, hB, hC, hS, h => by
   simp only [mtB, Bool.not_eq_true'] at hB
   subst hB
   exact ⟨fun h => (by cases h), fun _ i hi => (by simp [MT.keys] at hi)⟩
theorem wp_region_tree {id : Nat} {a : Act} {w : World} {l : List Oper} (tr : MT) (tail : List Nat) (hm : P.follows .mixedOrders = true) (hB : (Region.noSelect l.toArray && mtB .any l.toArray tail true tr l.length (Array.replicate l.length false)) = true) (C : World → Prop) (hC : C w.drew) {ts : List Oper} (hts : picks l tail = ts)
   (h : wpT P C (fun a' w' => wpLs P l.toArray Q ts a' w') l tr a w.drew) (hnd : l.all nodf = true) {r : Option Nat} {n : Nat} : (Code.region id l.toArray true).wpIn (wideR r) n P Q a w := by
 subst hts
 simp only [Bool.and_eq_true] at hB
 refine wpIn_region_any hm (wpAnyIn_of_mix (C := C) (T := (tail.contains ·)) (nodf_at hnd) _ _ _ _ ?_)
 have hS0 : Shut Region.Mode.any l.toArray (Array.replicate l.length false) := by
   intro j o _ hl
   exfalso
   rcases Nat.lt_or_ge j (Array.replicate l.length false).size with h' | h'
   · simp at h'; simp [h'] at hl
   · rw [Array.getD_eq_getD_getElem?, Array.getElem?_eq_none h'] at hl
     cases hl
 have := (mt_any (P := P) (Q := Q) (C := C) hB.1 tr true l.length _ a w.drew hB.2 hC hS0 h).1 rfl
 simpa using this
end
section
variable {P : Program} {E : En} {n : Nat} {Φ : Post} {ρ : Sl0} {K K0 : Hp} {L : List Atom} {l : List Oper} {C : World → Prop} {F : Act → World → Prop} {e : TypeId} {t : Tp} {v : Value} {xs : List t.den} {b : Nat} {cs : List Value} {x : t.den} {tr rr : MT}
structure JT (P : Program) (E : En) (n : Nat) (l : List Oper) (C : World → Prop) (F : Act → World → Prop) (tr : MT) (ρ : Sl0) (K : Hp) (L : List Atom) : Prop where
 go : ∀ w, Sep E K L w → wpT P C F l tr (act n ρ) w
structure JB (P : Program) (E : En) (n : Nat) (l : List Oper) (C : World → Prop) (F : Act → World → Prop) (o : Oper) (tr : MT) (ρ : Sl0) (K : Hp) (L : List Atom) : Prop where
 go : ∀ w, Sep E K L w → aloneOp P l.toArray C o (wpT P C F l tr) (act n ρ) w
theorem JT.leaf {fin : List Nat} {fs ts : List Oper} (hfs : picks l fin = fs) (h : JQ P n l.toArray C fs (fun ρ' => J P E n l.toArray ts Φ ρ' K L) ρ) : JT P E n l C (fun a' w' => wpLs P l.toArray (Lift E n Φ) ts a' w') (.leaf fin) ρ K L := ⟨fun w hs => by
 subst hfs
 exact wpQuiet_mono (fun a ⟨ρ', ha, hJ⟩ => by subst ha; exact hJ.go w hs) h.go⟩
theorem JT.still {s : List Nat} {ss : List Oper} (hss : picks l s = ss) (h : JQ P n l.toArray C ss (fun ρ' => JT P E n l C F tr ρ' K L) ρ) : JT P E n l C F (.still s tr) ρ K L := ⟨fun w hs => by
 subst hss
 exact wpQuiet_mono (fun a ⟨ρ', ha, hJ⟩ => by subst ha; exact hJ.go w hs) h.go⟩
theorem JT.alt {k : Nat} {o : Oper} (ho : l[k]? = some o) (h : JB P E n l C F o tr ρ K L) (h2 : JT P E n l C F rr ρ K L) : JT P E n l C F (.alt k tr rr) ρ K L := ⟨fun w hs =>
 ⟨fun o' ho' => by rw [ho] at ho'; cases ho'; exact h.go w hs, h2.go w hs⟩⟩
theorem JT.done : JT P E n l C F .done ρ K L := ⟨fun _ _ => trivial⟩
theorem JB.op {o : Oper} {N : Sl0 → Hp → List Atom → Prop} (hg : o.guard = none) (hv : Ao P E n o ρ K L N) (h : ∀ ρ' K' L', N ρ' K' L' → (∀ w, Sep E K' L' w → C w) ∧ JT P E n l C F tr ρ' K' L') : JB P E n l C F o tr ρ K L := ⟨fun w hs => by
 unfold aloneOp
 rw [if_pos (by simp [Region.wanted, hg])]
 exact hv.go w hs _ _ (fun ρ' K' L' w' hN hs' => ⟨(h ρ' K' L' hN).1 w' hs', (h ρ' K' L' hN).2.go w' hs'⟩)⟩
theorem JB.run {o : Oper} {g d : Nat} {b c : Bool} (hg : o.guard = some (g, c)) (hd : (l.toArray[g]?).bind (·.dst) = some d) (hv : ev n ρ (.tmp d) = .bool b) (hb : b = c) (h : JB P E n l C F { o with guard := none } tr ρ K L) : JB P E n l C F o tr ρ K L := ⟨fun w hs => by
 have h' := h.go w hs
 unfold aloneOp at h' ⊢
 rw [if_pos (wanted_run hg hd hv hb)]
 rw [if_pos (by rfl)] at h'
 exact h'⟩
theorem JB.skip {o : Oper} {g d e : Nat} {b c : Bool} (hg : o.guard = some (g, c)) (he : o.dst = some e) (hd : (l.toArray[g]?).bind (·.dst) = some d) (hv : ev n ρ (.tmp d) = .bool b) (hb : b = !c) (h : JT P E n l C F tr (upd ρ e undef) K L) : JB P E n l C F o tr ρ K L := ⟨fun w hs =>
 alone_skip (wanted_skip hg hd hv hb) (by rw [he, put_act]; exact h.go w hs)⟩
theorem JB.skipu {o : Oper} {g d e : Nat} {c : Bool} (hg : o.guard = some (g, c)) (he : o.dst = some e) (hd : (l.toArray[g]?).bind (·.dst) = some d) (hv : ev n ρ (.tmp d) = undef) (h : JT P E n l C F tr (upd ρ e undef) K L) : JB P E n l C F o tr ρ K L := ⟨fun w hs =>
 alone_skip (wanted_skipu hg hd hv) (by rw [he, put_act]; exact h.go w hs)⟩
theorem JB.front (i : Nat) {A : Atom} {o : Oper} (hi : L[i]? = some A) (h : JB P E n l C F o tr ρ K (A :: L.eraseIdx i)) : JB P E n l C F o tr ρ K L := ⟨fun w hs => h.go w (hs.front i hi)⟩
theorem JT.front (i : Nat) {A : Atom} (hi : L[i]? = some A) (h : JT P E n l C F tr ρ K (A :: L.eraseIdx i)) : JT P E n l C F tr ρ K L := ⟨fun w hs => h.go w (hs.front i hi)⟩
theorem JT.wit {A : Atom} {p : Prop} (k : ∀ h, A h → p) (h : p → JT P E n l C F tr ρ K (A :: L)) : JT P E n l C F tr ρ K (A :: L) := ⟨fun w hs => (h (hs.fact k)).go w hs⟩
theorem JT.by {K' : Hp} {L' : List Atom} (k : ∀ w, Sep E K L w → Sep E K' L' w) (h : JT P E n l C F tr ρ K' L') : JT P E n l C F tr ρ K L := ⟨fun w hs => h.go w (k w hs)⟩
theorem JB.by {o : Oper} {K' : Hp} {L' : List Atom} (k : ∀ w, Sep E K L w → Sep E K' L' w) (h : JB P E n l C F o tr ρ K' L') : JB P E n l C F o tr ρ K L := ⟨fun w hs => h.go w (k w hs)⟩
theorem JM.by {ops : Array Oper} {X : Act → World → Prop} {ss : List (List Oper × Oper)} {K' : Hp} {L' : List Atom} (k : ∀ w, Sep E K L w → Sep E K' L' w) (h : JM P E n ops C X ss ρ K' L') : JM P E n ops C X ss ρ K L := ⟨fun w hs => h.go w (k w hs)⟩
theorem JT.persist (k : K0.le K) (h0 : 0 < t.size) (h : ∀ K', K.le K' → Is K' (.sl t) [v] xs → JT P E n l C F tr ρ K' L) : JT P E n l C F tr ρ K (Row K0 e t v xs :: L) := ⟨fun w hs =>
 let ⟨K', h1, h2, h3⟩ := hs.persist k h0; (h K' h1 h2).go w h3⟩
theorem JM.persist {ops : Array Oper} {X : Act → World → Prop} {ss : List (List Oper × Oper)} (k : K0.le K) (h0 : 0 < t.size) (h : ∀ K', K.le K' → Is K' (.sl t) [v] xs → JM P E n ops C X ss ρ K' L) : JM P E n ops C X ss ρ K (Row K0 e t v xs :: L) := ⟨fun w hs =>
 let ⟨K', h1, h2, h3⟩ := hs.persist k h0; (h K' h1 h2).go w h3⟩
theorem JB.persist {o : Oper} (k : K0.le K) (h0 : 0 < t.size) (h : ∀ K', K.le K' → Is K' (.sl t) [v] xs → JB P E n l C F o tr ρ K' L) : JB P E n l C F o tr ρ K (Row K0 e t v xs :: L) := ⟨fun w hs =>
 let ⟨K', h1, h2, h3⟩ := hs.persist k h0; (h K' h1 h2).go w h3⟩
theorem JB.persistAt {o : Oper} (k : Is K t cs x) (h : ∀ K', K.le K' → At K' t b 0 x → JB P E n l C F o tr ρ K' L) : JB P E n l C F o tr ρ K (Cl b e cs :: L) := ⟨fun w hs => let ⟨K', h1, h2, h3⟩ := hs.persistAt k; (h K' h1 h2).go w h3⟩
theorem CJ.tree {id : Nat} (R : List Atom) (tr : MT) (tail : List Nat) (hm : P.follows .mixedOrders = true) (hB : (Region.noSelect l.toArray && mtB .any l.toArray tail true tr l.length (Array.replicate l.length false)) = true) (hR : SubA R L)
   {ts : List Oper} (hts : picks l tail = ts) (h : JT P E n l (Hold E K R) (fun a' w' => wpLs P l.toArray (Lift E n Φ) ts a' w') tr ρ K L) (hnd : l.all nodf = true := by rfl) : CJ P E n (.region id l.toArray true) Φ ρ K L := ⟨fun w hs =>
 wp_region_tree tr tail hm hB (Hold E K R) (Hold.sub (Hp.le_refl K) hR hs.drew) hts (h.go _ hs.drew) hnd⟩
end
end
section
abbrev nos : Value := .slice none 0 0
abbrev ii (x : Int) : Value := .int .i64 x
theorem si {α : Type} {a b : α} (h : some a = some b) : a = b := Option.some.inj h
theorem Val.eq {P : Program} {n : Nat} {C : World → Prop} {ρ : Sl0} {o : Oper} {v v' : Value} (h : Val P n C ρ o v') (e : v' = v) : Val P n C ρ o v := e ▸ h
theorem Is.pcells {K : Hp} {e : Tp} {v : Value} {x : Option e.den} (h : Is K (.ptr e) [v] x) : v.cells.toList = [v] := by
 simp only [Is] at h
 rcases h with ⟨_, h⟩ | ⟨_, _, _, _, h, _⟩ <;> (simp only [List.cons.injEq, and_true] at h; subst h; rfl)
section
variable {P : Program} {E : En} {n : Nat} {Φ : Post} {ρ : Sl0} {K : Hp} {L : List Atom} {ops : Array Oper} {rest : List Oper} {d i : Nat} {op : Op} {t : TypeId} {pos : String} {af : Array Edge} {x y : Operand} {vs : Array Value} {C : World → Prop} {N : Sl0 → Prop}
theorem cr {id : Nat} {l : List Oper} {c2 : Code} (h : J P E n l.toArray l (Post.then (fun ρ K L => CJ P E n c2 Φ ρ K L) Φ) ρ K L) (hnd : l.all nodf = true := by rfl) : CJ P E n (.seq (.region id l.toArray false) c2) Φ ρ K L := CJ.seq (CJ.region h hnd)
theorem jv (v : Value) (hv : Val P n (Hold E K L) ρ ⟨some d, op, t, pos, af, none⟩ v) (h : J P E n ops rest Φ (upd ρ d v) K L) : J P E n ops (⟨some d, op, t, pos, af, none⟩ :: rest) Φ ρ K L := J.val rfl rfl hv h
theorem jm (v : Value) (hx : ev n ρ x = v) (h : J P E n ops rest Φ (upd ρ d v) K L) : J P E n ops (⟨some d, .move x, t, pos, af, none⟩ :: rest) Φ ρ K L := J.val rfl rfl (V.mv hx) h
theorem ja (v : Value) (hx : ev n ρ x = v) (h : J P E n ops rest Φ (upd ρ d v) K L) : J P E n ops (⟨some d, .assign x, t, pos, af, none⟩ :: rest) Φ ρ K L := J.val rfl rfl (V.as hx) h
theorem jx (v : Value) (hx : ev n ρ x = .tuple vs) (hv : vs[i]? = some v) (h : J P E n ops rest Φ (upd ρ d v) K L) : J P E n ops (⟨some d, .extract x i, t, pos, af, none⟩ :: rest) Φ ρ K L := J.val rfl rfl (V.ext hx hv) h
theorem qv (v : Value) (hv : Val P n C ρ ⟨some d, op, t, pos, af, none⟩ v) (h : JQ P n ops C rest N (upd ρ d v)) : JQ P n ops C (⟨some d, op, t, pos, af, none⟩ :: rest) N ρ := JQ.val rfl rfl hv h
theorem qm (v : Value) (hx : ev n ρ x = v) (h : JQ P n ops C rest N (upd ρ d v)) : JQ P n ops C (⟨some d, .move x, t, pos, af, none⟩ :: rest) N ρ := JQ.val rfl rfl (V.mv hx) h
theorem qa (v : Value) (hx : ev n ρ x = v) (h : JQ P n ops C rest N (upd ρ d v)) : JQ P n ops C (⟨some d, .assign x, t, pos, af, none⟩ :: rest) N ρ := JQ.val rfl rfl (V.as hx) h
theorem jal {e : TypeId} {z : Value} {sz bt : Nat} (hi : Inf P e z sz bt) (cs : List Value) (hcs : z.cells.toList = cs) (h : ∀ b, J P E n ops rest Φ (upd ρ d (.pointer (some ⟨b, 0, none⟩))) K (Cl b e cs :: L)) : J P E n ops (⟨some d, .alloc e, t, pos, af, none⟩ :: rest) Φ ρ K L :=
 J.op rfl (A.alloc hi hcs) (by rintro _ _ _ ⟨b, rfl, rfl, rfl⟩; exact h b)
theorem jbx {e : TypeId} {v : Value} (cs : List Value) (hx : ev n ρ x = v) (hcs : v.cells.toList = cs) (h : ∀ b, J P E n ops rest Φ (upd ρ d (.pointer (some ⟨b, 0, none⟩))) K (Cl b e cs :: L)) : J P E n ops (⟨some d, .box e x, t, pos, af, none⟩ :: rest) Φ ρ K L :=
 J.op rfl (A.box hx hcs) (by rintro _ _ _ ⟨b, rfl, rfl, rfl⟩; exact h b)
theorem js1 {v : Value} {s e : TypeId} {b o : Nat} {cs : List Value} (cs' : List Value) (hz : (P.info? s).map (·.size) = some 1) (hx : ev n ρ x = .pointer (some ⟨b, o, none⟩)) (hy : ev n ρ y = v) (hl : v.cells = #[v]) (h1 : v.oneCell' = true) (hl2 : Nat.blt o cs.length = true) (hcs : cs.set o v = cs')
   (h : J P E n ops rest Φ ρ K (Cl b e cs' :: L)) : J P E n ops (⟨none, .store s x y, t, pos, af, none⟩ :: rest) Φ ρ K (Cl b e cs :: L) :=
 J.op rfl (A.store1 hz hx hy hl h1 hl2 hcs) (by rintro _ _ _ ⟨rfl, rfl, rfl⟩; exact h)
theorem js {v : Value} {s e : TypeId} {b o sz : Nat} {cs : List Value} (cs' : List Value) (hz : (P.info? s).map (·.size) = some sz) (hx : ev n ρ x = .pointer (some ⟨b, o, none⟩)) (hy : ev n ρ y = v) (hl : v.cells.size = sz) (hl2 : Nat.ble (o + sz) cs.length = true) (h1 : v.cells.toList.all (fun u => u.oneCell') = true) (hcs : cs.take o ++ v.cells.toList ++ cs.drop (o + sz) = cs')
   (h : J P E n ops rest Φ ρ K (Cl b e cs' :: L)) : J P E n ops (⟨none, .store s x y, t, pos, af, none⟩ :: rest) Φ ρ K (Cl b e cs :: L) :=
 J.op rfl (A.store hz hx hy hl hl2 h1 hcs) (by rintro _ _ _ ⟨rfl, rfl, rfl⟩; exact h)
theorem cc {α : Type} {c : Operand} {a b : Code} {u : Bool} {m1 m2 : Option α} {r : α} (hc : ev n ρ c = .bool u) (h : cond u m1 m2 = some r) (ht : u = true → m1 = some r → CJ P E n a Φ ρ K L) (hf : u = false → m2 = some r → CJ P E n b Φ ρ K L) : CJ P E n (.cond c a b) Φ ρ K L :=
 CJ.cond hc (fun e => ht e (ct e h)) (fun e => hf e (cf e h))
theorem jmeet (l : List (Nat × Value)) {m : List Oper} {N : Sl0 → Hp → List Atom → Prop} (h1 : J P E n ops m (fun e ρ' K' L' => e = .normal ∧ Fits l ρ' ∧ K = K' ∧ L = L') ρ K L) (h2 : ∀ σ, N (ups l σ) K L) : J P E n ops m (Post.then N Φ) ρ K L :=
 J.meet (fun ρ' K' L' => Fits l ρ' ∧ K = K' ∧ L = L') h1 (by rintro ρ' _ _ ⟨hf, rfl, rfl⟩; obtain ⟨σ, rfl⟩ := hf.ex; exact h2 σ)
end
end
section
section
variable {P : Program} {E : En} {n : Nat} {Φ : Post} {ρ : Sl0} {K : Hp} {L : List Atom}
def RJ (P : Program) (E : En) (n : Nat) (c : Code) (Φ : Post) : Nat → Sl0 → Hp → List Atom → Prop
 | 0, _, _, _ => False
 | m + 1, ρ, K, L => CJ P E n c (Post.then (RJ P E n c Φ m) Φ) ρ K L
theorem RJ.next {m : Nat} {c : Code} (h : CJ P E n c (Post.then (RJ P E n c Φ m) Φ) ρ K L) : RJ P E n c Φ (m + 1) ρ K L := h
theorem CJ.unroll (m : Nat) {c : Code} (h : RJ P E n c Φ m ρ K L) : CJ P E n (.loop c) Φ ρ K L := by
 refine ⟨fun w hs => wpIn_loop_rounds m ?_⟩
 induction m generalizing ρ K L w with
 | zero => exact h.elim
 | succ m ih =>
   rw [roundsIn_succ]
   refine wpIn_mono (CJ.go h w hs) ?_
   rintro e a' w'' ⟨ρ', K', L', rfl, hs', hΦ⟩
   cases e with
   | normal => exact ih hΦ w'' hs'
   | _ => exact ⟨ρ', K', L', rfl, hs', hΦ⟩
end
section
variable {P : Program} {E : En} {n : Nat} {ρ : Sl0} {K : Hp} {L : List Atom} {d : Nat} {t : TypeId} {pos : String} {af : Array Edge} {g : Option (Nat × Bool)} {x y c : Operand} {u v : Value}
theorem A.litC {s e : TypeId} {z : Value} {sz bt len : Nat} {parts : Array (Nat × Operand)} {cs : List Value} (hs : P.underlying s = some (.slice e)) (hi : Inf P e z sz bt) (hbig : len * sz ≤ 16777216)
   (hzs : z.cells.size = sz) (hc0 : fillL (fun i => some (i * sz, sz)) (zrow len z.cells.toList) (parts.toList.map fun (i, x) => (i, ev n ρ x)) = some cs) (hpos : 0 < len * sz) :
   Ao P E n ⟨some d, .buildSlice s len parts, t, pos, af, g⟩ ρ K L (fun ρ' K' L' => ∃ b, ρ' = upd ρ d (.slice (some ⟨b, 0, none⟩) len len) ∧ K = K' ∧ L' = Cl b e cs :: L) :=
 Ao.of rfl (fun w hsep => by
   obtain ⟨i, h1, h2, h3, _⟩ := hi.open
   have h0 : 0 < sz := Nat.pos_of_ne_zero (fun h => by rw [h, Nat.mul_zero] at hpos; omega)
   have hc : Instr.fill (fun i => some (i * sz, sz)) ((Array.range (len * sz)).map (z.cells[· % z.cells.size]!)) (parts.map fun (i, x) => (i, ev n ρ x)).toList = some cs.toArray := by
     have e := zrow_eq z.cells (by omega) len
     rw [hzs] at e
     simp only [hzs]
     rw [e]
     apply fill_of
     simpa using hc0
   refine ⟨.slice (some ⟨w.heap.size, 0, none⟩) len len, _, K, _, ?_, Sep.alloc hsep e cs.toArray, w.heap.size, rfl, rfl, by simp⟩
   have hb : ¬ (2 ^ 24 < len * sz) := by omega
   have hc' : Instr.fill (fun i => some (i * sz, sz)) ((Array.range (len * sz)).map (z.cells[· % z.cells.size]!)) (List.map (fun x => (x.1, ev n ρ x.2)) parts.toList) = some cs.toArray := by simpa using hc
   have hm : len ≠ 0 ∧ sz ≠ 0 := ⟨fun h => by rw [h, Nat.zero_mul] at hpos; omega, by omega⟩
   have hn : ¬ len * sz = 0 := by omega
   simp [execOp, Instr.buildSlice, run_underlying hs, sizeOf, typeInfo, h1, h2, h3, zeroValue, newRow, hb, hc']
   try (intro h; exact absurd h hn))
end
end
section
def Post.scope (Φ : Post) : Post
 | .goto _, _, _, _ => False
 | e, ρ, K, L => Φ e ρ K L
section
variable {P : Program} {b : Frame} {a : Act} {k : List Item} {cs : List Frame} {w : World} {F : Fence} {m : Nat} {Q : Exit → Act → World → Prop}
theorem stepR_scope {c : Code} : step P (lone (b.atR a (.code (.scope c) :: k)) cs w) = .next (lone (b.atR a (.code c :: .inScope c :: k)) cs w) :=
 step_lone_go (by simp [stepG, stepG.exec, Frame.atR])
theorem stepR_inScope {c : Code} : step P (lone (b.atR a (.inScope c :: k)) cs w) = .next (lone (b.atR a k) cs w) :=
 step_lone_go (by simp [stepG, stepG.exec, Frame.atR])
theorem wpIn_scope_straight {c : Code} (h : c.wpIn F m P (Exit.noGoto Q) a w) : (Code.scope c).wpIn F m P Q a w := by
 intro b k cs hro hb hr
 have h0 : (lone (b.atR a (.code (.scope c) :: k)) cs w).fenced P F := fenced_calm hb hr rfl
 obtain ⟨e, a₁, w₁, hq, harr⟩ := h b (.inScope c :: k) cs hro hb hr
 cases e with
 | normal => exact ⟨.normal, a₁, w₁, hq, .head h0 stepR_scope (StepsIn.trans harr (.one (fenced_calm hb hr rfl) stepR_inScope))⟩
 | exit id =>
   have hx : exitTo id (.inScope c :: k) = exitTo id k := by simp [exitTo]
   exact ⟨.exit id, a₁, w₁, hq, fun k' hk => .head h0 stepR_scope (harr.1 k' (by rw [hx]; exact hk)),
     fun hr' hk => let ⟨k₁, h1, h2⟩ := harr.2 hr' (by rw [hx]; exact hk); ⟨k₁, h1, .head h0 stepR_scope h2⟩⟩
 | goto l => exact hq.elim
 | ret => exact ⟨_, a₁, w₁, hq, .of_steps (.one h0 stepR_scope) harr⟩
 | panic ch => exact ⟨_, a₁, w₁, hq, .of_steps (.one h0 stepR_scope) harr⟩
 | outgrown => exact ⟨_, a₁, w₁, hq, .of_steps (.one h0 stepR_scope) harr⟩
end
section
variable {P : Program} {E : En} {n : Nat} {Φ : Post} {ρ : Sl0} {K : Hp} {L : List Atom}
theorem CJ.scope {c : Code} (h : CJ P E n c (Post.scope Φ) ρ K L) : CJ P E n (.scope c) Φ ρ K L := ⟨fun w hs =>
 wpIn_scope_straight (wpIn_mono (h.go w hs) (fun e a w hl => by
   obtain ⟨ρ, K, L, ha, hs, hΦ⟩ := hl
   subst ha
   cases e with
   | goto l => exact hΦ
   | _ => exact ⟨ρ, K, L, rfl, hs, hΦ⟩))⟩
theorem CJ.label {l : Nat} (h : Φ .normal ρ K L) : CJ P E n (.label l) Φ ρ K L := ⟨fun w hs => wpIn_label ⟨ρ, K, L, rfl, hs, h⟩⟩
end
end
set_option linter.unusedSectionVars false
set_option linter.unusedSimpArgs false
set_option linter.unnecessarySimpa false
section
theorem Sep.allocN {E : En} {K : Hp} {L : List Atom} {w : World} (h : Sep E K L w) (ob : Obj) : Sep E K ((fun h => h = Go.Proofs.YtmlbbjkojaljnaaDoor.one w.heap.size ob) :: L) (w.alloc ob) :=
 Sep.turn h.emp (fun e => e) (fun h0 ha _ => by
   unfold _root_.Go.Proofs.YtmlbbjkojaljnaaDoor.emp at ha; subst ha
   refine ⟨_, rfl, fun n o e => ?_, fun n o e _ => ?_⟩
   · obtain ⟨rfl, rfl⟩ := one_some e
     exact ⟨by simpa using alloc_new w _, fun _ => Array.getElem?_eq_none (Nat.le_refl _)⟩
   · rw [Below.heap_alloc _ _ _ (lt_of_block e)]; exact e)
inductive OT where
 | dat (t : Tp)
 | row (e : TypeId) (a : OT)
 | box (e : TypeId) (a : OT)
 | one (a : OT)
 | cons (a r : OT)
 | obj (n : Nat) (u : Tp)
 | chn (a : OT)
def OT.tp : OT → Tp
 | .dat t => t
 | .row _ a => .sl a.tp
 | .box _ a => .ptr a.tp
 | .one a => .one a.tp
 | .cons a r => .cons a.tp r.tp
 | .obj _ u => .ptr u
 | .chn a => .ptr (.cons (.int .i64) (.one (.sl a.tp)))
def EEls {α : Type} (f : List Value → α → Atom) : List Value → List α → Atom
 | cs, [] => fun h => cs = [] ∧ h = Hp.nil
 | cs, x :: xs => fun h => ∃ es r, cs = es ++ r ∧ star (f es x) (EEls f r xs) h
def tcs : (t : Tp) → t.den → List Value
 | .int k, x => [.int k x]
 | .bool, x => [.bool x]
 | .str, x => [.string ⟨List.toArray (α := UInt8) x⟩]
 | .one a, x => tcs a x
 | .cons a r, x => tcs a x.1 ++ tcs r x.2
 | _, _ => []
def keyV : (t : Tp) → t.den → Value
 | .int k, x => .int k x
 | .bool, x => .bool x
 | .str, x => .string ⟨List.toArray (α := UInt8) x⟩
 | t, x => .agg (tcs t x).toArray
def Brn (es : Array MapEntry) (clock : Nat) : Prop := (es.toList.map (·.born)).Nodup ∧ ∀ e ∈ es.toList, e.born < clock
def ObjR : Nat → (u : Tp) → u.den → Obj → Prop
 | 0, .sl (.cons kt (.one (.int .i64))), l, o => ∃ es clock, o = .map es clock ∧ es.toList.map (fun e => (e.key, e.val)) = List.map (fun p : kt.den × Int => (keyV kt p.1, Value.int .i64 p.2)) l ∧ Brn es clock
 | 1, .cons (.int .i64) (.one (.sl t)), x, o => ∃ buf sent rcvd, o = .chan (Int.toNat x.1) buf false sent rcvd false ∧ (0 : Int) ≤ x.1 ∧ buf.toList = List.map (keyV t) x.2
 | _, _, _, _ => False
def objNil : Nat → Value
 | 0 => .map none
 | _ => .chan none
def objVal : Nat → Nat → Value
 | 0, r => .map (some r)
 | _, r => .chan (some r)
theorem objNil_one (n : Nat) : (objNil n).oneCell' = true := by unfold objNil; split <;> rfl
theorem objVal_one (n r : Nat) : (objVal n r).oneCell' = true := by unfold objVal; split <;> rfl
def OT.own (K0 : Hp) : (o : OT) → List Value → o.tp.den → Atom
 | .dat t, cs, x => fun h => Is K0 t cs x ∧ h = Hp.nil
 | .row e a, cs, x => fun h => ∃ v vs, cs = [v] ∧ star (Rw e a.tp.size v (List.length (α := a.tp.den) x) vs) (EEls (OT.own K0 a) vs x) h
 | .box e a, cs, x => fun h => match (x : Option a.tp.den) with
   | none => cs = [.pointer none] ∧ h = Hp.nil
   | some y => ∃ b vs, cs = [.pointer (some ⟨b, 0, none⟩)] ∧ star (Cl b e vs) (OT.own K0 a vs y) h
 | .one a, cs, x => OT.own K0 a cs x
 | .cons a r, cs, x => fun h => ∃ c1 c2, cs = c1 ++ c2 ∧ c1.length = a.tp.size ∧ star (OT.own K0 a c1 x.1) (OT.own K0 r c2 x.2) h
 | .obj n u, cs, x => fun h => match (x : Option u.den) with
   | none => cs = [objNil n] ∧ h = Hp.nil
   | some y => ∃ r o, cs = [objVal n r] ∧ ObjR n u y o ∧ h = Go.Proofs.YtmlbbjkojaljnaaDoor.one r o
 | .chn a, cs, x => fun h => match (x : Option (Int × List a.tp.den)) with
   | none => cs = [.chan none] ∧ h = Hp.nil
   | some y => ∃ r buf sent rcvd, cs = [.chan (some r)] ∧ (0 : Int) ≤ y.1 ∧ a.tp.size = 1 ∧ star (fun h => h = Go.Proofs.YtmlbbjkojaljnaaDoor.one r (.chan (Int.toNat y.1) buf false sent rcvd false)) (EEls (OT.own K0 a) buf.toList y.2) h
def OT.pos : OT → Bool
 | .dat _ => true
 | .row _ a => Nat.blt 0 a.tp.size && a.pos
 | .box _ a => a.pos
 | .one a => a.pos
 | .cons a r => a.pos && r.pos
 | .obj _ _ => false
 | .chn _ => false
def OT.flat : OT → Bool
 | .dat t => t.flat
 | .row _ a => a.flat
 | .box _ a => a.flat
 | .one a => a.flat
 | .cons a r => a.flat && r.flat
 | .obj _ _ => true
 | .chn a => a.flat
theorem star_nil {A B : Atom} (ha : A Hp.nil) (hb : B Hp.nil) : star A B Hp.nil := ⟨Hp.nil, Hp.nil, ha, hb, (fun n o e => by cases e), (Hp.join_nil Hp.nil).symm⟩
theorem star_mono {A B A' B' : Atom} {h : Hp} (ha : ∀ h, A h → A' h) (hb : ∀ h, B h → B' h) : star A B h → star A' B' h := fun ⟨h1, h2, a, b, d, e⟩ => ⟨h1, h2, ha _ a, hb _ b, d, e⟩
theorem OT.own_len {K0 : Hp} : ∀ (o : OT) {cs : List Value} {x : o.tp.den} {h : Hp}, o.own K0 cs x h → cs.length = o.tp.size
 | .dat t, cs, x, h, k => k.1.len
 | .row e a, cs, x, h, k => by obtain ⟨v, vs, rfl, _⟩ := k; rfl
 | .box e a, cs, x, h, k => by
   unfold OT.own at k
   split at k
   · rw [k.1]; rfl
   · obtain ⟨b, vs, rfl, _⟩ := k; rfl
 | .obj n u, cs, x, h, k => by
   unfold OT.own at k
   split at k
   · rw [k.1]; rfl
   · obtain ⟨r, o, rfl, _⟩ := k; rfl
 | .chn a, cs, x, h, k => by
   unfold OT.own at k
   split at k
   · rw [k.1]; rfl
   · obtain ⟨r, b, s, c, rfl, _⟩ := k; rfl
 | .one a, cs, x, h, k => by have := OT.own_len a (x := x) k; simpa [OT.tp, Tp.size] using this
 | .cons a r, cs, x, h, k => by
   obtain ⟨c1, c2, rfl, h1, p, q, _, h2, _⟩ := k
   have := OT.own_len r h2
   simp [OT.tp, Tp.size, h1, this]
section
variable {α : Type} {f g : List Value → α → Atom} {E : En} {K : Hp} {L : List Atom} {w : World}
theorem EEls.mono (hf : ∀ es x h, f es x h → g es x h) : ∀ {xs : List α} {cs : List Value} {h : Hp}, EEls f cs xs h → EEls g cs xs h
 | [], cs, h, k => k
 | x :: xs, cs, h, ⟨es, r, e, k⟩ => ⟨es, r, e, star_mono (hf es x) (fun h k => EEls.mono hf k) k⟩
theorem EEls.len {k : Nat} (hf : ∀ es x h, f es x h → es.length = k) : ∀ {xs : List α} {cs : List Value} {h : Hp}, EEls f cs xs h → cs.length = xs.length * k
 | [], cs, h, q => by rw [q.1]; simp
 | x :: xs, cs, h, ⟨es, r, e, h1, h2, a, b, _, _⟩ => by
   rw [e, List.length_append, hf es x h1 a, EEls.len hf b, List.length_cons, Nat.succ_mul]; omega
theorem Sep.rot3 {A B C : Atom} (h : Sep E K (A :: B :: C :: L) w) : Sep E K (B :: C :: A :: L) w := Sep.front 2 rfl (Sep.front 2 rfl h)
theorem Sep.rot4 {A B C D : Atom} (h : Sep E K (A :: B :: C :: D :: L) w) : Sep E K (B :: C :: D :: A :: L) w := Sep.front 3 rfl (Sep.front 3 rfl (Sep.front 3 rfl h))
theorem Sep.openEls {k : Nat} (hf : ∀ es x h, f es x h → es.length = k) : ∀ {xs : List α} {cs : List Value} {L : List Atom} (j : Nat) {x : α}, xs[j]? = some x → Sep E K (EEls f cs xs :: L) w →
   ∃ c1 es c2, cs = c1 ++ (es ++ c2) ∧ c1.length = j * k ∧ es.length = k ∧ Sep E K (EEls f c1 (xs.take j) :: f es x :: EEls f c2 (xs.drop (j + 1)) :: L) w
 | [], cs, L, j, x, hx, h => by simp at hx
 | y :: xs, cs, L, 0, x, hx, h => by
   simp at hx; subst hx
   obtain ⟨h0, ⟨es, r, rfl, hst⟩, hd, hs⟩ := h
   have h1 : Sep E K (f es y :: EEls f r xs :: L) w := Sep.split ⟨h0, hst, hd, hs⟩
   have hl := h1.fact (fun h k => hf es y h k)
   refine ⟨[], es, r, rfl, by simp, hl, ?_⟩
   exact h1.emp.mono (fun h k => ⟨rfl, k⟩)
 | y :: xs, cs, L, j + 1, x, hx, h => by
   obtain ⟨h0, ⟨ey, r, rfl, hst⟩, hd, hs⟩ := h
   have h1 : Sep E K (f ey y :: EEls f r xs :: L) w := Sep.split ⟨h0, hst, hd, hs⟩
   have hl := h1.fact (fun h k => hf ey y h k)
   obtain ⟨c1, es, c2, rfl, h2, h3, h4⟩ := Sep.openEls hf (L := f ey y :: L) j (by simpa using hx) h1.swap
   refine ⟨ey ++ c1, es, c2, by simp, by rw [List.length_append, hl, h2, Nat.succ_mul]; omega, h3, ?_⟩
   have h5 : Sep E K (star (f ey y) (EEls f c1 (xs.take j)) :: f es x :: EEls f c2 (xs.drop (j + 1)) :: L) w := Sep.join (Sep.front 3 rfl h4)
   exact h5.mono (fun h k => ⟨ey, c1, rfl, k⟩)
theorem Sep.closeEls : ∀ {pre : List α} {c1 es c2 : List Value} {x : α} {post : List α} {L : List Atom}, Sep E K (EEls f c1 pre :: f es x :: EEls f c2 post :: L) w → Sep E K (EEls f (c1 ++ (es ++ c2)) (pre ++ x :: post) :: L) w
 | [], c1, es, c2, x, post, L, h => by
   have hc : c1 = [] := h.fact (fun h k => k.1)
   subst hc
   exact (Sep.join h.drop).mono (fun h k => ⟨es, c2, rfl, k⟩)
 | y :: pre, c1, es, c2, x, post, L, h => by
   obtain ⟨h0, ⟨a, r, rfl, hst⟩, hd, hs⟩ := h
   have h1 : Sep E K (f a y :: EEls f r pre :: f es x :: EEls f c2 post :: L) w := Sep.split ⟨h0, hst, hd, hs⟩
   have h2 := Sep.closeEls (L := f a y :: L) h1.rot4
   exact (Sep.join h2.swap).mono (fun h k => ⟨a, r ++ (es ++ c2), by simp, k⟩)
theorem Sep.appEls : ∀ {xs : List α} {c1 c2 : List Value} {ys : List α} {L : List Atom}, Sep E K (EEls f c1 xs :: EEls f c2 ys :: L) w → Sep E K (EEls f (c1 ++ c2) (xs ++ ys) :: L) w
 | [], c1, c2, ys, L, h => by
   have hc : c1 = [] := h.fact (fun h k => k.1)
   subst hc
   exact h.drop
 | x :: xs, c1, c2, ys, L, h => by
   obtain ⟨h0, ⟨a, r, rfl, hst⟩, hd, hs⟩ := h
   have h1 : Sep E K (f a x :: EEls f r xs :: EEls f c2 ys :: L) w := Sep.split ⟨h0, hst, hd, hs⟩
   have h2 := Sep.appEls (L := f a x :: L) h1.rot3
   exact (Sep.join h2.swap).mono (fun h k => ⟨a, r ++ c2, by simp, k⟩)
theorem EEls.zero {z : List Value} {x : α} (h : f z x Hp.nil) : ∀ n, EEls f ((List.replicate n z).flatten) (List.replicate n x) Hp.nil
 | 0 => ⟨rfl, rfl⟩
 | n + 1 => ⟨z, (List.replicate n z).flatten, by simp [List.replicate_succ], star_nil h (EEls.zero h n)⟩
end
theorem OT.own_mono {K0 K1 : Hp} (hk : K0.le K1) : ∀ (o : OT) {cs : List Value} {x : o.tp.den} {h : Hp}, o.own K0 cs x h → o.own K1 cs x h
 | .dat t, cs, x, h, k => ⟨k.1.mono hk, k.2⟩
 | .row e a, cs, x, h, ⟨v, vs, e1, k⟩ => ⟨v, vs, e1, star_mono (fun _ k => k) (fun h k => EEls.mono (fun es x h k => OT.own_mono hk a k) k) k⟩
 | .box e a, cs, x, h, k => by
   unfold OT.own at k ⊢
   split at k
   · exact k
   · obtain ⟨b, vs, e1, k⟩ := k
     exact ⟨b, vs, e1, star_mono (fun _ k => k) (fun h k => OT.own_mono hk a k) k⟩
 | .obj n u, cs, x, h, k => by unfold OT.own at k ⊢; exact k
 | .chn a, cs, x, h, k => by
   unfold OT.own at k ⊢
   split at k
   · exact k
   · obtain ⟨r, b, s, c, e1, e2, e3, k⟩ := k
     exact ⟨r, b, s, c, e1, e2, e3, star_mono (fun _ k => k) (fun h k => EEls.mono (fun es x h k => OT.own_mono hk a k) k) k⟩
 | .one a, cs, x, h, k => OT.own_mono hk a (x := x) k
 | .cons a r, cs, x, h, ⟨c1, c2, e1, e2, k⟩ => ⟨c1, c2, e1, e2, star_mono (fun _ k => OT.own_mono hk a k) (fun _ k => OT.own_mono hk r k) k⟩
theorem OT.own_flat {K0 K1 : Hp} : ∀ (o : OT) (hf : o.flat = true) {cs : List Value} {x : o.tp.den} {h : Hp}, o.own K0 cs x h → o.own K1 cs x h
 | .dat t, hf, cs, x, h, k => ⟨Is.flat hf k.1, k.2⟩
 | .row e a, hf, cs, x, h, ⟨v, vs, e1, k⟩ => ⟨v, vs, e1, star_mono (fun _ k => k) (fun h k => EEls.mono (fun es x h k => OT.own_flat a hf k) k) k⟩
 | .box e a, hf, cs, x, h, k => by
   unfold OT.own at k ⊢
   split at k
   · exact k
   · obtain ⟨b, vs, e1, k⟩ := k
     exact ⟨b, vs, e1, star_mono (fun _ k => k) (fun h k => OT.own_flat a hf k) k⟩
 | .obj n u, hf, cs, x, h, k => by unfold OT.own at k ⊢; exact k
 | .chn a, hf, cs, x, h, k => by
   unfold OT.own at k ⊢
   split at k
   · exact k
   · obtain ⟨r, b, s, c, e1, e2, e3, k⟩ := k
     exact ⟨r, b, s, c, e1, e2, e3, star_mono (fun _ k => k) (fun h k => EEls.mono (fun es x h k => OT.own_flat a hf k) k) k⟩
 | .one a, hf, cs, x, h, k => OT.own_flat a hf (x := x) k
 | .cons a r, hf, cs, x, h, ⟨c1, c2, e1, e2, k⟩ => by
   simp only [OT.flat, Bool.and_eq_true] at hf
   exact ⟨c1, c2, e1, e2, star_mono (fun _ k => OT.own_flat a hf.1 k) (fun _ k => OT.own_flat r hf.2 k) k⟩
theorem EEls.els {K' : Hp} {t : Tp} {f : List Value → t.den → Atom} (hf : ∀ es x h, f es x h → h.le K' → Is K' t es x) : ∀ {xs : List t.den} {cs : List Value} {h : Hp}, EEls f cs xs h → h.le K' → Els K' t cs xs
 | [], cs, h, k, _ => k.1
 | x :: xs, cs, h, ⟨es, r, e, h1, h2, a, b, d, e2⟩, hl => by
   subst e2
   refine ⟨es, r, e, hf es x h1 a ((Hp.le_join h1 h2).trans hl), EEls.els hf b (fun n o q => hl n o (Hp.join_right q (d n o q)))⟩
theorem OT.own_is {K0 K' : Hp} (hk : K0.le K') : ∀ (o : OT) (hp : o.pos = true) {cs : List Value} {x : o.tp.den} {h : Hp}, o.own K0 cs x h → h.le K' → Is K' o.tp cs x
 | .dat t, hp, cs, x, h, k, hl => k.1.mono hk
 | .row e a, hp, cs, x, h, ⟨v, vs, e1, h1, h2, k1, k2, d, e2⟩, hl => by
   subst e1 e2
   simp only [OT.pos, Bool.and_eq_true, Nat.blt_eq] at hp
   have he := EEls.els (K' := K') (fun es x h k hl => OT.own_is hk a hp.2 k hl) k2 (fun n o q => hl n o (Hp.join_right q (d n o q)))
   exact Row.is (K := K') (e := e) (K0 := h1) ⟨vs, he, k1⟩ (Hp.le_refl _) ((Hp.le_join h1 h2).trans hl) hp.1
 | .box e a, hp, cs, x, h, k, hl => by
   unfold OT.own at k
   split at k
   · exact .inl ⟨rfl, k.1⟩
   · rename_i y
     obtain ⟨b, vs, rfl, h1, h2, k1, k2, d, rfl⟩ := k
     have hi := OT.own_is hk a hp k2 (fun n o q => hl n o (Hp.join_right q (d n o q)))
     refine .inr ⟨y, b, 0, rfl, rfl, vs, hi.len, hi, fun j hj => ?_⟩
     have hj' : j < vs.length := by rw [hi.len]; exact hj
     have hb : K' b = some (.cells vs.toArray e (0, 0)) := ((Hp.le_join h1 h2).trans hl) b _ (by obtain rfl : h1 = Go.Proofs.YtmlbbjkojaljnaaDoor.one b (.cells vs.toArray e (0, 0)) := k1; simp [Go.Proofs.YtmlbbjkojaljnaaDoor.one])
     simp [cellK, hb]
 | .obj n u, hp, cs, x, h, k, hl => by simp [OT.pos] at hp
 | .chn a, hp, cs, x, h, k, hl => by simp [OT.pos] at hp
 | .one a, hp, cs, x, h, k, hl => OT.own_is hk a hp (x := x) k hl
 | .cons a r, hp, cs, x, h, ⟨c1, c2, e1, e2, h1, h2, k1, k2, d, e3⟩, hl => by
   subst e1 e3
   simp only [OT.pos, Bool.and_eq_true] at hp
   exact ⟨c1, c2, rfl, e2, OT.own_is hk a hp.1 k1 ((Hp.le_join h1 h2).trans hl), OT.own_is hk r hp.2 k2 (fun n o q => hl n o (Hp.join_right q (d n o q)))⟩
theorem EEls.dat {K0 : Hp} {t : Tp} : ∀ {xs : List t.den} {cs : List Value} {h : Hp}, EEls (OT.own K0 (.dat t)) cs xs h → Els K0 t cs xs ∧ h = Hp.nil
 | [], cs, h, k => k
 | x :: xs, cs, h, ⟨es, r, e, h1, h2, a, b, d, e2⟩ => by
   obtain ⟨q1, q2⟩ := EEls.dat b
   obtain ⟨a1, a2⟩ := a
   refine ⟨⟨es, r, e, a1, q1⟩, ?_⟩
   rw [e2, a2, q2]; exact Hp.join_nil _
theorem EEls.dat' {K0 : Hp} {t : Tp} : ∀ {xs : List t.den} {cs : List Value}, Els K0 t cs xs → EEls (OT.own K0 (.dat t)) cs xs Hp.nil
 | [], cs, k => ⟨k, rfl⟩
 | x :: xs, cs, ⟨es, r, e, a, b⟩ => ⟨es, r, e, star_nil ⟨a, rfl⟩ (EEls.dat' b)⟩
section
variable {E : En} {K K0 : Hp} {L : List Atom} {w : World} {e : TypeId} {v : Value}
theorem Sep.persistO {o : OT} {cs : List Value} {x : o.tp.den} (hp : o.pos = true) (hk : K0.le K) (hs : Sep E K (o.own K0 cs x :: L) w) : ∃ K', K.le K' ∧ Is K' o.tp cs x ∧ Sep E K' L w := by
 obtain ⟨h, ha, hd, hs⟩ := hs
 exact ⟨K.join h, Hp.le_join K h, OT.own_is (hk.trans (Hp.le_join K h)) o hp ha (fun n o e => Hp.join_right e (hd n o e)), hs⟩
theorem Sep.ownRow {a : OT} {cs : List Value} {xs : List a.tp.den} (h : Sep E K (OT.own K0 (.row e a) cs (xs : (OT.row e a).tp.den) :: L) w) : ∃ v vs, cs = [v] ∧ Sep E K (Rw e a.tp.size v xs.length vs :: EEls (OT.own K0 a) vs xs :: L) w := by
 obtain ⟨h0, ⟨v, vs, e1, hst⟩, hd, hs⟩ := h
 exact ⟨v, vs, e1, Sep.split ⟨h0, hst, hd, hs⟩⟩
theorem Sep.ownRow' {a : OT} {vs : List Value} {xs : List a.tp.den} (h : Sep E K (Rw e a.tp.size v xs.length vs :: EEls (OT.own K0 a) vs xs :: L) w) : Sep E K (OT.own K0 (.row e a) [v] (xs : (OT.row e a).tp.den) :: L) w :=
 (Sep.join h).mono (fun h k => ⟨v, vs, rfl, k⟩)
theorem Sep.ownDat {t : Tp} {cs : List Value} {x : t.den} (h : Sep E K (OT.own K0 (.dat t) cs (x : (OT.dat t).tp.den) :: L) w) : Is K0 t cs x ∧ Sep E K L w := ⟨h.fact (fun h k => k.1), h.drop⟩
theorem Sep.ownDat' {t : Tp} {cs : List Value} {x : t.den} (hi : Is K0 t cs x) (h : Sep E K L w) : Sep E K (OT.own K0 (.dat t) cs (x : (OT.dat t).tp.den) :: L) w := h.emp.mono (fun h k => ⟨hi, k⟩)
theorem Sep.ownLeaf {t : Tp} {cs : List Value} {xs : List t.den} (h : Sep E K (OT.own K0 (.row e (.dat t)) cs (xs : (OT.row e (.dat t)).tp.den) :: L) w) : ∃ v vs, cs = [v] ∧ Els K0 t vs xs ∧ Sep E K (Rw e t.size v xs.length vs :: L) w := by
 obtain ⟨v, vs, e1, h1⟩ := Sep.ownRow h
 exact ⟨v, vs, e1, h1.swap.fact (fun h k => (EEls.dat k).1), h1.swap.drop⟩
theorem Sep.ownLeaf' {t : Tp} {vs : List Value} {xs : List t.den} (hi : Els K0 t vs xs) (h : Sep E K (Rw e t.size v xs.length vs :: L) w) : Sep E K (OT.own K0 (.row e (.dat t)) [v] (xs : (OT.row e (.dat t)).tp.den) :: L) w :=
 Sep.ownRow' (a := .dat t) (vs := vs) (h.emp.mono (fun h (e : h = Hp.nil) => by subst e; exact EEls.dat' hi)).swap
theorem Sep.ownCons {a r : OT} {cs : List Value} {x : (OT.cons a r).tp.den} (h : Sep E K ((OT.cons a r).own K0 cs x :: L) w) : ∃ c1 c2, cs = c1 ++ c2 ∧ c1.length = a.tp.size ∧ Sep E K (a.own K0 c1 x.1 :: r.own K0 c2 x.2 :: L) w := by
 obtain ⟨h0, ⟨c1, c2, rfl, hl, hst⟩, hd, hs⟩ := h
 exact ⟨c1, c2, rfl, hl, Sep.split ⟨h0, hst, hd, hs⟩⟩
theorem Sep.ownCons' {a r : OT} {c1 c2 : List Value} {x : a.tp.den} {y : r.tp.den} (h : Sep E K (a.own K0 c1 x :: r.own K0 c2 y :: L) w) : Sep E K ((OT.cons a r).own K0 (c1 ++ c2) ((x, y) : (OT.cons a r).tp.den) :: L) w := by
 have hl := h.fact (fun h k => OT.own_len a k)
 exact (Sep.join h).mono (fun h k => ⟨c1, c2, rfl, hl, k⟩)
theorem Sep.ownBox {a : OT} {cs : List Value} {y : a.tp.den} (h : Sep E K (OT.own K0 (.box e a) cs (some y : (OT.box e a).tp.den) :: L) w) : ∃ b vs, cs = [.pointer (some ⟨b, 0, none⟩)] ∧ Sep E K (Cl b e vs :: a.own K0 vs y :: L) w := by
 obtain ⟨h0, ⟨b, vs, e1, hst⟩, hd, hs⟩ := h
 exact ⟨b, vs, e1, Sep.split ⟨h0, hst, hd, hs⟩⟩
theorem Sep.ownBox' {a : OT} {b : Nat} {vs : List Value} {y : a.tp.den} (h : Sep E K (Cl b e vs :: a.own K0 vs y :: L) w) : Sep E K (OT.own K0 (.box e a) [.pointer (some ⟨b, 0, none⟩)] (some y : (OT.box e a).tp.den) :: L) w :=
 (Sep.join h).mono (fun h k => ⟨b, vs, rfl, k⟩)
theorem Sep.ownNil {a : OT} (h : Sep E K L w) : Sep E K (OT.own K0 (.box e a) [.pointer none] (none : (OT.box e a).tp.den) :: L) w := h.emp.mono (fun h k => ⟨rfl, k⟩)
def HoleA (K0 : Hp) (e : TypeId) (o : OT) (v : Value) (l : List o.tp.den) (j : Nat) (es : List Value) : Atom := fun h =>
 ∃ c1 c2, c1.length = j * o.tp.size ∧ star (Rw e o.tp.size v l.length (c1 ++ (es ++ c2))) (star (EEls (o.own K0) c1 (l.take j)) (EEls (o.own K0) c2 (l.drop (j + 1)))) h
theorem Sep.openH {o : OT} {xs : List o.tp.den} {j : Nat} {x : o.tp.den} (hx : xs[j]? = some x) (h : Sep E K (OT.own K0 (.row e o) [v] (xs : (OT.row e o).tp.den) :: L) w) :
   ∃ es, es.length = o.tp.size ∧ Sep E K (HoleA K0 e o v xs j es :: o.own K0 es x :: L) w := by
 obtain ⟨v', vs, e1, h1⟩ := Sep.ownRow h
 cases e1
 obtain ⟨c1, es, c2, rfl, h2, h3, h4⟩ := Sep.openEls (L := Rw e o.tp.size v xs.length vs :: L) (fun es x h k => OT.own_len o k) j hx h1.swap
 refine ⟨es, h3, ?_⟩
 have h5 : Sep E K (star (EEls (o.own K0) c1 (xs.take j)) (EEls (o.own K0) c2 (xs.drop (j + 1))) :: o.own K0 es x :: Rw e o.tp.size v xs.length (c1 ++ (es ++ c2)) :: L) w := Sep.join (Sep.front 2 rfl h4).swap
 exact (Sep.join (Sep.front 2 rfl h5)).mono (fun h k => ⟨c1, c2, h2, k⟩)
theorem Sep.closeH {o : OT} {xs : List o.tp.den} {j : Nat} {y : o.tp.den} {es : List Value} (hj : j < xs.length) (h : Sep E K (HoleA K0 e o v xs j es :: o.own K0 es y :: L) w) :
   Sep E K (OT.own K0 (.row e o) [v] (xs.set j y : (OT.row e o).tp.den) :: L) w := by
 obtain ⟨h0, ⟨c1, c2, hc, hst⟩, hd, hs⟩ := h
 have h1 : Sep E K (Rw e o.tp.size v xs.length (c1 ++ (es ++ c2)) :: star (EEls (o.own K0) c1 (xs.take j)) (EEls (o.own K0) c2 (xs.drop (j + 1))) :: o.own K0 es y :: L) w := Sep.split ⟨h0, hst, hd, hs⟩
 have h2 : Sep E K (EEls (o.own K0) c1 (xs.take j) :: EEls (o.own K0) c2 (xs.drop (j + 1)) :: Rw e o.tp.size v xs.length (c1 ++ (es ++ c2)) :: o.own K0 es y :: L) w := by
   obtain ⟨h0, hst, hd, hs⟩ := h1.swap
   exact Sep.split ⟨h0, hst, hd, hs⟩
 have h3 := Sep.closeEls (L := Rw e o.tp.size v xs.length (c1 ++ (es ++ c2)) :: L) (Sep.front 3 rfl h2).swap
 have hset : xs.take j ++ y :: xs.drop (j + 1) = xs.set j y := by rw [List.set_eq_take_append_cons_drop, if_pos hj]
 rw [hset] at h3
 refine (Sep.join h3.swap).mono (fun h k => ⟨v, c1 ++ (es ++ c2), rfl, ?_⟩)
 rw [List.length_set]; exact k
end
end
inductive SV where
 | any
 | raw (v : Value)
 | int (k : IntKind) (n : Int)
 | bool (b : Bool)
 | str (s : List UInt8)
 | nilp
 | nils
 | row (t : Tp) (l : List t.den) (n : Nat)
 | pk (t : Tp) (x : Option t.den)
 | kat (t : Tp) (x : t.den) (o : Nat)
 | own (i : Nat)
 | ptr (i o : Nat)
 | rat (i c : Nat) (t : Tp) (j : Int) (x : t.den) (o : Nat)
 | fsl (i m : Nat)
 | fsa (i o n cap : Nat)
 | nlt (t : Tp) (l : List t.den) (neg : Bool)
 | agg (vs : List SV)
 | tup (vs : List SV)
 | fn (f : Nat) (cs : List SV)
 | is (j : Nat) (v : SV)
 | hat (i : Nat) (o : OT) (j : Int) (off : Nat)
 | prt (i z : Nat) (lo hi : Int)
 | yld (i n : Nat) (vs : Nat → SV) (ps : Array Nat) (ao bo : Code)
 | ifc (t : TypeId) (v : SV)
inductive LSt where
 | ready
 | ret
 | exit (id : Nat)
inductive HA where
 | blk (i c : Nat) (e : TypeId) (cs : List SV)
 | row (i c : Nat) (e : TypeId) (t : Tp) (l : List t.den) (n : Nat)
 | bld (i : Nat) (l : List UInt8)
 | od (i c : Nat) (o : OT) (x : o.tp.den)
 | hole (i c : Nat) (e : TypeId) (o : OT) (l : List o.tp.den) (j : Int) (cs : List SV)
 | lp (i : Nat) (s : LSt)
def HA.id : HA → Nat
 | .blk i _ _ _ => i
 | .row i _ _ _ _ _ => i
 | .bld i _ => i
 | .od i _ _ _ => i
 | .hole i _ _ _ _ _ _ => i
 | .lp i _ => i
def HA.lpR (i : Nat) : HA → Option LSt
 | .lp j s => bif Nat.beq j i then some s else none
 | _ => none
structure Dat where
 t : Tp
 x : t.den
def Tp.same : (a b : Tp) → Option (PLift (a = b))
 | .int k, .int k' => if h : k = k' then some ⟨by rw [h]⟩ else none
 | .bool, .bool => some ⟨rfl⟩
 | .str, .str => some ⟨rfl⟩
 | .sl a, .sl b => match Tp.same a b with | some h => some ⟨by rw [h.down]⟩ | none => none
 | .ptr a, .ptr b => match Tp.same a b with | some h => some ⟨by rw [h.down]⟩ | none => none
 | .emp, .emp => some ⟨rfl⟩
 | .one a, .one b => match Tp.same a b with | some h => some ⟨by rw [h.down]⟩ | none => none
 | .cons a r, .cons b s => match Tp.same a b with
   | some h => (match Tp.same r s with | some k => some ⟨by rw [h.down, k.down]⟩ | none => none)
   | none => none
 | _, _ => none
def OT.same : (a b : OT) → Option (PLift (a = b))
 | .dat t, .dat u => match Tp.same t u with | some h => some ⟨by rw [h.down]⟩ | none => none
 | .row e a, .row e' b => if h : e = e' then (match OT.same a b with | some k => some ⟨by rw [h, k.down]⟩ | none => none) else none
 | .box e a, .box e' b => if h : e = e' then (match OT.same a b with | some k => some ⟨by rw [h, k.down]⟩ | none => none) else none
 | .one a, .one b => match OT.same a b with | some h => some ⟨by rw [h.down]⟩ | none => none
 | .chn a, .chn b => match OT.same a b with | some h => some ⟨by rw [h.down]⟩ | none => none
 | .obj n u, .obj n' u' => if h : n = n' then (match Tp.same u u' with | some k => some ⟨by rw [h, k.down]⟩ | none => none) else none
 | .cons a r, .cons b s => match OT.same a b with
   | some h => (match OT.same r s with | some k => some ⟨by rw [h.down, k.down]⟩ | none => none)
   | none => none
 | _, _ => none
def Dat.as (d : Dat) (t : Tp) : Option t.den := match Tp.same d.t t with
 | some h => some (h.down ▸ d.x)
 | none => none
abbrev TL : List Tp → Type
 | [] => Unit
 | [t] => t.den
 | t :: u :: r => t.den × TL (u :: r)
def TL.list : (ts : List Tp) → TL ts → List Dat
 | [], _ => []
 | [t], x => [⟨t, x⟩]
 | t :: u :: r, x => ⟨t, x.1⟩ :: TL.list (u :: r) x.2
def TL.of : (ts : List Tp) → List Dat → Option (TL ts)
 | [], [] => some ()
 | [t], [d] => d.as t
 | t :: u :: r, d :: ds => match d.as t, TL.of (u :: r) ds with
   | some x, some y => some (x, y)
   | _, _ => none
 | _, _ => none
namespace SV
def lv : (t : Tp) → t.den → List SV
 | .int k, n => [.int k n]
 | .bool, b => [.bool b]
 | .str, s => [.str s]
 | .sl e, l => [.row e l l.length]
 | .ptr e, x => [.pk e x]
 | .emp, _ => []
 | .one a, d => lv a d
 | .cons a r, d => lv a d.1 ++ lv r d.2
def of : (t : Tp) → t.den → SV
 | .int k, n => .int k n
 | .bool, b => .bool b
 | .str, s => .str s
 | .sl e, l => .row e l l.length
 | .ptr e, x => .pk e x
 | .emp, _ => .agg []
 | .one a, d => .agg (lv a d)
 | .cons a r, d => .agg (lv a d.1 ++ lv r d.2)
def con1 : Value → SV
 | .int k n => .int k n
 | .bool b => .bool b
 | .string s => .str s.data.toList
 | .pointer none => .nilp
 | .slice none 0 0 => .nils
 | v => .raw v
def con : Value → SV
 | .agg cs => .agg (cs.toList.map con1)
 | .tuple vs => .tup (vs.toList.map con1)
 | .func (.func f) fs cs => bif fs.isEmpty then .fn f (cs.toList.map con1) else .raw (.func (.func f) fs cs)
 | v => con1 v
mutual
def st : SV → SV
 | .is _ v => v.st
 | .agg vs => .agg (stL vs)
 | .tup vs => .tup (stL vs)
 | .fn f vs => .fn f (stL vs)
 | v => v
def stL : List SV → List SV
 | [] => []
 | v :: vs => v.st :: stL vs
end
def leaf : SV → Bool
 | .any | .tup _ | .agg _ => false
 | .raw v => v.oneCell'
 | .is _ v => v.leaf
 | _ => true
def cells : SV → Option (List SV)
 | .any | .tup _ => none
 | .agg vs => some vs
 | .raw v => bif v.oneCell' then some [.raw v] else none
 | .is j v => bif v.leaf then some [.is j v] else none
 | v => some [v]
end SV
def OT.leaf : OT → Option (TypeId × Tp)
 | .row e (.dat t) => some (e, t)
 | _ => none
def OT.nl : OT → Bool
 | .row _ (.dat _) => false
 | .row _ _ => true
 | .box _ _ => true
 | .obj _ _ => true
 | .chn _ => true
 | _ => false
def OT.ex (c : Nat) : (o : OT) → o.tp.den → Nat → List SV × List HA × Nat
 | .dat t, x, nx => (SV.lv t x, [], nx)
 | .row e a, l, nx => (match a, l with
   | .dat t, l => ([.own nx], [.row nx (nx + 1) e t l (List.length (α := t.den) l)], nx + 2)
   | a, l => ([.own nx], [.od nx c (.row e a) l], nx + 1))
 | .box e a, x, nx => ([.own nx], [.od nx c (.box e a) x], nx + 1)
 | .obj n u, x, nx => ([.own nx], [.od nx c (.obj n u) x], nx + 1)
 | .chn a, x, nx => ([.own nx], [.od nx c (.chn a) x], nx + 1)
 | .one a, x, nx => OT.ex c a x nx
 | .cons a r, x, nx => match OT.ex c a x.1 nx with
   | (v1, H1, n1) => match OT.ex c r x.2 n1 with
     | (v2, H2, n2) => (v1 ++ v2, H1 ++ H2, n2)
def OT.rv : (o : OT) → o.tp.den → List SV
 | .dat t, x => SV.lv t x
 | .row _ _, _ => [.any]
 | .box _ _, _ => [.any]
 | .obj _ _, _ => [.any]
 | .chn _, _ => [.any]
 | .one a, x => OT.rv a x
 | .cons a r, x => OT.rv a x.1 ++ OT.rv r x.2
structure RowsR where
 c : Nat
 e : TypeId
 o : OT
 l : List o.tp.den
structure BoxR where
 c : Nat
 e : TypeId
 o : OT
 x : Option o.tp.den
structure HolR where
 c : Nat
 e : TypeId
 o : OT
 l : List o.tp.den
 j : Int
 cs : List SV
def OT.rowOf (c : Nat) : (o : OT) → o.tp.den → Option RowsR
 | .row e a, l => some ⟨c, e, a, l⟩
 | _, _ => none
def OT.boxOf (c : Nat) : (o : OT) → o.tp.den → Option BoxR
 | .box e a, x => some ⟨c, e, a, x⟩
 | _, _ => none
def HA.rowsR (i : Nat) : HA → Option RowsR
 | .od j c o x => bif Nat.beq j i then OT.rowOf c o x else none
 | _ => none
def HA.boxR (i : Nat) : HA → Option BoxR
 | .od j c o x => bif Nat.beq j i then OT.boxOf c o x else none
 | _ => none
def HA.holR (i : Nat) : HA → Option HolR
 | .hole j c e o l k cs => bif Nat.beq j i then some ⟨c, e, o, l, k, cs⟩ else none
 | _ => none
def chkI (a b : Int) : Option Unit := bif decide (a = b) then some () else none
structure Zt where
 base : Nat → SV
 top : List (Nat × SV)
 H : List HA
 Hf : List HA
 nx : Nat
 kq : Bool
def look : List (Nat × SV) → Nat → Option SV
 | [], _ => none
 | p :: l, i => bif Nat.beq p.1 i then some p.2 else look l i
def Zt.get (σ : Zt) (i : Nat) : SV := match look σ.top i with | some v => v | none => σ.base i
def Zt.set (σ : Zt) (i : Nat) (v : SV) : Zt := ⟨σ.base, (i, v) :: σ.top, σ.H, σ.Hf, σ.nx, σ.kq⟩
def Zt.ref (σ : Zt) (i : Nat) (v : SV) : Zt := match look σ.top i with
 | some _ => σ.set i v
 | none => ⟨fun j => bif Nat.beq j i then v else σ.base j, σ.top, σ.H, σ.Hf, σ.nx, σ.kq⟩
def Zt.evr (n : Nat) (σ : Zt) : Operand → SV
 | .tmp t => bif Nat.blt t n then σ.get t else .any
 | .const v => SV.con v
 | .func f => .fn f []
 | .global _ => .any
def Zt.ev (n : Nat) (σ : Zt) (o : Operand) : SV := (σ.evr n o).st
def pick {α β : Type} (f : α → Option β) : List α → Option (β × List α)
 | [] => none
 | a :: l => match f a with
   | some b => some (b, l)
   | none => match pick f l with
     | some (b, r) => some (b, a :: r)
     | none => none
structure BlkR where
 c : Nat
 e : TypeId
 cs : List SV
structure RowR where
 c : Nat
 e : TypeId
 t : Tp
 l : List t.den
 n : Nat
def HA.blkR (i : Nat) : HA → Option BlkR
 | .blk j c e cs => bif Nat.beq j i then some ⟨c, e, cs⟩ else none
 | _ => none
def HA.rowR (i : Nat) : HA → Option RowR
 | .row j c e t l n => bif Nat.beq j i then some ⟨c, e, t, l, n⟩ else none
 | _ => none
def HA.bldR (i : Nat) : HA → Option (List UInt8)
 | .bld j l => bif Nat.beq j i then some l else none
 | _ => none
def SV.same : SV → SV → Bool
 | .int k n, .int k' n' => decide (k = k') && decide (n = n')
 | .bool a, .bool b => a == b
 | .str a, .str b => decide (a = b)
 | .raw (.map none), .raw (.map none) => true
 | .raw (.chan none), .raw (.chan none) => true
 | _, _ => false
inductive Kd where
 | any
 | dat (t : Tp)
 | nilp
 | nils
 | nilf
 | ptr (j o : Nat)
 | own (e : TypeId) (t : Tp)
 | al (j : Nat)
 | fsl (j m : Nat)
 | agg (ks : List Kd)
 | tup (ks : List Kd)
 | fn (f : Nat) (ks : List Kd)
 | is (j : Nat) (k : Kd)
 | lit (v : SV)
 | od (o : OT)
 | rp (j : Nat)
 | ifc (t : TypeId) (k : Kd)
 | kat (t : Tp) (o : Nat)
structure Bk where
 old : Option Nat
 e : TypeId
 ks : List Kd
 bu : Bool := false
 nu : Bool := false
 rw : Option OT := none
 lp : Bool := false
structure Sh where
 sl : List (Nat × Kd)
 bl : List Bk
mutual
def Kd.ts : Kd → List Tp
 | .dat t => [t]
 | .own _ t => [.sl t]
 | .agg ks => Kd.tsL ks
 | .tup ks => Kd.tsL ks
 | .fn _ ks => Kd.tsL ks
 | .is _ k => k.ts
 | .ifc _ k => k.ts
 | .kat t _ => [t]
 | .od o => [o.tp]
 | _ => []
def Kd.tsL : List Kd → List Tp
 | [] => []
 | k :: ks => Kd.ts k ++ Kd.tsL ks
end
def tsS : List (Nat × Kd) → List Tp
 | [] => []
 | p :: r => p.2.ts ++ tsS r
def tsB : List Bk → List Tp
 | [] => []
 | b :: r => (bif b.nu then [] else bif b.lp then [] else match b.rw with | some o => (bif b.bu then .sl o.tp :: .int .i64 :: Kd.tsL b.ks else [o.tp]) | none => bif b.bu then [.str] else Kd.tsL b.ks) ++ tsB r
def Sh.ts (s : Sh) : List Tp := tsS s.sl ++ tsB s.bl
structure Un where
 ds : List Dat
 nx : Nat
 H : List HA
 rs : List Nat
mutual
def Kd.un (bi : List Nat) : Kd → Un → Option (SV × Un)
 | .any, u => some (.any, u)
 | .dat _, u => match u.ds with | d :: ds => some (.of d.t d.x, ⟨ds, u.nx, u.H, u.rs⟩) | [] => none
 | .nilp, u => some (.nilp, u)
 | .nils, u => some (.nils, u)
 | .nilf, u => some (.raw .nilFunc, u)
 | .ptr j o, u => match bi[j]? with | some i => some (.ptr i o, u) | none => none
 | .own e _, u => match u.ds with | ⟨.sl t, l⟩ :: ds => some (.own u.nx, ⟨ds, u.nx + 2, .row u.nx (u.nx + 1) e t l l.length :: u.H, u.rs ++ [u.nx]⟩) | _ => none
 | .al j, u => match u.rs[j]? with | some i => some (.own i, u) | none => none
 | .fsl j m, u => match bi[j]? with | some i => some (.fsl i m, u) | none => none
 | .agg ks, u => match Kd.unL bi ks u with | some (vs, u) => some (.agg vs, u) | none => none
 | .tup ks, u => match Kd.unL bi ks u with | some (vs, u) => some (.tup vs, u) | none => none
 | .fn f ks, u => match Kd.unL bi ks u with | some (vs, u) => some (.fn f vs, u) | none => none
 | .lit v, u => some (v, u)
 | .od o, u => bif o.nl then (match u.ds with
   | d :: ds => (match d.as o.tp with
     | some x => some (.own u.nx, ⟨ds, u.nx + 2, .od u.nx (u.nx + 1) o x :: u.H, u.rs⟩)
     | none => none)
   | [] => none) else none
 | .rp j, u => match bi[j]? with | some i => some (.own i, u) | none => none
 | .kat t o, u => match u.ds with | d :: ds => (match d.as t with | some x => some (.kat t x o, ⟨ds, u.nx, u.H, u.rs⟩) | none => none) | [] => none
 | .ifc t k, u => match Kd.un bi k u with | some (v, u) => some (.ifc t v, u) | none => none
 | .is j k, u => match bi[j]? with | some i => (match Kd.un bi k u with | some (v, u) => some (.is i v, u) | none => none) | none => none
def Kd.unL (bi : List Nat) : List Kd → Un → Option (List SV × Un)
 | [], u => some ([], u)
 | k :: ks, u => match Kd.un bi k u with
   | some (v, u) => (match Kd.unL bi ks u with | some (vs, u) => some (v :: vs, u) | none => none)
   | none => none
end
def unS (bi : List Nat) : List (Nat × Kd) → Un → Option (List (Nat × SV) × Un)
 | [], u => some ([], u)
 | p :: r, u => match p.2.un bi u with
   | some (v, u) => (match unS bi r u with | some (vs, u) => some ((p.1, v) :: vs, u) | none => none)
   | none => none
def idsB : List Bk → Nat → List Nat × Nat
 | [], nx => ([], nx)
 | b :: r, nx => match b.old with
   | some i => let q := idsB r nx; (i :: q.1, q.2)
   | none => let q := idsB r (nx + 1); (nx :: q.1, q.2)
def OT.at1 (i c : Nat) : (o : OT) → o.tp.den → HA
 | .row e a, l => (match a, l with
   | .dat t, l => .row i c e t l (List.length (α := t.den) l)
   | a, l => .od i c (.row e a) l)
 | o, x => .od i c o x
def unB1 (bi : List Nat) (b : Bk) (i : Nat) (u : Un) : Option (Unit × Un) := bif b.nu then some ((), u) else bif b.lp then some ((), ⟨u.ds, u.nx, .lp i .ready :: u.H, u.rs⟩) else match b.rw with
 | some o => bif b.bu then (match u.ds with
   | d :: d2 :: ds => (match d.as (.sl o.tp), d2.as (.int .i64) with
     | some l, some j => (match Kd.unL bi b.ks ⟨ds, u.nx, u.H, u.rs⟩ with
       | some (vs, u) => some ((), ⟨u.ds, u.nx + 1, .hole i u.nx b.e o l j vs :: u.H, u.rs⟩)
       | none => none)
     | _, _ => none)
   | _ => none) else (match u.ds with
   | d :: ds => (match d.as o.tp with
     | some x => some ((), ⟨ds, u.nx + 1, OT.at1 i u.nx o x :: u.H, u.rs⟩)
     | none => none)
   | [] => none)
 | none => bif b.bu then (match u.ds with
   | ⟨.str, s⟩ :: ds => some ((), ⟨ds, u.nx, .bld i s :: u.H, u.rs⟩)
   | _ => none) else match Kd.unL bi b.ks u with
   | some (vs, u) => some ((), ⟨u.ds, u.nx + 1, .blk i u.nx b.e vs :: u.H, u.rs⟩)
   | none => none
def unB (bi : List Nat) : List Bk → List Nat → Un → Option Un
 | b :: r, i :: is, u => (match unB1 bi b i u with | some (_, u) => unB bi r is u | none => none)
 | [], [], u => some u
 | _, _, _ => none
def oldOk : List Bk → Nat → Bool
 | [], _ => true
 | b :: r, nx => (match b.old with | some i => Nat.blt i nx | none => true) && oldOk r nx
def Sh.un (s : Sh) (ds : List Dat) (nx : Nat) : Option (List (Nat × SV) × Un) :=
 bif oldOk s.bl nx then match idsB s.bl nx with
 | (bi, nx) => match unS bi s.sl ⟨ds, nx, [], []⟩ with
   | some (vs, u) => (match unB bi s.bl bi u with | some u => some (vs, u) | none => none)
   | none => none
 else none
def cstL {t e : Tp} (h : PLift (t = e)) (l : List t.den) : List e.den := h.down ▸ l
def cstO {t e : Tp} (h : PLift (t = e)) (l : Option t.den) : Option e.den := h.down ▸ l
def cst {t e : Tp} (h : PLift (t = e)) (x : t.den) : e.den := h.down ▸ x
def cstH {a b : OT} (h : PLift (a = b)) (l : List a.tp.den) : List b.tp.den := h.down ▸ l
def dInt (k : IntKind) : List SV → Option (Int × List SV)
 | .int k' n :: r => if k' = k then some (n, r) else none
 | _ => none
def dBool : List SV → Option (Bool × List SV)
 | .bool b :: r => some (b, r)
 | _ => none
def dStr : List SV → Option (List UInt8 × List SV)
 | .str s :: r => some (s, r)
 | _ => none
def dSl (e : Tp) : List SV → Option (List e.den × List SV)
 | .row t l _ :: r => match Tp.same t e with | some h => some (cstL h l, r) | none => none
 | .nils :: r => some ([], r)
 | _ => none
def dPtr (e : Tp) : List SV → Option (Option e.den × List SV)
 | .pk t x :: r => match Tp.same t e with | some h => some (cstO h x, r) | none => none
 | .nilp :: r => some (none, r)
 | .kat t x 0 :: r => match Tp.same t e with | some h => some (some (cst h x), r) | none => none
 | _ => none
def dt : (t : Tp) → List SV → Option (t.den × List SV)
 | .int k, vs => dInt k vs
 | .bool, vs => dBool vs
 | .str, vs => dStr vs
 | .sl e, vs => dSl e vs
 | .ptr e, vs => dPtr e vs
 | .emp, r => some ((), r)
 | .one a, r => dt a r
 | .cons a b, r => match dt a r with
   | some (x, r) => (match dt b r with | some (y, r) => some ((x, y), r) | none => none)
   | none => none
def Tp.st : Tp → Bool
 | .emp | .one _ | .cons _ _ => true
 | _ => false
def dtv (t : Tp) : SV → Option t.den
 | .agg vs => bif t.st then (match dt t vs with | some (x, []) => some x | _ => none) else none
 | v => bif t.st then none else match dt t [v] with | some (x, []) => some x | _ => none
def HA.odX (i : Nat) (o : OT) : HA → Option o.tp.den
 | .od j c o' x => bif Nat.beq j i then (match OT.same o' o with | some h => some (h.down ▸ x) | none => none) else none
 | _ => none
def HA.rowX (i : Nat) (e : TypeId) (t : Tp) : HA → Option (List t.den)
 | .row j c e' t' l n => bif Nat.beq j i && Nat.beq e' e then (match Tp.same t' t with | some h => some (cstL h l) | none => none) else none
 | _ => none
def pickX (i : Nat) (o : OT) (H : List HA) : Option (o.tp.den × List HA) := match o with
 | .row e a => (match a with
   | .dat t => pick (HA.rowX i e t) H
   | a => pick (HA.odX i (.row e a)) H)
 | o => pick (HA.odX i o) H
def OT.col : (o : OT) → List SV → List HA → Option (o.tp.den × List SV × List HA)
 | .dat t, vs, H => (match dt t vs with | some (x, r) => some (x, r, H) | none => none)
 | .row e a, vs, H => (match vs with
   | v :: r => (match v with
     | .nils => some (([] : List a.tp.den), r, H)
     | .own i => (match pickX i (.row e a) H with | some (x, H) => some (x, r, H) | none => none)
     | _ => none)
   | [] => none)
 | .box e a, vs, H => (match vs with
   | v :: r => (match v with
     | .nilp => some ((none : Option a.tp.den), r, H)
     | .ptr i o => bif Nat.beq o 0 then (match pick (HA.blkR i) H with
       | some (q, H) => bif Nat.beq q.e e then (match OT.col a (SV.stL q.cs) H with
         | some (y, [], H) => some ((some y : Option a.tp.den), r, H)
         | _ => none) else none
       | none => none) else none
     | .own i => (match pickX i (.box e a) H with | some (x, H) => some (x, r, H) | none => none)
     | _ => none)
   | [] => none)
 | .chn a, vs, H => (match vs with
   | v :: r => (match v with
     | .raw (.chan none) => some ((none : Option (Int × List a.tp.den)), r, H)
     | .own i => (match pickX i (.chn a) H with | some (x, H) => some (x, r, H) | none => none)
     | _ => none)
   | [] => none)
 | .obj n u, vs, H => (match vs with
   | v :: r => (match v with
     | .raw (.map none) => bif Nat.beq n 0 then some ((none : Option u.den), r, H) else none
     | .raw (.chan none) => bif Nat.beq n 0 then none else some ((none : Option u.den), r, H)
     | .own i => (match pickX i (.obj n u) H with | some (x, H) => some (x, r, H) | none => none)
     | _ => none)
   | [] => none)
 | .one a, vs, H => OT.col a vs H
 | .cons a b, vs, H => match OT.col a vs H with
   | some (x, r, H) => (match OT.col b r H with | some (y, r, H) => some ((x, y), r, H) | none => none)
   | none => none
structure Gt where
 ds : List Dat
 bm : List (Nat × Nat)
 rs : List (Option Nat)
 H : List HA
def lookN : List (Nat × Nat) → Nat → Option Nat
 | [], _ => none
 | p :: l, i => bif Nat.beq p.1 i then some p.2 else lookN l i
def Gt.bind (g : Gt) (j i : Nat) : Option Gt := match lookN g.bm j with
 | some i' => bif Nat.beq i' i then some g else none
 | none => some ⟨g.ds, (j, i) :: g.bm, g.rs, g.H⟩
mutual
def Kd.get : Kd → SV → Gt → Option Gt
 | .any, _, g => some g
 | .dat t, v, g => (match dtv t v.st with | some x => some ⟨g.ds ++ [⟨t, x⟩], g.bm, g.rs, g.H⟩ | none => none)
 | .nilp, v, g => (match v.st with | .nilp => some g | _ => none)
 | .nils, v, g => (match v.st with | .nils => some g | _ => none)
 | .nilf, v, g => (match v.st with | .raw .nilFunc => some g | _ => none)
 | .ptr j o, v, g => (match v.st with | .ptr i o' => bif Nat.beq o o' then g.bind j i else none | _ => none)
 | .own e t, v, g => (match v.st with
   | .own i => (match pick (HA.rowR i) g.H with
     | some (r, H) => bif Nat.beq r.e e then (match Tp.same r.t t with | some h => some ⟨g.ds ++ [⟨.sl t, cstL h r.l⟩], g.bm, g.rs ++ [some i], H⟩ | none => none) else none
     | none => none)
   | .nils => some ⟨g.ds ++ [⟨.sl t, ([] : List t.den)⟩], g.bm, g.rs ++ [none], g.H⟩
   | _ => none)
 | .al j, v, g => (match v.st, g.rs[j]? with | .own i, some (some i') => bif Nat.beq i' i then some g else none | _, _ => none)
 | .fsl j m, v, g => (match v.st with | .fsl i m' => bif Nat.beq m m' then g.bind j i else none | _ => none)
 | .agg ks, v, g => (match v with | .agg vs => Kd.getL ks vs g | _ => none)
 | .tup ks, v, g => (match v with | .tup vs => Kd.getL ks vs g | _ => none)
 | .fn f ks, v, g => (match v with | .fn f' vs => bif Nat.beq f f' then Kd.getL ks vs g else none | _ => none)
 | .lit w, v, g => bif SV.same w v.st then some g else none
 | .od o, v, g => bif o.nl then (match OT.col o [v.st] g.H with | some (x, [], H) => some ⟨g.ds ++ [⟨o.tp, x⟩], g.bm, g.rs, H⟩ | _ => none) else none
 | .rp j, v, g => (match v.st with | .own i => g.bind j i | _ => none)
 | .kat t o, v, g => (match v.st with | .kat t' x o' => bif Nat.beq o o' then (match Tp.same t' t with | some h => some ⟨g.ds ++ [⟨t, cst h x⟩], g.bm, g.rs, g.H⟩ | none => none) else none | _ => none)
 | .ifc t k, v, g => (match v.st with | .ifc t' w => bif Nat.beq t t' then Kd.get k w g else none | _ => none)
 | .is j k, v, g => (match v with | .is i w => (match g.bind j i with | some g => Kd.get k w g | none => none) | _ => none)
def Kd.getL : List Kd → List SV → Gt → Option Gt
 | [], vs, g => (match vs with | [] => some g | _ => none)
 | k :: ks, vs, g => (match vs with | v :: vs => (match Kd.get k v g with | some g => Kd.getL ks vs g | none => none) | [] => none)
end
def getS (f : Nat → SV) : List (Nat × Kd) → Gt → Option Gt
 | [], g => some g
 | p :: r, g => match p.2.get (f p.1) g with | some g => getS f r g | none => none
def getB1 (j : Nat) (b : Bk) (g : Gt) : Option Gt := match (match b.old with | some i => g.bind j i | none => some g) with
   | some g => (match lookN g.bm j with
     | some i => bif b.nu then some g else bif b.lp then (match pick (HA.lpR i) g.H with
       | some (.ready, H) => some ⟨g.ds, g.bm, g.rs, H⟩
       | _ => none) else match b.rw with
       | some o => bif b.bu then (match pick (HA.holR i) g.H with
         | some (q, H) => bif Nat.beq q.e b.e then (match OT.same q.o o with
           | some h => Kd.getL b.ks q.cs ⟨g.ds ++ [⟨.sl o.tp, cstH h q.l⟩, ⟨.int .i64, q.j⟩], g.bm, g.rs, H⟩
           | none => none) else none
         | none => none) else (match pickX i o g.H with | some (x, H) => some ⟨g.ds ++ [⟨o.tp, x⟩], g.bm, g.rs, H⟩ | none => none)
       | none => bif b.bu then (match pick (HA.bldR i) g.H with
       | some (s, H) => some ⟨g.ds ++ [⟨.str, s⟩], g.bm, g.rs, H⟩
       | none => none) else (match pick (HA.blkR i) g.H with
       | some (q, H) => bif Nat.beq q.e b.e then Kd.getL b.ks q.cs ⟨g.ds, g.bm, g.rs, H⟩ else none
       | none => none)
     | none => none)
   | none => none
def getB : Nat → List Bk → Gt → Option Gt
 | _, [], g => some g
 | j, b :: r, g => match getB1 j b g with | some g => getB (j + 1) r g | none => none
def keysLt (n : Nat) : List (Nat × Nat) → Bool
 | [] => true
 | p :: r => Nat.blt p.1 n && keysLt n r
def Sh.get (s : Sh) (f : Nat → SV) (H : List HA) : Option Gt :=
 match getS f s.sl ⟨[], [], [], H⟩ with
 | some g => (match getB 0 s.bl g with | some g => bif keysLt s.bl.length g.bm then some g else none | none => none)
 | none => none
abbrev OutT : List Sh → Type
 | [] => Empty
 | [a] => TL a.ts
 | a :: b :: r => TL a.ts ⊕ OutT (b :: r)
structure Spec where
 f : Nat
 inn : Sh
 outs : List Sh
 fn : TL inn.ts → Option (OutT outs)
section
section
variable {E : En} {L : List Atom} {K : Hp} {w : World}
theorem Rw.form {e : TypeId} {k n : Nat} {v : Value} {cs : List Value} : ∀ h, Rw e k v n cs h → ∃ ad cap, v = .slice ad n cap ∧ n ≤ cap ∧ cap ≤ maxLen ∧ (n ≠ 0 → ∃ g, ad = some ⟨g, 0, none⟩) := by
 rintro h ⟨h2, h3⟩
 rcases h3 with ⟨h3, h4, _⟩ | ⟨g, cap, cur, h3, _, h4, h5, _⟩
 · exact ⟨none, 0, h3, by omega, by simp, fun hne => absurd h4 hne⟩
 · exact ⟨_, cap, h3, h4, h5, fun _ => ⟨g, rfl⟩⟩
theorem Sep.grownW {e : TypeId} {k n n' : Nat} {v v' : Value} {cs cs' : List Value} {w' : World} (hs : Sep E K (Rw e k v n cs :: L) w)
   (ho : w'.ownsRow 0 e k v' n' cs') (hg : w.grownBy w' v.ownBlock) (hb : v'.ownBlock = v.ownBlock ∨ v'.ownBlock = some w.heap.size) : Sep E K (Rw e k v' n' cs' :: L) w' := by
 refine Sep.turn hs (fun he => ⟨hg.os.trans he.1, hg.tape.trans he.2.1, hg.output.trans he.2.2⟩) (fun h h2 hle => ?_)
 have hkeep : ∀ n o, w.heap[n]? = some o → h n = none → w'.heap[n]? = some o := fun n o e hn => by
   rw [hg.block n (lt_of_block e) (fun e' => (h2.block n).1 hn e'.symm)]; exact e
 obtain ⟨h3, h4⟩ := ho
 rcases h4 with ⟨rfl, h4⟩ | ⟨g, cap, cur, rfl, _, h5, h6, h7, h8, h9⟩
 · exact ⟨Hp.nil, ⟨h3, .inl ⟨by rw [h4], h4, rfl⟩⟩, fun n o e => (by cases e), hkeep⟩
 · refine ⟨one g (.cells cur e (0, 0)), ⟨h3, .inr ⟨g, cap, cur, rfl, rfl, h6, h7, h8, h9⟩⟩, fun n o e' => ?_, hkeep⟩
   obtain ⟨rfl, rfl⟩ := one_some e'
   refine ⟨h5, fun hn => ?_⟩
   rcases hb with hb | hb
   · exact absurd hb.symm (by have := (h2.block n).1 hn; simpa [Value.ownBlock] using this)
   · simp [Value.ownBlock] at hb
     rw [hb]; exact Array.getElem?_eq_none (Nat.le_refl _)
end
section
variable {P : Program} {E : En} {n : Nat} {ρ : Sl0} {K : Hp} {L : List Atom} {d : Nat} {t : TypeId} {pos : String} {af : Array Edge} {g : Option (Nat × Bool)} {x y c : Operand} {u v : Value}
theorem A.litW {s e : TypeId} {z : Value} {sz bt len : Nat} {parts : Array (Nat × Operand)} {cs0 : List Value} (hs : P.underlying s = some (.slice e)) (hi : Inf P e z sz bt) (hbig : len * sz ≤ 16777216)
   (hzs : z.cells.size = sz) (hc0 : fillL (fun i => some (i * sz, sz)) (zrow len z.cells.toList) (parts.toList.map fun (i, x) => (i, ev n ρ x)) = some cs0) (hcs0 : cs0.length = len * sz) (hpos : 0 < sz) :
   Ao P E n ⟨some d, .buildSlice s len parts, t, pos, af, g⟩ ρ K L (fun ρ' K' L' => ∃ b, ρ' = upd ρ d (.slice (some ⟨b, 0, none⟩) len len) ∧ K = K' ∧ L' = Rw e sz (.slice (some ⟨b, 0, none⟩) len len) len cs0 :: L) :=
 Ao.of rfl (fun w hsep => by
   obtain ⟨i, h1, h2, h3, _⟩ := hi.open
   obtain ⟨cs, hcs', hcs⟩ : ∃ cs : Array Value, cs = cs0.toArray ∧ cs.size = len * sz := ⟨_, rfl, by simpa using hcs0⟩
   have hc : Instr.fill (fun i => some (i * sz, sz)) ((Array.range (len * sz)).map (z.cells[· % z.cells.size]!)) (parts.map fun (i, x) => (i, ev n ρ x)).toList = some cs := by
     have e := zrow_eq z.cells (by omega) len
     rw [hzs] at e
     simp only [hzs]
     rw [e, hcs']
     apply fill_of
     simpa using hc0
   refine ⟨.slice (some ⟨w.heap.size, 0, none⟩) len len, _, K, _, ?_, (Sep.alloc hsep e cs).mono (fun h hh => ?_), w.heap.size, rfl, rfl, rfl⟩
   · have hb : ¬ (2 ^ 24 < len * sz) := by omega
     by_cases h0 : len * sz = 0
     · have hl0 : len = 0 := by rcases Nat.mul_eq_zero.1 h0 with h | h <;> omega
       subst hl0
       simp only [Nat.zero_mul] at hc
       have : Instr.fill (fun i => some (i * sz, sz)) #[] (List.map (fun x => (x.1, ev n ρ x.2)) parts.toList) = some cs := by simpa [Array.range] using hc
       simp [execOp, Instr.buildSlice, run_underlying hs, sizeOf, typeInfo, h1, h3, newRow, this, (show Array.range 0 = #[] from rfl)]
     · have hc' : Instr.fill (fun i => some (i * sz, sz)) ((Array.range (len * sz)).map (z.cells[· % z.cells.size]!)) (List.map (fun x => (x.1, ev n ρ x.2)) parts.toList) = some cs := by simpa using hc
       have hm : len ≠ 0 ∧ sz ≠ 0 := ⟨fun h => h0 (by simp [h]), fun h => h0 (by simp [h])⟩
       simp [execOp, Instr.buildSlice, run_underlying hs, sizeOf, typeInfo, h1, h2, h3, zeroValue, newRow, hb, hc']
       try (intro h; exact absurd h h0)
   · obtain rfl : h = _ := hh
     exact ⟨hcs0, .inr ⟨w.heap.size, len, cs, rfl, by simp, by omega, by unfold maxLen; have : len ≤ len * sz := Nat.le_mul_of_pos_right _ hpos; omega, hcs, by rw [hcs', ← hcs0]; simp⟩⟩)
theorem A.makeW {s e : TypeId} {z : Value} {sz bt : Nat} {len cap : Int} {k1 k2 : IntKind} (hs : P.underlying s = some (.slice e)) (hi : Inf P e z sz bt) (hzs : z.cells.toList.length = sz) (hpos : 0 < sz) (hbt : bt ≤ 100000)
   (hx : ev n ρ x = .int k1 len) (hy : ev n ρ y = .int k2 cap) (h1 : 0 ≤ len) (h2 : len ≤ cap) (h3 : cap ≤ 1073741824) :
   Ao P E n ⟨some d, .makeSlice s x y, t, pos, af, g⟩ ρ K L (fun ρ' K' L' => ∃ b, ρ' = upd ρ d (.slice (some ⟨b, 0, none⟩) len.toNat cap.toNat) ∧ K = K' ∧ L' = Rw e sz (.slice (some ⟨b, 0, none⟩) len.toNat cap.toNat) len.toNat (zrow len.toNat z.cells.toList) :: L) :=
 Ao.of rfl (fun w hsep => by
   obtain ⟨i, i1, i2, i3, i4⟩ := hi.open
   have hzl := hzs
   have hb : (i.bytes : Int) * cap ≤ 281474976710656 := by
     have a1 : (i.bytes : Int) ≤ 100000 := by omega
     have a2 : (i.bytes : Int) * cap ≤ 100000 * cap := Int.mul_le_mul_of_nonneg_right a1 (by omega)
     omega
   have hr := run_make (P := P) w s e i z hs i1 i2 k1 k2 len cap h1 h2 hb (by omega)
   have hc : madeCells z.cells (cap.toNat * i.size) = (zrow cap.toNat z.cells.toList).toArray := by
     have e := zrow_eq z.cells (by rw [← Array.length_toList]; omega) cap.toNat
     unfold madeCells
     rw [i3]
     rw [show sz = z.cells.size by rw [← Array.length_toList]; omega]
     exact e
   rw [hc] at hr
   have hsz : i.size = sz := i3
   have hrow : Sep E K (Rw e sz (.slice (some ⟨w.heap.size, 0, none⟩) len.toNat cap.toNat) len.toNat (zrow len.toNat z.cells.toList) :: L) (w.alloc (.cells (zrow cap.toNat z.cells.toList).toArray e)) := by
     refine (Sep.alloc hsep e (zrow cap.toNat z.cells.toList).toArray).mono (fun h hh => ?_)
     obtain rfl : h = _ := hh
     refine ⟨by rw [zrow_len, hzl], .inr ⟨w.heap.size, cap.toNat, (zrow cap.toNat z.cells.toList).toArray, by simp, by simp, by omega, by unfold maxLen; omega, by rw [List.size_toArray, zrow_len, hzl], ?_⟩⟩
     rw [← hzl]
     exact zrow_take _ _ _ (by omega)
   refine ⟨.slice (some ⟨w.heap.size, 0, none⟩) len.toNat cap.toNat, _, K, _, ?_, hrow, w.heap.size, rfl, rfl, rfl⟩
   simp [execOp, hx, hy, hr])
theorem A.appW {s e : TypeId} {z : Value} {sz bt nx ny : Nat} {cs ds : List Value} (hs : P.underlying s = some (.slice e)) (hi : Inf P e z sz bt) (hzs : z.cells.size = sz) (hpos : 0 < sz) (hbt : bt ≤ 100000)
   (hx : ev n ρ x = v) (hy : ev n ρ y = u) (h1 : ∀ c ∈ ds, c.oneCell' = true) (hlen : nx + ny ≤ 1073741824) :
   Ao P E n ⟨some d, .call ⟨.builtin .append, #[x, y], #[s, s]⟩, t, pos, af, g⟩ ρ K (Rw e sz v nx cs :: Rw e sz u ny ds :: L) (fun ρ' K' L' => ∃ v', ρ' = upd ρ d v' ∧ K = K' ∧ L' = Rw e sz v' (nx + ny) (cs ++ ds) :: L) :=
 Ao.of rfl (fun w hsep => by
   have hsep' := hsep
   obtain ⟨h0, hr0, hd0, hs0⟩ := hsep.swap
   obtain ⟨h, h2, h3, h4⟩ := hsep
   have hown := h2.owns (w := w) (fun n o e => h4.sub n o (Hp.join_right e (h3 n o e)))
   have hle0 : h0.le (Hp.of w) := fun n o e => hs0.sub n o (Hp.join_right e (hd0 n o e))
   obtain ⟨ad, cap, rfl, _, _, _⟩ := Rw.form h0 hr0
   have h7 : ∀ b, ad = some b → ∀ j u, ds[j]? = some u → w.cell? (b.add j) = some u := fun b hb j u hu => by
     obtain ⟨g, cap', hv, hc⟩ := hr0.cells j u hu
     rw [hb] at hv
     simp only [Value.slice.injEq, Option.some.injEq] at hv
     rw [hv.1, addr_add, Nat.zero_add]
     exact cellK_world hle0 hc
   obtain ⟨v', w', r1, r2, r3, r5⟩ := run_app (P := P) (w := w) (ty := t) (cap := cap) hs hi hzs hpos hbt hown hr0.1 h7 (fun e => by
     subst e
     rcases hr0.2 with ⟨_, h, _⟩ | ⟨g, cap', cur, hv, _⟩
     · exact h
     · cases hv) h1 hlen
   refine ⟨v', w', K, _, ?_, (hsep'.grownW r2 r3 r5).swap.drop, v', rfl, rfl, rfl⟩
   simp [execOp, resolve, invoke, builtin, hx, hy, r1])
end
theorem OT.own_one {K0 : Hp} : ∀ (o : OT) {cs : List Value} {x : o.tp.den} {h : Hp}, o.own K0 cs x h → ∀ u ∈ cs, u.oneCell' = true
 | .dat t, cs, x, h, k => k.1.one'
 | .row e a, cs, x, h, k => by
   obtain ⟨v, vs, rfl, h1, h2, k1, _⟩ := k
   obtain ⟨ad, cap, rfl, _⟩ := Rw.form h1 k1
   intro u hu; simp only [List.mem_singleton] at hu; subst hu; rfl
 | .box e a, cs, x, h, k => by
   unfold OT.own at k
   split at k
   · rw [k.1]; intro u hu; simp only [List.mem_singleton] at hu; subst hu; rfl
   · obtain ⟨b, vs, rfl, _⟩ := k
     intro u hu; simp only [List.mem_singleton] at hu; subst hu; rfl
 | .obj n u, cs, x, h, k => by
   unfold OT.own at k
   split at k
   · rw [k.1]; intro u hu; simp only [List.mem_singleton] at hu; subst hu; exact objNil_one n
   · obtain ⟨r, o, rfl, _⟩ := k
     intro u hu; simp only [List.mem_singleton] at hu; subst hu; exact objVal_one n r
 | .chn a, cs, x, h, k => by
   unfold OT.own at k
   split at k
   · rw [k.1]; intro u hu; simp only [List.mem_singleton] at hu; subst hu; rfl
   · obtain ⟨r, b, s, c, rfl, _⟩ := k
     intro u hu; simp only [List.mem_singleton] at hu; subst hu; rfl
 | .one a, cs, x, h, k => OT.own_one a (x := x) k
 | .cons a r, cs, x, h, k => by
   obtain ⟨c1, c2, rfl, h1, p, q, k1, h2, _⟩ := k
   intro u hu
   rcases List.mem_append.1 hu with hu | hu
   · exact OT.own_one a k1 u hu
   · exact OT.own_one r h2 u hu
theorem EEls.one' {α : Type} {f : List Value → α → Atom} (hf : ∀ es x h, f es x h → ∀ u ∈ es, u.oneCell' = true) : ∀ {xs : List α} {cs : List Value} {h : Hp}, EEls f cs xs h → ∀ u ∈ cs, u.oneCell' = true
 | [], cs, h, k, u, hu => by rw [k.1] at hu; cases hu
 | x :: xs, cs, h, ⟨es, r, e, h1, h2, a, b, _⟩, u, hu => by
   subst e
   rcases List.mem_append.1 hu with hu | hu
   · exact hf es x h1 a u hu
   · exact EEls.one' hf b u hu
end
section
section
variable {α : Type} [DecidableEq α]
def mfind (k : α) : List (α × Int) → Nat → Option (Nat × Int)
 | [], _ => none
 | p :: l, i => if p.1 = k then some (i, p.2) else mfind k l (i + 1)
def mget (k : α) (l : List (α × Int)) : Int := match mfind k l 0 with | some q => q.2 | none => 0
def mset (k : α) (v : Int) (l : List (α × Int)) : List (α × Int) := match mfind k l 0 with
 | some q => l.modify q.1 (fun p => (p.1, v))
 | none => l ++ [(k, v)]
def mdel (k : α) (l : List (α × Int)) : List (α × Int) := match mfind k l 0 with
 | some q => l.eraseIdx q.1
 | none => l
theorem mfind_some {k : α} : ∀ {l : List (α × Int)} {i j : Nat} {c : Int}, mfind k l i = some (j, c) → i ≤ j ∧ l[j - i]? = some (k, c)
 | [], i, j, c, h => by cases h
 | p :: l, i, j, c, h => by
   unfold mfind at h
   split at h
   · rename_i hk
     cases h
     exact ⟨Nat.le_refl _, by simp [← hk]⟩
   · obtain ⟨h1, h2⟩ := mfind_some h
     refine ⟨by omega, ?_⟩
     rw [show j - i = (j - (i + 1)) + 1 by omega]
     simpa using h2
end
section
variable {α : Type} [DecidableEq α]
theorem mfind_succ (k : α) : ∀ (l : List (α × Int)) (i : Nat), mfind k l (i + 1) = (mfind k l i).map (fun q => (q.1 + 1, q.2))
 | [], i => rfl
 | p :: l, i => by
   unfold mfind
   by_cases h : p.1 = k
   · simp [h]
   · simp only [h, if_false]
     exact mfind_succ k l (i + 1)
theorem mget_nil (k : α) : mget k [] = 0 := rfl
theorem mget_cons (k : α) (p : α × Int) (l : List (α × Int)) : mget k (p :: l) = if p.1 = k then p.2 else mget k l := by
 unfold mget
 by_cases h : p.1 = k
 · simp [mfind, h]
 · rw [show mfind k (p :: l) 0 = mfind k l (0 + 1) by simp [mfind, h], mfind_succ, if_neg h]
   cases mfind k l 0 <;> rfl
theorem mset_nil (k : α) (v : Int) : mset k v [] = [(k, v)] := rfl
theorem mset_cons (k : α) (v : Int) (p : α × Int) (l : List (α × Int)) : mset k v (p :: l) = if p.1 = k then (p.1, v) :: l else p :: mset k v l := by
 unfold mset
 by_cases h : p.1 = k
 · simp [mfind, h]
 · rw [show mfind k (p :: l) 0 = mfind k l (0 + 1) by simp [mfind, h], mfind_succ, if_neg h]
   cases mfind k l 0 <;> simp
theorem mdel_nil (k : α) : mdel k ([] : List (α × Int)) = [] := rfl
theorem mdel_cons (k : α) (p : α × Int) (l : List (α × Int)) : mdel k (p :: l) = if p.1 = k then l else p :: mdel k l := by
 unfold mdel
 by_cases h : p.1 = k
 · simp [mfind, h]
 · rw [show mfind k (p :: l) 0 = mfind k l (0 + 1) by simp [mfind, h], mfind_succ, if_neg h]
   cases mfind k l 0 <;> simp
theorem mget_set (k k' : α) (v : Int) : ∀ l : List (α × Int), mget k' (mset k v l) = if k' = k then v else mget k' l
 | [] => by
   rw [mset_nil, mget_cons, mget_nil]
   by_cases h : k' = k
   · simp [h]
   · have h2 : ¬ k = k' := fun e => h e.symm
     simp [h, h2]
 | p :: l => by
   rw [mset_cons]
   by_cases h : p.1 = k
   · rw [if_pos h, mget_cons, mget_cons]
     by_cases h2 : k' = k
     · simp [h, h2]
     · have h3 : ¬ p.1 = k' := fun e => h2 (by rw [← e, h])
       simp [h2, h3]
   · rw [if_neg h, mget_cons, mget_cons, mget_set k k' v l]
     by_cases h2 : k' = k
     · have h3 : ¬ p.1 = k' := fun e => h (by rw [e, h2])
       simp [h2, h]
     · simp [h2]
theorem mem_set (k x : α) (v : Int) : ∀ l : List (α × Int), x ∈ (mset k v l).map (·.1) ↔ x ∈ l.map (·.1) ∨ x = k
 | [] => by simp [mset_nil]
 | p :: l => by
   rw [mset_cons]
   by_cases h : p.1 = k
   · rw [if_pos h]; simp only [List.map_cons, List.mem_cons]
     constructor
     · exact fun h1 => .inl h1
     · rintro (h1 | h1)
       · exact h1
       · exact .inl (h1.trans h.symm)
   · rw [if_neg h]; simp only [List.map_cons, List.mem_cons, mem_set k x v l, or_assoc]
theorem nodup_set (k : α) (v : Int) : ∀ l : List (α × Int), (l.map (·.1)).Nodup → ((mset k v l).map (·.1)).Nodup
 | [], _ => by simp [mset_nil]
 | p :: l, hn => by
   rw [mset_cons]
   simp only [List.map_cons, List.nodup_cons] at hn
   by_cases h : p.1 = k
   · rw [if_pos h]; simp only [List.map_cons, List.nodup_cons]; exact hn
   · rw [if_neg h]; simp only [List.map_cons, List.nodup_cons]
     refine ⟨fun hm => ?_, nodup_set k v l hn.2⟩
     rcases (mem_set k p.1 v l).1 hm with h1 | h1
     · exact hn.1 h1
     · exact h h1
theorem mget_out {k : α} : ∀ {l : List (α × Int)}, k ∉ l.map (·.1) → mget k l = 0
 | [], _ => rfl
 | p :: l, h => by
   simp only [List.map_cons, List.mem_cons, not_or] at h
   rw [mget_cons, if_neg (fun e => h.1 e.symm)]
   exact mget_out h.2
theorem mget_del (k k' : α) : ∀ l : List (α × Int), (l.map (·.1)).Nodup → mget k' (mdel k l) = if k' = k then 0 else mget k' l
 | [], _ => by rw [mdel_nil, mget_nil]; simp
 | p :: l, hn => by
   simp only [List.map_cons, List.nodup_cons] at hn
   rw [mdel_cons]
   by_cases h : p.1 = k
   · rw [if_pos h, mget_cons]
     by_cases h2 : k' = k
     · rw [if_pos h2]; exact mget_out (by rw [h2, ← h]; exact hn.1)
     · rw [if_neg h2, if_neg (fun e => h2 (by rw [← e, h]))]
   · rw [if_neg h, mget_cons, mget_cons, mget_del k k' l hn.2]
     by_cases h2 : k' = k
     · simp [h2, h]
     · simp [h2]
theorem nodup_del (k : α) : ∀ l : List (α × Int), (l.map (·.1)).Nodup → ((mdel k l).map (·.1)).Nodup ∧ ∀ x, x ∈ (mdel k l).map (·.1) → x ∈ l.map (·.1)
 | [], h => ⟨h, fun _ h => h⟩
 | p :: l, hn => by
   simp only [List.map_cons, List.nodup_cons] at hn
   rw [mdel_cons]
   by_cases h : p.1 = k
   · rw [if_pos h]; exact ⟨hn.2, fun x hx => List.mem_cons_of_mem _ hx⟩
   · obtain ⟨h1, h2⟩ := nodup_del k l hn.2
     rw [if_neg h]; simp only [List.map_cons, List.nodup_cons, List.mem_cons]
     exact ⟨⟨fun hm => hn.1 (h2 _ hm), h1⟩, fun x hx => hx.imp id (h2 x)⟩
theorem mset_mset (k : α) (v c : Int) : ∀ l : List (α × Int), mset k v (mset k c l) = mset k v l
 | [] => by rw [mset_nil, mset_cons, if_pos rfl, mset_nil]
 | p :: l => by
   rw [mset_cons, mset_cons]
   by_cases h : p.1 = k
   · rw [if_pos h, if_pos h, mset_cons, if_pos h]
   · rw [if_neg h, if_neg h, mset_cons, if_neg h, mset_mset k v c l]
theorem mset_self (k : α) : ∀ (l : List (α × Int)) {q : Nat × Int}, mfind k l 0 = some q → mset k q.2 l = l
 | [], q, h => by cases h
 | p :: l, q, h => by
   rw [mset_cons]
   unfold mfind at h
   by_cases hk : p.1 = k
   · rw [if_pos hk] at h; cases h
     rw [if_pos hk]
   · rw [if_neg hk, mfind_succ] at h
     rw [if_neg hk]
     cases hf : mfind k l 0 with
     | none => rw [hf] at h; cases h
     | some q' =>
       rw [hf] at h; cases h
       rw [mset_self k l hf]
theorem mfind_app (k : α) (c : Int) : ∀ (l : List (α × Int)), mfind k l 0 = none → mfind k (l ++ [(k, c)]) 0 = some (l.length, c)
 | [], _ => by simp [mfind]
 | p :: l, h => by
   unfold mfind at h
   by_cases hk : p.1 = k
   · rw [if_pos hk] at h; cases h
   · rw [if_neg hk, mfind_succ] at h
     have h0 : mfind k l 0 = none := by cases hf : mfind k l 0 with | none => rfl | some q => rw [hf] at h; cases h
     rw [List.cons_append]
     unfold mfind
     rw [if_neg hk, mfind_succ, mfind_app k c l h0]
     simp
end
theorem findIdx_born : ∀ {es : List MapEntry} {j : Nat} {e : MapEntry}, (es.map (·.born)).Nodup → es[j]? = some e → es.findIdx? (fun x => (x.born : Int) == (e.born : Int)) = some j
 | [], j, e, _, h => by simp at h
 | x :: es, 0, e, hn, h => by simp at h; subst h; simp [List.findIdx?_cons]
 | x :: es, j + 1, e, hn, h => by
   simp only [List.map_cons, List.nodup_cons] at hn
   have h1 : es[j]? = some e := by simpa using h
   have hne : ¬ x.born = e.born := fun e0 => hn.1 (by rw [e0]; exact List.mem_map.2 ⟨e, List.mem_of_getElem? h1, rfl⟩)
   rw [List.findIdx?_cons]
   have hb : ((x.born : Int) == (e.born : Int)) = false := by simp; omega
   rw [hb]
   simp only [Bool.false_eq_true, if_false]
   rw [findIdx_born hn.2 h1]
   rfl
theorem set_same {β : Type} {l : List β} {j : Nat} {x : β} (h : l[j]? = some x) : l.set j x = l := by
 obtain ⟨hj, rfl⟩ := List.getElem?_eq_some_iff.1 h
 exact List.set_getElem_self hj
theorem modify_at {β : Type} {f : β → β} : ∀ {l : List β} {j : Nat} {e : β}, l[j]? = some e → l.modify j f = l.set j (f e)
 | [], j, e, h => by simp at h
 | x :: l, 0, e, h => by simp at h; subst h; rfl
 | x :: l, j + 1, e, h => by
   have := modify_at (f := f) (l := l) (j := j) (by simpa using h)
   simp [this]
theorem erase_list (es : Array MapEntry) (j : Nat) : (es.eraseIdxIfInBounds j).toList = es.toList.eraseIdx j := by
 unfold Array.eraseIdxIfInBounds
 split
 · simp
 · rename_i hj; rw [List.eraseIdx_of_length_le (by simpa using hj)]
theorem Brn.push {es : Array MapEntry} {cl : Nat} (h : Brn es cl) (k v : Value) : Brn (es.push { key := k, val := v, born := cl }) (cl + 1) := by
 obtain ⟨h1, h2⟩ := h
 refine ⟨?_, fun e he => ?_⟩
 · rw [Array.toList_push, List.map_append, List.nodup_append]
   refine ⟨h1, by simp, fun a ha b hb e => ?_⟩
   obtain ⟨x, hx, rfl⟩ := List.mem_map.1 ha
   simp at hb
   have := h2 x hx
   omega
 · rw [Array.toList_push, List.mem_append] at he
   rcases he with he | he
   · have := h2 e he; omega
   · simp at he; subst he; exact Nat.lt_succ_self _
theorem map_modify' {β γ : Type} (g : β → γ) (f : β → β) (hf : ∀ e, g (f e) = g e) : ∀ (l : List β) (j : Nat), (l.modify j f).map g = l.map g
 | [], j => by simp
 | x :: l, 0 => by simp [hf]
 | x :: l, j + 1 => by simp [map_modify' g f hf l j]
theorem Brn.modify {es : Array MapEntry} {cl : Nat} (h : Brn es cl) (j : Nat) (f : MapEntry → MapEntry) (hf : ∀ e, (f e).born = e.born) : Brn (es.modify j f) cl := by
 have h0 : ((es.modify j f).toList.map (·.born)) = es.toList.map (·.born) := by rw [Array.toList_modify]; exact map_modify' (·.born) f hf _ _
 refine ⟨by rw [h0]; exact h.1, fun e he => ?_⟩
 have : e.born ∈ (es.modify j f).toList.map (·.born) := List.mem_map.2 ⟨e, he, rfl⟩
 rw [h0] at this
 obtain ⟨x, hx, hxe⟩ := List.mem_map.1 this
 rw [← hxe]; exact h.2 x hx
theorem Brn.erase {es : Array MapEntry} {cl : Nat} (h : Brn es cl) (j : Nat) : Brn (es.eraseIdxIfInBounds j) cl := by
 unfold Brn
 rw [erase_list]
 have hs := List.eraseIdx_sublist es.toList j
 exact ⟨h.1.sublist (hs.map _), fun e he => h.2 e (hs.subset he)⟩
class KeyNow (P : Program) (t : TypeId) (kt : Tp) [DecidableEq kt.den] : Prop where
 d : ∃ d, P.underlying t = some d ∧ (∀ a b : kt.den, Instr.sameNow d (keyV kt a) (keyV kt b) = some (decide (b = a))) ∧ (∀ e n (a : kt.den) (w : World), (Instr.checkKey e (n + 1) t (keyV kt a)).run P w = .ok () w) ∧ ∀ n (a : kt.den), Instr.sameBits (n + 1) (keyV kt a) (keyV kt a) = true
class KeyOk (P : Program) (t : TypeId) (kt : Tp) [DecidableEq kt.den] : Prop where
 find : ∀ (k : kt.den) (es : List MapEntry) (l : List (kt.den × Int)) (w : World), es.map (fun e => (e.key, e.val)) = l.map (fun p => (keyV kt p.1, Value.int .i64 p.2)) → (Instr.findKey t (keyV kt k) es).run P w = .ok ((mfind k l 0).map fun q => (q.1, Value.int .i64 q.2)) w
 check : ∀ e n (a : kt.den) (w : World), (Instr.checkKey e (n + 2) t (keyV kt a)).run P w = .ok () w
 stays : ∀ n (a : kt.den), Instr.sameBits (n + 2) (keyV kt a) (keyV kt a) = true
section
variable {P : Program} {t mt : TypeId} {kt : Tp} [DecidableEq kt.den] {w : World} {r : Nat}
theorem getMap {es : Array MapEntry} {cl : Nat} (hr : w.heap[r]? = some (.map es cl)) : (getObj r).run P w = .ok (.map es cl) w := by simp [getObj, Sem.run, hr]
theorem setMap {es : Array MapEntry} {cl : Nat} (o : Obj) (hr : w.heap[r]? = some (.map es cl)) : (setObj r o).run P w = .ok () { w with heap := w.heap.setIfInBounds r o } := by simp [setObj, Sem.run, hr]
theorem findNow_eq {d : TypeDesc} (hd : ∀ a b : kt.den, Instr.sameNow d (keyV kt a) (keyV kt b) = some (decide (b = a))) (k : kt.den) : ∀ (es : List MapEntry) (l : List (kt.den × Int)) (i : Nat), es.map (fun e => (e.key, e.val)) = l.map (fun p => (keyV kt p.1, Value.int .i64 p.2)) →
   Instr.findNow d (keyV kt k) es i = some ((mfind k l i).map fun q => (q.1, Value.int .i64 q.2))
 | [], [], i, h => rfl
 | [], _ :: _, i, h => by simp at h
 | _ :: _, [], i, h => by simp at h
 | e :: es, p :: l, i, h => by
   simp only [List.map_cons, List.cons.injEq, Prod.mk.injEq] at h
   obtain ⟨⟨h1, h2⟩, h3⟩ := h
   unfold Instr.findNow mfind
   rw [h1, hd]
   by_cases hk : p.1 = k
   · simp [hk, h2]
   · simp only [hk, decide_false, if_false]
     exact findNow_eq hd k es l (i + 1) h3
theorem run_findKey0 [hk : KeyNow P t kt] (k : kt.den) {es : List MapEntry} {l : List (kt.den × Int)} (h : es.map (fun e => (e.key, e.val)) = l.map (fun p => (keyV kt p.1, Value.int .i64 p.2))) :
   (Instr.findKey t (keyV kt k) es).run P w = .ok ((mfind k l 0).map fun q => (q.1, Value.int .i64 q.2)) w := by
 obtain ⟨d, h1, h2, h3, h4⟩ := hk.d
 unfold Instr.findKey
 simp only [Sem.run_bind, run_underlying h1, Result.andThen, findNow_eq h2 k es l 0 h, Sem.run_pure]
instance [hk : KeyNow P t kt] : KeyOk P t kt where
 find := fun k es l w h => run_findKey0 k h
 check := by obtain ⟨d, h1, h2, h3, h4⟩ := hk.d; exact fun e n a w => h3 e (n + 1) a w
 stays := by obtain ⟨d, h1, h2, h3, h4⟩ := hk.d; exact fun n a => h4 (n + 1) a
theorem run_findKey [hk : KeyOk P t kt] (k : kt.den) {es : List MapEntry} {l : List (kt.den × Int)} (h : es.map (fun e => (e.key, e.val)) = l.map (fun p => (keyV kt p.1, Value.int .i64 p.2))) :
   (Instr.findKey t (keyV kt k) es).run P w = .ok ((mfind k l 0).map fun q => (q.1, Value.int .i64 q.2)) w := hk.find k es l w h
theorem run_lookup_map [hk : KeyOk P t kt] {et : TypeId} (hm : P.underlying mt = some (.map t et)) (hz : ∀ w, (zeroValue et).run P w = .ok (.int .i64 0) w) (k : kt.den) {es : Array MapEntry} {cl : Nat} {l : List (kt.den × Int)} (hr : w.heap[r]? = some (.map es cl))
   (h : es.toList.map (fun e => (e.key, e.val)) = l.map (fun p => (keyV kt p.1, Value.int .i64 p.2))) :
   (Instr.lookup mt (.map (some r)) (keyV kt k) false).run P w = .ok (.int .i64 (mget k l)) w := by
 have h3 := hk.check
 have h4 := hk.stays
 unfold Instr.lookup
 simp only [Sem.run_bind, run_underlying hm, Result.andThen, Sem.run_pure, getMap hr, h3, run_findKey k h]
 unfold mget
 cases hf : mfind k l 0 with
 | none => simp [hz, Result.andThen]
 | some q => simp
theorem run_lookup_ok [hk : KeyOk P t kt] {et : TypeId} (hm : P.underlying mt = some (.map t et)) (hz : ∀ w, (zeroValue et).run P w = .ok (.int .i64 0) w) (k : kt.den) {es : Array MapEntry} {cl : Nat} {l : List (kt.den × Int)} (hr : w.heap[r]? = some (.map es cl))
   (h : es.toList.map (fun e => (e.key, e.val)) = l.map (fun p => (keyV kt p.1, Value.int .i64 p.2))) :
   (Instr.lookup mt (.map (some r)) (keyV kt k) true).run P w = .ok (.tuple #[.int .i64 (mget k l), .bool (mfind k l 0).isSome]) w := by
 have h3 := hk.check
 have h4 := hk.stays
 unfold Instr.lookup
 simp only [Sem.run_bind, run_underlying hm, Result.andThen, Sem.run_pure, getMap hr, h3, run_findKey k h]
 unfold mget
 cases hf : mfind k l 0 with
 | none => simp [hz, Result.andThen]
 | some q => simp
theorem run_lookup_nil [hk : KeyOk P t kt] {et : TypeId} (hm : P.underlying mt = some (.map t et)) (hz : ∀ w, (zeroValue et).run P w = .ok (.int .i64 0) w) (k : kt.den) :
   (Instr.lookup mt (.map none) (keyV kt k) false).run P w = .ok (.int .i64 0) w := by
 have h3 := hk.check
 have h4 := hk.stays
 unfold Instr.lookup
 simp only [Sem.run_bind, run_underlying hm, Result.andThen, Sem.run_pure, h3]
 rw [run_findKey (l := []) k rfl]
 simp [hz, Result.andThen, mfind]
theorem run_mapUpdate_map [hk : KeyOk P t kt] {et : TypeId} (hm : P.underlying mt = some (.map t et)) (k : kt.den) (c : Int) {es : Array MapEntry} {cl : Nat} {l : List (kt.den × Int)} (hr : w.heap[r]? = some (.map es cl))
   (h : es.toList.map (fun e => (e.key, e.val)) = l.map (fun p => (keyV kt p.1, Value.int .i64 p.2))) (hB : Brn es cl) :
   ∃ es' cl', (Instr.mapUpdate mt (.map (some r)) (keyV kt k) (.int .i64 c)).run P w = .ok () { w with heap := w.heap.setIfInBounds r (.map es' cl') } ∧
     es'.toList.map (fun e => (e.key, e.val)) = (mset k c l).map (fun p => (keyV kt p.1, Value.int .i64 p.2)) ∧ Brn es' cl' := by
 have h3 := hk.check
 have h4 := hk.stays
 unfold Instr.mapUpdate
 simp only [Sem.run_bind, run_underlying hm, Result.andThen, Sem.run_pure, getMap hr, h3, run_findKey k h]
 unfold mset
 cases hf : mfind k l 0 with
 | none =>
   refine ⟨_, _, by simp only [Option.map_none]; exact setMap _ hr, ?_, hB.push _ _⟩
   simp [h]
 | some q =>
   obtain ⟨j, c0⟩ := q
   obtain ⟨_, hq⟩ := mfind_some hf
   rw [Nat.sub_zero] at hq
   have hj : (es.toList.map (fun e => (e.key, e.val)))[j]? = some (keyV kt k, Value.int .i64 c0) := by rw [h, List.getElem?_map, hq]; rfl
   rw [List.getElem?_map] at hj
   obtain ⟨e, he, hej⟩ := Option.map_eq_some_iff.1 hj
   simp only [Prod.mk.injEq] at hej
   have he' : es[j]? = some e := by rw [← Array.getElem?_toList]; exact he
   have hkey : ((es[j]?).map (·.key)).getD (keyV kt k) = keyV kt k := by rw [he']; exact hej.1
   refine ⟨es.modify j (fun e => { e with key := keyV kt k, val := .int .i64 c }), cl, ?_, ?_, hB.modify _ _ (fun e => rfl)⟩
   · simp only [Option.map_some, Sem.run_bind, hkey, Instr.keyThatStays, h4, if_true, Sem.run_pure, Result.andThen]
     exact setMap _ hr
   · show _ = List.map _ (l.modify j _)
     rw [Array.toList_modify, modify_at he, modify_at hq, List.map_set, List.map_set, h]
theorem run_mapEntry_map [hk : KeyOk P t kt] {et : TypeId} (hm : P.underlying mt = some (.map t et)) (hz : ∀ w, (zeroValue et).run P w = .ok (.int .i64 0) w) (k : kt.den) {es : Array MapEntry} {cl : Nat} {l : List (kt.den × Int)} (hr : w.heap[r]? = some (.map es cl))
   (h : es.toList.map (fun e => (e.key, e.val)) = l.map (fun p => (keyV kt p.1, Value.int .i64 p.2))) (hB : Brn es cl) :
   ∃ es' cl' j e, (Instr.mapEntry mt (.map (some r)) (keyV kt k)).run P w = .ok (.tuple #[.int .i64 (mget k l), .int .i64 ((e : MapEntry).born : Int)]) { w with heap := w.heap.setIfInBounds r (.map es' cl') } ∧
     es'.toList.map (fun e => (e.key, e.val)) = (mset k (mget k l) l).map (fun p => (keyV kt p.1, Value.int .i64 p.2)) ∧ Brn es' cl' ∧ mfind k (mset k (mget k l) l) 0 = some (j, mget k l) ∧ es'.toList[j]? = some e := by
 have h3 := hk.check
 have h4 := hk.stays
 unfold Instr.mapEntry
 simp only [Sem.run_bind, run_underlying hm, Result.andThen, Sem.run_pure, getMap hr, h3, run_findKey k h]
 cases hf : mfind k l 0 with
 | none =>
   have hg : mget k l = 0 := by unfold mget; rw [hf]
   have hs : mset k 0 l = l ++ [(k, 0)] := by unfold mset; rw [hf]
   refine ⟨es.push { key := keyV kt k, val := .int .i64 0, born := cl }, cl + 1, l.length, { key := keyV kt k, val := .int .i64 0, born := cl }, ?_, ?_, hB.push _ _, ?_, ?_⟩
   · simp only [Option.map_none, Sem.run_bind, hz, Result.andThen, setMap _ hr, Sem.run_pure, hg]; rfl
   · rw [hg, hs]; simp [h]
   · rw [hg, hs]; exact mfind_app k 0 l hf
   · have hl : es.toList.length = l.length := by have := congrArg List.length h; simpa using this
     rw [Array.toList_push, List.getElem?_append_right (by omega), hl, Nat.sub_self]
     rfl
 | some q =>
   obtain ⟨j, c0⟩ := q
   obtain ⟨_, hq⟩ := mfind_some hf
   rw [Nat.sub_zero] at hq
   have hg : mget k l = c0 := by unfold mget; rw [hf]
   have hs : mset k c0 l = l := mset_self k l hf
   have hj : (es.toList.map (fun e => (e.key, e.val)))[j]? = some (keyV kt k, Value.int .i64 c0) := by rw [h, List.getElem?_map, hq]; rfl
   rw [List.getElem?_map] at hj
   obtain ⟨e, he, hej⟩ := Option.map_eq_some_iff.1 hj
   simp only [Prod.mk.injEq] at hej
   have he' : es[j]? = some e := by rw [← Array.getElem?_toList]; exact he
   have hkey : ((es[j]?).map (·.key)).getD (keyV kt k) = keyV kt k := by rw [he']; exact hej.1
   have hborn : ((es[j]?).map (fun x => (x.born : Int))).getD 0 = (e.born : Int) := by rw [he']; rfl
   refine ⟨es.modify j (fun e => { e with key := keyV kt k }), cl, j, { e with key := keyV kt k }, ?_, ?_, hB.modify _ _ (fun e => rfl), ?_, ?_⟩
   · simp only [Option.map_some, Sem.run_bind, hkey, hborn, Instr.keyThatStays, h4, if_true, Sem.run_pure, Result.andThen, setMap _ hr, hg]; rfl
   · rw [hg, hs, Array.toList_modify, modify_at he, List.map_set, ← h]
     have e1 : (keyV kt k, e.val) = (e.key, e.val) := by rw [hej.1]
     show (es.toList.map (fun e => (e.key, e.val))).set j (keyV kt k, e.val) = _
     rw [e1]
     exact set_same (by rw [List.getElem?_map, he]; rfl)
   · rw [hg, hs]; exact hf
   · rw [Array.toList_modify, modify_at he, List.getElem?_set_self (List.getElem?_eq_some_iff.1 he).1]
theorem run_entryStore_map {es : Array MapEntry} {cl j : Nat} {e : MapEntry} {l : List (kt.den × Int)} {k : kt.den} {c0 : Int} (hr : w.heap[r]? = some (.map es cl))
   (h : es.toList.map (fun e => (e.key, e.val)) = l.map (fun p => (keyV kt p.1, Value.int .i64 p.2))) (hB : Brn es cl) (hj : es.toList[j]? = some e) (hf : mfind k l 0 = some (j, c0)) (v : Int) :
   ∃ es', (Instr.entryStore mt (.map (some r)) (.int .i64 (e.born : Int)) (.int .i64 v)).run P w = .ok () { w with heap := w.heap.setIfInBounds r (.map es' cl) } ∧
     es'.toList.map (fun e => (e.key, e.val)) = (mset k v l).map (fun p => (keyV kt p.1, Value.int .i64 p.2)) ∧ Brn es' cl := by
 have hidx : es.findIdx? (fun x => (x.born : Int) == (e.born : Int)) = some j := by
   have h9 := findIdx_born hB.1 hj
   cases es
   simpa using h9
 obtain ⟨_, hq⟩ := mfind_some hf
 rw [Nat.sub_zero] at hq
 refine ⟨es.modify j (fun e => { e with val := .int .i64 v }), ?_, ?_, hB.modify _ _ (fun e => rfl)⟩
 · unfold Instr.entryStore
   simp only [Sem.run_bind, getMap hr, Result.andThen, asInt, asIntOf, Sem.run_pure, hidx, setMap _ hr]
   try rfl
 · have hs : mset k v l = l.modify j (fun p => (p.1, v)) := by unfold mset; rw [hf]
   have hk1 : e.key = keyV kt k := by
     have := congrArg (fun q => q[j]?) h
     simp only [List.getElem?_map, hj, hq, Option.map_some, Option.some.injEq, Prod.mk.injEq] at this
     exact this.1
   rw [hs, Array.toList_modify, modify_at hj, modify_at hq, List.map_set, List.map_set, h]
   simp only [hk1]
theorem run_delete_map [hk : KeyOk P t kt] {et ty : TypeId} {ts : Array TypeId} (hm : P.underlying mt = some (.map t et)) (ht : ts[0]? = some mt) (k : kt.den) {es : Array MapEntry} {cl : Nat} {l : List (kt.den × Int)} (hr : w.heap[r]? = some (.map es cl))
   (h : es.toList.map (fun e => (e.key, e.val)) = l.map (fun p => (keyV kt p.1, Value.int .i64 p.2))) (hB : Brn es cl) :
   ∃ es', (Builtin.delete_ ts ty #[.map (some r), keyV kt k]).run P w = .ok (.tuple #[]) { w with heap := w.heap.setIfInBounds r (.map es' cl) } ∧
     es'.toList.map (fun e => (e.key, e.val)) = (mdel k l).map (fun p => (keyV kt p.1, Value.int .i64 p.2)) ∧ Brn es' cl := by
 have h3 := hk.check
 have h4 := hk.stays
 unfold Builtin.delete_
 simp only [ht, List.getElem?_toArray, List.getElem?_cons_zero, List.getElem?_cons_succ, Sem.run_bind, run_underlying hm, Result.andThen, Sem.run_pure, getMap hr, h3, run_findKey k h]
 unfold mdel
 cases hf : mfind k l 0 with
 | none => exact ⟨es, by simp only [Option.map_none, Sem.run_bind, setMap _ hr, Result.andThen, Sem.run_pure], h, hB⟩
 | some q =>
   obtain ⟨j, c0⟩ := q
   refine ⟨es.eraseIdxIfInBounds j, by simp only [Option.map_some, Sem.run_bind, setMap _ hr, Result.andThen, Sem.run_pure], ?_, hB.erase j⟩
   show _ = List.map _ (l.eraseIdx j)
   have hsub := erase_list es j
   have hmap : ∀ {β γ : Type} (g : β → γ) (l : List β) (j : Nat), (l.eraseIdx j).map g = (l.map g).eraseIdx j := by
     intro β γ g l
     induction l with
     | nil => intro j; rfl
     | cons x l ih => intro j; cases j with
       | zero => rfl
       | succ j => simp [ih]
   rw [hsub, hmap, hmap, h]
theorem run_delete_nil [hk : KeyOk P t kt] {et ty : TypeId} {ts : Array TypeId} (hm : P.underlying mt = some (.map t et)) (ht : ts[0]? = some mt) (k : kt.den) :
   (Builtin.delete_ ts ty #[.map none, keyV kt k]).run P w = .ok (.tuple #[]) w := by
 have h3 := hk.check
 have h4 := hk.stays
 unfold Builtin.delete_
 simp only [ht, List.getElem?_toArray, List.getElem?_cons_zero, List.getElem?_cons_succ, Sem.run_bind, run_underlying hm, Result.andThen, Sem.run_pure, h3]
end
end
section
variable {R : Type}
def szOf (P : Program) (t : TypeId) : Option Nat := (P.info? t).map (·.size)
def arrTp : Nat → Tp → Tp
 | 0, _ => .emp
 | 1, a => .one a
 | n + 2, a => .cons a (arrTp (n + 1) a)
def tpOf (P : Program) : Nat → TypeId → Option Tp
 | 0, _ => none
 | f + 1, t => match P.underlying t with
   | some (.int k) => some (.int k)
   | some .bool => some .bool
   | some .string => some .str
   | some (.slice e) => (tpOf P f e).map .sl
   | some (.pointer e) => (tpOf P f e).map .ptr
   | some (.struct fs) => go (fun g => tpOf P f g) fs.toList
   | some (.array n e) => (tpOf P f e).map (arrTp n)
   | _ => none
where
 go (q : TypeId → Option Tp) : List Field → Option Tp
   | [] => some .emp
   | [g] => (q g.type).map .one
   | g :: gs => match q g.type, go q gs with
     | some a, some r => some (.cons a r)
     | _, _ => none
mutual
def SV.sub (f : SV → Option SV) : SV → SV
 | .agg vs => .agg (SV.subL f vs)
 | .tup vs => .tup (SV.subL f vs)
 | .fn g cs => .fn g (SV.subL f cs)
 | .is j v => match f (.is j v) with | some u => u | none => .is j (v.sub f)
 | v => match f v with | some u => u | none => v
def SV.subL (f : SV → Option SV) : List SV → List SV
 | [] => []
 | v :: vs => v.sub f :: SV.subL f vs
end
def HA.sub (f : SV → Option SV) : HA → HA
 | .blk i c e cs => .blk i c e (SV.subL f cs)
 | .hole i c e o l j cs => .hole i c e o l j (SV.subL f cs)
 | a => a
def subT (f : SV → Option SV) : List (Nat × SV) → List (Nat × SV)
 | [] => []
 | p :: r => (p.1, p.2.sub f) :: subT f r
def fixF (j : Nat) (v : SV) : SV → Option SV
 | .is i _ => bif Nat.beq i j then some (.is i v) else none
 | _ => none
def Zt.fix (σ : Zt) (j : Nat) (v : SV) : Zt := ⟨σ.base, subT (fixF j v) σ.top, σ.H.map (HA.sub (fixF j v)), σ.Hf, σ.nx, σ.kq⟩
def der (σ : Zt) (x : Operand) (v : SV) (k : Zt → SV → Option R) : Option R := match v with
 | .pk t y => y.bind fun z => k (match x with | .tmp i => σ.ref i (.kat t z 0) | _ => σ) (.kat t z 0)
 | .is j w => (match w with
   | .pk t y => y.bind fun z => k (σ.fix j (.kat t z 0)) (.kat t z 0)
   | w => k σ w.st)
 | v => k σ v.st
def fitOk (P : Program) (o : Nat) (t : Tp) (s : TypeId) : Bool := match szOf P s with | some z => Nat.ble (o + z) t.size && (scalar P s || (match P.underlying s with | some (.struct _) => true | _ => false)) | none => false
def ldv (P : Program) (s : TypeId) (cs : List SV) (o : Nat) : Option SV :=
 bif scalar P s then cs[o]? else match P.underlying s, szOf P s with
   | some (.struct _), some z => bif Nat.ble (o + z) cs.length then some (.agg ((cs.drop o).take z)) else none
   | some (.array _ _), some z => bif Nat.ble (o + z) cs.length then some (.agg ((cs.drop o).take z)) else none
   | _, _ => none
def findR {α β : Type} (f : α → Option β) : List α → Option β
 | [] => none
 | a :: l => match f a with | some b => some b | none => findR f l
def SV.plain : SV → Bool
 | .int _ _ | .bool _ | .str _ => true
 | _ => false
def load (P : Program) (A : List HA) (σ : Zt) (s : TypeId) (v : SV) (k : Zt → SV → Option R) : Option R := match v with
 | .ptr i o => match findR (HA.blkR i) A with
   | some q => (match ldv P s q.cs o with | some v => k σ v | none => none)
   | none => none
 | .kat t x o => (match ldv P s (SV.lv t x) o with | some v => k σ v | none => none)
 | .rat i c t j x o => match findR (HA.rowR i) A with
   | some q => bif Nat.beq q.c c then (match ldv P s (SV.lv t x) o with | some v => k σ v | none => none) else none
   | none => none
 | .hat i o j off => match findR (HA.holR i) A with
   | some q => bif Nat.beq o.tp.size q.o.tp.size then (chkI j q.j).bind fun _ => (match ldv P s q.cs off with | some v => k σ v | none => none) else none
   | none => match findR (HA.rowsR i) A with
     | some q => bif Nat.beq o.tp.size q.o.tp.size && scalar P s then (getI q.l j).bind fun x => (match (OT.rv q.o x)[off]? with | some v => bif v.plain then k σ v else none | none => none) else none
     | none => none
 | _ => none
def fieldAt (P : Program) (s : TypeId) (i : Nat) : Option Field := match P.underlying s with | some (.struct fs) => fs[i]? | _ => none
def addO : SV → Nat → Option SV
 | .ptr i o, d => some (.ptr i (o + d))
 | .kat t x o, d => some (.kat t x (o + d))
 | .rat i c t j x o, d => some (.rat i c t j x (o + d))
 | .hat i o j off, d => some (.hat i o j (off + d))
 | _, _ => none
def lenOf (A : List HA) : SV → Option Int
 | .nils => some 0
 | .row _ _ n => some ((n : Nat) : Int)
 | .str s => some ((s.length : Nat) : Int)
 | .fsl _ m => some ((m : Nat) : Int)
 | .fsa _ _ m _ => some ((m : Nat) : Int)
 | .own i => match findR (HA.rowR i) A with
   | some q => some ((q.n : Nat) : Int)
   | none => match findR (HA.rowsR i) A with
     | some q => some ((q.l.length : Nat) : Int)
     | none => match findR (HA.holR i) A with | some q => some ((q.l.length : Nat) : Int) | none => none
 | _ => none
def fillS (place : Nat → Option (Nat × Nat)) : List SV → List (Nat × SV) → Option (List SV)
 | cs, [] => some cs
 | cs, (i, v) :: r => match place i, v.cells with
   | some (off, size), some vs => bif Nat.beq vs.length size && Nat.ble (off + size) cs.length then fillS place (cs.take off ++ vs ++ cs.drop (off + size)) r else none
   | _, _ => none
def zeroS (P : Program) (t : TypeId) : Option (List SV) := match P.info? t with
 | some i => (match i.zero with | some z => (SV.con z).cells | none => none)
 | none => none
def placesOf (P : Program) (s : TypeId) : Option (List (Nat × Nat)) := match P.underlying s with
 | some (.struct fs) => fs.toList.mapM fun f => (P.info? f.type).map fun i => (f.offset, i.size)
 | some (.array n e) => (P.info? e).map fun i => (List.range n).map fun j => (j * i.size, i.size)
 | _ => none
def eqI : List SV → List SV → Option Bool
 | [.int k a], [.int k' b] => if k = k' then some (decide (a = b)) else none
 | _, _ => none
def eqB : List SV → List SV → Option Bool
 | [.bool a], [.bool b] => some (a == b)
 | _, _ => none
def eqT : List SV → List SV → Option Bool
 | [.str a], [.str b] => some (decide (a = b))
 | _, _ => none
def eqA (q : List SV → List SV → Option Bool) (z : Nat) (x y : List SV) : Nat → Nat → Option Bool
 | 0, _ => some true
 | 1, i => q ((x.drop (i * z)).take z) ((y.drop (i * z)).take z)
 | n + 2, i => match q ((x.drop (i * z)).take z) ((y.drop (i * z)).take z), eqA q z x y (n + 1) (i + 1) with | some a, some b => some (a && b) | _, _ => none
def eqS (P : Program) : Nat → TypeId → List SV → List SV → Option Bool
 | 0, _, _, _ => none
 | f + 1, t, x, y => match P.underlying t with
   | some (.int _) => eqI x y
   | some .bool => eqB x y
   | some .string => eqT x y
   | some (.struct fs) => bif P.stoodInHeld t then none else go (fun g a b => eqS P f g a b) fs.toList x y
   | some (.array n e) => (match szOf P e with | some z => eqA (fun a b => eqS P f e a b) z x y n 0 | none => none)
   | _ => none
where
 go (q : TypeId → List SV → List SV → Option Bool) : List Field → List SV → List SV → Option Bool
   | [], _, _ => some true
   | [g], x, y => bif g.name == "_" then none else match szOf P g.type with
     | some z => q g.type ((x.drop g.offset).take z) ((y.drop g.offset).take z)
     | none => none
   | g :: gs, x, y => bif g.name == "_" then none else match szOf P g.type with
     | some z => (match q g.type ((x.drop g.offset).take z) ((y.drop g.offset).take z), go q gs x y with | some a, some b => some (a && b) | _, _ => none)
     | none => none
def arith : BinOp → IntKind → Int → Int → Option SV
 | .add, q, a, b => some (.int q (IntKind.wrap q (a + b)))
 | .sub, q, a, b => some (.int q (IntKind.wrap q (a - b)))
 | .mul, q, a, b => some (.int q (IntKind.wrap q (a * b)))
 | .and, q, a, b => some (.int q (IntKind.wrap q ((BitVec.ofInt (IntKind.bits q) a &&& BitVec.ofInt (IntKind.bits q) b).toNat : Int)))
 | .or, q, a, b => some (.int q (IntKind.wrap q ((BitVec.ofInt (IntKind.bits q) a ||| BitVec.ofInt (IntKind.bits q) b).toNat : Int)))
 | .xor, q, a, b => some (.int q (IntKind.wrap q ((BitVec.ofInt (IntKind.bits q) a ^^^ BitVec.ofInt (IntKind.bits q) b).toNat : Int)))
 | .andNot, q, a, b => some (.int q (IntKind.wrap q ((BitVec.ofInt (IntKind.bits q) a &&& ~~~BitVec.ofInt (IntKind.bits q) b).toNat : Int)))
 | .lss, _, a, b => some (.bool (decide (a < b)))
 | .leq, _, a, b => some (.bool (decide (a ≤ b)))
 | .gtr, _, a, b => some (.bool (decide (b < a)))
 | .geq, _, a, b => some (.bool (decide (b ≤ a)))
 | .eql, _, a, b => some (.bool (decide (a = b)))
 | .neq, _, a, b => some (.bool (!decide (a = b)))
 | _, _, _, _ => none
def binI (σ : Zt) (op : BinOp) (q : IntKind) (a : Int) (q' : IntKind) (b : Int) (k : Zt → SV → Option R) : Option R := match op with
 | .shl => (ge0 b).bind fun _ => k σ (.int q (IntKind.wrap q (a * 2 ^ (min (Int.toNat b) (IntKind.bits q)))))
 | .shr => (ge0 b).bind fun _ => k σ (.int q (Int.fdiv a (2 ^ (min (Int.toNat b) (IntKind.bits q)))))
 | .quo => if q = q' then (nz b).bind fun _ => k σ (.int q (IntKind.wrap q (Int.tdiv a b))) else none
 | .rem => if q = q' then (nz b).bind fun _ => k σ (.int q (Int.tmod a b)) else none
 | op => if q = q' then (match arith op q a b with | some v => k σ v | none => none) else none
def binB (P : Program) (σ : Zt) (op : BinOp) (t : TypeId) (a b : Bool) (k : Zt → SV → Option R) : Option R := match P.underlying t with
 | some .bool => (match op with
   | .eql => k σ (.bool (a == b))
   | .neq => k σ (.bool (!(a == b)))
   | _ => none)
 | _ => none
def binT (σ : Zt) (op : BinOp) (a b : List UInt8) (k : Zt → SV → Option R) : Option R := match op with
 | .eql => k σ (.bool (decide (a = b)))
 | .neq => k σ (.bool (!decide (a = b)))
 | .add => (app a b).bind fun z => k σ (.str z)
 | _ => none
def binA (P : Program) (σ : Zt) (op : BinOp) (t : TypeId) (a b : List SV) (k : Zt → SV → Option R) : Option R := bif P.eqGuardType P.depth t then none else match P.underlying t, eqS P 10 t a b with
 | some (.struct _), some e => (match op with
   | .eql => k σ (.bool e)
   | .neq => k σ (.bool (!e))
   | _ => none)
 | some (.array _ _), some e => (match op with
   | .eql => k σ (.bool e)
   | .neq => k σ (.bool (!e))
   | _ => none)
 | _, _ => none
def isNilP (A : List HA) : SV → Option Bool
 | .own i => (match findR (HA.boxR i) A with | some q => some q.x.isNone | none => none)
 | .hat _ _ _ _ => some false
 | .nilp => some true
 | .ptr _ _ => some false
 | .kat _ _ _ => some false
 | .pk _ x => some x.isNone
 | _ => none
def binP (P : Program) (σ : Zt) (op : BinOp) (t : TypeId) (x : SV) (k : Zt → SV → Option R) : Option R := match P.underlying t, isNilP (σ.H ++ σ.Hf) x with
 | some (.pointer _), some b => (match op with
   | .eql => k σ (.bool b)
   | .neq => k σ (.bool (!b))
   | _ => none)
 | _, _ => none
def binF (P : Program) (σ : Zt) (op : BinOp) (t : TypeId) (k : Zt → SV → Option R) : Option R := match P.underlying t with
 | some (.func ..) => (match op with
   | .eql => k σ (.bool false)
   | .neq => k σ (.bool true)
   | _ => none)
 | _ => none
def isNilS (σ : Zt) (neg : Bool) : SV → Option SV
 | .nils => some (.bool (!neg))
 | .row t l _ => some (.nlt t l neg)
 | .own i => match findR (HA.rowR i) (σ.H ++ σ.Hf) with
   | some q => some (.nlt q.t q.l neg)
   | none => match findR (HA.rowsR i) (σ.H ++ σ.Hf) with | some q => some (.nlt q.o.tp q.l neg) | none => none
 | _ => none
def binE (P : Program) (σ : Zt) (op : BinOp) (t : TypeId) (k : Zt → SV → Option R) : Option R := match P.underlying t with
 | some (.interface _) => (match op with
   | .eql => k σ (.bool false)
   | .neq => k σ (.bool true)
   | _ => none)
 | _ => none
def binN (P : Program) (σ : Zt) (op : BinOp) (t : TypeId) (x : SV) (k : Zt → SV → Option R) : Option R := match P.underlying t with
 | some (.slice _) => (match op with
   | .eql => (match isNilS σ false x with | some v => k σ v | none => none)
   | .neq => (match isNilS σ true x with | some v => k σ v | none => none)
   | _ => none)
 | _ => none
def bin (P : Program) (σ : Zt) (op : BinOp) (t : TypeId) (x y : SV) (k : Zt → SV → Option R) : Option R := match x, y with
 | .int q a, .int q' b => binI σ op q a q' b k
 | .bool a, .bool b => binB P σ op t a b k
 | .str a, .str b => binT σ op a b k
 | .agg a, .agg b => binA P σ op t a b k
 | .fn _ _, .raw .nilFunc => binF P σ op t k
 | .ifc _ _, .raw .nilIface => binE P σ op t k
 | x, .nilp => binP P σ op t x k
 | x, .nils => binN P σ op t x k
 | _, _ => none
def lohi (σ : Zt) (n : Nat) (lo hi : Option Operand) (len : Int) : Option (Int × Int) :=
 match (match lo with | none => some 0 | some q => (match σ.ev n q with | .int _ l => some l | _ => none)), (match hi with | none => some len | some q => (match σ.ev n q with | .int _ l => some l | _ => none)) with
 | some l, some h => some (l, h)
 | _, _ => none
def vun (σ : Zt) (op : UnOp) (x : SV) (k : Zt → SV → Option R) : Option R := match op, x with
 | .not, .bool b => k σ (.bool (!b))
 | .neg, .int q a => k σ (.int q (IntKind.wrap q (0 - a)))
 | _, _ => none
def vconv (P : Program) (mem : Bool) (A : List HA) (σ : Zt) (s d : TypeId) (x : SV) (k : Zt → SV → Option R) : Option R := match P.underlying s, P.underlying d, x with
 | some (.int q0), some (.int q), .int q1 a => if q0 = q1 then k σ (.int q (IntKind.wrap q a)) else none
 | some (.slice e), some .string, v => (match P.underlying e, v with
   | some (.int .u8), .nils => k σ (.str [])
   | some (.int .u8), .row (.int .u8) l _ => bif mem then k σ (.str (toU8 l)) else none
   | some (.int .u8), .own i => (match findR (HA.rowR i) A with | some ⟨_, _, .int .u8, l, _⟩ => k σ (.str (toU8 l)) | _ => none)
   | _, _ => none)
 | _, _, _ => none
def vcall (P : Program) (n : Nat) (σ : Zt) (c : Call) (k : Zt → SV → Option R) : Option R := match c.callee, c.args.toList, c.argTypes.toList with
 | .builtin .len, [x], [t] => (match P.underlying t with
   | some .string => (match σ.ev n x with | .str s => k σ (.int .i64 ((s.length : Nat) : Int)) | _ => none)
   | some (.slice _) => (match σ.ev n x with | .str _ => none | v => match lenOf (σ.H ++ σ.Hf) v with | some z => k σ (.int .i64 z) | none => none)
   | _ => none)
 | .builtin .max, [x, y], _ => (match σ.ev n x, σ.ev n y with | .int q a, .int q' b => if q = q' then k σ (.int q (if a < b then b else a)) else none | _, _ => none)
 | .builtin .min, [x, y], _ => (match σ.ev n x, σ.ev n y with | .int q a, .int q' b => if q = q' then k σ (.int q (if b < a then b else a)) else none | _, _ => none)
 | _, _, _ => none
structure ChR where
 t : Tp
 x : Option (Int × List t.den)
def HA.chR (i : Nat) : HA → Option ChR
 | .od j _ (.obj 1 (.cons (.int .i64) (.one (.sl t)))) x => bif Nat.beq j i then some ⟨t, x⟩ else none
 | .od j _ (.chn a) x => bif Nat.beq j i then some ⟨a.tp, x⟩ else none
 | _ => none
def chS (n : Nat) (A : List HA) (σ : Zt) (cap : Bool) (x : Operand) (k : Zt → SV → Option R) : Option R := match σ.ev n x with
 | .own i => (match findR (HA.chR i) A with
   | some q => (match q.x with
     | some y => k σ (.int .i64 (bif cap then y.1 else ((y.2.length : Nat) : Int)))
     | none => none)
   | none => none)
 | _ => none
def HA.mapR (i : Nat) : HA → Option (Option (List (Int × Int)))
 | .od j _ (.obj 0 (.sl (.cons (.int .i64) (.one (.int .i64))))) x => bif Nat.beq j i then some x else none
 | _ => none
def mapOk (P : Program) (mt : TypeId) : Bool := match P.underlying mt with
 | some (.map t et) => (match P.underlying t, P.info? et with
   | some (.int .i64), some i => (match i.zero with | some (.int .i64 0) => true | _ => false)
   | _, _ => false)
 | _ => false
def lookS (P : Program) (n : Nat) (A : List HA) (σ : Zt) (mt : TypeId) (x y : Operand) (ok : Bool) (k : Zt → SV → Option R) : Option R := bif mapOk P mt then (match σ.ev n x, σ.ev n y with
 | .own i, .int .i64 c => (match findR (HA.mapR i) A with
   | some q => q.bind fun l => k σ (bif ok then .tup [.int .i64 (mget c l), .bool (mfind c l 0).isSome] else .int .i64 (mget c l))
   | none => none)
 | _, _ => none) else none
def vcallA (P : Program) (n : Nat) (A : List HA) (σ : Zt) (c : Call) (k : Zt → SV → Option R) : Option R := match c.callee, c.args.toList, c.argTypes.toList with
 | .builtin .len, [x], [t] => (match P.underlying t with
   | some (.chan _ _) => chS n A σ false x k
   | _ => vcall P n σ c k)
 | .builtin .cap, [x], [t] => (match P.underlying t with
   | some (.chan _ _) => chS n A σ true x k
   | some (.slice _) => (match σ.ev n x with | .nils => k σ (.int .i64 0) | _ => none)
   | _ => none)
 | _, _, _ => vcall P n σ c k
def ixa : Nat → Nat → Int → (Nat → Option R) → Option R
 | 0, _, _, _ => none
 | n + 1, j, i, f => cond (decide (i = ((j : Nat) : Int))) (f j) (ixa n (j + 1) i f)
def viad (P : Program) (σ : Zt) (t : TypeId) (x y : SV) (k : Zt → SV → Option R) : Option R := match P.underlying t with
 | some (.slice e) => (match szOf P e, x, y with
   | some z, .row tp l _, .int _ i => bif Nat.beq z tp.size then (getI l i).bind fun x => k σ (.kat tp x 0) else none
   | some z, .own r, .int _ i => (match findR (HA.rowR r) (σ.H ++ σ.Hf) with
     | some q => bif Nat.beq z q.t.size then (getI q.l i).bind fun x => k σ (.rat r q.c q.t i x 0) else none
     | none => match findR (HA.rowsR r) (σ.H ++ σ.Hf) with
       | some q => bif Nat.beq z q.o.tp.size then (getI q.l i).bind fun _ => k σ (.hat r q.o i 0) else none
       | none => match findR (HA.holR r) (σ.H ++ σ.Hf) with
         | some q => bif Nat.beq z q.o.tp.size then (getI q.l i).bind fun _ => k σ (.hat r q.o i 0) else none
         | none => none)
   | some z, .fsl b m, .int _ i => (match i with | .ofNat j => bif Nat.blt j m then k σ (.ptr b (j * z)) else none | _ => none)
   | some z, .fsa b o m _, .int _ i => ixa m 0 i fun j => k σ (.ptr b (o + j * z))
   | _, _, _ => none)
 | some (.array len e) => (match szOf P e, x, y with
   | some z, .ptr b o, .int _ i => ixa len 0 i fun j => k σ (.ptr b (o + j * z))
   | _, _, _ => none)
 | _ => none
def vslc (P : Program) (n : Nat) (σ : Zt) (t : TypeId) (x : SV) (lo hi : Option Operand) (k : Zt → SV → Option R) : Option R := match P.underlying t, x with
 | some .string, .str s => (match lohi σ n lo hi ((s.length : Nat) : Int) with | some (l, h) => (subL s l h).bind fun y => k σ (.str y) | none => none)
 | some (.slice e), .own i => (match findR (HA.rowR i) (σ.H ++ σ.Hf) with
   | some q => if szOf P e = some q.t.size then (match lohi σ n lo hi ((q.n : Nat) : Int) with | some (a, b) => (subL q.l a b).bind fun _ => k σ (.prt i q.t.size a b) | none => none) else none
   | none => none)
 | some (.slice e), .nils => if (szOf P e).isSome then (match lohi σ n lo hi 0 with | some (a, b) => (subL ([] : List Unit) a b).bind fun _ => k σ .nils | none => none) else none
 | some (.slice e), .row tp l z => if szOf P e = some tp.size then (match lohi σ n lo hi ((z : Nat) : Int) with | some (a, b) => (subL l a b).bind fun y => k σ (.row tp y y.length) | none => none) else none
 | some (.array len e), .ptr b o => (match szOf P e, lohi σ n lo hi ((len : Nat) : Int) with
   | some z, some (.ofNat a, .ofNat h) => bif Nat.ble a h && Nat.ble h len && Nat.blt a len then k σ (.fsa b (o + a * z) (h - a) (len - a)) else none
   | _, _ => none)
 | _, _ => none
def vop (P : Program) (n : Nat) (mem : Bool) (A : List HA) (σ : Zt) (o : Op) (k : Zt → SV → Option R) : Option R := match o with
 | .move x => k σ (σ.evr n x)
 | .assign x => k σ (σ.evr n x)
 | .pick c x y => (match σ.ev n c with | .bool t => cond t (k σ (σ.ev n x)) (k σ (σ.ev n y)) | _ => none)
 | .binOp op t x y _ => bin P σ op t (σ.ev n x) (σ.ev n y) k
 | .unOp op _ x => vun σ op (σ.ev n x) k
 | .convert s d x => vconv P mem A σ s d (σ.ev n x) k
 | .extract x i => (match σ.ev n x with | .tup vs => (match vs[i]? with | some v => k σ v | none => none) | _ => none)
 | .call c => vcallA P n A σ c k
 | .fieldAddr s x i => (match fieldAt P s i with
   | some f => bif Nat.beq (P.cellsOf f.type) 0 then none else der σ x (σ.evr n x) fun σ v => match addO v f.offset with | some v => k σ v | none => none
   | none => none)
 | .field s x i => (match fieldAt P s i, σ.ev n x with
   | some f, .agg cs => (match ldv P f.type cs f.offset with | some v => k σ v | none => none)
   | _, _ => none)
 | .build s ps => (match zeroS P s, placesOf P s with
   | some z, some pl => (match fillS (fun i => pl[i]?) z (ps.toList.map fun p => (p.1, σ.evr n p.2)) with | some cs => k σ (.agg cs) | none => none)
   | _, _ => none)
 | .indexAddr t x y => viad P σ t (σ.ev n x) (σ.ev n y) k
 | .index t x y => (match P.underlying t, σ.ev n x, σ.ev n y with
   | some .string, .str s, .int _ i => (getI s i).bind fun q => k σ (.int .u8 ((q.toNat : Nat) : Int))
   | _, _, _ => none)
 | .lookup t x y ok => lookS P n A σ t x y ok k
 | .load s x => der σ x (σ.evr n x) fun σ v => (match v with | .kat _ _ _ => (bif mem then load P A σ s v k else none) | v => load P A σ s v k)
 | .slice t x lo hi mx => (match mx with | none => vslc P n σ t (σ.ev n x) lo hi k | some _ => none)
 | .nilCheck x => der σ x (σ.evr n x) fun σ v => (match v with | .ptr _ _ => k σ v | .kat _ _ _ => k σ v | .rat _ _ _ _ _ _ => k σ v | .hat _ _ _ _ => k σ v | _ => none)
 | .makeInterface t x => (match P.underlying t with | some (.interface _) => none | some _ => k σ (.ifc t (σ.ev n x)) | none => none)
 | .typeAssert x _ t true => (match σ.ev n x, P.underlying t with
   | .ifc u v, some d => bif Nat.beq u t && (match d with | .interface _ => false | _ => true) then k σ (.tup [v, .bool true]) else none
   | _, _ => none)
 | .makeFunc f fs xs => (match f with | .func f => bif fs.isEmpty then k σ (.fn f (xs.toList.map (σ.ev n))) else none | _ => none)
 | _ => none
end
section
def ofU8 (s : List UInt8) : List Int := s.map fun x => (x.toNat : Int)
theorem els_of {K : Hp} : ∀ (s : List UInt8), Els K (.int .u8) (Lib.strCells ⟨s.toArray⟩) (ofU8 s)
 | [] => rfl
 | x :: s => ⟨[.int .u8 (x.toNat : Int)], Lib.strCells ⟨s.toArray⟩, by simp [Lib.strCells], rfl, els_of s⟩
section
variable {P : Program} {E : En} {n : Nat} {ρ : Sl0} {K : Hp} {L : List Atom} {d : Nat} {t : TypeId} {pos : String} {af : Array Edge} {g : Option (Nat × Bool)} {x y c : Operand} {u v : Value}
theorem run_appS {w : World} {s e tu ty : TypeId} {v : Value} {N : Nat} {cs : List Value} {z : List UInt8} (hs : P.underlying s = some (.slice e)) (hu : P.underlying tu = some .string) (hi : Inf P e (.int .u8 0) 1 1)
   (ho : w.ownsRow 0 e 1 v N cs) (hlen : N + z.length ≤ 1073741824) :
   ∃ v' w', (Builtin.append_ #[s, tu] ty #[v, .string ⟨z.toArray⟩]).run P w = .ok v' w' ∧ w'.ownsRow 0 e 1 v' (N + z.length) (cs ++ Lib.strCells ⟨z.toArray⟩) ∧ w.grownBy w' v.ownBlock ∧ (v'.ownBlock = v.ownBlock ∨ v'.ownBlock = some w.heap.size) := by
 obtain ⟨i, i1, i2, i3, i4⟩ := hi.open
 have hz : (⟨z.toArray⟩ : ByteArray).size = z.length := by simp [ByteArray.size]
 obtain ⟨v', w', h1, h2, h3, h4⟩ := Lib.run_append_own_string (P := P) w 0 s tu ty e i hs hu i1 i2 i3 i4 v N cs ho ⟨z.toArray⟩ (by rw [hz]; unfold maxLen; omega) (by rw [hz]; omega) (Nat.zero_le _)
 rw [hz] at h2
 refine ⟨v', w', h1, h2, h3, ?_⟩
 have hxl : cs.length = N := by simpa using ho.1
 rcases ho.2 with ⟨rfl, rfl⟩ | ⟨g, cap, cur, rfl, hbg, hg, hnc, hcm, hcs, htake⟩
 · by_cases hm : z.length = 0
   · have := h4.2 ⟨rfl, by rw [hz]; exact hm⟩
     subst this; exact .inl rfl
   · have hr := run_append_nil_string (P := P) w s tu ty e i (.int .u8 0) hs hu i1 i2 ⟨z.toArray⟩ (by rw [hz]; omega) (by rw [hz]; omega) (by rw [i4, hz]; omega)
     rw [hr] at h1
     simp only [Result.ok.injEq] at h1
     rw [← h1.1]; exact .inr rfl
 · by_cases hroom : N + z.length ≤ cap
   · have hcs' : cur.size = cap := by simpa using hcs
     have hr := Lib.run_append_room_string (P := P) w s tu ty e i hs hu i1 i3 g N cap cur hg ⟨z.toArray⟩ (by rw [hz]; exact hroom) (by rw [hz]; omega)
     rw [hr] at h1
     simp only [Result.ok.injEq] at h1
     rw [← h1.1]; exact .inl rfl
   · have holds : ∀ j u, cs[j]? = some u → w.cell? ((⟨g, 0, none⟩ : Addr).add j) = some u := ho.cells (g := g) rfl
     have hr := Lib.run_append_grow_string (P := P) w s tu ty e i (.int .u8 0) hs hu i1 i2 ⟨g, 0, none⟩ N cap cs (by rw [i3]; simpa using hxl) holds ⟨z.toArray⟩ (by rw [hz]; omega) (by rw [hz]; omega) (by rw [i4, hz]; exact growslice_fits (by omega) (by omega))
     rw [hr] at h1
     simp only [Result.ok.injEq] at h1
     rw [← h1.1]; exact .inr rfl
theorem A.appS {s e tu : TypeId} {K0 : Hp} {xs : List Int} {ys : List UInt8} (hs : P.underlying s = some (.slice e)) (hu : P.underlying tu = some .string) (hi : Inf P e (.int .u8 0) 1 1)
   (hx : ev n ρ x = v) (hy : ev n ρ y = .string ⟨ys.toArray⟩) {zs : List Int} (hz : Go.Proofs.YtmlbbjkojaljnaaDoor.app xs (ofU8 ys) = some zs) :
   Ao P E n ⟨some d, .call ⟨.builtin .append, #[x, y], #[s, tu]⟩, t, pos, af, g⟩ ρ K (Row K0 e (.int .u8) v xs :: L) (fun ρ' K' L' => ∃ v', ρ' = upd ρ d v' ∧ K = K' ∧ L' = Row Hp.nil e (.int .u8) v' zs :: L) :=
 Ao.of rfl (fun w hsep => by
   obtain ⟨hlen, rfl⟩ := app_some hz
   have hsep' := hsep
   obtain ⟨h, ⟨cs, h1, h2⟩, h3, h4⟩ := hsep
   have hown := h2.owns (w := w) (fun n o e => h4.sub n o (Hp.join_right e (h3 n o e)))
   have hl : (ofU8 ys).length = ys.length := by simp [ofU8]
   obtain ⟨v', w', r1, r2, r3, r5⟩ := run_appS (P := P) (w := w) (ty := t) hs hu hi hown (by rw [hl] at hlen; exact hlen)
   refine ⟨v', w', K, _, ?_, hsep'.grown (K1 := Hp.nil) (t := .int .u8) (zs := xs ++ ofU8 ys) (by rw [List.length_append, hl]) r2 ((Els.flat rfl h1).app (els_of ys)) r3 r5, v', rfl, rfl, rfl⟩
   simp [execOp, resolve, invoke, builtin, hx, hy, r1])
end
end
def Hp.cle (a b : Hp) : Prop := ∀ (g o : Nat) (v : Value), cellK a g o = some v → cellK b g o = some v
theorem Hp.le.cle {a b : Hp} (h : a.le b) : a.cle b := fun _ _ _ k => cellK_le h k
theorem Hp.cle.trans {a b c : Hp} (h : a.cle b) (k : b.cle c) : a.cle c := fun g o v e => k g o v (h g o v e)
theorem Hp.cle_refl (a : Hp) : a.cle a := fun _ _ _ h => h
theorem Is.monoC {K K' : Hp} (f : K.cle K') : ∀ {t : Tp} {cs : List Value} {d : t.den}, Is K t cs d → Is K' t cs d
 | .int _, cs, d, h => h
 | .bool, cs, d, h => h
 | .str, cs, d, h => h
 | .emp, cs, d, h => h
 | .one a, cs, d, h => by simp only [Is] at h ⊢; exact Is.monoC f h
 | .sl e, cs, d, h => by
   simp only [Is] at h ⊢
   obtain ⟨ad, cap, h1, h2, h3, h4⟩ := h
   refine ⟨ad, cap, h1, h2, h3, fun hne => ?_⟩
   obtain ⟨b, o, hb, hk⟩ := h4 hne
   refine ⟨b, o, hb, fun k x hx => ?_⟩
   obtain ⟨es, hl, hi, hj⟩ := hk k x hx
   refine ⟨es, hl, Is.monoC f hi, fun j hjl => ?_⟩
   have := hj j hjl
   rw [List.getElem?_eq_getElem (by omega)] at this ⊢
   exact f _ _ _ this
 | .ptr e, cs, d, h => by
   simp only [Is] at h ⊢
   rcases h with h | ⟨x, b, o, h1, h2, es, hl, hi, hj⟩
   · exact .inl h
   · refine .inr ⟨x, b, o, h1, h2, es, hl, Is.monoC f hi, fun j hjl => ?_⟩
     have := hj j hjl
     rw [List.getElem?_eq_getElem (by omega)] at this ⊢
     exact f _ _ _ this
 | .cons a r, cs, d, h => by
   simp only [Is] at h ⊢
   obtain ⟨c1, c2, rfl, h1, h2, h3⟩ := h
   exact ⟨c1, c2, rfl, h1, Is.monoC f h2, Is.monoC f h3⟩
theorem At.monoC {K K' : Hp} (f : K.cle K') {e : Tp} {b o : Nat} {x : e.den} (h : At K e b o x) : At K' e b o x := by
 obtain ⟨es, hl, hi, hj⟩ := h
 refine ⟨es, hl, Is.monoC f hi, fun j hjl => ?_⟩
 have := hj j hjl
 rw [List.getElem?_eq_getElem (by omega)] at this ⊢
 exact f _ _ _ this
theorem Els.monoC {K K' : Hp} (f : K.cle K') {t : Tp} : ∀ {xs : List t.den} {cs : List Value}, Els K t cs xs → Els K' t cs xs
 | [], cs, h => h
 | x :: xs, cs, h => by
   obtain ⟨es, r, rfl, h1, h2⟩ := h
   exact ⟨es, r, rfl, h1.monoC f, Els.monoC f h2⟩
theorem OT.own_monoC {K0 K1 : Hp} (hk : K0.cle K1) : ∀ (o : OT) {cs : List Value} {x : o.tp.den} {h : Hp}, o.own K0 cs x h → o.own K1 cs x h
 | .dat t, cs, x, h, k => ⟨k.1.monoC hk, k.2⟩
 | .row e a, cs, x, h, ⟨v, vs, e1, k⟩ => ⟨v, vs, e1, star_mono (fun _ k => k) (fun h k => EEls.mono (fun es x h k => OT.own_monoC hk a k) k) k⟩
 | .box e a, cs, x, h, k => by
   unfold OT.own at k ⊢
   split at k
   · exact k
   · obtain ⟨b, vs, e1, k⟩ := k
     exact ⟨b, vs, e1, star_mono (fun _ k => k) (fun h k => OT.own_monoC hk a k) k⟩
 | .obj n u, cs, x, h, k => by unfold OT.own at k ⊢; exact k
 | .chn a, cs, x, h, k => by
   unfold OT.own at k ⊢
   split at k
   · exact k
   · obtain ⟨r, b, s, c, e1, e2, e3, k⟩ := k
     exact ⟨r, b, s, c, e1, e2, e3, star_mono (fun _ k => k) (fun h k => EEls.mono (fun es x h k => OT.own_monoC hk a k) k) k⟩
 | .one a, cs, x, h, k => OT.own_monoC hk a (x := x) k
 | .cons a r, cs, x, h, ⟨c1, c2, e1, e2, k⟩ => ⟨c1, c2, e1, e2, star_mono (fun _ k => OT.own_monoC hk a k) (fun _ k => OT.own_monoC hk r k) k⟩
class BldA where
 t : TypeId
 bat : Nat → List UInt8 → Atom
 fresh : ∀ {E : En} {K : Hp} {L : List Atom} {w : World} {b : Nat}, Sep E K (Cl b t [.pointer none, .slice none 0 0] :: L) w → Sep E K (bat b [] :: L) w
 /-- What is known of the globals. -/
 gk : Hp → Prop
 gkm : ∀ {K K' : Hp}, K.cle K' → gk K → gk K'
inductive M where
 | val (v : Value)
 | cells (vs : List Value)
 | cont (t : Tp) (l : List t.den) (cs : List Value)
 | hp (K : Hp)
 | hol (K : Hp) (es : List Value)
 | loop (l : Nat) (r : Loop)
mutual
def SV.rel (m : List M) (K : Hp) : SV → Value → Prop
 | .any, _ => True
 | .raw v, u => u = v
 | .int k n, u => u = .int k n
 | .bool b, u => u = .bool b
 | .str s, u => u = .string ⟨s.toArray⟩
 | .nilp, u => u = .pointer none
 | .nils, u => u = .slice none 0 0
 | .row t l n, u => Is K (.sl t) [u] l ∧ l.length = n
 | .pk t x, u => Is K (.ptr t) [u] x
 | .kat t x o, u => ∃ b o0, u = .pointer (some ⟨b, o0 + o, none⟩) ∧ At K t b o0 x
 | .own i, u => m[i]? = some (.val u) ∧ u.oneCell' = true
 | .hat i o j off, u => ∃ g n cap, m[i]? = some (.val (.slice (some ⟨g, 0, none⟩) n cap)) ∧ 0 ≤ j ∧ j.toNat < n ∧ u = .pointer (some ⟨g, j.toNat * o.tp.size + off, none⟩)
 | .prt i z lo hi, u => ∃ ad n cap ad', m[i]? = some (.val (.slice ad n cap)) ∧ 0 ≤ lo ∧ lo ≤ hi ∧ hi.toNat ≤ n ∧ (∀ g, lo < hi → ad = some ⟨g, 0, none⟩ → ad' = some ⟨g, lo.toNat * z, none⟩) ∧ u = .slice ad' (hi.toNat - lo.toNat) (cap - lo.toNat)
 | .ptr i o, u => ∃ b, m[i]? = some (.val (.pointer (some ⟨b, 0, none⟩))) ∧ u = .pointer (some ⟨b, o, none⟩)
 | .rat i c t j x o, u => ∃ g n cap l cs, m[i]? = some (.val (.slice (some ⟨g, 0, none⟩) n cap)) ∧ m[c]? = some (.cont t l cs) ∧ getI l j = some x ∧ u = .pointer (some ⟨g, j.toNat * t.size + o, none⟩)
 | .fsl i k, u => ∃ b, m[i]? = some (.val (.pointer (some ⟨b, 0, none⟩))) ∧ u = .slice (some ⟨b, 0, none⟩) k k
 | .fsa i o k cap, u => ∃ b, m[i]? = some (.val (.pointer (some ⟨b, 0, none⟩))) ∧ u = .slice (some ⟨b, o, none⟩) k cap
 | .nlt t l neg, u => ∃ q : Bool, u = .bool (q ^^ neg) ∧ (q = true → l = [])
 | .agg vs, u => ∃ us : List Value, u = .agg us.toArray ∧ SV.relL m K vs us
 | .tup vs, u => ∃ us : List Value, u = .tuple us.toArray ∧ SV.relL m K vs us
 | .fn f cs, u => ∃ us : List Value, u = .func (.func f) #[] us.toArray ∧ SV.relL m K cs us
 | .is j v, u => m[j]? = some (.val u) ∧ SV.rel m K v u
 | .yld i n vs ps ao bo, u => ∃ l r ρ, u = .func (.yield l) #[] #[] ∧ m[i]? = some (.loop l r) ∧ r.tmps = frm n ρ ∧ r.params = ps ∧ r.assign = ao ∧ r.body = bo ∧ ∀ j, SV.rel m K (vs j) (ρ j)
 | .ifc t v, u => ∃ w, u = .iface t w ∧ SV.rel m K v w
def SV.relL (m : List M) (K : Hp) : List SV → List Value → Prop
 | [], us => us = []
 | v :: vs, us => ∃ u r, us = u :: r ∧ SV.rel m K v u ∧ SV.relL m K vs r
end
def OT.form : (o : OT) → Value → o.tp.den → Prop
 | .row e a, v, l => ∃ ad cap, v = .slice ad (List.length (α := a.tp.den) l) cap ∧ (∀ (h : List.length (α := a.tp.den) l ≠ 0), ∃ g, ad = some ⟨g, 0, none⟩)
 | .box e a, v, x => ((x : Option a.tp.den) = none ∧ v = .pointer none) ∨ ∃ y b, (x : Option a.tp.den) = some y ∧ v = .pointer (some ⟨b, 0, none⟩)
 | .obj n u, v, x => ((x : Option u.den) = none ∧ v = objNil n) ∨ ∃ y r, (x : Option u.den) = some y ∧ v = objVal n r
 | .chn a, v, x => ((x : Option (Int × List a.tp.den)) = none ∧ v = .chan none) ∨ ∃ y r, (x : Option (Int × List a.tp.den)) = some y ∧ v = .chan (some r)
 | _, _, _ => False
def KOk (K0 K : Hp) (o : OT) : Prop := K0.cle K ∨ o.flat = true
theorem KOk.monoC {K0 K K' : Hp} {o : OT} (h : KOk K0 K o) (hK : K.cle K') : KOk K0 K' o := h.imp (fun h => h.trans hK) id
theorem KOk.mono {K0 K K' : Hp} {o : OT} (h : KOk K0 K o) (hK : K.le K') : KOk K0 K' o := h.monoC hK.cle
theorem KOk.own {K0 K : Hp} {o : OT} (h : KOk K0 K o) {cs : List Value} {x : o.tp.den} {h0 : Hp} (k : o.own K0 cs x h0) : o.own K cs x h0 := h.elim (fun h => OT.own_monoC h o k) (fun h => OT.own_flat o h k)
theorem KOk.is {K0 K : Hp} {t : Tp} (h : KOk K0 K (.dat t)) {cs : List Value} {x : t.den} (k : Is K0 t cs x) : Is K t cs x := h.elim (fun h => k.monoC h) (fun h => Is.flat h k)
theorem KOk.els {K0 K : Hp} {t : Tp} (h : KOk K0 K (.dat t)) {cs : List Value} {xs : List t.den} (k : Els K0 t cs xs) : Els K t cs xs := h.elim (fun h => k.monoC h) (fun h => Els.flat h k)
theorem KOk.refl {K : Hp} {o : OT} : KOk K K o := .inl (Hp.cle_refl K)
theorem KOk.car {K0 K : Hp} {a b : OT} (h : KOk K0 K (.cons a b)) : KOk K0 K a ∧ KOk K0 K b := ⟨h.imp id (fun h => by simp only [OT.flat, Bool.and_eq_true] at h; exact h.1), h.imp id (fun h => by simp only [OT.flat, Bool.and_eq_true] at h; exact h.2)⟩
def HA.ok (m : List M) (K : Hp) : HA → Prop
 | .blk i c e cs => ∃ b vs, m[i]? = some (.val (.pointer (some ⟨b, 0, none⟩))) ∧ m[c]? = some (.cells vs) ∧ SV.relL m K cs vs
 | .row i c e t l n => ∃ ad cap cs, m[i]? = some (.val (.slice ad n cap)) ∧ m[c]? = some (.cont t l cs) ∧ Els K t cs l ∧ l.length = n ∧ n ≤ cap ∧ cap ≤ maxLen ∧ (l ≠ [] → ∃ g, ad = some ⟨g, 0, none⟩)
 | .bld i l => ∃ b, m[i]? = some (.val (.pointer (some ⟨b, 0, none⟩)))
 | .od i c o x => ∃ v K0, m[i]? = some (.val v) ∧ m[c]? = some (.hp K0) ∧ KOk K0 K o ∧ o.form v x
 | .hole i c e o l j cs => ∃ ad cap K0 es, m[i]? = some (.val (.slice ad l.length cap)) ∧ m[c]? = some (.hol K0 es) ∧ KOk K0 K o ∧ SV.relL m K cs es ∧ 0 ≤ j ∧ j.toNat < l.length ∧ es.length = o.tp.size ∧ ∃ g, ad = some ⟨g, 0, none⟩
 | .lp i s => ∃ l r, m[i]? = some (.loop l r)
def LpA (l : Nat) (r : Loop) : Atom := fun h => h = one l (.loop r)
def LSt.cr (s : LSt) (r : Loop) : Loop := match s with
 | .ready => { r with state := .ready, pending := none }
 | .ret => { r with state := .done, pending := some .ret }
 | .exit id => { r with state := .done, pending := some (.exit id) }
def HA.conc [BldA] (m : List M) : HA → Atom
 | .blk i c e cs => match m[i]?, m[c]? with
   | some (.val (.pointer (some ⟨b, _, _⟩))), some (.cells vs) => Cl b e vs
   | _, _ => emp
 | .row i c e t l n => match m[i]?, m[c]? with
   | some (.val v), some (.cont _ _ cs) => Rw e t.size v n cs
   | _, _ => emp
 | .bld i l => match m[i]? with
   | some (.val (.pointer (some ⟨b, _, _⟩))) => BldA.bat b l
   | _ => emp
 | .od i c o x => match m[i]?, m[c]? with
   | some (.val v), some (.hp K0) => o.own K0 [v] x
   | _, _ => emp
 | .hole i c e o l j cs => match m[i]?, m[c]? with
   | some (.val v), some (.hol K0 es) => HoleA K0 e o v l j.toNat es
   | _, _ => emp
 | .lp i s => match m[i]? with
   | some (.loop l r) => LpA l (s.cr r)
   | _ => emp
def resR (m : List M) (K : Hp) : List (Nat × SV) → Value → Prop
 | [], v => v = .tuple #[]
 | [(_, sv)], v => SV.rel m K sv v
 | _, _ => False
def slR (m : List M) (K : Hp) : List (Nat × SV) → List Value → Prop
 | [], us => us = []
 | p :: vs, us => ∃ u r, us = u :: r ∧ SV.rel m K p.2 u ∧ slR m K vs r
def outSh : (os : List Sh) → OutT os → Sh × List Dat
 | [], x => Empty.elim x
 | [a], x => (a, TL.list a.ts x)
 | a :: b :: r, .inl x => (a, TL.list a.ts x)
 | a :: b :: r, .inr x => outSh (b :: r) x
def SpecOk [BldA] (P : Program) (s : Spec) : Prop := ∀ (x : TL s.inn.ts) (r : OutT s.outs), s.fn x = some r →
 ∀ vs u, s.inn.un (TL.list _ x) 0 = some (vs, u) → ∀ (m : List M) (K : Hp) (args : List Value), BldA.gk K → m.length = u.nx → (∀ a ∈ u.H, HA.ok m K a) → slR m K vs args →
   Tr P s.f args.toArray K (u.H.map (HA.conc m)) (fun v K' L' => ∃ vs' u' m', (outSh s.outs r).1.un (outSh s.outs r).2 u.nx = some (vs', u') ∧ m <+: m' ∧ m'.length = u'.nx ∧
     (∀ a ∈ u'.H, HA.ok m' K' a) ∧ resR m' K' vs' v ∧ L' = u'.H.map (HA.conc m'))
structure OkSpec [BldA] (P : Program) where
 s : Spec
 ok : SpecOk P s
 ent : Enters P s.f
section
section
variable {P : Program} {E : En} {n : Nat} {ρ : Sl0} {K : Hp} {L : List Atom} {d : Nat} {t : TypeId} {pos : String} {af : Array Edge} {g : Option (Nat × Bool)} {x y c : Operand} {u v : Value}
theorem zeroCells_list {z : Value} {m : Nat} {cs : List Value} (hz : z.cells.toList = cs) (hp : 0 < cs.length) : (Builtin.zeroCells z.cells m).toList.length = m * cs.length := by
 rw [Array.length_toList, size_zeroCells]; rw [← hz, Array.length_toList]
theorem zeroCells_one {z : Value} (h1 : ∀ u ∈ z.cells.toList, u.oneCell' = true) (m : Nat) (hp : 0 < z.cells.size) : ∀ u ∈ (Builtin.zeroCells z.cells m).toList, u.oneCell' = true := by
 intro u hu
 simp only [Builtin.zeroCells, Array.toList_map, List.mem_map] at hu
 obtain ⟨i, _, rfl⟩ := hu
 apply h1
 have : i % z.cells.size < z.cells.size := Nat.mod_lt _ hp
 rw [getElem!_pos z.cells _ this]
 exact Array.getElem_mem_toList _
theorem run_append_room_zeros (w : World) (s tn ty e : TypeId) (i : TypeInfo) (z : Value) (kq kn : IntKind) (ht : P.underlying s = some (.slice e)) (htn : P.underlying tn = some (.int kn)) (hi : P.info? e = some i) (hz : i.zero = some z) (hsz : z.cells.size = i.size)
   (gb sLen sCap : Nat) (cur : Array Value) (hg : w.heap[gb]? = some (.cells cur e (0, 0))) (k : Nat) (hs : 0 < i.size) (h1 : ∀ u ∈ z.cells.toList, u.oneCell' = true) (h63 : k ≤ 9223372036854775807) (h48 : k * i.bytes ≤ 281474976710656)
   (hroom : sLen + k ≤ sCap) (h0 : 0 < k) (hfit : (sLen + k) * i.size ≤ cur.size) :
   (Builtin.append_ #[s, tn] ty #[.slice (some ⟨gb, 0, none⟩) sLen sCap, .int kq k]).run P w =
     .ok (.slice (some ⟨gb, 0, none⟩) (sLen + k) sCap) (w.setRow gb (cur.toList.take (sLen * i.size) ++ (Builtin.zeroCells z.cells k).toList ++ cur.toList.drop (sLen * i.size + k * i.size)).toArray) := by
 have hw : IntKind.i64.wrap (k : Int) = k := by rw [IntKind.wrap_i64]; omega
 have h48i : ¬ (281474976710656 < (k : Int) * (i.bytes : Int)) := by rw [← Int.natCast_mul]; omega
 have hneg : ¬ ((k : Int) < 0) := by omega
 have hzl : (Builtin.zeroCells z.cells k).toList.length = k * i.size := by rw [Array.length_toList, size_zeroCells, hsz]
 have hst := run_storeCells_at P gb (sLen * i.size) e (Builtin.zeroCells z.cells k).toList 0 cur w hg (by rw [hzl, Nat.add_zero, ← Nat.add_mul]; exact hfit) (zeroCells_one h1 k (by rw [hsz]; exact hs))
 simp only [Nat.add_zero, hzl] at hst
 have hns : ¬ (k * i.size = 0) := Nat.mul_ne_zero (by omega) (by omega)
 simp [Builtin.append_, run_underlying ht, run_underlying htn, sizeOf, typeInfo, zeroValue, hi, hz, asInt, asIntOf, hw, hneg, h48i, hroom, hns, Addr.add_lit, hst]
theorem run_append_zero_zeros (w : World) (s tn ty e : TypeId) (i : TypeInfo) (kq kn : IntKind) (ht : P.underlying s = some (.slice e)) (htn : P.underlying tn = some (.int kn)) (hi : P.info? e = some i)
   (b : Option Addr) (sLen sCap : Nat) (hroom : sLen ≤ sCap) : (Builtin.append_ #[s, tn] ty #[.slice b sLen sCap, .int kq 0]).run P w = .ok (.slice b sLen sCap) w := by
 have hw : IntKind.i64.wrap 0 = 0 := rfl
 cases b <;> simp [Builtin.append_, run_underlying ht, run_underlying htn, sizeOf, typeInfo, hi, asInt, asIntOf, hw, hroom, storeCells]
theorem zc_rep {z : Value} {m : Nat} : ∀ j u, (Builtin.zeroCells z.cells m).toList[j]? = some u → z.cells.toList[j % z.cells.size]? = some u ∧ j < m * z.cells.size := by
 intro j u h
 simp only [Builtin.zeroCells, Array.toList_map, List.getElem?_map, Array.toList_range] at h
 rcases Nat.lt_or_ge j (m * z.cells.size) with hj | hj
 · rw [List.getElem?_range hj] at h
   simp only [Option.map_some, Option.some.injEq] at h
   have hp : 0 < z.cells.size := by rcases Nat.eq_zero_or_pos z.cells.size with e | e; · rw [e] at hj; simp at hj
                                    · exact e
   have hl : j % z.cells.size < z.cells.size := Nat.mod_lt _ hp
   rw [getElem!_pos z.cells _ hl] at h
   refine ⟨?_, hj⟩
   rw [Array.getElem?_toList, Array.getElem?_eq_getElem hl, h]
 · rw [List.getElem?_eq_none (by simpa using hj)] at h; cases h
theorem run_appZ {w : World} {s e ti ty : TypeId} {kn kq : IntKind} {z : Value} {sz bt m : Nat} {v : Value} {N : Nat} {cs : List Value} (hs : P.underlying s = some (.slice e)) (hti : P.underlying ti = some (.int kn)) (hi : Inf P e z sz bt) (hzs : z.cells.size = sz) (hpos : 0 < sz) (hbt : bt ≤ 100000)
   (h1 : ∀ u ∈ z.cells.toList, u.oneCell' = true) (ho : w.ownsRow 0 e sz v N cs) (hlen : N + m ≤ 1073741824) :
   ∃ v' w', (Builtin.append_ #[s, ti] ty #[v, .int kq m]).run P w = .ok v' w' ∧ w'.ownsRow 0 e sz v' (N + m) (cs ++ (Builtin.zeroCells z.cells m).toList) ∧ w.grownBy w' v.ownBlock ∧ (v'.ownBlock = v.ownBlock ∨ v'.ownBlock = some w.heap.size) := by
 obtain ⟨i, i1, i2, i3, i4⟩ := hi.open
 have hb : (N + m) * bt ≤ 1073741824 * 100000 := Nat.mul_le_mul hlen hbt
 have hmb : m * bt ≤ (N + m) * bt := Nat.mul_le_mul_right _ (by omega)
 have hxl : cs.length = N * sz := ho.1
 have hzl : (Builtin.zeroCells z.cells m).toList.length = m * sz := by rw [Array.length_toList, size_zeroCells, hzs]
 have hll : (cs ++ (Builtin.zeroCells z.cells m).toList).length = (N + m) * sz := by rw [List.length_append, hxl, hzl, Nat.add_mul]
 have hml : N + m ≤ maxLen := by unfold maxLen; omega
 have grown : ∀ (old : Nat), old < N + m → ∀ (row : Option Nat),
     (w.drew.alloc (.cells (cs.toArray ++ Builtin.zeroCells z.cells m ++ Builtin.zeroCells z.cells (grownCap w (N + m) old e - (N + m))) e)).ownsRow 0 e sz
       (.slice (some ⟨w.heap.size, 0, none⟩) (N + m) (grownCap w (N + m) old e)) (N + m) (cs ++ (Builtin.zeroCells z.cells m).toList) ∧
     w.grownBy (w.drew.alloc (.cells (cs.toArray ++ Builtin.zeroCells z.cells m ++ Builtin.zeroCells z.cells (grownCap w (N + m) old e - (N + m))) e)) row := by
   intro old ho' row
   have hge := grownCap_ge w (N + m) old e
   have hcm : grownCap w (N + m) old e ≤ maxLen := grownCap_le_maxLen w (N + m) old e hml
   refine ⟨⟨hll, .inr ⟨w.heap.size, _, _, rfl, Nat.zero_le _, heap_alloc_new w.drew _, hge, hcm, ?_, ?_⟩⟩, ⟨rfl, rfl, rfl, by simp, fun k hk _ => heap_alloc_old w.drew _ (by simpa using hk)⟩⟩
   · simp only [Array.size_append, List.size_toArray, size_zeroCells, hxl, hzs]
     rw [← Nat.add_mul, ← Nat.add_mul]; congr 1; omega
   · simp only [Array.toList_append, List.append_assoc]
     rw [← List.append_assoc, ← hll]
     exact List.take_left
 rcases ho.2 with ⟨rfl, rfl⟩ | ⟨gb, cap, cur, rfl, hbg, hg, hnc, hcm, hcs, htake⟩
 · obtain rfl : cs = [] := List.eq_nil_of_length_eq_zero (by simpa using hxl)
   by_cases hm : m = 0
   · subst hm
     refine ⟨.slice none 0 0, w, run_append_zero_zeros w s ti ty e i kq kn hs hti i1 none 0 0 (Nat.le_refl _), ?_, ⟨rfl, rfl, rfl, Nat.le_refl _, fun _ _ _ => rfl⟩, .inl rfl⟩
     have : Builtin.zeroCells z.cells 0 = #[] := by simp [Builtin.zeroCells]
     rw [this]; exact World.ownsRow_nil w 0 e sz
   · have hr := Lib.run_append_nil_zeros (P := P) w s ti ty e i z kq kn hs hti i1 i2 m (by omega) (by omega) (by omega) (by rw [i4]; omega)
     have hgr := grown 0 (by omega) (Value.ownBlock (.slice none 0 0))
     simp only [Nat.zero_add, List.nil_append, Array.empty_append] at hgr ⊢
     exact ⟨_, _, hr, hgr.1, hgr.2, .inr rfl⟩
 · by_cases hm : m = 0
   · subst hm
     refine ⟨_, w, run_append_zero_zeros w s ti ty e i kq kn hs hti i1 _ N cap hnc, ?_, ⟨rfl, rfl, rfl, Nat.le_refl _, fun _ _ _ => rfl⟩, .inl rfl⟩
     have : Builtin.zeroCells z.cells 0 = #[] := by simp [Builtin.zeroCells]
     rw [this]; simpa using ho
   · by_cases hroom : N + m ≤ cap
     · have hr := run_append_room_zeros (P := P) w s ti ty e i z kq kn hs hti i1 i2 (by rw [hzs, i3]) gb N cap cur hg m (by omega) h1 (by omega) (by rw [i4]; omega) hroom (by omega) (by rw [i3, hcs]; exact Nat.mul_le_mul_right _ hroom)
       refine ⟨_, _, hr, ⟨hll, .inr ⟨gb, cap, _, rfl, hbg, setRow_heap w gb cur _ e _ hg, hroom, hcm, ?_, ?_⟩⟩, ⟨rfl, rfl, rfl, by simp, fun k _ hk => setRow_other w gb k _ (fun e => hk (by simp [Value.ownBlock, e]))⟩, .inl rfl⟩
       · have hle : (N + m) * sz ≤ cap * sz := Nat.mul_le_mul_right _ hroom
         rw [Nat.add_mul] at hle
         simp only [List.size_toArray, List.length_append, List.length_take, List.length_drop, hzl, i3]
         rw [Array.length_toList]
         omega
       · rw [i3, htake, ← hll]
         exact List.take_left
     · have holds : ∀ j u, cs[j]? = some u → w.cell? ((⟨gb, 0, none⟩ : Addr).add j) = some u := ho.cells (g := gb) rfl
       have hfo := run_firstCells_some (P := P) w.drew i.size N ⟨gb, 0, none⟩ N cap cs (by rw [i3]; exact hxl) (by simpa using holds)
       have hr := Lib.run_append_grow_zeros (P := P) w s ti ty e i z kq kn hs hti i1 i2 (some ⟨gb, 0, none⟩) N cap cs hfo m (by omega) (by omega) (by omega) (by omega) (by rw [i4]; omega) (by rw [i4]; exact growslice_fits (by omega) (by omega))
       have hgr := grown cap (by omega) (Value.ownBlock (.slice (some ⟨gb, 0, none⟩) N cap))
       exact ⟨_, _, hr, hgr.1, hgr.2, .inr rfl⟩
theorem zeroCells_zrow {z : Value} (hp : 0 < z.cells.size) (m : Nat) : (Builtin.zeroCells z.cells m).toList = zrow m z.cells.toList := by
 have e := zrow_eq z.cells hp m
 unfold madeCells at e
 have h2 : (zrow m z.cells.toList).toArray.toList = zrow m z.cells.toList := rfl
 rw [← h2, ← e]
 unfold Builtin.zeroCells
 rfl
theorem A.appZ {s e ti : TypeId} {kn kq : IntKind} {z : Value} {sz bt : Nat} {len : Int} {K0 : Hp} {ty : Tp} {x0 : ty.den} {xs ys : List ty.den} (hs : P.underlying s = some (.slice e)) (hti : P.underlying ti = some (.int kn)) (hi : Inf P e z sz bt) (hty : ty.size = sz) (hz0 : Is K0 ty z.cells.toList x0) (hzs : z.cells.size = sz) (hpos : 0 < sz) (hbt : bt ≤ 100000)
   (hx : ev n ρ x = v) (hy : ev n ρ y = .int kq len) (hm : mk len len x0 = some ys) {zs : List ty.den} (hz : Go.Proofs.YtmlbbjkojaljnaaDoor.app xs ys = some zs) :
   Ao P E n ⟨some d, .call ⟨.builtin .append, #[x, y], #[s, ti]⟩, t, pos, af, g⟩ ρ K (Row K0 e ty v xs :: L) (fun ρ' K' L' => ∃ v', ρ' = upd ρ d v' ∧ K = K' ∧ L' = Row K0 e ty v' zs :: L) :=
 Ao.of rfl (fun w hsep => by
   obtain ⟨hlen, rfl⟩ := app_some hz
   obtain ⟨m0, _, _, rfl⟩ := mk_some hm
   obtain ⟨m, rfl⟩ := Int.eq_ofNat_of_zero_le m0
   have hsep' := hsep
   obtain ⟨h, ⟨cs, h1, h2⟩, h3, h4⟩ := hsep
   have hown := h2.owns (w := w) (fun n o e => h4.sub n o (Hp.join_right e (h3 n o e)))
   rw [hty] at hown
   rw [List.length_replicate] at hlen
   obtain ⟨v', w', r1, r2, r3, r5⟩ := run_appZ (P := P) (w := w) (ty := t) (kq := kq) (m := m) hs hti hi hzs hpos hbt hz0.one' hown (by simpa using hlen)
   rw [zeroCells_zrow (by omega)] at r2
   refine ⟨v', w', K, _, ?_, hsep'.grown (K1 := K0) (by rw [List.length_append, List.length_replicate]) (by rw [hty]; exact r2) (h1.app (Els.zrow hz0 m)) r3 r5, v', rfl, rfl, rfl⟩
   simp [execOp, resolve, invoke, builtin, hx, hy, r1])
end
end
section
mutual
def SV.ren (φ : Nat → Nat) : SV → SV
 | .own i => .own (φ i)
 | .ptr i o => .ptr (φ i) o
 | .rat i c t j x o => .rat (φ i) (φ c) t j x o
 | .fsl i m => .fsl (φ i) m
 | .fsa i o m cap => .fsa (φ i) o m cap
 | .agg vs => .agg (SV.renL φ vs)
 | .tup vs => .tup (SV.renL φ vs)
 | .fn f cs => .fn f (SV.renL φ cs)
 | .is j v => .is (φ j) (v.ren φ)
 | .hat i o j off => .hat (φ i) o j off
 | .prt i z lo hi => .prt (φ i) z lo hi
 | .yld _ _ _ _ _ _ => .any
 | .ifc t v => .ifc t (v.ren φ)
 | v => v
def SV.renL (φ : Nat → Nat) : List SV → List SV
 | [] => []
 | v :: vs => v.ren φ :: SV.renL φ vs
end
def HA.ren (φ : Nat → Nat) : HA → HA
 | .blk i c e cs => .blk (φ i) (φ c) e (SV.renL φ cs)
 | .row i c e t l n => .row (φ i) (φ c) e t l n
 | .bld i l => .bld (φ i) l
 | .od i c o x => .od (φ i) (φ c) o x
 | .hole i c e o l j cs => .hole (φ i) (φ c) e o l j (SV.renL φ cs)
 | .lp i s => .lp (φ i) s
def rowF (i : Nat) (t : Tp) (l : List t.den) (n : Nat) : SV → Option SV
 | .own j => bif Nat.beq j i then some (.row t l n) else none
 | _ => none
def blkF (i : Nat) (t : Tp) (x : t.den) : SV → Option SV
 | .ptr j o => bif Nat.beq j i then some (.kat t x o) else none
 | _ => none
def svF (i : Nat) (w : SV) : SV → Option SV
 | .own j => bif Nat.beq j i then some w else none
 | _ => none
def OT.kn : (o : OT) → o.tp.den → Option SV
 | .row e (.one (.dat t)), l => some (.row t l (List.length (α := t.den) l))
 | .row e a, l => some (.row a.tp l (List.length (α := a.tp.den) l))
 | .box e a, x => some (.pk a.tp x)
 | _, _ => none
structure OdR where
 c : Nat
 o : OT
 x : o.tp.den
def HA.odR (i : Nat) : HA → Option OdR
 | .od j c o x => bif Nat.beq j i then some ⟨c, o, x⟩ else none
 | _ => none
def Zt.per (σ : Zt) (i : Nat) : Option Zt := match pick (HA.rowR i) σ.H with
 | some (q, H) => bif Nat.blt 0 q.t.size then some ⟨σ.base, subT (rowF i q.t q.l q.n) σ.top, H.map (HA.sub (rowF i q.t q.l q.n)), σ.Hf, σ.nx, false⟩ else none
 | none => match pick (HA.odR i) σ.H with
   | some (q, H) => bif q.o.pos then (match OT.kn q.o q.x with
     | some w => some ⟨σ.base, subT (svF i w) σ.top, H.map (HA.sub (svF i w)), σ.Hf, σ.nx, false⟩
     | none => none) else none
   | none => none
def Zt.opn {R : Type} (σ : Zt) (i : Nat) (j : Int) (k : Zt → Option R) : Option R := match pick (HA.rowsR i) σ.H with
 | some (q, H) => (getI q.l j).bind fun x => (match OT.ex q.c q.o x (σ.nx + 1) with
   | (vs, Hn, nx) => k ⟨σ.base, σ.top, .hole i σ.nx q.e q.o q.l j vs :: (Hn ++ H), σ.Hf, nx, σ.kq⟩)
 | none => none
def Zt.opb {R : Type} (σ : Zt) (i : Nat) (k : Zt → Option R) : Option R := match pick (HA.boxR i) σ.H with
 | some (q, H) => q.x.bind fun y => (match OT.ex q.c q.o y (σ.nx + 1) with
   | (vs, Hn, nx) => k ⟨σ.base, subT (svF i (.ptr i 0)) σ.top, .blk i σ.nx q.e vs :: (Hn ++ H.map (HA.sub (svF i (.ptr i 0)))), σ.Hf, nx, σ.kq⟩)
 | none => none
def Zt.cls (σ : Zt) (i : Nat) : Option Zt := match pick (HA.holR i) σ.H with
 | some (q, H) => (match OT.col q.o (SV.stL q.cs) H with
   | some (y, [], H) => some ⟨σ.base, σ.top, .od i σ.nx (.row q.e q.o) (q.l.set q.j.toNat y) :: H, σ.Hf, σ.nx + 1, σ.kq⟩
   | _ => none)
 | none => match pick (HA.rowR i) σ.H with
   | some (q, H) => some ⟨σ.base, σ.top, .od i σ.nx (.row q.e (.one (.dat q.t))) q.l :: H, σ.Hf, σ.nx + 1, σ.kq⟩
   | none => none
def Zt.intAt (σ : Zt) (d : Nat) : Option Int := match (σ.get d).st with | .int _ j => some j | _ => none
def Zt.perb (σ : Zt) (i : Nat) (t : Tp) : Option Zt := match pick (HA.blkR i) σ.H with
 | some (q, H) => (match dt t q.cs with | some (x, []) => some ⟨σ.base, subT (blkF i t x) σ.top, H.map (HA.sub (blkF i t x)), σ.Hf, σ.nx, false⟩ | _ => none)
 | none => none
def Zt.mc (σ : Zt) (i q : Nat) : Option Zt := match pick (HA.blkR i) σ.H with
 | some (b, H) => (match b.cs[q]? with | some v => some ⟨σ.base, σ.top, .blk i b.c b.e (b.cs.set q (.is σ.nx v)) :: H, σ.Hf, σ.nx + 1, σ.kq⟩ | none => none)
 | none => none
def Zt.mcs : List (Nat × Nat) → Zt → Option Zt
 | [], σ => some σ
 | p :: r, σ => match σ.mc p.1 p.2 with | some σ => Zt.mcs r σ | none => none
def Zt.ms (σ : Zt) (d : Nat) : Zt := ⟨σ.base, (d, .is σ.nx (σ.get d)) :: σ.top, σ.H, σ.Hf, σ.nx + 1, σ.kq⟩
def SV.mkOf (i : Nat) : SV → Option SV
 | .is j v => bif Nat.beq j i then (match v with | .any => none | v => some v) else none
 | _ => none
def HA.mkOf (i : Nat) : HA → Option SV
 | .blk _ _ _ cs => findR (SV.mkOf i) cs
 | .hole _ _ _ _ _ _ cs => findR (SV.mkOf i) cs
 | _ => none
def Zt.mark (σ : Zt) (i : Nat) : Option SV := match findR (fun p => SV.mkOf i (σ.get p.1)) σ.top with
 | some v => some v
 | none => findR (HA.mkOf i) (σ.H ++ σ.Hf)
def fillF (σ : Zt) : SV → Option SV
 | .is i v => (match v with | .any => (match σ.mark i with | some w => some (.is i w) | none => none) | _ => none)
 | _ => none
variable [BldA]
structure ItFn (P : Program) where
 f : Nat
 fn : Func
 at_ : P.funcs[f]? = some fn
 ent : Enters P f
inductive Hn (P : Program) where
 | nil
 | two (d : Nat) (a b : Hn P)
 | tw (d : Nat) (a b : Hn P)
 | sq (mk : List (Nat × Nat)) (s : Sh) (act : List Nat) (a b : Hn P)
 | sx (mk : List (Nat × Nat)) (s : Sh) (act : List Nat) (a b : Hn P)
 | pl (r : Hn P)
 | jn (mk : List (Nat × Nat)) (s : Sh) (act : List Nat) (a b : Hn P)
 | jx (mk : List (Nat × Nat)) (s : Sh) (act : List Nat) (a b : Hn P)
 | lp (s : Sh) (a : Hn P)
 | un (m : Nat) (r : Hn P)
 | per (i c : Nat) (r : Hn P)
 | perb (i c : Nat) (t : Tp) (r : Hn P)
 | mc (i q c : Nat) (r : Hn P)
 | ms (d : Nat) (r : Hn P)
 | wt (d : Nat) (r : Hn P)
 | cl (q : OkSpec P) (lend : List Nat) (r : Hn P)
 | c2 (q : OkSpec P) (lend : List Nat) (a b : Hn P)
 | gp (m : Nat) (r : Hn P)
 | gj (m : Nat) (s : Sh) (act : List Nat) (a b : Hn P)
 | mix (plan : List (List Nat × Nat)) (fin tail : List Nat) (act : List Nat) (r : Hn P)
 | opn (i d : Nat) (r : Hn P)
 | opb (i c : Nat) (r : Hn P)
 | cls (i c : Nat) (r : Hn P)
 | opp (s : List Nat) (i d : Nat) (r : Hn P)
 | ot (o : OT) (r : Hn P)
 | cm (q : OkSpec P) (lend act : List Nat) (r : Hn P)
 | cm2 (q : OkSpec P) (lend act : List Nat) (a b : Hn P)
 | tr (t : MT) (s : Sh) (act : List Nat) (a b : Hn P)
 | tru (r : Hn P)
 | yl (q : Nat) (r : Hn P)
 | rg (q : ItFn P) (r : Hn P)
 | il (q : ItFn P) (r : Hn P)
variable {P : Program} {R : Type}
def HA.hasC (i c : Nat) : HA → Bool
 | .blk j c' _ _ => Nat.beq j i && Nat.beq c' c
 | .row j c' _ _ _ _ => Nat.beq j i && Nat.beq c' c
 | .bld _ _ => false
 | .od j c' _ _ => Nat.beq j i && Nat.beq c' c
 | .hole j c' _ _ _ _ _ => Nat.beq j i && Nat.beq c' c
 | .lp _ _ => false
def Zt.hasC (σ : Zt) (i c : Nat) : Bool := σ.H.any (HA.hasC i c)
def Zt.hasS (σ : Zt) (d : Nat) : Bool := match look σ.top d with | some v => (match v with | .any => false | _ => true) | none => false
def Zt.hasW (σ : Zt) (d : Nat) : Bool := σ.hasS d || (Nat.ble 1000000 d && Nat.ble d (1000000 + σ.nx))
def noO (d : Nat) : Nat := bif Nat.ble 1000000 d then d - 1000000 else d
def Zt.hasO (σ : Zt) (d : Nat) : Bool := Nat.ble 1000000 d || σ.hasS d
def prep : Hn P → Zt → (Hn P → Zt → Option R) → Option R
 | .per i c r, σ, k => bif σ.hasC i c then (match σ.per i with | some σ => prep r σ k | none => none) else k (.per i c r) σ
 | .perb i c t r, σ, k => bif σ.hasC i c then (match σ.perb i t with | some σ => prep r σ k | none => none) else k (.perb i c t r) σ
 | .mc i q c r, σ, k => bif σ.hasC i c then (match σ.mc i q with | some σ => prep r σ k | none => none) else k (.mc i q c r) σ
 | .ms d r, σ, k => bif σ.hasS d then prep r (σ.ms d) k else k (.ms d r) σ
 | .wt d r, σ, k => bif σ.hasW d then prep r σ k else k (.wt d r) σ
 | .opn i d r, σ, k => (match pick (HA.rowsR i) σ.H, σ.hasO d, σ.intAt (noO d) with
   | some _, true, some j => σ.opn i j fun σ => prep r σ k
   | _, _, _ => k (.opn i d r) σ)
 | .opb i c r, σ, k => bif σ.hasC i c then σ.opb i fun σ => prep r σ k else k (.opb i c r) σ
 | .cls i c r, σ, k => bif σ.hasC i c then (match σ.cls i with | some σ => prep r σ k | none => none) else k (.cls i c r) σ
 | h, σ, k => k h σ
def splice (cs : List SV) (o : Nat) (vs : List SV) : List SV := cs.take o ++ vs ++ cs.drop (o + vs.length)
def isBld (P : Program) (e : TypeId) : Bool := match P.info? e with | some i => (match i.zero with | some (.agg cs) => (match cs.toList with | [.pointer none, .slice none 0 0] => true | _ => false) | _ => false) | none => false
def newB (σ : Zt) (d : Option Nat) (e : TypeId) (cs : List SV) (k : Zt → Option R) : Option R := match d with
 | some d => k ⟨σ.base, (d, .ptr σ.nx 0) :: σ.top, .blk σ.nx (σ.nx + 1) e cs :: σ.H, σ.Hf, σ.nx + 2, σ.kq⟩
 | none => none
def newR (σ : Zt) (d : Option Nat) (H : List HA) (e : TypeId) (t : Tp) (l : List t.den) (k : Zt → Option R) : Option R := match d with
 | some d => k ⟨σ.base, (d, .own σ.nx) :: σ.top, .row σ.nx (σ.nx + 1) e t l l.length :: H, σ.Hf, σ.nx + 2, σ.kq⟩
 | none => none
def infOk (P : Program) (e : TypeId) (sz : Nat) : Bool := match P.info? e with | some i => Nat.beq i.size sz && Nat.ble i.bytes 100000 && Nat.blt 0 sz && (match i.zero with | some z => Nat.beq z.cells.size sz | none => false) | none => false
def litF (sz : Nat) : List (List SV) → List (Nat × SV) → Option (List (List SV))
 | rs, [] => some rs
 | rs, p :: r => match p.2.cells with
   | some cs => bif Nat.blt p.1 rs.length && Nat.beq cs.length sz then litF sz (rs.set p.1 cs) r else none
   | none => none
def dtAll (t : Tp) : List (List SV) → Option (List t.den)
 | [] => some []
 | cs :: r => match dt t cs, dtAll t r with
   | some (x, []), some xs => some (x :: xs)
   | _, _ => none
def allFn : List (List SV) → Option (List SV)
 | [] => some []
 | [.fn f cs] :: r => (match allFn r with | some l => some (.fn f cs :: l) | none => none)
 | _ => none
def isU8 (P : Program) (e : TypeId) : Bool := match P.info? e with | some i => Nat.beq i.size 1 && Nat.beq i.bytes 1 && (match i.zero with | some (.int .u8 0) => true | _ => false) | none => false
def appT (P : Program) (σ : Zt) (H : List HA) (d : Option Nat) (e u : TypeId) (l : List Int) (s : List UInt8) (k : Zt → Option R) : Option R := match P.underlying u with
 | some .string => bif isU8 P e then (app l (ofU8 s)).bind fun z => newR σ d H e (.int .u8) z k else none
 | _ => none
def appS (P : Program) (σ : Zt) (H : List HA) (d : Option Nat) (e s u : TypeId) (t : Tp) (l : List t.den) (y : SV) (k : Zt → Option R) : Option R := match y with
 | .str z => (match t, l with | .int .u8, l => appT P σ H d e u l z k | _, _ => none)
 | .nils => bif infOk P e t.size && Nat.beq s u then (app l []).bind fun z => newR σ d H e t z k else none
 | .row t' l' _ => bif infOk P e t.size && Nat.beq s u then (match Tp.same t' t with | some h => (app l (cstL h l')).bind fun z => newR σ d H e t z k | none => none) else none
 | .own j => bif infOk P e t.size && Nat.beq s u then (match pick (HA.rowR j) H with
   | some (q, H) => bif Nat.beq q.e e then (match Tp.same q.t t with | some h => (app l (cstL h q.l)).bind fun z => newR σ d H e t z k | none => none) else none
   | none => none) else none
 | .int _ c => bif infOk P e t.size then (match P.underlying u, zeroS P e with
   | some (.int _), some z => (match dt t z with | some (x0, []) => (mk c c x0).bind fun l' => (app l l').bind fun z => newR σ d H e t z k | _ => none)
   | _, _ => none) else none
 | _ => none
def sto (P : Program) (σ : Zt) (s : TypeId) (p : SV) (v : SV) (k : Zt → Option R) : Option R := match v.cells, szOf P s with
 | some vs, some z => bif Nat.beq vs.length z && vs.all SV.leaf then (match p with
   | .ptr i o => (match pick (HA.blkR i) σ.H with
     | some (q, H) => bif Nat.ble (o + z) q.cs.length then k ⟨σ.base, σ.top, .blk i σ.nx q.e (splice q.cs o vs) :: H, σ.Hf, σ.nx + 1, σ.kq⟩ else none
     | none => none)
   | .rat i c t j x o => (match pick (HA.rowR i) σ.H with
     | some (q, H) => bif Nat.beq q.c c && Nat.ble (o + z) t.size then (match Tp.same q.t t, dt t (splice (SV.lv t x) o (SV.stL vs)) with
       | some h, some (y, []) => (some ((cstL h q.l).set j.toNat y)).bind fun zs => k ⟨σ.base, σ.top, .row i σ.nx q.e t zs q.n :: H, σ.Hf, σ.nx + 1, σ.kq⟩
       | _, _ => none) else none
     | none => none)
   | .hat i o j off => (match pick (HA.holR i) σ.H with
     | some (q, H) => (chkI j q.j).bind fun _ => bif Nat.ble (off + z) q.cs.length && Nat.beq o.tp.size q.o.tp.size then k ⟨σ.base, σ.top, .hole i σ.nx q.e q.o q.l q.j (splice q.cs off vs) :: H, σ.Hf, σ.nx + 1, σ.kq⟩ else none
     | none => none)
   | _ => none) else none
 | _, _ => none
def argf (vs : List SV) (i : Nat) : SV := match vs[i]? with | some v => v | none => .any
def renN (bm : List (Nat × Nat)) (nb nx j : Nat) : Nat := bif Nat.blt j nb then (match lookN bm j with | some i => i | none => 0) else nx + (j - nb)
mutual
def SV.kf : SV → Bool
 | .row _ _ _ | .pk _ _ | .kat _ _ _ | .yld _ _ _ _ _ _ => false
 | .agg vs => SV.kfL vs
 | .tup vs => SV.kfL vs
 | .fn _ vs => SV.kfL vs
 | .is _ v => v.kf
 | .ifc _ v => v.kf
 | _ => true
def SV.kfL : List SV → Bool
 | [] => true
 | v :: vs => v.kf && SV.kfL vs
end
def HA.kf : HA → Bool
 | .blk _ _ _ cs => SV.kfL cs
 | .row _ _ _ t _ _ => t.flat
 | .bld _ _ => true
 | .od _ _ o _ => o.flat
 | .hole _ _ _ o _ _ cs => o.flat && SV.kfL cs
 | .lp _ _ => true
def allKf (vs : List (Nat × SV)) (H : List HA) : Bool := vs.all (fun p => p.2.kf) && H.all HA.kf
def after (nin : Nat) (σ : Zt) (H : List HA) (bm : List (Nat × Nat)) (nb : Nat) (d : Option Nat) (ln : Bool) (o : Sh) (ds : List Dat) (k : Zt → Option R) : Option R := match o.un ds nin with
 | some (vs, u) => bif ln && !allKf vs u.H then none else (match d, vs with
   | some d, [(_, v)] => k ⟨σ.base, (d, (v.ren (renN bm nb σ.nx)).sub (fillF σ)) :: σ.top, (u.H.map (HA.ren (renN bm nb σ.nx))).map (HA.sub (fillF σ)) ++ H, σ.Hf, σ.nx + (u.nx - nb), σ.kq && allKf vs u.H⟩
   | some d, [] => k ⟨σ.base, (d, .tup []) :: σ.top, (u.H.map (HA.ren (renN bm nb σ.nx))).map (HA.sub (fillF σ)) ++ H, σ.Hf, σ.nx + (u.nx - nb), σ.kq && allKf vs u.H⟩
   | none, _ => k ⟨σ.base, σ.top, (u.H.map (HA.ren (renN bm nb σ.nx))).map (HA.sub (fillF σ)) ++ H, σ.Hf, σ.nx + (u.nx - nb), σ.kq && allKf vs u.H⟩
   | _, _ => none)
 | none => none
def disp (nin : Nat) (σ : Zt) (H : List HA) (bm : List (Nat × Nat)) (nb : Nat) (d : Option Nat) (ln : Bool) (os : List Sh) (r : OutT os) (h1 h2 : Hn P) (k : Hn P → Zt → Option R) : Option R := match os, r with
 | [a], r => after nin σ H bm nb d ln a (TL.list a.ts r) (k h1)
 | [a, b], r => (match r with
   | .inl r => after nin σ H bm nb d ln a (TL.list a.ts r) (k h1)
   | .inr r => after nin σ H bm nb d ln b (TL.list b.ts r) (k h2))
 | _, _ => none
def allOld : List Bk → Bool
 | [] => true
 | b :: r => (match b.old with | none => true | some _ => false) && allOld r
def slN : Nat → List (Nat × Kd) → Nat → Bool
 | j, [], m => Nat.beq j m
 | j, p :: r, m => Nat.beq p.1 j && slN (j + 1) r m
def valsLt (n : Nat) : List (Nat × Nat) → Bool
 | [] => true
 | p :: r => Nat.blt p.2 n && valsLt n r
def callC (σ : Zt) (d : Option Nat) (vs : List SV) (H back : List HA) (ln em : Bool) (q : OkSpec P) (h1 h2 : Hn P) (k : Hn P → Zt → Option R) : Option R := match q.s.inn.get (argf vs) H with
 | some g => (match TL.of q.s.inn.ts g.ds, q.s.inn.un g.ds 0 with
   | some x, some (_, u) => bif !valsLt σ.nx g.bm || (em && !g.H.isEmpty) then none else (q.s.fn x).bind fun r => disp u.nx σ (g.H ++ back) g.bm q.s.inn.bl.length d ln q.s.outs r h1 h2 k
   | _, _ => none)
 | none => none
def knB (P : Program) (i : Nat) : HA → Option Dat
 | .blk j _ e cs => bif Nat.beq j i then (match tpOf P 10 e with
   | some t => (match dt t (SV.stL cs) with | some (x, []) => some ⟨t, x⟩ | _ => none)
   | none => none) else none
 | _ => none
def callL (σ : Zt) (d : Option Nat) (ln : Bool) (am : Option (List Nat)) (q : OkSpec P) (h1 h2 : Hn P) (k : Hn P → Zt → Option R) : List Nat → List SV → List HA → List HA → List HA → (HA → HA) → Option R
 | [], vs, H, _, back, Fh => (match am with
   | none => callC σ d vs H back ln false q h1 h2 k
   | some act => callC σ d vs ((H.filter fun a => act.contains a.id).map Fh) ((H.filter fun a => !act.contains a.id) ++ back) ln true q h1 h2 k)
 | i :: is, vs, H, Hf, back, Fh => match pick (HA.rowR i) H with
   | some (r, H) => bif Nat.blt 0 r.t.size then callL σ d ln am q h1 h2 k is (SV.subL (rowF i r.t r.l r.n) vs) H Hf (.row i r.c r.e r.t r.l r.n :: back) (fun a => HA.sub (rowF i r.t r.l r.n) (Fh a)) else none
   | none => match pick (HA.rowR i) Hf with
     | some (r, Hf) => bif Nat.blt 0 r.t.size then callL σ d ln am q h1 h2 k is (SV.subL (rowF i r.t r.l r.n) vs) H Hf back (fun a => HA.sub (rowF i r.t r.l r.n) (Fh a)) else none
     | none => match pick (HA.odR i) H with
       | some (r, H) => bif r.o.pos then (match OT.kn r.o r.x with
         | some w => callL σ d ln am q h1 h2 k is (SV.subL (svF i w) vs) H Hf (.od i r.c r.o r.x :: back) (fun a => HA.sub (svF i w) (Fh a))
         | none => none) else none
       | none => match pick (HA.odR i) Hf with
         | some (r, Hf) => bif r.o.pos then (match OT.kn r.o r.x with
           | some w => callL σ d ln am q h1 h2 k is (SV.subL (svF i w) vs) H Hf back (fun a => HA.sub (svF i w) (Fh a))
           | none => none) else none
         | none => match pick (HA.blkR i) H with
           | some (r, H) => (match knB P i (Fh (.blk i r.c r.e r.cs)) with
             | some d0 => callL σ d ln am q h1 h2 k is (SV.subL (blkF i d0.t d0.x) vs) H Hf (.blk i r.c r.e r.cs :: back) (fun a => HA.sub (blkF i d0.t d0.x) (Fh a))
             | none => none)
           | none => match pick (HA.blkR i) Hf with
             | some (r, Hf) => (match knB P i (Fh (.blk i r.c r.e r.cs)) with
               | some d0 => callL σ d ln am q h1 h2 k is (SV.subL (blkF i d0.t d0.x) vs) H Hf back (fun a => HA.sub (blkF i d0.t d0.x) (Fh a))
               | none => none)
             | none => none
def callS (σ : Zt) (d : Option Nat) (f : Nat) (vs : List SV) (q : OkSpec P) (lend : List Nat) (am : Option (List Nat)) (h1 h2 : Hn P) (k : Hn P → Zt → Option R) : Option R :=
 bif Nat.beq q.s.f f && allOld q.s.inn.bl && slN 0 q.s.inn.sl vs.length then callL σ d (!lend.isEmpty || am.isSome) am q h1 h2 k lend vs σ.H σ.Hf [] (fun a => a) else none
def opVal (n : Nat) (o : Oper) (h : Hn P) (σ : Zt) (k : Hn P → Zt → Option R) : Option R := match o.dst with
 | some d => vop P n true (σ.H ++ σ.Hf) σ o.op fun σ v => k h (σ.set d v)
 | none => none
def opApp (P : Program) (σ : Zt) (d : Option Nat) (s u : TypeId) (x y : SV) (k : Zt → Option R) : Option R := match P.underlying s, x with
 | some (.slice e), .own i => (match pick (HA.rowR i) σ.H with
   | some (q, H) => bif Nat.beq q.e e then appS P σ H d e s u q.t q.l y k else none
   | none => none)
 | some (.slice e), .nils => (match tpOf P 10 e with | some t => appS P σ σ.H d e s u t [] y k | none => none)
 | _, _ => none
def opAlloc (P : Program) (σ : Zt) (d : Option Nat) (e : TypeId) (k : Zt → Option R) : Option R := bif Nat.beq e BldA.t then (match d with
   | some d => bif isBld P e then k ⟨σ.base, (d, .ptr σ.nx 0) :: σ.top, .bld σ.nx [] :: σ.H, σ.Hf, σ.nx + 1, σ.kq⟩ else none
   | none => none)
 else match zeroS P e with | some cs => newB σ d e cs k | none => none
def opLit (P : Program) (n : Nat) (σ : Zt) (d : Option Nat) (s : TypeId) (len : Nat) (ps : List (Nat × SV)) (k : Zt → Option R) : Option R := match P.underlying s with
 | some (.slice e) => (match zeroS P e with
   | some z => (match litF z.length (List.replicate len z) ps with
     | some cs => (match allFn cs, cs with
       | some fs, _ :: _ => bif infOk P e 1 && Nat.ble len 16777216 then (match d with
           | some d => k ⟨σ.base, (d, .fsl σ.nx len) :: σ.top, .blk σ.nx (σ.nx + 1) e fs :: σ.H, σ.Hf, σ.nx + 2, σ.kq⟩
           | none => none) else none
       | _, _ => (match tpOf P 10 e with
         | some t => bif infOk P e t.size && Nat.ble (len * t.size) 16777216 then (match dtAll t cs with | some l => newR σ d σ.H e t l k | none => none) else none
         | none => none))
     | none => none)
   | none => none)
 | _ => none
def opMake (P : Program) (σ : Zt) (d : Option Nat) (s : TypeId) (x y : SV) (k : Zt → Option R) : Option R := match P.underlying s, x, y with
 | some (.slice e), .int _ a, .int _ b => (match zeroS P e, tpOf P 10 e with
   | some z, some t => bif infOk P e t.size then (match dt t z with | some (x0, []) => (mk a b x0).bind fun l => newR σ d σ.H e t l k | _ => none) else none
   | _, _ => none)
 | _, _, _ => none
def newO (σ : Zt) (d : Option Nat) (H : List HA) (e : TypeId) (o : OT) (l : List o.tp.den) (k : Zt → Option R) : Option R := match d with
 | some d => k ⟨σ.base, (d, .own σ.nx) :: σ.top, .od σ.nx (σ.nx + 1) (.row e o) l :: H, σ.Hf, σ.nx + 2, σ.kq⟩
 | none => none
def OT.z0 : (o : OT) → List SV → Option (o.tp.den × List SV)
 | .dat t, vs => dt t vs
 | .row e a, vs => (match vs with | .nils :: r => some (([] : List a.tp.den), r) | _ => none)
 | .box e a, vs => (match vs with | .nilp :: r => some ((none : Option a.tp.den), r) | _ => none)
 | .chn a, vs => (match vs with
   | .raw (.chan none) :: r => some ((none : Option (Int × List a.tp.den)), r)
   | _ => none)
 | .obj n u, vs => (match vs with
   | .raw (.map none) :: r => bif Nat.beq n 0 then some ((none : Option u.den), r) else none
   | .raw (.chan none) :: r => bif Nat.beq n 0 then none else some ((none : Option u.den), r)
   | _ => none)
 | .one a, vs => OT.z0 a vs
 | .cons a b, vs => match OT.z0 a vs with
   | some (x, r) => (match OT.z0 b r with | some (y, r) => some ((x, y), r) | none => none)
   | none => none
def opMap (σ : Zt) (d : Option Nat) (u : Tp) (k : Zt → Option R) : Option R := match d, u with
 | some d, .sl (.cons kt (.one (.int .i64))) => k ⟨σ.base, (d, .own σ.nx) :: σ.top, .od σ.nx (σ.nx + 1) (.obj 0 (.sl (.cons kt (.one (.int .i64))))) (some ([] : List (kt.den × Int))) :: σ.H, σ.Hf, σ.nx + 2, σ.kq⟩
 | _, _ => none
def OT.colA (o : OT) : List (List SV) → List HA → Option (List o.tp.den × List HA)
 | [], H => some ([], H)
 | cs :: r, H => match OT.col o (SV.stL cs) H with
   | some (x, [], H) => (match OT.colA o r H with | some (xs, H) => some (x :: xs, H) | none => none)
   | _ => none
def opLitO (P : Program) (σ : Zt) (d : Option Nat) (s : TypeId) (len : Nat) (ps : List (Nat × SV)) (o : OT) (k : Zt → Option R) : Option R := match P.underlying s with
 | some (.slice e) => (match zeroS P e with
   | some z => (match litF z.length (List.replicate len z) ps with
     | some cs => bif infOk P e o.tp.size && Nat.ble (len * o.tp.size) 16777216 && cs.all (fun c => c.all SV.leaf) then (match OT.colA o cs σ.H with | some (l, H) => newO σ d H e o l k | none => none) else none
     | none => none)
   | none => none)
 | _ => none
def opMakeO (P : Program) (σ : Zt) (d : Option Nat) (s : TypeId) (x y : SV) (o : OT) (k : Zt → Option R) : Option R := match P.underlying s, x, y with
 | some (.slice e), .int _ a, .int _ b => (match zeroS P e with
   | some z => bif infOk P e o.tp.size then (match OT.z0 o z with | some (x0, []) => (mk a b x0).bind fun l => newO σ d σ.H e o l k | _ => none) else none
   | none => none)
 | _, _, _ => none
def appO (P : Program) (σ : Zt) (d : Option Nat) (H : List HA) (e : TypeId) (o : OT) (l : List o.tp.den) (y : SV) (k : Zt → Option R) : Option R := match y with
 | .own j => bif infOk P e o.tp.size then (match pick (HA.odX j (.row e o)) H with
   | some (l', H) => (app (l : List o.tp.den) (l' : List o.tp.den)).bind fun z => newO σ d H e o z k
   | none => none) else none
 | _ => none
def opAppO (P : Program) (σ : Zt) (d : Option Nat) (s u : TypeId) (x y : SV) (o : OT) (k : Zt → Option R) : Option R := match P.underlying s, x with
 | some (.slice e), .own i => bif Nat.beq s u then (match pick (HA.odX i (.row e o)) σ.H with
   | some (l, H) => appO P σ d H e o l y k
   | none => none) else none
 | some (.slice e), .nils => bif Nat.beq s u then appO P σ d σ.H e o [] y k else none
 | _, _ => none
def cpTo : SV → Option (Nat × Int × Option Int)
 | .own i => some (i, 0, none)
 | .prt i z lo hi => bif Nat.beq z 1 then some (i, lo, some hi) else none
 | _ => none
def cpRow (t : Tp) (i : Nat) (A : List HA) : Option (List t.den) := match findR (HA.rowR i) A with
 | some q => (match Tp.same q.t t with | some h => some (cstL h q.l) | none => none)
 | none => none
def cpFrom (t : Tp) (A : List HA) : SV → Option (List t.den)
 | .nils => some []
 | .row u l _ => (match Tp.same u t with | some h => some (cstL h l) | none => none)
 | .own i => cpRow t i A
 | .prt i z lo hi => bif !Nat.beq z 1 then none else (match cpRow t i A with | some l => some ((l.take hi.toNat).drop lo.toNat) | none => none)
 | _ => none
def cpy {α : Type} (xs : List α) (lo : Nat) (ys : List α) : List α := xs.take lo ++ (ys ++ xs.drop (lo + ys.length))
def cpEnd (n : Nat) : Option Int → Nat
 | none => n
 | some h => h.toNat
def opCopy (P : Program) (σ : Zt) (d : Option Nat) (s : TypeId) (x y : SV) (k : Zt → Option R) : Option R := match P.underlying s, cpTo x with
 | some (.slice e), some (i, lo, hi) => (match pick (HA.rowR i) σ.H with
   | some (q, H) => bif Nat.beq q.e e && (infOk P e 1 && Nat.beq q.t.size 1) then (match cpFrom q.t (σ.H ++ σ.Hf) y with
     | some ys => (some (cpy q.l lo.toNat (ys.take (cpEnd q.n hi - lo.toNat)))).bind fun zs => k ⟨σ.base, (match d with | some d => [(d, .int .i64 ((min ys.length (cpEnd q.n hi - lo.toNat) : Nat) : Int))] | none => []) ++ σ.top, .row i σ.nx q.e q.t zs q.n :: H, σ.Hf, σ.nx + 1, σ.kq⟩
     | none => none) else none
   | none => none)
 | _, _ => none
def opTrn (P : Program) (σ : Zt) (d : Option Nat) (s : TypeId) (x y : SV) (k : Zt → Option R) : Option R := match P.underlying s, x, y with
 | some (.slice e), .own i, .int _ b => (match pick (HA.rowR i) σ.H with
   | some (q, H) => if szOf P e = some q.t.size then (subL q.l 0 b).bind fun z => newR σ d H q.e q.t z k else none
   | none => none)
 | _, _, _ => none
def opClr (P : Program) (σ : Zt) (d : Option Nat) (s : TypeId) (x : SV) (k : Zt → Option R) : Option R := match P.underlying s, x with
 | some (.slice e), .prt i z lo hi => (match pick (HA.rowR i) σ.H, zeroS P e with
   | some (q, H), some zc => bif (Nat.beq z 1 && Nat.beq q.e e) && (infOk P e 1 && Nat.beq q.t.size 1) then (match dt q.t zc with
     | some (x0, []) => (some (cpy q.l lo.toNat (List.replicate (hi.toNat - lo.toNat) x0))).bind fun zs => k ⟨σ.base, (match d with | some d => [(d, .tup [])] | none => []) ++ σ.top, .row i σ.nx q.e q.t zs q.n :: H, σ.Hf, σ.nx + 1, σ.kq⟩
     | _ => none) else none
   | _, _ => none)
 | _, _ => none
def opPeq (P : Program) (σ : Zt) (d : Option Nat) (s : TypeId) (i j : Nat) (k : Zt → Option R) : Option R := match P.underlying s, d with
 | some (.pointer e), some d => bif (match szOf P e with | some z => Nat.blt 0 z | none => false) then (bif Nat.beq i j then k (σ.set d (.bool true)) else (match pick (HA.blkR i) σ.H with
   | some (_, H) => (match pick (HA.blkR j) H with | some _ => k (σ.set d (.bool false)) | none => none)
   | none => none)) else none
 | _, _ => none
def opPn (P : Program) (σ : Zt) (d : Option Nat) (s : TypeId) (k : Zt → Option R) : Option R := match P.underlying s, d with
 | some (.pointer _), some d => k (σ.set d (.bool false))
 | _, _ => none
def opMapUp (P : Program) (σ : Zt) (d : Option Nat) (mt : TypeId) (x y z : SV) (k : Zt → Option R) : Option R := bif mapOk P mt then (match d, x, y, z with
 | none, .own i, .int .i64 c, .int .i64 v => (match pick (HA.mapR i) σ.H with
   | some (q, H) => q.bind fun l => k ⟨σ.base, σ.top, .od i σ.nx (.obj 0 (.sl (.cons (.int .i64) (.one (.int .i64))))) (some (mset c v l)) :: H, σ.Hf, σ.nx + 1, σ.kq⟩
   | none => none)
 | _, _, _, _ => none) else none
def opChan (P : Program) (σ : Zt) (d : Option Nat) (s : TypeId) (u : Tp) (x : SV) (k : Zt → Option R) : Option R := match d, u, x with
 | some d, .cons (.int .i64) (.one (.sl t)), .int _ c => (match P.underlying s with
   | some (.chan _ e) => (match P.info? e with
     | some i => bif Nat.ble i.bytes 100000 then (mk c c ()).bind fun _ => k ⟨σ.base, (d, .own σ.nx) :: σ.top, .od σ.nx (σ.nx + 1) (.obj 1 (.cons (.int .i64) (.one (.sl t)))) (some ((c : Int), ([] : List t.den))) :: σ.H, σ.Hf, σ.nx + 2, σ.kq⟩ else none
     | none => none)
   | _ => none)
 | _, _, _ => none
def opChnO (P : Program) (σ : Zt) (d : Option Nat) (s : TypeId) (a : OT) (x : SV) (k : Zt → Option R) : Option R := match d, x with
 | some d, .int _ c => (match P.underlying s with
   | some (.chan _ e) => (match P.info? e with
     | some i => bif Nat.ble i.bytes 100000 && Nat.beq a.tp.size 1 then (mk c c ()).bind fun _ => k ⟨σ.base, (d, .own σ.nx) :: σ.top, .od σ.nx (σ.nx + 1) (.chn a) (some ((c : Int), ([] : List a.tp.den))) :: σ.H, σ.Hf, σ.nx + 2, σ.kq⟩ else none
     | none => none)
   | _ => none)
 | _, _ => none
def otFit (P : Program) (s : TypeId) (q : OT) : Bool := match P.underlying s with
 | some (.slice el) => (match q with
   | .row e _ => (match P.underlying el with | some (.slice e') => Nat.beq e e' | _ => false)
   | _ => true)
 | _ => true
def mthOk (P : Program) (t : TypeId) (nm : String) (f : Nat) : Bool := match P.info? t, P.underlying t with
 | some i, some d => (match i.methods.find? (·.name == nm) with
   | some m => m.path.isEmpty && (match m.func with | some (g, p) => Nat.beq g f && (match d with | .pointer _ => p | _ => !p) | _ => false)
   | none => false)
 | _, _ => false
def mthLd (P : Program) (t : TypeId) (nm : String) (f : Nat) : Option TypeId := match P.info? t, P.underlying t with
 | some i, some (.pointer e) => (match i.methods.find? (·.name == nm) with
   | some m => bif m.path.isEmpty && (match m.func with | some (g, p) => Nat.beq g f && !p | _ => false) then some e else none
   | none => none)
 | _, _ => none
def callI (n : Nat) (o : Oper) (xs : List Operand) (nm : String) (t : TypeId) (v : SV) (q : OkSpec P) (lend : List Nat) (a b : Hn P) (σ : Zt) (k : Hn P → Zt → Option R) : Option R :=
 bif mthOk P t nm q.s.f then callS σ o.dst q.s.f (v :: xs.map (σ.evr n)) q lend none a b k else match mthLd P t nm q.s.f with
   | some e => load P (σ.H ++ σ.Hf) σ e v fun σ v => callS σ o.dst q.s.f (v :: xs.map (σ.evr n)) q lend none a b k
   | none => none
def op1 (n : Nat) (o : Oper) (h : Hn P) (σ : Zt) (k : Hn P → Zt → Option R) : Option R := match o.op with
 | .alloc e => opAlloc P σ o.dst e (k h)
 | .box e x => (match (σ.evr n x).cells with | some cs => newB σ o.dst e cs (k h) | none => none)
 | .store s x y => (match o.dst with | none => der σ x (σ.evr n x) fun σ v => sto P σ s v (σ.evr n y) (k h) | some _ => none)
 | .buildSlice s len ps => (match h with
   | .ot q r => opLitO P σ o.dst s len (ps.toList.map fun p => (p.1, σ.ev n p.2)) q (k r)
   | h => opLit P n σ o.dst s len (ps.toList.map fun p => (p.1, σ.ev n p.2)) (k h))
 | .makeMap s none => (match h with
   | .ot (.obj 0 u) r => opMap σ o.dst u (k r)
   | _ => none)
 | .mapUpdate s x y z => opMapUp P σ o.dst s (σ.ev n x) (σ.ev n y) (σ.ev n z) (k h)
 | .makeChan s x => (match h with
   | .ot (.obj 1 u) r => opChan P σ o.dst s u (σ.ev n x) (k r)
   | .ot (.chn a) r => opChnO P σ o.dst s a (σ.ev n x) (k r)
   | _ => none)
 | .binOp .eql s x y _ => (match σ.ev n x, σ.ev n y with
   | .ptr i 0, .ptr j 0 => opPeq P σ o.dst s i j (k h)
   | .nilp, .ptr _ 0 => opPn P σ o.dst s (k h)
   | _, _ => opVal n o h σ k)
 | .slice s x none (some y) none => (match h with
   | .tru r => opTrn P σ o.dst s (σ.ev n x) (σ.ev n y) (k r)
   | h => opVal n o h σ k)
 | .makeSlice s x y => (match h with
   | .ot q r => bif otFit P s q then opMakeO P σ o.dst s (σ.ev n x) (σ.ev n y) q (k r) else opMake P σ o.dst s (σ.ev n x) (σ.ev n y) (k (.ot q r))
   | h => opMake P σ o.dst s (σ.ev n x) (σ.ev n y) (k h))
 | .call c => (match c.callee, c.args.toList, c.argTypes.toList with
   | .builtin .append, [x, y], [s, u] => (match o.dst with
     | some d => (match h with
       | .ot q r => opAppO P σ (some d) s u (σ.ev n x) (σ.ev n y) q (k r)
       | h => opApp P σ (some d) s u (σ.ev n x) (σ.ev n y) (k h))
     | none => none)
   | .builtin .copy, [x, y], [s, _] => opCopy P σ o.dst s (σ.ev n x) (σ.ev n y) (k h)
   | .builtin .clear, [x], [s] => opClr P σ o.dst s (σ.ev n x) (k h)
   | .value fo, xs, _ => (match σ.ev n fo with
     | .fn f cs => (match h with
       | .cl q lend r => callS σ o.dst f (xs.map (σ.evr n) ++ cs) q lend none r r k
       | .c2 q lend a b => callS σ o.dst f (xs.map (σ.evr n) ++ cs) q lend none a b k
       | .cm q lend act r => callS σ o.dst f (xs.map (σ.evr n) ++ cs) q lend (some act) r r k
       | .cm2 q lend act a b => callS σ o.dst f (xs.map (σ.evr n) ++ cs) q lend (some act) a b k
       | _ => none)
     | _ => none)
   | .invoke x nm, xs, _ => (match σ.ev n x with
     | .ifc t v => (match h with
       | .cl q lend r => callI n o xs nm t v q lend r r σ k
       | .c2 q lend a b => callI n o xs nm t v q lend a b σ k
       | _ => none)
     | _ => none)
   | _, _, _ => opVal n o h σ k)
 | _ => opVal n o h σ k
def dsts (l : List Oper) : List Nat := l.filterMap (·.dst)
def writes : Code → List Nat
 | .region _ ops _ => dsts ops.toList
 | .seq a b => writes a ++ writes b
 | .cond _ a b => writes a ++ writes b
 | .block _ b => writes b
 | .loop b => writes b
 | .scope b => writes b
 | _ => []
def minus (H : List HA) (act : List Nat) : List HA := H.filter fun a => !act.contains a.id
def only (H : List HA) (act : List Nat) : List HA := H.filter fun a => act.contains a.id
def Zt.frz (σ : Zt) (act : List Nat) : Zt := ⟨σ.get, [], only σ.H act, minus σ.H act ++ σ.Hf, σ.nx, true⟩
def keysIn (W : List Nat) : List (Nat × SV) → Bool
 | [] => true
 | p :: r => W.contains p.1 && keysIn W r
def Zt.pack (σ : Zt) (s : Sh) (W : List Nat) : Option (TL s.ts) := bif keysIn W σ.top then (match s.get σ.get σ.H with | some g => TL.of s.ts g.ds | none => none) else none
def anys : List Nat → List (Nat × SV)
 | [] => []
 | i :: r => (i, .any) :: anys r
def Zt.lay (σ : Zt) (s : Sh) (W : List Nat) (rest : List HA) (x : TL s.ts) (k : Zt → Option R) : Option R := match s.un (TL.list _ x) σ.nx with
 | some (vs, u) => k ⟨σ.base, subT (fillF σ) vs ++ (anys W ++ σ.top), u.H.map (HA.sub (fillF σ)) ++ rest, σ.Hf, u.nx, false⟩
 | none => none
def Zt.thaw (σ σ' : Zt) (rest : List HA) (W : List Nat) : Zt := ⟨σ.base, σ'.top ++ (anys W ++ σ.top), σ'.H ++ rest, σ.Hf, σ'.nx, false⟩
def Hn.tk (d : Nat) : Hn P → Option (Bool × Hn P × Hn P)
 | .two e a b => bif Nat.beq e d then some (true, a, b) else none
 | .tw e a b => bif Nat.beq e d then some (false, a, b) else none
 | _ => none
def Hn.tko (c : Operand) (h : Hn P) : Option (Bool × Hn P × Hn P) := match c with | .tmp d => Hn.tk d h | _ => none
def gate (n : Nat) (ops : Array Oper) (σ : Zt) (o : Oper) (h : Hn P) (run skip : Hn P → Zt → Option R) : Option R := match o.guard with
 | none => run h σ
 | some (g, c) => match (ops[g]?).bind (·.dst) with
   | none => none
   | some d => match σ.evr n (.tmp d) with
     | .raw (.tuple vs) => bif vs.isEmpty then skip h σ else none
     | .bool b => (match Hn.tk d h with
       | some (true, h1, h2) => cond b (bif c then run h1 (σ.ref d (.bool true)) else skip h1 (σ.ref d (.bool true))) (bif c then skip h2 (σ.ref d (.bool false)) else run h2 (σ.ref d (.bool false)))
       | some (false, h1, h2) => cond b (bif c then run h1 σ else skip h1 σ) (bif c then skip h2 σ else run h2 σ)
       | none => cond b (bif c then run h σ else skip h σ) (bif c then skip h σ else run h σ))
     | .is j w => (match w with
       | .bool b => (match Hn.tk d h with
         | some (true, h1, h2) => cond b (bif c then run h1 (σ.fix j (.bool true)) else skip h1 (σ.fix j (.bool true))) (bif c then skip h2 (σ.fix j (.bool false)) else run h2 (σ.fix j (.bool false)))
         | some (false, h1, h2) => cond b (bif c then run h1 σ else skip h1 σ) (bif c then skip h2 σ else run h2 σ)
         | none => cond b (bif c then run h σ else skip h σ) (bif c then skip h σ else run h σ))
       | _ => none)
     | _ => none
def putU (d : Option Nat) (σ : Zt) : Zt := match d with | some d => σ.set d (.raw undef) | none => σ
def runP (n : Nat) (ops : Array Oper) : List Oper → Hn P → Zt → (Hn P → Zt → Option R) → Option R
 | [], h, σ, k => prep h σ k
 | o :: rest, h, σ, k => prep h σ fun h σ => gate n ops σ o h (fun h σ => prep h σ fun h σ => op1 n o h σ fun h σ => runP n ops rest h σ k) (fun h σ => runP n ops rest h (putU o.dst σ) k)
def gEq : Option (Nat × Bool) → Option (Nat × Bool) → Bool
 | none, none => true
 | some a, some b => Nat.beq a.1 b.1 && (a.2 == b.2)
 | _, _ => false
def grpEnd (og : Option (Nat × Bool)) (t : Nat) : List Oper → Option Nat
 | [] => none
 | o :: r => bif (match o.op with | .pick (.tmp u) _ _ => Nat.beq u t && gEq o.guard og | _ => false) then some 0 else (match grpEnd og t r with | some m => some (m + 1) | none => none)
def runGd (P : Program) (n : Nat) (ops : Array Oper) (sp : (Nat × Bool) → List Oper → List Nat → Nat → Zt → (Zt → Option R) → Option R) (og : Option (Nat × Bool)) (l : List Oper) (m : Nat) (σ : Zt) (k : Zt → Option R) : Option R := match l, l.drop m with
 | o :: _, ⟨some d, .pick (.tmp t) x y, _, _, _, pg⟩ :: _ => bif gEq pg og then (match o.guard with
   | some (g, c) => (match (ops[g]?).bind (·.dst), σ.ev n (.tmp t) with
     | some t', .bool b => bif Nat.beq t t' && !(dsts (l.take m)).contains t then sp (g, c) (l.take m) [] 0 σ fun σ1 =>
         match (bif c then σ1.ev n x else ((⟨σ.base, anys (dsts (l.take m)) ++ σ.top, σ.H, σ.Hf, σ.nx, σ.kq⟩ : Zt).ev n x)), (bif c then ((⟨σ.base, anys (dsts (l.take m)) ++ σ.top, σ.H, σ.Hf, σ.nx, σ.kq⟩ : Zt).ev n y) else σ1.ev n y) with
         | .bool p, .bool q => k ⟨σ.base, (d, .bool (cond b p q)) :: (anys (dsts (l.take m)) ++ σ.top), σ.H, σ.Hf, σ.nx, σ.kq⟩
         | _, _ => none
       else none
     | _, _ => none)
   | none => none) else none
 | _, _ => none
def runSpL (P : Program) (n : Nat) (ops : Array Oper) (sp : (Nat × Bool) → List Oper → List Nat → Nat → Zt → (Zt → Option R) → Option R) (g : Nat × Bool) : List Oper → List Nat → Nat → Zt → (Zt → Option R) → Option R
 | [], _, _, σ, k => k σ
 | _ :: r, seen, s + 1, σ, k => runSpL P n ops sp g r seen s σ k
 | o :: r, seen, 0, σ, k => match o.dst, o.guard with
   | some d, some g' => bif Nat.beq g.1 g'.1 && (g.2 == g'.2) then vop P n true (σ.H ++ σ.Hf) σ o.op fun σ v => runSpL P n ops sp g r (d :: seen) 0 (σ.set d v) k
     else (match (ops[g'.1]?).bind (·.dst) with
       | some t => bif seen.contains t then (match grpEnd (some g) t (o :: r) with
         | some m => runGd P n ops sp (some g) (o :: r) m σ fun σ' => runSpL P n ops sp g r (dsts ((o :: r).take (m + 1)) ++ seen) m σ' k
         | none => none) else none
       | none => none)
   | _, _ => none
def runSp (P : Program) (n : Nat) (ops : Array Oper) : Nat → (Nat × Bool) → List Oper → List Nat → Nat → Zt → (Zt → Option R) → Option R
 | 0 => runSpL P n ops (fun _ _ _ _ _ _ => none)
 | d + 1 => runSpL P n ops (runSp P n ops d)
def runG (P : Program) (n : Nat) (ops : Array Oper) (l : List Oper) (m : Nat) (σ : Zt) (k : Zt → Option R) : Option R := match l.drop m with
 | ⟨_, _, _, _, _, pg⟩ :: _ => (match pg with
   | none => runGd P n ops (runSp P n ops 6) none l m σ k
   | some (g, c) => (match (ops[g]?).bind (·.dst) with
     | some t => (match σ.ev n (.tmp t) with
       | .bool b => bif (b == c) && !(dsts (l.take (m + 1))).contains t then runGd P n ops (runSp P n ops 6) (some (g, c)) l m σ k else none
       | _ => none)
     | none => none))
 | [] => none
def fires (ops : Array Oper) (h : Hn P) (l : List Oper) : Bool :=
 match (match h with | .gp m _ => some m | .gj m _ _ _ _ => some m | _ => none), l with
 | some m, o :: r => (match (o :: r).drop m, o.guard with
   | ⟨_, .pick (.tmp t) _ _, _, _, _, _⟩ :: _, some (g, _) => (match (ops[g]?).bind (·.dst) with | some t' => Nat.beq t t' | none => false)
   | _, _ => false)
 | _, _ => false
def runLg (n : Nat) (ops : Array Oper) (sub : (R : Type) → List Oper → Hn P → Zt → (Hn P → Zt → Option R) → Option R) : List Oper → Nat → Hn P → Zt → (Hn P → Zt → Option R) → Option R
 | [], _, h, σ, k => prep h σ k
 | _ :: rest, s + 1, h, σ, k => runLg n ops sub rest s h σ k
 | o :: rest, 0, h, σ, k => prep h σ fun h σ => match (bif fires ops h (o :: rest) then h else .nil) with
   | .gp m r => runG P n ops (o :: rest) m σ fun σ => runLg n ops sub rest m r σ k
   | .gj m s act ha hb => (sub _ ((o :: rest).take (m + 1)) ha (σ.frz act) (fun h σ' => σ'.pack s (dsts ((o :: rest).take (m + 1))))).bind fun x => σ.lay s (dsts ((o :: rest).take (m + 1))) (minus σ.H act) x fun σ => runLg n ops sub rest m hb σ k
   | _ => gate n ops σ o h (fun h σ => prep h σ fun h σ => op1 n o h σ fun h σ => runLg n ops sub rest 0 h σ k) (fun h σ => runLg n ops sub rest 0 h (putU o.dst σ) k)
def runLd (n : Nat) (ops : Array Oper) : Nat → (R : Type) → List Oper → Hn P → Zt → (Hn P → Zt → Option R) → Option R
 | 0 => fun R l h σ k => runP n ops l h σ k
 | d + 1 => fun R l h σ k => runLg n ops (runLd n ops d) l 0 h σ k
def runL (n : Nat) (ops : Array Oper) (l : List Oper) (s : Nat) (h : Hn P) (σ : Zt) (k : Hn P → Zt → Option R) : Option R := runLg n ops (runLd n ops 4) l s h σ k
def runQ (n : Nat) (l : List Oper) : List Nat → Hn P → Zt → (Hn P → Zt → Option R) → Option R
 | [], h, σ, k => k h σ
 | i :: is, h, σ, k => match l[i]? with
   | some o => gate n l.toArray σ o h (fun h σ => match o.dst with | some d => vop P n σ.kq σ.Hf σ o.op fun σ v => runQ n l is h (σ.set d v) k | none => none) (fun h σ => runQ n l is h (putU o.dst σ) k)
   | none => none
def runM (n : Nat) (l : List Oper) (fin : List Nat) : List (List Nat × Nat) → Hn P → Zt → (Hn P → Zt → Option R) → Option R
 | [], h, σ, k => runQ n l fin h σ k
 | (s, i) :: r, h, σ, k => runQ n l s h σ fun h σ => prep h σ fun h σ => match l[i]? with
   | some o => gate n l.toArray σ o h (fun h σ => prep h σ fun h σ => op1 n o h σ fun h σ => runM n l fin r h σ k) (fun h σ => runM n l fin r h (putU o.dst σ) k)
   | none => none
def preO (n : Nat) (l : List Oper) : Hn P → Zt → (Hn P → Zt → Option R) → Option R
 | .opp s i d r, σ, k => runQ n l s (Hn.nil : Hn P) (σ.frz []) fun _ σ1 => (match σ1.intAt d with
   | some j => σ.opn i j fun σ => preO n l r σ k
   | none => none)
 | h, σ, k => k h σ
noncomputable def agr {α β : Type} (x y : α) (k : Option β) : Option β := @ite _ (x = y) (Classical.propDecidable _) k none
theorem agr_self {α β : Type} (x : α) (k : Option β) : agr x x k = k := by unfold agr; rw [if_pos rfl]
def MT.over : MT → Bool
 | .done => true
 | _ => false
def runAl (n : Nat) (l : List Oper) (i : Nat) (h : Hn P) (σ : Zt) (k : Hn P → Zt → Option R) : Option R := prep h σ fun h σ => match l[i]? with
 | some o => gate n l.toArray σ o h (fun h σ => prep h σ fun h σ => op1 n o h σ k) (fun h σ => k h (putU o.dst σ))
 | none => none
noncomputable def runT (n : Nat) (l : List Oper) : MT → Hn P → Zt → (Hn P → Zt → Option R) → Option R
 | .leaf fin, h, σ, k => runQ n l fin h σ k
 | .still s t, h, σ, k => runQ n l s h σ fun h σ => runT n l t h σ k
 | .alt i t r, h, σ, k => bif r.over then runAl n l i h σ fun h σ => runT n l t h σ k else (match h with
   | .two _ a b => (runAl n l i a σ fun h σ => runT n l t h σ k).bind fun x => (runT n l r b σ k).bind fun y => agr x y (some x)
   | _ => none)
 | .done, _, _, _ => none
abbrev Rn (P : Program) := Nat → Code → (R : Type) → Hn P → Zt → (Exit → Hn P → Zt → Option R) → Option R
def setPs : List Nat → List SV → (Nat → SV) → Nat → SV
 | p :: ps, x :: xs, f => setPs ps xs (fun j => bif Nat.beq j p then x else f j)
 | _, _, f => f
def exLst : Exit → Option (Bool × LSt)
 | .normal => some (true, .ready)
 | .ret => some (false, .ret)
 | .exit id => some (false, .exit id)
 | _ => none
noncomputable def yldRun (J : Rn P) (σ : Zt) (c : SV) (xs : List SV) (h : Hn P) (k : Hn P → Zt → Bool → Option R) : Option R := match c with
 | .yld i n vs ps ao bo => bif Nat.beq xs.length ps.size then (match pick (HA.lpR i) σ.H with
   | some (.ready, H) => J n ao R h ⟨setPs ps.toList xs vs, [], H, σ.Hf, σ.nx, false⟩ fun e h σ1 => match e with
     | .normal => J n bo R h σ1 fun e h σ2 => (match exLst e with
       | some (b, s) => k h ⟨σ.base, σ.top, .lp i s :: σ2.H, σ.Hf, σ2.nx, false⟩ b
       | none => none)
     | _ => none
   | _ => none) else none
 | _ => none
def slA : Nat → List SV → List (Nat × SV)
 | _, [] => []
 | j, v :: r => (j, v) :: slA (j + 1) r
def exOver : Exit → Bool
 | .normal => true
 | .ret => true
 | _ => false
def Hn.unw {P : Program} : Hn P → Hn P
 | .wt d h => bif Nat.beq d 999999 then h else .wt d h
 | h => h
noncomputable def inlRun (J : Rn P) (q : ItFn P) (f d : Nat) (vs : List SV) (h : Hn P) (σ : Zt) (k : Hn P → Zt → Option R) : Option R := match q.fn.body, q.fn.results.toList with
 | some c, [.tmp j] => bif Nat.beq f q.f && Nat.ble vs.length q.fn.ntmps then
     J q.fn.ntmps c R h ⟨fun _ => .any, slA 0 vs, σ.H, σ.Hf, σ.nx, false⟩ fun e h σ' => bif exOver e then k h.unw (Zt.set ⟨σ.base, σ.top, σ'.H, σ.Hf, σ'.nx, false⟩ d (σ'.ev q.fn.ntmps (.tmp j))) else none else none
 | _, _ => none
noncomputable def yop (J : Rn P) (n : Nat) (o : Oper) (h : Hn P) (σ : Zt) (k : Hn P → Zt → Option R) : Option R := match o with
 | ⟨some d, .call ⟨.value c, args, _⟩, _, _, _, _⟩ => (match h with
   | .il q h => (match σ.ev n c with
     | .fn f [] => inlRun J q f d (args.toList.map (σ.evr n)) h σ k
     | _ => none)
   | h => yldRun J σ (σ.ev n c) (args.toList.map (σ.evr n)) h fun h σ b => k h (σ.set d (.bool b)))
 | _ => none
def LSt.go (s : LSt) (k : Exit → Hn P → Zt → Option R) (h : Hn P) (σ : Zt) : Option R := match s with
 | .ready => k .normal h σ
 | .ret => k .ret h σ
 | .exit id => k (.exit id) h σ
noncomputable def rgRun (J : Rn P) (n : Nat) (g : Operand) (ps : Array Nat) (ao bo : Code) (h : Hn P) (σ : Zt) (k : Exit → Hn P → Zt → Option R) : Option R := match h with
 | .rg q h => (match σ.ev n g with
   | .fn f cs => (match q.fn.body with
     | some c => bif Nat.beq f q.f && (q.fn.results.isEmpty && Nat.ble (cs.length + 1) q.fn.ntmps) then
       J q.fn.ntmps c R h ⟨fun _ => .any, slA 0 (.yld σ.nx n σ.get ps ao bo :: cs), .lp σ.nx .ready :: σ.H, σ.Hf, σ.nx + 1, false⟩ fun e h σ' =>
         bif exOver e then (match pick (HA.lpR σ.nx) σ'.H with
           | some (s, H) => LSt.go s k h ⟨σ.base, σ.top, H, σ.Hf, σ'.nx, false⟩
           | none => none) else none
       else none
     | none => none)
   | _ => none)
 | _ => none
def isSeq : Code → Bool
 | .seq _ _ => true
 | _ => false
section
variable (J : Rn P) (n : Nat)
def mixS (ops : Array Oper) (plan : List (List Nat × Nat)) (fin tail act : List Nat) (h : Hn P) (σ : Zt) (k : Hn P → Zt → Option R) : Option R :=
 bif P.follows .mixedOrders && mixB .any ops plan fin tail then runM n ops.toList fin plan h (σ.frz act) (fun h σ' => runL n ops (picks ops.toList tail) 0 h (σ.thaw σ' (minus σ.H act) []) k) else none
noncomputable def trS (ops : Array Oper) (t : MT) (s : Sh) (act : List Nat) (a b : Hn P) (σ : Zt) (k : Hn P → Zt → Option R) : Option R :=
 bif P.follows .mixedOrders && (Region.noSelect ops.toList.toArray && mtB .any ops.toList.toArray [] true t ops.toList.length (Array.replicate ops.toList.length false)) then
   (runT n ops.toList t a (σ.frz act) fun h σ' => prep h σ' fun _ σ' => σ'.pack s (s.sl.map (·.1) ++ dsts ops.toList)).bind fun x => σ.lay s (s.sl.map (·.1) ++ dsts ops.toList) (minus σ.H act) x (k b) else none
def unroll (f : Hn P → Zt → (Exit → Hn P → Zt → Option R) → Option R) (k : Exit → Hn P → Zt → Option R) : Nat → Hn P → Zt → Option R
 | 0, _, _ => none
 | m + 1, h, σ => f h σ fun e h σ => match e with | .normal => unroll f k m h σ | e => k e h σ
def joinN (f : Hn P → Zt → (R : Type) → (Exit → Hn P → Zt → Option R) → Option R) (s : Sh) (act W : List Nat) (a b : Hn P) (σ : Zt) (k : Hn P → Zt → Option R) : Option R :=
 (f a (σ.frz act) _ (fun e h σ' => match e with | .normal => prep h σ' fun _ σ' => σ'.pack s W | _ => none)).bind fun x => σ.lay s W (minus σ.H act) x (k b)
def joinX (f : Hn P → Zt → (R : Type) → (Exit → Hn P → Zt → Option R) → Option R) (s : Sh) (act W : List Nat) (a b : Hn P) (σ : Zt) (k : Exit → Hn P → Zt → Option R) : Option R :=
 (f a (σ.frz act) _ (fun e h σ' => match e with | .normal => prep h σ' fun _ σ' => (σ'.pack s W).map Sum.inl | e => (k e h (σ.thaw σ' (minus σ.H act) [])).map Sum.inr)).bind fun o => match o with
   | .inr r => some r
   | .inl x => σ.lay s W (minus σ.H act) x (k .normal b)
def lpRound (f : Hn P → Zt → (R : Type) → (Exit → Hn P → Zt → Option R) → Option R) (s : Sh) (W : List Nat) (g : Gt) (a : Hn P) (σ : Zt) (k : Exit → Hn P → Zt → Option R) (x : TL s.ts) : Option (TL s.ts ⊕ R) := match s.un (TL.list s.ts x) σ.nx with
 | some (vs, u) => f a ⟨fun i => bif W.contains i then .any else σ.get i, subT (fillF σ) vs, u.H.map (HA.sub (fillF σ)), g.H ++ σ.Hf, u.nx, false⟩ _ fun e h σ' => match e with
   | .normal => prep h σ' fun _ σ' => (σ'.pack s W).map Sum.inl
   | e => (k e h (σ.thaw σ' g.H W)).map Sum.inr
 | none => none
noncomputable def lpRun (f : Hn P → Zt → (R : Type) → (Exit → Hn P → Zt → Option R) → Option R) (s : Sh) (W : List Nat) (a : Hn P) (σ : Zt) (k : Exit → Hn P → Zt → Option R) : Option R := match s.get σ.get σ.H with
 | some g => (match TL.of s.ts g.ds with
   | some x0 => loop (lpRound f s W g a σ k) x0
   | none => none)
 | none => none
def onNorm (k : Exit → Hn P → Zt → Option R) (f : Hn P → Zt → Option R) (e : Exit) (h : Hn P) (σ : Zt) : Option R := match e with | .normal => f h σ | e => k e h σ
def onBlk (id : Nat) (k : Exit → Hn P → Zt → Option R) (e : Exit) (h : Hn P) (σ : Zt) : Option R := match e with | .exit i => bif Nat.beq i id then k .normal h σ else k (.exit i) h σ | e => k e h σ
def onScope (k : Exit → Hn P → Zt → Option R) (e : Exit) (h : Hn P) (σ : Zt) : Option R := match e with | .goto _ => none | e => k e h σ
noncomputable def condS (c : Operand) (v : SV) (h : Hn P) (σ : Zt) (x y : Hn P → Zt → Option R) : Option R := match v with
 | .is j w => (match w with
   | .bool t => (match Hn.tko c h with
     | some (true, ha, hb) => cond t (x ha (σ.fix j (.bool true))) (y hb (σ.fix j (.bool false)))
     | some (false, ha, hb) => cond t (x ha σ) (y hb σ)
     | none => cond t (x h σ) (y h σ))
   | _ => none)
 | .bool t => (match Hn.tko c h, c with
   | some (true, ha, hb), .tmp d => cond t (x ha (σ.ref d (.bool true))) (y hb (σ.ref d (.bool false)))
   | some (false, ha, hb), _ => cond t (x ha σ) (y hb σ)
   | _, _ => cond t (x h σ) (y h σ))
 | .nlt _ l ng => (match Hn.tko c h with
   | some (_, ha, hb) => bif ng then nilb l (y hb σ) (x ha σ) else nilb l (x ha σ) (y hb σ)
   | _ => none)
 | _ => none
noncomputable def yreg (ops : Array Oper) (h : Hn P) (σ : Zt) (k : Hn P → Zt → Option R) : Option R := match h with
 | .yl q r => runL n ops (ops.toList.take q) 0 r σ fun h σ => (match ops.toList.drop q with
   | o :: rest => gate n ops σ o h (fun h σ => yop J n o h σ fun h σ => runL n ops rest 0 h σ k) (fun h σ => runL n ops rest 0 h (putU o.dst σ) k)
   | [] => none)
 | h => runL n ops ops.toList 0 h σ k
noncomputable def exec (c : Code) {R : Type} (h : Hn P) (σ : Zt) (k : Exit → Hn P → Zt → Option R) : Option R := match c with
 | .skip => k .normal h σ
 | .ret => k .ret h σ
 | .exit id => k (.exit id) h σ
 | .label _ => k .normal h σ
 | .scope b => exec b h σ (onScope k)
 | .region _ ops draw => bif !ops.toList.all nodf then none else bif draw then prep h σ fun h σ => preO n ops.toList h σ fun h σ => (match h with | .mix plan fin tail act r => mixS n ops plan fin tail act r σ (k .normal) | .tr t s act a b => trS n ops t s act a b σ (k .normal) | _ => none) else prep h σ fun h σ => yreg J n ops h σ (k .normal)
 | .seq a b => (match h with
   | .sq mk s act ha hb => (match Zt.mcs mk σ with | some σ => joinN (fun h σ R k => exec a h σ k) s act (s.sl.map (·.1) ++ writes a) ha hb σ (fun h σ => exec b h σ k) | none => none)
   | .sx mk s act ha hb => (match Zt.mcs mk σ with | some σ => joinX (fun h σ R k => exec a h σ k) s act (s.sl.map (·.1) ++ writes a) ha hb σ (onNorm k (fun h σ => exec b h σ k)) | none => none)
   | .pl h => exec a h σ (onNorm k (fun h σ => exec b h σ k))
   | h => exec a h σ (onNorm k (fun h σ => exec b h σ k)))
 | .cond c a b => prep h σ fun h σ => condS c (σ.evr n c) h σ (fun h σ => exec a h σ k) (fun h σ => exec b h σ k)
 | .block id b => (match h with
   | .jn mk s act ha hb => (match Zt.mcs mk σ with | some σ => joinN (fun h σ R k => exec b h σ (onBlk id k)) s act (s.sl.map (·.1) ++ writes b) ha hb σ (k .normal) | none => none)
   | .jx mk s act ha hb => (match Zt.mcs mk σ with | some σ => joinX (fun h σ R k => exec b h σ (onBlk id k)) s act (s.sl.map (·.1) ++ writes b) ha hb σ k | none => none)
   | h => exec b h σ (onBlk id k))
 | .loop b => prep h σ fun h σ => (match h with
   | .un m r => unroll (fun h σ k => exec b h σ k) k m r σ
   | .lp s ha => lpRun (fun h σ R k => exec b h σ k) s (s.sl.map (·.1) ++ writes b) ha σ k
   | _ => none)
 | .rangeFunc g ps ao bo => prep h σ fun h σ => rgRun J n g ps ao bo h σ k
 | _ => none
end
noncomputable def execN : Nat → Rn P
 | 0 => fun _ _ _ _ _ _ => none
 | d + 1 => fun n c R h σ k => exec (execN d) n c h σ k
end
section
theorem pre_get {m m' : List M} (h : m <+: m') {i : Nat} {x : M} (k : m[i]? = some x) : m'[i]? = some x := by
 obtain ⟨r, rfl⟩ := h
 rw [List.getElem?_append_left (List.getElem?_eq_some_iff.1 k).1]; exact k
mutual
theorem SV.monoC {m m' : List M} {K K' : Hp} (hm : ∀ (i : Nat) (x : M), m[i]? = some x → m'[i]? = some x) (hK : K.cle K') : ∀ (sv : SV) {v : Value}, SV.rel m K sv v → SV.rel m' K' sv v
 | .any, v, h => trivial
 | .raw _, v, h => h
 | .int _ _, v, h => h
 | .bool _, v, h => h
 | .str _, v, h => h
 | .nilp, v, h => h
 | .nils, v, h => h
 | .row t l n, v, h => ⟨h.1.monoC hK, h.2⟩
 | .pk t x, v, h => Is.monoC hK (t := .ptr t) h
 | .kat t x o, v, ⟨b, o0, h1, h2⟩ => ⟨b, o0, h1, h2.monoC hK⟩
 | .own i, v, h => ⟨hm _ _ h.1, h.2⟩
 | .hat i o j off, v, ⟨g, n, cap, h1, h2⟩ => ⟨g, n, cap, hm _ _ h1, h2⟩
 | .prt i z lo hi, v, ⟨g, n, cap, o, h1, h2⟩ => ⟨g, n, cap, o, hm _ _ h1, h2⟩
 | .ptr i o, v, ⟨b, h1, h2⟩ => ⟨b, hm _ _ h1, h2⟩
 | .rat i c t j x o, v, ⟨g, n, cap, l, cs, h1, h2, h3, h4⟩ => ⟨g, n, cap, l, cs, hm _ _ h1, hm _ _ h2, h3, h4⟩
 | .fsl i k, v, ⟨b, h1, h2⟩ => ⟨b, hm _ _ h1, h2⟩
 | .fsa i o k cap, v, ⟨b, h1, h2⟩ => ⟨b, hm _ _ h1, h2⟩
 | .nlt t l neg, v, h => h
 | .agg vs, v, ⟨us, h1, h2⟩ => ⟨us, h1, SV.monoLC hm hK vs h2⟩
 | .tup vs, v, ⟨us, h1, h2⟩ => ⟨us, h1, SV.monoLC hm hK vs h2⟩
 | .fn f vs, v, ⟨us, h1, h2⟩ => ⟨us, h1, SV.monoLC hm hK vs h2⟩
 | .is j w, v, ⟨h1, h2⟩ => ⟨hm _ _ h1, SV.monoC hm hK w h2⟩
 | .ifc t w, v, ⟨u, h1, h2⟩ => ⟨u, h1, SV.monoC hm hK w h2⟩
 | .yld i n vs ps ao bo, v, ⟨l, r, ρ, h1, h2, h3, h4, h5, h6, h7⟩ => ⟨l, r, ρ, h1, hm _ _ h2, h3, h4, h5, h6, fun j => SV.monoC hm hK (vs j) (h7 j)⟩
theorem SV.monoLC {m m' : List M} {K K' : Hp} (hm : ∀ (i : Nat) (x : M), m[i]? = some x → m'[i]? = some x) (hK : K.cle K') : ∀ (vs : List SV) {us : List Value}, SV.relL m K vs us → SV.relL m' K' vs us
 | [], us, h => h
 | v :: vs, us, ⟨u, r, h1, h2, h3⟩ => ⟨u, r, h1, SV.monoC hm hK v h2, SV.monoLC hm hK vs h3⟩
end
theorem SV.mono {m m' : List M} {K K' : Hp} (hm : ∀ (i : Nat) (x : M), m[i]? = some x → m'[i]? = some x) (hK : K.le K') : ∀ (sv : SV) {v : Value}, SV.rel m K sv v → SV.rel m' K' sv v := fun sv {_} h => SV.monoC hm hK.cle sv h
theorem SV.monoL {m m' : List M} {K K' : Hp} (hm : ∀ (i : Nat) (x : M), m[i]? = some x → m'[i]? = some x) (hK : K.le K') : ∀ (vs : List SV) {us : List Value}, SV.relL m K vs us → SV.relL m' K' vs us := fun vs {_} h => SV.monoLC hm hK.cle vs h
section
variable {m : List M} {K : Hp}
mutual
theorem st_rel : ∀ (sv : SV) {v : Value}, SV.rel m K sv v → SV.rel m K sv.st v
 | .any, v, h => h
 | .raw _, v, h => h
 | .int _ _, v, h => h
 | .bool _, v, h => h
 | .str _, v, h => h
 | .nilp, v, h => h
 | .nils, v, h => h
 | .row _ _ _, v, h => h
 | .pk _ _, v, h => h
 | .kat _ _ _, v, h => h
 | .own _, v, h => h
 | .hat _ _ _ _, v, h => h
 | .prt _ _ _ _, v, h => h
 | .yld _ _ _ _ _ _, v, h => h
 | .ptr _ _, v, h => h
 | .rat _ _ _ _ _ _, v, h => h
 | .fsl _ _, v, h => h
 | .fsa _ _ _ _, v, h => h
 | .nlt _ _ _, v, h => h
 | .agg vs, v, ⟨us, h1, h2⟩ => ⟨us, h1, stL_rel vs h2⟩
 | .tup vs, v, ⟨us, h1, h2⟩ => ⟨us, h1, stL_rel vs h2⟩
 | .fn f vs, v, ⟨us, h1, h2⟩ => ⟨us, h1, stL_rel vs h2⟩
 | .is j w, v, h => st_rel w h.2
 | .ifc _ _, v, h => h
theorem stL_rel : ∀ (vs : List SV) {us : List Value}, SV.relL m K vs us → SV.relL m K (SV.stL vs) us
 | [], us, h => h
 | v :: vs, us, ⟨u, r, h1, h2, h3⟩ => ⟨u, r, h1, st_rel v h2, stL_rel vs h3⟩
end
mutual
theorem sub_rel {f : SV → Option SV} (hf : ∀ a b v, f a = some b → SV.rel m K a v → SV.rel m K b v) : ∀ (sv : SV) {v : Value}, SV.rel m K sv v → SV.rel m K (sv.sub f) v
 | .agg vs, v, ⟨us, h1, h2⟩ => ⟨us, h1, subL_rel hf vs h2⟩
 | .tup vs, v, ⟨us, h1, h2⟩ => ⟨us, h1, subL_rel hf vs h2⟩
 | .fn g vs, v, ⟨us, h1, h2⟩ => ⟨us, h1, subL_rel hf vs h2⟩
 | .is j w, v, h => by unfold SV.sub; split; exact hf _ _ _ (by assumption) h; exact ⟨h.1, sub_rel hf w h.2⟩
 | .any, v, h => by unfold SV.sub; split; exact hf _ _ _ (by assumption) h; exact h
 | .raw _, v, h => by unfold SV.sub; split; exact hf _ _ _ (by assumption) h; exact h
 | .int _ _, v, h => by unfold SV.sub; split; exact hf _ _ _ (by assumption) h; exact h
 | .bool _, v, h => by unfold SV.sub; split; exact hf _ _ _ (by assumption) h; exact h
 | .str _, v, h => by unfold SV.sub; split; exact hf _ _ _ (by assumption) h; exact h
 | .nilp, v, h => by unfold SV.sub; split; exact hf _ _ _ (by assumption) h; exact h
 | .nils, v, h => by unfold SV.sub; split; exact hf _ _ _ (by assumption) h; exact h
 | .row t l n, v, h => by unfold SV.sub; split; exact hf _ _ _ (by assumption) h; exact h
 | .pk t x, v, h => by unfold SV.sub; split; exact hf _ _ _ (by assumption) h; exact h
 | .kat t x o, v, h => by unfold SV.sub; split; exact hf _ _ _ (by assumption) h; exact h
 | .own i, v, h => by unfold SV.sub; split; exact hf _ _ _ (by assumption) h; exact h
 | .hat i o j off, v, h => by unfold SV.sub; split; exact hf _ _ _ (by assumption) h; exact h
 | .prt i z lo hi, v, h => by unfold SV.sub; split; exact hf _ _ _ (by assumption) h; exact h
 | .yld _ _ _ _ _ _, v, h => by unfold SV.sub; split; exact hf _ _ _ (by assumption) h; exact h
 | .ptr i o, v, h => by unfold SV.sub; split; exact hf _ _ _ (by assumption) h; exact h
 | .rat i c t j x o, v, h => by unfold SV.sub; split; exact hf _ _ _ (by assumption) h; exact h
 | .fsl i k, v, h => by unfold SV.sub; split; exact hf _ _ _ (by assumption) h; exact h
 | .fsa i o k cap, v, h => by unfold SV.sub; split; exact hf _ _ _ (by assumption) h; exact h
 | .nlt t l neg, v, h => by unfold SV.sub; split; exact hf _ _ _ (by assumption) h; exact h
 | .ifc _ _, v, h => by unfold SV.sub; split; exact hf _ _ _ (by assumption) h; exact h
theorem subL_rel {f : SV → Option SV} (hf : ∀ a b v, f a = some b → SV.rel m K a v → SV.rel m K b v) : ∀ (vs : List SV) {us : List Value}, SV.relL m K vs us → SV.relL m K (SV.subL f vs) us
 | [], us, h => h
 | v :: vs, us, ⟨u, r, h1, h2, h3⟩ => ⟨u, r, h1, sub_rel hf v h2, subL_rel hf vs h3⟩
end
theorem subL_len {f : SV → Option SV} : ∀ vs : List SV, (SV.subL f vs).length = vs.length
 | [] => rfl
 | v :: vs => by simp [SV.subL, subL_len vs]
theorem relL_len : ∀ {vs : List SV} {us : List Value}, SV.relL m K vs us → us.length = vs.length
 | [], us, h => by simp only [SV.relL] at h; subst h; rfl
 | v :: vs, us, h => by simp only [SV.relL] at h; obtain ⟨u, r, rfl, _, h⟩ := h; simp [relL_len h]
theorem relL_get : ∀ {vs : List SV} {us : List Value}, SV.relL m K vs us → ∀ {i : Nat} {v : SV}, vs[i]? = some v → ∃ u, us[i]? = some u ∧ SV.rel m K v u
 | [], us, h, i, v, hv => by simp at hv
 | w :: vs, us, h, 0, v, hv => by
   simp only [SV.relL] at h; obtain ⟨u, r, rfl, h1, h⟩ := h
   simp at hv; subst hv; exact ⟨u, rfl, h1⟩
 | w :: vs, us, h, i + 1, v, hv => by
   simp only [SV.relL] at h; obtain ⟨u, r, rfl, h1, h⟩ := h
   simpa using relL_get h (i := i) (v := v) (by simpa using hv)
theorem relL_app : ∀ {vs ws : List SV} {us xs : List Value}, SV.relL m K vs us → SV.relL m K ws xs → SV.relL m K (vs ++ ws) (us ++ xs)
 | [], ws, us, xs, h, k => by simp only [SV.relL] at h; subst h; exact k
 | v :: vs, ws, us, xs, h, k => by
   simp only [SV.relL] at h; obtain ⟨u, r, rfl, h1, h⟩ := h
   exact ⟨u, r ++ xs, rfl, h1, relL_app h k⟩
theorem relL_take : ∀ {vs : List SV} {us : List Value} (n : Nat), SV.relL m K vs us → SV.relL m K (vs.take n) (us.take n)
 | [], us, n, h => by simp only [SV.relL] at h; subst h; simp [SV.relL]
 | v :: vs, us, 0, h => by simp [SV.relL]
 | v :: vs, us, n + 1, h => by
   simp only [SV.relL] at h; obtain ⟨u, r, rfl, h1, h⟩ := h
   exact ⟨u, r.take n, rfl, h1, relL_take n h⟩
theorem relL_drop : ∀ {vs : List SV} {us : List Value} (n : Nat), SV.relL m K vs us → SV.relL m K (vs.drop n) (us.drop n)
 | [], us, n, h => by simp only [SV.relL] at h; subst h; simp [SV.relL]
 | v :: vs, us, 0, h => h
 | v :: vs, us, n + 1, h => by
   simp only [SV.relL] at h; obtain ⟨u, r, rfl, h1, h⟩ := h
   exact relL_drop n h
theorem relL_split {vs ws : List SV} {us : List Value} (h : SV.relL m K (vs ++ ws) us) : ∃ a b, us = a ++ b ∧ SV.relL m K vs a ∧ SV.relL m K ws b := by
 refine ⟨us.take vs.length, us.drop vs.length, (List.take_append_drop _ _).symm, ?_, ?_⟩
 · have := relL_take vs.length h; rwa [List.take_left] at this
 · have := relL_drop vs.length h; rwa [List.drop_left] at this
theorem relL_cons {v : SV} {vs : List SV} {us : List Value} (h : SV.relL m K (v :: vs) us) : ∃ u r, us = u :: r ∧ SV.rel m K v u ∧ SV.relL m K vs r := h
theorem relL_nil {us : List Value} (h : SV.relL m K [] us) : us = [] := h
theorem relL_splice {vs ws : List SV} {us xs : List Value} (o : Nat) (h : SV.relL m K vs us) (k : SV.relL m K ws xs) : SV.relL m K (splice vs o ws) (us.take o ++ xs ++ us.drop (o + xs.length)) := by
 unfold splice
 rw [relL_len k]
 exact relL_app (relL_app (relL_take o h) k) (relL_drop _ h)
theorem lv_rel : ∀ (t : Tp) {cs : List Value} {x : t.den}, Is K t cs x → SV.relL m K (SV.lv t x) cs
 | .int k, cs, x, h => by simp only [Is] at h; subst h; exact ⟨_, _, rfl, rfl, rfl⟩
 | .bool, cs, x, h => by simp only [Is] at h; subst h; exact ⟨_, _, rfl, rfl, rfl⟩
 | .str, cs, x, h => by simp only [Is] at h; subst h; exact ⟨_, _, rfl, rfl, rfl⟩
 | .sl e, cs, x, h => by
   have h' := h
   simp only [Is] at h; obtain ⟨ad, cap, rfl, _⟩ := h
   exact ⟨_, _, rfl, ⟨h', rfl⟩, rfl⟩
 | .ptr e, cs, x, h => by
   have hl := h.len
   match cs, hl with
   | [v], _ => exact ⟨_, _, rfl, h, rfl⟩
 | .emp, cs, x, h => by simp only [Is] at h; subst h; exact rfl
 | .one a, cs, x, h => lv_rel a (by simpa only [Is] using h)
 | .cons a r, cs, x, h => by
   simp only [Is] at h
   obtain ⟨c1, c2, rfl, h1, h2, h3⟩ := h
   exact relL_app (lv_rel a h2) (lv_rel r h3)
theorem lv_len : ∀ (t : Tp) (x : t.den), (SV.lv t x).length = t.size
 | .int k, x => rfl
 | .bool, x => rfl
 | .str, x => rfl
 | .sl e, x => rfl
 | .ptr e, x => rfl
 | .emp, x => rfl
 | .one a, x => lv_len a x
 | .cons a r, x => by simp [SV.lv, Tp.size, lv_len a, lv_len r]
theorem of_rel : ∀ (t : Tp) {v : Value} {x : t.den}, IsV K t v x → SV.rel m K (SV.of t x) v
 | .int k, v, x, h => by obtain rfl := IsV.int_eq h; rfl
 | .bool, v, x, h => by obtain rfl := IsV.bool_eq h; rfl
 | .str, v, x, h => by obtain rfl := IsV.str_eq h; rfl
 | .sl e, v, x, h => ⟨h, rfl⟩
 | .ptr e, v, x, h => h
 | .emp, v, x, ⟨cs, h1, h2⟩ => ⟨cs, h1, by simp only [Is] at h2; exact h2⟩
 | .one a, v, x, ⟨cs, h1, h2⟩ => ⟨cs, h1, lv_rel a (by simpa only [Is] using h2)⟩
 | .cons a r, v, x, ⟨cs, h1, h2⟩ => ⟨cs, h1, lv_rel (.cons a r) h2⟩
theorem cstL_is {t e : Tp} (h : PLift (t = e)) {l : List t.den} {u : Value} (k : Is K (.sl t) [u] l) : Is K (.sl e) [u] (cstL h l) := by obtain ⟨rfl⟩ := h; exact k
theorem cstO_is {t e : Tp} (h : PLift (t = e)) {l : Option t.den} {u : Value} (k : Is K (.ptr t) [u] l) : Is K (.ptr e) [u] (cstO h l) := by obtain ⟨rfl⟩ := h; exact k
theorem cst_at {t e : Tp} (h : PLift (t = e)) {x : t.den} {b o : Nat} (k : At K t b o x) : At K e b o (cst h x) := by obtain ⟨rfl⟩ := h; exact k
theorem dt_is : ∀ (t : Tp) {vs : List SV} {us : List Value} {x : t.den} {r : List SV}, dt t vs = some (x, r) → SV.relL m K vs us → ∃ c1 c2, us = c1 ++ c2 ∧ Is K t c1 x ∧ SV.relL m K r c2
 | .int k, vs, us, x, r, h, hr => by
   change dInt k vs = some (x, r) at h
   unfold dInt at h
   split at h
   · split at h
     · rename_i hk; cases h; subst hk
       obtain ⟨u, q, rfl, h1, h2⟩ := relL_cons hr
       exact ⟨[u], q, rfl, by simp only [SV.rel] at h1; subst h1; rfl, h2⟩
     · cases h
   · cases h
 | .bool, vs, us, x, r, h, hr => by
   change dBool vs = some (x, r) at h
   unfold dBool at h
   split at h
   · cases h
     obtain ⟨u, q, rfl, h1, h2⟩ := relL_cons hr
     exact ⟨[u], q, rfl, by simp only [SV.rel] at h1; subst h1; rfl, h2⟩
   · cases h
 | .str, vs, us, x, r, h, hr => by
   change dStr vs = some (x, r) at h
   unfold dStr at h
   split at h
   · cases h
     obtain ⟨u, q, rfl, h1, h2⟩ := relL_cons hr
     exact ⟨[u], q, rfl, by simp only [SV.rel] at h1; subst h1; rfl, h2⟩
   · cases h
 | .sl e, vs, us, x, r, h, hr => by
   change dSl e vs = some (x, r) at h
   unfold dSl at h
   split at h
   · split at h
     · cases h
       obtain ⟨u, q, rfl, h1, h2⟩ := relL_cons hr
       exact ⟨[u], q, rfl, cstL_is _ h1.1, h2⟩
     · cases h
   · cases h
     obtain ⟨u, q, rfl, h1, h2⟩ := relL_cons hr
     exact ⟨[u], q, rfl, by simp only [SV.rel] at h1; subst h1; exact isNil, h2⟩
   · cases h
 | .ptr e, vs, us, x, r, h, hr => by
   change dPtr e vs = some (x, r) at h
   unfold dPtr at h
   split at h
   · split at h
     · cases h
       obtain ⟨u, q, rfl, h1, h2⟩ := relL_cons hr
       exact ⟨[u], q, rfl, cstO_is _ h1, h2⟩
     · cases h
   · cases h
     obtain ⟨u, q, rfl, h1, h2⟩ := relL_cons hr
     exact ⟨[u], q, rfl, by simp only [SV.rel] at h1; subst h1; exact Is.ptr_nil, h2⟩
   · split at h
     · cases h
       obtain ⟨u, q, rfl, ⟨b, o0, rfl, h1⟩, h2⟩ := relL_cons hr
       exact ⟨_, q, rfl, (cst_at _ h1).is_ptr, h2⟩
     · cases h
   · cases h
 | .emp, vs, us, x, r, h, hr => by
   cases h; exact ⟨[], us, rfl, rfl, hr⟩
 | .one a, vs, us, x, r, h, hr => by
   obtain ⟨c1, c2, h1, h2, h3⟩ := dt_is a (show dt a vs = some (x, r) from h) hr
   exact ⟨c1, c2, h1, by simpa only [Is] using h2, h3⟩
 | .cons a b, vs, us, x, r, h, hr => by
   unfold dt at h
   split at h
   · rename_i y q hq
     split at h
     · rename_i z q2 hq2
       cases h
       obtain ⟨c1, c2, rfl, h2, h3⟩ := dt_is a hq hr
       obtain ⟨c3, c4, rfl, h5, h6⟩ := dt_is b hq2 h3
       exact ⟨c1 ++ c3, c4, by simp, ⟨c1, c3, rfl, h2.len, h2, h5⟩, h6⟩
     · cases h
   · cases h
theorem con1_rel : ∀ (v : Value), SV.rel m K (SV.con1 v) v := fun v => by
 unfold SV.con1
 split <;> simp [SV.rel]
theorem con1L_rel : ∀ (vs : List Value), SV.relL m K (vs.map SV.con1) vs
 | [] => rfl
 | v :: vs => ⟨v, vs, rfl, con1_rel v, con1L_rel vs⟩
theorem con_rel (v : Value) : SV.rel m K (SV.con v) v := by
 unfold SV.con
 split
 · exact ⟨_, by simp, con1L_rel _⟩
 · exact ⟨_, by simp, con1L_rel _⟩
 · rename_i f fs cs
   cases h : fs.isEmpty with
   | true =>
     obtain rfl : fs = #[] := by simpa using h
     exact ⟨_, by simp, con1L_rel _⟩
   | false => rfl
 · exact con1_rel _
theorem leaf_one0 {sv : SV} {v : Value} (hn : ∀ j w, sv ≠ .is j w) (h : sv.leaf = true) (hr : SV.rel m K sv v) : v.oneCell' = true := by
 cases sv <;> first | (exact absurd rfl (hn _ _); done) | (simp only [SV.leaf, Bool.false_eq_true] at h; done) | (simp only [SV.leaf] at h; simp only [SV.rel] at hr)
 · subst hr; exact h
 · subst hr; rfl
 · subst hr; rfl
 · subst hr; rfl
 · subst hr; rfl
 · subst hr; rfl
 · obtain ⟨ad, cap, rfl⟩ := hr.1.slv; rfl
 · rename_i t x
   cases x with
   | none => obtain rfl := Is.ptr0 hr; rfl
   | some y => obtain ⟨b, o, rfl, _⟩ := Is.ptr hr; rfl
 · obtain ⟨b, o0, rfl, _⟩ := hr; rfl
 · exact hr.2
 · obtain ⟨b, _, rfl⟩ := hr; rfl
 · obtain ⟨g, n, cap, l, cs, _, _, _, rfl⟩ := hr; rfl
 · obtain ⟨b, _, rfl⟩ := hr; rfl
 · obtain ⟨b, _, rfl⟩ := hr; rfl
 · obtain ⟨q, rfl, _⟩ := hr; rfl
 · obtain ⟨us, rfl, _⟩ := hr; rfl
 · obtain ⟨g, n, cap, _, _, _, rfl⟩ := hr; rfl
 · obtain ⟨g, n, cap, o, _, _, _, _, _, rfl⟩ := hr; rfl
 · obtain ⟨l, r, ρ, rfl, _⟩ := hr; rfl
 · obtain ⟨w, rfl, _⟩ := hr; rfl
theorem leaf_one : ∀ (sv : SV) {v : Value}, sv.leaf = true → SV.rel m K sv v → v.oneCell' = true
 | .is j w, v, h, hr => leaf_one w h hr.2
 | .any, v, h, hr => by cases h
 | .raw x, v, h, hr => leaf_one0 (by intro _ _ e; cases e) h hr
 | .int _ _, v, h, hr => leaf_one0 (by intro _ _ e; cases e) h hr
 | .bool _, v, h, hr => leaf_one0 (by intro _ _ e; cases e) h hr
 | .str _, v, h, hr => leaf_one0 (by intro _ _ e; cases e) h hr
 | .nilp, v, h, hr => leaf_one0 (by intro _ _ e; cases e) h hr
 | .nils, v, h, hr => leaf_one0 (by intro _ _ e; cases e) h hr
 | .row _ _ _, v, h, hr => leaf_one0 (by intro _ _ e; cases e) h hr
 | .pk _ _, v, h, hr => leaf_one0 (by intro _ _ e; cases e) h hr
 | .kat _ _ _, v, h, hr => leaf_one0 (by intro _ _ e; cases e) h hr
 | .own _, v, h, hr => leaf_one0 (by intro _ _ e; cases e) h hr
 | .hat _ _ _ _, v, h, hr => leaf_one0 (by intro _ _ e; cases e) h hr
 | .prt _ _ _ _, v, h, hr => leaf_one0 (by intro _ _ e; cases e) h hr
 | .ptr _ _, v, h, hr => leaf_one0 (by intro _ _ e; cases e) h hr
 | .rat _ _ _ _ _ _, v, h, hr => leaf_one0 (by intro _ _ e; cases e) h hr
 | .fsl _ _, v, h, hr => leaf_one0 (by intro _ _ e; cases e) h hr
 | .fsa _ _ _ _, v, h, hr => leaf_one0 (by intro _ _ e; cases e) h hr
 | .nlt _ _ _, v, h, hr => leaf_one0 (by intro _ _ e; cases e) h hr
 | .ifc _ _, v, h, hr => leaf_one0 (by intro _ _ e; cases e) h hr
 | .agg _, v, h, hr => by cases h
 | .tup _, v, h, hr => by cases h
 | .yld _ _ _ _ _ _, v, h, hr => leaf_one0 (by intro _ _ e; cases e) h hr
 | .fn _ _, v, h, hr => leaf_one0 (by intro _ _ e; cases e) h hr
theorem one_cells {v : Value} (h : v.oneCell' = true) : v.cells.toList = [v] := by cases v <;> first | rfl | cases h
theorem bift' {α : Type} {c : Bool} {x : Option α} {r : α} (h : (bif c then x else none) = some r) : c = true ∧ x = some r := by
 cases c with
 | true => exact ⟨rfl, h⟩
 | false => cases h
theorem cells_rel {sv : SV} {vs : List SV} {v : Value} (h : sv.cells = some vs) (hr : SV.rel m K sv v) : SV.relL m K vs v.cells.toList := by
 unfold SV.cells at h
 split at h
 · cases h
 · cases h
 · cases h
   obtain ⟨us, rfl, h⟩ := hr
   simpa [Value.cells] using h
 · rename_i w
   simp only [SV.rel] at hr; subst hr
   cases ho : v.oneCell' with
   | false => rw [ho] at h; cases h
   | true =>
     rw [ho] at h; cases h
     refine ⟨v, [], ?_, rfl, rfl⟩
     cases v <;> first | rfl | cases ho
 · rename_i j w
   replace h := bift' h; obtain ⟨hl, h⟩ := h
   cases h
   exact ⟨v, [], one_cells (leaf_one _ hl hr.2), hr, rfl⟩
 · rename_i h1 h2 h3 h4 h5
   cases h
   refine ⟨v, [], ?_, hr, rfl⟩
   cases sv <;> simp only [SV.rel] at hr <;> first
     | (exact absurd rfl h1; done)
     | (exact absurd rfl (h2 _); done)
     | (exact absurd rfl (h3 _); done)
     | (exact absurd rfl (h4 _); done)
     | (exact absurd rfl (h5 _); done)
     | (exact absurd rfl (h5 _ _); done)
     | (subst hr; rfl)
     | skip
   · obtain ⟨ad, cap, rfl⟩ := hr.1.slv; rfl
   · rename_i t x
     cases x with
     | none => obtain rfl := Is.ptr0 hr; rfl
     | some y => obtain ⟨b, o, rfl, _⟩ := Is.ptr hr; rfl
   · obtain ⟨b, o0, rfl, _⟩ := hr; rfl
   · exact one_cells hr.2
   · obtain ⟨b, _, rfl⟩ := hr; rfl
   · obtain ⟨g, n, cap, l, cs, _, _, _, rfl⟩ := hr; rfl
   · obtain ⟨b, _, rfl⟩ := hr; rfl
   · obtain ⟨b, _, rfl⟩ := hr; rfl
   · obtain ⟨q, rfl, _⟩ := hr; rfl
   · obtain ⟨us, rfl, _⟩ := hr; rfl
   · obtain ⟨g, n, cap, _, _, _, rfl⟩ := hr; rfl
   · obtain ⟨g, n, cap, o, _, _, _, _, _, rfl⟩ := hr; rfl
   · obtain ⟨l, r, ρ, rfl, _⟩ := hr; rfl
   · obtain ⟨w, rfl, _⟩ := hr; rfl
end
end
section
theorem Sep.perm {E : En} {w : World} {L1 L2 : List Atom} (h : L1.Perm L2) : ∀ {K : Hp}, Sep E K L1 w → Sep E K L2 w := by
 induction h with
 | nil => exact fun h => h
 | cons a _ ih => exact fun ⟨x, h1, h2, h3⟩ => ⟨x, h1, h2, ih h3⟩
 | swap a b l => exact fun h => h.swap
 | trans _ _ ih1 ih2 => exact fun h => ih2 (ih1 h)
theorem perm3 {α : Type _} (A B C : List α) : (A ++ (B ++ C)).Perm (B ++ (A ++ C)) := by
 rw [← List.append_assoc, ← List.append_assoc]
 exact (List.perm_append_comm).append_right C
theorem Sep.drops {E : En} {w : World} {L2 : List Atom} : ∀ {L1 : List Atom} {K : Hp}, Sep E K (L1 ++ L2) w → Sep E K L2 w
 | [], K, h => h
 | A :: L1, K, h => Sep.drops (L1 := L1) h.drop
theorem pick_spec {α β : Type} {f : α → Option β} : ∀ {l : List α} {b : β} {r : List α}, pick f l = some (b, r) → ∃ a, f a = some b ∧ a ∈ l ∧ l.Perm (a :: r)
 | [], b, r, h => by cases h
 | x :: l, b, r, h => by
   unfold pick at h
   split at h
   · rename_i y hy; cases h; exact ⟨x, hy, by simp, List.Perm.refl _⟩
   · split at h
     · rename_i y q hq; cases h
       obtain ⟨a, h1, h2, h3⟩ := pick_spec hq
       exact ⟨a, h1, by simp [h2], (h3.cons x).trans (List.Perm.swap _ _ _)⟩
     · cases h
theorem findR_spec {α β : Type} {f : α → Option β} : ∀ {l : List α} {b : β}, findR f l = some b → ∃ a, f a = some b ∧ a ∈ l
 | [], b, h => by cases h
 | x :: l, b, h => by
   unfold findR at h
   split at h
   · rename_i y hy; cases h; exact ⟨x, hy, by simp⟩
   · obtain ⟨a, h1, h2⟩ := findR_spec h; exact ⟨a, h1, by simp [h2]⟩
theorem blkR_eq {i : Nat} {a : HA} {q : BlkR} (h : a.blkR i = some q) : a = .blk i q.c q.e q.cs := by
 cases a <;> simp only [HA.blkR] at h <;> try (cases h; done)
 rename_i j c e cs
 cases hb : Nat.beq j i with
 | false => rw [hb] at h; cases h
 | true => rw [hb] at h; cases h; rw [Nat.eq_of_beq_eq_true hb]
theorem rowR_eq {i : Nat} {a : HA} {q : RowR} (h : a.rowR i = some q) : a = .row i q.c q.e q.t q.l q.n := by
 cases a <;> simp only [HA.rowR] at h <;> try (cases h; done)
 rename_i j c e t l n
 cases hb : Nat.beq j i with
 | false => rw [hb] at h; cases h
 | true => rw [hb] at h; cases h; rw [Nat.eq_of_beq_eq_true hb]
theorem bldR_eq {i : Nat} {a : HA} {l : List UInt8} (h : a.bldR i = some l) : a = .bld i l := by
 cases a <;> simp only [HA.bldR] at h <;> try (cases h; done)
 rename_i j l'
 cases hb : Nat.beq j i with
 | false => rw [hb] at h; cases h
 | true => rw [hb] at h; cases h; rw [Nat.eq_of_beq_eq_true hb]
theorem rowsR_eq {i : Nat} {a : HA} {q : RowsR} (h : a.rowsR i = some q) : a = .od i q.c (.row q.e q.o) q.l := by
 cases a <;> simp only [HA.rowsR] at h <;> try (cases h; done)
 rename_i j c o x
 cases hb : Nat.beq j i with
 | false => rw [hb] at h; cases h
 | true =>
   rw [hb] at h
   have := Nat.eq_of_beq_eq_true hb
   subst this
   cases o <;> simp only [cond_true, OT.rowOf] at h <;> cases h
   rfl
theorem boxR_eq {i : Nat} {a : HA} {q : BoxR} (h : a.boxR i = some q) : a = .od i q.c (.box q.e q.o) q.x := by
 cases a <;> simp only [HA.boxR] at h <;> try (cases h; done)
 rename_i j c o x
 cases hb : Nat.beq j i with
 | false => rw [hb] at h; cases h
 | true =>
   rw [hb] at h
   have := Nat.eq_of_beq_eq_true hb
   subst this
   cases o <;> simp only [cond_true, OT.boxOf] at h <;> cases h
   rfl
theorem holR_eq {i : Nat} {a : HA} {q : HolR} (h : a.holR i = some q) : a = .hole i q.c q.e q.o q.l q.j q.cs := by
 cases a <;> simp only [HA.holR] at h <;> try (cases h; done)
 rename_i j c e o l k cs
 cases hb : Nat.beq j i with
 | false => rw [hb] at h; cases h
 | true => rw [hb] at h; cases h; rw [Nat.eq_of_beq_eq_true hb]
theorem lpR_eq {i : Nat} {a : HA} {s : LSt} (h : a.lpR i = some s) : a = .lp i s := by
 cases a <;> simp only [HA.lpR] at h <;> try (cases h; done)
 rename_i j s'
 cases hb : Nat.beq j i with
 | false => rw [hb] at h; cases h
 | true => rw [hb] at h; cases h; rw [Nat.eq_of_beq_eq_true hb]
theorem odR_eq {i : Nat} {a : HA} {q : OdR} (h : a.odR i = some q) : a = .od i q.c q.o q.x := by
 cases a <;> simp only [HA.odR] at h <;> try (cases h; done)
 rename_i j c o x
 cases hb : Nat.beq j i with
 | false => rw [hb] at h; cases h
 | true => rw [hb] at h; cases h; rw [Nat.eq_of_beq_eq_true hb]
theorem odX_eq {i : Nat} {o : OT} {a : HA} {x : o.tp.den} (h : a.odX i o = some x) : ∃ c, a = .od i c o x := by
 cases a <;> simp only [HA.odX] at h <;> try (cases h; done)
 rename_i j c o' x'
 cases hb : Nat.beq j i with
 | false => rw [hb] at h; cases h
 | true =>
   rw [hb] at h
   have := Nat.eq_of_beq_eq_true hb
   subst this
   simp only [cond_true] at h
   split at h
   · rename_i hs _
     obtain ⟨hs⟩ := hs
     subst hs
     cases h
     exact ⟨c, rfl⟩
   · cases h
theorem rowX_eq {i : Nat} {e : TypeId} {t : Tp} {a : HA} {x : List t.den} (h : a.rowX i e t = some x) : ∃ c n, a = .row i c e t x n := by
 cases a <;> simp only [HA.rowX] at h <;> try (cases h; done)
 rename_i j c e' t' l n
 replace h := bift' h; obtain ⟨hb, h⟩ := h
 rw [Bool.and_eq_true] at hb
 have h1 := Nat.eq_of_beq_eq_true hb.1
 have h2 := Nat.eq_of_beq_eq_true hb.2
 subst h1 h2
 split at h
 · rename_i hs _
   obtain ⟨hs⟩ := hs
   subst hs
   cases h
   exact ⟨c, n, rfl⟩
 · cases h
theorem HA.ok_monoC {m m' : List M} {K K' : Hp} (hm : ∀ (i : Nat) (x : M), m[i]? = some x → m'[i]? = some x) (hK : K.cle K') : ∀ {a : HA}, a.ok m K → a.ok m' K'
 | .blk i c e cs, ⟨b, vs, h1, h2, h3⟩ => ⟨b, vs, hm _ _ h1, hm _ _ h2, SV.monoLC hm hK _ h3⟩
 | .row i c e t l n, ⟨ad, cap, cs, h1, h2, h3, h4⟩ => ⟨ad, cap, cs, hm _ _ h1, hm _ _ h2, h3.monoC hK, h4⟩
 | .bld i l, ⟨b, h1⟩ => ⟨b, hm _ _ h1⟩
 | .od i c o x, ⟨v, K0, h1, h2, h3, h4⟩ => ⟨v, K0, hm _ _ h1, hm _ _ h2, h3.monoC hK, h4⟩
 | .hole i c e o l j cs, h => by
   obtain ⟨ad, cap, K0, es, h1, h2, h3, h4, h5⟩ := h
   exact ⟨ad, cap, K0, es, hm _ _ h1, hm _ _ h2, h3.monoC hK, SV.monoLC hm hK _ h4, h5⟩
 | .lp i s, ⟨l, r, h⟩ => ⟨l, r, hm _ _ h⟩
theorem HA.ok_mono {m m' : List M} {K K' : Hp} (hm : ∀ (i : Nat) (x : M), m[i]? = some x → m'[i]? = some x) (hK : K.le K') {a : HA} (h : a.ok m K) : a.ok m' K' := HA.ok_monoC hm hK.cle h
theorem HA.conc_mono [BldA] {m m' : List M} {K : Hp} (hm : ∀ (i : Nat) (x : M), m[i]? = some x → m'[i]? = some x) : ∀ {a : HA}, a.ok m K → a.conc m' = a.conc m
 | .blk i c e cs, ⟨b, vs, h1, h2, h3⟩ => by simp only [HA.conc, h1, h2, hm _ _ h1, hm _ _ h2]
 | .row i c e t l n, ⟨ad, cap, cs, h1, h2, h3, h4⟩ => by simp only [HA.conc, h1, h2, hm _ _ h1, hm _ _ h2]
 | .bld i l, ⟨b, h1⟩ => by simp only [HA.conc, h1, hm _ _ h1]
 | .od i c o x, ⟨v, K0, h1, h2, h3, h4⟩ => by simp only [HA.conc, h1, h2, hm _ _ h1, hm _ _ h2]
 | .hole i c e o l j cs, h => by
   obtain ⟨ad, cap, K0, es, h1, h2, h3⟩ := h
   simp only [HA.conc, h1, h2, hm _ _ h1, hm _ _ h2]
 | .lp i s, ⟨l, r, h⟩ => by simp only [HA.conc, h, hm _ _ h]
theorem map_conc_mono [BldA] {m m' : List M} {K : Hp} (hm : ∀ (i : Nat) (x : M), m[i]? = some x → m'[i]? = some x) : ∀ {H : List HA}, (∀ a ∈ H, HA.ok m K a) → H.map (HA.conc m') = H.map (HA.conc m)
 | [], _ => rfl
 | a :: H, h => by rw [List.map_cons, List.map_cons, HA.conc_mono hm (h a (by simp)), map_conc_mono hm (fun b hb => h b (by simp [hb]))]
structure Sl1 where
 f : Sl0
 ds : List Deferred
instance : CoeFun Sl1 (fun _ => Nat → Value) := ⟨Sl1.f⟩
instance : Coe Sl1 Sl0 := ⟨Sl1.f⟩
theorem Sl1.ext' {a b : Sl1} (h : ∀ i, a i = b i) (hd : a.ds = b.ds) : a = b := by
 cases a; cases b
 obtain rfl := hd
 simp only [Sl1.mk.injEq, and_true]
 exact funext h
def upd1 (ρ : Sl1) (d : Nat) (v : Value) : Sl1 := ⟨upd ρ.f d v, ρ.ds⟩
theorem upd1_self {ρ : Sl1} {d : Nat} {v : Value} (h : ρ d = v) : upd1 ρ d v = ρ := by
 unfold upd1
 rw [upd_self h]
def act1 (n : Nat) (ρ : Sl1) : Act := ⟨frm n ρ.f, ρ.ds⟩
theorem eval_act1 (n : Nat) (ρ : Sl1) : (act1 n ρ).eval = Go.Proofs.YtmlbbjkojaljnaaDoor.ev n ρ.f := by
 have : (act1 n ρ).eval = (act n ρ.f).eval := by
   funext x
   cases x <;> rfl
 rw [this, Go.Proofs.YtmlbbjkojaljnaaDoor.eval_act]
theorem put_act1 (n : Nat) (ρ : Sl1) (d : Nat) (v : Value) : (act1 n ρ).put (some d) v = act1 n (upd1 ρ d v) := by
 have h := Go.Proofs.YtmlbbjkojaljnaaDoor.put_act n ρ.f d v
 unfold act Act.put at h
 unfold act1 Act.put upd1
 simp only [Act.mk.injEq, and_true] at h ⊢
 exact h
def args1 (args : Array Value) : Sl1 := ⟨args0 args, []⟩
variable [BldA]
def MOk (k0 K : Hp) (ds : List Deferred) : Prop := (BldA.gk k0 ∧ k0.le K) ∧ (∀ d ∈ ds, ∃ D, d = { target := .collected D, args := #[] } ∧ K D = some (.deferred (some [])) ∧ k0 D = none) ∧ ds.Nodup
theorem MOk.mono {k0 K K' : Hp} {ds : List Deferred} (h : MOk k0 K ds) (k : K.le K') : MOk k0 K' ds := ⟨⟨h.1.1, h.1.2.trans k⟩, fun d hd => let ⟨D, h1, h2, h3⟩ := h.2.1 d hd; ⟨D, h1, k _ _ h2, h3⟩, h.2.2⟩
theorem MOk.gk {k0 K : Hp} {ds : List Deferred} (h : MOk k0 K ds) : BldA.gk K := BldA.gkm h.1.2.cle h.1.1
theorem MOk.nil {k0 K : Hp} (hg : BldA.gk k0) (hk : k0.le K) : MOk k0 K [] := ⟨⟨hg, hk⟩, fun d h => (by cases h), List.nodup_nil⟩
structure Frz where
 m : List M
 K : Hp
 ρ : Sl1
 dead : Nat → Bool
 F : List Atom
 k0 : Hp
structure Pur (fr : Frz) (σ : Zt) (m : List M) (K : Hp) (ρ : Sl1) : Prop where
 hm : fr.m <+: m
 hK : fr.K.le K
 nx : m.length = σ.nx
 kq : σ.kq = true → K = fr.K
 base : ∀ i, SV.rel fr.m fr.K (σ.base i) (fr.ρ i)
 dead : ∀ i, fr.dead i = true → σ.base i = .any
 old : ∀ i, look σ.top i = none → fr.dead i = true ∨ ρ i = fr.ρ i
 top : ∀ i sv, look σ.top i = some sv → SV.rel m K sv (ρ i)
 okH : ∀ a ∈ σ.H, HA.ok m K a
 okF : ∀ a ∈ σ.Hf, HA.ok fr.m fr.K a
 mks : MOk fr.k0 K ρ.ds
def Zt.fz (σ : Zt) (fr : Frz) : List Atom := σ.Hf.map (HA.conc fr.m) ++ fr.F
def Zt.atoms (σ : Zt) (fr : Frz) (m : List M) : List Atom := σ.H.map (HA.conc m) ++ σ.fz fr
structure Rel (E : En) (fr : Frz) (σ : Zt) (m : List M) (K : Hp) (ρ : Sl1) (w : World) : Prop extends Pur fr σ m K ρ where
 sep : Sep E K (σ.atoms fr m) w
section
variable {E : En} {fr : Frz} {σ : Zt} {m : List M} {K : Hp} {ρ : Sl1} {w : World}
theorem Pur.mono (h : Pur fr σ m K ρ) : ∀ (i : Nat) (x : M), fr.m[i]? = some x → m[i]? = some x := fun i x k => pre_get h.hm k
theorem Pur.get (h : Pur fr σ m K ρ) (i : Nat) : SV.rel m K (σ.get i) (ρ i) := by
 unfold Zt.get
 cases hl : look σ.top i with
 | some sv => exact h.top i sv hl
 | none =>
   rcases h.old i hl with hd | he
   · show SV.rel m K (σ.base i) (ρ i)
     rw [h.dead i hd]; trivial
   · show SV.rel m K (σ.base i) (ρ i)
     rw [he]; exact (h.base i |> fun q => SV.mono h.mono h.hK _ q)
theorem Pur.all (h : Pur fr σ m K ρ) : ∀ a ∈ σ.H ++ σ.Hf, HA.ok m K a := fun a ha => by
 rcases List.mem_append.1 ha with ha | ha
 · exact h.okH a ha
 · exact HA.ok_mono h.mono h.hK (h.okF a ha)
theorem Pur.evr (h : Pur fr σ m K ρ) (n : Nat) (x : Operand) : SV.rel m K (σ.evr n x) (Go.Proofs.YtmlbbjkojaljnaaDoor.ev n ρ x) := by
 cases x with
 | tmp t =>
   show SV.rel m K (bif Nat.blt t n then σ.get t else .any) (bif Nat.blt t n then ρ t else undef)
   cases hb : Nat.blt t n with
   | true => exact h.get t
   | false => exact trivial
 | const v => exact con_rel v
 | func f => exact ⟨[], rfl, rfl⟩
 | global g => trivial
theorem Pur.ev (h : Pur fr σ m K ρ) (n : Nat) (x : Operand) : SV.rel m K (σ.ev n x) (Go.Proofs.YtmlbbjkojaljnaaDoor.ev n ρ x) := st_rel _ (h.evr n x)
theorem look_cons {i j : Nat} {v : SV} {l : List (Nat × SV)} : look ((j, v) :: l) i = if j = i then some v else look l i := by
 show (bif Nat.beq j i then some v else look l i) = _
 by_cases hj : j = i
 · subst hj; simp
 · have : Nat.beq j i = false := by rw [Bool.eq_false_iff]; intro h; exact hj (Nat.eq_of_beq_eq_true h)
   simp [this, hj]
theorem Pur.set (h : Pur fr σ m K ρ) {d : Nat} {sv : SV} {v : Value} (hv : SV.rel m K sv v) : Pur fr (σ.set d sv) m K (upd1 ρ d v) where
 hm := h.hm
 hK := h.hK
 nx := h.nx
 kq := h.kq
 base := h.base
 dead := h.dead
 old := fun i hi => by
   rw [show (σ.set d sv).top = (d, sv) :: σ.top from rfl, look_cons] at hi
   split at hi
   · cases hi
   · rename_i hne
     have : Nat.beq i d = false := by rw [Bool.eq_false_iff]; intro h; exact hne (Nat.eq_of_beq_eq_true h).symm
     simpa [upd1, upd, this] using h.old i hi
 top := fun i s hi => by
   rw [show (σ.set d sv).top = (d, sv) :: σ.top from rfl, look_cons] at hi
   split at hi
   · rename_i he; subst he; cases hi
     simpa [upd1, upd, Nat.beq_refl] using hv
   · rename_i hne
     have : Nat.beq i d = false := by rw [Bool.eq_false_iff]; intro h; exact hne (Nat.eq_of_beq_eq_true h).symm
     simpa [upd1, upd, this] using h.top i s hi
 okH := h.okH
 okF := h.okF
 mks := h.mks
theorem Pur.fine (h : Pur fr σ m K ρ) {d : Nat} {sv : SV} (hv : SV.rel m K sv (ρ d)) : Pur fr (σ.set d sv) m K ρ := by
 have := h.set (d := d) hv
 rwa [upd1_self rfl] at this
theorem Pur.ref (h : Pur fr σ m K ρ) {d : Nat} {sv : SV} (hv : ∀ m K u, SV.rel m K (σ.get d) u → SV.rel m K sv u) (hn : σ.get d ≠ .any) : Pur fr (σ.ref d sv) m K ρ := by
 unfold Zt.ref
 split
 · exact h.fine (hv m K _ (h.get d))
 · rename_i hl
   have hg : σ.get d = σ.base d := by unfold Zt.get; rw [hl]
   rw [hg] at hv hn
   have eq : ∀ i, (bif Nat.beq i d then sv else σ.base i) = if i = d then sv else σ.base i := fun i => by
     by_cases e : i = d
     · subst e; simp
     · have : Nat.beq i d = false := by rw [Bool.eq_false_iff]; intro h; exact e (Nat.eq_of_beq_eq_true h)
       simp [this, e]
   refine ⟨h.hm, h.hK, h.nx, h.kq, fun i => ?_, fun i hi => ?_, h.old, h.top, h.okH, h.okF, h.mks⟩
   · show SV.rel fr.m fr.K (bif Nat.beq i d then sv else σ.base i) (fr.ρ i)
     rw [eq]
     split
     · rename_i e; subst e; exact hv _ _ _ (h.base i)
     · exact h.base i
   · show (bif Nat.beq i d then sv else σ.base i) = .any
     rw [eq]
     split
     · rename_i e; subst e; exact absurd (h.dead i hi) hn
     · exact h.dead i hi
theorem ref_H {d : Nat} {sv : SV} : (σ.ref d sv).H = σ.H ∧ (σ.ref d sv).Hf = σ.Hf := by
 unfold Zt.ref
 split <;> exact ⟨rfl, rfl⟩
theorem Rel.ref (h : Rel E fr σ m K ρ w) {d : Nat} {sv : SV} (hv : ∀ m K u, SV.rel m K (σ.get d) u → SV.rel m K sv u) (hn : σ.get d ≠ .any) : Rel E fr (σ.ref d sv) m K ρ w := ⟨h.toPur.ref hv hn, by
 have := h.sep
 unfold Zt.atoms Zt.fz at this ⊢
 rw [ref_H.1, ref_H.2]
 exact this⟩
theorem Rel.set (h : Rel E fr σ m K ρ w) {d : Nat} {sv : SV} {v : Value} (hv : SV.rel m K sv v) : Rel E fr (σ.set d sv) m K (upd1 ρ d v) w := ⟨h.toPur.set hv, h.sep⟩
theorem Rel.fine (h : Rel E fr σ m K ρ w) {d : Nat} {sv : SV} (hv : SV.rel m K sv (ρ d)) : Rel E fr (σ.set d sv) m K ρ w := ⟨h.toPur.fine hv, h.sep⟩
theorem conc_sub {f : SV → Option SV} : ∀ {a : HA}, (a.sub f).conc m = a.conc m
 | .blk i c e cs => rfl
 | .row i c e t l n => rfl
 | .bld i l => rfl
 | .od i c o x => rfl
 | .hole i c e o l j cs => rfl
 | .lp i s => rfl
theorem map_conc_sub {f : SV → Option SV} : ∀ (H : List HA), (H.map (HA.sub f)).map (HA.conc m) = H.map (HA.conc m)
 | [] => rfl
 | a :: H => by rw [List.map_cons, List.map_cons, List.map_cons, conc_sub, map_conc_sub H]
theorem ok_sub {f : SV → Option SV} (hf : ∀ a b v, f a = some b → SV.rel m K a v → SV.rel m K b v) : ∀ {a : HA}, a.ok m K → (a.sub f).ok m K
 | .blk i c e cs, ⟨b, vs, h1, h2, h3⟩ => ⟨b, vs, h1, h2, subL_rel hf _ h3⟩
 | .row i c e t l n, h => h
 | .bld i l, h => h
 | .od i c o x, h => h
 | .hole i c e o l j cs, h => by
   obtain ⟨ad, cap, K0, es, h1, h2, h3, h4, h5⟩ := h
   exact ⟨ad, cap, K0, es, h1, h2, h3, subL_rel hf _ h4, h5⟩
 | .lp i s, h => h
theorem look_sub {f : SV → Option SV} : ∀ (l : List (Nat × SV)) (i : Nat), look (subT f l) i = (look l i).map (SV.sub f)
 | [], i => rfl
 | p :: l, i => by
   show (bif Nat.beq p.1 i then some (p.2.sub f) else look (subT f l) i) = (bif Nat.beq p.1 i then some p.2 else look l i).map (SV.sub f)
   cases Nat.beq p.1 i with
   | true => rfl
   | false => exact look_sub l i
theorem fixF_rel {j : Nat} {v : SV} {u : Value} (h1 : m[j]? = some (.val u)) (h2 : SV.rel m K v u) : ∀ a b w, fixF j v a = some b → SV.rel m K a w → SV.rel m K b w := by
 intro a b w hf hr
 unfold fixF at hf
 split at hf
 · rename_i i x
   cases hb : Nat.beq i j with
   | false => rw [hb] at hf; cases hf
   | true =>
     rw [hb] at hf
     have hb := Nat.eq_of_beq_eq_true hb
     subst hb
     cases hf
     obtain ⟨h3, h4⟩ := hr
     rw [h1] at h3; cases h3
     exact ⟨h1, h2⟩
 · cases hf
theorem Pur.fix (h : Pur fr σ m K ρ) {j : Nat} {v : SV} {u : Value} (h1 : m[j]? = some (.val u)) (h2 : SV.rel m K v u) : Pur fr (σ.fix j v) m K ρ where
 hm := h.hm
 hK := h.hK
 nx := h.nx
 kq := h.kq
 base := h.base
 dead := h.dead
 old := fun i hi => by
   rw [show look (σ.fix j v).top i = _ from look_sub σ.top i] at hi
   cases hl : look σ.top i with
   | none => exact h.old i hl
   | some x => rw [hl] at hi; cases hi
 top := fun i sv hi => by
   rw [show look (σ.fix j v).top i = _ from look_sub σ.top i] at hi
   cases hl : look σ.top i with
   | none => rw [hl] at hi; cases hi
   | some x =>
     rw [hl] at hi; cases hi
     exact sub_rel (fixF_rel h1 h2) x (h.top i x hl)
 okH := fun a ha => by
   obtain ⟨a0, h0, rfl⟩ := List.mem_map.1 ha
   exact ok_sub (fixF_rel h1 h2) (h.okH a0 h0)
 okF := h.okF
 mks := h.mks
theorem Rel.fix (h : Rel E fr σ m K ρ w) {j : Nat} {v : SV} {u : Value} (h1 : m[j]? = some (.val u)) (h2 : SV.rel m K v u) : Rel E fr (σ.fix j v) m K ρ w := ⟨h.toPur.fix h1 h2, by
 have := h.sep
 unfold Zt.atoms at this ⊢
 rw [show (σ.fix j v).H = σ.H.map (HA.sub (fixF j v)) from rfl, map_conc_sub]
 exact this⟩
def Fine (m : List M) (K : Hp) (ρ : Sl1) (σ σ' : Zt) : Prop := σ' = σ ∨ (∃ d sv, σ' = σ.ref d sv ∧ (∀ m K u, SV.rel m K (σ.get d) u → SV.rel m K sv u) ∧ σ.get d ≠ .any) ∨ ∃ j v u, σ' = σ.fix j v ∧ m[j]? = some (.val u) ∧ SV.rel m K v u
theorem Fine.rel {σ' : Zt} (f : Fine m K ρ σ σ') (h : Rel E fr σ m K ρ w) : Rel E fr σ' m K ρ w := by
 rcases f with rfl | ⟨d, sv, rfl, hv, hn⟩ | ⟨j, v, u, rfl, h1, h2⟩
 · exact h
 · exact h.ref hv hn
 · exact h.fix h1 h2
theorem Fine.pur {σ' : Zt} (f : Fine m K ρ σ σ') (h : Pur fr σ m K ρ) : Pur fr σ' m K ρ := by
 rcases f with rfl | ⟨d, sv, rfl, hv, hn⟩ | ⟨j, v, u, rfl, h1, h2⟩
 · exact h
 · exact h.ref hv hn
 · exact h.fix h1 h2
end
end
section
variable [BldA]
structure Cls (E : En) (C : World → Prop) (mem : Bool) (A : List HA) (m : List M) (K : Hp) : Prop where
 rd : ∀ a ∈ A, HA.ok m K a ∧ ∀ w, C w → ∃ K' L', Sep E K' (HA.conc m a :: L') w
 kn : mem = true → ∀ b o v, cellK K b o = some v → Rd C b o v
section
variable {R : Type} {P : Program} {E : En} {n : Nat} {C : World → Prop} {mem : Bool} {A : List HA} {m : List M} {K : Hp} {fr : Frz} {σ : Zt} {ρ : Sl1}
theorem ldv_ok {s : TypeId} {cs : List SV} {o b o0 : Nat} {sv : SV} {us : List Value} (h : ldv P s cs o = some sv) (hr : SV.relL m K cs us) (hrd : ∀ j u, us[j]? = some u → Rd C b (o0 + j) u) : ∃ v, Ld P C s b (o0 + o) v ∧ SV.rel m K sv v := by
 unfold ldv at h
 cases hs : scalar P s with
 | true =>
   rw [hs] at h
   obtain ⟨u, hu, hr⟩ := relL_get hr (show cs[o]? = some sv from h)
   exact ⟨u, Ld.sc hs (hrd o u hu), hr⟩
 | false =>
   rw [hs] at h
   simp only [cond_false] at h
   split at h
   · rename_i fs z hu hz
     cases hb : Nat.ble (o + z) cs.length with
     | false => rw [hb] at h; cases h
     | true =>
       rw [hb] at h; cases h
       have hb := Nat.le_of_ble_eq_true hb
       have hl := relL_len hr
       refine ⟨.agg ((us.drop o).take z).toArray, Ld.agg hu hz (by rw [List.length_take, List.length_drop]; omega) (fun j u hj => ?_), _, rfl, relL_take z (relL_drop o hr)⟩
       rw [List.getElem?_take] at hj
       split at hj
       · rw [List.getElem?_drop] at hj
         have := hrd (o + j) u hj
         rwa [← Nat.add_assoc] at this
       · cases hj
   · rename_i len e z hu hz
     cases hb : Nat.ble (o + z) cs.length with
     | false => rw [hb] at h; cases h
     | true =>
       rw [hb] at h; cases h
       have hb := Nat.le_of_ble_eq_true hb
       have hl := relL_len hr
       refine ⟨.agg ((us.drop o).take z).toArray, Ld.arr hu hz (by rw [List.length_take, List.length_drop]; omega) (fun j u hj => ?_), _, rfl, relL_take z (relL_drop o hr)⟩
       rw [List.getElem?_take] at hj
       split at hj
       · rw [List.getElem?_drop] at hj
         have := hrd (o + j) u hj
         rwa [← Nat.add_assoc] at this
       · cases hj
   · cases h
theorem ldp_ok {s : TypeId} {cs : List SV} {o : Nat} {sv : SV} {us : List Value} (h : ldv P s cs o = some sv) (hr : SV.relL m K cs us) : ∃ v, (∀ w, (part s us.toArray o).run P w = .ok v w) ∧ SV.rel m K sv v := by
 unfold ldv at h
 cases hs : scalar P s with
 | true =>
   rw [hs] at h
   obtain ⟨u, hu, hr⟩ := relL_get hr (show cs[o]? = some sv from h)
   exact ⟨u, Ld0.sc hs (by simpa using hu), hr⟩
 | false =>
   rw [hs] at h
   simp only [cond_false] at h
   split at h
   · rename_i fs z hu hz
     cases hb : Nat.ble (o + z) cs.length with
     | false => rw [hb] at h; cases h
     | true =>
       rw [hb] at h; cases h
       refine ⟨.agg ((us.drop o).take z).toArray, Ld0.agg hu hz ?_, _, rfl, relL_take z (relL_drop o hr)⟩
       rw [List.extract_toArray]
       simp [List.extract_eq_take_drop]
   · rename_i len e z hu hz
     cases hb : Nat.ble (o + z) cs.length with
     | false => rw [hb] at h; cases h
     | true =>
       rw [hb] at h; cases h
       refine ⟨.agg ((us.drop o).take z).toArray, Ld0.arr hu hz ?_, _, rfl, relL_take z (relL_drop o hr)⟩
       rw [List.extract_toArray]
       simp [List.extract_eq_take_drop]
   · cases h
theorem der_ok {x : Operand} {k : Zt → SV → Option R} {r : R} (h : der σ x (σ.evr n x) k = some r) (hp : Pur fr σ m K ρ) : ∃ σ' v', k σ' v' = some r ∧ Fine m K ρ σ σ' ∧ SV.rel m K v' (ev n ρ x) := by
 have hx := hp.evr n x
 unfold der at h
 split at h
 · rename_i t y hy
   obtain ⟨z, rfl, h⟩ := ob h
   rw [hy] at hx
   obtain ⟨b, o, hv, hat⟩ := Is.ptr hx
   have hk : SV.rel m K (.kat t z 0) (ev n ρ x) := ⟨b, o, hv, hat⟩
   cases x with
   | tmp i =>
     have hb : Nat.blt i n = true := by
       cases hb : Nat.blt i n with
       | true => rfl
       | false =>
         have : σ.evr n (.tmp i) = .any := by show (bif Nat.blt i n then σ.get i else .any) = _; rw [hb]; rfl
         rw [this] at hy; cases hy
     have hg : σ.get i = .pk t (some z) := by
       have : σ.evr n (.tmp i) = σ.get i := by show (bif Nat.blt i n then σ.get i else .any) = _; rw [hb]; rfl
       rw [← this]; exact hy
     refine ⟨_, _, h, .inr (.inl ⟨i, _, rfl, fun m K u hu => ?_, by rw [hg]; nofun⟩), hk⟩
     rw [hg] at hu
     obtain ⟨b, o, hv, hat⟩ := Is.ptr hu
     exact ⟨b, o, hv, hat⟩
   | _ => exact ⟨_, _, h, .inl rfl, hk⟩
 · rename_i j w hy
   rw [hy] at hx
   obtain ⟨hj, hx⟩ := hx
   split at h
   · obtain ⟨z, rfl, h⟩ := ob h
     obtain ⟨b, o, hv, hat⟩ := Is.ptr hx
     have hk : SV.rel m K (.kat _ z 0) (ev n ρ x) := ⟨b, o, hv, hat⟩
     exact ⟨_, _, h, .inr (.inr ⟨j, _, _, rfl, hj, hk⟩), hk⟩
   · exact ⟨_, _, h, .inl rfl, st_rel _ hx⟩
 · exact ⟨_, _, h, .inl rfl, st_rel _ hx⟩
theorem Cls.blk (hc : Cls E C mem A m K) {i c : Nat} {e : TypeId} {cs : List SV} (ha : HA.blk i c e cs ∈ A) : ∃ b vs, m[i]? = some (.val (.pointer (some ⟨b, 0, none⟩))) ∧ SV.relL m K cs vs ∧ ∀ j u, vs[j]? = some u → Rd C b j u := by
 obtain ⟨⟨b, vs, h1, h2, h3⟩, h4⟩ := hc.rd _ ha
 refine ⟨b, vs, h1, h3, fun j u hu w hw => ?_⟩
 obtain ⟨K', L', hs⟩ := h4 w hw
 simp only [HA.conc, h1, h2] at hs
 have := hs.cl
 simp [World.cell?, this, hu]
theorem Cls.row (hc : Cls E C mem A m K) {i c : Nat} {e : TypeId} {t : Tp} {l : List t.den} {k : Nat} (ha : HA.row i c e t l k ∈ A) : ∃ ad cap cs, m[i]? = some (.val (.slice ad k cap)) ∧ m[c]? = some (.cont t l cs) ∧ Els K t cs l ∧ (∀ g, ad = some ⟨g, 0, none⟩ → ∀ j u, cs[j]? = some u → Rd C g j u) := by
 obtain ⟨⟨ad, cap, cs, h1, h2, h3, h5⟩, h4⟩ := hc.rd _ ha
 refine ⟨ad, cap, cs, h1, h2, h3, fun g hg j u hu w hw => ?_⟩
 obtain ⟨K', L', h0, hr, hd, hs⟩ := h4 w hw
 simp only [HA.conc, h1, h2] at hr
 obtain ⟨g', cap', hv, hcell⟩ := hr.cells j u hu
 simp only [Value.slice.injEq] at hv
 obtain ⟨rfl, _⟩ := hv
 cases hg
 exact cellK_world hs.sub (cellK_le (fun n o e => Hp.join_right e (hd n o e)) hcell)
theorem Cls.hol (hc : Cls E C mem A m K) {i c : Nat} {e : TypeId} {o : OT} {l : List o.tp.den} {j : Int} {cs : List SV} (ha : HA.hole i c e o l j cs ∈ A) : ∃ g cap es, m[i]? = some (.val (.slice (some ⟨g, 0, none⟩) l.length cap)) ∧ SV.relL m K cs es ∧ es.length = o.tp.size ∧ (∀ q u, es[q]? = some u → Rd C g (j.toNat * o.tp.size + q) u) := by
 obtain ⟨⟨ad, cap, K0, es, h1, h2, h3, h5, h6, h7, h8, g, rfl⟩, h4⟩ := hc.rd _ ha
 refine ⟨g, cap, es, h1, h5, h8, fun q u hu w hw => ?_⟩
 obtain ⟨K', L', hs⟩ := h4 w hw
 simp only [HA.conc, h1, h2] at hs
 obtain ⟨h0, ⟨c1, c2, hl, hst⟩, hd, hs⟩ := hs
 have hs := Sep.split ⟨h0, hst, hd, hs⟩
 obtain ⟨h0, hr, hd, hs⟩ := hs
 obtain ⟨g', cap', hv, hcell⟩ := hr.cells (j.toNat * o.tp.size + q) u (by
   rw [List.getElem?_append_right (by omega), hl, Nat.add_sub_cancel_left, List.getElem?_append_left (List.getElem?_eq_some_iff.1 hu).1]
   exact hu)
 simp only [Value.slice.injEq] at hv
 obtain ⟨hg, _⟩ := hv
 cases hg
 exact cellK_world hs.sub (cellK_le (fun n o e => Hp.join_right e (hd n o e)) hcell)
theorem OT.rv_rel : ∀ (o : OT) {es : List Value} {x : o.tp.den} {h : Hp}, o.own K es x h → SV.relL m K (o.rv x) es
 | .dat t, es, x, h, k => lv_rel t k.1
 | .row e a, es, x, h, ⟨v, vs, e1, k⟩ => by subst e1; exact ⟨v, [], rfl, trivial, rfl⟩
 | .box e a, es, x, h, k => by
   unfold OT.own at k
   split at k
   · rw [k.1]; exact ⟨_, [], rfl, trivial, rfl⟩
   · obtain ⟨b, vs, rfl, k⟩ := k
     exact ⟨_, [], rfl, trivial, rfl⟩
 | .obj n u, es, x, h, k => by
   unfold OT.own at k
   split at k
   · rw [k.1]; exact ⟨_, [], rfl, trivial, rfl⟩
   · obtain ⟨r, o, rfl, k⟩ := k
     exact ⟨_, [], rfl, trivial, rfl⟩
 | .chn a, es, x, h, k => by
   unfold OT.own at k
   split at k
   · rw [k.1]; exact ⟨_, [], rfl, trivial, rfl⟩
   · obtain ⟨r, b, s, c, rfl, k⟩ := k
     exact ⟨_, [], rfl, trivial, rfl⟩
 | .one a, es, x, h, k => OT.rv_rel a (x := x) k
 | .cons a r, es, x, h, ⟨c1, c2, e1, e2, h1, h2, k1, k2, d, e3⟩ => by
   subst e1
   exact relL_app (OT.rv_rel a k1) (OT.rv_rel r k2)
theorem plain_val {sv : SV} (h : sv.plain = true) : ∃ u, ∀ v, SV.rel m K sv v ↔ v = u := by
 unfold SV.plain at h
 split at h <;> first | exact ⟨_, fun _ => Iff.rfl⟩ | cases h
theorem Cls.rows (hc : Cls E C mem A m K) {i c : Nat} {e : TypeId} {o : OT} {l : List o.tp.den} (ha : HA.od i c (.row e o) l ∈ A) : ∃ ad cap, m[i]? = some (.val (.slice ad l.length cap)) ∧ (l.length ≠ 0 → ∃ g, ad = some ⟨g, 0, none⟩) ∧ ∀ (j : Nat) (x : o.tp.den), l[j]? = some x → ∀ (q : Nat) (sv : SV) (u : Value), (o.rv x)[q]? = some sv → (∀ v, SV.rel m K sv v ↔ v = u) → ∀ g, ad = some ⟨g, 0, none⟩ → Rd C g (j * o.tp.size + q) u := by
 obtain ⟨⟨v, K0, h1, h2, h3, ad, cap, rfl, h5⟩, h4⟩ := hc.rd _ ha
 refine ⟨ad, cap, h1, h5, fun j x hx q sv u hq hsv g hg w hw => ?_⟩
 subst hg
 obtain ⟨K', L', hs⟩ := h4 w hw
 simp only [HA.conc, h1, h2] at hs
 obtain ⟨v', vs, e1, hs⟩ := Sep.ownRow (a := o) (xs := l) hs
 cases e1
 obtain ⟨c1, es, c2, rfl, k1, k2, k3⟩ := Sep.openEls (fun es x h k => OT.own_len o k) j hx hs.swap
 have h3' : KOk K0 K o := h3
 have hes : SV.relL m K (o.rv x) es := k3.swap.fact (fun h k => OT.rv_rel o (KOk.own h3' k))
 obtain ⟨u', hu', hr'⟩ := relL_get hes hq
 obtain rfl := (hsv u').1 hr'
 obtain ⟨h0, hr, hd, hs⟩ := hs
 obtain ⟨g', cap', hv, hcell⟩ := hr.cells (j * o.tp.size + q) u' (by
   rw [List.getElem?_append_right (by omega), k1, Nat.add_sub_cancel_left, List.getElem?_append_left (List.getElem?_eq_some_iff.1 hu').1]
   exact hu')
 simp only [Value.slice.injEq] at hv
 obtain ⟨hg, _⟩ := hv
 cases hg
 exact cellK_world hs.sub (cellK_le (fun n o e => Hp.join_right e (hd n o e)) hcell)
theorem load_ok {s : TypeId} {v : SV} {u : Value} {k : Zt → SV → Option R} {r : R} (h : load P A σ s v k = some r) (hmem : ∀ t x o, v = .kat t x o → mem = true) (hc : Cls E C mem A m K) (hv : SV.rel m K v u) : ∃ sv b o u', k σ sv = some r ∧ u = .pointer (some ⟨b, o, none⟩) ∧ Ld P C s b o u' ∧ SV.rel m K sv u' := by
 unfold load at h
 split at h
 · rename_i i o
   split at h
   · rename_i q hq
     split at h
     · rename_i sv hsv
       obtain ⟨a, ha, hmem⟩ := findR_spec hq
       obtain rfl := blkR_eq ha
       obtain ⟨b, vs, h1, h2, h3⟩ := hc.blk hmem
       obtain ⟨b', h4, rfl⟩ := hv
       rw [h1] at h4; cases h4
       obtain ⟨u', h5, h6⟩ := ldv_ok (o0 := 0) hsv h2 (fun j u hu => by rw [Nat.zero_add]; exact h3 j u hu)
       exact ⟨sv, b, o, u', h, rfl, by rwa [Nat.zero_add] at h5, h6⟩
     · cases h
   · cases h
 · rename_i t x o
   split at h
   · rename_i sv hsv
     obtain ⟨b, o0, rfl, es, h1, h2, h3⟩ := hv
     obtain ⟨u', h5, h6⟩ := ldv_ok (o0 := o0) (C := C) hsv (lv_rel t h2) (fun j u hu => hc.kn (hmem _ _ _ rfl) b (o0 + j) u (by rw [h3 j (by rw [← h1]; exact (List.getElem?_eq_some_iff.1 hu).1)]; exact hu))
     exact ⟨sv, b, o0 + o, u', h, rfl, h5, h6⟩
   · cases h
 · rename_i i c t j x o
   split at h
   · rename_i q hq
     cases hb : Nat.beq q.c c with
     | false => rw [hb] at h; cases h
     | true =>
       rw [hb] at h
       simp only [cond_true] at h
       have hb := Nat.eq_of_beq_eq_true hb
       split at h
       · rename_i sv hsv
         obtain ⟨a, ha, hmem⟩ := findR_spec hq
         obtain rfl := rowR_eq ha
         obtain ⟨ad, cap, cs, h1, h2, h3, h4⟩ := hc.row hmem
         obtain ⟨g, n', cap', l, cs', h5, h6, h7, rfl⟩ := hv
         rw [h1] at h5; cases h5
         rw [hb, h6] at h2
         cases h2
         obtain ⟨hj0, hx, _⟩ := getI_some h7
         obtain ⟨es, h8, h9, h10⟩ := h3.get _ _ hx
         obtain ⟨u', h11, h12⟩ := ldv_ok (o0 := j.toNat * q.t.size) (C := C) hsv (lv_rel q.t h9) (fun p u hu => h4 g rfl _ u (by rw [h10 p (by rw [← h8]; exact (List.getElem?_eq_some_iff.1 hu).1)]; exact hu))
         exact ⟨sv, g, _, u', h, rfl, h11, h12⟩
       · cases h
   · cases h
 · rename_i i o j off
   obtain ⟨g, n', cap', h5, hj0, hjn, rfl⟩ := hv
   split at h
   · rename_i q hq
     replace h := bift' h; obtain ⟨hb, h⟩ := h
     have hb := Nat.eq_of_beq_eq_true hb
     replace h := ob h; obtain ⟨_, hcj, h⟩ := h
     have hcj := (bift' hcj).1
     have hcj : j = q.j := of_decide_eq_true hcj
     split at h
     · rename_i sv hsv
       obtain ⟨a, ha, hmem⟩ := findR_spec hq
       obtain rfl := holR_eq ha
       obtain ⟨g', cap, es, h1, h2, h3, h4⟩ := hc.hol hmem
       rw [h1] at h5; cases h5
       obtain ⟨u', h11, h12⟩ := ldv_ok (o0 := q.j.toNat * q.o.tp.size) (C := C) hsv h2 (fun p u hu => h4 _ u hu)
       exact ⟨sv, g, _, u', h, rfl, by rw [hcj, hb]; exact h11, h12⟩
     · cases h
   · split at h
     · rename_i q hq
       replace h := bift' h; obtain ⟨hb, h⟩ := h
       rw [Bool.and_eq_true] at hb
       obtain ⟨hb, hs⟩ := hb
       have hb := Nat.eq_of_beq_eq_true hb
       replace h := ob h; obtain ⟨x, hx, h⟩ := h
       obtain ⟨_, hx, _⟩ := getI_some hx
       split at h
       · rename_i sv hsv
         replace h := bift' h; obtain ⟨hpl, h⟩ := h
         obtain ⟨a, ha, hmem⟩ := findR_spec hq
         obtain rfl := rowsR_eq ha
         obtain ⟨ad, cap, h1, h2, h3⟩ := hc.rows hmem
         obtain ⟨u, hu⟩ := plain_val (m := m) (K := K) hpl
         rw [h1] at h5
         simp only [Option.some.injEq, M.val.injEq, Value.slice.injEq] at h5
         obtain ⟨rfl, _, _⟩ := h5
         exact ⟨sv, g, _, u, h, rfl, by rw [hb]; exact Ld.sc hs (h3 _ x hx _ sv u hsv hu g rfl), (hu u).2 rfl⟩
       · cases h
     · cases h
 · cases h
theorem addO_ok {v v' : SV} {u : Value} {d : Nat} (h : addO v d = some v') (hv : SV.rel m K v u) : ∃ b o, u = .pointer (some ⟨b, o, none⟩) ∧ SV.rel m K v' (.pointer (some ⟨b, o + d, none⟩)) := by
 unfold addO at h
 split at h
 · cases h; obtain ⟨b, h1, rfl⟩ := hv; exact ⟨b, _, rfl, b, h1, rfl⟩
 · cases h; obtain ⟨b, o0, rfl, h2⟩ := hv; exact ⟨b, _, rfl, b, o0, by rw [Nat.add_assoc], h2⟩
 · cases h; obtain ⟨g, n', cap, l, cs, h1, h2, h3, rfl⟩ := hv; exact ⟨g, _, rfl, g, n', cap, l, cs, h1, h2, h3, by rw [Nat.add_assoc]⟩
 · cases h; obtain ⟨g, n', cap, h1, h2, h3, rfl⟩ := hv; exact ⟨g, _, rfl, g, n', cap, h1, h2, h3, by rw [Nat.add_assoc]⟩
 · cases h
theorem lenOf_ok {B : List HA} {v : SV} {u : Value} {z : Int} (h : lenOf B v = some z) (hB : ∀ a ∈ B, HA.ok m K a) (hs : ∀ s, v ≠ .str s) (hv : SV.rel m K v u) : ∃ ad k cap, u = .slice ad k cap ∧ z = (k : Nat) := by
 unfold lenOf at h
 split at h
 · cases h; simp only [SV.rel] at hv; subst hv; exact ⟨none, 0, 0, rfl, rfl⟩
 · cases h; obtain ⟨hv, rfl⟩ := hv; obtain ⟨ad, cap, rfl⟩ := hv.slv; exact ⟨ad, _, cap, rfl, rfl⟩
 · exact absurd rfl (hs _)
 · cases h; obtain ⟨b, _, rfl⟩ := hv; exact ⟨_, _, _, rfl, rfl⟩
 · cases h; obtain ⟨b, _, rfl⟩ := hv; exact ⟨_, _, _, rfl, rfl⟩
 · split at h
   · rename_i i q hq
     cases h
     obtain ⟨a, ha, hmem⟩ := findR_spec hq
     obtain rfl := rowR_eq ha
     obtain ⟨ad, cap, cs, h1, _⟩ := hB _ hmem
     have h2 := hv.1
     rw [h1] at h2; cases h2
     exact ⟨ad, _, cap, rfl, rfl⟩
   · split at h
     · rename_i i _ q hq
       cases h
       obtain ⟨a, ha, hmem⟩ := findR_spec hq
       obtain rfl := rowsR_eq ha
       obtain ⟨v', K0, h1, _, _, ad, cap, rfl, _⟩ := hB _ hmem
       have h2 := hv.1
       rw [h1] at h2; cases h2
       exact ⟨ad, _, cap, rfl, rfl⟩
     · split at h
       · rename_i i _ _ q hq
         cases h
         obtain ⟨a, ha, hmem⟩ := findR_spec hq
         obtain rfl := holR_eq ha
         obtain ⟨ad, cap, K0, es, h1, _⟩ := hB _ hmem
         have h2 := hv.1
         rw [h1] at h2; cases h2
         exact ⟨ad, _, cap, rfl, rfl⟩
       · cases h
 · cases h
def partsR (m : List M) (K : Hp) : List (Nat × SV) → List (Nat × Value) → Prop
 | [], qs => qs = []
 | p :: ps, qs => ∃ u r, qs = (p.1, u) :: r ∧ SV.rel m K p.2 u ∧ partsR m K ps r
theorem partsR_map (hp : Pur fr σ m K ρ) : ∀ (ps : List (Nat × Operand)), partsR m K (ps.map fun p => (p.1, σ.ev n p.2)) (ps.map fun p => (p.1, ev n ρ p.2))
 | [] => rfl
 | p :: ps => ⟨_, _, rfl, hp.ev n p.2, partsR_map hp ps⟩
theorem partsR_mapr (hp : Pur fr σ m K ρ) : ∀ (ps : List (Nat × Operand)), partsR m K (ps.map fun p => (p.1, σ.evr n p.2)) (ps.map fun p => (p.1, ev n ρ p.2))
 | [] => rfl
 | p :: ps => ⟨_, _, rfl, hp.evr n p.2, partsR_mapr hp ps⟩
theorem fillS_ok {place : Nat → Option (Nat × Nat)} : ∀ {ps : List (Nat × SV)} {cs ds : List SV} {us : List Value} {qs : List (Nat × Value)}, fillS place cs ps = some ds → SV.relL m K cs us → partsR m K ps qs →
   ∃ xs, fillL place us qs = some xs ∧ SV.relL m K ds xs
 | [], cs, ds, us, qs, h, hr, hq => by
   cases h
   obtain rfl : qs = [] := hq
   exact ⟨us, rfl, hr⟩
 | (i, v) :: r, cs, ds, us, qs, h, hr, hq => by
     obtain ⟨u, qs, rfl, hu, hq⟩ := hq
     unfold fillS at h
     split at h
     · rename_i off size vs hp hvs
       cases hb : (Nat.beq vs.length size && Nat.ble (off + size) cs.length) with
       | false => rw [hb] at h; cases h
       | true =>
         rw [hb] at h
         simp only [cond_true] at h
         rw [Bool.and_eq_true] at hb
         have h1 := Nat.eq_of_beq_eq_true hb.1
         have h2 := Nat.le_of_ble_eq_true hb.2
         have hc := cells_rel hvs hu
         have hl := relL_len hc
         have hlu := relL_len hr
         have hset : setAll us off u.cells.toList = us.take off ++ u.cells.toList ++ us.drop (off + size) := by
           have gen : ∀ (xs : List Value) (us : List Value) (off : Nat), off + xs.length ≤ us.length → setAll us off xs = us.take off ++ xs ++ us.drop (off + xs.length) := by
             intro xs
             induction xs with
             | nil => intro us off _; simp [setAll]
             | cons x xs ih =>
               intro us off hle
               simp only [List.length_cons] at hle
               unfold setAll
               rw [ih _ _ (by rw [List.length_set]; omega), List.take_set, List.drop_set]
               rw [if_pos (by omega)]
               have e : us.take (off + 1) = us.take off ++ [us[off]] := by rw [List.take_succ_eq_append_getElem (by omega)]
               rw [e, List.set_append_right _ _ (by rw [List.length_take]; omega), List.length_take, Nat.min_eq_left (by omega), Nat.sub_self]
               simp [Nat.add_comm, Nat.add_left_comm]
           rw [gen _ _ _ (by omega), hl, h1]
         have hs : SV.relL m K (cs.take off ++ vs ++ cs.drop (off + size)) (us.take off ++ u.cells.toList ++ us.drop (off + size)) := relL_app (relL_app (relL_take _ hr) hc) (relL_drop _ hr)
         obtain ⟨xs, h3, h4⟩ := fillS_ok h hs hq
         refine ⟨xs, ?_, h4⟩
         unfold fillL
         simp only [hp]
         rw [show (Nat.beq u.cells.toList.length size && Nat.ble (off + u.cells.toList.length) us.length) = true by
           rw [hl, h1, hlu, Nat.beq_refl, Bool.true_and, Nat.ble_eq_true_of_le h2]]
         rw [hset]
         exact h3
     · cases h
end
end
section
section
variable {P : Program} {n : Nat} {C : World → Prop} {ρ : Sl0} {d : Option Nat} {t : TypeId} {pos : String} {af : Array Edge} {g : Option (Nat × Bool)} {x y : Operand}
theorem V.iadA {tx e : TypeId} {b o len : Nat} {i : Int} {k : IntKind} {sz : Nat} (ht : P.underlying tx = some (.array len e)) (hz : (P.info? e).map (·.size) = some sz) (hx : ev n ρ x = .pointer (some ⟨b, o, none⟩)) (hy : ev n ρ y = .int k i) (h0 : 0 ≤ i) (h1 : i < (len : Int)) :
   Val P n C ρ ⟨d, .indexAddr tx x y, t, pos, af, g⟩ (.pointer (some ⟨b, o + i.toNat * sz, none⟩)) := fun w _ => by
 cases hi : P.info? e with
 | none => rw [hi] at hz; simp at hz
 | some i' =>
   rw [hi] at hz
   simp at hz
   simp [execOp, hx, hy, Instr.indexAt, Instr.sureAddr, asIntOf, run_underlying ht, h0, h1, sizeOf, typeInfo, hi, hz, addr_add]
theorem V.buildA {s e : TypeId} {z : Value} {sz bt len sz1 : Nat} {parts : Array (Nat × Operand)} {cs : List Value} {v : Value} (hi : Inf P s z sz bt) (hs : P.underlying s = some (.array len e)) (hz : (P.info? e).map (·.size) = some sz1) (hc : fillL (fun i => some (i * sz1, sz1)) z.cells.toList (parts.toList.map fun (i, x) => (i, ev n ρ x)) = some cs) (hcs : .agg cs.toArray = v) : Val P n C ρ ⟨d, .build s parts, t, pos, af, g⟩ v := fun w _ => by
 subst hcs
 obtain ⟨i, h1, h2, _, _⟩ := hi.open
 have hc' : Instr.fill (fun i => some (i * sz1, sz1)) z.cells (List.map (fun x => (x.1, ev n ρ x.2)) parts.toList) = some cs.toArray := fill_of hc
 cases hi' : P.info? e with
 | none => rw [hi'] at hz; simp at hz
 | some i' =>
   rw [hi'] at hz
   simp at hz
   simp [execOp, Instr.build, zeroValue, typeInfo, h1, h2, run_underlying hs, sizeOf, hi', hz, hc']
end
theorem arr_get {α : Type} {xs : List α} {f : α → Value} {cs : List Value} {x : α} {j : Nat} (h : cs = xs.map f) (hx : xs[j]? = some x) : cs[0 + j * 1]? = some (f x) := by
 subst h; simp [hx]
end
end Go.Proofs.YtmlbbjkojaljnaaDoor

/- Regions whose makings have no order among them: each order is walked. Nothing of the program is here. -/
import Derived.Test.YtbennpandomacaaGreatOz
namespace Go.Proofs.YtbennpandomacaaGreat
open Go.RowKit
set_option linter.unusedVariables false
theorem A.val {P : Program} {E : En} {n d : Nat} {ρ : Sl0} {K : Hp} {L : List Atom} {o : Oper} {v : Value} (ho : o.dst = some d) (hv : Val P n (Hold E K L) ρ o v) : Ao P E n o ρ K L (fun ρ' K' L' => ρ' = upd ρ d v ∧ K = K' ∧ L = L') :=
  Ao.of ho (fun w hs => ⟨v, w, K, L, hv w (Hold.of_sep hs), hs, rfl, rfl, rfl⟩)
/-- The orders of a region: still ones first, then whatever may come next. -/
inductive MT
  | leaf (fin : List Nat)
  | still (s : List Nat) (t : MT)
  | alt (k : Nat) (t r : MT)
  | done
def MT.keys : MT → List Nat
  | .alt k _ r => k :: r.keys
  | _ => []
def mtB (md : Region.Mode) (ops : Array Oper) (tail : List Nat) : Bool → MT → Nat → Array Bool → Bool
  | _, .leaf fin, n, l => Nat.beq n (fin.length + tail.length) && match mixStill md ops tail fin l with | some l' => mixTail md ops tail tail l' | none => false
  | _, .still s t, n, l => Nat.ble s.length n && match mixStill md ops tail s l with | some l' => mtB md ops tail true t (n - s.length) l' | none => false
  | top, .alt k t r, n, l => (!top || Region.ready md ops l == k :: r.keys) && Nat.ble 1 n && !tail.contains k && (Region.ready md ops l).contains k && mtB md ops tail true t (n - 1) (l.setIfInBounds k true) && mtB md ops tail false r n l
  | top, .done, _, _ => !top
def wpT (P : Program) (C : World → Prop) (F : Act → World → Prop) (l : List Oper) : MT → Act → World → Prop
  | .leaf fin, a, w => wpQuiet P l.toArray C (fun a' => F a' w) (picks l fin) a
  | .still s t, a, w => wpQuiet P l.toArray C (fun a' => wpT P C F l t a' w) (picks l s) a
  | .alt k t r, a, w => (∀ o, l[k]? = some o → aloneOp P l.toArray C o (wpT P C F l t) a w) ∧ wpT P C F l r a w
  | .done, _, _ => True
section
variable {P : Program} {C : World → Prop} {Q : Exit → Act → World → Prop} {md : Region.Mode}
theorem mixStill_shut {ops : Array Oper} {tail : List Nat} : ∀ (s : List Nat) (listed l1 : Array Bool), mixStill md ops tail s listed = some l1 → Shut md ops listed → Shut md ops l1
  | [], a, b, h1, h2 => by simp only [mixStill, Option.some.injEq] at h1; subst h1; exact h2
  | i :: s, a, b, h1, h2 => by
    simp only [mixStill] at h1
    split at h1
    case isFalse => cases h1
    case isTrue hb =>
      simp only [Bool.and_eq_true] at hb
      exact mixStill_shut s _ _ h1 (shut_set h2 (by simpa using hb.1.1.1.1))
theorem mt_any {l : List Oper} {tail : List Nat} (hs : Region.noSelect l.toArray = true) : ∀ (t : MT) (top : Bool) (n : Nat) (listed : Array Bool) (a : Act) (w : World), mtB md l.toArray tail top t n listed = true → C w → Shut md l.toArray listed →
    wpT P C (fun a' w' => wpList P l.toArray Q (picks l tail) a' w') l t a w →
    (top = true → mixAny P md l.toArray C (tail.contains ·) Q n listed a w) ∧ (top = false → ∀ i ∈ t.keys, mixOp P l.toArray C (tail.contains ·) Q i (mixAny P md l.toArray C (tail.contains ·) Q (n - 1) (listed.setIfInBounds i true)) a w)
  | .leaf fin, top, n, listed, a, w, hB, hC, hS, h => by
    refine ⟨fun _ => ?_, fun _ i hi => by simp [MT.keys] at hi⟩
    simp only [mtB, Bool.and_eq_true] at hB
    obtain ⟨hn, hB⟩ := hB
    have hn := Nat.eq_of_beq_eq_true hn
    split at hB
    case h_2 => cases hB
    case h_1 l2 h2 =>
      have := (mix_still (P := P) (Q := Q) (md := md) (tail := tail) (C := C) hs fin tail.length listed l2 a w _ h2 hC hS (fun a2 hk => mix_tail tail l2 a2 w hB hk) h).2
      rw [hn, Nat.add_comm]; exact this
  | .still s t, top, n, listed, a, w, hB, hC, hS, h => by
    refine ⟨fun _ => ?_, fun _ i hi => by simp [MT.keys] at hi⟩
    simp only [mtB, Bool.and_eq_true] at hB
    obtain ⟨hn, hB⟩ := hB
    have hn := Nat.le_of_ble_eq_true hn
    split at hB
    case h_2 => cases hB
    case h_1 l2 h2 =>
      have hS2 := mixStill_shut s listed l2 h2 hS
      have := (mix_still (P := P) (Q := Q) (md := md) (tail := tail) (C := C) hs s (n - s.length) listed l2 a w _ h2 hC hS (fun a2 hk => (mt_any hs t true (n - s.length) l2 a2 w hB hC hS2 hk).1 rfl) h).2
      rw [show n - s.length + s.length = n by omega] at this
      exact this
  | .alt k t r, top, n, listed, a, w, hB, hC, hS, h => by
    simp only [mtB, Bool.and_eq_true] at hB
    obtain ⟨⟨⟨⟨⟨h1, h2⟩, h3⟩, h4⟩, h5⟩, h6⟩ := hB
    have h2 := Nat.le_of_ble_eq_true h2
    have hmem : k ∈ Region.ready md l.toArray listed := by simpa using h4
    obtain ⟨_, o, ho, _⟩ := mem_ready.1 hmem
    have ho' : l[k]? = some o := by simpa using ho
    have key : ∀ i ∈ k :: r.keys, mixOp P l.toArray C (tail.contains ·) Q i (mixAny P md l.toArray C (tail.contains ·) Q (n - 1) (listed.setIfInBounds i true)) a w := by
      intro i hi
      rcases List.mem_cons.1 hi with rfl | hi
      · have hk := h.1 o ho'
        unfold mixOp
        have h3' : tail.contains i = false := by simpa using h3
        simp only [ho, h3', Bool.false_eq_true, if_false]
        unfold aloneOp at hk
        split
        · rename_i hw
          simp only [hw, if_true] at hk
          exact Oper.wp_mono (fun a2 w2 hk2 => ⟨hk2.1, (mt_any hs t true (n - 1) _ a2 w2 h5 hk2.1 (shut_set hS hmem) hk2.2).1 rfl⟩) hk
        · rename_i hw
          simp only [hw] at hk
          exact (mt_any hs t true (n - 1) _ _ w h5 hC (shut_set hS hmem) hk).1 rfl
      · exact (mt_any hs r false n listed a w h6 hC hS h.2).2 rfl i hi
    refine ⟨fun ht => ?_, fun _ => key⟩
    subst ht
    simp only [Bool.not_true, Bool.false_or, beq_iff_eq] at h1
    obtain ⟨m, rfl⟩ : ∃ m, n = m + 1 := ⟨n - 1, by omega⟩
    exact ⟨fun h0 => (by rw [h1] at h0; cases h0), fun i hi => key i (by rw [← h1]; exact hi)⟩
  | .done, top, n, listed, a, w, hB, hC, hS, h => by
    simp only [mtB, Bool.not_eq_true'] at hB
    subst hB
    exact ⟨fun h => (by cases h), fun _ i hi => (by simp [MT.keys] at hi)⟩
theorem wp_region_tree {id : Nat} {a : Act} {w : World} {l : List Oper} (tr : MT) (tail : List Nat) (hm : P.follows .mixedOrders = true) (hB : (Region.noSelect l.toArray && mtB .any l.toArray tail true tr l.length (Array.replicate l.length false)) = true) (C : World → Prop) (hC : C w.drew) {ts : List Oper} (hts : picks l tail = ts)
    (h : wpT P C (fun a' w' => wpList P l.toArray Q ts a' w') l tr a w.drew) : (Code.region id l.toArray true).wp P Q a w := by
  subst hts
  simp only [Bool.and_eq_true] at hB
  refine wp_region_any hm (wpAny_of_mix (C := C) (T := (tail.contains ·)) _ _ _ _ ?_)
  have hS0 : Shut Region.Mode.any l.toArray (Array.replicate l.length false) := by
    intro j o _ hl
    exfalso
    rcases Nat.lt_or_ge j (Array.replicate l.length false).size with h' | h'
    · simp at h'; simp [h'] at hl
    · rw [Array.getD_eq_getD_getElem?, Array.getElem?_eq_none h'] at hl
      cases hl
  have := (mt_any (P := P) (Q := Q) (C := C) hB.1 tr true l.length _ a w.drew hB.2 hC hS0 h).1 rfl
  simpa using this
end
section
variable {P : Program} {E : En} {n : Nat} {Φ : Post} {ρ : Sl0} {K K0 : Hp} {L : List Atom} {l : List Oper} {C : World → Prop} {F : Act → World → Prop} {e : TypeId} {t : Tp} {v : Value} {xs : List t.den} {b : Nat} {cs : List Value} {x : t.den} {tr rr : MT}
structure JT (P : Program) (E : En) (n : Nat) (l : List Oper) (C : World → Prop) (F : Act → World → Prop) (tr : MT) (ρ : Sl0) (K : Hp) (L : List Atom) : Prop where
  go : ∀ w, Sep E K L w → wpT P C F l tr (act n ρ) w
structure JB (P : Program) (E : En) (n : Nat) (l : List Oper) (C : World → Prop) (F : Act → World → Prop) (o : Oper) (tr : MT) (ρ : Sl0) (K : Hp) (L : List Atom) : Prop where
  go : ∀ w, Sep E K L w → aloneOp P l.toArray C o (wpT P C F l tr) (act n ρ) w
theorem JT.leaf {fin : List Nat} {fs ts : List Oper} (hfs : picks l fin = fs) (h : JQ P n l.toArray C fs (fun ρ' => J P E n l.toArray ts Φ ρ' K L) ρ) : JT P E n l C (fun a' w' => wpList P l.toArray (Lift E n Φ) ts a' w') (.leaf fin) ρ K L := ⟨fun w hs => by
  subst hfs
  exact wpQuiet_mono (fun a ⟨ρ', ha, hJ⟩ => by subst ha; exact hJ.go w hs) h.go⟩
theorem JT.still {s : List Nat} {ss : List Oper} (hss : picks l s = ss) (h : JQ P n l.toArray C ss (fun ρ' => JT P E n l C F tr ρ' K L) ρ) : JT P E n l C F (.still s tr) ρ K L := ⟨fun w hs => by
  subst hss
  exact wpQuiet_mono (fun a ⟨ρ', ha, hJ⟩ => by subst ha; exact hJ.go w hs) h.go⟩
theorem JT.alt {k : Nat} {o : Oper} (ho : l[k]? = some o) (h : JB P E n l C F o tr ρ K L) (h2 : JT P E n l C F rr ρ K L) : JT P E n l C F (.alt k tr rr) ρ K L := ⟨fun w hs =>
  ⟨fun o' ho' => by rw [ho] at ho'; cases ho'; exact h.go w hs, h2.go w hs⟩⟩
theorem JT.done : JT P E n l C F .done ρ K L := ⟨fun _ _ => trivial⟩
theorem JB.op {o : Oper} {N : Sl0 → Hp → List Atom → Prop} (hg : o.guard = none) (hv : Ao P E n o ρ K L N) (h : ∀ ρ' K' L', N ρ' K' L' → (∀ w, Sep E K' L' w → C w) ∧ JT P E n l C F tr ρ' K' L') : JB P E n l C F o tr ρ K L := ⟨fun w hs => by
  unfold aloneOp
  rw [if_pos (by simp [Region.wanted, hg])]
  exact hv.go w hs _ _ (fun ρ' K' L' w' hN hs' => ⟨(h ρ' K' L' hN).1 w' hs', (h ρ' K' L' hN).2.go w' hs'⟩)⟩
theorem JB.run {o : Oper} {g d : Nat} {b c : Bool} (hg : o.guard = some (g, c)) (hd : (l.toArray[g]?).bind (·.dst) = some d) (hv : ev n ρ (.tmp d) = .bool b) (hb : b = c) (h : JB P E n l C F { o with guard := none } tr ρ K L) : JB P E n l C F o tr ρ K L := ⟨fun w hs => by
  have h' := h.go w hs
  unfold aloneOp at h' ⊢
  rw [if_pos (wanted_run hg hd hv hb)]
  rw [if_pos (by rfl)] at h'
  exact h'⟩
theorem JB.skip {o : Oper} {g d e : Nat} {b c : Bool} (hg : o.guard = some (g, c)) (he : o.dst = some e) (hd : (l.toArray[g]?).bind (·.dst) = some d) (hv : ev n ρ (.tmp d) = .bool b) (hb : b = !c) (h : JT P E n l C F tr (upd ρ e undef) K L) : JB P E n l C F o tr ρ K L := ⟨fun w hs =>
  alone_skip (wanted_skip hg hd hv hb) (by rw [he, put_act]; exact h.go w hs)⟩
theorem JB.skipu {o : Oper} {g d e : Nat} {c : Bool} (hg : o.guard = some (g, c)) (he : o.dst = some e) (hd : (l.toArray[g]?).bind (·.dst) = some d) (hv : ev n ρ (.tmp d) = undef) (h : JT P E n l C F tr (upd ρ e undef) K L) : JB P E n l C F o tr ρ K L := ⟨fun w hs =>
  alone_skip (wanted_skipu hg hd hv) (by rw [he, put_act]; exact h.go w hs)⟩
theorem JB.front (i : Nat) {A : Atom} {o : Oper} (hi : L[i]? = some A) (h : JB P E n l C F o tr ρ K (A :: L.eraseIdx i)) : JB P E n l C F o tr ρ K L := ⟨fun w hs => h.go w (hs.front i hi)⟩
theorem JT.front (i : Nat) {A : Atom} (hi : L[i]? = some A) (h : JT P E n l C F tr ρ K (A :: L.eraseIdx i)) : JT P E n l C F tr ρ K L := ⟨fun w hs => h.go w (hs.front i hi)⟩
theorem JT.wit {A : Atom} {p : Prop} (k : ∀ h, A h → p) (h : p → JT P E n l C F tr ρ K (A :: L)) : JT P E n l C F tr ρ K (A :: L) := ⟨fun w hs => (h (hs.fact k)).go w hs⟩
theorem JT.by {K' : Hp} {L' : List Atom} (k : ∀ w, Sep E K L w → Sep E K' L' w) (h : JT P E n l C F tr ρ K' L') : JT P E n l C F tr ρ K L := ⟨fun w hs => h.go w (k w hs)⟩
theorem JB.by {o : Oper} {K' : Hp} {L' : List Atom} (k : ∀ w, Sep E K L w → Sep E K' L' w) (h : JB P E n l C F o tr ρ K' L') : JB P E n l C F o tr ρ K L := ⟨fun w hs => h.go w (k w hs)⟩
theorem JM.by {ops : Array Oper} {X : Act → World → Prop} {ss : List (List Oper × Oper)} {K' : Hp} {L' : List Atom} (k : ∀ w, Sep E K L w → Sep E K' L' w) (h : JM P E n ops C X ss ρ K' L') : JM P E n ops C X ss ρ K L := ⟨fun w hs => h.go w (k w hs)⟩
theorem JT.persist (k : K0.le K) (h0 : 0 < t.size) (h : ∀ K', K.le K' → Is K' (.sl t) [v] xs → JT P E n l C F tr ρ K' L) : JT P E n l C F tr ρ K (Row K0 e t v xs :: L) := ⟨fun w hs =>
  let ⟨K', h1, h2, h3⟩ := hs.persist k h0; (h K' h1 h2).go w h3⟩
theorem JM.persist {ops : Array Oper} {X : Act → World → Prop} {ss : List (List Oper × Oper)} (k : K0.le K) (h0 : 0 < t.size) (h : ∀ K', K.le K' → Is K' (.sl t) [v] xs → JM P E n ops C X ss ρ K' L) : JM P E n ops C X ss ρ K (Row K0 e t v xs :: L) := ⟨fun w hs =>
  let ⟨K', h1, h2, h3⟩ := hs.persist k h0; (h K' h1 h2).go w h3⟩
theorem JB.persist {o : Oper} (k : K0.le K) (h0 : 0 < t.size) (h : ∀ K', K.le K' → Is K' (.sl t) [v] xs → JB P E n l C F o tr ρ K' L) : JB P E n l C F o tr ρ K (Row K0 e t v xs :: L) := ⟨fun w hs =>
  let ⟨K', h1, h2, h3⟩ := hs.persist k h0; (h K' h1 h2).go w h3⟩
theorem JB.persistAt {o : Oper} (k : Is K t cs x) (h : ∀ K', K.le K' → At K' t b 0 x → JB P E n l C F o tr ρ K' L) : JB P E n l C F o tr ρ K (Cl b e cs :: L) := ⟨fun w hs => let ⟨K', h1, h2, h3⟩ := hs.persistAt k; (h K' h1 h2).go w h3⟩
theorem CJ.tree {id : Nat} (R : List Atom) (tr : MT) (tail : List Nat) (hm : P.follows .mixedOrders = true) (hB : (Region.noSelect l.toArray && mtB .any l.toArray tail true tr l.length (Array.replicate l.length false)) = true) (hR : SubA R L)
    {ts : List Oper} (hts : picks l tail = ts) (h : JT P E n l (Hold E K R) (fun a' w' => wpList P l.toArray (Lift E n Φ) ts a' w') tr ρ K L) : CJ P E n (.region id l.toArray true) Φ ρ K L := ⟨fun w hs =>
  wp_region_tree tr tail hm hB (Hold E K R) (Hold.sub (Hp.le_refl K) hR hs.drew) hts (h.go _ hs.drew)⟩
end
end Go.Proofs.YtbennpandomacaaGreat

/- Regions that draw their order, judged: what reads comes first, what makes or calls comes alone; the rest as it stands. Nothing of the program is here. -/
import Derived.Test.YtbaaamdljojknaaSf
namespace Go.Proofs.Ytbaaamdljojknaa
open Go.RowKit
set_option linter.unusedVariables false
def SubA : List Atom → List Atom → Prop
  | [], _ => True
  | A :: R, L => ∃ i, L[i]? = some A ∧ SubA R (L.eraseIdx i)
theorem SubA.sep {E : En} {w : World} : ∀ {R L : List Atom} {K : Hp}, SubA R L → Sep E K L w → ∃ L', Sep E K (R ++ L') w
  | [], L, K, _, h => ⟨L, h⟩
  | A :: R, L, K, ⟨i, hi, hs⟩, h => by
    obtain ⟨h0, h1, h2, h3⟩ := h.front i hi
    obtain ⟨L', h4⟩ := SubA.sep hs h3
    exact ⟨L', h0, h1, h2, h4⟩
theorem Hold.sub {E : En} {K0 K : Hp} {R L : List Atom} {w : World} (k : K0.le K) (hs : SubA R L) (h : Sep E K L w) : Hold E K0 R w := by
  obtain ⟨L', h'⟩ := hs.sep h
  exact ⟨K, L', k, h'⟩
section
variable {P : Program} {E : En} {n : Nat} {Φ : Post} {ρ : Sl0} {K : Hp} {L : List Atom} {ops : Array Oper} {C : World → Prop} {X : Act → World → Prop}
structure JQ (P : Program) (n : Nat) (ops : Array Oper) (C : World → Prop) (s : List Oper) (N : Sl0 → Prop) (ρ : Sl0) : Prop where
  go : wpQuiet P ops C (fun a => ∃ ρ', a = act n ρ' ∧ N ρ') s (act n ρ)
structure JM (P : Program) (E : En) (n : Nat) (ops : Array Oper) (C : World → Prop) (X : Act → World → Prop) (ss : List (List Oper × Oper)) (ρ : Sl0) (K : Hp) (L : List Atom) : Prop where
  go : ∀ w, Sep E K L w → wpMix P ops C X ss (act n ρ) w
structure JA (P : Program) (E : En) (n : Nat) (ops : Array Oper) (C : World → Prop) (X : Act → World → Prop) (o : Oper) (r : List (List Oper × Oper)) (ρ : Sl0) (K : Hp) (L : List Atom) : Prop where
  go : ∀ w, Sep E K L w → aloneOp P ops C o (wpMix P ops C X r) (act n ρ) w
theorem wpQuiet_mono {Q Q' : Act → Prop} (k : ∀ a, Q a → Q' a) : ∀ {l : List Oper} {a : Act}, wpQuiet P ops C Q l a → wpQuiet P ops C Q' l a
  | [], a, h => k a h
  | o :: l, a, h => by
    unfold wpQuiet at h ⊢
    split
    · rename_i hw; rw [if_pos hw] at h; exact Oper.quiet_mono (fun a h => wpQuiet_mono k h) h
    · rename_i hw; rw [if_neg hw] at h; exact wpQuiet_mono k h
theorem JQ.nil {N : Sl0 → Prop} (h : N ρ) : JQ P n ops C [] N ρ := ⟨⟨ρ, rfl, h⟩⟩
theorem JQ.val {rest : List Oper} {o : Oper} {d : Nat} {v : Value} {N : Sl0 → Prop} (hg : o.guard = none) (hd : o.dst = some d) (hv : Val P n C ρ o v) (h : JQ P n ops C rest N (upd ρ d v)) : JQ P n ops C (o :: rest) N ρ := by
  constructor
  unfold wpQuiet
  rw [if_pos (by simp [Region.wanted, hg])]
  refine ⟨v, fun w hw => ?_, ?_⟩
  · unfold Oper.quietAt
    rw [eval_act, hv w hw]
    exact ⟨rfl, rfl⟩
  · rw [hd, put_act]; exact h.go
theorem wanted_run {o : Oper} {g d : Nat} {b c : Bool} (hg : o.guard = some (g, c)) (hd : (ops[g]?).bind (·.dst) = some d) (hv : ev n ρ (.tmp d) = .bool b) (hb : b = c) : Region.wanted o (yielded ops (act n ρ).tmps) = true := by
  unfold Region.wanted; rw [hg]
  show (yielded ops (frm n ρ) g == some c) = true
  rw [yielded_act hd hv, hb]; simp
theorem wanted_skip {o : Oper} {g d : Nat} {b c : Bool} (hg : o.guard = some (g, c)) (hd : (ops[g]?).bind (·.dst) = some d) (hv : ev n ρ (.tmp d) = .bool b) (hb : b = !c) : Region.wanted o (yielded ops (act n ρ).tmps) = false := by
  unfold Region.wanted; rw [hg]
  show (yielded ops (frm n ρ) g == some c) = false
  rw [yielded_act hd hv, hb]; cases c <;> rfl
theorem wanted_skipu {o : Oper} {g d : Nat} {c : Bool} (hg : o.guard = some (g, c)) (hd : (ops[g]?).bind (·.dst) = some d) (hv : ev n ρ (.tmp d) = undef) : Region.wanted o (yielded ops (act n ρ).tmps) = false := by
  unfold Region.wanted; rw [hg]
  show (yielded ops (frm n ρ) g == some c) = false
  have : yielded ops (frm n ρ) g = none := by
    unfold yielded
    rw [hd]
    simp only [Option.bind_some]
    rw [frm_get]
    replace hv : (bif Nat.blt d n then ρ d else undef) = undef := hv
    by_cases h : d < n
    · rw [blt_true h] at hv
      simp only [cond_true] at hv
      simp [h, hv, undef]
    · simp [h]
  rw [this]; rfl
theorem JQ.run {rest : List Oper} {o : Oper} {g d : Nat} {b c : Bool} {N : Sl0 → Prop} (hg : o.guard = some (g, c)) (hd : (ops[g]?).bind (·.dst) = some d) (hv : ev n ρ (.tmp d) = .bool b) (hb : b = c) (h : JQ P n ops C ({ o with guard := none } :: rest) N ρ) : JQ P n ops C (o :: rest) N ρ := by
  have h := h.go
  constructor
  unfold wpQuiet at h ⊢
  rw [if_pos (wanted_run hg hd hv hb)]
  rw [if_pos (by rfl)] at h
  exact h
theorem JQ.skip {rest : List Oper} {o : Oper} {g d e : Nat} {b c : Bool} {N : Sl0 → Prop} (hg : o.guard = some (g, c)) (he : o.dst = some e) (hd : (ops[g]?).bind (·.dst) = some d) (hv : ev n ρ (.tmp d) = .bool b) (hb : b = !c) (h : JQ P n ops C rest N (upd ρ e undef)) : JQ P n ops C (o :: rest) N ρ := by
  constructor
  unfold wpQuiet
  rw [if_neg (by rw [wanted_skip hg hd hv hb]; simp), he, put_act]
  exact h.go
theorem JQ.skipu {rest : List Oper} {o : Oper} {g d e : Nat} {c : Bool} {N : Sl0 → Prop} (hg : o.guard = some (g, c)) (he : o.dst = some e) (hd : (ops[g]?).bind (·.dst) = some d) (hv : ev n ρ (.tmp d) = undef) (h : JQ P n ops C rest N (upd ρ e undef)) : JQ P n ops C (o :: rest) N ρ := by
  constructor
  unfold wpQuiet
  rw [if_neg (by rw [wanted_skipu hg hd hv]; simp), he, put_act]
  exact h.go
theorem JM.nil {fs ts : List Oper} (h : JQ P n ops C fs (fun ρ' => J P E n ops ts Φ ρ' K L) ρ) : JM P E n ops C (fun a' w' => wpQuiet P ops C (fun a => wpList P ops (Lift E n Φ) ts a w') fs a') [] ρ K L := ⟨fun w hs =>
  wpMix_nil (wpQuiet_mono (fun a ⟨ρ', ha, hJ⟩ => by subst ha; exact hJ.go w hs) h.go)⟩
theorem JM.cons {s : List Oper} {o : Oper} {r : List (List Oper × Oper)} (h : JQ P n ops C s (fun ρ' => JA P E n ops C X o r ρ' K L) ρ) : JM P E n ops C X ((s, o) :: r) ρ K L := ⟨fun w hs =>
  wpMix_cons (wpQuiet_mono (fun a ⟨ρ', ha, hJ⟩ => by subst ha; exact hJ.go w hs) h.go)⟩
theorem JA.op {o : Oper} {r : List (List Oper × Oper)} {N : Sl0 → Hp → List Atom → Prop} (hg : o.guard = none) (hv : Ao P E n o ρ K L N) (h : ∀ ρ' K' L', N ρ' K' L' → (∀ w, Sep E K' L' w → C w) ∧ JM P E n ops C X r ρ' K' L') : JA P E n ops C X o r ρ K L := ⟨fun w hs => by
  unfold aloneOp
  rw [if_pos (by simp [Region.wanted, hg])]
  exact hv.go w hs _ _ (fun ρ' K' L' w' hN hs' => ⟨(h ρ' K' L' hN).1 w' hs', (h ρ' K' L' hN).2.go w' hs'⟩)⟩
theorem JA.run {o : Oper} {r : List (List Oper × Oper)} {g d : Nat} {b c : Bool} (hg : o.guard = some (g, c)) (hd : (ops[g]?).bind (·.dst) = some d) (hv : ev n ρ (.tmp d) = .bool b) (hb : b = c) (h : JA P E n ops C X { o with guard := none } r ρ K L) : JA P E n ops C X o r ρ K L := ⟨fun w hs => by
  have h' := h.go w hs
  unfold aloneOp at h' ⊢
  rw [if_pos (wanted_run hg hd hv hb)]
  rw [if_pos (by rfl)] at h'
  exact h'⟩
theorem JA.skip {o : Oper} {r : List (List Oper × Oper)} {g d e : Nat} {b c : Bool} (hg : o.guard = some (g, c)) (he : o.dst = some e) (hd : (ops[g]?).bind (·.dst) = some d) (hv : ev n ρ (.tmp d) = .bool b) (hb : b = !c) (h : JM P E n ops C X r (upd ρ e undef) K L) : JA P E n ops C X o r ρ K L := ⟨fun w hs =>
  alone_skip (wanted_skip hg hd hv hb) (by rw [he, put_act]; exact h.go w hs)⟩
theorem JA.skipu {o : Oper} {r : List (List Oper × Oper)} {g d e : Nat} {c : Bool} (hg : o.guard = some (g, c)) (he : o.dst = some e) (hd : (ops[g]?).bind (·.dst) = some d) (hv : ev n ρ (.tmp d) = undef) (h : JM P E n ops C X r (upd ρ e undef) K L) : JA P E n ops C X o r ρ K L := ⟨fun w hs =>
  alone_skip (wanted_skipu hg hd hv) (by rw [he, put_act]; exact h.go w hs)⟩
theorem JA.front (i : Nat) {A : Atom} {o : Oper} {r : List (List Oper × Oper)} (hi : L[i]? = some A) (h : JA P E n ops C X o r ρ K (A :: L.eraseIdx i)) : JA P E n ops C X o r ρ K L := ⟨fun w hs => h.go w (hs.front i hi)⟩
theorem JM.front (i : Nat) {A : Atom} {ss : List (List Oper × Oper)} (hi : L[i]? = some A) (h : JM P E n ops C X ss ρ K (A :: L.eraseIdx i)) : JM P E n ops C X ss ρ K L := ⟨fun w hs => h.go w (hs.front i hi)⟩
theorem JM.wit {A : Atom} {p : Prop} {ss : List (List Oper × Oper)} (k : ∀ h, A h → p) (h : p → JM P E n ops C X ss ρ K (A :: L)) : JM P E n ops C X ss ρ K (A :: L) := ⟨fun w hs => (h (hs.fact k)).go w hs⟩
theorem CJ.mix {id : Nat} {l : List Oper} (R : List Atom) (plan : List (List Nat × Nat)) (fin tail : List Nat) (hm : P.follows .mixedOrders = true) (hB : mixB .any l.toArray plan fin tail = true) (hR : SubA R L)
    {ss : List (List Oper × Oper)} (hss : segs l plan = ss) {fs ts : List Oper} (hfs : picks l fin = fs) (hts : picks l tail = ts)
    (h : JM P E n l.toArray (Hold E K R) (fun a' w' => wpQuiet P l.toArray (Hold E K R) (fun a => wpList P l.toArray (Lift E n Φ) ts a w') fs a') ss ρ K L) : CJ P E n (.region id l.toArray true) Φ ρ K L := ⟨fun w hs =>
  wp_region_mix plan fin tail hm hB (Hold E K R) (Hold.sub (Hp.le_refl K) hR hs.drew) hss hfs hts (h.go _ hs.drew)⟩
end
end Go.Proofs.Ytbaaamdljojknaa

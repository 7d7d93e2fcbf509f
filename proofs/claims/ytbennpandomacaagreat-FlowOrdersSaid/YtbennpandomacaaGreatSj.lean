/- Code, and lists of operations, judged at frames that are functions and at memory that is held by atoms. Nothing of the program is here. -/
import Derived.Test.YtbennpandomacaaGreatSp
namespace Go.Proofs.YtbennpandomacaaGreat
open Go.RowKit
set_option linter.unusedVariables false
/-! ### Frames. -/
abbrev Sl0 := Nat → Value
def upd (ρ : Sl0) (d : Nat) (v : Value) : Sl0 := fun i => bif Nat.beq i d then v else ρ i
def ups : List (Nat × Value) → Sl0 → Sl0
  | [], ρ => ρ
  | p :: l, ρ => upd (ups l ρ) p.1 p.2
def Fits : List (Nat × Value) → Sl0 → Prop
  | [], ρ => True
  | p :: l, ρ => ρ p.1 = p.2 ∧ Fits l ρ
theorem upd_self {ρ : Sl0} {d : Nat} {v : Value} (h : ρ d = v) : upd ρ d v = ρ := by
  funext i
  unfold upd
  cases hb : Nat.beq i d with
  | false => rfl
  | true => rw [Nat.eq_of_beq_eq_true hb, h]; rfl
theorem Fits.eq : ∀ {l : List (Nat × Value)} {ρ : Sl0}, Fits l ρ → ups l ρ = ρ
  | [], ρ, _ => rfl
  | p :: l, ρ, h => by
    unfold ups
    rw [Fits.eq h.2, upd_self h.1]
theorem Fits.ex {l : List (Nat × Value)} {ρ : Sl0} (h : Fits l ρ) : ∃ σ, ρ = ups l σ := ⟨ρ, h.eq.symm⟩
def frm (n : Nat) (ρ : Sl0) : Array Value := Array.ofFn fun i : Fin n => ρ i
def act (n : Nat) (ρ : Sl0) : Act := ⟨frm n ρ, []⟩
def ev (n : Nat) (ρ : Sl0) : Operand → Value
  | .tmp t => bif Nat.blt t n then ρ t else undef
  | .const v => v
  | .global g => .pointer (some ⟨g, 0, none⟩)
  | .func f => .func (.func f) #[] #[]
theorem frm_get (n : Nat) (ρ : Sl0) (t : Nat) : (frm n ρ)[t]? = if t < n then some (ρ t) else none := by
  unfold frm
  simp [Array.getElem?_ofFn]
theorem blt_true {a b : Nat} (h : a < b) : Nat.blt a b = true := by rw [Nat.blt_eq]; exact h
theorem blt_false {a b : Nat} (h : ¬ a < b) : Nat.blt a b = false := by rw [Bool.eq_false_iff]; intro h'; rw [Nat.blt_eq] at h'; exact h h'
theorem eval_act (n : Nat) (ρ : Sl0) : (act n ρ).eval = ev n ρ := by
  funext x
  cases x with
  | tmp t =>
    show (frm n ρ).getD t undef = _
    rw [Array.getD_eq_getD_getElem?, frm_get]
    unfold ev
    by_cases h : t < n
    · simp [h, blt_true h]
    · simp [h, blt_false h]
  | const v => rfl
  | global g => rfl
  | func f => rfl
theorem put_act (n : Nat) (ρ : Sl0) (d : Nat) (v : Value) : (act n ρ).put (some d) v = act n (upd ρ d v) := by
  unfold act Act.put
  simp only [Act.mk.injEq, and_true]
  apply Array.ext_getElem?
  intro i
  rw [frm_get, Array.getElem?_setIfInBounds, frm_get]
  have hs : (frm n ρ).size = n := by unfold frm; simp
  rw [hs]
  by_cases hi : i < n
  · by_cases hd : d = i
    · subst hd
      simp [hi, upd]
    · have : Nat.beq i d = false := by
        rw [Bool.eq_false_iff]; intro h; exact hd (Nat.eq_of_beq_eq_true h).symm
      simp [hd, hi, upd, this]
  · by_cases hd : d = i
    · subst hd; simp [hi]
    · simp [hd, hi]
/-! ### Judgements. -/
abbrev Post := Exit → Sl0 → Hp → List Atom → Prop
def Lift (E : En) (n : Nat) (Φ : Post) : Exit → Act → World → Prop := fun e a w => ∃ ρ K L, a = act n ρ ∧ Sep E K L w ∧ Φ e ρ K L
structure CJ (P : Program) (E : En) (n : Nat) (c : Code) (Φ : Post) (ρ : Sl0) (K : Hp) (L : List Atom) : Prop where
  go : ∀ w, Sep E K L w → c.wp P (Lift E n Φ) (act n ρ) w
structure J (P : Program) (E : En) (n : Nat) (ops : Array Oper) (l : List Oper) (Φ : Post) (ρ : Sl0) (K : Hp) (L : List Atom) : Prop where
  go : ∀ w, Sep E K L w → wpList P ops (Lift E n Φ) l (act n ρ) w
def Post.then (N : Sl0 → Hp → List Atom → Prop) (Φ : Post) : Post
  | .normal, ρ, K, L => N ρ K L
  | e, ρ, K, L => Φ e ρ K L
def Post.block (id : Nat) (Φ : Post) : Post
  | .exit id', ρ, K, L => bif Nat.beq id' id then Φ .normal ρ K L else Φ (.exit id') ρ K L
  | e, ρ, K, L => Φ e ρ K L
section
variable {P : Program} {E : En} {n : Nat} {Φ : Post} {ρ : Sl0} {K : Hp} {L : List Atom}
theorem CJ.seq {c1 c2 : Code} (h : CJ P E n c1 (Post.then (fun ρ K L => CJ P E n c2 Φ ρ K L) Φ) ρ K L) : CJ P E n (.seq c1 c2) Φ ρ K L := ⟨fun w hs =>
  wp_seq (wp_mono (h.go w hs) (fun e a w ⟨ρ, K, L, ha, hs, hΦ⟩ => by
    subst ha
    cases e with
    | normal => exact hΦ.go w hs
    | _ => exact ⟨ρ, K, L, rfl, hs, hΦ⟩))⟩
theorem CJ.block {id : Nat} {c : Code} (h : CJ P E n c (Post.block id Φ) ρ K L) : CJ P E n (.block id c) Φ ρ K L := ⟨fun w hs =>
  wp_block (wp_mono (h.go w hs) (fun e a w ⟨ρ, K, L, ha, hs, hΦ⟩ => by
    subst ha
    cases e with
    | exit id' =>
      show if id' = id then _ else _
      unfold Post.block at hΦ
      by_cases hid : id' = id
      · subst hid
        rw [if_pos rfl]
        simp only [show Nat.beq id' id' = true from Nat.beq_refl id', cond_true] at hΦ
        exact ⟨ρ, K, L, rfl, hs, hΦ⟩
      · rw [if_neg hid]
        have : Nat.beq id' id = false := by rw [Bool.eq_false_iff]; intro h; exact hid (Nat.eq_of_beq_eq_true h)
        simp only [this, cond_false] at hΦ
        exact ⟨ρ, K, L, rfl, hs, hΦ⟩
    | _ => exact ⟨ρ, K, L, rfl, hs, hΦ⟩))⟩
theorem CJ.cond {c : Operand} {x y : Code} {t : Bool} (hc : ev n ρ c = .bool t) (ht : t = true → CJ P E n x Φ ρ K L) (hf : t = false → CJ P E n y Φ ρ K L) : CJ P E n (.cond c x y) Φ ρ K L := ⟨fun w hs =>
  wp_cond_split (by rw [eval_act]; exact hc) (fun h => (ht h).go w hs) (fun h => (hf h).go w hs)⟩
theorem CJ.skip (h : Φ .normal ρ K L) : CJ P E n .skip Φ ρ K L := ⟨fun w hs => wp_skip ⟨ρ, K, L, rfl, hs, h⟩⟩
theorem CJ.exit {id : Nat} (h : Φ (.exit id) ρ K L) : CJ P E n (.exit id) Φ ρ K L := ⟨fun w hs => wp_exit ⟨ρ, K, L, rfl, hs, h⟩⟩
theorem CJ.ret (h : Φ .ret ρ K L) : CJ P E n .ret Φ ρ K L := ⟨fun w hs => wp_ret ⟨ρ, K, L, rfl, hs, h⟩⟩
theorem CJ.mono {c : Code} {Φ' : Post} (h : CJ P E n c Φ' ρ K L) (k : ∀ e ρ K L, Φ' e ρ K L → Φ e ρ K L) : CJ P E n c Φ ρ K L := ⟨fun w hs =>
  wp_mono (h.go w hs) (fun e a w ⟨ρ, K, L, ha, hs, hΦ⟩ => ⟨ρ, K, L, ha, hs, k _ _ _ _ hΦ⟩)⟩
theorem CJ.region {id : Nat} {l : List Oper} (h : J P E n l.toArray l Φ ρ K L) : CJ P E n (.region id l.toArray false) Φ ρ K L := ⟨fun w hs => wp_region_lit (h.go w hs)⟩
theorem J.nil {ops : Array Oper} (h : Φ .normal ρ K L) : J P E n ops [] Φ ρ K L := ⟨fun w hs => wpList_nil ⟨ρ, K, L, rfl, hs, h⟩⟩
/-- A change of what is held, by a law of Sep. -/
theorem J.by {ops : Array Oper} {l : List Oper} {K' : Hp} {L' : List Atom} (k : ∀ w, Sep E K L w → Sep E K' L' w) (h : J P E n ops l Φ ρ K' L') : J P E n ops l Φ ρ K L := ⟨fun w hs => h.go w (k w hs)⟩
theorem CJ.by {c : Code} {K' : Hp} {L' : List Atom} (k : ∀ w, Sep E K L w → Sep E K' L' w) (h : CJ P E n c Φ ρ K' L') : CJ P E n c Φ ρ K L := ⟨fun w hs => h.go w (k w hs)⟩
theorem J.front (i : Nat) {A : Atom} {ops : Array Oper} {l : List Oper} (hi : L[i]? = some A) (h : J P E n ops l Φ ρ K (A :: L.eraseIdx i)) : J P E n ops l Φ ρ K L := ⟨fun w hs => h.go w (hs.front i hi)⟩
theorem CJ.front (i : Nat) {A : Atom} {c : Code} (hi : L[i]? = some A) (h : CJ P E n c Φ ρ K (A :: L.eraseIdx i)) : CJ P E n c Φ ρ K L := ⟨fun w hs => h.go w (hs.front i hi)⟩
theorem J.wit {A : Atom} {p : Prop} {ops : Array Oper} {l : List Oper} (k : ∀ h, A h → p) (h : p → J P E n ops l Φ ρ K (A :: L)) : J P E n ops l Φ ρ K (A :: L) := ⟨fun w hs => (h (hs.fact k)).go w hs⟩
theorem CJ.wit {A : Atom} {p : Prop} {c : Code} (k : ∀ h, A h → p) (h : p → CJ P E n c Φ ρ K (A :: L)) : CJ P E n c Φ ρ K (A :: L) := ⟨fun w hs => (h (hs.fact k)).go w hs⟩
theorem CJ.ex {α : Type} {A : α → Atom} {c : Code} (h : ∀ x, CJ P E n c Φ ρ K (A x :: L)) : CJ P E n c Φ ρ K (exA A :: L) := ⟨fun w hs => let ⟨x, hx⟩ := hs.open; (h x).go w hx⟩
theorem CJ.star {A B : Atom} {c : Code} (h : CJ P E n c Φ ρ K (A :: B :: L)) : CJ P E n c Φ ρ K (star A B :: L) := ⟨fun w hs => h.go w hs.split⟩
/-- An operation that yields a value, and leaves all as it is. -/
def Hold (E : En) (K : Hp) (R : List Atom) (w : World) : Prop := ∃ K' L', K.le K' ∧ Sep E K' (R ++ L') w
theorem Hold.of_sep {w : World} (h : Sep E K L w) : Hold E K L w := ⟨K, [], Hp.le_refl K, by simpa using h⟩
def Val (P : Program) (n : Nat) (C : World → Prop) (ρ : Sl0) (o : Oper) (v : Value) : Prop := ∀ w, C w → (execOp (ev n ρ) o).run P w = .ok (.value v) w
theorem J.val {ops : Array Oper} {rest : List Oper} {o : Oper} {d : Nat} {v : Value} (hg : o.guard = none) (hd : o.dst = some d) (hv : Val P n (Hold E K L) ρ o v) (h : J P E n ops rest Φ (upd ρ d v) K L) : J P E n ops (o :: rest) Φ ρ K L := ⟨fun w hs =>
  wpList_plain hg (fun X hX => by
    unfold Oper.wp
    rw [eval_act, hv w (Hold.of_sep hs), Oper.upon_value, hd, put_act]
    exact hX _ _ (h.go w hs))⟩
/-- An operation that turns what is held. -/
structure Ao (P : Program) (E : En) (n : Nat) (o : Oper) (ρ : Sl0) (K : Hp) (L : List Atom) (N : Sl0 → Hp → List Atom → Prop) : Prop where
  go : ∀ w, Sep E K L w → ∀ (X : Act → World → Prop) (Q : Exit → Act → World → Prop), (∀ ρ' K' L' w', N ρ' K' L' → Sep E K' L' w' → X (act n ρ') w') → o.wp P (act n ρ) w X Q
theorem J.op {ops : Array Oper} {rest : List Oper} {o : Oper} {N : Sl0 → Hp → List Atom → Prop} (hg : o.guard = none) (hv : Ao P E n o ρ K L N) (h : ∀ ρ' K' L', N ρ' K' L' → J P E n ops rest Φ ρ' K' L') : J P E n ops (o :: rest) Φ ρ K L := ⟨fun w hs =>
  wpList_plain hg (fun X hX => hv.go w hs X _ (fun ρ' K' L' w' hN hs' => hX _ _ ((h ρ' K' L' hN).go w' hs')))⟩
/-- Guards. -/
theorem yielded_act {ops : Array Oper} {g d : Nat} {b : Bool} (hg : (ops[g]?).bind (·.dst) = some d) (hv : ev n ρ (.tmp d) = .bool b) : yielded ops (frm n ρ) g = some b := by
  unfold yielded
  rw [hg]
  simp only [Option.bind_some]
  rw [frm_get]
  replace hv : (bif Nat.blt d n then ρ d else undef) = .bool b := hv
  by_cases h : d < n
  · rw [blt_true h] at hv
    simp only [cond_true] at hv
    simp [h, hv]
  · rw [blt_false h] at hv
    simp [undef] at hv
theorem J.run {ops : Array Oper} {rest : List Oper} {o : Oper} {g d : Nat} {b c : Bool} (hg : o.guard = some (g, c)) (hd : (ops[g]?).bind (·.dst) = some d) (hv : ev n ρ (.tmp d) = .bool b) (hb : b = c)
    (h : J P E n ops ({ o with guard := none } :: rest) Φ ρ K L) : J P E n ops (o :: rest) Φ ρ K L := ⟨fun w hs => by
  have h' := h.go w hs
  have hw : Region.wanted o (yielded ops (act n ρ).tmps) = true := by
    unfold Region.wanted; rw [hg]
    show (yielded ops (frm n ρ) g == some c) = true
    rw [yielded_act hd hv, hb]; simp
  unfold wpList at h' ⊢
  rw [if_pos hw]
  rw [if_pos (by rfl)] at h'
  exact h'⟩
theorem J.skip {ops : Array Oper} {rest : List Oper} {o : Oper} {g d e : Nat} {b c : Bool} (hg : o.guard = some (g, c)) (he : o.dst = some e) (hd : (ops[g]?).bind (·.dst) = some d) (hv : ev n ρ (.tmp d) = .bool b) (hb : b = !c)
    (h : J P E n ops rest Φ (upd ρ e undef) K L) : J P E n ops (o :: rest) Φ ρ K L := ⟨fun w hs => by
  have hw : Region.wanted o (yielded ops (act n ρ).tmps) = false := by
    unfold Region.wanted; rw [hg]
    show (yielded ops (frm n ρ) g == some c) = false
    rw [yielded_act hd hv, hb]; cases c <;> rfl
  refine wpList_skip hw ?_
  rw [he, put_act]
  exact h.go w hs⟩
theorem J.skipu {ops : Array Oper} {rest : List Oper} {o : Oper} {g d e : Nat} {c : Bool} (hg : o.guard = some (g, c)) (he : o.dst = some e) (hd : (ops[g]?).bind (·.dst) = some d) (hv : ev n ρ (.tmp d) = undef)
    (h : J P E n ops rest Φ (upd ρ e undef) K L) : J P E n ops (o :: rest) Φ ρ K L := ⟨fun w hs => by
  have hw : Region.wanted o (yielded ops (act n ρ).tmps) = false := by
    unfold Region.wanted; rw [hg]
    show (yielded ops (frm n ρ) g == some c) = false
    have : yielded ops (frm n ρ) g = none := by
      unfold yielded
      rw [hd]
      simp only [Option.bind_some]
      rw [frm_get]
      replace hv : (bif Nat.blt d n then ρ d else undef) = undef := hv
      by_cases h : d < n
      · rw [blt_true h] at hv
        simp only [cond_true] at hv
        simp [h, hv, undef]
      · simp [h]
    rw [this]; rfl
  refine wpList_skip hw ?_
  rw [he, put_act]
  exact h.go w hs⟩
theorem wpList_post {P : Program} {ops : Array Oper} {Q Q' : Exit → Act → World → Prop} (k : ∀ e a w, Q e a w → Q' e a w) : ∀ {l : List Oper} {a : Act} {w : World}, wpList P ops Q l a w → wpList P ops Q' l a w
  | [], a, w, h => k _ _ _ h
  | o :: l, a, w, h => by
    unfold wpList at h ⊢
    have hm : ∀ a' w', wpList P ops Q l a' w' → wpList P ops Q' l a' w' := fun a' w' h' => wpList_post k h'
    split
    · rename_i hw
      rw [if_pos hw] at h
      rcases h with h | ⟨h1, a', w', h⟩
      · left
        unfold Oper.wp at h ⊢
        generalize (execOp a.eval o).run P w = r at h ⊢
        cases r with
        | ok nx w' =>
          cases nx with
          | value v => exact hm _ _ h
          | skip => exact hm _ _ h
          | defer d => exact hm _ _ h
          | enter f args =>
            refine Calls.mono (R := _) h ?_
            intro e w'' hh
            cases e with
            | returned v => exact hm _ _ hh
            | panicked ch => exact k _ _ _ hh
            | outgrown => obtain ⟨a', w', hh⟩ := hh; exact ⟨a', w', k _ _ _ hh⟩
          | row r args => exact Rows.mono h (fun v w'' hh => hm _ _ hh)
          | _ => exact h.elim
        | halt x w' =>
          cases x with
          | panic v => exact k _ _ _ h
          | _ => exact h.elim
      · exact .inr ⟨h1, a', w', k _ _ _ h⟩
    · rename_i hw
      rw [if_neg hw] at h
      exact hm _ _ h
/-- The list in two. -/
theorem wpList_app {P : Program} {ops : Array Oper} {Q : Exit → Act → World → Prop} : ∀ {l1 l2 : List Oper} {a : Act} {w : World}, wpList P ops (Exit.then (wpList P ops Q l2) Q) l1 a w → wpList P ops Q (l1 ++ l2) a w
  | [], l2, a, w, h => h
  | o :: l1, l2, a, w, h => by
    unfold wpList at h
    rw [List.cons_append]
    unfold wpList
    have hm : ∀ a' w', wpList P ops (Exit.then (wpList P ops Q l2) Q) l1 a' w' → wpList P ops Q (l1 ++ l2) a' w' := fun a' w' h' => wpList_app h'
    split
    · rename_i hw
      rw [if_pos hw] at h
      rcases h with h | ⟨h1, a', w', h⟩
      · left
        unfold Oper.wp at h ⊢
        generalize (execOp a.eval o).run P w = r at h ⊢
        cases r with
        | ok nx w' =>
          cases nx with
          | value v => exact hm _ _ h
          | skip => exact hm _ _ h
          | defer d => exact hm _ _ h
          | enter f args =>
            refine Calls.mono (R := _) h ?_
            intro e w'' hh
            cases e with
            | returned v => exact hm _ _ hh
            | panicked ch => exact hh
            | outgrown => obtain ⟨a', w', hh⟩ := hh; exact ⟨a', w', hh⟩
          | row r args => exact Rows.mono h (fun v w'' hh => hm _ _ hh)
          | _ => exact h.elim
        | halt x w' =>
          cases x with
          | panic v => exact h
          | _ => exact h.elim
      · exact .inr ⟨h1, a', w', h⟩
    · rename_i hw
      rw [if_neg hw] at h
      exact hm _ _ h
theorem J.cut (k : Nat) {ops : Array Oper} {l : List Oper} (h : J P E n ops (l.take k) (Post.then (fun ρ K L => J P E n ops (l.drop k) Φ ρ K L) Φ) ρ K L) : J P E n ops l Φ ρ K L := ⟨fun w hs => by
  have h' := h.go w hs
  rw [← List.take_append_drop k l]
  refine wpList_app ?_
  refine wpList_post ?_ h'
  intro e a w ⟨ρ, K, L, ha, hs, hΦ⟩
  subst ha
  cases e with
  | normal => exact hΦ.go w hs
  | _ => exact ⟨ρ, K, L, rfl, hs, hΦ⟩⟩
theorem Sep.dropAt {w : World} (i : Nat) {A : Atom} (hi : L[i]? = some A) (h : Sep E K L w) : Sep E K (L.eraseIdx i) w := (h.front i hi).drop
theorem J.dropAt (i : Nat) {A : Atom} {ops : Array Oper} {l : List Oper} (hi : L[i]? = some A) (h : J P E n ops l Φ ρ K (L.eraseIdx i)) : J P E n ops l Φ ρ K L := ⟨fun w hs => h.go w (hs.dropAt i hi)⟩
theorem CJ.dropAt (i : Nat) {A : Atom} {c : Code} (hi : L[i]? = some A) (h : CJ P E n c Φ ρ K (L.eraseIdx i)) : CJ P E n c Φ ρ K L := ⟨fun w hs => h.go w (hs.dropAt i hi)⟩
/-- Ways meet again. -/
theorem CJ.join {σ τ : Type} {o : σ ⊕ τ} {c : Code} {N : Sl0 → Hp → List Atom → Prop} (M : σ → Sl0 → Hp → List Atom → Prop)
    (h1 : CJ P E n c (fun e ρ K L => (e = .normal ∧ ∃ s, o = .inl s ∧ M s ρ K L) ∨ (e ≠ .normal ∧ Φ e ρ K L)) ρ K L) (h2 : ∀ s ρ K L, o = .inl s → M s ρ K L → N ρ K L) : CJ P E n c (Post.then N Φ) ρ K L := h1.mono (fun e ρ K L h => by
  rcases h with ⟨rfl, s, hs, hM⟩ | ⟨hne, h⟩
  · exact h2 s ρ K L hs hM
  · cases e with
    | normal => exact absurd rfl hne
    | _ => exact h)
theorem CJ.meet {c : Code} {N : Sl0 → Hp → List Atom → Prop} (M : Sl0 → Hp → List Atom → Prop) (h1 : CJ P E n c (fun e ρ K L => e = .normal ∧ M ρ K L) ρ K L) (h2 : ∀ ρ K L, M ρ K L → N ρ K L) : CJ P E n c (Post.then N Φ) ρ K L := h1.mono (fun e ρ K L ⟨he, h⟩ => by subst he; exact h2 ρ K L h)
theorem J.meet {ops : Array Oper} {l : List Oper} {N : Sl0 → Hp → List Atom → Prop} (M : Sl0 → Hp → List Atom → Prop) (h1 : J P E n ops l (fun e ρ K L => e = .normal ∧ M ρ K L) ρ K L) (h2 : ∀ ρ K L, M ρ K L → N ρ K L) : J P E n ops l (Post.then N Φ) ρ K L := ⟨fun w hs =>
  wpList_post (fun e a w ⟨ρ, K, L, ha, hs, he, h⟩ => by subst he; exact ⟨ρ, K, L, ha, hs, h2 ρ K L h⟩) (h1.go w hs)⟩
theorem CJ.condK {c : Operand} {x y : Code} {t b : Bool} (hc : ev n ρ c = .bool t) (hb : t = b) (h : CJ P E n (bif b then x else y) Φ ρ K L) : CJ P E n (.cond c x y) Φ ρ K L := by
  subst hb
  refine CJ.cond hc (fun ht => ?_) (fun ht => ?_)
  · subst ht; exact h
  · subst ht; exact h
end
end Go.Proofs.YtbennpandomacaaGreat

/- Memory as what is known for good (K) and what is held alone (a list of atoms); code and operations judged by these. Nothing of the program is here. -/
import Derived.Test.YtbennpandomacaaGreatOwn
import Derived.Test.YtbennpandomacaaGreatMix
namespace Go.Proofs.YtbennpandomacaaGreat
open Go.RowKit
set_option linter.unusedVariables false
abbrev Hp := Nat → Option Obj
def Hp.le (a b : Hp) : Prop := ∀ n o, a n = some o → b n = some o
def Hp.join (a b : Hp) : Hp := fun n => (a n).or (b n)
theorem Hp.le_refl (a : Hp) : a.le a := fun _ _ h => h
theorem Hp.le_trans {a b c : Hp} (h : a.le b) (k : b.le c) : a.le c := fun n o e => k n o (h n o e)
theorem Hp.le.trans {a b c : Hp} (h : a.le b) (k : b.le c) : a.le c := fun n o e => k n o (h n o e)
theorem Hp.le_join (a b : Hp) : a.le (a.join b) := fun n o e => by simp [Hp.join, e]
theorem Hp.join_le {a b c : Hp} (h : a.le c) (k : b.le c) : (a.join b).le c := fun n o e => by
  unfold Hp.join at e
  cases ha : a n with
  | none => rw [ha] at e; exact k n o (by simpa using e)
  | some x => rw [ha] at e; simp at e; subst e; exact h n x ha
theorem Hp.join_right {a b : Hp} {n : Nat} {o : Obj} (h : b n = some o) (ha : a n = none) : a.join b n = some o := by simp [Hp.join, h, ha]
theorem Hp.join_some {a b : Hp} {n : Nat} {o : Obj} (h : a.join b n = some o) : a n = some o ∨ (a n = none ∧ b n = some o) := by
  unfold Hp.join at h
  cases ha : a n with
  | none => rw [ha] at h; exact .inr ⟨rfl, by simpa using h⟩
  | some x => rw [ha] at h; exact .inl (by simpa using h)
theorem Hp.join_none {a b : Hp} {n : Nat} (h : a.join b n = none) : a n = none ∧ b n = none := by
  unfold Hp.join at h
  cases ha : a n with
  | none => rw [ha] at h; exact ⟨rfl, by simpa using h⟩
  | some x => rw [ha] at h; simp at h
def Hp.of (w : World) : Hp := fun n => w.heap[n]?
def Hp.nil : Hp := fun _ => none
theorem Hp.nil_le (a : Hp) : Hp.nil.le a := fun _ _ h => by cases h
/-- What no step turns. -/
structure En where
  os : Os
  tape : Nat → Question → Nat
  out : Array (Nat × ByteArray)
def En.of (w : World) : En := ⟨w.os, w.tape, w.output⟩
def En.at (E : En) (w : World) : Prop := w.os = E.os ∧ w.tape = E.tape ∧ w.output = E.out
abbrev Atom := Hp → Prop
def Sep (E : En) : Hp → List Atom → World → Prop
  | K, [], w => E.at w ∧ K.le (Hp.of w)
  | K, A :: L, w => ∃ h : Hp, A h ∧ (∀ n o, h n = some o → K n = none) ∧ Sep E (K.join h) L w
section
variable {E : En}
theorem Sep.sub : ∀ {L : List Atom} {K : Hp} {w : World}, Sep E K L w → K.le (Hp.of w)
  | [], K, w, h => h.2
  | A :: L, K, w, ⟨h, _, _, hs⟩ => (Hp.le_join K h).trans (Sep.sub hs)
theorem Sep.env : ∀ {L : List Atom} {K : Hp} {w : World}, Sep E K L w → E.at w
  | [], K, w, h => h.1
  | A :: L, K, w, ⟨h, _, _, hs⟩ => Sep.env hs
/-- The step: K2 in the place of K1, in another world; what is not K1's stays. -/
theorem Sep.move {w w' : World} (he : E.at w → E.at w') : ∀ {L : List Atom} {K1 K2 : Hp}, Sep E K1 L w → K2.le (Hp.of w') →
    (∀ n o, w.heap[n]? = some o → K1 n = none → K2 n = none ∧ w'.heap[n]? = some o) → Sep E K2 L w'
  | [], K1, K2, h, h2, _ => ⟨he h.1, h2⟩
  | A :: L, K1, K2, ⟨h, ha, hd, hs⟩, h2, h3 => by
    have hle := (show Hp.le h (Hp.of w) from fun n o e => Sep.sub hs n o (Hp.join_right e (hd n o e)))
    refine ⟨h, ha, fun n o e => (h3 n o (hle n o e) (hd n o e)).1, Sep.move he hs ?_ ?_⟩
    · exact Hp.join_le h2 (fun n o e => (h3 n o (hle n o e) (hd n o e)).2)
    · intro n o e k
      obtain ⟨k1, k2⟩ := Hp.join_none k
      obtain ⟨k3, k4⟩ := h3 n o e k1
      exact ⟨by simp [Hp.join, k3, k2], k4⟩
theorem Sep.weaken {L : List Atom} {K1 K2 : Hp} {w : World} (h : Sep E K1 L w) (k : K2.le K1) : Sep E K2 L w :=
  Sep.move id h (k.trans h.sub) (fun n o e h1 => by
    refine ⟨?_, e⟩
    cases h2 : K2 n with
    | none => rfl
    | some x => rw [k n x h2] at h1; cases h1)
theorem Sep.drop {A : Atom} {L : List Atom} {K : Hp} {w : World} (h : Sep E K (A :: L) w) : Sep E K L w := by
  obtain ⟨h, _, _, hs⟩ := h
  exact hs.weaken (Hp.le_join K h)
theorem Hp.join_swap {a b c : Hp} (h : ∀ n o, c n = some o → a.join b n = none) : (a.join b).join c = (a.join c).join b := by
  funext n
  unfold Hp.join
  cases ha : a n with
  | some x => simp
  | none =>
    cases hc : c n with
    | none => simp
    | some y =>
      have := h n y hc
      simp [Hp.join, ha] at this
      simp [this]
theorem Sep.swap {A B : Atom} {L : List Atom} {K : Hp} {w : World} (h : Sep E K (A :: B :: L) w) : Sep E K (B :: A :: L) w := by
  obtain ⟨h1, ha, hd, h2, hb, hd2, hs⟩ := h
  refine ⟨h2, hb, fun n o e => (Hp.join_none (hd2 n o e)).1, h1, ha, fun n o e => ?_, ?_⟩
  · have := hd n o e
    cases h' : h2 n with
    | none => simp [Hp.join, this, h']
    | some x =>
      have := (Hp.join_none (hd2 n x h')).2
      rw [e] at this; cases this
  · rw [Hp.join_swap hd2] at hs
    exact hs
theorem Sep.front : ∀ (i : Nat) {A : Atom} {L : List Atom} {K : Hp} {w : World}, L[i]? = some A → Sep E K L w → Sep E K (A :: L.eraseIdx i) w
  | 0, A, B :: L, K, w, h, hs => by simp at h; subst h; exact hs
  | i + 1, A, B :: L, K, w, h, hs => by
    obtain ⟨hb, h1, h2, h3⟩ := hs
    exact Sep.swap ⟨hb, h1, h2, Sep.front i (by simpa using h) h3⟩
  | i, A, [], K, w, h, hs => by simp at h
/-- What is held alone is turned, or new; the rest stays. -/
theorem Sep.turn {A B : Atom} {L : List Atom} {K : Hp} {w w' : World} (hs : Sep E K (A :: L) w) (he : E.at w → E.at w')
    (h : ∀ h, A h → h.le (Hp.of w) → ∃ h', B h' ∧ (∀ n o, h' n = some o → w'.heap[n]? = some o ∧ (h n = none → w.heap[n]? = none)) ∧ ∀ n o, w.heap[n]? = some o → h n = none → w'.heap[n]? = some o) : Sep E K (B :: L) w' := by
  obtain ⟨h1, ha, hd, hs⟩ := hs
  have hle := (show Hp.le h1 (Hp.of w) from fun n o e => hs.sub n o (Hp.join_right e (hd n o e)))
  obtain ⟨h2, hb, hn, hk⟩ := h h1 ha hle
  have hK := (Hp.le_join K h1).trans hs.sub
  have hd2 : ∀ n o, h2 n = some o → K n = none := fun n o e => by
    cases hKn : K n with
    | none => rfl
    | some x =>
      have e1 : h1 n = none := by
        cases e1 : h1 n with
        | none => rfl
        | some y => rw [hd n y e1] at hKn; cases hKn
      have := (hn n o e).2 e1
      have h3 := hK n x hKn
      unfold Hp.of at h3
      rw [this] at h3; cases h3
  refine ⟨h2, hb, hd2, Sep.move he hs ?_ ?_⟩
  · refine Hp.join_le (fun n o e => ?_) (fun n o e => (hn n o e).1)
    refine hk n o (hK n o e) ?_
    cases e1 : h1 n with
    | none => rfl
    | some y => rw [hd n y e1] at e; cases e
  · intro n o e k
    obtain ⟨k1, k2⟩ := Hp.join_none k
    refine ⟨?_, hk n o e k2⟩
    cases e2 : h2 n with
    | none => simp [Hp.join, k1, e2]
    | some y => rw [(hn n y e2).2 k2] at e; cases e
theorem Hp.join_nil (K : Hp) : K.join Hp.nil = K := by funext n; simp [Hp.join, Hp.nil]
def emp : Atom := fun h => h = Hp.nil
theorem Sep.emp {L : List Atom} {K : Hp} {w : World} (h : Sep E K L w) : Sep E K (emp :: L) w :=
  ⟨Hp.nil, rfl, fun _ _ e => (by cases e), (by rw [Hp.join_nil]; exact h)⟩
def star (A B : Atom) : Atom := fun h => ∃ h1 h2, A h1 ∧ B h2 ∧ (∀ n o, h2 n = some o → h1 n = none) ∧ h = h1.join h2
theorem Hp.join_assoc (a b c : Hp) : (a.join b).join c = a.join (b.join c) := by
  funext n; unfold Hp.join; cases a n <;> simp
theorem Sep.split {A B : Atom} {L : List Atom} {K : Hp} {w : World} (h : Sep E K (star A B :: L) w) : Sep E K (A :: B :: L) w := by
  obtain ⟨h, ⟨h1, h2, ha, hb, hd, rfl⟩, hK, hs⟩ := h
  refine ⟨h1, ha, fun n o e => hK n o (Hp.le_join h1 h2 n o e), h2, hb, fun n o e => ?_, ?_⟩
  · have e1 := hd n o e
    simp [Hp.join, e1, hK n o (Hp.join_right e e1)]
  · rw [Hp.join_assoc]; exact hs
theorem Sep.join {A B : Atom} {L : List Atom} {K : Hp} {w : World} (h : Sep E K (A :: B :: L) w) : Sep E K (star A B :: L) w := by
  obtain ⟨h1, ha, hd, h2, hb, hd2, hs⟩ := h
  refine ⟨h1.join h2, ⟨h1, h2, ha, hb, fun n o e => (Hp.join_none (hd2 n o e)).2, rfl⟩, fun n o e => ?_, ?_⟩
  · rcases Hp.join_some e with e | ⟨_, e⟩
    · exact hd n o e
    · exact (Hp.join_none (hd2 n o e)).1
  · rw [← Hp.join_assoc]; exact hs
def exA {α : Type} (A : α → Atom) : Atom := fun h => ∃ x, A x h
theorem Sep.open {α : Type} {A : α → Atom} {L : List Atom} {K : Hp} {w : World} (h : Sep E K (exA A :: L) w) : ∃ x, Sep E K (A x :: L) w := by
  obtain ⟨h, ⟨x, ha⟩, hd, hs⟩ := h; exact ⟨x, h, ha, hd, hs⟩
theorem Sep.mono {A B : Atom} {L : List Atom} {K : Hp} {w : World} (h : Sep E K (A :: L) w) (k : ∀ h, A h → B h) : Sep E K (B :: L) w := by
  obtain ⟨h, ha, hd, hs⟩ := h; exact ⟨h, k h ha, hd, hs⟩
/-- A fact that the first atom has. -/
theorem Sep.fact {A : Atom} {p : Prop} {L : List Atom} {K : Hp} {w : World} (h : Sep E K (A :: L) w) (k : ∀ h, A h → p) : p := by
  obtain ⟨h, ha, _⟩ := h; exact k h ha
theorem En.of_fr {S : List Nat} {w w' : World} (f : Fr S w w') (h : E.at w) : E.at w' := ⟨f.os.trans h.1, f.tape.trans h.2.1, f.output.trans h.2.2⟩
theorem Hp.of_fr {w w' : World} (f : Fr [] w w') : (Hp.of w).le (Hp.of w') := fun n o e => f.keeps e (by simp)
theorem Sep.fr {L : List Atom} {K : Hp} {w w' : World} (h : Sep E K L w) (f : Fr [] w w') : Sep E K L w' :=
  Sep.move (En.of_fr f) h (h.sub.trans (Hp.of_fr f)) (fun n o e k => ⟨k, Hp.of_fr f n o e⟩)
theorem Sep.drew {L : List Atom} {K : Hp} {w : World} (h : Sep E K L w) : Sep E K L w.drew := h.fr (Fr.refl [] w).drew
theorem Sep.start (w : World) : Sep (En.of w) (Hp.of w) [] w := ⟨⟨rfl, rfl, rfl⟩, Hp.le_refl _⟩
theorem Sep.below {w w' : World} {K : Hp} {L : List Atom} (h : Sep (En.of w) K L w') (k : (Hp.of w).le K) : Below w.heap.size w w' := by
  obtain ⟨h1, h2, h3⟩ := h.env
  have hk := k.trans h.sub
  have hb : ∀ n, n < w.heap.size → w'.heap[n]? = w.heap[n]? := fun n hn => by
    have e : w.heap[n]? = some w.heap[n] := Array.getElem?_eq_getElem hn
    rw [e]; exact hk n _ e
  refine ⟨h1, h2, h3, ?_, hb⟩
  rcases Nat.lt_or_ge w'.heap.size w.heap.size with h' | h'
  · have := hb _ h'
    rw [Array.getElem?_eq_none (Nat.le_refl _), Array.getElem?_eq_getElem h'] at this
    cases this
  · exact h'
end
/-! ### Atoms: a block of cells; a row that a slice owns. -/
def one (b : Nat) (o : Obj) : Hp := fun n => if n = b then some o else none
theorem one_some {b n : Nat} {o x : Obj} (h : one b o n = some x) : n = b ∧ x = o := by
  unfold one at h; split at h
  · simp at h; exact ⟨by assumption, h.symm⟩
  · cases h
def Cl (b : Nat) (t : TypeId) (cs : List Value) : Atom := fun h => h = one b (.cells cs.toArray t (0, 0))
/-- The slice v holds alone the cells cs, n elements of them, at the head of a block of elements e. -/
def Rw (e : TypeId) (k : Nat) (v : Value) (n : Nat) (cs : List Value) : Atom := fun h =>
  cs.length = n * k ∧ ((v = .slice none n 0 ∧ n = 0 ∧ h = Hp.nil) ∨
    ∃ g cap, ∃ cur : Array Value, v = .slice (some ⟨g, 0, none⟩) n cap ∧ h = one g (.cells cur e (0, 0)) ∧ n ≤ cap ∧ cap ≤ maxLen ∧ cur.size = cap * k ∧ cur.toList.take (n * k) = cs)
section
variable {E : En} {L : List Atom} {K : Hp} {w : World}
theorem Sep.alloc (h : Sep E K L w) (t : TypeId) (cs : Array Value) : Sep E K (Cl w.heap.size t cs.toList :: L) (w.alloc (.cells cs t)) :=
  Sep.turn h.emp (fun e => e) (fun h0 ha _ => by
    unfold _root_.Go.Proofs.YtbennpandomacaaGreat.emp at ha; subst ha
    refine ⟨_, rfl, fun n o e => ?_, fun n o e _ => ?_⟩
    · obtain ⟨rfl, rfl⟩ := one_some e
      exact ⟨by simpa using alloc_new w _, fun _ => Array.getElem?_eq_none (Nat.le_refl _)⟩
    · rw [Below.heap_alloc _ _ _ (lt_of_block e)]; exact e)
theorem Sep.cl {b : Nat} {t : TypeId} {cs : List Value} (h : Sep E K (Cl b t cs :: L) w) : w.heap[b]? = some (.cells cs.toArray t (0, 0)) := by
  obtain ⟨h, rfl, hd, hs⟩ := h
  exact hs.sub b _ (Hp.join_right (by simp [one]) (hd b (.cells cs.toArray t (0, 0)) (by simp [one])))
theorem Sep.setCell {b : Nat} {t : TypeId} {cs : List Value} (h : Sep E K (Cl b t cs :: L) w) (i : Nat) (v : Value) : Sep E K (Cl b t (cs.set i v) :: L) (w.setCell ⟨b, i, none⟩ v) := by
  have hb := h.cl
  refine Sep.turn h (fun e => e) (fun h0 ha _ => ?_)
  unfold Cl at ha; subst ha
  refine ⟨_, rfl, fun n o e => ?_, fun n o e h1 => ?_⟩
  · obtain ⟨rfl, rfl⟩ := one_some e
    refine ⟨?_, fun h => by simp [one] at h⟩
    rw [block_setCell hb]; simp
  · have hn : n ≠ b := fun e => by subst e; simp [one] at h1
    show (w.heap.modify b _)[n]? = some o
    rw [Array.getElem?_modify]; simp [Ne.symm hn, e]
end
end Go.Proofs.YtbennpandomacaaGreat

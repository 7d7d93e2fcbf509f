import Derived.Test.YtmdmdmaekjpfjaaGreatQ02
namespace Go.Proofs.YtmdmdmaekjpfjaaGreat
open Go.RowKit Lb
set_option linter.unusedVariables false
set_option linter.unnecessarySimpa false
set_option linter.unusedSimpArgs false
abbrev Ps (α : Type) := List UInt8 → Int ⊕ (α × Nat)
section
variable {α β γ δ σ ρ : Type}
def pret (x : α) : Ps α := fun _ => .inr (x, 0)
def pfail (e : Int) : Ps α := fun _ => .inl e
def pb (p : Ps α) (q : α → Ps β) : Ps β := fun s =>
  match p s with
  | .inl e => .inl e
  | .inr (x, m) => match q x (s.drop m) with
    | .inl e => .inl e
    | .inr (y, k) => .inr (y, m + k)
def pnum : Ps Int := fun s => if (take s).2.2 = 0 then .inr ((take s).1, (take s).2.1.toNat) else .inl (take s).2.2
def pmany (p : Ps α) : Nat → Ps (List α)
  | 0 => pret []
  | n + 1 => pb p fun x => pb (pmany p n) fun xs => pret (x :: xs)
def pcount (most : Int) : Ps Int := pb pnum fun n => if most < n then pfail 6 else pret n
def plist (most : Int) (p : Ps α) : Ps (List α) := pb (pcount most) fun n => pmany p n.toNat
def pmap (f : α → β) (p : Ps α) : Ps β := pb p fun x => pret (f x)
theorem pb_inr {p : Ps α} {q : α → Ps β} {s : List UInt8} {y : β} {k : Nat} (h : pb p q s = .inr (y, k)) : ∃ x m j, p s = .inr (x, m) ∧ q x (s.drop m) = .inr (y, j) ∧ k = m + j := by
  unfold pb at h
  cases h1 : p s with
  | inl e => rw [h1] at h; cases h
  | inr xm =>
    obtain ⟨x, m⟩ := xm
    rw [h1] at h
    dsimp only at h
    cases h2 : q x (s.drop m) with
    | inl e => rw [h2] at h; cases h
    | inr yj =>
      obtain ⟨y', j⟩ := yj
      rw [h2] at h
      cases h
      exact ⟨x, m, j, rfl, h2, rfl⟩
theorem pb_inl {p : Ps α} {q : α → Ps β} {s : List UInt8} {e : Int} (h : pb p q s = .inl e) : p s = .inl e ∨ ∃ x m, p s = .inr (x, m) ∧ q x (s.drop m) = .inl e := by
  unfold pb at h
  cases h1 : p s with
  | inl e => rw [h1] at h; cases h; exact .inl rfl
  | inr xm =>
    obtain ⟨x, m⟩ := xm
    rw [h1] at h
    dsimp only at h
    cases h2 : q x (s.drop m) with
    | inl e => rw [h2] at h; cases h; exact .inr ⟨x, m, rfl, h2⟩
    | inr yj => rw [h2] at h; cases h
def padd (m : Nat) : Int ⊕ (α × Nat) → Int ⊕ (α × Nat)
  | .inl e => .inl e
  | .inr (y, k) => .inr (y, m + k)
theorem pb_of {p : Ps α} {q : α → Ps β} {s : List UInt8} {x : α} {m : Nat} (h : p s = .inr (x, m)) : pb p q s = padd m (q x (s.drop m)) := by
  unfold pb; rw [h]; rfl
theorem pb_err {p : Ps α} {q : α → Ps β} {s : List UInt8} {e : Int} (h : p s = .inl e) : pb p q s = .inl e := by unfold pb; rw [h]
structure Sane (p : Ps α) : Prop where
  err : ∀ s e, p s = .inl e → e ≠ 0
  len : ∀ s x m, p s = .inr (x, m) → m ≤ s.length
theorem Sane.ret (x : α) : Sane (pret x) := ⟨fun s e h => (by cases h), fun s y m h => (by cases h; omega)⟩
theorem Sane.fail {e : Int} (h : e ≠ 0) : Sane (pfail e : Ps α) := ⟨fun s e' h' => (by cases h'; exact h), fun s y m h => (by cases h)⟩
theorem Sane.pb {p : Ps α} {q : α → Ps β} (hp : Sane p) (hq : ∀ x, Sane (q x)) : Sane (pb p q) :=
  ⟨fun s e h => by
    rcases pb_inl h with h | ⟨x, m, h1, h2⟩
    · exact hp.err s e h
    · exact (hq x).err _ e h2,
  fun s y k h => by
    obtain ⟨x, m, j, h1, h2, rfl⟩ := pb_inr h
    have := hp.len s x m h1
    have h3 := (hq x).len _ y j h2
    rw [List.length_drop] at h3; omega⟩
theorem pnum_inr {s : List UInt8} {n : Int} {m : Nat} (h : pnum s = .inr (n, m)) : take s = (n, (m : Int), 0) ∧ 0 ≤ n ∧ n ≤ 4294967295 ∧ 1 ≤ m ∧ m ≤ s.length ∧ put n = s.take m := by
  unfold pnum at h
  split at h
  · rename_i h0
    simp only [Sum.inr.injEq, Prod.mk.injEq] at h
    obtain ⟨rfl, rfl⟩ := h
    rcases take_cases s with ⟨n, k, h1, h2, h3, h4, h5, h6⟩ | ⟨e, h1, h2⟩
    · rw [h1]; simp only [Int.toNat_natCast]; exact ⟨trivial, h2, h3, h4, h5, h6⟩
    · rw [h1] at h0; exact absurd h0 h2
  · cases h
theorem pnum_inl {s : List UInt8} {e : Int} (h : pnum s = .inl e) : take s = (0, 0, e) ∧ e ≠ 0 := by
  unfold pnum at h
  split at h
  · cases h
  · rename_i h0
    cases h
    rcases take_cases s with ⟨n, k, h1, h2, h3, h4, h5, h6⟩ | ⟨e, h1, h2⟩
    · rw [h1] at h0; exact absurd rfl h0
    · rw [h1]; exact ⟨rfl, h2⟩
theorem Sane.num : Sane pnum := ⟨fun s e h => (pnum_inl h).2, fun s x m h => (pnum_inr h).2.2.2.2.1⟩
theorem Sane.map {f : α → β} {p : Ps α} (hp : Sane p) : Sane (pmap f p) := hp.pb (fun x => Sane.ret _)
theorem Sane.count (most : Int) : Sane (pcount most) := Sane.num.pb (fun n => by split; exact Sane.fail (by decide); exact Sane.ret _)
theorem Sane.many {p : Ps α} (hp : Sane p) : ∀ n, Sane (pmany p n)
  | 0 => Sane.ret _
  | n + 1 => hp.pb (fun x => (Sane.many hp n).pb (fun xs => Sane.ret _))
theorem Sane.list {p : Ps α} (most : Int) (hp : Sane p) : Sane (plist most p) := (Sane.count most).pb (fun n => Sane.many hp _)
theorem pcount_inr {most : Int} {s : List UInt8} {n : Int} {m : Nat} (h : pcount most s = .inr (n, m)) : pnum s = .inr (n, m) ∧ n ≤ most := by
  obtain ⟨x, a, j, h1, h2, rfl⟩ := pb_inr h
  split at h2
  · cases h2
  · cases h2; exact ⟨h1, by omega⟩
/-- What is written, and read back. -/
structure Cod (p : Ps α) (w : α → List UInt8) (ok : α → Prop) : Prop where
  back : ∀ s x m, p s = .inr (x, m) → ok x ∧ s.take m = w x
  to : ∀ x T, ok x → p (w x ++ T) = .inr (x, (w x).length)
theorem Cod.num : Cod pnum put (fun n => 0 ≤ n ∧ n ≤ 4294967295) :=
  ⟨fun s n m h => by obtain ⟨_, h0, h1, _, _, h2⟩ := pnum_inr h; exact ⟨⟨h0, h1⟩, h2.symm⟩,
  fun n T ⟨h0, h1⟩ => by
    have hp : put n ≠ [] := fun h => by have := (put_nil n).1 h; omega
    have := put_length n
    unfold pnum
    rw [take_put n hp T]
    simp only [if_true, Sum.inr.injEq, Prod.mk.injEq, true_and]
    omega⟩
theorem Cod.many {p : Ps α} {w : α → List UInt8} {ok : α → Prop} (hp : Cod p w ok) : ∀ n, Cod (pmany p n) (fun l => l.flatMap w) (fun l => l.length = n ∧ ∀ x ∈ l, ok x)
  | 0 => ⟨fun s l m h => by cases h; simp, fun l T h => by obtain rfl := List.length_eq_zero_iff.1 h.1; rfl⟩
  | n + 1 => by
    have ih := Cod.many hp n
    refine ⟨fun s l m h => ?_, fun l T h => ?_⟩
    · obtain ⟨x, a, j, h1, h2, rfl⟩ := pb_inr h
      obtain ⟨xs, b, j', h3, h4, rfl⟩ := pb_inr h2
      cases h4
      obtain ⟨o1, t1⟩ := hp.back _ _ _ h1
      obtain ⟨⟨o2, o3⟩, t2⟩ := ih.back _ _ _ h3
      refine ⟨⟨by simp [o2], fun y hy => ?_⟩, ?_⟩
      · rcases List.mem_cons.1 hy with rfl | hy
        · exact o1
        · exact o3 y hy
      · rw [Nat.add_zero, List.take_add, t1, t2]; rfl
    · match l, h with
      | x :: l, ⟨h1, h2⟩ =>
        show pb p _ _ = _
        simp only [List.flatMap_cons, List.append_assoc]
        rw [pb_of (hp.to x _ (h2 x (by simp))), List.drop_left]
        have := ih.to l T ⟨by simpa using h1, fun y hy => h2 y (by simp [hy])⟩
        rw [pb_of this]
        simp [pret, padd]
theorem Cod.list {p : Ps α} {w : α → List UInt8} {ok : α → Prop} {most : Int} (hm : most ≤ 4294967295) (hp : Cod p w ok) : Cod (plist most p) (fun l => put (l.length : Int) ++ l.flatMap w) (fun l => (l.length : Int) ≤ most ∧ ∀ x ∈ l, ok x) := by
  refine ⟨fun s l m h => ?_, fun l T ⟨h1, h2⟩ => ?_⟩
  · obtain ⟨n, a, j, h1, h2, rfl⟩ := pb_inr h
    obtain ⟨h3, h4⟩ := pcount_inr h1
    obtain ⟨_, n0, n1, _, _, hp1⟩ := pnum_inr h3
    obtain ⟨⟨o1, o2⟩, t⟩ := (hp.many n.toNat).back _ _ _ h2
    have e : (l.length : Int) = n := by omega
    refine ⟨⟨by omega, o2⟩, ?_⟩
    rw [List.take_add, t, e, hp1]
  · have hn := Cod.num.to (l.length : Int) (l.flatMap w ++ T) ⟨by omega, by omega⟩
    have hc : pcount most (put (l.length : Int) ++ (l.flatMap w ++ T)) = .inr ((l.length : Int), (put (l.length : Int)).length) := by
      unfold pcount; rw [pb_of hn]
      rw [if_neg (by omega)]; simp [pret, padd]
    unfold plist
    rw [List.append_assoc, pb_of hc, List.drop_left]
    have := (hp.many l.length).to l T ⟨rfl, h2⟩
    rw [Int.toNat_natCast, this]
    simp [padd]
theorem Cod.pair {p : Ps α} {w : α → List UInt8} {ok : α → Prop} {q : α → Ps β} {v : α → β → List UInt8} {ok' : α → β → Prop} (hp : Cod p w ok) (hq : ∀ x, ok x → Cod (q x) (v x) (ok' x)) :
    Cod (pb p fun x => pb (q x) fun y => pret (x, y)) (fun z => w z.1 ++ v z.1 z.2) (fun z => ok z.1 ∧ ok' z.1 z.2) := by
  refine ⟨fun s z m h => ?_, fun z T ⟨h1, h2⟩ => ?_⟩
  · obtain ⟨x, a, j, h1, h2, rfl⟩ := pb_inr h
    obtain ⟨y, b, j', h3, h4, rfl⟩ := pb_inr h2
    cases h4
    obtain ⟨o1, t1⟩ := hp.back _ _ _ h1
    obtain ⟨o2, t2⟩ := (hq x o1).back _ _ _ h3
    exact ⟨⟨o1, o2⟩, by rw [Nat.add_zero, List.take_add, t1, t2]⟩
  · obtain ⟨x, y⟩ := z
    dsimp only at *
    rw [List.append_assoc, pb_of (hp.to x _ h1), List.drop_left, pb_of ((hq x h1).to y T h2)]
    simp [pret, padd]
theorem Cod.map {p : Ps α} {w : α → List UInt8} {ok : α → Prop} (f : α → β) (g : β → α) (hp : Cod p w ok) (hg : ∀ x, ok x → g (f x) = x) : Cod (pmap f p) (fun y => w (g y)) (fun y => ok (g y) ∧ f (g y) = y) := by
  refine ⟨fun s y m h => ?_, fun y T ⟨h1, h2⟩ => ?_⟩
  · obtain ⟨x, a, j, h1, h2, rfl⟩ := pb_inr h
    cases h2
    obtain ⟨o1, t1⟩ := hp.back _ _ _ h1
    exact ⟨⟨by rw [hg x o1]; exact o1, by rw [hg x o1]⟩, by rw [Nat.add_zero, hg x o1]; exact t1⟩
  · unfold pmap
    rw [pb_of (hp.to _ T h1)]
    simp [pret, padd, h2]
theorem Cod.imp {p : Ps α} {w w' : α → List UInt8} {ok ok' : α → Prop} (hp : Cod p w ok) (h : ∀ x, ok x ↔ ok' x) (hw : ∀ x, ok x → w x = w' x) : Cod p w' ok' :=
  ⟨fun s x m h1 => by obtain ⟨h2, h3⟩ := hp.back s x m h1; exact ⟨(h x).1 h2, by rw [h3, hw x h2]⟩, fun x T h1 => by have := (h x).2 h1; rw [← hw x this]; exact hp.to x T this⟩
/-- How a program's answer stands to a reader's. -/
def Goes (m : Option γ) (ok : α → Nat → γ) (E : Int → γ → Prop) : Int ⊕ (α × Nat) → Prop
  | .inr (x, j) => m = some (ok x j)
  | .inl e => ∃ g, m = some g ∧ E e g
theorem Goes.bind {m : Option γ} {f : γ → Option δ} {p : Ps α} {q : α → Ps β} {s : List UInt8} {okp : α → Nat → γ} {okq : β → Nat → δ} {Ep : Int → γ → Prop} {Eq : Int → δ → Prop}
    (h : Goes m okp Ep (p s)) (h1 : ∀ x j, p s = .inr (x, j) → Goes (f (okp x j)) (fun y i => okq y (j + i)) Eq (q x (s.drop j))) (h2 : ∀ e g, p s = .inl e → Ep e g → ∃ d, f g = some d ∧ Eq e d) :
    Goes (m.bind f) okq Eq (pb p q s) := by
  cases hs : p s with
  | inl e =>
    rw [hs] at h
    obtain ⟨g, rfl, hg⟩ := h
    rw [pb_err hs]
    exact h2 e g hs hg
  | inr xm =>
    obtain ⟨x, j⟩ := xm
    rw [hs] at h
    obtain rfl : m = _ := h
    rw [pb_of hs, Option.bind_some]
    have h3 := h1 x j hs
    cases h4 : q x (s.drop j) with
    | inl e => rw [h4] at h3; exact h3
    | inr yk => rw [h4] at h3; exact h3
theorem Goes.map {m : Option γ} {f : γ → Option δ} {ok : α → Nat → γ} {ok' : α → Nat → δ} {E : Int → γ → Prop} {E' : Int → δ → Prop} {r : Int ⊕ (α × Nat)} (h : Goes m ok E r)
    (h1 : ∀ x j, r = .inr (x, j) → f (ok x j) = some (ok' x j)) (h2 : ∀ e g, r = .inl e → E e g → ∃ d, f g = some d ∧ E' e d) : Goes (m.bind f) ok' E' r := by
  cases r with
  | inl e => obtain ⟨g, rfl, hg⟩ := h; exact h2 e g rfl hg
  | inr x => obtain ⟨x, j⟩ := x; obtain rfl : m = _ := h; exact h1 x j rfl
/-- A loop that reads one thing behind the other. -/
theorem loop_many {p : Ps α} (hp : Sane p) (hpos : ∀ s x m, p s = .inr (x, m) → 1 ≤ m) (s : List UInt8) {body : σ → Option (σ ⊕ ρ)} (n : Nat) (st : List α → Nat → σ) (fin : List α → Nat → ρ) (E : Int → ρ → Prop)
    (hgo : ∀ acc k, acc.length < n → acc.length ≤ k → k ≤ s.length → (∀ x m, p (s.drop k) = .inr (x, m) → body (st acc k) = some (.inl (st (acc ++ [x]) (k + m)))) ∧
      (∀ e, p (s.drop k) = .inl e → ∃ r, E e r ∧ (body (st acc k) = some (.inr r) ∨ ∃ s', body (st acc k) = some (.inl s') ∧ body s' = some (.inr r))))
    (hend : ∀ acc k, acc.length = n → k ≤ s.length → body (st acc k) = some (.inr (fin acc k))) {k0 : Nat} (hk0 : k0 ≤ s.length) :
    Goes (loop body (st [] k0)) (fun xs j => fin xs (k0 + j)) E (pmany p n (s.drop k0)) := by
  have gen : ∀ (m : Nat) (acc : List α) (k : Nat), acc.length + m = n → acc.length ≤ k → k ≤ s.length → Goes (loop body (st acc k)) (fun xs j => fin (acc ++ xs) (k + j)) E (pmany p m (s.drop k)) := by
    intro m
    induction m with
    | zero =>
      intro acc k h1 h2 h3
      show loop body (st acc k) = some _
      rw [loop_end (hend acc k (by omega) h3)]; simp
    | succ m ih =>
      intro acc k h1 h2 h3
      obtain ⟨g1, g2⟩ := hgo acc k (by omega) h2 h3
      cases hs : p (s.drop k) with
      | inl e =>
        obtain ⟨r, hr, h4⟩ := g2 e hs
        have : pmany p (m + 1) (s.drop k) = .inl e := pb_err hs
        rw [this]
        refine ⟨r, ?_, hr⟩
        rcases h4 with h4 | ⟨s', h4, h5⟩
        · exact loop_end h4
        · rw [loop_next h4]; exact loop_end h5
      | inr xm =>
        obtain ⟨x, a⟩ := xm
        rw [loop_next (g1 x a hs)]
        have e1 := hp.len _ _ _ hs
        have e2 := hpos _ _ _ hs
        rw [List.length_drop] at e1
        have h6 := ih (acc ++ [x]) (k + a) (by simp; omega) (by simp; omega) (by omega)
        have e3 : pmany p (m + 1) (s.drop k) = (match pmany p m (s.drop (k + a)) with | .inl e => .inl e | .inr (xs, j) => .inr (x :: xs, a + j)) := by
          show pb p _ _ = _
          rw [pb_of hs, List.drop_drop]
          cases h7 : pmany p m (s.drop (k + a)) with
          | inl e => rw [pb_err h7]; rfl
          | inr xj => obtain ⟨xs, j⟩ := xj; rw [pb_of h7]; simp [pret, padd]
        rw [e3]
        cases h7 : pmany p m (s.drop (k + a)) with
        | inl e => rw [h7] at h6; exact h6
        | inr xj =>
          obtain ⟨xs, j⟩ := xj
          rw [h7] at h6
          have h6' : loop body (st (acc ++ [x]) (k + a)) = some (fin (acc ++ [x] ++ xs) (k + a + j)) := h6
          show loop body _ = some (fin (acc ++ x :: xs) (k + (a + j)))
          rw [h6']
          simp [Nat.add_assoc]
  have := gen n [] k0 (by simp) (by simp) hk0
  simpa using this
end
theorem sub_tail (l : List UInt8) (k : Nat) (h : k ≤ l.length) : subL l (k : Int) ((l.length : Nat) : Int) = some (l.drop k) := by
  rw [subL_eq (by omega) (by omega) (by omega)]; simp
theorem pnum_pos (s : List UInt8) (x : Int) (m : Nat) (h : pnum s = .inr (x, m)) : 1 ≤ m := (pnum_inr h).2.2.2.1
theorem pb_pos {α β : Type} {p : Ps α} {q : α → Ps β} (hp : ∀ s x m, p s = .inr (x, m) → 1 ≤ m) (s : List UInt8) (y : β) (k : Nat) (h : pb p q s = .inr (y, k)) : 1 ≤ k := by
  obtain ⟨x, m, j, h1, h2, rfl⟩ := pb_inr h
  have := hp _ _ _ h1; omega
end Go.Proofs.YtmdmdmaekjpfjaaGreat

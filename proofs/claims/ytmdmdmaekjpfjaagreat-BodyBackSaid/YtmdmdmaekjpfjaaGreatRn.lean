import Derived.Test.YtmdmdmaekjpfjaaGreatCd
namespace Go.Proofs.YtmdmdmaekjpfjaaGreat
open Go.RowKit Lb
set_option linter.unusedVariables false
set_option linter.unnecessarySimpa false
set_option linter.unusedSimpArgs false
set_option linter.unusedSectionVars false
section
variable {α β γ δ σ ρ : Type}
theorem pb_assoc (p : Ps α) (q : α → Ps β) (r : β → Ps γ) : pb (pb p q) r = pb p fun x => pb (q x) r := by
  funext s
  cases h : p s with
  | inl e => rw [pb_err h, pb_err (pb_err h)]
  | inr xm =>
    obtain ⟨x, m⟩ := xm
    rw [pb_of h]
    cases h2 : q x (s.drop m) with
    | inl e =>
      have h3 : pb p q s = .inl e := by rw [pb_of h, h2]; rfl
      rw [pb_err h3, pb_err h2]; rfl
    | inr yk =>
      obtain ⟨y, k⟩ := yk
      have h3 : pb p q s = .inr (y, m + k) := by rw [pb_of h, h2]; rfl
      rw [pb_of h3, pb_of h2, List.drop_drop]
      cases r y (s.drop (m + k)) with
      | inl e => rfl
      | inr z => obtain ⟨z, i⟩ := z; simp [padd, Nat.add_assoc]
structure Run (F : List UInt8 → Int → Int → Option ρ) (okr : α → List UInt8 → Int → ρ → Prop) (er : Int → ρ → Prop) (p : Ps α) : Prop where
  ok : ∀ s (c : Nat) x m, s.length + c ≤ 1000000 → p s = .inr (x, m) → ∃ (d : Nat) (r : ρ), (d ≤ m ∧ (1 ≤ m → 1 ≤ d)) ∧ F s (c : Int) 0 = some r ∧ okr x (s.drop m) ((c + d : Nat) : Int) r
  err : ∀ s (c : Nat) e, s.length + c ≤ 1000000 → p s = .inl e → ∃ r, F s (c : Int) 0 = some r ∧ er e r
  bad : ∀ s c e, e ≠ 0 → ∃ r, F s c e = some r ∧ er e r
abbrev Rds (f : List UInt8 → Int → Int → Option δ) (mk : α → List UInt8 → Int → Int → δ) (p : Ps α) : Prop :=
  Run f (fun x s c t => t = mk x s c 0) (fun e t => ∃ x s c, t = mk x s c e) p
theorem Run.bind {f : List UInt8 → Int → Int → Option δ} {mk : α → List UInt8 → Int → Int → δ} {p : Ps α} {G : δ → Option ρ} {q : α → Ps β} {okr : β → List UInt8 → Int → ρ → Prop} {er : Int → ρ → Prop}
    (h : Rds f mk p) (hp : Sane p) (hG : ∀ x, Run (fun s c e => G (mk x s c e)) okr er (q x)) : Run (fun s c e => (f s c e).bind G) okr er (pb p q) where
  ok := by
    intro s c y k hs hr
    obtain ⟨x, m, j, h1, h2, rfl⟩ := pb_inr hr
    have hm := hp.len _ _ _ h1
    obtain ⟨d, t, hd, hf, rfl⟩ := h.ok s c x m hs h1
    obtain ⟨d', r, hd', hf', ho⟩ := (hG x).ok (s.drop m) (c + d) y j (by rw [List.length_drop]; omega) h2
    refine ⟨d + d', r, by omega, by show (f s c 0).bind G = _; rw [hf]; exact hf', ?_⟩
    rw [List.drop_drop] at ho; rw [← Nat.add_assoc]; exact ho
  err := by
    intro s c e hs hr
    rcases pb_inl hr with h1 | ⟨x, m, h1, h2⟩
    · obtain ⟨t, hf, x, s', c', rfl⟩ := h.err s c e hs h1
      obtain ⟨r, hr, he⟩ := (hG x).bad s' c' e (hp.err _ _ h1)
      exact ⟨r, by show (f s c 0).bind G = _; rw [hf]; exact hr, he⟩
    · have hm := hp.len _ _ _ h1
      obtain ⟨d, t, hd, hf, rfl⟩ := h.ok s c x m hs h1
      obtain ⟨r, hf', he⟩ := (hG x).err (s.drop m) (c + d) e (by rw [List.length_drop]; omega) h2
      exact ⟨r, by show (f s c 0).bind G = _; rw [hf]; exact hf', he⟩
  bad := by
    intro s c e he
    obtain ⟨t, hf, x, s', c', rfl⟩ := h.bad s c e he
    obtain ⟨r, hr, h2⟩ := (hG x).bad s' c' e he
    exact ⟨r, by show (f s c e).bind G = _; rw [hf]; exact hr, h2⟩
theorem Run.ret {F : List UInt8 → Int → Int → Option ρ} {okr : α → List UInt8 → Int → ρ → Prop} {er : Int → ρ → Prop} {x : α} (h : ∀ s c e, ∃ r, F s c e = some r ∧ (e = 0 → okr x s c r) ∧ (e ≠ 0 → er e r)) : Run F okr er (pret x) where
  ok := by
    intro s c y m hs hr
    cases hr
    obtain ⟨r, h1, h2, h3⟩ := h s c 0
    exact ⟨0, r, by omega, h1, h2 rfl⟩
  err := by intro s c e hs hr; cases hr
  bad := by
    intro s c e he
    obtain ⟨r, h1, h2, h3⟩ := h s c e
    exact ⟨r, h1, h3 he⟩
theorem Run.map {f : List UInt8 → Int → Int → Option δ} {mk : α → List UInt8 → Int → Int → δ} {p : Ps α} {G : δ → Option ρ} {okr : α → List UInt8 → Int → ρ → Prop} {er : Int → ρ → Prop}
    (h : Rds f mk p) (hp : Sane p) (hG : ∀ x s c e, ∃ r, G (mk x s c e) = some r ∧ (e = 0 → okr x s c r) ∧ (e ≠ 0 → er e r)) : Run (fun s c e => (f s c e).bind G) okr er p where
  ok := by
    intro s c x m hs hr
    obtain ⟨d, t, hd, hf, rfl⟩ := h.ok s c x m hs hr
    obtain ⟨r, h1, h2, h3⟩ := hG x (s.drop m) ((c + d : Nat) : Int) 0
    exact ⟨d, r, hd, by show (f s c 0).bind G = _; rw [hf]; exact h1, h2 rfl⟩
  err := by
    intro s c e hs hr
    obtain ⟨t, hf, x, s', c', rfl⟩ := h.err s c e hs hr
    obtain ⟨r, h1, h2, h3⟩ := hG x s' c' e
    exact ⟨r, by show (f s c 0).bind G = _; rw [hf]; exact h1, h3 (hp.err _ _ hr)⟩
  bad := by
    intro s c e he
    obtain ⟨t, hf, x, s', c', rfl⟩ := h.bad s c e he
    obtain ⟨r, h1, h2, h3⟩ := hG x s' c' e
    exact ⟨r, by show (f s c e).bind G = _; rw [hf]; exact h1, h3 he⟩
theorem Run.one {f : List UInt8 → Int → Int → Option δ} {mk : α → List UInt8 → Int → Int → δ} {p : Ps α} {z : α} (hpos : ∀ s x m, p s = .inr (x, m) → 1 ≤ m)
    (h : ∀ s c e, e ≠ 0 → f s c e = some (mk z s c e)) (hok : ∀ s (c : Nat) x m, s.length + c ≤ 1000000 → p s = .inr (x, m) → f s c 0 = some (mk x (s.drop m) ((c + 1 : Nat) : Int) 0))
    (herr : ∀ s (c : Nat) e, s.length + c ≤ 1000000 → p s = .inl e → f s c 0 = some (mk z s c e)) : Rds f mk p where
  ok := fun s c x m hs hr => ⟨1, _, ⟨hpos _ _ _ hr, fun _ => Nat.le_refl _⟩, hok s c x m hs hr, rfl⟩
  err := fun s c e hs hr => ⟨_, herr s c e hs hr, _, _, _, rfl⟩
  bad := fun s c e he => ⟨_, h s c e he, _, _, _, rfl⟩
theorem Run.fn {F F' : List UInt8 → Int → Int → Option ρ} {okr : α → List UInt8 → Int → ρ → Prop} {er : Int → ρ → Prop} {p : Ps α} (h : Run F okr er p) (e : ∀ s c e, F' s c e = F s c e) : Run F' okr er p :=
  (funext fun s => funext fun c => funext fun x => e s c x : F' = F) ▸ h
theorem Run.many {p : Ps α} (hp : Sane p) (hpos : ∀ s x m, p s = .inr (x, m) → 1 ≤ m) {body : σ → Option (σ ⊕ ρ)} (n : Int) (st : List α → Int → List UInt8 → Int → Int → σ) (fin : List α → List UInt8 → Int → Int → ρ)
    (hend : ∀ acc i s c e, (n ≤ i ∨ e ≠ 0) → body (st acc i s c e) = some (.inr (fin acc s c e)))
    (hgo : ∀ acc : List α, acc.length ≤ 1000000 → ((acc.length : Nat) : Int) < n → ∃ B : List UInt8 → Int → Int → Option (σ ⊕ ρ), (∀ s c, body (st acc ((acc.length : Nat) : Int) s c 0) = B s c 0) ∧ Run B (fun x s c r => r = .inl (st (acc ++ [x]) ((acc.length + 1 : Nat) : Int) s c 0)) (fun e r => ∃ a i s c, r = .inl (st a i s c e)) p) :
    Rds (fun s c e => loop body (st [] 0 s c e)) fin (pmany p n.toNat) where
  ok := by
    have gen : ∀ (m : Nat) (acc : List α) (s : List UInt8) (c : Nat) (xs : List α) (k : Nat), acc.length + m = n.toNat → acc.length + s.length ≤ 1000000 → s.length + c ≤ 1000000 → pmany p m s = .inr (xs, k) →
        ∃ d, (d ≤ k ∧ (1 ≤ k → 1 ≤ d)) ∧ loop body (st acc ((acc.length : Nat) : Int) s (c : Int) 0) = some (fin (acc ++ xs) (s.drop k) ((c + d : Nat) : Int) 0) := by
      intro m
      induction m with
      | zero =>
        intro acc s c xs k h1 h2 h3 hr
        cases hr
        exact ⟨0, by omega, by rw [loop_end (hend _ _ _ _ _ (.inl (by omega)))]; simp⟩
      | succ m ih =>
        intro acc s c xs k h1 h2 h3 hr
        obtain ⟨x, a, j, h4, h5, rfl⟩ := pb_inr hr
        obtain ⟨ys, b, j', h6, h7, rfl⟩ := pb_inr h5
        cases h7
        obtain ⟨B, hB, hR⟩ := hgo acc (by omega) (by omega)
        have e1 := hp.len _ _ _ h4
        have e2 := hpos _ _ _ h4
        obtain ⟨d, r, hd, hf, rfl⟩ := hR.ok s c x a h3 h4
        obtain ⟨d', hd', hl⟩ := ih (acc ++ [x]) (s.drop a) (c + d) ys b (by simp; omega) (by simp; omega) (by rw [List.length_drop]; omega) h6
        refine ⟨d + d', by omega, ?_⟩
        rw [loop_next ((hB s c).trans hf)]
        simp only [List.length_append, List.length_cons, List.length_nil, Nat.zero_add, List.append_assoc, List.cons_append, List.nil_append, List.drop_drop] at hl
        rw [hl]; simp [Nat.add_assoc]
    intro s c xs k hs hr
    obtain ⟨d, hd, hl⟩ := gen n.toNat [] s c xs k (by simp) (by simp; omega) hs hr
    exact ⟨d, _, hd, hl, rfl⟩
  err := by
    have gen : ∀ (m : Nat) (acc : List α) (s : List UInt8) (c : Nat) (e : Int), acc.length + m = n.toNat → acc.length + s.length ≤ 1000000 → s.length + c ≤ 1000000 → pmany p m s = .inl e →
        ∃ xs s' c', loop body (st acc ((acc.length : Nat) : Int) s (c : Int) 0) = some (fin xs s' c' e) := by
      intro m
      induction m with
      | zero => intro acc s c e h1 h2 h3 hr; cases hr
      | succ m ih =>
        intro acc s c e h1 h2 h3 hr
        obtain ⟨B, hB, hR⟩ := hgo acc (by omega) (by omega)
        rcases pb_inl hr with h4 | ⟨x, a, h4, h5⟩
        · obtain ⟨r, hf, a, i, s', c', rfl⟩ := hR.err s c e h3 h4
          rw [loop_next ((hB s c).trans hf), loop_end (hend _ _ _ _ _ (.inr (hp.err _ _ h4)))]
          exact ⟨_, _, _, rfl⟩
        · rcases pb_inl h5 with h6 | ⟨ys, b, h6, h7⟩
          · have e1 := hp.len _ _ _ h4
            have e2 := hpos _ _ _ h4
            obtain ⟨d, r, hd, hf, rfl⟩ := hR.ok s c x a h3 h4
            obtain ⟨xs, s', c', hl⟩ := ih (acc ++ [x]) (s.drop a) (c + d) e (by simp; omega) (by simp; omega) (by rw [List.length_drop]; omega) h6
            rw [loop_next ((hB s c).trans hf)]
            simp only [List.length_append, List.length_cons, List.length_nil, Nat.zero_add] at hl
            exact ⟨xs, s', c', hl⟩
          · cases h7
    intro s c e hs hr
    obtain ⟨xs, s', c', hl⟩ := gen n.toNat [] s c e (by simp) (by simp; omega) hs hr
    exact ⟨_, hl, _, _, _, rfl⟩
  bad := fun s c e he => ⟨_, loop_end (hend _ _ _ _ _ (.inr he)), _, _, _, rfl⟩
/-- A reader that leaves at once. -/
structure Got (F : List UInt8 → Option ρ) (okr : α → List UInt8 → ρ → Prop) (er : Int → ρ → Prop) (p : Ps α) : Prop where
  ok : ∀ s x m, s.length ≤ 1000000 → p s = .inr (x, m) → ∃ r : ρ, F s = some r ∧ okr x (s.drop m) r
  err : ∀ s e, s.length ≤ 1000000 → p s = .inl e → ∃ r, F s = some r ∧ er e r
abbrev Gds (f : List UInt8 → Option δ) (mk : α → List UInt8 → Int → δ) (p : Ps α) : Prop :=
  Got f (fun x s t => t = mk x s 0) (fun e t => ∃ x s, t = mk x s e) p
theorem Got.bind {f : List UInt8 → Option δ} {mk : α → List UInt8 → Int → δ} {p : Ps α} {G : δ → Option ρ} {q : α → Ps β} {okr : β → List UInt8 → ρ → Prop} {er : Int → ρ → Prop}
    (h : Gds f mk p) (hp : Sane p) (hG : ∀ x, Got (fun s => G (mk x s 0)) okr er (q x)) (hb : ∀ x s e, e ≠ 0 → ∃ r, G (mk x s e) = some r ∧ er e r) : Got (fun s => (f s).bind G) okr er (pb p q) where
  ok := by
    intro s y k hs hr
    obtain ⟨x, m, j, h1, h2, rfl⟩ := pb_inr hr
    obtain ⟨t, hf, rfl⟩ := h.ok s x m hs h1
    obtain ⟨r, hf', ho⟩ := (hG x).ok (s.drop m) y j (by rw [List.length_drop]; omega) h2
    refine ⟨r, by show (f s).bind G = _; rw [hf]; exact hf', ?_⟩
    rw [List.drop_drop] at ho; exact ho
  err := by
    intro s e hs hr
    rcases pb_inl hr with h1 | ⟨x, m, h1, h2⟩
    · obtain ⟨t, hf, x, s', rfl⟩ := h.err s e hs h1
      obtain ⟨r, hr, he⟩ := hb x s' e (hp.err _ _ h1)
      exact ⟨r, by show (f s).bind G = _; rw [hf]; exact hr, he⟩
    · obtain ⟨t, hf, rfl⟩ := h.ok s x m hs h1
      obtain ⟨r, hf', he⟩ := (hG x).err (s.drop m) e (by rw [List.length_drop]; omega) h2
      exact ⟨r, by show (f s).bind G = _; rw [hf]; exact hf', he⟩
theorem Got.map {f : List UInt8 → Option δ} {mk : α → List UInt8 → Int → δ} {p : Ps α} {G : δ → Option ρ} {okr : α → List UInt8 → ρ → Prop} {er : Int → ρ → Prop}
    (h : Gds f mk p) (hp : Sane p) (hG : ∀ x s, ∃ r, G (mk x s 0) = some r ∧ okr x s r) (hb : ∀ x s e, e ≠ 0 → ∃ r, G (mk x s e) = some r ∧ er e r) : Got (fun s => (f s).bind G) okr er p where
  ok := by
    intro s x m hs hr
    obtain ⟨t, hf, rfl⟩ := h.ok s x m hs hr
    obtain ⟨r, h1, h2⟩ := hG x (s.drop m)
    exact ⟨r, by show (f s).bind G = _; rw [hf]; exact h1, h2⟩
  err := by
    intro s e hs hr
    obtain ⟨t, hf, x, s', rfl⟩ := h.err s e hs hr
    obtain ⟨r, h1, h2⟩ := hb x s' e (hp.err _ _ hr)
    exact ⟨r, by show (f s).bind G = _; rw [hf]; exact h1, h2⟩
theorem Got.ret {F : List UInt8 → Option ρ} {okr : α → List UInt8 → ρ → Prop} {er : Int → ρ → Prop} {x : α} (h : ∀ s, ∃ r, F s = some r ∧ okr x s r) : Got F okr er (pret x) where
  ok := by intro s y m hs hr; cases hr; exact h s
  err := by intro s e hs hr; cases hr
theorem Got.many {p : Ps α} (hp : Sane p) (hpos : ∀ s x m, p s = .inr (x, m) → 1 ≤ m) {body : σ → Option (σ ⊕ ρ)} (n : Int) (st : List α → Int → List UInt8 → Int → σ) (fin : List α → List UInt8 → Int → ρ)
    (hend : ∀ acc i s e, (n ≤ i ∨ e ≠ 0) → body (st acc i s e) = some (.inr (fin acc s e)))
    (hgo : ∀ acc : List α, acc.length ≤ 1000000 → ((acc.length : Nat) : Int) < n → ∃ B : List UInt8 → Option (σ ⊕ ρ), (∀ s, body (st acc ((acc.length : Nat) : Int) s 0) = B s) ∧ Got B (fun x s r => r = .inl (st (acc ++ [x]) ((acc.length + 1 : Nat) : Int) s 0)) (fun e r => ∃ a i s, r = .inl (st a i s e)) p) :
    Gds (fun s => loop body (st [] 0 s 0)) fin (pmany p n.toNat) where
  ok := by
    have gen : ∀ (m : Nat) (acc : List α) (s : List UInt8) (xs : List α) (k : Nat), acc.length + m = n.toNat → acc.length + s.length ≤ 1000000 → pmany p m s = .inr (xs, k) →
        loop body (st acc ((acc.length : Nat) : Int) s 0) = some (fin (acc ++ xs) (s.drop k) 0) := by
      intro m
      induction m with
      | zero =>
        intro acc s xs k h1 h2 hr
        cases hr
        rw [loop_end (hend _ _ _ _ (.inl (by omega)))]; simp
      | succ m ih =>
        intro acc s xs k h1 h2 hr
        obtain ⟨x, a, j, h4, h5, rfl⟩ := pb_inr hr
        obtain ⟨ys, b, j', h6, h7, rfl⟩ := pb_inr h5
        cases h7
        obtain ⟨B, hB, hR⟩ := hgo acc (by omega) (by omega)
        have e1 := hp.len _ _ _ h4
        have e2 := hpos _ _ _ h4
        obtain ⟨r, hf, rfl⟩ := hR.ok s x a (by omega) h4
        have hl := ih (acc ++ [x]) (s.drop a) ys b (by simp; omega) (by simp; omega) h6
        rw [loop_next ((hB s).trans hf)]
        simp only [List.length_append, List.length_cons, List.length_nil, Nat.zero_add, List.append_assoc, List.cons_append, List.nil_append, List.drop_drop] at hl
        rw [hl]; simp
    intro s xs k hs hr
    exact ⟨_, gen n.toNat [] s xs k (by simp) (by simp; omega) hr, rfl⟩
  err := by
    have gen : ∀ (m : Nat) (acc : List α) (s : List UInt8) (e : Int), acc.length + m = n.toNat → acc.length + s.length ≤ 1000000 → pmany p m s = .inl e →
        ∃ xs s', loop body (st acc ((acc.length : Nat) : Int) s 0) = some (fin xs s' e) := by
      intro m
      induction m with
      | zero => intro acc s e h1 h2 hr; cases hr
      | succ m ih =>
        intro acc s e h1 h2 hr
        obtain ⟨B, hB, hR⟩ := hgo acc (by omega) (by omega)
        rcases pb_inl hr with h4 | ⟨x, a, h4, h5⟩
        · obtain ⟨r, hf, a, i, s', rfl⟩ := hR.err s e (by omega) h4
          rw [loop_next ((hB s).trans hf), loop_end (hend _ _ _ _ (.inr (hp.err _ _ h4)))]
          exact ⟨_, _, rfl⟩
        · rcases pb_inl h5 with h6 | ⟨ys, b, h6, h7⟩
          · have e1 := hp.len _ _ _ h4
            have e2 := hpos _ _ _ h4
            obtain ⟨r, hf, rfl⟩ := hR.ok s x a (by omega) h4
            obtain ⟨xs, s', hl⟩ := ih (acc ++ [x]) (s.drop a) e (by simp; omega) (by simp; omega) h6
            rw [loop_next ((hB s).trans hf)]
            simp only [List.length_append, List.length_cons, List.length_nil, Nat.zero_add] at hl
            exact ⟨xs, s', hl⟩
          · cases h7
    intro s e hs hr
    obtain ⟨xs, s', hl⟩ := gen n.toNat [] s e (by simp) (by simp; omega) hr
    exact ⟨_, hl, _, _, rfl⟩
end
end Go.Proofs.YtmdmdmaekjpfjaaGreat

import Derived.Test.YtmdmdmaekjpfjaaGreatB19
import Derived.Test.YtmdmdmaekjpfjaaGreatRn
namespace Go.Proofs.YtmdmdmaekjpfjaaGreat
open Go.RowKit Lb
set_option linter.unusedVariables false
set_option linter.unnecessarySimpa false
set_option linter.unusedSimpArgs false
abbrev Blok := List Stm × Tm
abbrev Bod := Int × Int × List (Int × Int) × List (List St) × List St × List Sgt × List Blok
def pstmt : Ps Stm := fun s => if (sTake s).2.2.2.2.2.2 = 0 then .inr (((sTake s).1, (sTake s).2.1, (sTake s).2.2.1, (sTake s).2.2.2.1, (sTake s).2.2.2.2.1), (sTake s).2.2.2.2.2.1.toNat) else .inl (sTake s).2.2.2.2.2.2
noncomputable def pterm : Ps Tm := fun s => if s.length ≤ 1000000 then match fn_term_Take s with
  | some (a, b, c, d, f, g, n, e) => if e = 0 then .inr ((a, b, c, d, f, g), n.toNat) else .inl e
  | none => .inl 1 else .inl 1
noncomputable def pblk : Ps Blok := pb (plist 65536 pstmt) fun l => pb pterm fun t => pret (l, t)
noncomputable def pbody : Ps Bod := pb (pcount 65536) fun u => pb (pcount 65536) fun n => pb (pbounds 65536) fun B => pb (plist 65536 ptype) fun L => pb ptype fun R => pb (plist 65536 psig) fun S => pb (plist 65536 pblk) fun X => pret (u, n, B, L, R, S, X)
theorem sPut_pos {x : Stm} (h : fOk x = true) : sPut x ≠ [] := by
  have h6 : 0 ≤ x.1 ∧ x.1 ≤ 5 := by
    unfold fOk at h
    simp only [Bool.and_eq_true, decide_eq_true_eq] at h
    exact ⟨h.1.1.1.1, h.1.1.1.2⟩
  intro hc
  have : put x.1 = [] := by
    unfold sPut at hc
    simp only [numsPut] at hc
    exact (List.append_eq_nil_iff.1 hc).1
  have := (put_nil _).1 this
  omega
theorem pstmt_inr {s : List UInt8} {x : Stm} {m : Nat} (h : pstmt s = .inr (x, m)) : sTake s = (x.1, x.2.1, x.2.2.1, x.2.2.2.1, x.2.2.2.2, (m : Int), 0) ∧ m ≤ s.length ∧ 1 ≤ m ∧ fOk x = true ∧ 0 ≤ x.2.2.2.1 ∧ x.2.2.2.1 < 2147483648 ∧ sPut x = s.take m ∧ okN x.2.1 ∧ okN x.2.2.1 := by
  unfold pstmt at h
  split at h
  · rename_i h0
    obtain ⟨m', h1, h2, h3, h4, h5, h6, h7, h8⟩ := sTake_ok s h0
    rw [h1, Int.toNat_natCast] at h
    simp only [Sum.inr.injEq, Prod.mk.injEq] at h
    obtain ⟨rfl, rfl⟩ := h
    refine ⟨?_, h2, ?_, h3, h4, h5, h6, h7, h8⟩
    · rw [← h1, ← h0]
    · rcases Nat.eq_zero_or_pos m' with rfl | hm
      · rw [List.take_zero] at h6; exact absurd h6 (sPut_pos h3)
      · exact hm
  · cases h
theorem pstmt_inl {s : List UInt8} {e : Int} (h : pstmt s = .inl e) : sTake s = (0, 0, 0, 0, false, 0, e) ∧ e ≠ 0 := by
  unfold pstmt at h
  split at h
  · cases h
  · rename_i h0
    cases h
    refine ⟨?_, h0⟩
    unfold sTake at h0 ⊢
    split
    · rfl
    · split
      · rfl
      · split
        · rfl
        · rename_i h1 h2 h3
          rw [if_neg h1, if_neg h2, if_neg h3] at h0
          exact absurd rfl h0
theorem Sane.stmt : Sane pstmt := ⟨fun s e h => (pstmt_inl h).2, fun s x m h => (pstmt_inr h).2.1⟩
theorem stmt_pos : ∀ (s : List UInt8) (x : Stm) (m : Nat), pstmt s = .inr (x, m) → 1 ≤ m := fun s x m h => (pstmt_inr h).2.2.1
theorem takeN {s : List UInt8} {y : Tm} {n e : Int} (h : fn_term_Take s = some (y.1, y.2.1, y.2.2.1, y.2.2.2.1, y.2.2.2.2.1, y.2.2.2.2.2, n, e)) (he : e ≠ 0) : n = 0 := by
  unfold fn_term_Take at h
  obtain ⟨⟨a1, a2, a3⟩, _, h⟩ := Option.bind_eq_some_iff.1 h
  obtain ⟨⟨b1, b2, b3, b4, b5, b6, b7⟩, _, h⟩ := Option.bind_eq_some_iff.1 h
  dsimp only at h
  by_cases h0 : b2 = 0
  · rw [decide_eq_true h0] at h
    simp only [Bool.not_true, cond_false, Option.some.injEq, Prod.mk.injEq] at h
    exact absurd h.2.2.2.2.2.2.2.symm he
  · rw [decide_eq_false h0] at h
    simp only [Bool.not_false, cond_true, Option.some.injEq, Prod.mk.injEq] at h
    exact h.2.2.2.2.2.2.1.symm
theorem tPut_pos {x : Tm} (h : tForm x = 0) : tPut x ≠ [] := by
  obtain ⟨h1, _⟩ := tForm_zero h
  intro hc
  unfold tPut at hc
  have := (put_nil _).1 (List.append_eq_nil_iff.1 hc).1
  unfold tRight at h1
  split at h1
  · omega
  · split at h1
    · omega
    · split at h1
      · omega
      · split at h1
        · omega
        · exact absurd h1 (by simp)
theorem pterm_inr {s : List UInt8} {x : Tm} {m : Nat} (h : pterm s = .inr (x, m)) : fn_term_Take s = some (x.1, x.2.1, x.2.2.1, x.2.2.2.1, x.2.2.2.2.1, x.2.2.2.2.2, (m : Int), 0) ∧ fn_ref19_Take s = some (x.1, x.2.1, x.2.2.1, x.2.2.2.1, x.2.2.2.2.1, x.2.2.2.2.2, (m : Int), 0) ∧ m ≤ s.length ∧ 1 ≤ m ∧ tForm x = 0 ∧ tPut x = s.take m ∧ okTm x := by
  unfold pterm at h
  split at h
  · rename_i hs
    obtain ⟨y, n, e, g1, g2⟩ := takeA s (by omega)
    obtain ⟨y', n', e', f1, f2, _⟩ := takes_eq s hs
    rw [f1] at g1
    rw [f1] at h
    simp only [Option.some.injEq, Prod.mk.injEq] at g1
    obtain ⟨q1, q2, q3, q4, q5, q6, rfl, rfl⟩ := g1
    have : y' = y := Prod.ext q1 (Prod.ext q2 (Prod.ext q3 (Prod.ext q4 (Prod.ext q5 q6))))
    subst this
    dsimp only at h
    split at h
    · rename_i he
      subst he
      obtain ⟨k, rfl, k1, k2, k3, k4⟩ := g2 rfl
      simp only [Sum.inr.injEq, Prod.mk.injEq, Int.toNat_natCast] at h
      obtain ⟨rfl, rfl⟩ := h
      refine ⟨f1, f2, k1, ?_, k2, k3, k4⟩
      rcases Nat.eq_zero_or_pos k with rfl | hm
      · rw [List.take_zero] at k3; exact absurd k3 (tPut_pos k2)
      · exact hm
    · cases h
  · cases h
theorem pterm_inl {s : List UInt8} {e : Int} (h : pterm s = .inl e) : e ≠ 0 ∧ (s.length ≤ 1000000 → ∃ y : Tm, fn_term_Take s = some (y.1, y.2.1, y.2.2.1, y.2.2.2.1, y.2.2.2.2.1, y.2.2.2.2.2, 0, e) ∧ fn_ref19_Take s = some (y.1, y.2.1, y.2.2.1, y.2.2.2.1, y.2.2.2.2.1, y.2.2.2.2.2, 0, e)) := by
  unfold pterm at h
  split at h
  · rename_i hs
    obtain ⟨y, n, e', f1, f2, _⟩ := takes_eq s hs
    rw [f1] at h
    dsimp only at h
    split at h
    · cases h
    · rename_i he
      cases h
      have := takeN f1 he
      subst this
      exact ⟨he, fun _ => ⟨y, f1, f2⟩⟩
  · cases h
    exact ⟨by decide, fun hs => by rename_i hn; exact absurd hs hn⟩
theorem Sane.term : Sane pterm := ⟨fun s e h => (pterm_inl h).1, fun s x m h => (pterm_inr h).2.2.1⟩
theorem term_pos : ∀ (s : List UInt8) (x : Tm) (m : Nat), pterm s = .inr (x, m) → 1 ≤ m := fun s x m h => (pterm_inr h).2.2.2.1
theorem Sane.blk : Sane pblk := (Sane.list _ Sane.stmt).pb fun l => Sane.term.pb fun t => Sane.ret _
theorem blk_pos : ∀ (s : List UInt8) (x : Blok) (m : Nat), pblk s = .inr (x, m) → 1 ≤ m := pb_pos list_pos
theorem Sane.body : Sane pbody := (Sane.count _).pb fun u => (Sane.count _).pb fun n => (Sane.bounds _).pb fun B => (Sane.list _ Sane.type).pb fun L => Sane.type.pb fun R => (Sane.list _ Sane.sig).pb fun S => (Sane.list _ Sane.blk).pb fun X => Sane.ret _
theorem sig_pos : ∀ (s : List UInt8) (x : Sgt) (m : Nat), psig s = .inr (x, m) → 1 ≤ m := pb_pos pnum_pos
theorem bind4 {α β γ δ : Type} (o : Option (α × β × γ × δ)) : (o.bind fun (a, b, c, d) => some (a, b, c, d)) = o := by cases o <;> rfl
abbrev q4 {α : Type} (x : α) (s : List UInt8) (c e : Int) : α × List UInt8 × Int × Int := (x, s, c, e)
/-- One thing, by what takes one. -/
theorem one_run {α τ δ : Type} {T : List UInt8 → Option τ} {p : Ps α} (hp : Sane p) (hpos : ∀ s x m, p s = .inr (x, m) → 1 ≤ m) {f : List UInt8 → Int → Int → Option δ} {mk : α → List UInt8 → Int → Int → δ} (z : α)
    (out : α → Int → Int → τ)
    (hT : ∀ s, s.length ≤ 1000000 → (∀ x m, p s = .inr (x, m) → T s = some (out x (m : Int) 0)) ∧ (∀ e, p s = .inl e → ∃ x, T s = some (out x 0 e)))
    (G : List UInt8 → Int → Int → τ → Option δ) (hf : ∀ s c e, f s c e = cond (!decide (e = 0)) (some (mk z s c e)) ((T s).bind (G s c e)))
    (hG : ∀ s c e x m e', G s c e (out x m e') = cond (!decide (e' = 0)) (some (mk z s c e')) ((subL s m (((s.length : Nat) : Int))).bind fun y => some (mk x y (IntKind.wrap .i64 (c + 1)) e))) : Rds f mk p :=
  Run.one (z := z) hpos (fun s c e he => by rw [hf, decide_eq_false he]; rfl) (fun s c x m hs hr => by
      have hm := hp.len _ _ _ hr
      rw [hf, decide_eq_true rfl, Bool.not_true, cond_false, (hT s (by omega)).1 x m hr, Option.bind_some, hG, decide_eq_true rfl, Bool.not_true, cond_false, sub_tail _ _ hm, w64 (by omega) (by omega)]; rfl)
    (fun s c e hs hr => by
      obtain ⟨x, hx⟩ := (hT s (by omega)).2 e hr
      rw [hf, decide_eq_true rfl, Bool.not_true, cond_false, hx, Option.bind_some, hG, decide_eq_false (hp.err _ _ hr)]; rfl)
theorem oneNum : Rds fn_body_one_int_p0_leb_Take__sii q4 pnum :=
  one_run (T := fn_leb_Take) Sane.num pnum_pos 0 (fun x m e => (x, m, e)) (fun s hs => ⟨fun x m h => by rw [lebTake_eq s (by omega), (pnum_inr h).1], fun e h => ⟨0, by rw [lebTake_eq s (by omega), (pnum_inl h).1]⟩⟩)
    (fun s c e t => match t with | (x, m, e') => cond (!decide (e' = 0)) (some (q4 0 s c e')) ((subL s m (((s.length : Nat) : Int))).bind fun y => some (q4 x y (IntKind.wrap .i64 (c + 1)) e))) (fun s c e => rfl) (fun s c e x m e' => rfl)
theorem countRun : Rds fn_body_count_p0_sii q4 (pcount 65536) where
  ok := by
    intro s c n m hs hr
    obtain ⟨h1, h2⟩ := pcount_inr hr
    obtain ⟨d, t, hd, hf, rfl⟩ := oneNum.ok s c n m hs h1
    refine ⟨d, _, hd, ?_, rfl⟩
    unfold fn_body_count_p0_sii
    rw [hf]
    show cond (decide (65536 < n)) _ _ = _
    rw [decide_eq_false (by omega)]; rfl
  err := by
    intro s c e hs hr
    unfold fn_body_count_p0_sii
    rcases pb_inl hr with h1 | ⟨n, m, h1, h2⟩
    · unfold fn_body_one_int_p0_leb_Take__sii
      rw [lebTake_eq s (by omega), (pnum_inl h1).1, decide_eq_true rfl, Bool.not_true, cond_false, Option.bind_some]
      show ∃ r, (cond (!decide (e = 0)) _ _ : Option _).bind _ = some r ∧ _
      rw [decide_eq_false (pnum_inl h1).2]
      exact ⟨q4 0 s c e, rfl, 0, s, c, rfl⟩
    · obtain ⟨d, t, hd, hf, rfl⟩ := oneNum.ok s c n m hs h1
      rw [hf]
      split at h2
      · rename_i hn
        cases h2
        refine ⟨q4 0 (s.drop m) ((c + d : Nat) : Int) 6, ?_, 0, s.drop m, ((c + d : Nat) : Int), rfl⟩
        show cond (decide (65536 < n)) _ _ = _
        rw [decide_eq_true hn]; rfl
      · cases h2
  bad := by
    intro s c e he
    unfold fn_body_count_p0_sii fn_body_one_int_p0_leb_Take__sii
    rw [decide_eq_false he]
    exact ⟨q4 0 s c e, rfl, 0, s, c, rfl⟩
theorem oneBounds : Rds fn_body_one_api_Bound_p0_body_takeBounds__sii (fun x s c e => (x, s, c, e)) (pbounds 65536) :=
  one_run (T := fn_body_takeBounds) (Sane.bounds _) list_pos [] (fun x m e => (x, m, e)) (fun s hs => ⟨fun x m h => by unfold fn_body_takeBounds; rw [sigTakeBounds_eq s 65536 hs, h]; rfl, fun e h => ⟨[], by unfold fn_body_takeBounds; rw [sigTakeBounds_eq s 65536 hs, h]; rfl⟩⟩)
    (fun s c e t => match t with | (l, m, e') => cond (!decide (e' = 0)) (some ((fun (x : List (Int × Int)) (s : List UInt8) (c e : Int) => (x, s, c, e)) [] s c e')) ((subL s m (((s.length : Nat) : Int))).bind fun y => some ((fun (x : List (Int × Int)) (s : List UInt8) (c e : Int) => (x, s, c, e)) l y (IntKind.wrap .i64 (c + 1)) e))) (fun s c e => rfl) (fun s c e x m e' => rfl)
theorem oneType : Rds fn_body_one_api_Type_p0_sig_TakeType__sii (fun x s c e => (x, s, c, e)) ptype :=
  one_run (T := fn_sig_TakeType) Sane.type type_pos [] (fun x m e => (x, m, e)) (fun s hs => ⟨fun x m h => by rw [sigTakeType_eq s hs, h]; rfl, fun e h => ⟨[], by rw [sigTakeType_eq s hs, h]; rfl⟩⟩)
    (fun s c e t => match t with | (l, m, e') => cond (!decide (e' = 0)) (some ((fun (x : List St) (s : List UInt8) (c e : Int) => (x, s, c, e)) [] s c e')) ((subL s m (((s.length : Nat) : Int))).bind fun y => some ((fun (x : List St) (s : List UInt8) (c e : Int) => (x, s, c, e)) l y (IntKind.wrap .i64 (c + 1)) e))) (fun s c e => rfl) (fun s c e x m e' => rfl)
theorem oneSig : Rds fn_body_one_api_Sig_p0_sig_Take__sii (fun x s c e => (x.1, x.2.1, x.2.2.1, x.2.2.2, s, c, e)) psig :=
  one_run (T := fn_sig_Take) Sane.sig sig_pos (0, [], [], []) (fun x m e => (x.1, x.2.1, x.2.2.1, x.2.2.2, m, e)) (fun s hs => ⟨fun x m h => by rw [sigTake_eq s hs, h]; rfl, fun e h => ⟨(0, [], [], []), by rw [sigTake_eq s hs, h]; rfl⟩⟩)
    (fun s c e t => match t with | (a, b, c', d, m, e') => cond (!decide (e' = 0)) (some ((fun (x : Sgt) (s : List UInt8) (c e : Int) => (x.1, x.2.1, x.2.2.1, x.2.2.2, s, c, e)) (0, [], [], []) s c e')) ((subL s m (((s.length : Nat) : Int))).bind fun y => some ((fun (x : Sgt) (s : List UInt8) (c e : Int) => (x.1, x.2.1, x.2.2.1, x.2.2.2, s, c, e)) (a, b, c', d) y (IntKind.wrap .i64 (c + 1)) e))) (fun s c e => rfl) (fun s c e x m e' => rfl)
theorem oneStmt : Rds fn_body_one_api_Stmt_p0_stmt_Take__sii (fun x s c e => (x.1, x.2.1, x.2.2.1, x.2.2.2.1, x.2.2.2.2, s, c, e)) pstmt :=
  one_run (T := fn_stmt_Take) Sane.stmt stmt_pos (0, 0, 0, 0, false) (fun x m e => (x.1, x.2.1, x.2.2.1, x.2.2.2.1, x.2.2.2.2, m, e)) (fun s hs => ⟨fun x m h => by rw [stmtTake_eq s (by omega), (pstmt_inr h).1], fun e h => ⟨(0, 0, 0, 0, false), by rw [stmtTake_eq s (by omega), (pstmt_inl h).1]⟩⟩)
    (fun s c e t => match t with | (a, b, c', d, f, m, e') => cond (!decide (e' = 0)) (some ((fun (x : Stm) (s : List UInt8) (c e : Int) => (x.1, x.2.1, x.2.2.1, x.2.2.2.1, x.2.2.2.2, s, c, e)) (0, 0, 0, 0, false) s c e')) ((subL s m (((s.length : Nat) : Int))).bind fun y => some ((fun (x : Stm) (s : List UInt8) (c e : Int) => (x.1, x.2.1, x.2.2.1, x.2.2.2.1, x.2.2.2.2, s, c, e)) (a, b, c', d, f) y (IntKind.wrap .i64 (c + 1)) e))) (fun s c e => rfl) (fun s c e x m e' => rfl)
theorem oneTerm : Rds fn_body_one_api_Term_p0_term_Take__sii (fun x s c e => (x.1, x.2.1, x.2.2.1, x.2.2.2.1, x.2.2.2.2.1, x.2.2.2.2.2, s, c, e)) pterm :=
  one_run (T := fn_term_Take) Sane.term term_pos (0, 0, 0, [], [], []) (fun x m e => (x.1, x.2.1, x.2.2.1, x.2.2.2.1, x.2.2.2.2.1, x.2.2.2.2.2, m, e)) (fun s hs => ⟨fun x m h => (pterm_inr h).1, fun e h => by obtain ⟨y, h1, h2⟩ := (pterm_inl h).2 hs; exact ⟨y, h1⟩⟩)
    (fun s c e t => match t with | (a, b, c', d, f, g, m, e') => cond (!decide (e' = 0)) (some ((fun (x : Tm) (s : List UInt8) (c e : Int) => (x.1, x.2.1, x.2.2.1, x.2.2.2.1, x.2.2.2.2.1, x.2.2.2.2.2, s, c, e)) (0, 0, 0, [], [], []) s c e')) ((subL s m (((s.length : Nat) : Int))).bind fun y => some ((fun (x : Tm) (s : List UInt8) (c e : Int) => (x.1, x.2.1, x.2.2.1, x.2.2.2.1, x.2.2.2.2.1, x.2.2.2.2.2, s, c, e)) (a, b, c', d, f, g) y (IntKind.wrap .i64 (c + 1)) e))) (fun s c e => rfl) (fun s c e x m e' => rfl)
theorem listType : Rds fn_body_list_api_Type_p0_sig_TakeType__sii q4 (plist 65536 ptype) := by
  refine Run.bind (f := fn_body_count_p0_sii) countRun (Sane.count _) (fun n => ?_)
  refine Run.fn (Run.many (σ := List (List St) × Int × List UInt8 × Int × Int) (ρ := List (List St) × List UInt8 × Int × Int) Sane.type type_pos (body := fn_body_list_api_Type_p0_sig_TakeType__sii_l1 n) n (fun acc i s c e => (acc, i, s, c, e)) q4 ?_ ?_) (fun s c e => bind4 _)
  · intro acc i s c e h
    unfold fn_body_list_api_Type_p0_sig_TakeType__sii_l1
    have : (decide (i < n) && decide (e = 0)) = false := by
      rcases h with h | h
      · rw [decide_eq_false (by omega), Bool.false_and]
      · rw [decide_eq_false h, Bool.and_false]
    dsimp only; rw [this]; rfl
  · intro acc ha hn
    refine ⟨fun s c e => (fn_body_one_api_Type_p0_sig_TakeType__sii s c e).bind fun (x, s, c, e) => (app acc [x]).bind fun z => some (.inl (z, IntKind.wrap .i64 (((acc.length : Nat) : Int) + 1), s, c, e)), fun s c => ?_, ?_⟩
    · unfold fn_body_list_api_Type_p0_sig_TakeType__sii_l1
      dsimp only
      rw [decide_eq_true hn]; rfl
    · refine Run.map oneType Sane.type (fun x s c e => ?_)
      refine ⟨.inl (acc ++ [x], ((acc.length + 1 : Nat) : Int), s, c, e), ?_, fun h => by rw [h], fun h => ⟨_, _, _, _, rfl⟩⟩
      dsimp only
      rw [app_eq (by simp; omega), w64 (by omega) (by omega)]; rfl
theorem listSig : Rds fn_body_list_api_Sig_p0_sig_Take__sii q4 (plist 65536 psig) := by
  refine Run.bind (f := fn_body_count_p0_sii) countRun (Sane.count _) (fun n => ?_)
  refine Run.fn (Run.many (σ := List (Sgt) × Int × List UInt8 × Int × Int) (ρ := List (Sgt) × List UInt8 × Int × Int) Sane.sig sig_pos (body := fn_body_list_api_Sig_p0_sig_Take__sii_l1 n) n (fun acc i s c e => (acc, i, s, c, e)) q4 ?_ ?_) (fun s c e => bind4 _)
  · intro acc i s c e h
    unfold fn_body_list_api_Sig_p0_sig_Take__sii_l1
    have : (decide (i < n) && decide (e = 0)) = false := by
      rcases h with h | h
      · rw [decide_eq_false (by omega), Bool.false_and]
      · rw [decide_eq_false h, Bool.and_false]
    dsimp only; rw [this]; rfl
  · intro acc ha hn
    refine ⟨fun s c e => (fn_body_one_api_Sig_p0_sig_Take__sii s c e).bind fun (x1, x2, x3, x4, s, c, e) => (app acc [((x1, x2, x3, x4) : Sgt)]).bind fun z => some (.inl (z, IntKind.wrap .i64 (((acc.length : Nat) : Int) + 1), s, c, e)), fun s c => ?_, ?_⟩
    · unfold fn_body_list_api_Sig_p0_sig_Take__sii_l1
      dsimp only
      rw [decide_eq_true hn]; rfl
    · refine Run.map oneSig Sane.sig (fun x s c e => ?_)
      refine ⟨.inl (acc ++ [x], ((acc.length + 1 : Nat) : Int), s, c, e), ?_, fun h => by rw [h], fun h => ⟨_, _, _, _, rfl⟩⟩
      dsimp only
      rw [app_eq (by simp; omega), w64 (by omega) (by omega)]; rfl
theorem listStmt : Rds fn_body_list_api_Stmt_p0_stmt_Take__sii q4 (plist 65536 pstmt) := by
  refine Run.bind (f := fn_body_count_p0_sii) countRun (Sane.count _) (fun n => ?_)
  refine Run.fn (Run.many (σ := List (Stm) × Int × List UInt8 × Int × Int) (ρ := List (Stm) × List UInt8 × Int × Int) Sane.stmt stmt_pos (body := fn_body_list_api_Stmt_p0_stmt_Take__sii_l1 n) n (fun acc i s c e => (acc, i, s, c, e)) q4 ?_ ?_) (fun s c e => bind4 _)
  · intro acc i s c e h
    unfold fn_body_list_api_Stmt_p0_stmt_Take__sii_l1
    have : (decide (i < n) && decide (e = 0)) = false := by
      rcases h with h | h
      · rw [decide_eq_false (by omega), Bool.false_and]
      · rw [decide_eq_false h, Bool.and_false]
    dsimp only; rw [this]; rfl
  · intro acc ha hn
    refine ⟨fun s c e => (fn_body_one_api_Stmt_p0_stmt_Take__sii s c e).bind fun (x1, x2, x3, x4, x5, s, c, e) => (app acc [((x1, x2, x3, x4, x5) : Stm)]).bind fun z => some (.inl (z, IntKind.wrap .i64 (((acc.length : Nat) : Int) + 1), s, c, e)), fun s c => ?_, ?_⟩
    · unfold fn_body_list_api_Stmt_p0_stmt_Take__sii_l1
      dsimp only
      rw [decide_eq_true hn]; rfl
    · refine Run.map oneStmt Sane.stmt (fun x s c e => ?_)
      refine ⟨.inl (acc ++ [x], ((acc.length + 1 : Nat) : Int), s, c, e), ?_, fun h => by rw [h], fun h => ⟨_, _, _, _, rfl⟩⟩
      dsimp only
      rw [app_eq (by simp; omega), w64 (by omega) (by omega)]; rfl
theorem blocksRun (n : Int) : Rds (fun s c e => loop (fn_body_Take_sz_l1 n) (0, s, c, e, [])) (fun X s c e => (s, c, e, X)) (pmany pblk n.toNat) := by
  refine Run.many (σ := Int × List UInt8 × Int × Int × List Blok) (ρ := List UInt8 × Int × Int × List Blok) Sane.blk blk_pos (body := fn_body_Take_sz_l1 n) n (fun acc i s c e => (i, s, c, e, acc)) (fun X s c e => (s, c, e, X)) ?_ ?_
  · intro acc i s c e h
    unfold fn_body_Take_sz_l1
    have : (decide (i < n) && decide (e = 0)) = false := by
      rcases h with h | h
      · rw [decide_eq_false (by omega), Bool.false_and]
      · rw [decide_eq_false h, Bool.and_false]
    dsimp only; rw [this]; rfl
  · intro acc ha hn
    refine ⟨fun s c e => (fn_body_list_api_Stmt_p0_stmt_Take__sii s c e).bind fun (l, s, c, e) => (fn_body_one_api_Term_p0_term_Take__sii s c e).bind fun (x1, x2, x3, x4, x5, x6, s, c, e) => (app acc [((l, (x1, x2, x3, x4, x5, x6)) : Blok)]).bind fun z => some (.inl (IntKind.wrap .i64 (((acc.length : Nat) : Int) + 1), s, c, e, z)), fun s c => ?_, ?_⟩
    · unfold fn_body_Take_sz_l1
      dsimp only
      rw [decide_eq_true hn]; rfl
    · refine Run.bind listStmt (Sane.list _ Sane.stmt) (fun l => ?_)
      refine Run.bind (f := fn_body_one_api_Term_p0_term_Take__sii) oneTerm Sane.term (fun t => ?_)
      refine Run.ret (fun s c e => ?_)
      refine ⟨.inl (((acc.length + 1 : Nat) : Int), s, c, e, acc ++ [(l, t)]), ?_, fun h => by rw [h], fun h => ⟨_, _, _, _, rfl⟩⟩
      dsimp only
      rw [app_eq (by simp; omega), w64 (by omega) (by omega)]; rfl
/-- The last step, of either form. -/
theorem takeRun {ρ : Type} (K : Bod → List UInt8 → Int → Int → Option ρ) {okr : Bod → List UInt8 → Int → ρ → Prop} {er : Int → ρ → Prop} (hK : ∀ b s c e, ∃ r, K b s c e = some r ∧ (e = 0 → okr b s c r) ∧ (e ≠ 0 → er e r)) :
    Run (fun s c e => (fn_body_count_p0_sii s c e).bind fun (i634, s635, i636, i637) => (fn_body_count_p0_sii s635 i636 i637).bind fun (i643, s644, i645, i646) => (fn_body_one_api_Bound_p0_body_takeBounds__sii s644 i645 i646).bind fun (l652, s653, i654, i655) => (fn_body_list_api_Type_p0_sig_TakeType__sii s653 i654 i655).bind fun (l665, s666, i667, i668) => (fn_body_one_api_Type_p0_sig_TakeType__sii s666 i667 i668).bind fun (l678, s679, i680, i681) => (fn_body_list_api_Sig_p0_sig_Take__sii s679 i680 i681).bind fun (l691, s692, i693, i694) => (fn_body_count_p0_sii s692 i693 i694).bind fun (i704, s705, i706, i707) => (loop (fn_body_Take_sz_l1 i704) (0, s705, i706, i707, []) : Option (List UInt8 × Int × Int × List Blok)).bind fun (s943, i944, i945, l946) => K (i634, i643, l652, l665, l678, l691, l946) s943 i944 i945) okr er pbody := by
  refine Run.bind (f := fn_body_count_p0_sii) countRun (Sane.count _) (fun u => ?_)
  refine Run.bind (f := fn_body_count_p0_sii) countRun (Sane.count _) (fun n => ?_)
  refine Run.bind (f := fn_body_one_api_Bound_p0_body_takeBounds__sii) oneBounds (Sane.bounds _) (fun B => ?_)
  refine Run.bind (f := fn_body_list_api_Type_p0_sig_TakeType__sii) listType (Sane.list _ Sane.type) (fun L => ?_)
  refine Run.bind (f := fn_body_one_api_Type_p0_sig_TakeType__sii) oneType Sane.type (fun R => ?_)
  refine Run.bind (f := fn_body_list_api_Sig_p0_sig_Take__sii) listSig (Sane.list _ Sane.sig) (fun S => ?_)
  show Run _ okr er (pb (plist 65536 pblk) fun X => pret (u, n, B, L, R, S, X))
  unfold plist
  rw [pb_assoc]
  refine Run.bind (f := fn_body_count_p0_sii) countRun (Sane.count _) (fun k => ?_)
  refine Run.bind (blocksRun k) (Sane.many Sane.blk _) (fun X => ?_)
  refine Run.ret (fun s c e => ?_)
  exact hK (u, n, B, L, R, S, X) s c e
/-- What is cut off ahead. -/
def headed (s : List UInt8) : Bool := decide (4 ≤ s.length) && decide (s.take 4 = [109, 105, 114, 1])
theorem cut_eq (s : List UInt8) : fn_strings_CutPrefix s [109, 105, 114, 1] = some (if headed s then (s.drop 4, true) else (s, false)) := by
  unfold fn_strings_CutPrefix fn_internal_stringslite_CutPrefix fn_internal_stringslite_HasPrefix headed
  by_cases h : 4 ≤ s.length
  · have h1 : decide ((((([109, 105, 114, 1] : List UInt8)).length : Nat) : Int) ≤ ((s.length : Nat) : Int)) = true := by simp; omega
    rw [h1, cond_true, show (((([109, 105, 114, 1] : List UInt8)).length : Nat) : Int) = ((4 : Nat) : Int) from rfl, subL_eq (by omega) (by omega) (by omega), sub_tail s 4 h]
    simp only [Option.bind_some, Int.toNat_natCast, Int.toNat_zero, List.drop_zero, decide_eq_true h, Bool.true_and]
    cases decide (List.take 4 s = [109, 105, 114, 1]) <;> rfl
  · have h1 : decide ((((([109, 105, 114, 1] : List UInt8)).length : Nat) : Int) ≤ ((s.length : Nat) : Int)) = false := by simp; omega
    rw [h1, cond_false, decide_eq_false h]; rfl
abbrev zB : Bod := (0, 0, [], [], [], [], [])
noncomputable def tk (s : List UInt8) : Bod × Int := if headed s then match pbody (s.drop 4) with
  | .inl e => (zB, e)
  | .inr (b, m) => if s.drop (4 + m) = [] then (b, 0) else (zB, 13) else (zB, 12)
abbrev fl20 (r : Bod × Int) : Int × Int × List (Int × Int) × List (List St) × List St × List Sgt × List Blok × Int := (r.1.1, r.1.2.1, r.1.2.2.1, r.1.2.2.2.1, r.1.2.2.2.2.1, r.1.2.2.2.2.2.1, r.1.2.2.2.2.2.2, r.2)
theorem takeZ_eq (s : List UInt8) (hs : s.length ≤ 1000000) : fn_body_Take_sz s = some (fl20 (tk s)) := by
  have hR := takeRun (fun b s c e => (cond ((decide (e = 0)) && (!decide (s = ([] : List UInt8)))) (some (13)) (some (e)) : Option Int).bind fun i1188 => cond (!decide (i1188 = 0)) (some ((0, 0, [], [], [], [], [], i1188))) ((fn_tick_Counter_Add_zii 0 c).bind fun _ => some ((b.1, b.2.1, b.2.2.1, b.2.2.2.1, b.2.2.2.2.1, b.2.2.2.2.2.1, b.2.2.2.2.2.2, 0))))
    (okr := fun b s c r => r = fl20 (if s = [] then (b, 0) else (zB, 13))) (er := fun e r => r = fl20 (zB, e)) (fun b s c e => by
      refine ⟨if e = 0 then fl20 (if s = [] then (b, 0) else (zB, 13)) else fl20 (zB, e), ?_, fun h => by rw [if_pos h], fun h => by rw [if_neg h]⟩
      by_cases he : e = 0
      · subst he
        by_cases hs : s = []
        · subst hs; rfl
        · rw [decide_eq_false hs]; simp [hs]
      · rw [decide_eq_false he]; simp [he])
  unfold fn_body_Take_sz tk
  rw [cut_eq]
  cases hh : headed s with
  | false => rfl
  | true =>
    rw [if_pos rfl, if_pos rfl]
    have hl : (s.drop 4).length + 0 ≤ 1000000 := by rw [List.length_drop]; omega
    cases hp : pbody (s.drop 4) with
    | inl e =>
      obtain ⟨r, h1, h2⟩ := hR.err (s.drop 4) 0 e hl hp
      exact h1.trans (congrArg some h2)
    | inr bm =>
      obtain ⟨b, m⟩ := bm
      obtain ⟨d, r, hd, h1, h2⟩ := hR.ok (s.drop 4) 0 b m hl hp
      rw [List.drop_drop] at h2
      exact h1.trans (congrArg some h2)
end Go.Proofs.YtmdmdmaekjpfjaaGreat

import Derived.Test.YtmdmdmaekjpfjaaGreatB20
namespace Go.Proofs.YtmdmdmaekjpfjaaGreat
open Go.RowKit Lb
set_option linter.unusedVariables false
set_option linter.unnecessarySimpa false
set_option linter.unusedSimpArgs false
section
variable {α β γ δ σ ρ τ : Type}
theorem Got.diag {F : List UInt8 → List UInt8 → Option ρ} {okr : α → List UInt8 → ρ → Prop} {er : Int → ρ → Prop} {p : Ps α} (h : ∀ s0, Got (F s0) okr er p) : Got (fun s => F s s) okr er p :=
  ⟨fun s => (h s).ok s, fun s => (h s).err s⟩
theorem Got.take {T : List UInt8 → Option τ} {p : Ps α} (hp : Sane p) (out : α → Int → Int → τ)
    (hT : ∀ s, s.length ≤ 1000000 → (∀ x m, p s = .inr (x, m) → T s = some (out x (m : Int) 0)) ∧ (∀ e, p s = .inl e → ∃ x, T s = some (out x 0 e)))
    {G : List UInt8 → τ → Option ρ} (K : α → List UInt8 → Option ρ) (er1 : Int → ρ) {q : α → Ps β} {okr : β → List UInt8 → ρ → Prop} {er : Int → ρ → Prop}
    (hG : ∀ s x m e', G s (out x m e') = cond (!decide (e' = 0)) (some (er1 e')) ((subL s m (((s.length : Nat) : Int))).bind fun y => K x y)) (hE : ∀ e, er e (er1 e)) (hK : ∀ x, Got (K x) okr er (q x)) : Got (fun s => (T s).bind (G s)) okr er (pb p q) where
  ok := by
    intro s y k hs hr
    obtain ⟨x, m, j, h1, h2, rfl⟩ := pb_inr hr
    obtain ⟨r, hf, ho⟩ := (hK x).ok (s.drop m) y j (by rw [List.length_drop]; omega) h2
    refine ⟨r, ?_, by rw [List.drop_drop] at ho; exact ho⟩
    show (T s).bind (G s) = _
    rw [(hT s hs).1 x m h1, Option.bind_some, hG, decide_eq_true rfl, Bool.not_true, cond_false, sub_tail _ _ (hp.len _ _ _ h1)]
    exact hf
  err := by
    intro s e hs hr
    rcases pb_inl hr with h1 | ⟨x, m, h1, h2⟩
    · obtain ⟨x, hx⟩ := (hT s hs).2 e h1
      refine ⟨er1 e, ?_, hE e⟩
      show (T s).bind (G s) = _
      rw [hx, Option.bind_some, hG, decide_eq_false (hp.err _ _ h1)]; rfl
    · obtain ⟨r, hf, ho⟩ := (hK x).err (s.drop m) e (by rw [List.length_drop]; omega) h2
      refine ⟨r, ?_, ho⟩
      show (T s).bind (G s) = _
      rw [(hT s hs).1 x m h1, Option.bind_some, hG, decide_eq_true rfl, Bool.not_true, cond_false, sub_tail _ _ (hp.len _ _ _ h1)]
      exact hf
theorem Got.elem {T : List UInt8 → Option τ} {p : Ps α} (hp : Sane p) (out : α → Int → Int → τ)
    (hT : ∀ s, s.length ≤ 1000000 → (∀ x m, p s = .inr (x, m) → T s = some (out x (m : Int) 0)) ∧ (∀ e, p s = .inl e → ∃ x, T s = some (out x 0 e)))
    {G : List UInt8 → τ → Option ρ} (K : α → List UInt8 → Int → Option ρ) {okr : α → List UInt8 → ρ → Prop} {er : Int → ρ → Prop}
    (hG : ∀ s x m e', G s (out x m e') = (subL s m (((s.length : Nat) : Int))).bind fun y => K x y e') (hK : ∀ x s e, ∃ r, K x s e = some r ∧ (e = 0 → okr x s r) ∧ (e ≠ 0 → er e r)) : Got (fun s => (T s).bind (G s)) okr er p where
  ok := by
    intro s x m hs hr
    obtain ⟨r, h1, h2, h3⟩ := hK x (s.drop m) 0
    refine ⟨r, ?_, h2 rfl⟩
    show (T s).bind (G s) = _
    rw [(hT s hs).1 x m hr, Option.bind_some, hG, sub_tail _ _ (hp.len _ _ _ hr)]
    exact h1
  err := by
    intro s e hs hr
    obtain ⟨x, hx⟩ := (hT s hs).2 e hr
    obtain ⟨r, h1, h2, h3⟩ := hK x s e
    refine ⟨r, ?_, h3 (hp.err _ _ hr)⟩
    show (T s).bind (G s) = _
    rw [hx, Option.bind_some, hG, show (0 : Int) = ((0 : Nat) : Int) from rfl, sub_tail _ _ (Nat.zero_le _)]
    exact h1
theorem Got.pm {F : List UInt8 → Option ρ} {p : Ps α} {f : α → β} {okr : β → List UInt8 → ρ → Prop} {er : Int → ρ → Prop} (h : Got F (fun t s r => okr (f t) s r) er p) : Got F okr er (pb p fun t => pret (f t)) where
  ok := by
    intro s y k hs hr
    obtain ⟨x, m, j, h1, h2, rfl⟩ := pb_inr hr
    cases h2
    exact h.ok s x m hs h1
  err := by
    intro s e hs hr
    rcases pb_inl hr with h1 | ⟨x, m, h1, h2⟩
    · exact h.err s e hs h1
    · cases h2
end
theorem hBounds : ∀ s : List UInt8, s.length ≤ 1000000 → (∀ x m, pbounds 65536 s = .inr (x, m) → fn_ref17_TakeBounds s 65536 = some (x, (m : Int), 0)) ∧ (∀ e, pbounds 65536 s = .inl e → ∃ x, fn_ref17_TakeBounds s 65536 = some (x, 0, e)) :=
  fun s hs => ⟨fun x m h => by rw [refTakeBounds_eq s 65536 hs, h]; rfl, fun e h => ⟨[], by rw [refTakeBounds_eq s 65536 hs, h]; rfl⟩⟩
theorem hType : ∀ s : List UInt8, s.length ≤ 1000000 → (∀ x m, ptype s = .inr (x, m) → fn_ref17_TakeType s = some (x, (m : Int), 0)) ∧ (∀ e, ptype s = .inl e → ∃ x, fn_ref17_TakeType s = some (x, 0, e)) :=
  fun s hs => ⟨fun x m h => by rw [refTakeType_eq s hs, h]; rfl, fun e h => ⟨[], by rw [refTakeType_eq s hs, h]; rfl⟩⟩
abbrev oSig (x : Sgt) (m e : Int) : Int × List (Int × Int) × List (List St) × List St × Int × Int := (x.1, x.2.1, x.2.2.1, x.2.2.2, m, e)
theorem hSig : ∀ s : List UInt8, s.length ≤ 1000000 → (∀ x m, psig s = .inr (x, m) → fn_ref17_Take s = some (oSig x (m : Int) 0)) ∧ (∀ e, psig s = .inl e → ∃ x, fn_ref17_Take s = some (oSig x 0 e)) :=
  fun s hs => ⟨fun x m h => by rw [refSigTake_eq s hs, h]; rfl, fun e h => ⟨(0, [], [], []), by rw [refSigTake_eq s hs, h]; rfl⟩⟩
abbrev oStmt (x : Stm) (m e : Int) : Int × Int × Int × Int × Bool × Int × Int := (x.1, x.2.1, x.2.2.1, x.2.2.2.1, x.2.2.2.2, m, e)
theorem hStmt : ∀ s : List UInt8, s.length ≤ 1000000 → (∀ x m, pstmt s = .inr (x, m) → fn_ref18_Take s = some (oStmt x (m : Int) 0)) ∧ (∀ e, pstmt s = .inl e → ∃ x, fn_ref18_Take s = some (oStmt x 0 e)) :=
  fun s hs => ⟨fun x m h => by rw [refSTake_eq s (by omega), (pstmt_inr h).1], fun e h => ⟨(0, 0, 0, 0, false), by rw [refSTake_eq s (by omega), (pstmt_inl h).1]⟩⟩
abbrev oTerm (x : Tm) (m e : Int) : Int × Int × Int × List Int × List Int × List Int × Int × Int := (x.1, x.2.1, x.2.2.1, x.2.2.2.1, x.2.2.2.2.1, x.2.2.2.2.2, m, e)
theorem hTerm : ∀ s : List UInt8, s.length ≤ 1000000 → (∀ x m, pterm s = .inr (x, m) → fn_ref19_Take s = some (oTerm x (m : Int) 0)) ∧ (∀ e, pterm s = .inl e → ∃ x, fn_ref19_Take s = some (oTerm x 0 e)) :=
  fun s hs => ⟨fun x m h => (pterm_inr h).2.1, fun e h => by obtain ⟨y, h1, h2⟩ := (pterm_inl h).2 hs; exact ⟨y, h2⟩⟩
abbrev q3 {α : Type} (x : α) (s : List UInt8) (e : Int) : α × List UInt8 × Int := (x, s, e)
theorem rCount : Gds fn_ref20_count q3 (pcount 65536) where
  ok := by
    intro s n m hs hr
    obtain ⟨h1, h2⟩ := pcount_inr hr
    obtain ⟨h3, _, _, _, h4, _⟩ := pnum_inr h1
    refine ⟨_, ?_, rfl⟩
    unfold fn_ref20_count
    rw [refTake_eq s (by omega), h3]
    simp only [Option.bind_some, decide_true, Bool.not_true, cond_false, decide_eq_false (show ¬ 65536 < n by omega), sub_tail s m h4]
  err := by
    intro s e hs hr
    unfold fn_ref20_count
    rw [refTake_eq s (by omega)]
    rcases pb_inl hr with h1 | ⟨n, m, h1, h2⟩
    · obtain ⟨h3, h4⟩ := pnum_inl h1
      rw [h3]
      simp only [Option.bind_some, decide_eq_false h4, Bool.not_false, cond_true]
      exact ⟨_, rfl, 0, s, rfl⟩
    · obtain ⟨h3, _, _, _, h4, _⟩ := pnum_inr h1
      split at h2
      · rename_i hn
        cases h2
        rw [h3]
        simp only [Option.bind_some, decide_true, Bool.not_true, cond_false, decide_eq_true hn, cond_true]
        exact ⟨_, rfl, 0, s, rfl⟩
      · cases h2
theorem rLocalsEnd (n : Int) : ∀ (acc : List (List St)) (i : Int) (s : List UInt8) (e : Int), (n ≤ i ∨ e ≠ 0) → fn_ref20_locals_l1 n (s, e, acc, i) = some (.inr (s, e, acc)) := by
  intro acc i s e h
  unfold fn_ref20_locals_l1
  have : (decide (i < n) && decide (e = 0)) = false := by
    rcases h with h | h
    · rw [decide_eq_false (by omega), Bool.false_and]
    · rw [decide_eq_false h, Bool.and_false]
  dsimp only; rw [this]; rfl
theorem rLocalsMany (n : Int) : Gds (fun s => loop (fn_ref20_locals_l1 n) ((fun (acc : List (List St)) (i : Int) (s : List UInt8) (e : Int) => (s, e, acc, i)) [] 0 s 0)) (fun (acc : List (List St)) s e => (s, e, acc)) (pmany ptype n.toNat) := by
  refine Got.many Sane.type type_pos (body := fn_ref20_locals_l1 n) n (fun (acc : List (List St)) i s e => (s, e, acc, i)) (fun acc s e => (s, e, acc)) (rLocalsEnd n) ?_
  intro acc ha hn
  refine ⟨fun s => (fn_ref17_TakeType s).bind fun (x, k, e) => (subL s k (((s.length : Nat) : Int))).bind fun y => (app acc [x]).bind fun z => some (.inl (y, e, z, IntKind.wrap .i64 (((acc.length : Nat) : Int) + 1))), fun s => ?_, ?_⟩
  · unfold fn_ref20_locals_l1
    dsimp only
    rw [decide_eq_true hn]; rfl
  · refine Got.elem Sane.type (fun x m e => (x, m, e)) hType (fun x y e => (app acc [x]).bind fun z => some (.inl (y, e, z, IntKind.wrap .i64 (((acc.length : Nat) : Int) + 1)))) (fun s x m e' => rfl) (fun x y e => ?_)
    refine ⟨.inl (y, e, acc ++ [x], ((acc.length + 1 : Nat) : Int)), ?_, fun h => by rw [h], fun h => ⟨acc ++ [x], ((acc.length + 1 : Nat) : Int), y, rfl⟩⟩
    rw [app_eq (by simp; omega), w64 (by omega) (by omega)]; rfl
theorem rLocals : Gds fn_ref20_locals q3 (plist 65536 ptype) := by
  refine Got.bind (f := fn_ref20_count) rCount (Sane.count _) (fun n => ?_) (fun n s e he => ?_)
  · exact Got.map (rLocalsMany n) (Sane.many Sane.type _) (fun x s => ⟨_, rfl, rfl⟩) (fun x s e he => ⟨_, rfl, x, s, rfl⟩)
  · exact ⟨q3 [] s e, (congrArg (fun o => Option.bind o _) (loop_end (rLocalsEnd n [] 0 s e (.inr he)))).trans rfl, [], s, rfl⟩
theorem rSigsEnd (n : Int) : ∀ (acc : List (Sgt)) (i : Int) (s : List UInt8) (e : Int), (n ≤ i ∨ e ≠ 0) → fn_ref20_sigs_l1 n (s, e, acc, i) = some (.inr (s, e, acc)) := by
  intro acc i s e h
  unfold fn_ref20_sigs_l1
  have : (decide (i < n) && decide (e = 0)) = false := by
    rcases h with h | h
    · rw [decide_eq_false (by omega), Bool.false_and]
    · rw [decide_eq_false h, Bool.and_false]
  dsimp only; rw [this]; rfl
theorem rSigsMany (n : Int) : Gds (fun s => loop (fn_ref20_sigs_l1 n) ((fun (acc : List (Sgt)) (i : Int) (s : List UInt8) (e : Int) => (s, e, acc, i)) [] 0 s 0)) (fun (acc : List (Sgt)) s e => (s, e, acc)) (pmany psig n.toNat) := by
  refine Got.many Sane.sig sig_pos (body := fn_ref20_sigs_l1 n) n (fun (acc : List (Sgt)) i s e => (s, e, acc, i)) (fun acc s e => (s, e, acc)) (rSigsEnd n) ?_
  intro acc ha hn
  refine ⟨fun s => (fn_ref17_Take s).bind fun (x1, x2, x3, x4, k, e) => (subL s k (((s.length : Nat) : Int))).bind fun y => (app acc [((x1, x2, x3, x4) : Sgt)]).bind fun z => some (.inl (y, e, z, IntKind.wrap .i64 (((acc.length : Nat) : Int) + 1))), fun s => ?_, ?_⟩
  · unfold fn_ref20_sigs_l1
    dsimp only
    rw [decide_eq_true hn]; rfl
  · refine Got.elem Sane.sig oSig hSig (fun x y e => (app acc [x]).bind fun z => some (.inl (y, e, z, IntKind.wrap .i64 (((acc.length : Nat) : Int) + 1)))) (fun s x m e' => rfl) (fun x y e => ?_)
    refine ⟨.inl (y, e, acc ++ [x], ((acc.length + 1 : Nat) : Int)), ?_, fun h => by rw [h], fun h => ⟨acc ++ [x], ((acc.length + 1 : Nat) : Int), y, rfl⟩⟩
    rw [app_eq (by simp; omega), w64 (by omega) (by omega)]; rfl
theorem rSigs : Gds fn_ref20_sigs q3 (plist 65536 psig) := by
  refine Got.bind (f := fn_ref20_count) rCount (Sane.count _) (fun n => ?_) (fun n s e he => ?_)
  · exact Got.map (rSigsMany n) (Sane.many Sane.sig _) (fun x s => ⟨_, rfl, rfl⟩) (fun x s e he => ⟨_, rfl, x, s, rfl⟩)
  · exact ⟨q3 [] s e, (congrArg (fun o => Option.bind o _) (loop_end (rSigsEnd n [] 0 s e (.inr he)))).trans rfl, [], s, rfl⟩
theorem rStmtsEnd (n : Int) : ∀ (acc : List (Stm)) (i : Int) (s : List UInt8) (e : Int), (n ≤ i ∨ e ≠ 0) → fn_ref20_block_l1 n (s, e, i, acc) = some (.inr (s, e, acc)) := by
  intro acc i s e h
  unfold fn_ref20_block_l1
  have : (decide (i < n) && decide (e = 0)) = false := by
    rcases h with h | h
    · rw [decide_eq_false (by omega), Bool.false_and]
    · rw [decide_eq_false h, Bool.and_false]
  dsimp only; rw [this]; rfl
theorem rStmtsMany (n : Int) : Gds (fun s => loop (fn_ref20_block_l1 n) ((fun (acc : List (Stm)) (i : Int) (s : List UInt8) (e : Int) => (s, e, i, acc)) [] 0 s 0)) (fun (acc : List (Stm)) s e => (s, e, acc)) (pmany pstmt n.toNat) := by
  refine Got.many Sane.stmt stmt_pos (body := fn_ref20_block_l1 n) n (fun (acc : List (Stm)) i s e => (s, e, i, acc)) (fun acc s e => (s, e, acc)) (rStmtsEnd n) ?_
  intro acc ha hn
  refine ⟨fun s => (fn_ref18_Take s).bind fun (x1, x2, x3, x4, x5, k, e) => (subL s k (((s.length : Nat) : Int))).bind fun y => (app acc [((x1, x2, x3, x4, x5) : Stm)]).bind fun z => some (.inl (y, e, IntKind.wrap .i64 (((acc.length : Nat) : Int) + 1), z)), fun s => ?_, ?_⟩
  · unfold fn_ref20_block_l1
    dsimp only
    rw [decide_eq_true hn]; rfl
  · refine Got.elem Sane.stmt oStmt hStmt (fun x y e => (app acc [x]).bind fun z => some (.inl (y, e, IntKind.wrap .i64 (((acc.length : Nat) : Int) + 1), z))) (fun s x m e' => rfl) (fun x y e => ?_)
    refine ⟨.inl (y, e, ((acc.length + 1 : Nat) : Int), acc ++ [x]), ?_, fun h => by rw [h], fun h => ⟨acc ++ [x], ((acc.length + 1 : Nat) : Int), y, rfl⟩⟩
    rw [app_eq (by simp; omega), w64 (by omega) (by omega)]; rfl
abbrev qB (x : Blok) (s : List UInt8) (e : Int) : List Stm × Int × Int × Int × List Int × List Int × List Int × List UInt8 × Int := (x.1, x.2.1, x.2.2.1, x.2.2.2.1, x.2.2.2.2.1, x.2.2.2.2.2.1, x.2.2.2.2.2.2, s, e)
theorem rBlock : Gds fn_ref20_block qB pblk := by
  refine Got.diag (F := fun s0 s => (fn_ref20_count s).bind fun (i310, s311, i312) => (loop (fn_ref20_block_l1 i310) (s311, i312, 0, []) : Option ((List UInt8 × Int × (List Stm)))).bind fun (s432, i433, l434) => cond (!decide (i433 = 0)) (some (([], 0, 0, 0, [], [], [], s0, i433))) ((fn_ref19_Take s432).bind fun (i564, i565, i566, l567, l568, l569, i570, i571) => (subL s432 i570 (((s432.length : Nat) : Int))).bind fun y589 => some ((l434, i564, i565, i566, l567, l568, l569, y589, i571)))) (fun s0 => ?_)
  show Got _ _ _ (pb (plist 65536 pstmt) fun l => pb pterm fun t => pret (l, t))
  unfold plist
  rw [pb_assoc]
  refine Got.bind (f := fn_ref20_count) rCount (Sane.count _) (fun n => ?_) (fun n s e he => ?_)
  · refine Got.bind (rStmtsMany n) (Sane.many Sane.stmt _) (fun l => ?_) (fun l s e he => ?_)
    · dsimp only
      simp only [decide_true, Bool.not_true, cond_false]
      refine Got.pm (Got.elem Sane.term oTerm hTerm (fun (t : Tm) y f => some (qB (l, t) y f)) (fun s x m e' => rfl) (fun x y e => ⟨_, rfl, fun h => by rw [h], fun h => ⟨_, _, rfl⟩⟩))
    · refine ⟨qB ([], (0, 0, 0, [], [], [])) s0 e, ?_, ([], (0, 0, 0, [], [], [])), s0, rfl⟩
      dsimp only
      rw [decide_eq_false he]; rfl
  · refine ⟨qB ([], (0, 0, 0, [], [], [])) s0 e, ?_, ([], (0, 0, 0, [], [], [])), s0, rfl⟩
    refine (congrArg (fun o => Option.bind o _) (loop_end (rStmtsEnd n [] 0 s e (.inr he)))).trans ?_
    show cond (!decide (e = 0)) _ _ = _
    rw [decide_eq_false he]; rfl
theorem rBlocksEnd (n : Int) : ∀ (acc : List Blok) (i : Int) (s : List UInt8) (e : Int), (n ≤ i ∨ e ≠ 0) → fn_ref20_blocks_l1 n (s, e, acc, i) = some (.inr (s, e, acc)) := by
  intro acc i s e h
  unfold fn_ref20_blocks_l1
  have : (decide (i < n) && decide (e = 0)) = false := by
    rcases h with h | h
    · rw [decide_eq_false (by omega), Bool.false_and]
    · rw [decide_eq_false h, Bool.and_false]
  dsimp only; rw [this]; rfl
theorem rBlocksMany (n : Int) : Gds (fun s => loop (fn_ref20_blocks_l1 n) ((fun (acc : List Blok) (i : Int) (s : List UInt8) (e : Int) => (s, e, acc, i)) [] 0 s 0)) (fun (acc : List Blok) s e => (s, e, acc)) (pmany pblk n.toNat) := by
  refine Got.many Sane.blk blk_pos (body := fn_ref20_blocks_l1 n) n (fun (acc : List Blok) i s e => (s, e, acc, i)) (fun acc s e => (s, e, acc)) (rBlocksEnd n) ?_
  intro acc ha hn
  refine ⟨fun s => (fn_ref20_block s).bind fun (l, x1, x2, x3, x4, x5, x6, s, e) => (app acc [((l, (x1, x2, x3, x4, x5, x6)) : Blok)]).bind fun z => some (.inl (s, e, z, IntKind.wrap .i64 (((acc.length : Nat) : Int) + 1))), fun s => ?_, ?_⟩
  · unfold fn_ref20_blocks_l1
    dsimp only
    rw [decide_eq_true hn]; rfl
  · have key (x : Blok) (s : List UInt8) (e : Int) : ((app acc [x]).bind fun z => some (Sum.inl (s, e, z, IntKind.wrap .i64 (((acc.length : Nat) : Int) + 1))) : Option ((List UInt8 × Int × List Blok × Int) ⊕ (List UInt8 × Int × List Blok))) = some (.inl (s, e, acc ++ [x], ((acc.length + 1 : Nat) : Int))) := by
      rw [app_eq (by simp; omega), w64 (by omega) (by omega)]; rfl
    refine Got.map rBlock Sane.blk (fun x s => ⟨_, key x s 0, rfl⟩) (fun x s e he => ⟨_, key x s e, acc ++ [x], ((acc.length + 1 : Nat) : Int), s, rfl⟩)
theorem rBlocks : Gds fn_ref20_blocks q3 (plist 65536 pblk) := by
  refine Got.bind (f := fn_ref20_count) rCount (Sane.count _) (fun n => ?_) (fun n s e he => ?_)
  · exact Got.map (rBlocksMany n) (Sane.many Sane.blk _) (fun x s => ⟨_, rfl, rfl⟩) (fun x s e he => ⟨_, rfl, x, s, rfl⟩)
  · exact ⟨q3 [] s e, (congrArg (fun o => Option.bind o _) (loop_end (rBlocksEnd n [] 0 s e (.inr he)))).trans rfl, [], s, rfl⟩
theorem rTake : Got (fun y149 => (fn_ref20_count y149).bind fun (i153, s154, i155) => cond (!decide (i155 = 0)) (some ((0, 0, [], [], [], [], [], i155))) ((fn_ref20_count s154).bind fun (i167, s168, i169) => cond (!decide (i169 = 0)) (some ((0, 0, [], [], [], [], [], i169))) ((fn_ref17_TakeBounds s168 65536).bind fun (l181, i182, i183) => cond (!decide (i183 = 0)) (some ((0, 0, [], [], [], [], [], i183))) ((subL s168 i182 (((s168.length : Nat) : Int))).bind fun y197 => (fn_ref20_locals y197).bind fun (l201, s202, i203) => cond (!decide (i203 = 0)) (some ((0, 0, [], [], [], [], [], i203))) ((fn_ref17_TakeType s202).bind fun (l219, i220, i221) => cond (!decide (i221 = 0)) (some ((0, 0, [], [], [], [], [], i221))) ((subL s202 i220 (((s202.length : Nat) : Int))).bind fun y236 => (fn_ref20_sigs y236).bind fun (l240, s241, i242) => cond (!decide (i242 = 0)) (some ((0, 0, [], [], [], [], [], i242))) ((fn_ref20_blocks s241).bind fun (l258, s259, i260) => cond (!decide (i260 = 0)) (some ((0, 0, [], [], [], [], [], i260))) (cond (!decide (s259 = ([] : List UInt8))) (some ((0, 0, [], [], [], [], [], 13))) (some ((i153, i167, l181, l201, l219, l240, l258, 0)))))))))))
    (fun (b : Bod) s r => r = fl20 (if s = [] then (b, 0) else (zB, 13))) (fun e r => r = fl20 (zB, e)) pbody := by
  have bad {A : Option (Int × Int × List (Int × Int) × List (List St) × List St × List Sgt × List Blok × Int)} (e : Int) (he : e ≠ 0) : ∃ r, cond (!decide (e = 0)) (some ((0, 0, [], [], [], [], [], e))) A = some r ∧ r = fl20 (zB, e) := by
    rw [decide_eq_false he]; exact ⟨_, rfl, rfl⟩
  refine Got.bind (f := fn_ref20_count) rCount (Sane.count _) (fun u => ?_) (fun u s e he => bad e he)
  dsimp only; simp only [decide_true, Bool.not_true, cond_false]
  refine Got.bind (f := fn_ref20_count) rCount (Sane.count _) (fun n => ?_) (fun u s e he => bad e he)
  dsimp only; simp only [decide_true, Bool.not_true, cond_false]
  refine Got.take (Sane.bounds _) (fun x m e => (x, m, e)) hBounds (fun B y197 => (fn_ref20_locals y197).bind fun (l201, s202, i203) => cond (!decide (i203 = 0)) (some ((0, 0, [], [], [], [], [], i203))) ((fn_ref17_TakeType s202).bind fun (l219, i220, i221) => cond (!decide (i221 = 0)) (some ((0, 0, [], [], [], [], [], i221))) ((subL s202 i220 (((s202.length : Nat) : Int))).bind fun y236 => (fn_ref20_sigs y236).bind fun (l240, s241, i242) => cond (!decide (i242 = 0)) (some ((0, 0, [], [], [], [], [], i242))) ((fn_ref20_blocks s241).bind fun (l258, s259, i260) => cond (!decide (i260 = 0)) (some ((0, 0, [], [], [], [], [], i260))) (cond (!decide (s259 = ([] : List UInt8))) (some ((0, 0, [], [], [], [], [], 13))) (some ((u, n, B, l201, l219, l240, l258, 0)))))))) (fun e => fl20 (zB, e)) (fun s x m e' => rfl) (fun e => rfl) (fun B => ?_)
  refine Got.bind (f := fn_ref20_locals) rLocals (Sane.list _ Sane.type) (fun L => ?_) (fun u s e he => bad e he)
  dsimp only; simp only [decide_true, Bool.not_true, cond_false]
  refine Got.take Sane.type (fun x m e => (x, m, e)) hType (fun R y236 => (fn_ref20_sigs y236).bind fun (l240, s241, i242) => cond (!decide (i242 = 0)) (some ((0, 0, [], [], [], [], [], i242))) ((fn_ref20_blocks s241).bind fun (l258, s259, i260) => cond (!decide (i260 = 0)) (some ((0, 0, [], [], [], [], [], i260))) (cond (!decide (s259 = ([] : List UInt8))) (some ((0, 0, [], [], [], [], [], 13))) (some ((u, n, B, L, R, l240, l258, 0)))))) (fun e => fl20 (zB, e)) (fun s x m e' => rfl) (fun e => rfl) (fun R => ?_)
  refine Got.bind (f := fn_ref20_sigs) rSigs (Sane.list _ Sane.sig) (fun S => ?_) (fun u s e he => bad e he)
  dsimp only; simp only [decide_true, Bool.not_true, cond_false]
  refine Got.bind (f := fn_ref20_blocks) rBlocks (Sane.list _ Sane.blk) (fun X => ?_) (fun u s e he => bad e he)
  dsimp only; simp only [decide_true, Bool.not_true, cond_false]
  refine Got.ret (fun s => ⟨_, ?_, rfl⟩)
  by_cases hs : s = []
  · subst hs; rfl
  · rw [decide_eq_false hs, if_neg hs]; rfl
theorem refTake20_eq (s : List UInt8) (hs : s.length ≤ 1000000) : fn_ref20_Take s = some (fl20 (tk s)) := by
  unfold fn_ref20_Take tk headed
  by_cases h : 4 ≤ s.length
  · rw [decide_eq_false (show ¬ ((s.length : Nat) : Int) < 4 by omega), cond_false, subL_eq (by omega) (by omega) (by omega), show (4 : Int) = ((4 : Nat) : Int) from rfl, sub_tail s 4 h]
    simp only [Option.bind_some, Int.toNat_natCast, Int.toNat_zero, List.drop_zero, decide_eq_true h, Bool.true_and]
    cases hm : decide (List.take 4 s = [109, 105, 114, 1]) with
    | false =>
      have : ¬ List.take 4 s = [109, 105, 114, 1] := by simpa using hm
      simp [this]
    | true =>
      have hm' : List.take 4 s = [109, 105, 114, 1] := by simpa using hm
      rw [Bool.not_true, cond_false, if_pos rfl]
      have hl : (s.drop 4).length ≤ 1000000 := by rw [List.length_drop]; omega
      cases hp : pbody (s.drop 4) with
      | inl e =>
        obtain ⟨r, h1, h2⟩ := rTake.err (s.drop 4) e hl hp
        exact h1.trans (congrArg some h2)
      | inr bm =>
        obtain ⟨b, m⟩ := bm
        obtain ⟨r, h1, h2⟩ := rTake.ok (s.drop 4) b m hl hp
        rw [List.drop_drop] at h2
        exact h1.trans (congrArg some h2)
  · rw [decide_eq_true (show ((s.length : Nat) : Int) < 4 by omega), decide_eq_false h]; rfl
end Go.Proofs.YtmdmdmaekjpfjaaGreat

/- 'easement/easementlaw03.DenseNone' returns true for every input, and each argument reads afterwards as it read before: the row's frame round the walk. -/
import Derived.Test.YticfjbmafkjmaaaDoorZ3
import Derived.RangeFuncRecord
import Derived.Shelf.Spec.TrailingZeros
import Derived.Test.YticfjbmafkjmaaaDoorProg
import Derived.Test.YticfjbmafkjmaaaDoorRows
import Derived.KernelRfl
import Derived.Lib.LaidTab
import Derived.Test.YticfjbmafkjmaaaDoorCards
import Derived.Test.YticfjbmafkjmaaaDoorTie
import Derived.Lay
import Derived.SevenTiedAt
namespace Go.Proofs.YticfjbmafkjmaaaDoor
open Go.RowKit
set_option linter.unusedVariables false
set_option linter.unusedSimpArgs false
set_option linter.unnecessarySimpa false
set_option linter.unusedSectionVars false
variable [BldA]
/-! ### Marks at the end of a function. -/
def Hp.del (K : Hp) (D : Nat) : Hp := fun n => if n = D then none else K n
theorem Hp.cle_del {K : Hp} {D : Nat} {x : Option (List Deferred)} (h : K D = some (.deferred x)) : K.cle (K.del D) := fun g o v e => by
  unfold cellK Hp.del at *
  by_cases hg : g = D
  · subst hg; rw [h] at e; cases e
  · rw [if_neg hg]; exact e
section
variable {P : Program} {E : En} {n : Nat} {m : List M} {K : Hp} {fr : Frz} {σ : Zt} {ρ : Sl1} {w : World}
theorem Rel.unmark (hr : Rel E fr σ m K ρ w) {K2 : Hp} {w2 : World} (hc : K.cle K2) (hk : fr.K.le K2) (h0 : fr.k0.le K2) (hs : Sep E K2 (σ.atoms fr m) w2) : Rel E fr ⟨σ.base, σ.top, σ.H, σ.Hf, σ.nx, false⟩ m K2 ⟨ρ.f, []⟩ w2 where
  hm := hr.hm
  hK := hk
  nx := hr.nx
  kq := fun e => (by cases e)
  base := hr.base
  dead := hr.dead
  old := hr.old
  top := fun i sv hi => SV.monoC (fun _ _ h => h) hc sv (hr.top i sv hi)
  okH := fun a ha => HA.ok_monoC (fun _ _ h => h) hc (hr.okH a ha)
  okF := hr.okF
  mks := MOk.nil hr.mks.1.1 h0
  sep := hs
theorem marks_leave {fn : Func} {tmps : Array Value} {R : Ending → World → Prop} {L : List Atom} {k0 : Hp} : ∀ (ds : List Deferred) {K : Hp} {w : World}, MOk k0 K ds → Sep E K L w →
    (∀ K2 w2, K.cle K2 → k0.le K2 → Sep E K2 L w2 → ∃ v, (results fn tmps).run P w2 = .ok v w2 ∧ R (.returned v) w2) → LeavesInM Fence.wide 0 P fn tmps R ds .returning w
  | [], K, w, hm, hs, h => h K w (Hp.cle_refl K) hm.1.2 hs
  | d :: ds, K, w, hm, hs, h => by
    obtain ⟨D, rfl, hD, h0⟩ := hm.2.1 d (by simp)
    have hw : w.heap[D]? = some (.deferred (some [])) := hs.sub D _ hD
    have hnd := List.nodup_cons.1 hm.2.2
    refine ⟨by simp, .inl ⟨D, w.putObj D (.deferred none), rfl, run_takeDeferred hw, ?_⟩⟩
    have other : ∀ (k : Nat) (o : Obj), k ≠ D → w.heap[k]? = some o → (w.putObj D (.deferred none)).heap[k]? = some o := fun k o hne e => by rw [World.putObj_heap_other hne]; exact e
    have hs1 : Sep E (K.del D) L (w.putObj D (.deferred none)) := by
      refine Sep.move (w := w) (w' := w.putObj D (.deferred none)) (fun e => e) hs (fun k o e => ?_) (fun k o e e1 => ?_)
      · unfold Hp.del at e
        split at e
        · cases e
        · rename_i hne; exact other k o hne (hs.sub k o e)
      · have hne : k ≠ D := fun e2 => by rw [e2, hD] at e1; cases e1
        exact ⟨by unfold Hp.del; rw [if_neg hne]; exact e1, other k o hne e⟩
    refine marks_leave ds ⟨⟨hm.1.1, fun k o e => ?_⟩, fun d' hd' => ?_, hnd.2⟩ hs1 (fun K2 w2 c1 c2 c3 => h K2 w2 ((Hp.cle_del hD).trans c1) c2 c3)
    · unfold Hp.del
      rw [if_neg (fun e2 => by rw [e2, h0] at e; cases e)]
      exact hm.1.2 k o e
    · obtain ⟨D', rfl, h1, h2⟩ := hm.2.1 d' (List.mem_cons_of_mem _ hd')
      refine ⟨D', rfl, ?_, h2⟩
      unfold Hp.del
      rw [if_neg (fun e => hnd.1 (by rw [← e]; exact hd'))]
      exact h1
end
/-! ### Records of loops. -/
section
variable {P : Program} {E : En} {K : Hp} {L : List Atom} {w : World}
theorem LpA.at {l : Nat} {r : Loop} (h : Sep E K (LpA l r :: L) w) : w.heap[l]? = some (.loop r) := by
  obtain ⟨h1, rfl, hd, hs⟩ := h
  exact hs.sub l _ (Hp.join_right (one_of l _) (hd l _ (one_of l _)))
theorem LpA.put {l : Nat} {r r' : Loop} (h : Sep E K (LpA l r :: L) w) : Sep E K (LpA l r' :: L) (w.putObj l (.loop r')) := by
  have hw := LpA.at h
  have hlt := (Array.getElem?_eq_some_iff.1 hw).1
  refine Sep.turn h (fun e => e) (fun h1 hA hle => ?_)
  obtain rfl := hA
  refine ⟨one l (.loop r'), rfl, fun n o e => ?_, fun n o e e1 => ?_⟩
  · obtain ⟨rfl, rfl⟩ := one_some e
    exact ⟨World.putObj_heap_same hlt, fun e2 => by rw [one_of] at e2; cases e2⟩
  · have hne : n ≠ l := fun e2 => by subst e2; rw [one_of] at e1; cases e1
    rw [World.putObj_heap_other hne]; exact e
theorem enter_inner {l₀ : Nat} {r₀ : Loop} (h : w.heap[l₀]? = some (.loop r₀)) (fn : FuncId) (tmps : Array Value) (ps : Array Tmp) (assign body : Code) :
    (Instr.enterLoop fn tmps ps assign body (some l₀)).run P w =
      .ok (w.heap.size, []) (w.alloc (.loop { state := .ready, pending := none, fn, tmps, params := ps, assign, body, defers := r₀.defers })) := by
  unfold Instr.enterLoop
  simp only [Sem.run_bind, run_getLoop h, run_newObj_alloc, Result.andThen, Sem.run_pure]
/-- A new block of whatever kind. -/
theorem Sep.allocO (h : Sep E K L w) (o : Obj) : Sep E K ((fun hh => hh = one w.heap.size o) :: L) (w.alloc o) :=
  Sep.turn h.emp (fun e => e) (fun h0 ha _ => by
    unfold _root_.Go.Proofs.YticfjbmafkjmaaaDoor.emp at ha; subst ha
    refine ⟨one w.heap.size o, rfl, fun n x e => ?_, fun n x e _ => ?_⟩
    · obtain ⟨rfl, rfl⟩ := one_some e
      exact ⟨World.alloc_heap_new w _, fun _ => Array.getElem?_eq_none (Nat.le_refl _)⟩
    · rw [Below.heap_alloc _ _ _ (lt_of_block e)]; exact e)
theorem Sep.known {o : Obj} {b : Nat} (h : Sep E K ((fun hh => hh = one b o) :: L) w) : Sep E (K.join (one b o)) L w ∧ K b = none := by
  obtain ⟨h1, rfl, hd, hs⟩ := h
  exact ⟨hs, hd b _ (one_of b o)⟩
end
/-! ### A round. -/
def busyR (r : Loop) : Loop := { r with state := .busy, pending := none }
/-- What a frame stands within. -/
def RdOk (E : En) (fr : Frz) : Prop := ∀ l, E.rd = some l → ∃ r, LpA l r ∈ fr.F
section
variable {R : Type} {P : Program} {E : En} {n : Nat} {m m' : List M} {K K' : Hp} {fr : Frz} {σ σ' : Zt} {ρ ρ' : Sl1} {w w' : World}
/-- What a piece of code does, run at states. -/
def Fok (P : Program) (n : Nat) (c : Code) (f : Hn P → Zt → (R : Type) → (Exit → Hn P → Zt → Option R) → Option R) : Prop :=
  ∀ (R : Type) (E : En) (fr : Frz), RdOk E fr → ∀ (h : Hn P) (σ : Zt) (k : Exit → Hn P → Zt → Option R) (r : R) (m : List M) (K : Hp) (ρ : Sl1) (w : World) (Q : Exit → Act → World → Prop), f h σ R k = some r → Rel E fr σ m K ρ w →
    (∀ e h' σ' m' K' ρ' w', Rel E fr σ' m' K' ρ' w' → Same σ σ' → k e h' σ' = some r → Q e (act1 n ρ') w') → c.wpIn (wideR E.rd) 0 P Q (act1 n ρ) w
def JOk (J : Rn P) : Prop := ∀ n c, Fok P n c (fun h σ R k => J n c R h σ k)
def setV : List Nat → List Value → Sl0 → Sl0
  | p :: ps, x :: xs, f => setV ps xs (upd f p x)
  | _, _, f => f
theorem frm_set {ρ : Sl0} {p : Nat} {v : Value} : (frm n ρ).setIfInBounds p v = frm n (upd ρ p v) := by
  have h := congrArg Act.tmps (Go.Proofs.YticfjbmafkjmaaaDoor.put_act n ρ p v)
  unfold act Act.put at h
  exact h
theorem frm_foldl : ∀ (ps : List Nat) (xs : List Value) (ρ : Sl0), (ps.zip xs).foldl (fun t (q : Nat × Value) => t.setIfInBounds q.1 q.2) (frm n ρ) = frm n (setV ps xs ρ)
  | [], xs, ρ => rfl
  | p :: ps, [], ρ => rfl
  | p :: ps, x :: xs, ρ => by
    show (ps.zip xs).foldl _ ((frm n ρ).setIfInBounds p x) = _
    rw [frm_set]
    exact frm_foldl ps xs (upd ρ p x)
theorem setPs_rel : ∀ (ps : List Nat) {xs : List SV} {us : List Value} {f : Nat → SV} {ρ : Sl0}, SV.relL m K xs us → (∀ i, SV.rel m K (f i) (ρ i)) → ∀ i, SV.rel m K (setPs ps xs f i) (setV ps us ρ i)
  | [], xs, us, f, ρ, h, hf, i => hf i
  | p :: ps, [], us, f, ρ, h, hf, i => by
    obtain rfl := relL_nil h
    exact hf i
  | p :: ps, x :: xs, us, f, ρ, h, hf, i => by
    obtain ⟨u, r, rfl, h1, h2⟩ := relL_cons h
    refine setPs_rel ps (us := r) (ρ := upd ρ p u) h2 (fun j => ?_) i
    show SV.rel m K (bif Nat.beq j p then x else f j) (bif Nat.beq j p then u else ρ j)
    cases Nat.beq j p with
    | true => exact h1
    | false => exact hf j
theorem relL_len2 : ∀ {xs : List SV} {us : List Value}, SV.relL m K xs us → us.length = xs.length
  | [], us, h => by obtain rfl := relL_nil h; rfl
  | x :: xs, us, h => by
    obtain ⟨u, r, rfl, h1, h2⟩ := relL_cons h
    simp [relL_len2 h2]
theorem yldRun_ok {J : Rn P} (hJ : JOk J) {c : SV} {xs : List SV} {h : Hn P} {k : Hn P → Zt → Bool → Option R} {r : R} (hh : yldRun J σ c xs h k = some r) (hr : Rel E fr σ m K ρ w) {us : List Value} {v : Value} (hv : SV.rel m K c v) (hxs : SV.relL m K xs us) {X : Ending → World → Prop}
    (hX : ∀ h' σ' m' K' w' b, Rel E fr σ' m' K' ρ w' → Same σ σ' → k h' σ' b = some r → X (.returned (.bool b)) w') :
    ∃ l, v = .func (.yield l) #[] #[] ∧ ∃ fn tmps ao bo, (Instr.yield l us.toArray).run P w = .ok (.round l fn tmps ao bo) w ∧ RoundIn (wideR E.rd) 0 P l fn tmps ao bo w X := by
  unfold yldRun at hh
  split at hh
  · rename_i i n0 vs0 ps ao bo
    obtain ⟨l, rr, ρ0, rfl, hm, ht, hp, ha, hb, hvs⟩ := hv
    replace hh := bift hh; obtain ⟨hlen, hh⟩ := hh
    have hlen := Nat.eq_of_beq_eq_true hlen
    split at hh
    · rename_i H hq
      obtain ⟨a, ha', hmem, hperm⟩ := pick_spec hq
      obtain rfl := lpR_eq ha'
      have hsub : ∀ a ∈ H, a ∈ σ.H := fun a ha => hperm.symm.subset (List.mem_cons_of_mem _ ha)
      -- the record, ahead
      have hs0 : Sep E K (LpA l (LSt.ready.cr rr) :: (H.map (HA.conc m) ++ σ.fz fr)) w := by
        have := Sep.perm ((hperm.map (HA.conc m)).append_right (σ.fz fr)) hr.toSep
        simpa only [List.map_cons, HA.conc, hm, List.cons_append] using this
      have hw := LpA.at hs0
      have hy := run_yield (P := P) (args := us.toArray) hw (by
        show us.toArray.size = rr.params.size
        rw [hp, List.size_toArray, relL_len2 hxs, hlen])
      refine ⟨l, rfl, _, _, _, _, hy, roundIn_of_wpIn trivial ?_⟩
      have htm : (((LSt.ready.cr rr).params.zip us.toArray).foldl (fun tmps (t, a) => tmps.setIfInBounds t a) (LSt.ready.cr rr).tmps) = frm n0 (setV ps.toList us ρ0) := by
        show ((rr.params.zip us.toArray).foldl _ rr.tmps) = _
        rw [hp, ht, ← Array.foldl_toList, Array.toList_zip]
        exact frm_foldl ps.toList us ρ0
      rw [htm]
      show rr.assign.wpIn (wideR (some l)) 0 P _ (act1 n0 ⟨setV ps.toList us ρ0, []⟩) w
      rw [ha]
      have hE : ∀ (L : List Atom) (K : Hp) (w : World), Sep E K L w → Sep { E with rd := some l } K L w := fun L K w => Sep.rd (E := E) (E' := { E with rd := some l }) (fun w h => h)
      have hE' : ∀ (L : List Atom) (K : Hp) (w : World), Sep { E with rd := some l } K L w → Sep E K L w := fun L K w => Sep.rd (E := { E with rd := some l }) (E' := E) (fun w h => h)
      have mid : ∀ (A B C : List Atom) (x : Atom), (A ++ (B ++ x :: C)).Perm (x :: (A ++ (B ++ C))) := fun A B C x => by
        rw [← List.append_assoc, ← List.append_assoc]; exact List.perm_middle
      have hrel : Rel { E with rd := some l } ⟨m, K, ⟨setV ps.toList us ρ0, []⟩, fun _ => false, LpA l (LSt.ready.cr rr) :: fr.F, K⟩ ⟨setPs ps.toList xs vs0, [], H, σ.Hf, σ.nx, false⟩ m K ⟨setV ps.toList us ρ0, []⟩ w := by
        refine ⟨⟨List.prefix_refl m, Hp.le_refl K, hr.nx, fun e => (by cases e), fun i => setPs_rel ps.toList hxs hvs i, fun i e => (by cases e), fun i _ => .inr rfl, fun i sv e => (by cases e), fun a ha => hr.okH a (hsub a ha), fun a ha => hr.toPur.all a (List.mem_append_right _ ha), MOk.nil hr.mks.gk (Hp.le_refl K)⟩, ?_⟩
        show Sep _ K (H.map (HA.conc m) ++ (σ.Hf.map (HA.conc m) ++ (LpA l (LSt.ready.cr rr) :: fr.F))) w
        refine hE _ _ _ (Sep.perm (mid _ _ _ _).symm ?_)
        rw [hr.toPur.fz']
        exact hs0
      refine hJ n0 ao _ { E with rd := some l } ⟨m, K, ⟨setV ps.toList us ρ0, []⟩, fun _ => false, LpA l (LSt.ready.cr rr) :: fr.F, K⟩ (by intro l2 e; cases e; exact ⟨_, List.mem_cons_self⟩) h _ _ r m K _ w _ hh hrel (fun e h' σ1 m1 K1 ρ1 w1 h1 h2 h3 => ?_)
      cases e with
      | normal =>
        have hs1 : Sep E K1 (LpA l (LSt.ready.cr rr) :: (σ1.H.map (HA.conc m1) ++ (σ1.Hf.map (HA.conc m) ++ fr.F))) w1 := Sep.perm (mid _ _ _ _) (hE' _ _ _ h1.sep)
        have hw1 := LpA.at hs1
        refine ⟨w1.putObj l (.loop (busyR rr)), run_beginRound hw1 rfl, ?_⟩
        have hs2 := LpA.put (r' := (busyR rr)) hs1
        have hrel2 : Rel { E with rd := some l } ⟨m, K, ⟨setV ps.toList us ρ0, []⟩, fun _ => false, LpA l (busyR rr) :: fr.F, K⟩ σ1 m1 K1 ρ1 (w1.putObj l (.loop (busyR rr))) :=
          ⟨⟨h1.hm, h1.hK, h1.nx, h1.kq, h1.base, h1.dead, h1.old, h1.top, h1.okH, h1.okF, h1.mks⟩, hE _ _ _ (Sep.perm (mid _ _ _ _).symm hs2)⟩
        show (LSt.ready.cr rr).body.wpIn (wideR (some l)) 0 P _ (act1 n0 ρ1) _
        rw [show (LSt.ready.cr rr).body = bo from hb]
        refine hJ n0 bo _ { E with rd := some l } ⟨m, K, ⟨setV ps.toList us ρ0, []⟩, fun _ => false, LpA l (busyR rr) :: fr.F, K⟩ (by intro l2 e; cases e; exact ⟨_, List.mem_cons_self⟩) h' σ1 _ r m1 K1 ρ1 _ _ h3 hrel2 (fun e2 h'' σ2 m2 K2 ρ2 w2 g1 g2 g3 => ?_)
        have hs3 : Sep E K2 (LpA l (busyR rr) :: (σ2.H.map (HA.conc m2) ++ (σ2.Hf.map (HA.conc m) ++ fr.F))) w2 := Sep.perm (mid _ _ _ _) (hE' _ _ _ g1.sep)
        have hw3 := LpA.at hs3
        have back : ∀ (s : LSt) (b : Bool) (jump : Option Code), exLst e2 = some (b, s) → b = jump.isNone → s.cr rr = { busyR rr with state := if jump.isNone then .ready else .done, pending := jump } →
            ∃ v w', (Instr.endRound l jump).run P w2 = .ok v w' ∧ X (.returned v) w' := fun s b jump e1 e2 e3 => by
          subst e2
          rw [e1] at g3
          simp only at g3
          refine ⟨_, _, run_endRound jump hw3, ?_⟩
          refine hX h'' ⟨σ.base, σ.top, .lp i s :: σ2.H, σ.Hf, σ2.nx, false⟩ m2 K2 _ _ ?_ ⟨rfl, rfl⟩ g3
          have hm2 : m <+: m2 := g1.hm
          have hK2 : K.le K2 := g1.hK
          have hm2' : ∀ (i : Nat) (x : M), m[i]? = some x → m2[i]? = some x := fun _ _ k => pre_get hm2 k
          refine ⟨⟨hr.hm.trans hm2, hr.hK.trans hK2, g1.nx, fun e => (by cases e), hr.base, hr.dead, hr.old, fun i sv hi => SV.mono hm2' hK2 sv (hr.top i sv hi), fun a ha => ?_, hr.okF, hr.mks.mono hK2⟩, ?_⟩
          · rcases List.mem_cons.1 ha with rfl | ha
            · exact ⟨l, rr, hm2' _ _ hm⟩
            · exact g1.okH a ha
          · have := LpA.put (r' := s.cr rr) hs3
            have hHf : σ2.Hf = σ.Hf := (h2.trans g2).2
            rw [hHf, hr.toPur.fz'] at this
            show Sep E K2 ((HA.lp i s :: σ2.H).map (HA.conc m2) ++ (σ.Hf.map (HA.conc fr.m) ++ fr.F)) _
            simp only [List.map_cons, HA.conc, hm2' _ _ hm, List.cons_append]
            rw [e3] at this ⊢
            exact this
        cases e2 with
        | normal => exact back .ready true none rfl rfl rfl
        | ret => exact back .ret false (some .ret) rfl rfl rfl
        | exit id => exact back (.exit id) false (some (.exit id)) rfl rfl rfl
        | goto t => cases g3
        | panic ch => cases g3
        | outgrown => cases g3
      | exit id => cases h3
      | goto t => cases h3
      | ret => cases h3
      | panic ch => cases h3
      | outgrown => cases h3
    · cases hh
  · cases hh
/-- Another post where an operation leaves. -/
theorem wpIn_post {F : Fence} {N : Nat} {o : Oper} {a : Act} {w : World} {X : Act → World → Prop} {Q Q' : Exit → Act → World → Prop} (hq : ∀ e a w, Q e a w → e ≠ .normal → Q' e a w) (hh : o.wpIn F N P a w X Q) : o.wpIn F N P a w X Q' := by
  unfold Oper.wpIn at *
  refine ⟨hh.1, ?_⟩
  have hh := hh.2
  have lo : LetsOut Q → LetsOut Q' := fun ⟨a, w, h⟩ => ⟨a, w, hq _ _ _ h nofun⟩
  generalize (o.semAt F.round a.eval).run P w = r at *
  cases r with
  | ok x w' =>
    cases x <;> simp only [Oper.uponIn] at hh ⊢ <;>
      first
        | exact hh
        | exact ⟨hh.1, CallsIn.mono hh.2 (fun e w'' he => by cases e <;> first | exact he | exact hq _ _ _ he nofun | exact lo he)⟩
        | exact ⟨hh.1, RowsIn.mono hh.2 (fun _ _ he => he)⟩
        | exact ⟨hh.1, RoundIn.mono hh.2 (fun e w'' he => by cases e <;> first | exact he | exact hq _ _ _ he nofun | exact lo he)⟩
        | exact hh.elim
  | halt x w' => cases x <;> simp only [Oper.uponIn] at hh ⊢ <;> first | exact hq _ _ _ hh nofun | exact lo hh | exact hh
/-- A list of plain operations ahead of others. -/
theorem wpListIn_app {r : Option Nat} {ops : Array Oper} {Q : Exit → Act → World → Prop} {rest : List Oper} : ∀ {l : List Oper} {a : Act} {w : World}, l.all nodf = true → wpLs P ops (fun e a w => e = .normal ∧ wpListIn (wideR r) 0 P ops Q rest a w) l a w → wpListIn (wideR r) 0 P ops Q (l ++ rest) a w
  | [], a, w, _, h => h.2
  | o :: l, a, w, hd, h => by
    simp only [List.all_cons, Bool.and_eq_true] at hd
    unfold wpLs at h
    rw [List.cons_append]
    unfold wpListIn
    split
    · rename_i hw; rw [if_pos hw] at h
      exact wpIn_post (fun e a w h hne => absurd h.1 hne) (Oper.wpIn_mono (fun a w h => wpListIn_app hd.2 h) (wpIn_of_wp hd.1 h))
    · rename_i hw; rw [if_neg hw] at h
      exact ⟨fun _ _ => trivial, wpListIn_app hd.2 h⟩
theorem relL_map {f : Operand → SV} {g : Operand → Value} (hf : ∀ x, SV.rel m K (f x) (g x)) : ∀ l : List Operand, SV.relL m K (l.map f) (l.map g)
  | [] => rfl
  | x :: l => ⟨_, _, rfl, hf x, relL_map hf l⟩
theorem yop_ok {J : Rn P} (hJ : JOk J) {o : Oper} {h : Hn P} {k : Hn P → Zt → Option R} {r : R} {ops : Array Oper} {rest : List Oper} {Q : Exit → Act → World → Prop} (hh : yop J n o h σ k = some r) (hr : Rel E fr σ m K ρ w)
    (hk : ∀ h' σ' m' K' ρ' w', Rel E fr σ' m' K' ρ' w' → Same σ σ' → k h' σ' = some r → wpListIn (wideR E.rd) 0 P ops Q rest (act1 n ρ') w') : wpListIn (wideR E.rd) 0 P ops Q (o :: rest) (act1 n ρ) w := by
  unfold yop at hh
  split at hh
  · rename_i d c args ats t pos af
    obtain ⟨l, hv, fn, tmps, ao, bo, hy, hround⟩ := yldRun_ok hJ hh hr (hr.toPur.ev n c) (relL_map (fun x => hr.toPur.evr n x) args.toList)
      (X := fun e w'' => match e with
        | .returned v => wpListIn (wideR E.rd) 0 P ops Q rest ((act1 n ρ).put (some d) v) w''
        | .panicked chain => Q (.panic chain) (act1 n ρ) w''
        | .outgrown => LetsOut Q)
      (fun h' σ' m' K' w' b h1 h2 h3 => by
        show wpListIn _ _ _ _ _ _ ((act1 n ρ).put (some d) (.bool b)) _
        rw [put_act1]
        exact hk h' _ m' K' _ w' (h1.set (d := d) (sv := .bool b) (v := .bool b) rfl) h2 h3)
    unfold wpListIn
    rw [if_pos (by simp [Region.wanted])]
    refine ⟨fun _ _ => trivial, ?_⟩
    rw [semR rfl, eval_act1]
    have hrun : (execOp (Go.Proofs.YticfjbmafkjmaaaDoor.ev n ρ.f) ⟨some d, .call ⟨.value c, args, ats⟩, t, pos, af, none⟩).run P w = .ok (.round l fn tmps ao bo) w := by
      have e : (args.toList.map (Go.Proofs.YticfjbmafkjmaaaDoor.ev n ρ.f)).toArray = args.map (Go.Proofs.YticfjbmafkjmaaaDoor.ev n ρ.f) := Array.ext' (by rw [Array.toList_map])
      rw [e] at hy
      have hv' : Go.Proofs.YticfjbmafkjmaaaDoor.ev n ρ.f c = .func (.yield l) #[] #[] := hv
      simp [execOp, resolve, Deferred.ofValue, hv', invoke, hy]
    rw [hrun, Oper.uponIn_round]
    refine ⟨fun hh => (by cases (show false = true from hh)), hround.mono (fun e w'' he => ?_)⟩
    cases e <;> exact he
  · cases hh
theorem slA_look : ∀ {vs : List SV} {us : List Value} {j i : Nat} {sv : SV}, SV.relL m K vs us → look (slA j vs) i = some sv → ∃ k u, i = j + k ∧ us[k]? = some u ∧ SV.rel m K sv u
  | [], us, j, i, sv, h, hl => by cases hl
  | v :: vs, us, j, i, sv, h, hl => by
    obtain ⟨u, q, rfl, h1, h2⟩ := relL_cons h
    change (bif Nat.beq j i then some v else look (slA (j + 1) vs) i) = some sv at hl
    cases hb : Nat.beq j i with
    | true =>
      rw [hb] at hl
      cases hl
      exact ⟨0, u, (Nat.eq_of_beq_eq_true hb).symm, rfl, h1⟩
    | false =>
      rw [hb] at hl
      obtain ⟨k, u', e1, e2, e3⟩ := slA_look (j := j + 1) h2 hl
      exact ⟨k + 1, u', by omega, by simpa using e2, e3⟩
theorem res_none {fn : Func} {tmps : Array Value} (h : fn.results.isEmpty = true) : ∃ v, (results fn tmps).run P w = .ok v w := by
  have h' : fn.results = #[] := by simpa using h
  refine ⟨.tuple #[], ?_⟩
  unfold results
  simp [h']
theorem rg_core {J : Rn P} (hJ : JOk J) {ps : Array Nat} {ao bo : Code} {h0 : Hn P} {k : Exit → Hn P → Zt → Option R} {r : R} {Q : Exit → Act → World → Prop} {q : ItFn P} {c : Code} (hc : q.fn.body = some c) {cs : List SV} {us : List Value} (hus : SV.relL m K cs us)
    (hres : q.fn.results.isEmpty = true) (hlen : cs.length + 1 ≤ q.fn.ntmps)
    (hh : J q.fn.ntmps c R h0 ⟨fun _ => .any, slA 0 (.yld σ.nx n σ.get ps ao bo :: cs), .lp σ.nx .ready :: σ.H, σ.Hf, σ.nx + 1, false⟩ (fun e h σ' =>
          bif exOver e then (match pick (HA.lpR σ.nx) σ'.H with
            | some (s, H) => LSt.go s k h ⟨σ.base, σ.top, H, σ.Hf, σ'.nx, false⟩
            | none => none) else none) = some r)
    (hr : Rel E fr σ m K ρ w) {l : Nat} {mark : List Deferred} {K1 : Hp} {w1 : World} {fn1 : FuncId} {D : Nat}
    (hs1 : Sep E K1 (LpA l { state := .ready, pending := none, fn := fn1, tmps := frm n ρ.f, params := ps, assign := ao, body := bo, defers := D } :: σ.atoms fr m) w1) (hK1 : K.le K1) (hm1 : MOk fr.k0 K1 (mark ++ ρ.ds))
    (hQ : ∀ e h' σ' m' K' ρ' w', Rel E fr σ' m' K' ρ' w' → Same σ σ' → k e h' σ' = some r → Q e (act1 n ρ') w') :
    CallsIn (wideR E.rd) 0 P q.f (#[.func (.yield l) #[] #[]] ++ us.toArray) w1 (rangePost (wideR E.rd) 0 P l Q { act1 n ρ with defers := mark ++ (act1 n ρ).defers }) := by
  obtain ⟨r1, hr1⟩ : ∃ r1 : Loop, r1 = { state := .ready, pending := none, fn := fn1, tmps := frm n ρ.f, params := ps, assign := ao, body := bo, defers := D } := ⟨_, rfl⟩
  rw [← hr1] at hs1
  obtain ⟨args, hargs⟩ : ∃ args : Array Value, args = (Value.func (.yield l) #[] #[] :: us).toArray := ⟨_, rfl⟩
  have hargs' : (#[.func (.yield l) #[] #[]] ++ us.toArray : Array Value) = args := by rw [hargs]; exact Array.ext' (by simp)
  rw [hargs']
  have hp := pre_app m [M.loop l r1]
  have hmm : ∀ (i : Nat) (x : M), m[i]? = some x → (m ++ [M.loop l r1])[i]? = some x := fun _ _ k => pre_get hp k
  have hgn : (m ++ [M.loop l r1])[σ.nx]? = some (.loop l r1) := get_new0 hr.nx
  have hsz : args.size ≤ q.fn.ntmps := by
    rw [hargs, List.size_toArray, List.length_cons, relL_len2 hus]
    exact hlen
  have hall : SV.relL (m ++ [M.loop l r1]) K1 (.yld σ.nx n σ.get ps ao bo :: cs) (Value.func (.yield l) #[] #[] :: us) :=
    ⟨_, _, rfl, ⟨l, r1, ρ.f, rfl, hgn, by rw [hr1], by rw [hr1], by rw [hr1], by rw [hr1], fun j => SV.mono hmm hK1 _ (hr.toPur.get j)⟩, SV.monoL hmm hK1 _ hus⟩
  have hrel : Rel E.out0 ⟨m ++ [M.loop l r1], K1, args1 args, fun _ => false, fr.F, K1⟩ ⟨fun _ => .any, slA 0 (.yld σ.nx n σ.get ps ao bo :: cs), .lp σ.nx .ready :: σ.H, σ.Hf, σ.nx + 1, false⟩ (m ++ [M.loop l r1]) K1 (args1 args) w1 := by
    refine ⟨⟨List.prefix_refl _, Hp.le_refl K1, by simp [hr.nx], fun e => (by cases e), fun i => trivial, fun i e => (by cases e), fun i _ => .inr rfl, fun i sv hi => ?_, fun a ha => ?_, fun a ha => HA.ok_mono hmm hK1 (hr.toPur.all a (List.mem_append_right _ ha)), MOk.nil hm1.gk (Hp.le_refl K1)⟩, ?_⟩
    · obtain ⟨j, u, e1, e2, e3⟩ := slA_look hall hi
      have : args1 args i = u := by
        show args0 args i = u
        unfold args0
        rw [e1, Nat.zero_add, hargs]
        simp [e2]
      rw [this]; exact e3
    · rcases List.mem_cons.1 ha with rfl | ha
      · exact ⟨l, r1, hgn⟩
      · exact HA.ok_mono hmm hK1 (hr.okH a ha)
    · show Sep E.out0 K1 ((HA.lp σ.nx .ready :: σ.H).map (HA.conc (m ++ [M.loop l r1])) ++ (σ.Hf.map (HA.conc (m ++ [M.loop l r1])) ++ fr.F)) w1
      have e1 : σ.H.map (HA.conc (m ++ [M.loop l r1])) = σ.H.map (HA.conc m) := map_conc_mono (K := K) hmm hr.okH
      have e2 : σ.Hf.map (HA.conc (m ++ [M.loop l r1])) = σ.Hf.map (HA.conc fr.m) := (map_conc_mono (K := K) hmm (fun a ha => hr.toPur.all a (List.mem_append_right _ ha))).trans hr.toPur.fz'
      rw [List.map_cons, e1, e2]
      have e3 : HA.conc (m ++ [M.loop l r1]) (.lp σ.nx .ready) = LpA l r1 := by
        simp only [HA.conc, hgn]
        rw [hr1]; rfl
      rw [e3]
      exact hs1.out0
  have key : CallsIn Fence.wide 0 P q.f args w1 (rangePost (wideR E.rd) 0 P l Q { act1 n ρ with defers := mark ++ (act1 n ρ).defers }) := by
    refine callsIn_of_wp_marks (F := Fence.wide) (n := 0) q.at_ hc trivial ?_
    rw [frm_args hsz]
    refine hJ q.fn.ntmps c R E.out0 ⟨m ++ [M.loop l r1], K1, args1 args, fun _ => false, fr.F, K1⟩ (fun l2 e => by cases e) h0 _ _ r _ K1 (args1 args) w1 _ hh hrel (fun e h' σ' m' K' ρ' w' h1 h2 h3 => ?_)
    replace h3 := bift h3; obtain ⟨hov, h3⟩ := h3
    have fini : LeavesInM Fence.wide 0 P q.fn (act1 q.fn.ntmps ρ').tmps (rangePost (wideR E.rd) 0 P l Q { act1 n ρ with defers := mark ++ (act1 n ρ).defers }) ρ'.ds .returning w' := by
      split at h3
      · rename_i s H hq
        obtain ⟨a, ha', hmem, hperm⟩ := pick_spec hq
        obtain rfl := lpR_eq ha'
        have hsub : ∀ a ∈ H, a ∈ σ'.H := fun a ha => hperm.symm.subset (List.mem_cons_of_mem _ ha)
        refine marks_leave ρ'.ds h1.mks h1.toSep (fun K2 w2 c1 c2 c3 => ?_)
        obtain ⟨v, hv⟩ := res_none (P := P) (w := w2) (tmps := (act1 q.fn.ntmps ρ').tmps) hres
        refine ⟨v, hv, ?_⟩
        have g := h1.unmark c1 c2 c2 c3
        have hmp : m ++ [M.loop l r1] <+: m' := g.hm
        have hgn' : m'[σ.nx]? = some (.loop l r1) := pre_get hmp hgn
        have hm2 : m <+: m' := hp.trans hmp
        have hm2' : ∀ (i : Nat) (x : M), m[i]? = some x → m'[i]? = some x := fun _ _ k => pre_get hm2 k
        have e2 : σ'.Hf.map (HA.conc (m ++ [M.loop l r1])) = σ.Hf.map (HA.conc fr.m) := by
          rw [h2.2]
          exact (map_conc_mono (K := K) hmm (fun a ha => hr.toPur.all a (List.mem_append_right _ ha))).trans hr.toPur.fz'
        have hs3 : Sep E K2 (LpA l (s.cr r1) :: (H.map (HA.conc m') ++ (σ.Hf.map (HA.conc fr.m) ++ fr.F))) w2 := by
          have := Sep.perm ((hperm.map (HA.conc m')).append_right (σ'.Hf.map (HA.conc (m ++ [M.loop l r1])) ++ fr.F)) c3.back
          rw [e2] at this
          simpa only [List.map_cons, HA.conc, hgn', List.cons_append] using this
        have hnb : (s.cr r1).state ≠ .busy := by cases s <;> simp [LSt.cr]
        refine ⟨_, _, run_endLoop (LpA.at hs3) hnb, ?_⟩
        have hs4 := (LpA.put (r' := { s.cr r1 with state := .exhausted }) hs3).drop
        have hKK : K.le K2 := hK1.trans c2
        have hrel4 : Rel E fr ⟨σ.base, σ.top, H, σ.Hf, σ'.nx, false⟩ m' K2 ⟨ρ.f, mark ++ ρ.ds⟩ (w2.putObj l (.loop { s.cr r1 with state := .exhausted })) :=
          ⟨⟨hr.hm.trans hm2, hr.hK.trans hKK, g.nx, fun e => (by cases e), hr.base, hr.dead, hr.old, fun i sv hi => SV.mono hm2' hKK sv (hr.top i sv hi), fun a ha => g.okH a (hsub a ha), hr.okF, hm1.mono c2⟩, hs4⟩
        cases s with
        | ready => exact hQ .normal h' _ m' K2 ⟨ρ.f, mark ++ ρ.ds⟩ _ hrel4 ⟨rfl, rfl⟩ h3
        | ret => exact wpIn_ret (hQ .ret h' _ m' K2 ⟨ρ.f, mark ++ ρ.ds⟩ _ hrel4 ⟨rfl, rfl⟩ h3)
        | exit id => exact wpIn_exit (hQ (.exit id) h' _ m' K2 ⟨ρ.f, mark ++ ρ.ds⟩ _ hrel4 ⟨rfl, rfl⟩ h3)
      · cases h3
    cases e with
    | normal => exact fini
    | ret => exact fini
    | exit id => cases hov
    | goto t => cases hov
    | panic ch => cases hov
    | outgrown => cases hov
  exact key
theorem rgRun_ok {J : Rn P} (hJ : JOk J) (hrd : RdOk E fr) {g : Operand} {ps : Array Nat} {ao bo : Code} {h : Hn P} {k : Exit → Hn P → Zt → Option R} {r : R} {Q : Exit → Act → World → Prop} (hh : rgRun J n g ps ao bo h σ k = some r) (hr : Rel E fr σ m K ρ w)
    (hQ : ∀ e h' σ' m' K' ρ' w', Rel E fr σ' m' K' ρ' w' → Same σ σ' → k e h' σ' = some r → Q e (act1 n ρ') w') : (Code.rangeFunc g ps ao bo).wpIn (wideR E.rd) 0 P Q (act1 n ρ) w := by
  unfold rgRun at hh
  split at hh
  · rename_i q h0
    split at hh
    · rename_i f cs e
      split at hh
      · rename_i c hc
        replace hh := bift hh; obtain ⟨hb, hh⟩ := hh
        simp only [Bool.and_eq_true] at hb
        obtain ⟨hb1, hb2, hb3⟩ := hb
        obtain rfl := Nat.eq_of_beq_eq_true hb1
        have hv := hr.toPur.ev n g
        rw [e] at hv
        obtain ⟨us, hv, hus⟩ := hv
        refine wpIn_rangeFunc (fun fn hfn => ?_)
        have tail : ∀ {l : Nat} {mark : List Deferred} {K1 : Hp} {w1 : World} {D : Nat}, (Instr.enterLoop fn (act1 n ρ).tmps ps ao bo E.rd).run P w = .ok (l, mark) w1 →
            Sep E K1 (LpA l { state := .ready, pending := none, fn := fn, tmps := frm n ρ.f, params := ps, assign := ao, body := bo, defers := D } :: σ.atoms fr m) w1 → K.le K1 → MOk fr.k0 K1 (mark ++ ρ.ds) →
            ∃ (l : Nat) (mark : List Deferred) (w₁ : World) (d : Deferred) (w₁' : World) (f : FuncId) (args : Array Value) (w₂ : World),
              (Instr.enterLoop fn (act1 n ρ).tmps ps ao bo (wideR E.rd).round).run P w = .ok (l, mark) w₁ ∧
              (resolve (act1 n ρ).eval (rangeCall g l) 0).run P w₁ = .ok d w₁' ∧
              (∀ f', Target.leads P w₁' d.target d.args = some f' → (wideR E.rd).fn f') ∧
              (invoke d.target d.args).run P w₁' = .ok (.enter f args) w₂ ∧
              ((wideR E.rd).depth.isSome = true → 1 ≤ 0) ∧
              CallsIn (wideR E.rd) (0 - 1) P f args w₂ (rangePost (wideR E.rd) 0 P l Q { act1 n ρ with defers := mark ++ (act1 n ρ).defers }) := fun {l mark K1 w1 D} he hs1 hK1 hm1 => by
          refine ⟨l, mark, w1, { target := .fn (.func q.f) us.toArray, args := #[.func (.yield l) #[] #[]] }, w1, q.f, #[.func (.yield l) #[] #[]] ++ us.toArray, w1, he, ?_, fun _ _ => trivial, ?_, fun hh => (by cases (show false = true from hh)), ?_⟩
          · have hv' : Go.Proofs.YticfjbmafkjmaaaDoor.ev n ρ.f g = .func (.func q.f) #[] us.toArray := hv
            rw [eval_act1]
            have hc2 : Go.Proofs.YticfjbmafkjmaaaDoor.ev n ρ.f (.const (.func (.yield l) #[] #[])) = .func (.yield l) #[] #[] := rfl
            simp [resolve, Deferred.ofValue, hv', hc2]
          · exact q.ent _ _
          · exact rg_core hJ hc hus hb2 (Nat.le_of_ble_eq_true hb3) hh hr hs1 hK1 hm1 hQ
        cases hE : E.rd with
        | none =>
          rw [hE] at tail
          obtain ⟨s1, hD⟩ := (hr.toSep.allocO (.deferred (some []))).known
          have s2 := s1.allocO (.loop { state := .ready, pending := none, fn := fn, tmps := frm n ρ.f, params := ps, assign := ao, body := bo, defers := w.heap.size })
          rw [World.size_alloc] at s2
          refine tail (run_enterLoop_outer fn _ ps ao bo) s2 (Hp.le_join _ _) ⟨⟨hr.mks.1.1, hr.mks.1.2.trans (Hp.le_join _ _)⟩, fun d hd => ?_, ?_⟩
          · rcases List.mem_append.1 hd with hd | hd
            · simp only [List.mem_singleton] at hd
              subst hd
              refine ⟨w.heap.size, rfl, Hp.join_right (one_of _ _) hD, ?_⟩
              cases hk0 : fr.k0 w.heap.size with
              | none => rfl
              | some x => rw [hr.mks.1.2 _ _ hk0] at hD; cases hD
            · obtain ⟨D', e1, e2, e3⟩ := hr.mks.2.1 d hd
              exact ⟨D', e1, Hp.le_join _ _ _ _ e2, e3⟩
          · refine List.nodup_cons.2 ⟨fun hd => ?_, hr.mks.2.2⟩
            obtain ⟨D', e1, e2, e3⟩ := hr.mks.2.1 _ hd
            simp only [Deferred.mk.injEq, Target.collected.injEq, and_true] at e1
            rw [← e1, hD] at e2
            cases e2
        | some l0 =>
          rw [hE] at tail
          obtain ⟨r0, hmem⟩ := hrd l0 hE
          have hw0 : w.heap[l0]? = some (.loop r0) := by
            obtain ⟨i, hi⟩ := List.getElem?_of_mem (show LpA l0 r0 ∈ σ.atoms fr m from List.mem_append_right _ (List.mem_append_right _ hmem))
            exact LpA.at (Sep.front i hi hr.toSep)
          exact tail (enter_inner hw0 fn _ ps ao bo) (hr.toSep.allocO _) (Hp.le_refl K) (by simpa using hr.mks)
      · cases hh
    · cases hh
  · cases hh
end
end Go.Proofs.YticfjbmafkjmaaaDoor
namespace Go.Proofs.YticfjbmafkjmaaaDoor
open Go.RowKit
set_option linter.unusedVariables false
set_option linter.unusedSimpArgs false
set_option linter.unnecessarySimpa false
set_option linter.unusedSectionVars false
variable [BldA]
section
variable {R : Type} {P : Program} {E : En} {n : Nat} {m m' : List M} {K K' : Hp} {fr : Frz} {σ σ' : Zt} {ρ ρ' : Sl1} {w w' : World}
theorem joinN_ok {c : Code} {f : Hn P → Zt → (R : Type) → (Exit → Hn P → Zt → Option R) → Option R} (hf : Fok P n c f) (hrd : RdOk E fr) {s : Sh} {act W : List Nat} {a b : Hn P} {k : Hn P → Zt → Option R} {r : R} {Q : Exit → Act → World → Prop} (h : joinN f s act W a b σ k = some r) (hr : Rel E fr σ m K ρ w)
    (hQ : ∀ h' σ' m' K' ρ' w', Rel E fr σ' m' K' ρ' w' → Same σ σ' → k h' σ' = some r → Q .normal (Go.Proofs.YticfjbmafkjmaaaDoor.act1 n ρ') w') : c.wpIn (wideR E.rd) 0 P Q (Go.Proofs.YticfjbmafkjmaaaDoor.act1 n ρ) w := by
  unfold joinN at h
  obtain ⟨x, hx, h⟩ := ob h
  refine hf _ E ⟨m, K, ρ, fun _ => false, fr.F, fr.k0⟩ hrd a (σ.frz act) _ x m K ρ w Q hx (hr.frz act) (fun e h' σ' m' K' ρ' w' h1 h2 h3 => ?_)
  cases e with
  | normal =>
    obtain ⟨h'', σ2, m2, K2, g1, g2, g3⟩ := prep_ok h' h3 h1
    have hi : Inn σ fr ⟨m, K, ρ, fun _ => false, fr.F, fr.k0⟩ m K ρ (minus σ.H act) σ2 W := ⟨rfl, rfl, rfl, rfl, rfl, (g2.2.trans h2.2), minus_sub, fun _ _ => rfl⟩
    obtain ⟨σ3, m3, q1, q2, q3⟩ := lay_ok hr hi g3 g1 h
    exact hQ b σ3 m3 K2 ρ' w' q3 q2 q1
  | _ => cases h3
theorem joinX_ok {c : Code} {f : Hn P → Zt → (R : Type) → (Exit → Hn P → Zt → Option R) → Option R} (hf : Fok P n c f) (hrd : RdOk E fr) {s : Sh} {act W : List Nat} {a b : Hn P} {k : Exit → Hn P → Zt → Option R} {r : R} {Q : Exit → Act → World → Prop} (h : joinX f s act W a b σ k = some r) (hr : Rel E fr σ m K ρ w)
    (hQ : ∀ e h' σ' m' K' ρ' w', Rel E fr σ' m' K' ρ' w' → Same σ σ' → k e h' σ' = some r → Q e (Go.Proofs.YticfjbmafkjmaaaDoor.act1 n ρ') w') : c.wpIn (wideR E.rd) 0 P Q (Go.Proofs.YticfjbmafkjmaaaDoor.act1 n ρ) w := by
  unfold joinX at h
  obtain ⟨o, ho, h⟩ := ob h
  refine hf _ E ⟨m, K, ρ, fun _ => false, fr.F, fr.k0⟩ hrd a (σ.frz act) _ o m K ρ w Q ho (hr.frz act) (fun e h' σ' m' K' ρ' w' h1 h2 h3 => ?_)
  have other : (k e h' (σ.thaw σ' (minus σ.H act) [])).map Sum.inr = some o → Q e (Go.Proofs.YticfjbmafkjmaaaDoor.act1 n ρ') w' := fun h3 => by
    rw [Option.map_eq_some_iff] at h3
    obtain ⟨r', h4, rfl⟩ := h3
    cases h
    have hi : Inn σ fr ⟨m, K, ρ, fun _ => false, fr.F, fr.k0⟩ m K ρ (minus σ.H act) σ' [] := ⟨rfl, rfl, rfl, rfl, rfl, h2.2, minus_sub, fun _ _ => rfl⟩
    obtain ⟨q1, q2⟩ := thaw_ok hr hi h1
    exact hQ e h' _ m' K' ρ' w' q2 q1 h4
  cases e with
  | normal =>
    obtain ⟨h'', σ2, m2, K2, g1, g2, g3⟩ := prep_ok h' h3 h1
    rw [Option.map_eq_some_iff] at g1
    obtain ⟨x, g1, rfl⟩ := g1
    have hi : Inn σ fr ⟨m, K, ρ, fun _ => false, fr.F, fr.k0⟩ m K ρ (minus σ.H act) σ2 W := ⟨rfl, rfl, rfl, rfl, rfl, (g2.2.trans h2.2), minus_sub, fun _ _ => rfl⟩
    obtain ⟨σ3, m3, q1, q2, q3⟩ := lay_ok hr hi g3 g1 h
    exact hQ .normal b σ3 m3 K2 ρ' w' q3 q2 q1
  | _ => exact other h3
/-- The head of a loop's round. -/
theorem head_ok {s : Sh} {W : List Nat} {rest : List HA} {x : TL s.ts} (hr : Rel E fr σ m K ρ w) {g : Gt} {f : Nat → SV} {H : List HA} {us : List Atom}
    (hg : s.get f H = some g) (hx : TL.of s.ts g.ds = some x) (hok : ∀ a ∈ H, HA.ok m' K' a) (hf : ∀ i, SV.rel m' K' (f i) (ρ' i)) (hmm : m <+: m') (hKK : K.le K') (hrest : ∀ a ∈ rest, a ∈ σ.H) (hs : Sep E K' (H.map (HA.conc m') ++ (us ++ (rest.map (HA.conc m) ++ σ.fz fr))) w')
    (hds : MOk fr.k0 K' ρ'.ds) (hold : ∀ i, i ∉ W → ρ' i = ρ i) {vs : List (Nat × SV)} {u : Un} (hu : s.un (TL.list s.ts x) σ.nx = some (vs, u)) :
    ∃ m'', Rel E ⟨m, K, ρ, fun i => W.contains i, fr.F, fr.k0⟩ ⟨fun i => bif W.contains i then .any else σ.get i, subT (fillF σ) vs, u.H.map (HA.sub (fillF σ)), rest ++ σ.Hf, u.nx, false⟩ m'' K' ρ' w' := by
  rw [TL.of_list hx] at hu
  have hoo : oldOk s.bl m.length = true := by
    unfold Sh.un at hu
    rw [hr.nx]
    cases ho : oldOk s.bl σ.nx with
    | true => rfl
    | false => rw [ho] at hu; cases hu
  obtain ⟨vs', u', ms, e1, e2, e3, e4, e5, e6, e7, e8⟩ := Sh.get_un hg hok hmm hoo
  rw [hr.nx, hu] at e1
  cases e1
  have hp' := pre_app m ms
  refine ⟨m ++ ms, Rel.subs (σ := ⟨fun i => bif W.contains i then .any else σ.get i, vs, u.H, rest ++ σ.Hf, u.nx, false⟩) (fillF_rel hr.toPur (m' := m ++ ms) (fun _ _ k => pre_get hp' k) hKK) ⟨⟨pre_app m ms, hKK, e2, fun e => (by cases e), fun i => ?_, fun i hi => ?_, fun i hi => ?_, fun i sv hi => slC_look e3 hi _ (hf i), e4, fun a ha => ?_, hds⟩, ?_⟩⟩
  · show SV.rel m K (bif W.contains i then .any else σ.get i) (ρ i)
    cases W.contains i with
    | true => exact trivial
    | false => exact hr.toPur.get i
  · show (bif W.contains i then SV.any else σ.get i) = .any
    have hi : W.contains i = true := hi
    rw [hi]; rfl
  · by_cases hW : i ∈ W
    · exact .inl (by simpa using hW)
    · exact .inr (hold i hW)
  · refine hr.toPur.all a ?_
    rcases List.mem_append.1 ha with ha | ha
    · exact List.mem_append_left _ (hrest a ha)
    · exact List.mem_append_right _ ha
  · have s1 := e6 E _ w' hs
    have s2 : Sep E K' ((g.H.map (HA.conc m') ++ us) ++ (u.H.map (HA.conc (m ++ ms)) ++ (rest.map (HA.conc m) ++ σ.fz fr))) w' := Sep.perm (by
      rw [List.append_assoc]
      refine (perm3 _ _ _).trans (List.Perm.append_left _ (perm3 _ _ _)) ) s1
    show Sep E K' (u.H.map (HA.conc (m ++ ms)) ++ ((rest ++ σ.Hf).map (HA.conc m) ++ fr.F)) w'
    rw [List.map_append, hr.toPur.fz', List.append_assoc]
    exact Sep.drops s2
theorem get_oldOk {s : Sh} {ds : List Dat} {nx : Nat} {o : List (Nat × SV) × Un} (h : s.un ds nx = some o) : oldOk s.bl nx = true := by
  unfold Sh.un at h
  cases ho : oldOk s.bl nx with
  | true => rfl
  | false => rw [ho] at h; cases h
theorem lpRun_ok {c : Code} {f : Hn P → Zt → (R : Type) → (Exit → Hn P → Zt → Option R) → Option R} (hf : Fok P n c f) (hrd : RdOk E fr) {s : Sh} {W : List Nat} {a : Hn P} {k : Exit → Hn P → Zt → Option R} {r : R} {Q : Exit → Act → World → Prop} (h : lpRun f s W a σ k = some r) (hr : Rel E fr σ m K ρ w)
    (hQ : ∀ e h' σ' m' K' ρ' w', Rel E fr σ' m' K' ρ' w' → Same σ σ' → k e h' σ' = some r → Q e (Go.Proofs.YticfjbmafkjmaaaDoor.act1 n ρ') w') : (Code.loop c).wpIn (wideR E.rd) 0 P Q (Go.Proofs.YticfjbmafkjmaaaDoor.act1 n ρ) w := by
  unfold lpRun at h
  split at h
  · rename_i g hg
    split at h
    · rename_i x0 hx0
      obtain ⟨N, hN⟩ := loop_iter h
      refine wpIn_loop_rounds N ?_
      -- a round's head
      have round : ∀ (N : Nat) (x : TL s.ts) (m1 : List M) (K1 : Hp) (ρ1 : Sl1) (w1 : World) (vs : List (Nat × SV)) (u : Un), iter (lpRound f s W g a σ k) N x = some r → s.un (TL.list s.ts x) σ.nx = some (vs, u) →
          Rel E ⟨m, K, ρ, fun i => W.contains i, fr.F, fr.k0⟩ ⟨fun i => bif W.contains i then .any else σ.get i, subT (fillF σ) vs, u.H.map (HA.sub (fillF σ)), g.H ++ σ.Hf, u.nx, false⟩ m1 K1 ρ1 w1 → Code.roundsIn (wideR E.rd) 0 P c Q N (Go.Proofs.YticfjbmafkjmaaaDoor.act1 n ρ1) w1 := by
        intro N
        induction N with
        | zero => intro x m1 K1 ρ1 w1 vs u hi; cases hi
        | succ N ih =>
          intro x m1 K1 ρ1 w1 vs u hi hu hrel
          unfold iter at hi
          obtain ⟨o, ho, hi⟩ := ob hi
          rw [roundsIn_succ]
          unfold lpRound at ho
          rw [hu] at ho
          simp only at ho
          have hgsub : ∀ a ∈ g.H, a ∈ σ.H := by
            obtain ⟨_, _, _, _, _, _, _, e5, _⟩ := Sh.get_un (m := m) (K := K) hg hr.okH (List.prefix_refl m) (by rw [hr.nx]; exact get_oldOk hu)
            exact e5
          refine hf _ E ⟨m, K, ρ, fun i => W.contains i, fr.F, fr.k0⟩ hrd a _ _ o m1 K1 ρ1 w1 _ ho hrel (fun e h' σ' m' K' ρ' w' h1 h2 h3 => ?_)
          have other : e ≠ .normal → (k e h' (σ.thaw σ' g.H W)).map Sum.inr = some o → Q e (Go.Proofs.YticfjbmafkjmaaaDoor.act1 n ρ') w' := fun _ h3 => by
            rw [Option.map_eq_some_iff] at h3
            obtain ⟨r', h4, rfl⟩ := h3
            cases hi
            have hii : Inn σ fr ⟨m, K, ρ, fun i => W.contains i, fr.F, fr.k0⟩ m K ρ g.H σ' W := ⟨rfl, rfl, rfl, rfl, rfl, h2.2, hgsub, fun i hi => by simpa using hi⟩
            obtain ⟨q1, q2⟩ := thaw_ok hr hii h1
            exact hQ e h' _ m' K' ρ' w' q2 q1 h4
          cases e with
          | normal =>
            obtain ⟨h'', σ2, m2, K2, g1, g2, g3⟩ := prep_ok h' h3 h1
            rw [Option.map_eq_some_iff] at g1
            obtain ⟨x', g1, rfl⟩ := g1
            have hsame := h2.trans g2
            unfold Zt.pack at g1
            replace g1 := bift g1; obtain ⟨hk, g1⟩ := g1
            split at g1
            · rename_i g' hg'
              cases hu' : s.un (TL.list s.ts x') σ.nx with
              | none =>
                -- the next round would not run
                cases N with
                | zero => cases hi
                | succ N =>
                  unfold iter at hi
                  obtain ⟨o2, ho2, _⟩ := ob hi
                  unfold lpRound at ho2
                  rw [hu'] at ho2
                  cases ho2
              | some q =>
                obtain ⟨vs', u'⟩ := q
                have hii : Inn σ fr ⟨m, K, ρ, fun i => W.contains i, fr.F, fr.k0⟩ m K ρ g.H σ2 W := ⟨rfl, rfl, rfl, rfl, rfl, hsame.2, hgsub, fun i hi => by simpa using hi⟩
                obtain ⟨m'', hrel'⟩ := head_ok (W := W) (rest := g.H) (us := []) hr hg' g1 g3.okH g3.toPur.get g3.hm g3.hK hgsub (by rw [List.nil_append]; exact hii.sep hr g3) g3.mks (fun i hi => by
                  have := g3.old i (keysIn_spec hk hi)
                  rcases this with h4 | h4
                  · exact absurd (by simpa using h4) hi
                  · exact h4) hu'
                exact ih x' m'' K2 ρ' w' vs' u' hi hu' hrel'
            · cases g1
          | exit i => exact other nofun h3
          | goto l => exact other nofun h3
          | ret => exact other nofun h3
          | panic c => exact other nofun h3
          | outgrown => exact other nofun h3
      cases hu : s.un (TL.list s.ts x0) σ.nx with
      | none =>
        cases N with
        | zero => cases hN
        | succ N =>
          unfold iter at hN
          obtain ⟨o2, ho2, _⟩ := ob hN
          unfold lpRound at ho2
          rw [hu] at ho2
          cases ho2
      | some q =>
        obtain ⟨vs, u⟩ := q
        have hu2 := hu
        rw [TL.of_list hx0] at hu2
        obtain ⟨vs', u', ms, e1, e2, e3, e4, e5, e6, e7, e8⟩ := Sh.get_un (m := m) (K := K) hg hr.okH (List.prefix_refl m) (by rw [hr.nx]; exact get_oldOk hu2)
        rw [hr.nx, hu2] at e1
        cases e1
        have hp' := pre_app m ms
        refine round N x0 (m ++ ms) K ρ w vs u hN hu (Rel.subs (σ := ⟨fun i => bif W.contains i then .any else σ.get i, vs, u.H, g.H ++ σ.Hf, u.nx, false⟩) (fillF_rel hr.toPur (m' := m ++ ms) (fun _ _ k => pre_get hp' k) (Hp.le_refl K)) ⟨⟨pre_app m ms, Hp.le_refl K, e2, fun e => (by cases e), fun i => ?_, fun i hi => ?_, fun i hi => .inr rfl, fun i sv hi => slC_look e3 hi _ (hr.toPur.get i), e4, fun a ha => ?_, hr.mks⟩, ?_⟩)
        · show SV.rel m K (bif W.contains i then .any else σ.get i) (ρ i)
          cases W.contains i with
          | true => exact trivial
          | false => exact hr.toPur.get i
        · show (bif W.contains i then SV.any else σ.get i) = .any
          have hi : W.contains i = true := hi
          rw [hi]; rfl
        · refine hr.toPur.all a ?_
          rcases List.mem_append.1 ha with ha | ha
          · exact List.mem_append_left _ (e5 a ha)
          · exact List.mem_append_right _ ha
        · have s1 := e6 E _ w hr.toSep
          show Sep E K (u.H.map (HA.conc (m ++ ms)) ++ ((g.H ++ σ.Hf).map (HA.conc m) ++ fr.F)) w
          rw [List.map_append, hr.toPur.fz', List.append_assoc]
          exact s1
    · cases h
  · cases h
theorem unroll_ok {c : Code} {f : Hn P → Zt → (R : Type) → (Exit → Hn P → Zt → Option R) → Option R} (hf : Fok P n c f) (hrd : RdOk E fr) {k : Exit → Hn P → Zt → Option R} {r : R} {Q : Exit → Act → World → Prop}
    (hQ : ∀ e h' σ' m' K' ρ' w', Rel E fr σ' m' K' ρ' w' → Same σ σ' → k e h' σ' = some r → Q e (Go.Proofs.YticfjbmafkjmaaaDoor.act1 n ρ') w') : ∀ (N : Nat) {h : Hn P} {σ1 : Zt} {m : List M} {K : Hp} {ρ : Sl1} {w : World}, unroll (fun h σ k => f h σ _ k) k N h σ1 = some r → Rel E fr σ1 m K ρ w → Same σ σ1 → Code.roundsIn (wideR E.rd) 0 P c Q N (Go.Proofs.YticfjbmafkjmaaaDoor.act1 n ρ) w
  | 0, h, σ1, m, K, ρ, w, hh, hr, hs => by cases hh
  | N + 1, h, σ1, m, K, ρ, w, hh, hr, hs => by
    rw [roundsIn_succ]
    unfold unroll at hh
    refine hf _ E fr hrd h σ1 _ r m K ρ w _ hh hr (fun e h' σ' m' K' ρ' w' h1 h2 h3 => ?_)
    cases e with
    | normal => exact unroll_ok hf hrd hQ N h3 h1 (hs.trans h2)
    | exit i => exact hQ _ h' σ' m' K' ρ' w' h1 (hs.trans h2) h3
    | goto i => exact hQ _ h' σ' m' K' ρ' w' h1 (hs.trans h2) h3
    | ret => exact hQ _ h' σ' m' K' ρ' w' h1 (hs.trans h2) h3
    | panic i => exact hQ _ h' σ' m' K' ρ' w' h1 (hs.trans h2) h3
    | outgrown => exact hQ _ h' σ' m' K' ρ' w' h1 (hs.trans h2) h3
theorem onNorm_ok {y : Code} {k : Exit → Hn P → Zt → Option R} {f : Hn P → Zt → Option R} {r : R} {Q : Exit → Act → World → Prop} {σ0 : Zt} (hf : ∀ h' σ' m' K' ρ' w', Rel E fr σ' m' K' ρ' w' → Same σ0 σ' → f h' σ' = some r → y.wpIn (wideR E.rd) 0 P Q (Go.Proofs.YticfjbmafkjmaaaDoor.act1 n ρ') w')
    (hQ : ∀ e h' σ' m' K' ρ' w', Rel E fr σ' m' K' ρ' w' → Same σ0 σ' → k e h' σ' = some r → Q e (Go.Proofs.YticfjbmafkjmaaaDoor.act1 n ρ') w') : ∀ e h' σ' m' K' ρ' w', Rel E fr σ' m' K' ρ' w' → Same σ0 σ' → onNorm k f e h' σ' = some r → Exit.then (y.wpIn (wideR E.rd) 0 P Q) Q e (Go.Proofs.YticfjbmafkjmaaaDoor.act1 n ρ') w' := by
  intro e h' σ' m' K' ρ' w' h1 h2 h3
  cases e with
  | normal => exact hf h' σ' m' K' ρ' w' h1 h2 h3
  | exit i => exact hQ _ h' σ' m' K' ρ' w' h1 h2 h3
  | goto i => exact hQ _ h' σ' m' K' ρ' w' h1 h2 h3
  | ret => exact hQ _ h' σ' m' K' ρ' w' h1 h2 h3
  | panic i => exact hQ _ h' σ' m' K' ρ' w' h1 h2 h3
  | outgrown => exact hQ _ h' σ' m' K' ρ' w' h1 h2 h3
theorem Sep.at_out {L : List Atom} {E : En} {K : Hp} {w : World} (h : Sep E K L w) : Sep E K L w := h
/-- Code run at a state does what is computed. -/
theorem exec_ok {J : Rn P} (hJ : JOk J) : ∀ (c : Code), Fok P n c (fun h σ R k => exec J n c h σ k)
  | .skip => fun R E fr hrd h σ k r m K ρ w Q hh hr hQ => wpIn_skip (hQ _ h σ m K ρ w hr Same.rfl' hh)
  | .ret => fun R E fr hrd h σ k r m K ρ w Q hh hr hQ => wpIn_ret (hQ _ h σ m K ρ w hr Same.rfl' hh)
  | .exit id => fun R E fr hrd h σ k r m K ρ w Q hh hr hQ => wpIn_exit (hQ _ h σ m K ρ w hr Same.rfl' hh)
  | .label l => fun R E fr hrd h σ k r m K ρ w Q hh hr hQ => wpIn_label (hQ _ h σ m K ρ w hr Same.rfl' hh)
  | .scope b => fun R E fr hrd h σ k r m K ρ w Q hh hr hQ => by
    refine wpIn_scope_straight (exec_ok hJ b R E fr hrd h σ _ r m K ρ w _ (show exec J n b h σ (onScope k) = some r from hh) hr (fun e h' σ' m' K' ρ' w' h1 h2 h3 => ?_))
    cases e with
    | goto l => cases h3
    | normal => exact hQ _ h' σ' m' K' ρ' w' h1 h2 h3
    | exit i => exact hQ _ h' σ' m' K' ρ' w' h1 h2 h3
    | ret => exact hQ _ h' σ' m' K' ρ' w' h1 h2 h3
    | panic i => exact hQ _ h' σ' m' K' ρ' w' h1 h2 h3
    | outgrown => exact hQ _ h' σ' m' K' ρ' w' h1 h2 h3
  | .region id ops draw => fun R E fr hrd h σ k r m K ρ w Q hh hr hQ => by
    change (bif !ops.toList.all nodf then none else bif draw then prep h σ fun h σ => preO n ops.toList h σ fun h σ => (match h with | .mix plan fin tail act r => mixS n ops plan fin tail act r σ (k .normal) | .tr t s act a b => trS n ops t s act a b σ (k .normal) | _ => none) else prep h σ fun h σ => yreg J n ops h σ (k .normal)) = some r at hh
    replace hh := biff hh; obtain ⟨hn, hh⟩ := hh
    have hn : ops.toList.all nodf = true := by simpa using hn
    cases draw with
    | false =>
      simp only [cond_false] at hh
      obtain ⟨h1, σ1, m1, K1, hh, g1, hr⟩ := prep_ok h hh hr
      replace hQ : ∀ e h' σ' m' K' ρ' w', Rel E fr σ' m' K' ρ' w' → Same σ1 σ' → k e h' σ' = some r → Q e (act1 n ρ') w' := fun e h' σ' m' K' ρ' w' q1 q2 q3 => hQ e h' σ' m' K' ρ' w' q1 (g1.trans q2) q3
      clear g1
      unfold yreg at hh
      split at hh
      · rename_i q h2
        have key : wpListIn (wideR E.rd) 0 P ops Q (ops.toList.take q ++ ops.toList.drop q) (act1 n ρ) w := by
          have hn1 : (ops.toList.take q).all nodf = true := List.all_eq_true.2 (fun x hx => List.all_eq_true.1 hn x (List.mem_of_mem_take hx))
          have hn2 : (ops.toList.drop q).all nodf = true := List.all_eq_true.2 (fun x hx => List.all_eq_true.1 hn x (List.mem_of_mem_drop hx))
          refine wpListIn_app hn1 ?_
          have := runL_ok (ops := ops) (Q := fun e a w => e = .normal ∧ wpListIn (wideR E.rd) 0 P ops Q (ops.toList.drop q) a w) (ops.toList.take q) 0 hh hr (fun h' σ' m' K' ρ' w' h1 h2 h3 => ?_)
          · simpa using this
          · refine ⟨rfl, ?_⟩
            split at h3
            · rename_i o rest hd
              rw [hd] at hn2 ⊢
              simp only [List.all_cons, Bool.and_eq_true] at hn2
              refine yop_ok hJ h3 h1 (fun h'' σ'' m'' K'' ρ'' w'' g1 g2 g3 => ?_)
              have := runL_ok (ops := ops) (Q := Q) rest 0 g3 g1 (fun h3 σ3 m3 K3 ρ3 w3 b1 b2 b3 => hQ _ h3 σ3 m3 K3 ρ3 w3 b1 ((h2.trans g2).trans b2) b3)
              exact wpListIn_of hn2.2 (by simpa using this)
            · cases h3
        rw [List.take_append_drop] at key
        have := wpIn_region_lit (id := id) (l := ops.toList) (by simpa using key)
        simpa using this
      · have := wpIn_region_lit (id := id) (wpListIn_of (r := E.rd) (n := 0) hn (runL_ok (Q := Q) (ops := ops.toList.toArray) ops.toList 0 (by simpa using hh) hr (fun h' σ' m' K' ρ' w' h1 h2 h3 => hQ _ h' σ' m' K' ρ' w' h1 h2 h3)))
        simpa using this
    | true =>
      simp only [cond_true] at hh
      obtain ⟨h1, σ1, m1, K1, hh, g1, hr⟩ := prep_ok h hh hr
      obtain ⟨h2, σ2, m2, hh, g2, hr⟩ := preO_ok h1 hh hr
      replace hQ : ∀ e h' σ' m' K' ρ' w', Rel E fr σ' m' K' ρ' w' → Same σ2 σ' → k e h' σ' = some r → Q e (act1 n ρ') w' := fun e h' σ' m' K' ρ' w' q1 q2 q3 => hQ e h' σ' m' K' ρ' w' q1 ((g1.trans g2).trans q2) q3
      clear g1 g2
      generalize K1 = K at hr
      generalize m2 = m at hr
      generalize σ2 = σ at hr hh hQ
      split at hh
      · rename_i plan fin tail act' h0
        unfold mixS at hh
        replace hh := bif_and hh; obtain ⟨hm, hB, hh⟩ := hh
        have hB' : mixB .any ops.toList.toArray plan fin tail = true := by simpa using hB
        have hfr := (hr.frz act').drew
        have hplan : ∀ s i, (s, i) ∈ plan → i < ops.toList.length := by
          intro s i hi
          have h0 := hB
          unfold mixB at h0
          simp only [Bool.and_eq_true] at h0
          obtain ⟨_, h1⟩ := h0
          split at h1
          · rename_i l1 hl1
            simpa using mixPlan_lt plan _ _ hl1 s i hi
          · cases h1
        have key := runM_ok (l := ops.toList) (Q := Q) plan hh hfr rfl hplan (fun h' σ' m' K' ρ' w' h1 h2 h3 => by
          have hi : Inn σ fr ⟨m, K, ρ, fun _ => false, fr.F, fr.k0⟩ m K ρ (minus σ.H act') σ' [] := ⟨rfl, rfl, rfl, rfl, rfl, h2.2, minus_sub, fun _ _ => rfl⟩
          obtain ⟨z1, z2⟩ := thaw_ok hr hi h1
          have := runL_ok (ops := ops.toList.toArray) (Q := Q) (picks ops.toList tail) 0 (by simpa using h3) z2 (fun h'' σ'' m'' K'' ρ'' w'' b1 b2 b3 => hQ .normal h'' σ'' m'' K'' ρ'' w'' b1 (z1.trans b2) b3)
          rwa [List.drop_zero] at this)
        have := wp_region_mix (id := id) (Q := Q) plan fin tail hm hB' _ hfr.cfz rfl rfl rfl key hn (r := E.rd) (n := 0)
        simpa using this
      · rename_i t s act' a b
        unfold trS at hh
        replace hh := bif_and hh; obtain ⟨hm, hB, hh⟩ := hh
        obtain ⟨x, hx, hh⟩ := ob hh
        have hfr := (hr.frz act').drew
        have key := runT_ok (l := ops.toList) (F := fun a' w' => wpLs P ops.toList.toArray Q (picks ops.toList []) a' w') t hx hfr rfl (fun h' σ' m' K' ρ' w' h1 h2 h3 => by
          obtain ⟨h'', σ2, m2, K2, g1, g2, g3⟩ := prep_ok h' h3 h1
          have hi : Inn σ fr ⟨m, K, ρ, fun _ => false, fr.F, fr.k0⟩ m K ρ (minus σ.H act') σ2 (s.sl.map (·.1) ++ dsts ops.toList) := ⟨rfl, rfl, rfl, rfl, rfl, (g2.2.trans h2.2), minus_sub, fun _ _ => rfl⟩
          obtain ⟨σ3, m3, q1, q2, q3⟩ := lay_ok hr hi g3 g1 hh
          exact hQ .normal b σ3 m3 K2 ρ' w' q3 q2 q1)
        have := wp_region_tree (id := id) (Q := Q) t [] hm hB _ hfr.cfz rfl key hn (r := E.rd) (n := 0)
        simpa using this
      · cases hh
  | .seq a b => fun R E fr hrd h σ k r m K ρ w Q hh hr hQ => by
    have plain : ∀ h0, exec J n a h0 σ (onNorm k (fun h σ => exec J n b h σ k)) = some r → (Code.seq a b).wpIn (wideR E.rd) 0 P Q (act1 n ρ) w := fun h0 hh =>
      wpIn_seq (exec_ok hJ a R E fr hrd h0 σ _ r m K ρ w _ hh hr (onNorm_ok (σ0 := σ) (fun h' σ' m' K' ρ' w' h1 h2 h3 => exec_ok hJ b R E fr hrd h' σ' k r m' K' ρ' w' Q h3 h1 (fun e h'' σ'' m'' K'' ρ'' w'' q1 q2 q3 => hQ e h'' σ'' m'' K'' ρ'' w'' q1 (h2.trans q2) q3)) hQ))
    cases h with
    | sq mk s act ha hb =>
      have hh : (match Zt.mcs mk σ with | some σ => joinN (fun h σ R k => exec J n a h σ k) s act (s.sl.map (·.1) ++ writes a) ha hb σ (fun h σ => exec J n b h σ k) | none => none) = some r := hh
      split at hh
      · rename_i σ1 hm
        obtain ⟨m1, k1, k2⟩ := mcs_ok hm hr
        refine wpIn_seq (joinN_ok (exec_ok hJ a) hrd hh k2 (fun h' σ' m' K' ρ' w' h1 h2 h3 => ?_))
        exact exec_ok hJ b R E fr hrd h' σ' k r m' K' ρ' w' Q h3 h1 (fun e h'' σ'' m'' K'' ρ'' w'' q1 q2 q3 => hQ e h'' σ'' m'' K'' ρ'' w'' q1 ((k1.trans h2).trans q2) q3)
      · cases hh
    | sx mk s act ha hb =>
      have hh : (match Zt.mcs mk σ with | some σ => joinX (fun h σ R k => exec J n a h σ k) s act (s.sl.map (·.1) ++ writes a) ha hb σ (onNorm k (fun h σ => exec J n b h σ k)) | none => none) = some r := hh
      split at hh
      · rename_i σ1 hm
        obtain ⟨m1, k1, k2⟩ := mcs_ok hm hr
        refine wpIn_seq (joinX_ok (exec_ok hJ a) hrd hh k2 ?_)
        exact onNorm_ok (σ0 := σ1) (fun h' σ' m' K' ρ' w' h1 h2 h3 => exec_ok hJ b R E fr hrd h' σ' k r m' K' ρ' w' Q h3 h1 (fun e h'' σ'' m'' K'' ρ'' w'' q1 q2 q3 => hQ e h'' σ'' m'' K'' ρ'' w'' q1 ((k1.trans h2).trans q2) q3)) (fun e h' σ' m' K' ρ' w' q1 q2 q3 => hQ e h' σ' m' K' ρ' w' q1 (k1.trans q2) q3)
      · cases hh
    | pl h => exact plain h hh
    | nil => exact plain _ hh
    | two _ _ _ => exact plain _ hh
    | tw _ _ _ => exact plain _ hh
    | jn _ _ _ _ _ => exact plain _ hh
    | jx _ _ _ _ _ => exact plain _ hh
    | lp _ _ => exact plain _ hh
    | un _ _ => exact plain _ hh
    | per _ _ _ => exact plain _ hh
    | perb _ _ _ _ => exact plain _ hh
    | mc _ _ _ _ => exact plain _ hh
    | ms _ _ => exact plain _ hh
    | wt _ _ => exact plain _ hh
    | cl _ _ _ => exact plain _ hh
    | c2 _ _ _ _ => exact plain _ hh
    | gp _ _ => exact plain _ hh
    | gj _ _ _ _ _ => exact plain _ hh
    | mix _ _ _ _ _ => exact plain _ hh
    | opn _ _ _ => exact plain _ hh
    | opb _ _ _ => exact plain _ hh
    | cls _ _ _ => exact plain _ hh
    | opp _ _ _ _ => exact plain _ hh
    | ot _ _ => exact plain _ hh
    | cm _ _ _ _ => exact plain _ hh
    | cm2 _ _ _ _ _ => exact plain _ hh
    | tr _ _ _ _ _ => exact plain _ hh
    | yl _ _ => exact plain _ hh
    | rg _ _ => exact plain _ hh
  | .cond c x y => fun R E fr hrd h σ k r m K ρ w Q hh hr hQ => by
    obtain ⟨h1, σ1, m1, K1, g1, g2, g3⟩ := prep_ok h (show prep h σ (fun h σ => condS c (σ.evr n c) h σ (fun h σ => exec J n x h σ k) (fun h σ => exec J n y h σ k)) = some r from hh) hr
    have hv := g3.toPur.evr n c
    have goX : ∀ h2 σ2, Rel E fr σ2 m1 K1 ρ w → Same σ σ2 → exec J n x h2 σ2 k = some r → x.wpIn (wideR E.rd) 0 P Q (act1 n ρ) w := fun h2 σ2 q1 q2 q3 =>
      exec_ok hJ x R E fr hrd h2 σ2 k r m1 K1 ρ w Q q3 q1 (fun e h'' σ'' m'' K'' ρ'' w'' p1 p2 p3 => hQ e h'' σ'' m'' K'' ρ'' w'' p1 (q2.trans p2) p3)
    have goY : ∀ h2 σ2, Rel E fr σ2 m1 K1 ρ w → Same σ σ2 → exec J n y h2 σ2 k = some r → y.wpIn (wideR E.rd) 0 P Q (act1 n ρ) w := fun h2 σ2 q1 q2 q3 =>
      exec_ok hJ y R E fr hrd h2 σ2 k r m1 K1 ρ w Q q3 q1 (fun e h'' σ'' m'' K'' ρ'' w'' p1 p2 p3 => hQ e h'' σ'' m'' K'' ρ'' w'' p1 (q2.trans p2) p3)
    have slot : ∀ (d : Nat) (sv : SV), c = .tmp d → σ1.evr n c = sv → sv ≠ .any → σ1.get d = sv := fun d sv hc he hne => by
      subst hc
      cases hh : Nat.blt d n with
      | false =>
        have : σ1.evr n (.tmp d) = .any := by show (bif Nat.blt d n then σ1.get d else .any) = _; rw [hh]; rfl
        rw [this] at he; exact absurd he.symm hne
      | true =>
        have : σ1.evr n (.tmp d) = σ1.get d := by show (bif Nat.blt d n then σ1.get d else .any) = _; rw [hh]; rfl
        rw [← this]; exact he
    unfold condS at g1
    split at g1
    · rename_i jm w0 e
      rw [e] at hv
      obtain ⟨hj, hv⟩ := hv
      split at g1
      · rename_i t
        have hb : ev n ρ c = .bool t := hv
        rw [hb] at hj
        refine wpIn_cond_split (t := t) (by rw [eval_act1]; exact hb) (fun ht => ?_) (fun ht => ?_)
        · subst ht
          split at g1
          · exact goX _ _ (g3.fix (v := .bool true) hj rfl) (g2.trans ⟨rfl, rfl⟩) g1
          · exact goX _ σ1 g3 g2 g1
          · exact goX _ σ1 g3 g2 g1
        · subst ht
          split at g1
          · exact goY _ _ (g3.fix (v := .bool false) hj rfl) (g2.trans ⟨rfl, rfl⟩) g1
          · exact goY _ σ1 g3 g2 g1
          · exact goY _ σ1 g3 g2 g1
      · cases g1
    · rename_i t e
      rw [e] at hv
      have hb : ev n ρ c = .bool t := hv
      refine wpIn_cond_split (t := t) (by rw [eval_act1]; exact hb) (fun ht => ?_) (fun ht => ?_)
      · subst ht
        split at g1
        · rename_i ha hbn d _
          have hg := slot d _ rfl e nofun
          exact goX ha _ (g3.ref (fun _ _ u hu => by rw [hg] at hu; exact hu) (by rw [hg]; nofun)) (g2.trans ⟨rfl, ref_H.2⟩) g1
        · exact goX _ σ1 g3 g2 g1
        · exact goX _ σ1 g3 g2 g1
      · subst ht
        split at g1
        · rename_i ha hbn d _
          have hg := slot d _ rfl e nofun
          exact goY hbn _ (g3.ref (fun _ _ u hu => by rw [hg] at hu; exact hu) (by rw [hg]; nofun)) (g2.trans ⟨rfl, ref_H.2⟩) g1
        · exact goY _ σ1 g3 g2 g1
        · exact goY _ σ1 g3 g2 g1
    · rename_i tp l ng e
      rw [e] at hv
      obtain ⟨q, hb, hl⟩ := hv
      refine wpIn_cond_split (t := q ^^ ng) (by rw [eval_act1]; exact hb) (fun ht => ?_) (fun ht => ?_)
      · split at g1
        · rename_i ha hbn _
          cases ng with
          | true =>
            rw [Bool.xor_true] at ht
            simp only [cond_true] at g1
            exact goX ha _ g3 g2 (nilb_cons g1)
          | false =>
            rw [Bool.xor_false] at ht
            simp only [cond_false] at g1
            exact goX ha _ g3 g2 (nilb_nil (hl ht) g1)
        · cases g1
      · split at g1
        · rename_i ha hbn _
          cases ng with
          | true =>
            rw [Bool.xor_true] at ht
            simp only [cond_true] at g1
            exact goY hbn _ g3 g2 (nilb_nil (hl (by simpa using ht)) g1)
          | false =>
            rw [Bool.xor_false] at ht
            simp only [cond_false] at g1
            exact goY hbn _ g3 g2 (nilb_cons g1)
        · cases g1
    · cases g1
  | .block id b => fun R E fr hrd h σ k r m K ρ w Q hh hr hQ => by
    have blk : ∀ {R : Type} {k : Exit → Hn P → Zt → Option R} {r : R} {Q : Exit → Act → World → Prop} {fr : Frz} {σ : Zt}, (∀ e h' σ' m' K' ρ' w', Rel E fr σ' m' K' ρ' w' → Same σ σ' → k e h' σ' = some r → Q e (act1 n ρ') w') →
        ∀ e h' σ' m' K' ρ' w', Rel E fr σ' m' K' ρ' w' → Same σ σ' → onBlk id k e h' σ' = some r → Exit.inBlock id Q e (act1 n ρ') w' := by
      intro R k r Q fr σ hQ e h' σ' m' K' ρ' w' h1 h2 h3
      cases e with
      | exit i =>
        change (bif Nat.beq i id then k .normal h' σ' else k (.exit i) h' σ') = some r at h3
        show if i = id then _ else _
        cases hb : Nat.beq i id with
        | true =>
          rw [hb] at h3
          rw [if_pos (Nat.eq_of_beq_eq_true hb)]
          exact hQ _ h' σ' m' K' ρ' w' h1 h2 h3
        | false =>
          rw [hb] at h3
          rw [if_neg (fun e => by rw [e, Nat.beq_refl] at hb; cases hb)]
          exact hQ _ h' σ' m' K' ρ' w' h1 h2 h3
      | normal => exact hQ _ h' σ' m' K' ρ' w' h1 h2 h3
      | goto l => exact hQ _ h' σ' m' K' ρ' w' h1 h2 h3
      | ret => exact hQ _ h' σ' m' K' ρ' w' h1 h2 h3
      | panic i => exact hQ _ h' σ' m' K' ρ' w' h1 h2 h3
      | outgrown => exact hQ _ h' σ' m' K' ρ' w' h1 h2 h3
    have fb : Fok P n (.block id b) (fun h σ R k => exec J n b h σ (onBlk id k)) := fun R E fr hrd h σ k r m K ρ w Q hh hr hQ => by
      refine wpIn_block (exec_ok hJ b R E fr hrd h σ _ r m K ρ w _ hh hr ?_)
      intro e h' σ' m' K' ρ' w' h1 h2 h3
      cases e with
      | exit i =>
        change (bif Nat.beq i id then k .normal h' σ' else k (.exit i) h' σ') = some r at h3
        show if i = id then _ else _
        cases hb : Nat.beq i id with
        | true =>
          rw [hb] at h3
          rw [if_pos (Nat.eq_of_beq_eq_true hb)]
          exact hQ _ h' σ' m' K' ρ' w' h1 h2 h3
        | false =>
          rw [hb] at h3
          rw [if_neg (fun e => by rw [e, Nat.beq_refl] at hb; cases hb)]
          exact hQ _ h' σ' m' K' ρ' w' h1 h2 h3
      | normal => exact hQ _ h' σ' m' K' ρ' w' h1 h2 h3
      | goto l => exact hQ _ h' σ' m' K' ρ' w' h1 h2 h3
      | ret => exact hQ _ h' σ' m' K' ρ' w' h1 h2 h3
      | panic i => exact hQ _ h' σ' m' K' ρ' w' h1 h2 h3
      | outgrown => exact hQ _ h' σ' m' K' ρ' w' h1 h2 h3
    have plain : ∀ h0, exec J n b h0 σ (onBlk id k) = some r → (Code.block id b).wpIn (wideR E.rd) 0 P Q (act1 n ρ) w := fun h0 hh => fb R E fr hrd h0 σ k r m K ρ w Q hh hr hQ
    cases h with
    | jn mk s act ha hb =>
      have hh : (match Zt.mcs mk σ with | some σ => joinN (fun h σ R k => exec J n b h σ (onBlk id k)) s act (s.sl.map (·.1) ++ writes b) ha hb σ (k .normal) | none => none) = some r := hh
      split at hh
      · rename_i σ1 hm
        obtain ⟨m1, k1, k2⟩ := mcs_ok hm hr
        exact joinN_ok fb hrd hh k2 (fun h' σ' m' K' ρ' w' h1 h2 h3 => hQ _ h' σ' m' K' ρ' w' h1 (k1.trans h2) h3)
      · cases hh
    | jx mk s act ha hb =>
      have hh : (match Zt.mcs mk σ with | some σ => joinX (fun h σ R k => exec J n b h σ (onBlk id k)) s act (s.sl.map (·.1) ++ writes b) ha hb σ k | none => none) = some r := hh
      split at hh
      · rename_i σ1 hm
        obtain ⟨m1, k1, k2⟩ := mcs_ok hm hr
        exact joinX_ok fb hrd hh k2 (fun e h' σ' m' K' ρ' w' q1 q2 q3 => hQ e h' σ' m' K' ρ' w' q1 (k1.trans q2) q3)
      · cases hh
    | pl h => exact plain _ hh
    | nil => exact plain _ hh
    | two _ _ _ => exact plain _ hh
    | tw _ _ _ => exact plain _ hh
    | sq _ _ _ _ _ => exact plain _ hh
    | sx _ _ _ _ _ => exact plain _ hh
    | lp _ _ => exact plain _ hh
    | un _ _ => exact plain _ hh
    | per _ _ _ => exact plain _ hh
    | perb _ _ _ _ => exact plain _ hh
    | mc _ _ _ _ => exact plain _ hh
    | ms _ _ => exact plain _ hh
    | wt _ _ => exact plain _ hh
    | cl _ _ _ => exact plain _ hh
    | c2 _ _ _ _ => exact plain _ hh
    | gp _ _ => exact plain _ hh
    | gj _ _ _ _ _ => exact plain _ hh
    | mix _ _ _ _ _ => exact plain _ hh
    | opn _ _ _ => exact plain _ hh
    | opb _ _ _ => exact plain _ hh
    | cls _ _ _ => exact plain _ hh
    | opp _ _ _ _ => exact plain _ hh
    | ot _ _ => exact plain _ hh
    | cm _ _ _ _ => exact plain _ hh
    | cm2 _ _ _ _ _ => exact plain _ hh
    | tr _ _ _ _ _ => exact plain _ hh
    | yl _ _ => exact plain _ hh
    | rg _ _ => exact plain _ hh
  | .loop b => fun R E fr hrd h σ k r m K ρ w Q hh hr hQ => by
    obtain ⟨h1, σ1, m1, K1, g1, g2, g3⟩ := prep_ok h (show prep h σ (fun h σ => match h with
      | .un m r => unroll (fun h σ k => exec J n b h σ k) k m r σ
      | .lp s ha => lpRun (fun h σ R k => exec J n b h σ k) s (s.sl.map (·.1) ++ writes b) ha σ k
      | _ => none) = some r from hh) hr
    have hQ' : ∀ e h' σ' m' K' ρ' w', Rel E fr σ' m' K' ρ' w' → Same σ1 σ' → k e h' σ' = some r → Q e (act1 n ρ') w' := fun e h'' σ'' m'' K'' ρ'' w'' p1 p2 p3 => hQ e h'' σ'' m'' K'' ρ'' w'' p1 (g2.trans p2) p3
    split at g1
    · exact wpIn_loop_rounds _ (unroll_ok (exec_ok hJ b) hrd hQ' _ g1 g3 Same.rfl')
    · exact lpRun_ok (exec_ok hJ b) hrd g1 g3 hQ'
    · cases g1
  | .rangeFunc g ps ao bo => fun R E fr hrd h σ k r m K ρ w Q hh hr hQ => by
    obtain ⟨h1, σ1, m1, K1, g1, g2, g3⟩ := prep_ok h (show prep h σ (fun h σ => rgRun J n g ps ao bo h σ k) = some r from hh) hr
    exact rgRun_ok hJ hrd g1 g3 (fun e h'' σ'' m'' K'' ρ'' w'' p1 p2 p3 => hQ e h'' σ'' m'' K'' ρ'' w'' p1 (g2.trans p2) p3)
  | .goto l => fun R E fr hrd h σ k r m K ρ w Q hh hr hQ => by cases hh
  | .refuse s => fun R E fr hrd h σ k r m K ρ w Q hh hr hQ => by cases hh
theorem execN_ok : ∀ d : Nat, JOk (execN (P := P) d)
  | 0 => fun n c R E fr hrd h σ k r m K ρ w Q hh hr hQ => by cases hh
  | d + 1 => fun n c => exec_ok (execN_ok d) c
end
end Go.Proofs.YticfjbmafkjmaaaDoor
namespace Go.Proofs.YticfjbmafkjmaaaDoor
open Go.RowKit
set_option linter.unusedVariables false
set_option linter.unusedSimpArgs false
set_option linter.unnecessarySimpa false
set_option linter.unusedSectionVars false
variable [BldA]
/-! ### The end of a function. -/
def resS (P : Program) (n : Nat) (σ : Zt) : List ResultVar → Option (List SV)
  | [] => some []
  | .tmp t :: r => (match resS P n σ r with | some vs => some (σ.ev n (.tmp t) :: vs) | none => none)
  | .cell a ty :: r => (match σ.ev n (.tmp a) with
    | .ptr i o => (match findR (HA.blkR i) (σ.H ++ σ.Hf) with
      | some q => (match ldv P ty q.cs o, resS P n σ r with | some v, some vs => some (v :: vs) | _, _ => none)
      | none => none)
    | _ => none)
def resV : List SV → SV
  | [v] => v
  | vs => .tup vs
def finO (σ : Zt) (rs : List SV) (o : Sh) : Option (TL o.ts) := bif (match rs, o.sl with | [], [] => true | _ :: _, [p] => Nat.beq p.1 0 | _, _ => false) then (match o.get (fun _ => resV rs) σ.H with | some g => TL.of o.ts g.ds | none => none) else none
def finD {P : Program} (σ : Zt) (rs : List SV) : (os : List Sh) → Hn P → Option (OutT os)
  | [a], _ => finO σ rs a
  | [a, b], h => (match h with | .pl _ => (finO σ rs b).map Sum.inr | _ => (finO σ rs a).map Sum.inl)
  | _, _ => none
def finF {P : Program} (n : Nat) (fn : Func) (os : List Sh) (h : Hn P) (σ : Zt) : Option (OutT os) := prep h σ fun h σ => match resS P n σ fn.results.toList with | some rs => finD σ rs os h | none => none
def fin {P : Program} (n : Nat) (fn : Func) (os : List Sh) (e : Exit) (h : Hn P) (σ : Zt) : Option (OutT os) := match e with
  | .normal => finF n fn os h σ
  | .ret => finF n fn os h σ
  | _ => none
/-- What a function computes, out of its code. -/
noncomputable def runF {P : Program} (n : Nat) (fn : Func) (c : Code) (inn : Sh) (os : List Sh) (h : Hn P) (x : TL inn.ts) : Option (OutT os) := match inn.un (TL.list inn.ts x) 0 with
  | some (vs, u) => prep h ⟨fun _ => .any, vs, u.H, [], u.nx, false⟩ fun h σ => exec (execN 4) n c h σ (fin n fn os)
  | none => none
section
variable {P : Program} {E : En} {n : Nat} {m : List M} {K : Hp} {fr : Frz} {σ : Zt} {ρ : Sl1} {w : World}
theorem resS_ok (hr : Rel E fr σ m K ρ w) : ∀ {l : List ResultVar} {rs : List SV}, resS P n σ l = some rs → ∃ us : List Value, SV.relL m K rs us ∧ l.length = us.length ∧ ∀ (j : Nat) (r : ResultVar) (v : Value), l[j]? = some r → us[j]? = some v → RvOk P n (Hold E K (σ.atoms fr m)) ρ r v
  | [], rs, h => by cases h; exact ⟨[], rfl, rfl, fun j r v h => by simp at h⟩
  | .tmp t :: l, rs, h => by
    unfold resS at h
    split at h
    · rename_i vs hvs
      cases h
      obtain ⟨us, h1, h2, h3⟩ := resS_ok hr hvs
      refine ⟨ev n ρ (.tmp t) :: us, ⟨_, us, rfl, hr.toPur.ev n (.tmp t), h1⟩, by simp [h2], fun j r v hj hv => ?_⟩
      cases j with
      | zero => simp at hj hv; subst hj hv; rfl
      | succ j => exact h3 j r v (by simpa using hj) (by simpa using hv)
    · cases h
  | .cell a ty :: l, rs, h => by
    unfold resS at h
    split at h
    · rename_i i o e
      split at h
      · rename_i q hq
        split at h
        · rename_i v vs hv hvs
          cases h
          obtain ⟨us, h1, h2, h3⟩ := resS_ok hr hvs
          obtain ⟨x, hx, hmem⟩ := findR_spec hq
          obtain rfl := blkR_eq hx
          obtain ⟨b, ws, g1, g2, g3⟩ := hr.cls.blk hmem
          obtain ⟨u, g4, g5⟩ := ldv_ok (P := P) (o0 := 0) hv g2 (fun j u hu => by rw [Nat.zero_add]; exact g3 j u hu)
          rw [Nat.zero_add] at g4
          have hev := hr.toPur.ev n (.tmp a)
          rw [e] at hev
          obtain ⟨b', q1, q2⟩ := hev
          rw [g1] at q1; cases q1
          refine ⟨u :: us, ⟨_, us, rfl, g5, h1⟩, by simp [h2], fun j r v hj hv => ?_⟩
          cases j with
          | zero => simp at hj hv; subst hj hv; exact ⟨b, o, q2, g4⟩
          | succ j => exact h3 j r v (by simpa using hj) (by simpa using hv)
        · cases h
      · cases h
    · cases h
theorem mapM_run {C : World → Prop} {w : World} (hw : C w) : ∀ {l : List ResultVar} {us : List Value}, l.length = us.length → (∀ (j : Nat) (r : ResultVar) (v : Value), l[j]? = some r → us[j]? = some v → RvOk P n C ρ r v) → (l.mapM (rvS (frm n ρ))).run P w = .ok us w
  | [], us, h, _ => by
    obtain rfl : us = [] := List.length_eq_zero_iff.1 h.symm
    simp
  | r :: l, us, h, hr => by
    cases us with
    | nil => cases h
    | cons u us =>
      have h1 := rv_run (hr 0 r u rfl rfl) hw
      have h2 := mapM_run hw (l := l) (us := us) (by simpa using h) (fun j r v hj hv => hr (j + 1) r v (by simpa using hj) (by simpa using hv))
      simp [List.mapM_cons, h1, h2]
/-- What a function hands back. -/
def tupV : List Value → Value
  | [v] => v
  | vs => .tuple vs.toArray
theorem res_run {C : World → Prop} {w : World} (hw : C w) {fn : Func} {us : List Value} (hl : fn.results.toList.length = us.length) (h : ∀ (j : Nat) (r : ResultVar) (v : Value), fn.results.toList[j]? = some r → us[j]? = some v → RvOk P n C ρ r v) : (results fn (frm n ρ)).run P w = .ok (tupV us) w := by
  have h1 := mapM_run hw hl h
  rw [results_rvS]
  simp only [Array.mapM_eq_mapM_toList]
  simp only [Sem.run_bind, Sem.run_map, h1, Result.andThen_ok, Sem.run_pure]
  match us with
  | [] => rfl
  | [u] => rfl
  | u :: v :: r =>
    rw [dif_neg (by simp)]
    rfl
theorem resV_rel {rs : List SV} {us : List Value} (h : SV.relL m K rs us) (hne : rs ≠ []) : SV.rel m K (resV rs) (tupV us) := by
  match rs, us, h with
  | [], _, _ => exact absurd rfl hne
  | [v], us, h =>
    obtain ⟨u, q, rfl, h1, h2⟩ := relL_cons h
    obtain rfl := relL_nil h2
    exact h1
  | v :: v2 :: r, us, h =>
    obtain ⟨u, q, rfl, h1, h2⟩ := relL_cons h
    obtain ⟨u2, q2, rfl, h3, h4⟩ := relL_cons h2
    exact ⟨_, rfl, u, _, rfl, h1, u2, q2, rfl, h3, h4⟩
theorem finO_ok {rs : List SV} {us : List Value} {o : Sh} {x : TL o.ts} {K0 : Hp} {m0 : List M} (h : finO σ rs o = some x) (hr : Rel E fr σ m K ρ w) (hrel : SV.relL m K rs us) (hm : m0 <+: m) (ho : oldOk o.bl m0.length = true) (hF : σ.Hf = []) :
    ∃ vs' u' m', o.un (TL.list o.ts x) m0.length = some (vs', u') ∧ m0 <+: m' ∧ m'.length = u'.nx ∧ (∀ a ∈ u'.H, HA.ok m' K a) ∧ resR m' K vs' (tupV us) ∧ Sep E K (u'.H.map (HA.conc m') ++ fr.F) w := by
  unfold finO at h
  replace h := bift h; obtain ⟨hs, h⟩ := h
  split at h
  · rename_i g hg
    obtain ⟨vs, u, ms, e1, e2, e3, e4, e5, e6, e7, e8⟩ := Sh.get_un hg hr.okH hm ho
    rw [TL.of_list h]
    refine ⟨vs, u, m0 ++ ms, e1, pre_app _ _, e2, e4, ?_, ?_⟩
    · split at hs
      · rename_i hsl
        rw [hsl] at e3
        obtain rfl : vs = [] := e3
        obtain rfl := relL_nil hrel
        rfl
      · rename_i v r p hsl
        rw [hsl] at e3
        obtain ⟨sv, q, rfl, g1, g2⟩ := e3
        obtain rfl : q = [] := g2
        exact g1 _ (resV_rel hrel (by simp))
      · cases hs
    · have := e6 E _ w hr.toSep
      have h2 : σ.fz fr = fr.F := by unfold Zt.fz; rw [hF]; rfl
      rw [h2] at this
      have h3 : Sep E K (g.H.map (HA.conc m) ++ (u.H.map (HA.conc (m0 ++ ms)) ++ fr.F)) w := Sep.perm (perm3 _ _ _) this
      exact Sep.drops h3
  · cases h
theorem finD_ok {rs : List SV} {us : List Value} {m0 : List M} (hr : Rel E fr σ m K ρ w) (hrel : SV.relL m K rs us) (hm : m0 <+: m) (hF : σ.Hf = []) : ∀ {os : List Sh} {h0 : Hn P} {r : OutT os}, (∀ o ∈ os, oldOk o.bl m0.length = true) → finD σ rs os h0 = some r →
    ∃ vs' u' m', (outSh os r).1.un (outSh os r).2 m0.length = some (vs', u') ∧ m0 <+: m' ∧ m'.length = u'.nx ∧ (∀ a ∈ u'.H, HA.ok m' K a) ∧ resR m' K vs' (tupV us) ∧ Sep E K (u'.H.map (HA.conc m') ++ fr.F) w
  | [], h0, r, _, h => Empty.elim r
  | [a], h0, r, ho, h => finO_ok (K0 := K) (show finO σ rs a = some r from h) hr hrel hm (ho a (by simp)) hF
  | [a, b], h0, r, ho, h => by
    have key : (finO σ rs b).map Sum.inr = some r ∨ (finO σ rs a).map Sum.inl = some r := by
      cases h0 <;> first | exact .inl h | exact .inr h
    clear h
    rcases key with h | h
    · rw [Option.map_eq_some_iff] at h
      obtain ⟨x, h, rfl⟩ := h
      exact finO_ok (K0 := K) h hr hrel hm (ho b (by simp)) hF
    · rw [Option.map_eq_some_iff] at h
      obtain ⟨x, h, rfl⟩ := h
      exact finO_ok (K0 := K) h hr hrel hm (ho a (by simp)) hF
  | a :: b :: c :: os, h0, r, _, h => by cases h
/-- Slots and arguments, one by one. -/
theorem args_look : ∀ {sl : List (Nat × Kd)} {vs : List (Nat × SV)} {us : List Value} {j N : Nat}, slN j sl N = true → vs.map (·.1) = sl.map (·.1) → slR m K vs us → ∀ i sv, look vs i = some sv → ∃ k u, i = j + k ∧ us[k]? = some u ∧ SV.rel m K sv u
  | [], vs, us, j, N, h1, h2, h3, i, sv, hl => by
    have : vs = [] := by cases vs with | nil => rfl | cons a b => cases h2
    subst this; cases hl
  | p :: sl, vs, us, j, N, h1, h2, h3, i, sv, hl => by
    cases vs with
    | nil => cases h2
    | cons q vs =>
      simp only [List.map_cons, List.cons.injEq] at h2
      simp only [slN, Bool.and_eq_true] at h1
      have hj := Nat.eq_of_beq_eq_true h1.1
      obtain ⟨u, r, rfl, g1, g2⟩ := h3
      change (bif Nat.beq q.1 i then some q.2 else look vs i) = some sv at hl
      cases hb : Nat.beq q.1 i with
      | true =>
        rw [hb] at hl; cases hl
        have := Nat.eq_of_beq_eq_true hb
        exact ⟨0, u, by rw [← this, h2.1, hj]; rfl, rfl, g1⟩
      | false =>
        rw [hb] at hl
        obtain ⟨k, u', e1, e2, e3⟩ := args_look h1.2 h2.2 g2 i sv hl
        exact ⟨k + 1, u', by omega, by simpa using e2, e3⟩
theorem unS_keys {bi : List Nat} : ∀ {sl : List (Nat × Kd)} {u u' : Un} {vs : List (Nat × SV)}, unS bi sl u = some (vs, u') → vs.map (·.1) = sl.map (·.1)
  | [], u, u', vs, h => by cases h; rfl
  | p :: sl, u, u', vs, h => by
    unfold unS at h
    split at h
    · split at h
      · rename_i h2
        cases h
        simp [unS_keys h2]
      · cases h
    · cases h
theorem un_keys {s : Sh} {ds : List Dat} {nx : Nat} {vs : List (Nat × SV)} {u : Un} (h : s.un ds nx = some (vs, u)) : vs.map (·.1) = s.sl.map (·.1) := by
  unfold Sh.un at h
  replace h := (bift h).2
  split at h
  split at h
  · rename_i h1
    split at h
    · cases h; exact unS_keys h1
    · cases h
  · cases h
theorem slR_len : ∀ {vs : List (Nat × SV)} {us : List Value}, slR m K vs us → us.length = vs.length
  | [], us, h => by obtain rfl : us = [] := h; rfl
  | p :: vs, us, ⟨u, r, e, _, h⟩ => by subst e; simp [slR_len h]
end
section
variable {P : Program} {E : En} {n : Nat} {m : List M} {K : Hp} {fr : Frz} {σ : Zt} {ρ : Sl1} {w : World}
theorem resS_kq {b : Bool} : ∀ l : List ResultVar, resS P n ⟨σ.base, σ.top, σ.H, σ.Hf, σ.nx, b⟩ l = resS P n σ l
  | [] => rfl
  | .tmp t :: r => by unfold resS; rw [resS_kq r]; rfl
  | .cell a ty :: r => by unfold resS; rw [resS_kq r]; rfl
theorem finD_kq {b : Bool} {rs : List SV} : ∀ {os : List Sh} {h : Hn P}, finD ⟨σ.base, σ.top, σ.H, σ.Hf, σ.nx, b⟩ rs os h = finD σ rs os h
  | [], h => rfl
  | [a], h => rfl
  | [a, b], h => by cases h <;> rfl
  | a :: b :: c :: os, h => rfl
end
section
variable {P : Program} {n : Nat}
/-- A function answers what is computed of its code. -/
theorem fn_ok {s : Spec} {fn : Func} {c : Code} (hf : P.funcs[s.f]? = some fn) (hb : fn.body = some c) (hn : fn.ntmps = n) (h : Hn P) (hc : (slN 0 s.inn.sl s.inn.sl.length && Nat.ble s.inn.sl.length n) = true) (hold : ∀ ds vs u, s.inn.un ds 0 = some (vs, u) → ∀ o ∈ s.outs, oldOk o.bl u.nx = true)
    (hex : ∀ (x : TL s.inn.ts) r, s.fn x = some r → runF n fn c s.inn s.outs h x = some r) : SpecOk P s := by
  intro x r hx vs u hu m K args hgk hm hok hsl E w F hs
  rw [Bool.and_eq_true] at hc
  obtain ⟨hc1, hc2⟩ := hc
  have hkeys := un_keys hu
  have hlen : args.toArray.size ≤ n := by
    have h1 := slR_len hsl
    have h2 : vs.length = s.inn.sl.length := by have := congrArg List.length hkeys; simpa using this
    simp only [List.size_toArray]
    have := Nat.le_of_ble_eq_true hc2
    omega
  refine callsIn_wide.1 (callsIn_of_wp_marks (F := Fence.wide) (n := 0) hf hb trivial ?_)
  rw [hn, frm_args hlen]
  have hrun := hex x r hx
  unfold runF at hrun
  rw [hu] at hrun
  simp only at hrun
  have hrel : Rel E.out0 ⟨m, K, args1 args.toArray, fun _ => false, F, K⟩ ⟨fun _ => .any, vs, u.H, [], u.nx, false⟩ m K (args1 args.toArray) w := by
    refine ⟨⟨List.prefix_refl m, Hp.le_refl K, hm, fun e => (by cases e), fun i => trivial, fun i e => rfl, fun i _ => .inr rfl, fun i sv hi => ?_, hok, fun a ha => by simp at ha, MOk.nil hgk (Hp.le_refl K)⟩, ?_⟩
    · obtain ⟨k, v, e1, e2, e3⟩ := args_look hc1 hkeys hsl i sv hi
      have : args1 args.toArray i = v := by
        show args0 args.toArray i = v
        unfold args0
        rw [e1, Nat.zero_add]
        simp [e2]
      rw [this]; exact e3
    · exact hs.out0
  obtain ⟨hp, σp, mp, Kp, p1, p2, p3⟩ := prep_ok h hrun hrel
  refine exec_ok (execN_ok 4) c (OutT s.outs) E.out0 ⟨m, K, args1 args.toArray, fun _ => false, F, K⟩ (fun l e => by cases e) hp σp (fin n fn s.outs) r mp Kp _ w _ p1 p3 (fun e h' σ' m' K' ρ' w' h1 h2 h3 => ?_)
  have fini : finF n fn s.outs h' σ' = some r → LeavesInM Fence.wide 0 P fn (act1 n ρ').tmps (fun e w' => ∃ v K' L', e = .returned v ∧ (∃ vs' u' m', (outSh s.outs r).1.un (outSh s.outs r).2 u.nx = some (vs', u') ∧ m <+: m' ∧ m'.length = u'.nx ∧ (∀ a ∈ u'.H, HA.ok m' K' a) ∧ resR m' K' vs' v ∧ L' = u'.H.map (HA.conc m')) ∧ K.le K' ∧ Sep E K' (L' ++ F) w') (act1 n ρ').defers .returning w' := fun h3 => by
    unfold finF at h3
    obtain ⟨h'', σ2, m2, K2, g1, g2, g3⟩ := prep_ok h' h3 h1
    split at g1
    · rename_i rs hrs
      refine marks_leave ρ'.ds g3.mks g3.toSep (fun K3 w3 c1 c2 c3 => ?_)
      have g4 := g3.unmark c1 c2 c2 c3
      rw [← resS_kq (b := false)] at hrs
      rw [← finD_kq (b := false)] at g1
      obtain ⟨us, q1, q2, q3⟩ := resS_ok g4 hrs
      refine ⟨tupV us, res_run (ρ := (⟨ρ'.f, []⟩ : Sl1)) g4.hold q2 q3, ?_⟩
      obtain ⟨vs', u', m'', z1, z2, z3, z4, z5, z6⟩ := finD_ok (m0 := m) g4 q1 g4.hm (((p2.trans h2).trans g2).2) (fun o ho => by rw [hm]; exact hold _ _ _ hu o ho) g1
      rw [hm] at z1
      exact ⟨_, K3, _, rfl, ⟨vs', u', m'', z1, z2, z3, z4, z5, rfl⟩, g4.hK, z6.back⟩
    · cases g1
  cases e with
  | normal => exact fini h3
  | ret => exact fini h3
  | _ => cases h3
end
end Go.Proofs.YticfjbmafkjmaaaDoor
namespace Go.Proofs.YticfjbmafkjmaaaDoor
open Go.RowKit
set_option linter.unusedVariables false
set_option linter.unusedSimpArgs false
set_option linter.unnecessarySimpa false
set_option linter.unusedSectionVars false
variable [BldA]
mutual
theorem un_nx {bi : List Nat} : ∀ (k : Kd) {u u' : Un} {v : SV}, Kd.un bi k u = some (v, u') → u.nx ≤ u'.nx
  | .any, u, u', v, h => by cases h; exact Nat.le_refl _
  | .dat t, u, u', v, h => by unfold Kd.un at h; split at h <;> cases h; exact Nat.le_refl _
  | .nilp, u, u', v, h => by cases h; exact Nat.le_refl _
  | .nils, u, u', v, h => by cases h; exact Nat.le_refl _
  | .nilf, u, u', v, h => by cases h; exact Nat.le_refl _
  | .ptr j o, u, u', v, h => by unfold Kd.un at h; split at h <;> cases h; exact Nat.le_refl _
  | .own e t, u, u', v, h => by unfold Kd.un at h; split at h <;> cases h; exact Nat.le_add_right _ _
  | .al j, u, u', v, h => by unfold Kd.un at h; split at h <;> cases h; exact Nat.le_refl _
  | .fsl j m, u, u', v, h => by unfold Kd.un at h; split at h <;> cases h; exact Nat.le_refl _
  | .agg ks, u, u', v, h => by
    unfold Kd.un at h; split at h
    · cases h; exact unL_nx ks (by assumption)
    · cases h
  | .tup ks, u, u', v, h => by
    unfold Kd.un at h; split at h
    · cases h; exact unL_nx ks (by assumption)
    · cases h
  | .fn f ks, u, u', v, h => by
    unfold Kd.un at h; split at h
    · cases h; exact unL_nx ks (by assumption)
    · cases h
  | .lit w, u, u', v, h => by cases h; exact Nat.le_refl _
  | .od o, u, u', v, h => by
    unfold Kd.un at h
    replace h := (bift h).2
    split at h
    · split at h
      · cases h; exact Nat.le_add_right _ _
      · cases h
    · cases h
  | .rp j, u, u', v, h => by unfold Kd.un at h; split at h <;> cases h; exact Nat.le_refl _
  | .is j k, u, u', v, h => by
    unfold Kd.un at h; split at h
    · split at h
      · cases h; exact un_nx k (by assumption)
      · cases h
    · cases h
theorem unL_nx {bi : List Nat} : ∀ (ks : List Kd) {u u' : Un} {vs : List SV}, Kd.unL bi ks u = some (vs, u') → u.nx ≤ u'.nx
  | [], u, u', vs, h => by cases h; exact Nat.le_refl _
  | k :: ks, u, u', vs, h => by
    unfold Kd.unL at h; split at h
    · rename_i h1
      split at h
      · rename_i h2; cases h; exact Nat.le_trans (un_nx k h1) (unL_nx ks h2)
      · cases h
    · cases h
end
theorem unS_nx {bi : List Nat} : ∀ (sl : List (Nat × Kd)) {u u' : Un} {vs : List (Nat × SV)}, unS bi sl u = some (vs, u') → u.nx ≤ u'.nx
  | [], u, u', vs, h => by cases h; exact Nat.le_refl _
  | p :: sl, u, u', vs, h => by
    unfold unS at h; split at h
    · rename_i h1
      split at h
      · rename_i h2; cases h; exact Nat.le_trans (un_nx p.2 h1) (unS_nx sl h2)
      · cases h
    · cases h
theorem unB_nx {bi : List Nat} : ∀ (bl : List Bk) (is : List Nat) {u u' : Un}, unB bi bl is u = some u' → u.nx ≤ u'.nx
  | [], [], u, u', h => by cases h; exact Nat.le_refl _
  | [], i :: is, u, u', h => by cases h
  | b :: bl, [], u, u', h => by cases h
  | b :: bl, i :: is, u, u', h => by
    unfold unB at h; split at h
    · rename_i u1 h1
      refine Nat.le_trans ?_ (unB_nx bl is h)
      unfold unB1 at h1
      cases hn : b.nu with
      | true => rw [hn] at h1; cases h1; exact Nat.le_refl _
      | false =>
        rw [hn] at h1; simp only [cond_false] at h1
        cases hlp : b.lp with
        | true => rw [hlp] at h1; simp only [cond_true] at h1; cases h1; exact Nat.le_refl _
        | false =>
        rw [hlp] at h1; simp only [cond_false] at h1
        cases hr : b.rw with
        | some o =>
          rw [hr] at h1
          dsimp only at h1
          split at h1
          · split at h1
            · cases h1; exact Nat.le_succ _
            · cases h1
          · cases h1
        | none =>
        rw [hr] at h1
        dsimp only at h1
        cases hb : b.bu with
        | true =>
          rw [hb] at h1; simp only [cond_true] at h1
          split at h1 <;> cases h1
          exact Nat.le_refl _
        | false =>
          rw [hb] at h1; simp only [cond_false] at h1
          split at h1
          · rename_i h2
            cases h1
            exact Nat.le_trans (unL_nx b.ks h2) (Nat.le_succ _)
          · cases h1
    · cases h
theorem idsB_nx : ∀ (bl : List Bk) (nx : Nat), allOld bl = true → (idsB bl nx).2 = nx + bl.length
  | [], nx, _ => rfl
  | b :: bl, nx, h => by
    simp only [allOld, Bool.and_eq_true] at h
    cases hb : b.old with
    | some i => rw [hb] at h; cases h.1
    | none =>
      simp only [idsB, hb, List.length_cons]
      rw [idsB_nx bl (nx + 1) h.2]
      omega
theorem sh_nx {s : Sh} {ds : List Dat} {vs : List (Nat × SV)} {u : Un} (h : s.un ds 0 = some (vs, u)) (ho : allOld s.bl = true) : s.bl.length ≤ u.nx := by
  unfold Sh.un at h
  replace h := (bift h).2
  have hn := idsB_nx s.bl 0 ho
  split at h
  rename_i bi nx he
  rw [he] at hn
  simp only [Nat.zero_add] at hn
  split at h
  · rename_i h1
    split at h
    · rename_i h2
      cases h
      have := unS_nx s.sl h1
      have := unB_nx s.bl bi h2
      simp only at *
      omega
    · cases h
  · cases h
theorem oldOk_le : ∀ (bl : List Bk) {a b : Nat}, oldOk bl a = true → a ≤ b → oldOk bl b = true
  | [], a, b, h, hab => rfl
  | x :: bl, a, b, h, hab => by
    simp only [oldOk, Bool.and_eq_true] at h ⊢
    refine ⟨?_, oldOk_le bl h.2 hab⟩
    cases ho : x.old with
    | none => rfl
    | some i =>
      have h1 := h.1
      rw [ho] at h1
      simp only [Nat.blt_eq] at h1 ⊢
      omega
def bodyOf (fn : Func) : Code := match fn.body with | some c => c | none => .skip
/-- What is asked of a specification beforehand. -/
def specOk (s : Spec) (fn : Func) : Bool := fn.body.isSome && (slN 0 s.inn.sl s.inn.sl.length && Nat.ble s.inn.sl.length fn.ntmps) && (allOld s.inn.bl && s.outs.all fun o => oldOk o.bl s.inn.bl.length)
/-- A function answers what is computed of its code. -/
theorem fn_is {P : Program} {s : Spec} {fn : Func} (hf : P.funcs[s.f]? = some fn) (h : Hn P) (hc : specOk s fn = true) (hex : (fun x => runF fn.ntmps fn (bodyOf fn) s.inn s.outs h x) = s.fn) : SpecOk P s := by
  unfold specOk at hc
  simp only [Bool.and_eq_true] at hc
  obtain ⟨⟨h1, h2, h2'⟩, h3, h4⟩ := hc
  have hb : fn.body = some (bodyOf fn) := by
    unfold bodyOf
    cases hbd : fn.body with
    | none => rw [hbd] at h1; cases h1
    | some c => rfl
  refine fn_ok hf hb rfl h (by rw [h2, h2']; rfl) (fun ds vs u hu o ho => oldOk_le o.bl (List.all_eq_true.1 h4 o ho) (sh_nx hu h3)) (fun x r hx => ?_)
  rw [← hx]
  exact congrFun hex x
end Go.Proofs.YticfjbmafkjmaaaDoor
namespace Go.Proofs.YticfjbmafkjmaaaDoor
open Go.RowKit
set_option linter.unusedVariables false
set_option linter.unusedSimpArgs false
set_option linter.unnecessarySimpa false
set_option linter.unusedSectionVars false
/-- What answers true for all that is known of its arguments does so for the caller. -/
theorem walkX [BldA] {P : Program} {s : Spec} {W : World} (hs : SpecOk P s) {x : TL s.inn.ts} {r : OutT s.outs} (hr : s.fn x = some r) (hgk : BldA.gk (Hp.of W)) {vs : List (Nat × SV)} (hun : s.inn.un (TL.list _ x) 0 = some (vs, ⟨[], 0, [], []⟩))
    (hout : (outSh s.outs r).1.un (outSh s.outs r).2 0 = some ([(0, .bool true)], ⟨[], 0, [], []⟩)) {args : List Value} (hsl : slR [] (Hp.of W) vs args) :
    Calls P s.f args.toArray W fun e W' => e = .returned (.bool true) ∧ Below W.heap.size W W' := by
  have h := hs x r hr vs _ hun [] (Hp.of W) args hgk rfl (fun a ha => by cases ha) hsl (En.of W) W [] (Sep.start W)
  refine h.mono fun e W' h => ?_
  obtain ⟨v, K', L', rfl, ⟨vs', u', m', h1, _, _, _, h2, _⟩, h3, h4⟩ := h
  have h1 := h1.symm.trans hout
  cases h1
  obtain rfl : v = .bool true := h2
  exact ⟨rfl, h4.below h3⟩
end Go.Proofs.YticfjbmafkjmaaaDoor
namespace Go.Proofs
open Go.Shelf
def Tryd.lays29_ren : Go.Shelf.Ren := ⟨fun | 29 => 33 | n => n, fun | 22 => 59 | 3 => 3 | 4 => 4 | 25 => 61 | 54 => 62 | 0 => 0 | 5 => 5 | n => n, fun | 1 => 0 | n => n⟩
theorem Tryd.lays29 : Go.Proofs.Lays7.n29 Tryd.prog Tryd.lays29_ren := {
  mixed := by kernel_rfl
  f29 := Tryd.func33.trans (congrArg some (by kernel_rfl))
  t0 := Tryd.underlying0
  a0 := Tryd.isAgg0
  z0 := Tryd.sizeOf0
  v0 := Tryd.zeroValue0
  i0 := by kernel_rfl
  t3 := Tryd.underlying3
  a3 := Tryd.isAgg3
  z3 := Tryd.sizeOf3
  v3 := Tryd.zeroValue3
  i3 := by kernel_rfl
  t4 := Tryd.underlying4
  a4 := Tryd.isAgg4
  z4 := Tryd.sizeOf4
  v4 := Tryd.zeroValue4
  i4 := by kernel_rfl
  t5 := Tryd.underlying5
  a5 := Tryd.isAgg5
  z5 := Tryd.sizeOf5
  v5 := Tryd.zeroValue5
  i5 := by kernel_rfl
  t22 := Tryd.underlying59
  a22 := Tryd.isAgg59
  z22 := Tryd.sizeOf59
  v22 := Tryd.zeroValue59
  i22 := by kernel_rfl
  t25 := Tryd.underlying61
  a25 := Tryd.isAgg61
  z25 := Tryd.sizeOf61
  v25 := Tryd.zeroValue61
  i25 := by kernel_rfl
  t54 := Tryd.underlying62
  a54 := Tryd.isAgg62
  z54 := Tryd.sizeOf62
  g1 := by kernel_rfl }
end Go.Proofs
namespace Go.Proofs.YticfjbmafkjmaaaDoor
open Go.RowKit
set_option linter.unusedVariables false
set_option linter.unnecessarySimpa false
set_option linter.unusedSectionVars false
set_option linter.unusedSimpArgs false
def tzF (x : Int) : Option Int := if 0 ≤ x ∧ x < 18446744073709551616 then some ((Lib.ctz 64 x.toNat : Nat) : Int) else none
/-- The library's table lies there. -/
def tzGk (K : Hp) : Prop := ∀ j, j < 64 → cellK K 0 j = some (.int .u8 ((Lib.deBruijn64tab.getD j 0 : Nat) : Int))
theorem tzGk.mono {K K' : Hp} (h : K.cle K') (g : tzGk K) : tzGk K' := fun j hj => h _ _ _ (g j hj)
def sp_TZ : Spec := ⟨33, ⟨[(0, .dat (.int .u64))], []⟩, [⟨[(0, .dat (.int .i64))], []⟩], tzF⟩
theorem TZ_is [BldA] (hg : ∀ K, BldA.gk K → tzGk K) : SpecOk Tryd.prog sp_TZ := by
  intro x r hr vs u hu m K args hgk hm hH hsl E w F hs
  have hu' : sp_TZ.inn.un (TL.list _ x) 0 = some ([(0, .int .u64 x)], ⟨[], 0, [], []⟩) := rfl
  rw [hu'] at hu
  cases hu
  obtain ⟨v, q, rfl, h1, rfl⟩ := hsl
  obtain rfl : v = .int .u64 x := h1
  replace hr : tzF x = some r := hr
  unfold tzF at hr
  split at hr
  · rename_i hx
    cases hr
    have hxe : ((x.toNat : Nat) : Int) = x := Int.toNat_of_nonneg hx.1
    have hc := Any7.bits_TrailingZeros64 Tryd.lays29 x.toNat (by omega) w (fun _ j hj => cellK_world hs.sub (hg K hgk j hj))
    rw [hxe] at hc
    refine Calls.mono (show Calls Tryd.prog 33 #[.int .u64 x] w _ from hc) ?_
    rintro e w' ⟨rfl, rfl⟩
    exact ⟨_, K, [], rfl, ⟨[(0, .int .i64 _)], ⟨[], 0, [], []⟩, m, rfl, List.prefix_rfl, hm, fun a h => (by cases h), rfl, rfl⟩, Hp.le_refl K, hs⟩
  · cases hr
end Go.Proofs.YticfjbmafkjmaaaDoor
namespace Go.Proofs.YticfjbmafkjmaaaDoor
open Go.RowKit
set_option linter.unusedVariables false
set_option maxRecDepth 100000
set_option maxHeartbeats 4000000
instance nob : BldA := ⟨1000000000, fun b _ => Cl b 1000000000 [.pointer none, .slice none 0 0], fun h => h, tzGk, tzGk.mono⟩
noncomputable def ok_TZ : OkSpec Tryd.prog := ⟨sp_TZ, TZ_is (fun _ h => h), Tryd.call33⟩

noncomputable def fn_dense_New (xa : Int) : Option ((Int ⊕ (Int × (List Int)))) :=
  cond (decide (xa < 0)) (some (.inl 2)) (cond (decide (1048576 < xa)) (some (.inl 5)) ((mk (IntKind.wrap .i64 (Int.tdiv (IntKind.wrap .i64 ((IntKind.wrap .i64 (xa + 64)) - 1)) 64)) (IntKind.wrap .i64 (Int.tdiv (IntKind.wrap .i64 ((IntKind.wrap .i64 (xa + 64)) - 1)) 64)) 0 : Option (List Int)).bind fun z19 => some (.inr (0, z19))))
noncomputable def h_dense_New : Hn Tryd.prog := .tw 5 (.nil) (.tw 7 (.nil) (.pl (.pl (.nil))))
noncomputable def sp_dense_New : Spec := ⟨7, ⟨[(0, .is 0 (.dat (.int .i64)))], [⟨none, 0, [], false, true, none, false⟩]⟩, [⟨[(0, .tup [.nilp, .dat (.int .i64)])], []⟩, ⟨[(0, .tup [.ptr 0 0, .dat (.int .i64)])], [⟨none, 53, [.is 1 (.any), .own 59 (.int .u64)], false, false, none, false⟩, ⟨(some 0), 0, [], false, true, none, false⟩]⟩], fun x => fn_dense_New x⟩
theorem dense_New_is : SpecOk Tryd.prog sp_dense_New := fn_is Tryd.func7 h_dense_New (by kernel_rfl) (by kernel_rfl)
noncomputable def ok_dense_New : OkSpec Tryd.prog := ⟨sp_dense_New, dense_New_is, Tryd.call7⟩

noncomputable def fn_dense_New_c5  : Option ((Int ⊕ (Int × (List Int)))) :=
  cond (decide (5 < 0)) (some (.inl 2)) (cond (decide (1048576 < 5)) (some (.inl 5)) ((mk (IntKind.wrap .i64 (Int.tdiv (IntKind.wrap .i64 ((IntKind.wrap .i64 (5 + 64)) - 1)) 64)) (IntKind.wrap .i64 (Int.tdiv (IntKind.wrap .i64 ((IntKind.wrap .i64 (5 + 64)) - 1)) 64)) 0 : Option (List Int)).bind fun z19 => some (.inr (0, z19))))
noncomputable def h_dense_New_c5 : Hn Tryd.prog := .tw 5 (.nil) (.tw 7 (.nil) (.pl (.pl (.nil))))
noncomputable def sp_dense_New_c5 : Spec := ⟨7, ⟨[(0, .lit (.int .i64 5))], []⟩, [⟨[(0, .tup [.nilp, .dat (.int .i64)])], []⟩, ⟨[(0, .tup [.ptr 0 0, .dat (.int .i64)])], [⟨none, 53, [.lit (.int .i64 5), .own 59 (.int .u64)], false, false, none, false⟩]⟩], fun x => fn_dense_New_c5⟩
theorem dense_New_c5_is : SpecOk Tryd.prog sp_dense_New_c5 := fn_is Tryd.func7 h_dense_New_c5 (by kernel_rfl) (by kernel_rfl)
noncomputable def ok_dense_New_c5 : OkSpec Tryd.prog := ⟨sp_dense_New_c5, dense_New_c5_is, Tryd.call7⟩

noncomputable def fn_dense_Set_Size (xa : (Option (Int × (List Int)))) : Option Int :=
  cond (xa.isNone) (some (0)) ((xa : Option (Int × (List Int))).bind fun y11 => some (y11.1))
noncomputable def h_dense_Set_Size : Hn Tryd.prog := .tw 4 (.nil) (.nil)
noncomputable def sp_dense_Set_Size : Spec := ⟨22, ⟨[(0, .dat (.ptr (.cons (.int .i64) (.one (.sl (.int .u64))))))], []⟩, [⟨[(0, .dat (.int .i64))], []⟩], fun x => fn_dense_Set_Size x⟩
theorem dense_Set_Size_is : SpecOk Tryd.prog sp_dense_Set_Size := fn_is Tryd.func22 h_dense_Set_Size (by kernel_rfl) (by kernel_rfl)
noncomputable def ok_dense_Set_Size : OkSpec Tryd.prog := ⟨sp_dense_Set_Size, dense_Set_Size_is, Tryd.call22⟩

noncomputable def fn_dense_Set_mayHave (xa : (Option (Int × (List Int)))) (xb : Int) : Option Bool :=
  (cond (decide (0 ≤ xb)) ((fn_dense_Set_Size xa).bind fun i28 => some (decide (xb < i28))) (some (false))).bind fun t24 => some (t24)
noncomputable def h_dense_Set_mayHave : Hn Tryd.prog := .gj 4 ⟨[(12, .dat .bool)], []⟩ [] (.two 7 (.cl ok_dense_Set_Size [] (.nil)) (.nil)) (.nil)
noncomputable def sp_dense_Set_mayHave : Spec := ⟨30, ⟨[(0, .dat (.ptr (.cons (.int .i64) (.one (.sl (.int .u64)))))), (1, .dat (.int .i64))], []⟩, [⟨[(0, .dat .bool)], []⟩], fun x => fn_dense_Set_mayHave x.1 x.2⟩
theorem dense_Set_mayHave_is : SpecOk Tryd.prog sp_dense_Set_mayHave := fn_is Tryd.func30 h_dense_Set_mayHave (by kernel_rfl) (by kernel_rfl)
noncomputable def ok_dense_Set_mayHave : OkSpec Tryd.prog := ⟨sp_dense_Set_mayHave, dense_Set_mayHave_is, Tryd.call30⟩

noncomputable def fn_dense_Set_Has (xa : (Option (Int × (List Int)))) (xb : Int) : Option Bool :=
  (fn_dense_Set_mayHave xa xb).bind fun t200 => cond (t200) ((xa : Option (Int × (List Int))).bind fun y205 => (getI y205.2 (IntKind.wrap .i64 (Int.tdiv xb 64))).bind fun x215 => (ge0 (Int.tmod xb 64)).bind fun u224 => some (!decide ((IntKind.wrap .u64 ((BitVec.ofInt (IntKind.bits .u64) x215 &&& BitVec.ofInt (IntKind.bits .u64) (IntKind.wrap .u64 (1 * 2 ^ (min (Int.toNat (Int.tmod xb 64)) (IntKind.bits .u64))))).toNat : Int)) = 0))) (some (false))
noncomputable def h_dense_Set_Has : Hn Tryd.prog := .mix [([0, 1], 2)] [3, 4, 5, 6, 7, 8, 9, 10, 11, 12, 13, 14, 15, 16, 17, 18] [] [] (.cl ok_dense_Set_mayHave [] (.two 8 (.nil) (.nil)))
noncomputable def sp_dense_Set_Has : Spec := ⟨21, ⟨[(0, .dat (.ptr (.cons (.int .i64) (.one (.sl (.int .u64)))))), (1, .dat (.int .i64))], []⟩, [⟨[(0, .dat .bool)], []⟩], fun x => fn_dense_Set_Has x.1 x.2⟩
theorem dense_Set_Has_is : SpecOk Tryd.prog sp_dense_Set_Has := fn_is Tryd.func21 h_dense_Set_Has (by kernel_rfl) (by kernel_rfl)
noncomputable def ok_dense_Set_Has : OkSpec Tryd.prog := ⟨sp_dense_Set_Has, dense_Set_Has_is, Tryd.call21⟩

noncomputable def fn_dense_Set_Add_zi (xb : Int) : Option Bool :=
  (fn_dense_Set_mayHave ((none : (Option (Int × (List Int))))) xb).bind fun t26 => (cond (!t26) (some (true)) ((fn_dense_Set_Has ((none : (Option (Int × (List Int))))) xb).bind fun t41 => some (t41))).bind fun t37 => cond (t37) (some (false)) (none)
noncomputable def h_dense_Set_Add_zi : Hn Tryd.prog := .cl ok_dense_Set_mayHave [] (.gj 3 ⟨[(13, .dat .bool)], []⟩ [] (.two 9 (.nil) (.cl ok_dense_Set_Has [] (.nil))) (.tw 13 (.nil) (.mix [] [0, 1, 2, 3, 4, 5, 6, 7, 8, 9, 10, 11, 12] [13] [] (.nil))))
noncomputable def sp_dense_Set_Add_zi : Spec := ⟨15, ⟨[(0, .nilp), (1, .dat (.int .i64))], []⟩, [⟨[(0, .dat .bool)], []⟩], fun x => fn_dense_Set_Add_zi x⟩
theorem dense_Set_Add_zi_is : SpecOk Tryd.prog sp_dense_Set_Add_zi := fn_is Tryd.func15 h_dense_Set_Add_zi (by kernel_rfl) (by kernel_rfl)
noncomputable def ok_dense_Set_Add_zi : OkSpec Tryd.prog := ⟨sp_dense_Set_Add_zi, dense_Set_Add_zi_is, Tryd.call15⟩

noncomputable def fn_dense_Set_Del_zi (xb : Int) : Option Bool :=
  (fn_dense_Set_Has ((none : (Option (Int × (List Int))))) xb).bind fun t11 => cond (!t11) (some (false)) (none)
noncomputable def h_dense_Set_Del_zi : Hn Tryd.prog := .cl ok_dense_Set_Has [] (.tw 8 (.nil) (.mix [] [0, 1, 2, 3, 4, 5, 6, 7, 8, 9, 10, 11, 12] [13] [] (.nil)))
noncomputable def sp_dense_Set_Del_zi : Spec := ⟨19, ⟨[(0, .nilp), (1, .dat (.int .i64))], []⟩, [⟨[(0, .dat .bool)], []⟩], fun x => fn_dense_Set_Del_zi x⟩
theorem dense_Set_Del_zi_is : SpecOk Tryd.prog sp_dense_Set_Del_zi := fn_is Tryd.func19 h_dense_Set_Del_zi (by kernel_rfl) (by kernel_rfl)
noncomputable def ok_dense_Set_Del_zi : OkSpec Tryd.prog := ⟨sp_dense_Set_Del_zi, dense_Set_Del_zi_is, Tryd.call19⟩

noncomputable def fn_dense_Set_Or_zz  : Option Bool :=
  some (false)
noncomputable def h_dense_Set_Or_zz : Hn Tryd.prog := .mix [] [0, 1, 2, 3, 4, 5, 6, 7, 8, 9, 10, 11, 12, 13, 14, 15, 16] [] [] (.nil)
noncomputable def sp_dense_Set_Or_zz : Spec := ⟨17, ⟨[(0, .nilp), (1, .nilp)], []⟩, [⟨[(0, .dat .bool)], []⟩], fun x => fn_dense_Set_Or_zz⟩
theorem dense_Set_Or_zz_is : SpecOk Tryd.prog sp_dense_Set_Or_zz := fn_is Tryd.func17 h_dense_Set_Or_zz (by kernel_rfl) (by kernel_rfl)
noncomputable def ok_dense_Set_Or_zz : OkSpec Tryd.prog := ⟨sp_dense_Set_Or_zz, dense_Set_Or_zz_is, Tryd.call17⟩

noncomputable def fn_math_bits_OnesCount64 (xa : Int) : Option Int :=
  some (IntKind.wrap .i64 ((BitVec.ofInt (IntKind.bits .i64) (IntKind.wrap .i64 (IntKind.wrap .u64 ((IntKind.wrap .u64 ((IntKind.wrap .u64 ((IntKind.wrap .u64 ((BitVec.ofInt (IntKind.bits .u64) (IntKind.wrap .u64 ((Int.fdiv (IntKind.wrap .u64 ((IntKind.wrap .u64 ((BitVec.ofInt (IntKind.bits .u64) (Int.fdiv (IntKind.wrap .u64 ((IntKind.wrap .u64 ((BitVec.ofInt (IntKind.bits .u64) (Int.fdiv xa (2 ^ (min (Int.toNat 1) (IntKind.bits .u64)))) &&& BitVec.ofInt (IntKind.bits .u64) 6148914691236517205).toNat : Int)) + (IntKind.wrap .u64 ((BitVec.ofInt (IntKind.bits .u64) xa &&& BitVec.ofInt (IntKind.bits .u64) 6148914691236517205).toNat : Int)))) (2 ^ (min (Int.toNat 2) (IntKind.bits .u64)))) &&& BitVec.ofInt (IntKind.bits .u64) 3689348814741910323).toNat : Int)) + (IntKind.wrap .u64 ((BitVec.ofInt (IntKind.bits .u64) (IntKind.wrap .u64 ((IntKind.wrap .u64 ((BitVec.ofInt (IntKind.bits .u64) (Int.fdiv xa (2 ^ (min (Int.toNat 1) (IntKind.bits .u64)))) &&& BitVec.ofInt (IntKind.bits .u64) 6148914691236517205).toNat : Int)) + (IntKind.wrap .u64 ((BitVec.ofInt (IntKind.bits .u64) xa &&& BitVec.ofInt (IntKind.bits .u64) 6148914691236517205).toNat : Int)))) &&& BitVec.ofInt (IntKind.bits .u64) 3689348814741910323).toNat : Int)))) (2 ^ (min (Int.toNat 4) (IntKind.bits .u64)))) + (IntKind.wrap .u64 ((IntKind.wrap .u64 ((BitVec.ofInt (IntKind.bits .u64) (Int.fdiv (IntKind.wrap .u64 ((IntKind.wrap .u64 ((BitVec.ofInt (IntKind.bits .u64) (Int.fdiv xa (2 ^ (min (Int.toNat 1) (IntKind.bits .u64)))) &&& BitVec.ofInt (IntKind.bits .u64) 6148914691236517205).toNat : Int)) + (IntKind.wrap .u64 ((BitVec.ofInt (IntKind.bits .u64) xa &&& BitVec.ofInt (IntKind.bits .u64) 6148914691236517205).toNat : Int)))) (2 ^ (min (Int.toNat 2) (IntKind.bits .u64)))) &&& BitVec.ofInt (IntKind.bits .u64) 3689348814741910323).toNat : Int)) + (IntKind.wrap .u64 ((BitVec.ofInt (IntKind.bits .u64) (IntKind.wrap .u64 ((IntKind.wrap .u64 ((BitVec.ofInt (IntKind.bits .u64) (Int.fdiv xa (2 ^ (min (Int.toNat 1) (IntKind.bits .u64)))) &&& BitVec.ofInt (IntKind.bits .u64) 6148914691236517205).toNat : Int)) + (IntKind.wrap .u64 ((BitVec.ofInt (IntKind.bits .u64) xa &&& BitVec.ofInt (IntKind.bits .u64) 6148914691236517205).toNat : Int)))) &&& BitVec.ofInt (IntKind.bits .u64) 3689348814741910323).toNat : Int)))))) &&& BitVec.ofInt (IntKind.bits .u64) 1085102592571150095).toNat : Int)) + (Int.fdiv (IntKind.wrap .u64 ((BitVec.ofInt (IntKind.bits .u64) (IntKind.wrap .u64 ((Int.fdiv (IntKind.wrap .u64 ((IntKind.wrap .u64 ((BitVec.ofInt (IntKind.bits .u64) (Int.fdiv (IntKind.wrap .u64 ((IntKind.wrap .u64 ((BitVec.ofInt (IntKind.bits .u64) (Int.fdiv xa (2 ^ (min (Int.toNat 1) (IntKind.bits .u64)))) &&& BitVec.ofInt (IntKind.bits .u64) 6148914691236517205).toNat : Int)) + (IntKind.wrap .u64 ((BitVec.ofInt (IntKind.bits .u64) xa &&& BitVec.ofInt (IntKind.bits .u64) 6148914691236517205).toNat : Int)))) (2 ^ (min (Int.toNat 2) (IntKind.bits .u64)))) &&& BitVec.ofInt (IntKind.bits .u64) 3689348814741910323).toNat : Int)) + (IntKind.wrap .u64 ((BitVec.ofInt (IntKind.bits .u64) (IntKind.wrap .u64 ((IntKind.wrap .u64 ((BitVec.ofInt (IntKind.bits .u64) (Int.fdiv xa (2 ^ (min (Int.toNat 1) (IntKind.bits .u64)))) &&& BitVec.ofInt (IntKind.bits .u64) 6148914691236517205).toNat : Int)) + (IntKind.wrap .u64 ((BitVec.ofInt (IntKind.bits .u64) xa &&& BitVec.ofInt (IntKind.bits .u64) 6148914691236517205).toNat : Int)))) &&& BitVec.ofInt (IntKind.bits .u64) 3689348814741910323).toNat : Int)))) (2 ^ (min (Int.toNat 4) (IntKind.bits .u64)))) + (IntKind.wrap .u64 ((IntKind.wrap .u64 ((BitVec.ofInt (IntKind.bits .u64) (Int.fdiv (IntKind.wrap .u64 ((IntKind.wrap .u64 ((BitVec.ofInt (IntKind.bits .u64) (Int.fdiv xa (2 ^ (min (Int.toNat 1) (IntKind.bits .u64)))) &&& BitVec.ofInt (IntKind.bits .u64) 6148914691236517205).toNat : Int)) + (IntKind.wrap .u64 ((BitVec.ofInt (IntKind.bits .u64) xa &&& BitVec.ofInt (IntKind.bits .u64) 6148914691236517205).toNat : Int)))) (2 ^ (min (Int.toNat 2) (IntKind.bits .u64)))) &&& BitVec.ofInt (IntKind.bits .u64) 3689348814741910323).toNat : Int)) + (IntKind.wrap .u64 ((BitVec.ofInt (IntKind.bits .u64) (IntKind.wrap .u64 ((IntKind.wrap .u64 ((BitVec.ofInt (IntKind.bits .u64) (Int.fdiv xa (2 ^ (min (Int.toNat 1) (IntKind.bits .u64)))) &&& BitVec.ofInt (IntKind.bits .u64) 6148914691236517205).toNat : Int)) + (IntKind.wrap .u64 ((BitVec.ofInt (IntKind.bits .u64) xa &&& BitVec.ofInt (IntKind.bits .u64) 6148914691236517205).toNat : Int)))) &&& BitVec.ofInt (IntKind.bits .u64) 3689348814741910323).toNat : Int)))))) &&& BitVec.ofInt (IntKind.bits .u64) 1085102592571150095).toNat : Int)) (2 ^ (min (Int.toNat 8) (IntKind.bits .u64)))))) + (Int.fdiv (IntKind.wrap .u64 ((IntKind.wrap .u64 ((BitVec.ofInt (IntKind.bits .u64) (IntKind.wrap .u64 ((Int.fdiv (IntKind.wrap .u64 ((IntKind.wrap .u64 ((BitVec.ofInt (IntKind.bits .u64) (Int.fdiv (IntKind.wrap .u64 ((IntKind.wrap .u64 ((BitVec.ofInt (IntKind.bits .u64) (Int.fdiv xa (2 ^ (min (Int.toNat 1) (IntKind.bits .u64)))) &&& BitVec.ofInt (IntKind.bits .u64) 6148914691236517205).toNat : Int)) + (IntKind.wrap .u64 ((BitVec.ofInt (IntKind.bits .u64) xa &&& BitVec.ofInt (IntKind.bits .u64) 6148914691236517205).toNat : Int)))) (2 ^ (min (Int.toNat 2) (IntKind.bits .u64)))) &&& BitVec.ofInt (IntKind.bits .u64) 3689348814741910323).toNat : Int)) + (IntKind.wrap .u64 ((BitVec.ofInt (IntKind.bits .u64) (IntKind.wrap .u64 ((IntKind.wrap .u64 ((BitVec.ofInt (IntKind.bits .u64) (Int.fdiv xa (2 ^ (min (Int.toNat 1) (IntKind.bits .u64)))) &&& BitVec.ofInt (IntKind.bits .u64) 6148914691236517205).toNat : Int)) + (IntKind.wrap .u64 ((BitVec.ofInt (IntKind.bits .u64) xa &&& BitVec.ofInt (IntKind.bits .u64) 6148914691236517205).toNat : Int)))) &&& BitVec.ofInt (IntKind.bits .u64) 3689348814741910323).toNat : Int)))) (2 ^ (min (Int.toNat 4) (IntKind.bits .u64)))) + (IntKind.wrap .u64 ((IntKind.wrap .u64 ((BitVec.ofInt (IntKind.bits .u64) (Int.fdiv (IntKind.wrap .u64 ((IntKind.wrap .u64 ((BitVec.ofInt (IntKind.bits .u64) (Int.fdiv xa (2 ^ (min (Int.toNat 1) (IntKind.bits .u64)))) &&& BitVec.ofInt (IntKind.bits .u64) 6148914691236517205).toNat : Int)) + (IntKind.wrap .u64 ((BitVec.ofInt (IntKind.bits .u64) xa &&& BitVec.ofInt (IntKind.bits .u64) 6148914691236517205).toNat : Int)))) (2 ^ (min (Int.toNat 2) (IntKind.bits .u64)))) &&& BitVec.ofInt (IntKind.bits .u64) 3689348814741910323).toNat : Int)) + (IntKind.wrap .u64 ((BitVec.ofInt (IntKind.bits .u64) (IntKind.wrap .u64 ((IntKind.wrap .u64 ((BitVec.ofInt (IntKind.bits .u64) (Int.fdiv xa (2 ^ (min (Int.toNat 1) (IntKind.bits .u64)))) &&& BitVec.ofInt (IntKind.bits .u64) 6148914691236517205).toNat : Int)) + (IntKind.wrap .u64 ((BitVec.ofInt (IntKind.bits .u64) xa &&& BitVec.ofInt (IntKind.bits .u64) 6148914691236517205).toNat : Int)))) &&& BitVec.ofInt (IntKind.bits .u64) 3689348814741910323).toNat : Int)))))) &&& BitVec.ofInt (IntKind.bits .u64) 1085102592571150095).toNat : Int)) + (Int.fdiv (IntKind.wrap .u64 ((BitVec.ofInt (IntKind.bits .u64) (IntKind.wrap .u64 ((Int.fdiv (IntKind.wrap .u64 ((IntKind.wrap .u64 ((BitVec.ofInt (IntKind.bits .u64) (Int.fdiv (IntKind.wrap .u64 ((IntKind.wrap .u64 ((BitVec.ofInt (IntKind.bits .u64) (Int.fdiv xa (2 ^ (min (Int.toNat 1) (IntKind.bits .u64)))) &&& BitVec.ofInt (IntKind.bits .u64) 6148914691236517205).toNat : Int)) + (IntKind.wrap .u64 ((BitVec.ofInt (IntKind.bits .u64) xa &&& BitVec.ofInt (IntKind.bits .u64) 6148914691236517205).toNat : Int)))) (2 ^ (min (Int.toNat 2) (IntKind.bits .u64)))) &&& BitVec.ofInt (IntKind.bits .u64) 3689348814741910323).toNat : Int)) + (IntKind.wrap .u64 ((BitVec.ofInt (IntKind.bits .u64) (IntKind.wrap .u64 ((IntKind.wrap .u64 ((BitVec.ofInt (IntKind.bits .u64) (Int.fdiv xa (2 ^ (min (Int.toNat 1) (IntKind.bits .u64)))) &&& BitVec.ofInt (IntKind.bits .u64) 6148914691236517205).toNat : Int)) + (IntKind.wrap .u64 ((BitVec.ofInt (IntKind.bits .u64) xa &&& BitVec.ofInt (IntKind.bits .u64) 6148914691236517205).toNat : Int)))) &&& BitVec.ofInt (IntKind.bits .u64) 3689348814741910323).toNat : Int)))) (2 ^ (min (Int.toNat 4) (IntKind.bits .u64)))) + (IntKind.wrap .u64 ((IntKind.wrap .u64 ((BitVec.ofInt (IntKind.bits .u64) (Int.fdiv (IntKind.wrap .u64 ((IntKind.wrap .u64 ((BitVec.ofInt (IntKind.bits .u64) (Int.fdiv xa (2 ^ (min (Int.toNat 1) (IntKind.bits .u64)))) &&& BitVec.ofInt (IntKind.bits .u64) 6148914691236517205).toNat : Int)) + (IntKind.wrap .u64 ((BitVec.ofInt (IntKind.bits .u64) xa &&& BitVec.ofInt (IntKind.bits .u64) 6148914691236517205).toNat : Int)))) (2 ^ (min (Int.toNat 2) (IntKind.bits .u64)))) &&& BitVec.ofInt (IntKind.bits .u64) 3689348814741910323).toNat : Int)) + (IntKind.wrap .u64 ((BitVec.ofInt (IntKind.bits .u64) (IntKind.wrap .u64 ((IntKind.wrap .u64 ((BitVec.ofInt (IntKind.bits .u64) (Int.fdiv xa (2 ^ (min (Int.toNat 1) (IntKind.bits .u64)))) &&& BitVec.ofInt (IntKind.bits .u64) 6148914691236517205).toNat : Int)) + (IntKind.wrap .u64 ((BitVec.ofInt (IntKind.bits .u64) xa &&& BitVec.ofInt (IntKind.bits .u64) 6148914691236517205).toNat : Int)))) &&& BitVec.ofInt (IntKind.bits .u64) 3689348814741910323).toNat : Int)))))) &&& BitVec.ofInt (IntKind.bits .u64) 1085102592571150095).toNat : Int)) (2 ^ (min (Int.toNat 8) (IntKind.bits .u64)))))) (2 ^ (min (Int.toNat 16) (IntKind.bits .u64)))))) + (Int.fdiv (IntKind.wrap .u64 ((IntKind.wrap .u64 ((IntKind.wrap .u64 ((BitVec.ofInt (IntKind.bits .u64) (IntKind.wrap .u64 ((Int.fdiv (IntKind.wrap .u64 ((IntKind.wrap .u64 ((BitVec.ofInt (IntKind.bits .u64) (Int.fdiv (IntKind.wrap .u64 ((IntKind.wrap .u64 ((BitVec.ofInt (IntKind.bits .u64) (Int.fdiv xa (2 ^ (min (Int.toNat 1) (IntKind.bits .u64)))) &&& BitVec.ofInt (IntKind.bits .u64) 6148914691236517205).toNat : Int)) + (IntKind.wrap .u64 ((BitVec.ofInt (IntKind.bits .u64) xa &&& BitVec.ofInt (IntKind.bits .u64) 6148914691236517205).toNat : Int)))) (2 ^ (min (Int.toNat 2) (IntKind.bits .u64)))) &&& BitVec.ofInt (IntKind.bits .u64) 3689348814741910323).toNat : Int)) + (IntKind.wrap .u64 ((BitVec.ofInt (IntKind.bits .u64) (IntKind.wrap .u64 ((IntKind.wrap .u64 ((BitVec.ofInt (IntKind.bits .u64) (Int.fdiv xa (2 ^ (min (Int.toNat 1) (IntKind.bits .u64)))) &&& BitVec.ofInt (IntKind.bits .u64) 6148914691236517205).toNat : Int)) + (IntKind.wrap .u64 ((BitVec.ofInt (IntKind.bits .u64) xa &&& BitVec.ofInt (IntKind.bits .u64) 6148914691236517205).toNat : Int)))) &&& BitVec.ofInt (IntKind.bits .u64) 3689348814741910323).toNat : Int)))) (2 ^ (min (Int.toNat 4) (IntKind.bits .u64)))) + (IntKind.wrap .u64 ((IntKind.wrap .u64 ((BitVec.ofInt (IntKind.bits .u64) (Int.fdiv (IntKind.wrap .u64 ((IntKind.wrap .u64 ((BitVec.ofInt (IntKind.bits .u64) (Int.fdiv xa (2 ^ (min (Int.toNat 1) (IntKind.bits .u64)))) &&& BitVec.ofInt (IntKind.bits .u64) 6148914691236517205).toNat : Int)) + (IntKind.wrap .u64 ((BitVec.ofInt (IntKind.bits .u64) xa &&& BitVec.ofInt (IntKind.bits .u64) 6148914691236517205).toNat : Int)))) (2 ^ (min (Int.toNat 2) (IntKind.bits .u64)))) &&& BitVec.ofInt (IntKind.bits .u64) 3689348814741910323).toNat : Int)) + (IntKind.wrap .u64 ((BitVec.ofInt (IntKind.bits .u64) (IntKind.wrap .u64 ((IntKind.wrap .u64 ((BitVec.ofInt (IntKind.bits .u64) (Int.fdiv xa (2 ^ (min (Int.toNat 1) (IntKind.bits .u64)))) &&& BitVec.ofInt (IntKind.bits .u64) 6148914691236517205).toNat : Int)) + (IntKind.wrap .u64 ((BitVec.ofInt (IntKind.bits .u64) xa &&& BitVec.ofInt (IntKind.bits .u64) 6148914691236517205).toNat : Int)))) &&& BitVec.ofInt (IntKind.bits .u64) 3689348814741910323).toNat : Int)))))) &&& BitVec.ofInt (IntKind.bits .u64) 1085102592571150095).toNat : Int)) + (Int.fdiv (IntKind.wrap .u64 ((BitVec.ofInt (IntKind.bits .u64) (IntKind.wrap .u64 ((Int.fdiv (IntKind.wrap .u64 ((IntKind.wrap .u64 ((BitVec.ofInt (IntKind.bits .u64) (Int.fdiv (IntKind.wrap .u64 ((IntKind.wrap .u64 ((BitVec.ofInt (IntKind.bits .u64) (Int.fdiv xa (2 ^ (min (Int.toNat 1) (IntKind.bits .u64)))) &&& BitVec.ofInt (IntKind.bits .u64) 6148914691236517205).toNat : Int)) + (IntKind.wrap .u64 ((BitVec.ofInt (IntKind.bits .u64) xa &&& BitVec.ofInt (IntKind.bits .u64) 6148914691236517205).toNat : Int)))) (2 ^ (min (Int.toNat 2) (IntKind.bits .u64)))) &&& BitVec.ofInt (IntKind.bits .u64) 3689348814741910323).toNat : Int)) + (IntKind.wrap .u64 ((BitVec.ofInt (IntKind.bits .u64) (IntKind.wrap .u64 ((IntKind.wrap .u64 ((BitVec.ofInt (IntKind.bits .u64) (Int.fdiv xa (2 ^ (min (Int.toNat 1) (IntKind.bits .u64)))) &&& BitVec.ofInt (IntKind.bits .u64) 6148914691236517205).toNat : Int)) + (IntKind.wrap .u64 ((BitVec.ofInt (IntKind.bits .u64) xa &&& BitVec.ofInt (IntKind.bits .u64) 6148914691236517205).toNat : Int)))) &&& BitVec.ofInt (IntKind.bits .u64) 3689348814741910323).toNat : Int)))) (2 ^ (min (Int.toNat 4) (IntKind.bits .u64)))) + (IntKind.wrap .u64 ((IntKind.wrap .u64 ((BitVec.ofInt (IntKind.bits .u64) (Int.fdiv (IntKind.wrap .u64 ((IntKind.wrap .u64 ((BitVec.ofInt (IntKind.bits .u64) (Int.fdiv xa (2 ^ (min (Int.toNat 1) (IntKind.bits .u64)))) &&& BitVec.ofInt (IntKind.bits .u64) 6148914691236517205).toNat : Int)) + (IntKind.wrap .u64 ((BitVec.ofInt (IntKind.bits .u64) xa &&& BitVec.ofInt (IntKind.bits .u64) 6148914691236517205).toNat : Int)))) (2 ^ (min (Int.toNat 2) (IntKind.bits .u64)))) &&& BitVec.ofInt (IntKind.bits .u64) 3689348814741910323).toNat : Int)) + (IntKind.wrap .u64 ((BitVec.ofInt (IntKind.bits .u64) (IntKind.wrap .u64 ((IntKind.wrap .u64 ((BitVec.ofInt (IntKind.bits .u64) (Int.fdiv xa (2 ^ (min (Int.toNat 1) (IntKind.bits .u64)))) &&& BitVec.ofInt (IntKind.bits .u64) 6148914691236517205).toNat : Int)) + (IntKind.wrap .u64 ((BitVec.ofInt (IntKind.bits .u64) xa &&& BitVec.ofInt (IntKind.bits .u64) 6148914691236517205).toNat : Int)))) &&& BitVec.ofInt (IntKind.bits .u64) 3689348814741910323).toNat : Int)))))) &&& BitVec.ofInt (IntKind.bits .u64) 1085102592571150095).toNat : Int)) (2 ^ (min (Int.toNat 8) (IntKind.bits .u64)))))) + (Int.fdiv (IntKind.wrap .u64 ((IntKind.wrap .u64 ((BitVec.ofInt (IntKind.bits .u64) (IntKind.wrap .u64 ((Int.fdiv (IntKind.wrap .u64 ((IntKind.wrap .u64 ((BitVec.ofInt (IntKind.bits .u64) (Int.fdiv (IntKind.wrap .u64 ((IntKind.wrap .u64 ((BitVec.ofInt (IntKind.bits .u64) (Int.fdiv xa (2 ^ (min (Int.toNat 1) (IntKind.bits .u64)))) &&& BitVec.ofInt (IntKind.bits .u64) 6148914691236517205).toNat : Int)) + (IntKind.wrap .u64 ((BitVec.ofInt (IntKind.bits .u64) xa &&& BitVec.ofInt (IntKind.bits .u64) 6148914691236517205).toNat : Int)))) (2 ^ (min (Int.toNat 2) (IntKind.bits .u64)))) &&& BitVec.ofInt (IntKind.bits .u64) 3689348814741910323).toNat : Int)) + (IntKind.wrap .u64 ((BitVec.ofInt (IntKind.bits .u64) (IntKind.wrap .u64 ((IntKind.wrap .u64 ((BitVec.ofInt (IntKind.bits .u64) (Int.fdiv xa (2 ^ (min (Int.toNat 1) (IntKind.bits .u64)))) &&& BitVec.ofInt (IntKind.bits .u64) 6148914691236517205).toNat : Int)) + (IntKind.wrap .u64 ((BitVec.ofInt (IntKind.bits .u64) xa &&& BitVec.ofInt (IntKind.bits .u64) 6148914691236517205).toNat : Int)))) &&& BitVec.ofInt (IntKind.bits .u64) 3689348814741910323).toNat : Int)))) (2 ^ (min (Int.toNat 4) (IntKind.bits .u64)))) + (IntKind.wrap .u64 ((IntKind.wrap .u64 ((BitVec.ofInt (IntKind.bits .u64) (Int.fdiv (IntKind.wrap .u64 ((IntKind.wrap .u64 ((BitVec.ofInt (IntKind.bits .u64) (Int.fdiv xa (2 ^ (min (Int.toNat 1) (IntKind.bits .u64)))) &&& BitVec.ofInt (IntKind.bits .u64) 6148914691236517205).toNat : Int)) + (IntKind.wrap .u64 ((BitVec.ofInt (IntKind.bits .u64) xa &&& BitVec.ofInt (IntKind.bits .u64) 6148914691236517205).toNat : Int)))) (2 ^ (min (Int.toNat 2) (IntKind.bits .u64)))) &&& BitVec.ofInt (IntKind.bits .u64) 3689348814741910323).toNat : Int)) + (IntKind.wrap .u64 ((BitVec.ofInt (IntKind.bits .u64) (IntKind.wrap .u64 ((IntKind.wrap .u64 ((BitVec.ofInt (IntKind.bits .u64) (Int.fdiv xa (2 ^ (min (Int.toNat 1) (IntKind.bits .u64)))) &&& BitVec.ofInt (IntKind.bits .u64) 6148914691236517205).toNat : Int)) + (IntKind.wrap .u64 ((BitVec.ofInt (IntKind.bits .u64) xa &&& BitVec.ofInt (IntKind.bits .u64) 6148914691236517205).toNat : Int)))) &&& BitVec.ofInt (IntKind.bits .u64) 3689348814741910323).toNat : Int)))))) &&& BitVec.ofInt (IntKind.bits .u64) 1085102592571150095).toNat : Int)) + (Int.fdiv (IntKind.wrap .u64 ((BitVec.ofInt (IntKind.bits .u64) (IntKind.wrap .u64 ((Int.fdiv (IntKind.wrap .u64 ((IntKind.wrap .u64 ((BitVec.ofInt (IntKind.bits .u64) (Int.fdiv (IntKind.wrap .u64 ((IntKind.wrap .u64 ((BitVec.ofInt (IntKind.bits .u64) (Int.fdiv xa (2 ^ (min (Int.toNat 1) (IntKind.bits .u64)))) &&& BitVec.ofInt (IntKind.bits .u64) 6148914691236517205).toNat : Int)) + (IntKind.wrap .u64 ((BitVec.ofInt (IntKind.bits .u64) xa &&& BitVec.ofInt (IntKind.bits .u64) 6148914691236517205).toNat : Int)))) (2 ^ (min (Int.toNat 2) (IntKind.bits .u64)))) &&& BitVec.ofInt (IntKind.bits .u64) 3689348814741910323).toNat : Int)) + (IntKind.wrap .u64 ((BitVec.ofInt (IntKind.bits .u64) (IntKind.wrap .u64 ((IntKind.wrap .u64 ((BitVec.ofInt (IntKind.bits .u64) (Int.fdiv xa (2 ^ (min (Int.toNat 1) (IntKind.bits .u64)))) &&& BitVec.ofInt (IntKind.bits .u64) 6148914691236517205).toNat : Int)) + (IntKind.wrap .u64 ((BitVec.ofInt (IntKind.bits .u64) xa &&& BitVec.ofInt (IntKind.bits .u64) 6148914691236517205).toNat : Int)))) &&& BitVec.ofInt (IntKind.bits .u64) 3689348814741910323).toNat : Int)))) (2 ^ (min (Int.toNat 4) (IntKind.bits .u64)))) + (IntKind.wrap .u64 ((IntKind.wrap .u64 ((BitVec.ofInt (IntKind.bits .u64) (Int.fdiv (IntKind.wrap .u64 ((IntKind.wrap .u64 ((BitVec.ofInt (IntKind.bits .u64) (Int.fdiv xa (2 ^ (min (Int.toNat 1) (IntKind.bits .u64)))) &&& BitVec.ofInt (IntKind.bits .u64) 6148914691236517205).toNat : Int)) + (IntKind.wrap .u64 ((BitVec.ofInt (IntKind.bits .u64) xa &&& BitVec.ofInt (IntKind.bits .u64) 6148914691236517205).toNat : Int)))) (2 ^ (min (Int.toNat 2) (IntKind.bits .u64)))) &&& BitVec.ofInt (IntKind.bits .u64) 3689348814741910323).toNat : Int)) + (IntKind.wrap .u64 ((BitVec.ofInt (IntKind.bits .u64) (IntKind.wrap .u64 ((IntKind.wrap .u64 ((BitVec.ofInt (IntKind.bits .u64) (Int.fdiv xa (2 ^ (min (Int.toNat 1) (IntKind.bits .u64)))) &&& BitVec.ofInt (IntKind.bits .u64) 6148914691236517205).toNat : Int)) + (IntKind.wrap .u64 ((BitVec.ofInt (IntKind.bits .u64) xa &&& BitVec.ofInt (IntKind.bits .u64) 6148914691236517205).toNat : Int)))) &&& BitVec.ofInt (IntKind.bits .u64) 3689348814741910323).toNat : Int)))))) &&& BitVec.ofInt (IntKind.bits .u64) 1085102592571150095).toNat : Int)) (2 ^ (min (Int.toNat 8) (IntKind.bits .u64)))))) (2 ^ (min (Int.toNat 16) (IntKind.bits .u64)))))) (2 ^ (min (Int.toNat 32) (IntKind.bits .u64))))))) &&& BitVec.ofInt (IntKind.bits .i64) 127).toNat : Int))
noncomputable def h_math_bits_OnesCount64 : Hn Tryd.prog := .nil
noncomputable def sp_math_bits_OnesCount64 : Spec := ⟨31, ⟨[(0, .dat (.int .u64))], []⟩, [⟨[(0, .dat (.int .i64))], []⟩], fun x => fn_math_bits_OnesCount64 x⟩
theorem math_bits_OnesCount64_is : SpecOk Tryd.prog sp_math_bits_OnesCount64 := fn_is Tryd.func31 h_math_bits_OnesCount64 (by kernel_rfl) (by kernel_rfl)
noncomputable def ok_math_bits_OnesCount64 : OkSpec Tryd.prog := ⟨sp_math_bits_OnesCount64, math_bits_OnesCount64_is, Tryd.call31⟩
noncomputable def fn_dense_Set_Count_l1 (y125 : (Int × (List Int))) : (Int × Int) → Option ((Int × Int) ⊕ Int) := fun ((i209, i210) : (Int × Int)) => cond (decide (i210 < (((y125.2.length : Nat) : Int)))) ((getI y125.2 i210).bind fun x231 => (fn_math_bits_OnesCount64 x231).bind fun i242 => some (.inl ((IntKind.wrap .i64 (i209 + i242), IntKind.wrap .i64 (i210 + 1))))) (some (.inr (i209)))
noncomputable def fn_dense_Set_Count (xa : (Option (Int × (List Int)))) : Option Int :=
  cond (xa.isNone) (some (0)) ((xa : Option (Int × (List Int))).bind fun y125 => (loop (fn_dense_Set_Count_l1 y125) (0, 0) : Option Int).bind fun i190 => some (i190))
noncomputable def h_dense_Set_Count : Hn Tryd.prog := .tw 7 (.nil) (.jn [] ⟨[(3, .dat (.int .i64))], []⟩ [] (.lp ⟨[(3, .dat (.int .i64)), (13, .dat (.int .i64))], []⟩ (.tw 14 (.cl ok_math_bits_OnesCount64 [] (.nil)) (.nil))) (.nil))
noncomputable def sp_dense_Set_Count : Spec := ⟨18, ⟨[(0, .dat (.ptr (.cons (.int .i64) (.one (.sl (.int .u64))))))], []⟩, [⟨[(0, .dat (.int .i64))], []⟩], fun x => fn_dense_Set_Count x⟩
theorem dense_Set_Count_is : SpecOk Tryd.prog sp_dense_Set_Count := fn_is Tryd.func18 h_dense_Set_Count (by kernel_rfl) (by kernel_rfl)
noncomputable def ok_dense_Set_Count : OkSpec Tryd.prog := ⟨sp_dense_Set_Count, dense_Set_Count_is, Tryd.call18⟩
noncomputable def fn_dense_Set_Next_l1 (y175 : (Int × (List Int))) : (Int × Int) → Option ((Int × Int) ⊕ ((Int × Int) ⊕ Int)) := fun ((i285, i286) : (Int × Int)) => cond (decide (i286 = 0)) (cond (decide ((IntKind.wrap .i64 (i285 + 1)) = (((y175.2.length : Nat) : Int)))) (some (.inr ((.inr ((-1)))))) ((getI y175.2 (IntKind.wrap .i64 (i285 + 1))).bind fun x319 => some (.inl ((IntKind.wrap .i64 (i285 + 1), x319))))) (some (.inr ((.inl (i285, i286)))))
noncomputable def fn_dense_Set_Next (xa : (Option (Int × (List Int)))) (xb : Int) : Option Int :=
  (fn_dense_Set_mayHave xa (if xb < 0 then 0 else xb)).bind fun t170 => cond (!t170) (some ((-1))) ((xa : Option (Int × (List Int))).bind fun y175 => (getI y175.2 (IntKind.wrap .i64 (Int.tdiv (if xb < 0 then 0 else xb) 64))).bind fun x185 => (ge0 (Int.tmod (if xb < 0 then 0 else xb) 64)).bind fun u194 => (ge0 (Int.tmod (if xb < 0 then 0 else xb) 64)).bind fun u196 => (loop (fn_dense_Set_Next_l1 y175) ((IntKind.wrap .i64 (Int.tdiv (if xb < 0 then 0 else xb) 64), IntKind.wrap .u64 ((Int.fdiv x185 (2 ^ (min (Int.toNat (Int.tmod (if xb < 0 then 0 else xb) 64)) (IntKind.bits .u64)))) * 2 ^ (min (Int.toNat (Int.tmod (if xb < 0 then 0 else xb) 64)) (IntKind.bits .u64))))) : Option ((Int × Int) ⊕ Int)).bind fun o => match o with | .inr r => some r | .inl (i262, i263) => (tzF i263).bind fun i330 => some (IntKind.wrap .i64 ((IntKind.wrap .i64 (i262 * 64)) + i330)))
noncomputable def h_dense_Set_Next : Hn Tryd.prog := .ms 0 (.cl ok_dense_Set_mayHave [] (.tw 12 (.nil) (.jx [] ⟨[(5, .dat (.int .i64)), (6, .dat (.int .u64))], []⟩ [] (.lp ⟨[(5, .dat (.int .i64)), (6, .dat (.int .u64))], []⟩ (.tw 29 (.tw 38 (.nil) (.nil)) (.nil))) (.cl ok_TZ [] (.nil)))))
noncomputable def sp_dense_Set_Next : Spec := ⟨23, ⟨[(0, .dat (.ptr (.cons (.int .i64) (.one (.sl (.int .u64)))))), (1, .dat (.int .i64))], []⟩, [⟨[(0, .dat (.int .i64))], []⟩], fun x => fn_dense_Set_Next x.1 x.2⟩
theorem dense_Set_Next_is : SpecOk Tryd.prog sp_dense_Set_Next := fn_is Tryd.func23 h_dense_Set_Next (by kernel_rfl) (by kernel_rfl)
noncomputable def ok_dense_Set_Next : OkSpec Tryd.prog := ⟨sp_dense_Set_Next, dense_Set_Next_is, Tryd.call23⟩

noncomputable def fn_dense_Set_All_z  : Option Unit :=
  some (())
noncomputable def h_dense_Set_All_z : Hn Tryd.prog := .nil
noncomputable def sp_dense_Set_All_z : Spec := ⟨20, ⟨[(0, .nilp)], []⟩, [⟨[(0, .fn 32 [.ptr 0 0])], [⟨none, 24, [.nilp], false, false, none, false⟩]⟩], fun x => fn_dense_Set_All_z⟩
theorem dense_Set_All_z_is : SpecOk Tryd.prog sp_dense_Set_All_z := fn_is Tryd.func20 h_dense_Set_All_z (by kernel_rfl) (by kernel_rfl)
noncomputable def ok_dense_Set_All_z : OkSpec Tryd.prog := ⟨sp_dense_Set_All_z, dense_Set_All_z_is, Tryd.call20⟩
noncomputable def fn_dense_Set_List_z_l1  : (Int × (List Int)) → Option ((Int × (List Int)) ⊕ (List Int)) := fun ((i278, l279) : (Int × (List Int))) => cond (decide (0 ≤ i278)) ((app l279 ([i278] : List Int)).bind fun z312 => (fn_dense_Set_Next ((none : (Option (Int × (List Int))))) (IntKind.wrap .i64 (i278 + 1))).bind fun i320 => some (.inl (i320, z312))) (some (.inr (l279)))
noncomputable def fn_dense_Set_List_z  : Option (List Int) :=
  (fn_dense_Set_All_z).bind fun _ => (fn_dense_Set_Next ((none : (Option (Int × (List Int))))) 0).bind fun i175 => (loop (fn_dense_Set_List_z_l1) (i175, []) : Option (List Int)).bind fun l249 => some (l249)
noncomputable def h_dense_Set_List_z : Hn Tryd.prog := .cl ok_dense_Set_All_z [] (.rg ⟨32, _, Tryd.func32, Tryd.call32⟩ (.cl ok_dense_Set_Next [] (.jn [] ⟨[], [⟨(some 0), 28, [.own 3 (.int .i64)], false, false, none, false⟩, ⟨(some 4), 0, [], false, false, none, true⟩]⟩ [4, 0] (.lp ⟨[(3, .dat (.int .i64))], [⟨(some 0), 28, [.own 3 (.int .i64)], false, false, none, false⟩, ⟨(some 4), 0, [], false, false, none, true⟩]⟩ (.tw 7 (.yl 2 (.cl ok_dense_Set_Next [] (.nil))) (.nil))) (.nil))))
noncomputable def sp_dense_Set_List_z : Spec := ⟨24, ⟨[(0, .nilp)], []⟩, [⟨[(0, .own 3 (.int .i64))], []⟩], fun x => fn_dense_Set_List_z⟩
theorem dense_Set_List_z_is : SpecOk Tryd.prog sp_dense_Set_List_z := fn_is Tryd.func24 h_dense_Set_List_z (by kernel_rfl) (by kernel_rfl)
noncomputable def ok_dense_Set_List_z : OkSpec Tryd.prog := ⟨sp_dense_Set_List_z, dense_Set_List_z_is, Tryd.call24⟩

noncomputable def fn_dense_Set_Clone_z  : Option Unit :=
  some (())
noncomputable def h_dense_Set_Clone_z : Hn Tryd.prog := .nil
noncomputable def sp_dense_Set_Clone_z : Spec := ⟨16, ⟨[(0, .nilp)], []⟩, [⟨[(0, .nilp)], []⟩], fun x => fn_dense_Set_Clone_z⟩
theorem dense_Set_Clone_z_is : SpecOk Tryd.prog sp_dense_Set_Clone_z := fn_is Tryd.func16 h_dense_Set_Clone_z (by kernel_rfl) (by kernel_rfl)
noncomputable def ok_dense_Set_Clone_z : OkSpec Tryd.prog := ⟨sp_dense_Set_Clone_z, dense_Set_Clone_z_is, Tryd.call16⟩

noncomputable def fn_dense_Set_All (xa : (Option (Int × (List Int)))) : Option Unit :=
  some (())
noncomputable def h_dense_Set_All : Hn Tryd.prog := .nil
noncomputable def sp_dense_Set_All : Spec := ⟨20, ⟨[(0, .is 0 (.dat (.ptr (.cons (.int .i64) (.one (.sl (.int .u64)))))))], [⟨none, 0, [], false, true, none, false⟩]⟩, [⟨[(0, .fn 32 [.ptr 0 0])], [⟨none, 24, [.is 1 (.any)], false, false, none, false⟩, ⟨(some 0), 0, [], false, true, none, false⟩]⟩], fun x => fn_dense_Set_All x⟩
theorem dense_Set_All_is : SpecOk Tryd.prog sp_dense_Set_All := fn_is Tryd.func20 h_dense_Set_All (by kernel_rfl) (by kernel_rfl)
noncomputable def ok_dense_Set_All : OkSpec Tryd.prog := ⟨sp_dense_Set_All, dense_Set_All_is, Tryd.call20⟩
noncomputable def fn_dense_Within_l1 (xa : (Option (Int × (List Int)))) (xb : (Option (Int × (List Int)))) : Int → Option (Int ⊕ (Unit ⊕ Bool)) := fun (i185 : Int) => cond (decide (0 ≤ i185)) ((fn_dense_Set_Has xb i185).bind fun t205 => cond (!t205) (some (.inr ((.inr (false))))) ((fn_dense_Set_Next xa (IntKind.wrap .i64 (i185 + 1))).bind fun i212 => some (.inl i212))) (some (.inr ((.inl ()))))
noncomputable def fn_dense_Within (xa : (Option (Int × (List Int)))) (xb : (Option (Int × (List Int)))) : Option Bool :=
  (fn_dense_Set_All xa).bind fun _ => (fn_dense_Set_Next xa 0).bind fun i120 => (loop (fn_dense_Within_l1 xa xb) i120 : Option (Unit ⊕ Bool)).bind fun o => match o with | .inr r => some r | .inl () => some (true)
noncomputable def h_dense_Within : Hn Tryd.prog := .ms 6 (.cl ok_dense_Set_All [] (.rg ⟨32, _, Tryd.func32, Tryd.call32⟩ (.cl ok_dense_Set_Next [] (.jx [] ⟨[], [⟨(some 2), 4, [.lit (.bool false)], false, false, none, false⟩, ⟨(some 7), 0, [], false, false, none, true⟩]⟩ [7, 2] (.lp ⟨[(3, .dat (.int .i64))], [⟨(some 2), 4, [.lit (.bool false)], false, false, none, false⟩, ⟨(some 7), 0, [], false, false, none, true⟩]⟩ (.tw 7 (.yl 2 (.cl ok_dense_Set_Has [] (.tw 12 (.nil) (.cl ok_dense_Set_Next [] (.nil))))) (.nil))) (.nil)))))
noncomputable def sp_dense_Within : Spec := ⟨11, ⟨[(0, .dat (.ptr (.cons (.int .i64) (.one (.sl (.int .u64)))))), (1, .dat (.ptr (.cons (.int .i64) (.one (.sl (.int .u64))))))], []⟩, [⟨[(0, .dat .bool)], []⟩], fun x => fn_dense_Within x.1 x.2⟩
theorem dense_Within_is : SpecOk Tryd.prog sp_dense_Within := fn_is Tryd.func11 h_dense_Within (by kernel_rfl) (by kernel_rfl)
noncomputable def ok_dense_Within : OkSpec Tryd.prog := ⟨sp_dense_Within, dense_Within_is, Tryd.call11⟩

noncomputable def fn_dense_Same (xa : (Option (Int × (List Int)))) (xb : (Option (Int × (List Int)))) : Option Bool :=
  cond (xa.isNone || xb.isNone) (some (xa.isNone && xb.isNone)) ((xa : Option (Int × (List Int))).bind fun y158 => (xb : Option (Int × (List Int))).bind fun y164 => cond (decide (y158.1 = y164.1)) ((fn_dense_Within xa xb).bind fun t173 => cond (t173) ((fn_dense_Within xb xa).bind fun t180 => some (t180)) (some (false))) (some (false)))
noncomputable def h_dense_Same : Hn Tryd.prog := .gp 2 (.tw 10 (.gp 2 (.nil)) (.mix [([0, 1, 2, 3, 4, 5, 6, 7, 8, 9, 10, 11], 12)] [13, 14, 15, 16] [17, 18, 19] [] (.two 26 (.cl ok_dense_Within [] (.two 31 (.cl ok_dense_Within [] (.nil)) (.nil))) (.nil))))
noncomputable def sp_dense_Same : Spec := ⟨13, ⟨[(0, .dat (.ptr (.cons (.int .i64) (.one (.sl (.int .u64)))))), (1, .dat (.ptr (.cons (.int .i64) (.one (.sl (.int .u64))))))], []⟩, [⟨[(0, .dat .bool)], []⟩], fun x => fn_dense_Same x.1 x.2⟩
theorem dense_Same_is : SpecOk Tryd.prog sp_dense_Same := fn_is Tryd.func13 h_dense_Same (by kernel_rfl) (by kernel_rfl)
noncomputable def ok_dense_Same : OkSpec Tryd.prog := ⟨sp_dense_Same, dense_Same_is, Tryd.call13⟩

noncomputable def fn_dense_New_c70  : Option ((Int ⊕ (Int × (List Int)))) :=
  cond (decide (70 < 0)) (some (.inl 2)) (cond (decide (1048576 < 70)) (some (.inl 5)) ((mk (IntKind.wrap .i64 (Int.tdiv (IntKind.wrap .i64 ((IntKind.wrap .i64 (70 + 64)) - 1)) 64)) (IntKind.wrap .i64 (Int.tdiv (IntKind.wrap .i64 ((IntKind.wrap .i64 (70 + 64)) - 1)) 64)) 0 : Option (List Int)).bind fun z19 => some (.inr (0, z19))))
noncomputable def h_dense_New_c70 : Hn Tryd.prog := .tw 5 (.nil) (.tw 7 (.nil) (.pl (.pl (.nil))))
noncomputable def sp_dense_New_c70 : Spec := ⟨7, ⟨[(0, .lit (.int .i64 70))], []⟩, [⟨[(0, .tup [.nilp, .dat (.int .i64)])], []⟩, ⟨[(0, .tup [.ptr 0 0, .dat (.int .i64)])], [⟨none, 53, [.lit (.int .i64 70), .own 59 (.int .u64)], false, false, none, false⟩]⟩], fun x => fn_dense_New_c70⟩
theorem dense_New_c70_is : SpecOk Tryd.prog sp_dense_New_c70 := fn_is Tryd.func7 h_dense_New_c70 (by kernel_rfl) (by kernel_rfl)
noncomputable def ok_dense_New_c70 : OkSpec Tryd.prog := ⟨sp_dense_New_c70, dense_New_c70_is, Tryd.call7⟩

noncomputable def fn_dense_Set_Add_p0i_ir (xb : Int) (qa0 : Int) (qa1 : (List Int)) : Option ((Bool × (List Int))) :=
  (fn_dense_Set_mayHave (some (qa0, qa1)) xb).bind fun t100 => (cond (!t100) (some (true)) ((fn_dense_Set_Has (some (qa0, qa1)) xb).bind fun t115 => some (t115))).bind fun t111 => cond (t111) (some ((false, qa1))) ((getI qa1 (IntKind.wrap .i64 (Int.tdiv xb 64))).bind fun x168 => (ge0 (Int.tmod xb 64)).bind fun u175 => (getI qa1 (IntKind.wrap .i64 (Int.tdiv xb 64))).bind fun x177 => (some (qa1.set (IntKind.wrap .i64 (Int.tdiv xb 64)).toNat (IntKind.wrap .u64 ((BitVec.ofInt (IntKind.bits .u64) x168 ||| BitVec.ofInt (IntKind.bits .u64) (IntKind.wrap .u64 (1 * 2 ^ (min (Int.toNat (Int.tmod xb 64)) (IntKind.bits .u64))))).toNat : Int)))).bind fun z184 => some ((true, z184)))
noncomputable def h_dense_Set_Add_p0i_ir : Hn Tryd.prog := .cl ok_dense_Set_mayHave [2, 0] (.gj 3 ⟨[(13, .dat .bool)], []⟩ [] (.two 9 (.nil) (.cl ok_dense_Set_Has [2, 0] (.nil))) (.tw 13 (.nil) (.mix [] [0, 1, 2, 3, 4, 5, 6, 7, 8, 9, 10, 11, 12] [13] [] (.nil))))
noncomputable def sp_dense_Set_Add_p0i_ir : Spec := ⟨15, ⟨[(0, .ptr 0 0), (1, .dat (.int .i64))], [⟨none, 53, [.is 1 (.dat (.int .i64)), .own 59 (.int .u64)], false, false, none, false⟩, ⟨none, 0, [], false, true, none, false⟩]⟩, [⟨[(0, .dat .bool)], [⟨(some 0), 53, [.is 1 (.any), .own 59 (.int .u64)], false, false, none, false⟩, ⟨(some 1), 0, [], false, true, none, false⟩]⟩], fun x => fn_dense_Set_Add_p0i_ir x.1 x.2.1 x.2.2⟩
theorem dense_Set_Add_p0i_ir_is : SpecOk Tryd.prog sp_dense_Set_Add_p0i_ir := fn_is Tryd.func15 h_dense_Set_Add_p0i_ir (by kernel_rfl) (by kernel_rfl)
noncomputable def ok_dense_Set_Add_p0i_ir : OkSpec Tryd.prog := ⟨sp_dense_Set_Add_p0i_ir, dense_Set_Add_p0i_ir_is, Tryd.call15⟩

noncomputable def fn_law03_awake  : Option Bool :=
  (fn_dense_New_c70).bind fun o => match o with | .inl i146 => (fn_dense_Set_Add_zi 3).bind fun t152 => (fn_dense_Set_Add_zi 69).bind fun t158 => (fn_dense_Set_Add_zi 70).bind fun t164 => (cond ((((decide (i146 = 0)) && t152) && t158) && (!t164)) ((fn_dense_Set_Next ((none : (Option (Int × (List Int))))) 4).bind fun i185 => some (decide (i185 = 69))) (some (false))).bind fun t181 => (cond (t181) ((fn_dense_Set_Count ((none : (Option (Int × (List Int)))))).bind fun i200 => some (decide (i200 = 2))) (some (false))).bind fun t196 => some (t196) | .inr (i204, l205) => (fn_dense_Set_Add_p0i_ir 3 70 l205).bind fun (t216, l217) => (fn_dense_Set_Add_p0i_ir 69 70 l217).bind fun (t228, l229) => (fn_dense_Set_Add_p0i_ir 70 70 l229).bind fun (t240, l241) => (cond ((((decide (i204 = 0)) && t216) && t228) && (!t240)) ((fn_dense_Set_Next (some (70, l241)) 4).bind fun i267 => some (decide (i267 = 69))) (some (false))).bind fun t263 => (cond (t263) ((fn_dense_Set_Count (some (70, l241))).bind fun i282 => some (decide (i282 = 2))) (some (false))).bind fun t278 => some (t278)
noncomputable def h_law03_awake : Hn Tryd.prog := .c2 ok_dense_New_c70 [] (.cl ok_dense_Set_Add_zi [] (.cl ok_dense_Set_Add_zi [] (.cl ok_dense_Set_Add_zi [] (.gp 1 (.gp 1 (.gp 2 (.gj 3 ⟨[(32, .dat .bool)], []⟩ [] (.two 28 (.cl ok_dense_Set_Next [] (.nil)) (.nil)) (.gj 3 ⟨[(37, .dat .bool)], []⟩ [] (.two 33 (.cl ok_dense_Set_Count [] (.nil)) (.nil)) (.nil))))))))) (.mc 0 0 3 (.cl ok_dense_Set_Add_p0i_ir [] (.cl ok_dense_Set_Add_p0i_ir [] (.cl ok_dense_Set_Add_p0i_ir [] (.gp 1 (.gp 1 (.gp 2 (.gj 3 ⟨[(32, .dat .bool)], []⟩ [] (.two 28 (.cl ok_dense_Set_Next [20, 0] (.nil)) (.nil)) (.gj 3 ⟨[(37, .dat .bool)], []⟩ [] (.two 33 (.cl ok_dense_Set_Count [20, 0] (.nil)) (.nil)) (.nil))))))))))
noncomputable def sp_law03_awake : Spec := ⟨6, ⟨[], []⟩, [⟨[(0, .dat .bool)], []⟩], fun x => fn_law03_awake⟩
theorem law03_awake_is : SpecOk Tryd.prog sp_law03_awake := fn_is Tryd.func6 h_law03_awake (by kernel_rfl) (by kernel_rfl)
noncomputable def ok_law03_awake : OkSpec Tryd.prog := ⟨sp_law03_awake, law03_awake_is, Tryd.call6⟩

noncomputable def fn_dense_Set_Or_zp0_ir (qa0 : Int) (qa1 : (List Int)) : Option ((Bool × (List Int))) :=
  some ((false, qa1))
noncomputable def h_dense_Set_Or_zp0_ir : Hn Tryd.prog := .mix [] [0, 1, 2, 3, 4, 5, 6, 7, 8, 9, 10, 11, 12, 13, 14, 15, 16] [] [] (.nil)
noncomputable def sp_dense_Set_Or_zp0_ir : Spec := ⟨17, ⟨[(0, .nilp), (1, .ptr 0 0)], [⟨none, 53, [.is 1 (.dat (.int .i64)), .own 59 (.int .u64)], false, false, none, false⟩, ⟨none, 0, [], false, true, none, false⟩]⟩, [⟨[(0, .dat .bool)], [⟨(some 0), 53, [.is 1 (.any), .own 59 (.int .u64)], false, false, none, false⟩, ⟨(some 1), 0, [], false, true, none, false⟩]⟩], fun x => fn_dense_Set_Or_zp0_ir x.1 x.2⟩
theorem dense_Set_Or_zp0_ir_is : SpecOk Tryd.prog sp_dense_Set_Or_zp0_ir := fn_is Tryd.func17 h_dense_Set_Or_zp0_ir (by kernel_rfl) (by kernel_rfl)
noncomputable def ok_dense_Set_Or_zp0_ir : OkSpec Tryd.prog := ⟨sp_dense_Set_Or_zp0_ir, dense_Set_Or_zp0_ir_is, Tryd.call17⟩

noncomputable def fn_dense_Set_Or_p0z_ir (qa0 : Int) (qa1 : (List Int)) : Option ((Bool × (List Int))) :=
  some ((false, qa1))
noncomputable def h_dense_Set_Or_p0z_ir : Hn Tryd.prog := .mix [] [0, 1, 2, 3, 4, 5, 6, 7, 8, 9, 10, 11, 12, 13, 14, 15, 16] [] [] (.nil)
noncomputable def sp_dense_Set_Or_p0z_ir : Spec := ⟨17, ⟨[(0, .ptr 0 0), (1, .nilp)], [⟨none, 53, [.is 1 (.dat (.int .i64)), .own 59 (.int .u64)], false, false, none, false⟩, ⟨none, 0, [], false, true, none, false⟩]⟩, [⟨[(0, .dat .bool)], [⟨(some 0), 53, [.is 1 (.any), .own 59 (.int .u64)], false, false, none, false⟩, ⟨(some 1), 0, [], false, true, none, false⟩]⟩], fun x => fn_dense_Set_Or_p0z_ir x.1 x.2⟩
theorem dense_Set_Or_p0z_ir_is : SpecOk Tryd.prog sp_dense_Set_Or_p0z_ir := fn_is Tryd.func17 h_dense_Set_Or_p0z_ir (by kernel_rfl) (by kernel_rfl)
noncomputable def ok_dense_Set_Or_p0z_ir : OkSpec Tryd.prog := ⟨sp_dense_Set_Or_p0z_ir, dense_Set_Or_p0z_ir_is, Tryd.call17⟩

noncomputable def fn_law03_DenseNone (xa : Int) : Option Bool :=
  (fn_dense_New_c5).bind fun o => match o with | .inl i470 => (fn_dense_Set_Size ((none : (Option (Int × (List Int)))))).bind fun i476 => (cond (!decide (i476 = 0)) (some (true)) ((fn_dense_Set_Has ((none : (Option (Int × (List Int))))) xa).bind fun t491 => some (t491))).bind fun t487 => (cond (t487) (some (true)) ((fn_dense_Set_Add_zi xa).bind fun t506 => some (t506))).bind fun t502 => (cond (t502) (some (true)) ((fn_dense_Set_Del_zi xa).bind fun t521 => some (t521))).bind fun t517 => (cond (t517) (some (true)) ((fn_dense_Set_Or_zz).bind fun t536 => some (t536))).bind fun t532 => (cond (t532) (some (true)) ((fn_dense_Set_Or_zz).bind fun t551 => some (t551))).bind fun t547 => (cond (t547) (some (true)) ((fn_dense_Set_Count ((none : (Option (Int × (List Int)))))).bind fun i566 => some (!decide (i566 = 0)))).bind fun t562 => (cond (t562) (some (true)) ((fn_dense_Set_Next ((none : (Option (Int × (List Int))))) xa).bind fun i581 => some (!decide (i581 = (-1))))).bind fun t577 => (cond (t577) (some (true)) ((fn_dense_Set_List_z).bind fun l600 => some (decide (0 < (((l600.length : Nat) : Int)))))).bind fun t596 => (cond (t596) (some (true)) ((fn_dense_Set_Clone_z).bind fun _ => some (false))).bind fun t614 => cond (t614) (some (false)) ((fn_dense_Same ((none : (Option (Int × (List Int))))) ((none : (Option (Int × (List Int)))))).bind fun t624 => (cond (t624) ((fn_dense_Same ((none : (Option (Int × (List Int))))) ((none : (Option (Int × (List Int)))))).bind fun t639 => some (!t639)) (some (false))).bind fun t635 => (cond (t635) ((fn_dense_Same ((none : (Option (Int × (List Int))))) ((none : (Option (Int × (List Int)))))).bind fun t654 => some (!t654)) (some (false))).bind fun t650 => (cond (t650) ((fn_dense_Within ((none : (Option (Int × (List Int))))) ((none : (Option (Int × (List Int)))))).bind fun t669 => some (t669)) (some (false))).bind fun t665 => (cond (t665) ((fn_law03_awake).bind fun t684 => some (t684)) (some (false))).bind fun t680 => some (t680)) | .inr (i688, l689) => (fn_dense_Set_Size ((none : (Option (Int × (List Int)))))).bind fun i700 => (cond (!decide (i700 = 0)) (some (true)) ((fn_dense_Set_Has ((none : (Option (Int × (List Int))))) xa).bind fun t715 => some (t715))).bind fun t711 => (cond (t711) (some (true)) ((fn_dense_Set_Add_zi xa).bind fun t730 => some (t730))).bind fun t726 => (cond (t726) (some (true)) ((fn_dense_Set_Del_zi xa).bind fun t745 => some (t745))).bind fun t741 => cond (t741) (some (false)) ((fn_dense_Set_Or_zp0_ir 5 l689).bind fun (t765, l766) => cond (t765) (some (false)) ((fn_dense_Set_Or_p0z_ir 5 l766).bind fun (t791, l792) => (cond (t791) (some (true)) ((fn_dense_Set_Count ((none : (Option (Int × (List Int)))))).bind fun i812 => some (!decide (i812 = 0)))).bind fun t808 => (cond (t808) (some (true)) ((fn_dense_Set_Next ((none : (Option (Int × (List Int))))) xa).bind fun i827 => some (!decide (i827 = (-1))))).bind fun t823 => (cond (t823) (some (true)) ((fn_dense_Set_List_z).bind fun l846 => some (decide (0 < (((l846.length : Nat) : Int)))))).bind fun t842 => (cond (t842) (some (true)) ((fn_dense_Set_Clone_z).bind fun _ => some (false))).bind fun t860 => cond (t860) (some (false)) ((fn_dense_Same ((none : (Option (Int × (List Int))))) ((none : (Option (Int × (List Int)))))).bind fun t870 => (cond (t870) ((fn_dense_Same ((none : (Option (Int × (List Int))))) (some (5, l792))).bind fun t885 => some (!t885)) (some (false))).bind fun t881 => (cond (t881) ((fn_dense_Same (some (5, l792)) ((none : (Option (Int × (List Int)))))).bind fun t900 => some (!t900)) (some (false))).bind fun t896 => (cond (t896) ((fn_dense_Within ((none : (Option (Int × (List Int))))) (some (5, l792))).bind fun t915 => some (t915)) (some (false))).bind fun t911 => (cond (t911) ((fn_law03_awake).bind fun t930 => some (t930)) (some (false))).bind fun t926 => some (t926))))
noncomputable def h_law03_DenseNone : Hn Tryd.prog := .c2 ok_dense_New_c5 [] (.cl ok_dense_Set_Size [] (.gj 3 ⟨[(17, .dat .bool)], []⟩ [] (.two 13 (.nil) (.cl ok_dense_Set_Has [] (.nil))) (.gj 3 ⟨[(22, .dat .bool)], []⟩ [] (.two 18 (.nil) (.cl ok_dense_Set_Add_zi [] (.nil))) (.gj 3 ⟨[(27, .dat .bool)], []⟩ [] (.two 23 (.nil) (.cl ok_dense_Set_Del_zi [] (.nil))) (.gj 3 ⟨[(32, .dat .bool)], []⟩ [] (.two 28 (.nil) (.cl ok_dense_Set_Or_zz [] (.nil))) (.gj 3 ⟨[(37, .dat .bool)], []⟩ [] (.two 33 (.nil) (.cl ok_dense_Set_Or_zz [] (.nil))) (.gj 3 ⟨[(42, .dat .bool)], []⟩ [] (.two 38 (.nil) (.cl ok_dense_Set_Count [] (.nil))) (.gj 4 ⟨[(48, .dat .bool)], []⟩ [] (.two 43 (.nil) (.cl ok_dense_Set_Next [] (.nil))) (.gj 4 ⟨[(54, .dat .bool)], []⟩ [] (.two 49 (.nil) (.cl ok_dense_Set_List_z [] (.nil))) (.gj 3 ⟨[(59, .dat .bool)], []⟩ [] (.two 55 (.nil) (.cl ok_dense_Set_Clone_z [] (.nil))) (.tw 59 (.nil) (.cl ok_dense_Same [] (.gj 4 ⟨[(67, .dat .bool)], []⟩ [] (.two 62 (.cl ok_dense_Same [] (.nil)) (.nil)) (.gj 3 ⟨[(72, .dat .bool)], []⟩ [] (.two 68 (.cl ok_dense_Same [] (.nil)) (.nil)) (.gj 3 ⟨[(77, .dat .bool)], []⟩ [] (.two 73 (.cl ok_dense_Within [] (.nil)) (.nil)) (.gj 1 ⟨[(80, .dat .bool)], []⟩ [] (.two 78 (.cl ok_law03_awake [] (.nil)) (.nil)) (.nil))))))))))))))))) (.cl ok_dense_Set_Size [] (.gj 3 ⟨[(17, .dat .bool)], []⟩ [] (.two 13 (.nil) (.cl ok_dense_Set_Has [] (.nil))) (.gj 3 ⟨[(22, .dat .bool)], []⟩ [] (.two 18 (.nil) (.cl ok_dense_Set_Add_zi [] (.nil))) (.gj 3 ⟨[(27, .dat .bool)], []⟩ [] (.two 23 (.nil) (.cl ok_dense_Set_Del_zi [] (.nil))) (.two 28 (.nil) (.mc 0 0 3 (.cl ok_dense_Set_Or_zp0_ir [] (.two 33 (.nil) (.cl ok_dense_Set_Or_p0z_ir [] (.gj 3 ⟨[(42, .dat .bool)], []⟩ [] (.two 38 (.nil) (.cl ok_dense_Set_Count [] (.nil))) (.gj 4 ⟨[(48, .dat .bool)], []⟩ [] (.two 43 (.nil) (.cl ok_dense_Set_Next [] (.nil))) (.gj 4 ⟨[(54, .dat .bool)], []⟩ [] (.two 49 (.nil) (.cl ok_dense_Set_List_z [] (.nil))) (.gj 3 ⟨[(59, .dat .bool)], []⟩ [] (.two 55 (.nil) (.cl ok_dense_Set_Clone_z [] (.nil))) (.tw 59 (.nil) (.cl ok_dense_Same [] (.gj 4 ⟨[(67, .dat .bool)], []⟩ [] (.two 62 (.cl ok_dense_Same [14, 0] (.nil)) (.nil)) (.gj 3 ⟨[(72, .dat .bool)], []⟩ [] (.two 68 (.cl ok_dense_Same [14, 0] (.nil)) (.nil)) (.gj 3 ⟨[(77, .dat .bool)], []⟩ [] (.two 73 (.cl ok_dense_Within [14, 0] (.nil)) (.nil)) (.gj 1 ⟨[(80, .dat .bool)], []⟩ [] (.two 78 (.cl ok_law03_awake [] (.nil)) (.nil)) (.nil))))))))))))))))))))
noncomputable def sp_law03_DenseNone : Spec := ⟨5, ⟨[(0, .dat (.int .i64))], []⟩, [⟨[(0, .dat .bool)], []⟩], fun x => fn_law03_DenseNone x⟩
theorem law03_DenseNone_is : SpecOk Tryd.prog sp_law03_DenseNone := fn_is Tryd.func5 h_law03_DenseNone (by kernel_rfl) (by kernel_rfl)
noncomputable def ok_law03_DenseNone : OkSpec Tryd.prog := ⟨sp_law03_DenseNone, law03_DenseNone_is, Tryd.call5⟩
end Go.Proofs.YticfjbmafkjmaaaDoor
namespace Go.Proofs.YticfjbmafkjmaaaDoor
set_option linter.unusedVariables false
section
variable {σ β : Type} {body : σ → Option (σ ⊕ β)}
theorem loop_nat (st : Nat → σ) (n : Nat) {b : β} (h : ∀ k, k < n → body (st k) = some (.inl (st (k + 1)))) (he : body (st n) = some (.inr b)) : loop body (st 0) = some b := by
  have : ∀ m k, k + m = n → loop body (st k) = some b := by
    intro m
    induction m with
    | zero => intro k hk; have : k = n := by omega
              subst this; exact loop_end he
    | succ m ih => intro k hk; rw [loop_next (h k (by omega))]; exact ih (k + 1) (by omega)
  exact this n 0 (by omega)
theorem least (p : Nat → Prop) : ∀ n, (∃ k, k < n ∧ p k ∧ ∀ j, j < k → ¬ p j) ∨ ∀ j, j < n → ¬ p j
  | 0 => .inr (fun j hj => by omega)
  | n + 1 => by
    rcases least p n with ⟨k, h1, h2, h3⟩ | h
    · exact .inl ⟨k, by omega, h2, h3⟩
    · by_cases hp : p n
      · exact .inl ⟨n, by omega, hp, h⟩
      · exact .inr (fun j hj => if e : j = n then e ▸ hp else h j (by omega))
theorem loop_find (p : Nat → Prop) (st : Nat → σ) (n : Nat) (hit : Nat → β) (e : β) (hgo : ∀ k, k < n → ¬ p k → body (st k) = some (.inl (st (k + 1)))) (hhit : ∀ k, k < n → p k → body (st k) = some (.inr (hit k))) (hend : body (st n) = some (.inr e)) :
    (∃ k, k < n ∧ p k ∧ (∀ j, j < k → ¬ p j) ∧ loop body (st 0) = some (hit k)) ∨ ((∀ j, j < n → ¬ p j) ∧ loop body (st 0) = some e) := by
  rcases least p n with ⟨k, h1, h2, h3⟩ | h
  · exact .inl ⟨k, h1, h2, h3, loop_nat st k (fun j hj => hgo j (by omega) (h3 j hj)) (hhit k h1 h2)⟩
  · exact .inr ⟨h, loop_nat st n (fun k hk => hgo k hk (h k hk)) hend⟩
open Classical in
theorem loop_any (p : Nat → Prop) (st : Nat → σ) (n : Nat) (b e : β) (hgo : ∀ k, k < n → ¬ p k → body (st k) = some (.inl (st (k + 1)))) (hhit : ∀ k, k < n → p k → body (st k) = some (.inr b)) (hend : body (st n) = some (.inr e)) :
    loop body (st 0) = some (if ∃ k, k < n ∧ p k then b else e) := by
  rcases loop_find p st n (fun _ => b) e hgo hhit hend with ⟨k, h1, h2, h3, h4⟩ | ⟨h1, h2⟩
  · rw [if_pos ⟨k, h1, h2⟩]; exact h4
  · rw [if_neg (fun ⟨k, h3, h4⟩ => h1 k h3 h4)]; exact h2
end
theorem w64 {x : Int} (h1 : -9223372036854775808 ≤ x) (h2 : x ≤ 9223372036854775807) : IntKind.wrap .i64 x = x := by
  rw [IntWalk.i64_left, IntWalk.wrap64_in _ ⟨h1, h2⟩]
theorem w64s {k n : Nat} (h : k < n) (hn : n ≤ 9223372036854775807) : IntKind.wrap .i64 ((k : Int) + 1) = ((k + 1 : Nat) : Int) := by
  rw [w64 (by omega) (by omega)]; rfl
theorem ne_list {α : Type} {xs ys : List α} (h : xs.length = ys.length) : (∃ k, k < xs.length ∧ xs[k]? ≠ ys[k]?) ↔ xs ≠ ys := by
  constructor
  · rintro ⟨k, _, h2⟩ rfl; exact h2 rfl
  · intro hne
    rcases least (fun k => xs[k]? ≠ ys[k]?) xs.length with ⟨k, h1, h2, _⟩ | h'
    · exact ⟨k, h1, h2⟩
    · exfalso; apply hne
      apply List.ext_getElem? 
      intro k
      by_cases hk : k < xs.length
      · exact Classical.byContradiction (fun hc => h' k hk hc)
      · rw [List.getElem?_eq_none (by omega), List.getElem?_eq_none (by omega)]
theorem getN {α : Type} {l : List α} {k : Nat} (h : k < l.length) : getI l (k : Int) = some l[k] := getI_eq rfl h
theorem any_ex {α : Type} {t : α → Bool} {l : List α} : l.any t = true ↔ ∃ k, k < l.length ∧ (l[k]?.map t) = some true := by
  rw [List.any_eq_true]
  constructor
  · rintro ⟨x, hx, h⟩
    obtain ⟨k, hk, rfl⟩ := List.getElem_of_mem hx
    exact ⟨k, hk, by simp [hk, h]⟩
  · rintro ⟨k, hk, h⟩
    exact ⟨l[k], List.getElem_mem hk, by simpa [hk] using h⟩
/-- A list searched. -/
theorem loop_one {α β : Type} (xa : List α) (t : α → Bool) (hit e : β) (hn : xa.length ≤ 9223372036854775807) :
    loop (fun (i : Int) => (cond (decide (i < ((xa.length : Nat) : Int))) ((getI xa i).bind fun x => cond (t x) (some (.inr hit)) (some (.inl (IntKind.wrap .i64 (i + 1))))) (some (.inr e)) : Option (Int ⊕ β))) 0 = some (if xa.any t then hit else e) := by
  classical
  have h := loop_any (body := fun (i : Int) => (cond (decide (i < ((xa.length : Nat) : Int))) ((getI xa i).bind fun x => cond (t x) (some (.inr hit)) (some (.inl (IntKind.wrap .i64 (i + 1))))) (some (.inr e)) : Option (Int ⊕ β)))
    (fun k => (xa[k]?.map t) = some true) (fun k : Nat => (k : Int)) xa.length hit e ?_ ?_ ?_
  · refine h.trans ?_
    by_cases hh : xa.any t = true
    · rw [if_pos (any_ex.1 hh), if_pos hh]
    · rw [if_neg (fun h => hh (any_ex.2 h)), if_neg hh]
  · intro k hk hp
    simp [hk] at hp
    simp [hk, getN hk, hp, w64s hk hn]
  · intro k hk hp
    simp [hk] at hp
    simp [hk, getN hk, hp]
  · simp
/-- Two lists searched, hand in hand. -/
theorem loop_two {α γ β : Type} (xa : List α) (xb : List γ) (t : α → γ → Bool) (hit e : β) (hl : xa.length = xb.length) (hn : xa.length ≤ 9223372036854775807) :
    loop (fun (i : Int) => (cond (decide (i < ((xa.length : Nat) : Int))) ((getI xa i).bind fun x => (getI xb i).bind fun y => cond (t x y) (some (.inr hit)) (some (.inl (IntKind.wrap .i64 (i + 1))))) (some (.inr e)) : Option (Int ⊕ β))) 0 = some (if (xa.zip xb).any (fun p => t p.1 p.2) then hit else e) := by
  classical
  have hz : (xa.zip xb).length = xa.length := by simp [hl]
  have h := loop_any (body := fun (i : Int) => (cond (decide (i < ((xa.length : Nat) : Int))) ((getI xa i).bind fun x => (getI xb i).bind fun y => cond (t x y) (some (.inr hit)) (some (.inl (IntKind.wrap .i64 (i + 1))))) (some (.inr e)) : Option (Int ⊕ β)))
    (fun k => ((xa.zip xb)[k]?.map fun p => t p.1 p.2) = some true) (fun k : Nat => (k : Int)) xa.length hit e ?_ ?_ ?_
  · refine h.trans ?_
    have ha := any_ex (t := fun p : α × γ => t p.1 p.2) (l := xa.zip xb)
    rw [hz] at ha
    by_cases hh : (xa.zip xb).any (fun p => t p.1 p.2) = true
    · rw [if_pos (ha.1 hh), if_pos hh]
    · rw [if_neg (fun h => hh (ha.2 h)), if_neg hh]
  · intro k hk hp
    have hk2 : k < xb.length := by omega
    have hk3 : k < (xa.zip xb).length := by omega
    have hz3 : (xa.zip xb)[k]? = some (xa[k], xb[k]) := by rw [List.getElem?_eq_getElem hk3, List.getElem_zip]
    rw [hz3] at hp
    simp at hp
    simp [hk, getN hk, getN hk2, hp, w64s hk hn]
  · intro k hk hp
    have hk2 : k < xb.length := by omega
    have hk3 : k < (xa.zip xb).length := by omega
    have hz3 : (xa.zip xb)[k]? = some (xa[k], xb[k]) := by rw [List.getElem?_eq_getElem hk3, List.getElem_zip]
    rw [hz3] at hp
    simp at hp
    simp [hk, getN hk, getN hk2, hp]
  · simp
theorem zip_any_ne {α : Type} [DecidableEq α] {xs ys : List α} (h : xs.length = ys.length) : (xs.zip ys).any (fun p => !decide (p.1 = p.2)) = !decide (xs = ys) := by
  induction xs generalizing ys with
  | nil => cases ys with
    | nil => rfl
    | cons => cases h
  | cons x xs ih => cases ys with
    | nil => cases h
    | cons y ys =>
      simp only [List.zip_cons_cons, List.any_cons, ih (by simpa using h), List.cons.injEq]
      by_cases h1 : x = y <;> simp [h1]
/-- A list searched for a place. -/
theorem loop_idx {α γ : Type} (xa : List α) (t : α → γ → Bool) (q : γ) (hn : xa.length ≤ 9223372036854775807) :
    ∃ r, loop (fun ((i, c) : Int × γ) => (cond (decide (i < ((xa.length : Nat) : Int))) ((getI xa i).bind fun x => cond (t x c) (some (.inr (.inr (i, c)))) (some (.inl (IntKind.wrap .i64 (i + 1), c)))) (some (.inr (.inl c))) : Option ((Int × γ) ⊕ (γ ⊕ (Int × γ))))) (0, q) = some r ∧ ((r = .inl q ∧ xa.any (t · q) = false) ∨ ∃ k : Nat, r = .inr ((k : Int), q) ∧ xa.any (t · q) = true) := by
  have h := loop_find (body := fun ((i, c) : Int × γ) => (cond (decide (i < ((xa.length : Nat) : Int))) ((getI xa i).bind fun x => cond (t x c) (some (.inr (.inr (i, c)))) (some (.inl (IntKind.wrap .i64 (i + 1), c)))) (some (.inr (.inl c))) : Option ((Int × γ) ⊕ (γ ⊕ (Int × γ)))))
    (fun k => (xa[k]?.map (t · q)) = some true) (fun k : Nat => ((k : Int), q)) xa.length (fun k => .inr ((k : Int), q)) (.inl q) ?_ ?_ ?_
  · rcases h with ⟨k, h1, h2, _, h3⟩ | ⟨h1, h2⟩
    · exact ⟨_, h3, .inr ⟨k, rfl, any_ex.2 ⟨k, h1, h2⟩⟩⟩
    · refine ⟨_, h2, .inl ⟨rfl, ?_⟩⟩
      cases hh : xa.any (t · q) with
      | false => rfl
      | true => obtain ⟨k, h3, h4⟩ := any_ex.1 hh; exact absurd h4 (h1 k h3)
  · intro k hk hp
    simp [hk] at hp
    simp [hk, getN hk, hp, w64s hk hn]
  · intro k hk hp
    simp [hk] at hp
    simp [hk, getN hk, hp]
  · simp
/-- A list gone through, with something carried along. -/
theorem loop_fold {α γ : Type} (xa : List α) (f : γ → α → γ) (c0 : γ) (hn : xa.length ≤ 9223372036854775807) {body : γ × Int → Option ((γ × Int) ⊕ γ)}
    (hb : ∀ k x, xa[k]? = some x → body ((xa.take k).foldl f c0, (k : Int)) = some (.inl (f ((xa.take k).foldl f c0) x, IntKind.wrap .i64 ((k : Int) + 1)))) (he : body (xa.foldl f c0, (xa.length : Int)) = some (.inr (xa.foldl f c0))) : loop body (c0, 0) = some (xa.foldl f c0) := by
  have h := loop_nat (body := body) (fun k : Nat => ((xa.take k).foldl f c0, (k : Int))) xa.length (b := xa.foldl f c0) ?_ ?_
  · simpa using h
  · intro k hk
    rw [hb k xa[k] (by simp [hk]), w64s hk hn]
    congr 3
    rw [List.take_succ_eq_append_getElem hk, List.foldl_append]; rfl
  · simpa using he
theorem foldl_snoc {α γ : Type} (g : α → γ) (xa : List α) (c : List γ) : xa.foldl (fun c x => c ++ [g x]) c = c ++ xa.map g := by
  induction xa generalizing c with
  | nil => simp
  | cons x xa ih => simp [ih]
/-- A list built by going through another. -/
theorem loop_map {α γ : Type} (xa : List α) (g : α → γ) (c0 : List γ) (hn : c0.length + xa.length ≤ 1073741824) {body : List γ × Int → Option ((List γ × Int) ⊕ List γ)}
    (hb : ∀ (c : List γ) (i : Int), body (c, i) = cond (decide (i < ((xa.length : Nat) : Int))) ((getI xa i).bind fun x => (app c [g x]).bind fun z => some (.inl (z, IntKind.wrap .i64 (i + 1)))) (some (.inr c))) : loop body (c0, 0) = some (c0 ++ xa.map g) := by
  rw [← foldl_snoc]
  refine loop_fold xa (fun c x => c ++ [g x]) c0 (by omega) (fun k x hx => ?_) ?_
  · have hk := (List.getElem?_eq_some_iff.1 hx).1
    rw [hb, foldl_snoc]
    have hx' : xa[k] = x := by rw [List.getElem?_eq_getElem hk] at hx; exact Option.some.inj hx
    have ha := app_eq (a := c0 ++ (xa.take k).map g) (b := [g x]) (by simp; omega)
    simp only [Option.bind_some, getN hk, hx', ha, Int.ofNat_lt.2 hk, decide_true, cond_true]
  · rw [hb]; simp
end Go.Proofs.YticfjbmafkjmaaaDoor
namespace Go.Proofs.YticfjbmafkjmaaaDoor
open Go.RowKit
set_option linter.unusedVariables false
set_option linter.unusedSimpArgs false
set_option linter.unnecessarySimpa false
/-! ### A nil set. -/
theorem Size_none : fn_dense_Set_Size none = some 0 := rfl
theorem mayHave_none (i : Int) : fn_dense_Set_mayHave none i = some false := by
  unfold fn_dense_Set_mayHave
  rw [Size_none]
  by_cases h : 0 ≤ i
  · have h2 : ¬ i < 0 := by omega
    simp [h, h2]
  · simp [h]
theorem Has_none (i : Int) : fn_dense_Set_Has none i = some false := by
  unfold fn_dense_Set_Has
  rw [mayHave_none]
  rfl
theorem Add_none (i : Int) : fn_dense_Set_Add_zi i = some false := by
  unfold fn_dense_Set_Add_zi
  rw [mayHave_none]
  rfl
theorem Del_none (i : Int) : fn_dense_Set_Del_zi i = some false := by
  unfold fn_dense_Set_Del_zi
  rw [Has_none]
  rfl
theorem Count_none : fn_dense_Set_Count none = some 0 := rfl
theorem Next_none (i : Int) : fn_dense_Set_Next none i = some (-1) := by
  unfold fn_dense_Set_Next
  rw [mayHave_none]
  rfl
theorem Within_none (t : Option (Int × List Int)) : fn_dense_Within none t = some true := by
  unfold fn_dense_Within
  rw [Next_none, show fn_dense_Set_All none = some () from rfl]
  simp only [Option.bind_some]
  rw [loop_end (b := .inl ()) (by rfl)]
  rfl
/-! ### The chapter's example. -/
theorem awake_1 : fn_dense_New_c70 = some (.inr (0, [0, 0])) := by kernel_rfl
theorem awake_2 : fn_dense_Set_Add_p0i_ir 3 70 [0, 0] = some (true, [8, 0]) := by kernel_rfl
theorem awake_3 : fn_dense_Set_Add_p0i_ir 69 70 [8, 0] = some (true, [8, 32]) := by kernel_rfl
theorem awake_4 : fn_dense_Set_Add_p0i_ir 70 70 [8, 32] = some (false, [8, 32]) := by kernel_rfl
theorem awake_5 : fn_dense_Set_Next (some (70, [8, 32])) 4 = some 69 := by
  have h : loop (fn_dense_Set_Next_l1 (70, [8, 32])) ((0 : Int), (0 : Int)) = some (.inl (1, 32)) := loop_of (n := 3) (by kernel_rfl)
  have e : fn_dense_Set_Next (some (70, [8, 32])) 4 = ((loop (fn_dense_Set_Next_l1 (70, [8, 32])) ((0 : Int), (0 : Int)) : Option ((Int × Int) ⊕ Int)).bind fun o => match o with | .inr r => some r | .inl (i262, i263) => (tzF i263).bind fun i330 => some (IntKind.wrap .i64 ((IntKind.wrap .i64 (i262 * 64)) + i330))) := by kernel_rfl
  have t : (tzF 32).bind (fun i330 => some (IntKind.wrap .i64 ((IntKind.wrap .i64 (1 * 64)) + i330))) = some 69 := by kernel_rfl
  rw [e, h]
  exact t
theorem awake_6 : fn_dense_Set_Count (some (70, [8, 32])) = some 2 := by
  have h : loop (fn_dense_Set_Count_l1 (70, [8, 32])) ((0 : Int), (0 : Int)) = some 2 := loop_of (n := 4) (by kernel_rfl)
  have e : fn_dense_Set_Count (some (70, [8, 32])) = (loop (fn_dense_Set_Count_l1 (70, [8, 32])) ((0 : Int), (0 : Int))).bind fun i => some i := rfl
  rw [e, h]
  rfl
theorem awake03 : fn_law03_awake = some true := by
  unfold fn_law03_awake
  rw [awake_1]
  simp only [Option.bind_some]
  rw [awake_2]
  simp only [Option.bind_some]
  rw [awake_3]
  simp only [Option.bind_some]
  rw [awake_4]
  simp only [Option.bind_some]
  rw [awake_5, awake_6]
  rfl
theorem New5 : fn_dense_New_c5 = some (.inr (0, [0])) := by kernel_rfl
theorem List_none : fn_dense_Set_List_z = some [] := by
  unfold fn_dense_Set_List_z
  rw [Next_none, show fn_dense_Set_All_z = some () from rfl]
  simp only [Option.bind_some]
  rw [loop_end (b := []) (by rfl)]
  rfl
theorem DenseNone_true (xa : Int) (k0 : Tp.Ok (.int .i64) xa) : fn_law03_DenseNone xa = some true := by
  unfold fn_law03_DenseNone
  rw [New5]
  simp only [Option.bind_some, Size_none, Has_none, Add_none, Del_none, Count_none, Next_none, Within_none, List_none, awake03, show fn_dense_Set_Or_zp0_ir = fun a b => some (false, b) from rfl, show fn_dense_Set_Or_p0z_ir = fun a b => some (false, b) from rfl, show fn_dense_Set_Clone_z = some () from rfl]
  rfl
end Go.Proofs.YticfjbmafkjmaaaDoor
namespace Go.Proofs.YticfjbmafkjmaaaDoor
open Go.RowKit
set_option linter.unusedVariables false
set_option linter.unnecessarySimpa false
set_option linter.unusedSimpArgs false
set_option maxRecDepth 20000
theorem DenseNone_walk {H : Type} (enc : TypeId × Value → H) (W : World) (base : Nat) {v0 : Value} {d0 : DataW H} {p0 : List MemPlace}
    (h0 : DataW.Trod enc Tryd.prog W 0 (fun _ => true) true 3 v0 d0 p0)
    (o0 : Value.okWide Tryd.prog W .any base 3 v0)
    (hgk : tzGk (Hp.of W)) :
    Calls Tryd.prog 5 #[v0] W fun e W' => e = .returned (.bool true) ∧ Below W.heap.size W W' := by
  obtain ⟨xa, i0, k0⟩ := Tp.arg (.int .i64) (by kernel_rfl) o0 h0
  exact walkX (s := sp_law03_DenseNone) (x := xa) (args := [v0]) law03_DenseNone_is (DenseNone_true xa k0) hgk rfl rfl ⟨_, _, rfl, of_rel _ i0, rfl⟩
end Go.Proofs.YticfjbmafkjmaaaDoor
namespace Go.Proofs.YticfjbmafkjmaaaDoor
open Go.RowKit
theorem tz_tab : ∀ j, j < 64 → (Lib.deBruijn64tab.map Int.ofNat).getD j 0 = ((Lib.deBruijn64tab.getD j 0 : Nat) : Int) := by decide +kernel
theorem tzGk_of {W : World} {rest : List (String × DataW Unit)} (h : laidMet Tryd.prog (("math/bits.deBruijn64tab", Rows.laid_math_bits_deBruijn64tab) :: rest) W) : tzGk (Hp.of W) := by
  have hg : Tryd.prog.globalNamed "math/bits.deBruijn64tab" = some 0 := by kernel_rfl
  have hT : Lib.TabIs Tryd.prog W "math/bits.deBruijn64tab" .u8 (Lib.deBruijn64tab.map Int.ofNat) :=
    Lib.tabIs_of_head (t := 62) (e := 5) (n := 64) hg (by kernel_rfl) (by kernel_rfl) (by kernel_rfl) (by kernel_rfl) (by kernel_rfl) h
  intro j hj
  rw [← tz_tab j hj]
  exact cellK_of (hT.cell hg j (by simpa [Lib.deBruijn64tab] using hj))
end Go.Proofs.YticfjbmafkjmaaaDoor
namespace Go.Proofs.YticfjbmafkjmaaaDoor.denseNoneFrame
set_option maxRecDepth 40000
open Go.ChangeShapes Go.WideShapes Go.ChangeAt Go.RowKit
theorem own : ownKnob Tryd.prog.godebug = none := by kernel_rfl
theorem contract (H : Type) (enc : TypeId × Value → H) (W : World) (base : Nat) (args : Array Value) (ds gs : List (DataW H)) (before : List MemPlace)
    (hval : ∀ (j : Nat) t v, Tryd.f5.params[j]? = some t → args[j]? = some v → Value.okWide Tryd.prog W .any base t v)
    (hW : DataW.Whole enc Tryd.prog Tryd.f5.params.toList Rows.denseNoneSpec.vars false W args.toList ds gs before) (hgk : tzGk (Hp.of W)) :
    Calls Tryd.prog 5 args W fun e W' => ∃ v, e = .returned v ∧ Rows.denseNoneSpec.post enc Tryd.prog Tryd.f5 false true false false W args v W' := by
  have hW' := hW
  obtain ⟨p, q, hA0, hV, rfl, hfz, hnd⟩ := hW
  have hA : DataW.TrodAll enc Tryd.prog W 0 (fun _ => true) true Tryd.f5.params.toList args.toList ds p := hA0
  rw [Tryd.params5] at hA hval
  obtain ⟨v0, vs0, d0, ds0, p0, q0, hargs, rfl, rfl, h0, r0⟩ := trodAll_cons hA
  obtain ⟨rfl, rfl, rfl⟩ := trodAll_nil r0
  obtain rfl : args = #[v0] := by cases args; simp_all
  refine (DenseNone_walk enc W base h0 (hval 0 _ v0 rfl rfl) hgk).mono fun e W' ⟨he, hb⟩ => ?_
  subst he
  exact ⟨_, rfl, law_post (tb := _) rfl hW' rfl rfl (by kernel_rfl) (by kernel_rfl) (of_decide_eq_true (by kernel_rfl)) hb⟩
noncomputable def world (os : Os) : World := World.laidAll Tryd.prog os Rows.denseNoneRow.laid
theorem reads (os : Os) {H : Type} (enc : TypeId × Value → H) : ∃ x, DataW.whole enc Tryd.prog ((world os).forCall (fun _ _ => 0) ⟨#[], #[.int .i64 0], []⟩).memory Tryd.f5.params.toList Rows.denseNoneSpec.vars false (#[.int .i64 0] : Array Value).toList 8 = some x :=
  Option.isSome_iff_exists.1 (by kernel_rfl)
set_option maxRecDepth 100000 in
theorem lifted (os : Os) (started : os.Started) (H : Type) (enc : TypeId × Value → H) (F : Stop.Interp) :
    ReturnsInHanded {} Tryd.checked os 5 .any ((OpenSpec.ofChange Rows.denseNoneSpec).preRow enc Tryd.prog Tryd.f5 Rows.denseNoneRow.domain false Rows.denseNoneRow.laid) (((OpenSpec.ofChange Rows.denseNoneSpec).at F).post enc Tryd.prog Tryd.f5 false true false false) := by
  obtain ⟨x, hx⟩ := reads os enc
  refine returnsInHanded_of_row (C := Tryd.checked) (s := OpenSpec.ofChange Rows.denseNoneSpec) own started (by kernel_rfl) Tryd.func5
    ⟨world os, fun _ _ => 0, ⟨#[], #[.int .i64 0], []⟩, World.laidAll_os _ _ _, World.shaped_of_ZipB (by kernel_rfl) (by kernel_rfl), rfl, (Input.okWide_of_okWideB (by kernel_rfl)).2,
      OpenSpec.preRow_of_cond 8 hx (by kernel_rfl) (fun k hk => by cases hk) (by kernel_rfl) (by rw [MakeChecks.laidMetH_plain _ _ _ (by kernel_rfl)]; exact laidMet_laidAll _ (by kernel_rfl) (by kernel_rfl)),
      by simp only [Assume.holds]; exact ⟨by simp, by simp, by simp, by simp, by simp⟩⟩ ?_
  intro W base args ds gs before hval hW _ _ _ hL _ _
  exact contract H enc W base args ds gs before hval hW (tzGk_of (rest := []) (by rw [MakeChecks.laidMetH_plain _ _ _ (by kernel_rfl)] at hL; exact hL))
theorem proved : Rows.DenseNoneSaid :=
  OpenClaim.holds_of_cond 5 Tryd.f5 rfl rfl rfl rfl rfl rfl rfl ⟨rfl, rfl, rfl, rfl, rfl⟩ rfl rfl rfl rfl rfl (by kernel_rfl) Tryd.func5 (by kernel_rfl)
    (of_decide_eq_true (by kernel_rfl)) (by unfold Func.isWrapper; first | (rw [if_pos (by decide +kernel)]; kernel_rfl) | (rw [if_neg (by decide +kernel)]; exact ⟨rfl, rfl⟩))
    (fun os started H enc _ F => by rw [OpenClaim.pre_eq_preRow]; exact lifted os started H enc F)
theorem card : Rows.DenseNoneCardSaid :=
  Claim7.holds_tied_plain_at .later [] [.data] true (true, "88ebde6e07b87bd53fb105e822cf7c3f8b0b095049ae10b5cd5c8c5a08fd798c") false proved (fun _ h => by cases h) (by kernel_rfl) (fun _ h => by cases h) denseNone_row_tie rfl ⟨rfl, rfl⟩ (by kernel_rfl) rfl
    (fun f fn hf hfn => by
      obtain rfl : f = 5 := Option.some.inj ((show Tryd.prog.funcNamed "easement/easementlaw03.DenseNone" = some 5 by kernel_rfl).symm.trans hf) |>.symm
      obtain rfl : fn = Tryd.f5 := (Option.some.inj (Tryd.func5.symm.trans hfn)).symm
      exact ⟨by kernel_rfl, fun j t ht => by
        rw [Tryd.params5] at ht
        have hm : t ∈ [3] := by simpa using Array.mem_of_getElem? ht
        have hall : ([3].all fun u => !Tryd.prog.wantsStandIn u) = true := by kernel_rfl
        exact (show Tryd.prog.wantsStandIn t = false by simpa using List.all_eq_true.1 hall t hm)⟩)
    (by kernel_rfl)
end Go.Proofs.YticfjbmafkjmaaaDoor.denseNoneFrame

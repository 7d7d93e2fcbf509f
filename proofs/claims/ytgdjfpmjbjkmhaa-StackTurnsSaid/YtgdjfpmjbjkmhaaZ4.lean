/- A part of the proof: what lies ahead of the law. Nothing is claimed here. -/
import Derived.Test.YtgdjfpmjbjkmhaaZ3
import Derived.RangeFuncRecord
import Derived.Test.YtgdjfpmjbjkmhaaProg
import Derived.Tactics
import Derived.Tactics2
import Derived.Defers
import Derived.Recover
import Derived.Laws.Pointers
import Derived.MapKept
import Derived.RegionTactic
import Derived.ChangeAlike
import Derived.Deep.QuietTactic
import Derived.BigQuiet
import Derived.Test.YtgdjfpmjbjkmhaaRows
namespace Go.Proofs.Ytgdjfpmjbjkmhaa
open Go.RowKit
set_option linter.unusedVariables false
set_option linter.unusedSimpArgs false
set_option linter.unnecessarySimpa false
set_option linter.unusedSectionVars false
variable [BldA]
/-! ### Marks at the end of a function. -/
def Hp.del (K : Hp) (D : Nat) : Hp := fun n => if n = D then none else K n
theorem Hp.cle_del {K : Hp} {D : Nat} {x : Option (List Deferred)} (h : K D = some (.deferred x)) : K.cle (K.del D) := fun g o v e => by
  unfold cellK Hp.del at *
  by_cases hg : g = D
  · subst hg; rw [h] at e; cases e
  · rw [if_neg hg]; exact e
section
variable {P : Program} {E : En} {n : Nat} {m : List M} {K : Hp} {fr : Frz} {σ : Zt} {ρ : Sl1} {w : World}
theorem Rel.unmark (hr : Rel E fr σ m K ρ w) {K2 : Hp} {w2 : World} (hc : K.cle K2) (hk : fr.K.le K2) (h0 : fr.k0.le K2) (hs : Sep E K2 (σ.atoms fr m) w2) : Rel E fr ⟨σ.base, σ.top, σ.H, σ.Hf, σ.nx, false⟩ m K2 ⟨ρ.f, []⟩ w2 where
  hm := hr.hm
  hK := hk
  nx := hr.nx
  kq := fun e => (by cases e)
  base := hr.base
  dead := hr.dead
  old := hr.old
  top := fun i sv hi => SV.monoC (fun _ _ h => h) hc sv (hr.top i sv hi)
  okH := fun a ha => HA.ok_monoC (fun _ _ h => h) hc (hr.okH a ha)
  okF := hr.okF
  mks := MOk.nil hr.mks.1.1 h0
  sep := hs
theorem marks_leave {fn : Func} {tmps : Array Value} {R : Ending → World → Prop} {L : List Atom} {k0 : Hp} : ∀ (ds : List Deferred) {K : Hp} {w : World}, MOk k0 K ds → Sep E K L w →
    (∀ K2 w2, K.cle K2 → k0.le K2 → Sep E K2 L w2 → ∃ v, (results fn tmps).run P w2 = .ok v w2 ∧ R (.returned v) w2) → LeavesInM Fence.wide 0 P fn tmps R ds .returning w
  | [], K, w, hm, hs, h => h K w (Hp.cle_refl K) hm.1.2 hs
  | d :: ds, K, w, hm, hs, h => by
    obtain ⟨D, rfl, hD, h0⟩ := hm.2.1 d (by simp)
    have hw : w.heap[D]? = some (.deferred (some [])) := hs.sub D _ hD
    have hnd := List.nodup_cons.1 hm.2.2
    refine ⟨by simp, .inl ⟨D, w.putObj D (.deferred none), rfl, run_takeDeferred hw, ?_⟩⟩
    have other : ∀ (k : Nat) (o : Obj), k ≠ D → w.heap[k]? = some o → (w.putObj D (.deferred none)).heap[k]? = some o := fun k o hne e => by rw [World.putObj_heap_other hne]; exact e
    have hs1 : Sep E (K.del D) L (w.putObj D (.deferred none)) := by
      refine Sep.move (w := w) (w' := w.putObj D (.deferred none)) (fun e => e) hs (fun k o e => ?_) (fun k o e e1 => ?_)
      · unfold Hp.del at e
        split at e
        · cases e
        · rename_i hne; exact other k o hne (hs.sub k o e)
      · have hne : k ≠ D := fun e2 => by rw [e2, hD] at e1; cases e1
        exact ⟨by unfold Hp.del; rw [if_neg hne]; exact e1, other k o hne e⟩
    refine marks_leave ds ⟨⟨hm.1.1, fun k o e => ?_⟩, fun d' hd' => ?_, hnd.2⟩ hs1 (fun K2 w2 c1 c2 c3 => h K2 w2 ((Hp.cle_del hD).trans c1) c2 c3)
    · unfold Hp.del
      rw [if_neg (fun e2 => by rw [e2, h0] at e; cases e)]
      exact hm.1.2 k o e
    · obtain ⟨D', rfl, h1, h2⟩ := hm.2.1 d' (List.mem_cons_of_mem _ hd')
      refine ⟨D', rfl, ?_, h2⟩
      unfold Hp.del
      rw [if_neg (fun e => hnd.1 (by rw [← e]; exact hd'))]
      exact h1
end
/-! ### Records of loops. -/
section
variable {P : Program} {E : En} {K : Hp} {L : List Atom} {w : World}
theorem LpA.at {l : Nat} {r : Loop} (h : Sep E K (LpA l r :: L) w) : w.heap[l]? = some (.loop r) := by
  obtain ⟨h1, rfl, hd, hs⟩ := h
  exact hs.sub l _ (Hp.join_right (one_of l _) (hd l _ (one_of l _)))
theorem LpA.put {l : Nat} {r r' : Loop} (h : Sep E K (LpA l r :: L) w) : Sep E K (LpA l r' :: L) (w.putObj l (.loop r')) := by
  have hw := LpA.at h
  have hlt := (Array.getElem?_eq_some_iff.1 hw).1
  refine Sep.turn h (fun e => e) (fun h1 hA hle => ?_)
  obtain rfl := hA
  refine ⟨one l (.loop r'), rfl, fun n o e => ?_, fun n o e e1 => ?_⟩
  · obtain ⟨rfl, rfl⟩ := one_some e
    exact ⟨World.putObj_heap_same hlt, fun e2 => by rw [one_of] at e2; cases e2⟩
  · have hne : n ≠ l := fun e2 => by subst e2; rw [one_of] at e1; cases e1
    rw [World.putObj_heap_other hne]; exact e
theorem enter_inner {l₀ : Nat} {r₀ : Loop} (h : w.heap[l₀]? = some (.loop r₀)) (fn : FuncId) (tmps : Array Value) (ps : Array Tmp) (assign body : Code) :
    (Instr.enterLoop fn tmps ps assign body (some l₀)).run P w =
      .ok (w.heap.size, []) (w.alloc (.loop { state := .ready, pending := none, fn, tmps, params := ps, assign, body, defers := r₀.defers })) := by
  unfold Instr.enterLoop
  simp only [Sem.run_bind, run_getLoop h, run_newObj_alloc, Result.andThen, Sem.run_pure]
/-- A new block of whatever kind. -/
theorem Sep.allocO (h : Sep E K L w) (o : Obj) : Sep E K ((fun hh => hh = one w.heap.size o) :: L) (w.alloc o) :=
  Sep.turn h.emp (fun e => e) (fun h0 ha _ => by
    unfold _root_.Go.Proofs.Ytgdjfpmjbjkmhaa.emp at ha; subst ha
    refine ⟨one w.heap.size o, rfl, fun n x e => ?_, fun n x e _ => ?_⟩
    · obtain ⟨rfl, rfl⟩ := one_some e
      exact ⟨World.alloc_heap_new w _, fun _ => Array.getElem?_eq_none (Nat.le_refl _)⟩
    · rw [Below.heap_alloc _ _ _ (lt_of_block e)]; exact e)
theorem Sep.known {o : Obj} {b : Nat} (h : Sep E K ((fun hh => hh = one b o) :: L) w) : Sep E (K.join (one b o)) L w ∧ K b = none := by
  obtain ⟨h1, rfl, hd, hs⟩ := h
  exact ⟨hs, hd b _ (one_of b o)⟩
end
/-! ### A round. -/
def busyR (r : Loop) : Loop := { r with state := .busy, pending := none }
/-- What a frame stands within. -/
def RdOk (E : En) (fr : Frz) : Prop := ∀ l, E.rd = some l → ∃ r, LpA l r ∈ fr.F
section
variable {R : Type} {P : Program} {E : En} {n : Nat} {m m' : List M} {K K' : Hp} {fr : Frz} {σ σ' : Zt} {ρ ρ' : Sl1} {w w' : World}
/-- What a piece of code does, run at states. -/
def Fok (P : Program) (n : Nat) (c : Code) (f : Hn P → Zt → (R : Type) → (Exit → Hn P → Zt → Option R) → Option R) : Prop :=
  ∀ (R : Type) (E : En) (fr : Frz), RdOk E fr → ∀ (h : Hn P) (σ : Zt) (k : Exit → Hn P → Zt → Option R) (r : R) (m : List M) (K : Hp) (ρ : Sl1) (w : World) (Q : Exit → Act → World → Prop), f h σ R k = some r → Rel E fr σ m K ρ w →
    (∀ e h' σ' m' K' ρ' w', Rel E fr σ' m' K' ρ' w' → Same σ σ' → k e h' σ' = some r → Q e (act1 n ρ') w') → c.wpIn (wideR E.rd) 0 P Q (act1 n ρ) w
def JOk (J : Rn P) : Prop := ∀ n c, Fok P n c (fun h σ R k => J n c R h σ k)
def setV : List Nat → List Value → Sl0 → Sl0
  | p :: ps, x :: xs, f => setV ps xs (upd f p x)
  | _, _, f => f
theorem frm_set {ρ : Sl0} {p : Nat} {v : Value} : (frm n ρ).setIfInBounds p v = frm n (upd ρ p v) := by
  have h := congrArg Act.tmps (Go.Proofs.Ytgdjfpmjbjkmhaa.put_act n ρ p v)
  unfold act Act.put at h
  exact h
theorem frm_foldl : ∀ (ps : List Nat) (xs : List Value) (ρ : Sl0), (ps.zip xs).foldl (fun t (q : Nat × Value) => t.setIfInBounds q.1 q.2) (frm n ρ) = frm n (setV ps xs ρ)
  | [], xs, ρ => rfl
  | p :: ps, [], ρ => rfl
  | p :: ps, x :: xs, ρ => by
    show (ps.zip xs).foldl _ ((frm n ρ).setIfInBounds p x) = _
    rw [frm_set]
    exact frm_foldl ps xs (upd ρ p x)
theorem setPs_rel : ∀ (ps : List Nat) {xs : List SV} {us : List Value} {f : Nat → SV} {ρ : Sl0}, SV.relL m K xs us → (∀ i, SV.rel m K (f i) (ρ i)) → ∀ i, SV.rel m K (setPs ps xs f i) (setV ps us ρ i)
  | [], xs, us, f, ρ, h, hf, i => hf i
  | p :: ps, [], us, f, ρ, h, hf, i => by
    obtain rfl := relL_nil h
    exact hf i
  | p :: ps, x :: xs, us, f, ρ, h, hf, i => by
    obtain ⟨u, r, rfl, h1, h2⟩ := relL_cons h
    refine setPs_rel ps (us := r) (ρ := upd ρ p u) h2 (fun j => ?_) i
    show SV.rel m K (bif Nat.beq j p then x else f j) (bif Nat.beq j p then u else ρ j)
    cases Nat.beq j p with
    | true => exact h1
    | false => exact hf j
theorem relL_len2 : ∀ {xs : List SV} {us : List Value}, SV.relL m K xs us → us.length = xs.length
  | [], us, h => by obtain rfl := relL_nil h; rfl
  | x :: xs, us, h => by
    obtain ⟨u, r, rfl, h1, h2⟩ := relL_cons h
    simp [relL_len2 h2]
theorem yldRun_ok {J : Rn P} (hJ : JOk J) {c : SV} {xs : List SV} {h : Hn P} {k : Hn P → Zt → Bool → Option R} {r : R} (hh : yldRun J σ c xs h k = some r) (hr : Rel E fr σ m K ρ w) {us : List Value} {v : Value} (hv : SV.rel m K c v) (hxs : SV.relL m K xs us) {X : Ending → World → Prop}
    (hX : ∀ h' σ' m' K' w' b, Rel E fr σ' m' K' ρ w' → Same σ σ' → k h' σ' b = some r → X (.returned (.bool b)) w') :
    ∃ l, v = .func (.yield l) #[] #[] ∧ ∃ fn tmps ao bo, (Instr.yield l us.toArray).run P w = .ok (.round l fn tmps ao bo) w ∧ RoundIn (wideR E.rd) 0 P l fn tmps ao bo w X := by
  unfold yldRun at hh
  split at hh
  · rename_i i n0 vs0 ps ao bo
    obtain ⟨l, rr, ρ0, rfl, hm, ht, hp, ha, hb, hvs⟩ := hv
    replace hh := bift hh; obtain ⟨hlen, hh⟩ := hh
    have hlen := Nat.eq_of_beq_eq_true hlen
    split at hh
    · rename_i H hq
      obtain ⟨a, ha', hmem, hperm⟩ := pick_spec hq
      obtain rfl := lpR_eq ha'
      have hsub : ∀ a ∈ H, a ∈ σ.H := fun a ha => hperm.symm.subset (List.mem_cons_of_mem _ ha)
      -- the record, ahead
      have hs0 : Sep E K (LpA l (LSt.ready.cr rr) :: (H.map (HA.conc m) ++ σ.fz fr)) w := by
        have := Sep.perm ((hperm.map (HA.conc m)).append_right (σ.fz fr)) hr.toSep
        simpa only [List.map_cons, HA.conc, hm, List.cons_append] using this
      have hw := LpA.at hs0
      have hy := run_yield (P := P) (args := us.toArray) hw (by
        show us.toArray.size = rr.params.size
        rw [hp, List.size_toArray, relL_len2 hxs, hlen])
      refine ⟨l, rfl, _, _, _, _, hy, roundIn_of_wpIn trivial ?_⟩
      have htm : (((LSt.ready.cr rr).params.zip us.toArray).foldl (fun tmps (t, a) => tmps.setIfInBounds t a) (LSt.ready.cr rr).tmps) = frm n0 (setV ps.toList us ρ0) := by
        show ((rr.params.zip us.toArray).foldl _ rr.tmps) = _
        rw [hp, ht, ← Array.foldl_toList, Array.toList_zip]
        exact frm_foldl ps.toList us ρ0
      rw [htm]
      show rr.assign.wpIn (wideR (some l)) 0 P _ (act1 n0 ⟨setV ps.toList us ρ0, []⟩) w
      rw [ha]
      have hE : ∀ (L : List Atom) (K : Hp) (w : World), Sep E K L w → Sep { E with rd := some l } K L w := fun L K w => Sep.rd (E := E) (E' := { E with rd := some l }) (fun w h => h)
      have hE' : ∀ (L : List Atom) (K : Hp) (w : World), Sep { E with rd := some l } K L w → Sep E K L w := fun L K w => Sep.rd (E := { E with rd := some l }) (E' := E) (fun w h => h)
      have mid : ∀ (A B C : List Atom) (x : Atom), (A ++ (B ++ x :: C)).Perm (x :: (A ++ (B ++ C))) := fun A B C x => by
        rw [← List.append_assoc, ← List.append_assoc]; exact List.perm_middle
      have hrel : Rel { E with rd := some l } ⟨m, K, ⟨setV ps.toList us ρ0, []⟩, fun _ => false, LpA l (LSt.ready.cr rr) :: fr.F, K⟩ ⟨setPs ps.toList xs vs0, [], H, σ.Hf, σ.nx, false⟩ m K ⟨setV ps.toList us ρ0, []⟩ w := by
        refine ⟨⟨List.prefix_refl m, Hp.le_refl K, hr.nx, fun e => (by cases e), fun i => setPs_rel ps.toList hxs hvs i, fun i e => (by cases e), fun i _ => .inr rfl, fun i sv e => (by cases e), fun a ha => hr.okH a (hsub a ha), fun a ha => hr.toPur.all a (List.mem_append_right _ ha), MOk.nil hr.mks.gk (Hp.le_refl K)⟩, ?_⟩
        show Sep _ K (H.map (HA.conc m) ++ (σ.Hf.map (HA.conc m) ++ (LpA l (LSt.ready.cr rr) :: fr.F))) w
        refine hE _ _ _ (Sep.perm (mid _ _ _ _).symm ?_)
        rw [hr.toPur.fz']
        exact hs0
      refine hJ n0 ao _ { E with rd := some l } ⟨m, K, ⟨setV ps.toList us ρ0, []⟩, fun _ => false, LpA l (LSt.ready.cr rr) :: fr.F, K⟩ (by intro l2 e; cases e; exact ⟨_, List.mem_cons_self⟩) h _ _ r m K _ w _ hh hrel (fun e h' σ1 m1 K1 ρ1 w1 h1 h2 h3 => ?_)
      cases e with
      | normal =>
        have hs1 : Sep E K1 (LpA l (LSt.ready.cr rr) :: (σ1.H.map (HA.conc m1) ++ (σ1.Hf.map (HA.conc m) ++ fr.F))) w1 := Sep.perm (mid _ _ _ _) (hE' _ _ _ h1.sep)
        have hw1 := LpA.at hs1
        refine ⟨w1.putObj l (.loop (busyR rr)), run_beginRound hw1 rfl, ?_⟩
        have hs2 := LpA.put (r' := (busyR rr)) hs1
        have hrel2 : Rel { E with rd := some l } ⟨m, K, ⟨setV ps.toList us ρ0, []⟩, fun _ => false, LpA l (busyR rr) :: fr.F, K⟩ σ1 m1 K1 ρ1 (w1.putObj l (.loop (busyR rr))) :=
          ⟨⟨h1.hm, h1.hK, h1.nx, h1.kq, h1.base, h1.dead, h1.old, h1.top, h1.okH, h1.okF, h1.mks⟩, hE _ _ _ (Sep.perm (mid _ _ _ _).symm hs2)⟩
        show (LSt.ready.cr rr).body.wpIn (wideR (some l)) 0 P _ (act1 n0 ρ1) _
        rw [show (LSt.ready.cr rr).body = bo from hb]
        refine hJ n0 bo _ { E with rd := some l } ⟨m, K, ⟨setV ps.toList us ρ0, []⟩, fun _ => false, LpA l (busyR rr) :: fr.F, K⟩ (by intro l2 e; cases e; exact ⟨_, List.mem_cons_self⟩) h' σ1 _ r m1 K1 ρ1 _ _ h3 hrel2 (fun e2 h'' σ2 m2 K2 ρ2 w2 g1 g2 g3 => ?_)
        have hs3 : Sep E K2 (LpA l (busyR rr) :: (σ2.H.map (HA.conc m2) ++ (σ2.Hf.map (HA.conc m) ++ fr.F))) w2 := Sep.perm (mid _ _ _ _) (hE' _ _ _ g1.sep)
        have hw3 := LpA.at hs3
        have back : ∀ (s : LSt) (b : Bool) (jump : Option Code), exLst e2 = some (b, s) → b = jump.isNone → s.cr rr = { busyR rr with state := if jump.isNone then .ready else .done, pending := jump } →
            ∃ v w', (Instr.endRound l jump).run P w2 = .ok v w' ∧ X (.returned v) w' := fun s b jump e1 e2 e3 => by
          subst e2
          rw [e1] at g3
          simp only at g3
          refine ⟨_, _, run_endRound jump hw3, ?_⟩
          refine hX h'' ⟨σ.base, σ.top, .lp i s :: σ2.H, σ.Hf, σ2.nx, false⟩ m2 K2 _ _ ?_ ⟨rfl, rfl⟩ g3
          have hm2 : m <+: m2 := g1.hm
          have hK2 : K.le K2 := g1.hK
          have hm2' : ∀ (i : Nat) (x : M), m[i]? = some x → m2[i]? = some x := fun _ _ k => pre_get hm2 k
          refine ⟨⟨hr.hm.trans hm2, hr.hK.trans hK2, g1.nx, fun e => (by cases e), hr.base, hr.dead, hr.old, fun i sv hi => SV.mono hm2' hK2 sv (hr.top i sv hi), fun a ha => ?_, hr.okF, hr.mks.mono hK2⟩, ?_⟩
          · rcases List.mem_cons.1 ha with rfl | ha
            · exact ⟨l, rr, hm2' _ _ hm⟩
            · exact g1.okH a ha
          · have := LpA.put (r' := s.cr rr) hs3
            have hHf : σ2.Hf = σ.Hf := (h2.trans g2).2
            rw [hHf, hr.toPur.fz'] at this
            show Sep E K2 ((HA.lp i s :: σ2.H).map (HA.conc m2) ++ (σ.Hf.map (HA.conc fr.m) ++ fr.F)) _
            simp only [List.map_cons, HA.conc, hm2' _ _ hm, List.cons_append]
            rw [e3] at this ⊢
            exact this
        cases e2 with
        | normal => exact back .ready true none rfl rfl rfl
        | ret => exact back .ret false (some .ret) rfl rfl rfl
        | exit id => exact back (.exit id) false (some (.exit id)) rfl rfl rfl
        | goto t => cases g3
        | panic ch => cases g3
        | outgrown => cases g3
      | exit id => cases h3
      | goto t => cases h3
      | ret => cases h3
      | panic ch => cases h3
      | outgrown => cases h3
    · cases hh
  · cases hh
/-- Another post where an operation leaves. -/
theorem wpIn_post {F : Fence} {N : Nat} {o : Oper} {a : Act} {w : World} {X : Act → World → Prop} {Q Q' : Exit → Act → World → Prop} (hq : ∀ e a w, Q e a w → e ≠ .normal → Q' e a w) (hh : o.wpIn F N P a w X Q) : o.wpIn F N P a w X Q' := by
  unfold Oper.wpIn at *
  refine ⟨hh.1, ?_⟩
  have hh := hh.2
  have lo : LetsOut Q → LetsOut Q' := fun ⟨a, w, h⟩ => ⟨a, w, hq _ _ _ h nofun⟩
  generalize (o.semAt F.round a.eval).run P w = r at *
  cases r with
  | ok x w' =>
    cases x <;> simp only [Oper.uponIn] at hh ⊢ <;>
      first
        | exact hh
        | exact ⟨hh.1, CallsIn.mono hh.2 (fun e w'' he => by cases e <;> first | exact he | exact hq _ _ _ he nofun | exact lo he)⟩
        | exact ⟨hh.1, RowsIn.mono hh.2 (fun _ _ he => he)⟩
        | exact ⟨hh.1, RoundIn.mono hh.2 (fun e w'' he => by cases e <;> first | exact he | exact hq _ _ _ he nofun | exact lo he)⟩
        | exact hh.elim
  | halt x w' => cases x <;> simp only [Oper.uponIn] at hh ⊢ <;> first | exact hq _ _ _ hh nofun | exact lo hh | exact hh
/-- A list of plain operations ahead of others. -/
theorem wpListIn_app {r : Option Nat} {ops : Array Oper} {Q : Exit → Act → World → Prop} {rest : List Oper} : ∀ {l : List Oper} {a : Act} {w : World}, l.all nodf = true → wpLs P ops (fun e a w => e = .normal ∧ wpListIn (wideR r) 0 P ops Q rest a w) l a w → wpListIn (wideR r) 0 P ops Q (l ++ rest) a w
  | [], a, w, _, h => h.2
  | o :: l, a, w, hd, h => by
    simp only [List.all_cons, Bool.and_eq_true] at hd
    unfold wpLs at h
    rw [List.cons_append]
    unfold wpListIn
    split
    · rename_i hw; rw [if_pos hw] at h
      exact wpIn_post (fun e a w h hne => absurd h.1 hne) (Oper.wpIn_mono (fun a w h => wpListIn_app hd.2 h) (wpIn_of_wp hd.1 h))
    · rename_i hw; rw [if_neg hw] at h
      exact ⟨fun _ _ => trivial, wpListIn_app hd.2 h⟩
theorem relL_map {f : Operand → SV} {g : Operand → Value} (hf : ∀ x, SV.rel m K (f x) (g x)) : ∀ l : List Operand, SV.relL m K (l.map f) (l.map g)
  | [] => rfl
  | x :: l => ⟨_, _, rfl, hf x, relL_map hf l⟩
theorem yop_ok {J : Rn P} (hJ : JOk J) {o : Oper} {h : Hn P} {k : Hn P → Zt → Option R} {r : R} {ops : Array Oper} {rest : List Oper} {Q : Exit → Act → World → Prop} (hh : yop J n o h σ k = some r) (hr : Rel E fr σ m K ρ w)
    (hk : ∀ h' σ' m' K' ρ' w', Rel E fr σ' m' K' ρ' w' → Same σ σ' → k h' σ' = some r → wpListIn (wideR E.rd) 0 P ops Q rest (act1 n ρ') w') : wpListIn (wideR E.rd) 0 P ops Q (o :: rest) (act1 n ρ) w := by
  unfold yop at hh
  split at hh
  · rename_i d c args ats t pos af
    obtain ⟨l, hv, fn, tmps, ao, bo, hy, hround⟩ := yldRun_ok hJ hh hr (hr.toPur.ev n c) (relL_map (fun x => hr.toPur.evr n x) args.toList)
      (X := fun e w'' => match e with
        | .returned v => wpListIn (wideR E.rd) 0 P ops Q rest ((act1 n ρ).put (some d) v) w''
        | .panicked chain => Q (.panic chain) (act1 n ρ) w''
        | .outgrown => LetsOut Q)
      (fun h' σ' m' K' w' b h1 h2 h3 => by
        show wpListIn _ _ _ _ _ _ ((act1 n ρ).put (some d) (.bool b)) _
        rw [put_act1]
        exact hk h' _ m' K' _ w' (h1.set (d := d) (sv := .bool b) (v := .bool b) rfl) h2 h3)
    unfold wpListIn
    rw [if_pos (by simp [Region.wanted])]
    refine ⟨fun _ _ => trivial, ?_⟩
    rw [semR rfl, eval_act1]
    have hrun : (execOp (Go.Proofs.Ytgdjfpmjbjkmhaa.ev n ρ.f) ⟨some d, .call ⟨.value c, args, ats⟩, t, pos, af, none⟩).run P w = .ok (.round l fn tmps ao bo) w := by
      have e : (args.toList.map (Go.Proofs.Ytgdjfpmjbjkmhaa.ev n ρ.f)).toArray = args.map (Go.Proofs.Ytgdjfpmjbjkmhaa.ev n ρ.f) := Array.ext' (by rw [Array.toList_map])
      rw [e] at hy
      have hv' : Go.Proofs.Ytgdjfpmjbjkmhaa.ev n ρ.f c = .func (.yield l) #[] #[] := hv
      simp [execOp, resolve, Deferred.ofValue, hv', invoke, hy]
    rw [hrun, Oper.uponIn_round]
    refine ⟨fun hh => (by cases (show false = true from hh)), hround.mono (fun e w'' he => ?_)⟩
    cases e <;> exact he
  · cases hh
theorem slA_look : ∀ {vs : List SV} {us : List Value} {j i : Nat} {sv : SV}, SV.relL m K vs us → look (slA j vs) i = some sv → ∃ k u, i = j + k ∧ us[k]? = some u ∧ SV.rel m K sv u
  | [], us, j, i, sv, h, hl => by cases hl
  | v :: vs, us, j, i, sv, h, hl => by
    obtain ⟨u, q, rfl, h1, h2⟩ := relL_cons h
    change (bif Nat.beq j i then some v else look (slA (j + 1) vs) i) = some sv at hl
    cases hb : Nat.beq j i with
    | true =>
      rw [hb] at hl
      cases hl
      exact ⟨0, u, (Nat.eq_of_beq_eq_true hb).symm, rfl, h1⟩
    | false =>
      rw [hb] at hl
      obtain ⟨k, u', e1, e2, e3⟩ := slA_look (j := j + 1) h2 hl
      exact ⟨k + 1, u', by omega, by simpa using e2, e3⟩
theorem res_none {fn : Func} {tmps : Array Value} (h : fn.results.isEmpty = true) : ∃ v, (results fn tmps).run P w = .ok v w := by
  have h' : fn.results = #[] := by simpa using h
  refine ⟨.tuple #[], ?_⟩
  unfold results
  simp [h']
theorem rg_core {J : Rn P} (hJ : JOk J) {ps : Array Nat} {ao bo : Code} {h0 : Hn P} {k : Exit → Hn P → Zt → Option R} {r : R} {Q : Exit → Act → World → Prop} {q : ItFn P} {c : Code} (hc : q.fn.body = some c) {cs : List SV} {us : List Value} (hus : SV.relL m K cs us)
    (hres : q.fn.results.isEmpty = true) (hlen : cs.length + 1 ≤ q.fn.ntmps)
    (hh : J q.fn.ntmps c R h0 ⟨fun _ => .any, slA 0 (.yld σ.nx n σ.get ps ao bo :: cs), .lp σ.nx .ready :: σ.H, σ.Hf, σ.nx + 1, false⟩ (fun e h σ' =>
          bif exOver e then (match pick (HA.lpR σ.nx) σ'.H with
            | some (s, H) => LSt.go s k h ⟨σ.base, σ.top, H, σ.Hf, σ'.nx, false⟩
            | none => none) else none) = some r)
    (hr : Rel E fr σ m K ρ w) {l : Nat} {mark : List Deferred} {K1 : Hp} {w1 : World} {fn1 : FuncId} {D : Nat}
    (hs1 : Sep E K1 (LpA l { state := .ready, pending := none, fn := fn1, tmps := frm n ρ.f, params := ps, assign := ao, body := bo, defers := D } :: σ.atoms fr m) w1) (hK1 : K.le K1) (hm1 : MOk fr.k0 K1 (mark ++ ρ.ds))
    (hQ : ∀ e h' σ' m' K' ρ' w', Rel E fr σ' m' K' ρ' w' → Same σ σ' → k e h' σ' = some r → Q e (act1 n ρ') w') :
    CallsIn (wideR E.rd) 0 P q.f (#[.func (.yield l) #[] #[]] ++ us.toArray) w1 (rangePost (wideR E.rd) 0 P l Q { act1 n ρ with defers := mark ++ (act1 n ρ).defers }) := by
  obtain ⟨r1, hr1⟩ : ∃ r1 : Loop, r1 = { state := .ready, pending := none, fn := fn1, tmps := frm n ρ.f, params := ps, assign := ao, body := bo, defers := D } := ⟨_, rfl⟩
  rw [← hr1] at hs1
  obtain ⟨args, hargs⟩ : ∃ args : Array Value, args = (Value.func (.yield l) #[] #[] :: us).toArray := ⟨_, rfl⟩
  have hargs' : (#[.func (.yield l) #[] #[]] ++ us.toArray : Array Value) = args := by rw [hargs]; exact Array.ext' (by simp)
  rw [hargs']
  have hp := pre_app m [M.loop l r1]
  have hmm : ∀ (i : Nat) (x : M), m[i]? = some x → (m ++ [M.loop l r1])[i]? = some x := fun _ _ k => pre_get hp k
  have hgn : (m ++ [M.loop l r1])[σ.nx]? = some (.loop l r1) := get_new0 hr.nx
  have hsz : args.size ≤ q.fn.ntmps := by
    rw [hargs, List.size_toArray, List.length_cons, relL_len2 hus]
    exact hlen
  have hall : SV.relL (m ++ [M.loop l r1]) K1 (.yld σ.nx n σ.get ps ao bo :: cs) (Value.func (.yield l) #[] #[] :: us) :=
    ⟨_, _, rfl, ⟨l, r1, ρ.f, rfl, hgn, by rw [hr1], by rw [hr1], by rw [hr1], by rw [hr1], fun j => SV.mono hmm hK1 _ (hr.toPur.get j)⟩, SV.monoL hmm hK1 _ hus⟩
  have hrel : Rel E.out0 ⟨m ++ [M.loop l r1], K1, args1 args, fun _ => false, fr.F, K1⟩ ⟨fun _ => .any, slA 0 (.yld σ.nx n σ.get ps ao bo :: cs), .lp σ.nx .ready :: σ.H, σ.Hf, σ.nx + 1, false⟩ (m ++ [M.loop l r1]) K1 (args1 args) w1 := by
    refine ⟨⟨List.prefix_refl _, Hp.le_refl K1, by simp [hr.nx], fun e => (by cases e), fun i => trivial, fun i e => (by cases e), fun i _ => .inr rfl, fun i sv hi => ?_, fun a ha => ?_, fun a ha => HA.ok_mono hmm hK1 (hr.toPur.all a (List.mem_append_right _ ha)), MOk.nil hm1.gk (Hp.le_refl K1)⟩, ?_⟩
    · obtain ⟨j, u, e1, e2, e3⟩ := slA_look hall hi
      have : args1 args i = u := by
        show args0 args i = u
        unfold args0
        rw [e1, Nat.zero_add, hargs]
        simp [e2]
      rw [this]; exact e3
    · rcases List.mem_cons.1 ha with rfl | ha
      · exact ⟨l, r1, hgn⟩
      · exact HA.ok_mono hmm hK1 (hr.okH a ha)
    · show Sep E.out0 K1 ((HA.lp σ.nx .ready :: σ.H).map (HA.conc (m ++ [M.loop l r1])) ++ (σ.Hf.map (HA.conc (m ++ [M.loop l r1])) ++ fr.F)) w1
      have e1 : σ.H.map (HA.conc (m ++ [M.loop l r1])) = σ.H.map (HA.conc m) := map_conc_mono (K := K) hmm hr.okH
      have e2 : σ.Hf.map (HA.conc (m ++ [M.loop l r1])) = σ.Hf.map (HA.conc fr.m) := (map_conc_mono (K := K) hmm (fun a ha => hr.toPur.all a (List.mem_append_right _ ha))).trans hr.toPur.fz'
      rw [List.map_cons, e1, e2]
      have e3 : HA.conc (m ++ [M.loop l r1]) (.lp σ.nx .ready) = LpA l r1 := by
        simp only [HA.conc, hgn]
        rw [hr1]; rfl
      rw [e3]
      exact hs1.out0
  have key : CallsIn Fence.wide 0 P q.f args w1 (rangePost (wideR E.rd) 0 P l Q { act1 n ρ with defers := mark ++ (act1 n ρ).defers }) := by
    refine callsIn_of_wp_marks (F := Fence.wide) (n := 0) q.at_ hc trivial ?_
    rw [frm_args hsz]
    refine hJ q.fn.ntmps c R E.out0 ⟨m ++ [M.loop l r1], K1, args1 args, fun _ => false, fr.F, K1⟩ (fun l2 e => by cases e) h0 _ _ r _ K1 (args1 args) w1 _ hh hrel (fun e h' σ' m' K' ρ' w' h1 h2 h3 => ?_)
    replace h3 := bift h3; obtain ⟨hov, h3⟩ := h3
    have fini : LeavesInM Fence.wide 0 P q.fn (act1 q.fn.ntmps ρ').tmps (rangePost (wideR E.rd) 0 P l Q { act1 n ρ with defers := mark ++ (act1 n ρ).defers }) ρ'.ds .returning w' := by
      split at h3
      · rename_i s H hq
        obtain ⟨a, ha', hmem, hperm⟩ := pick_spec hq
        obtain rfl := lpR_eq ha'
        have hsub : ∀ a ∈ H, a ∈ σ'.H := fun a ha => hperm.symm.subset (List.mem_cons_of_mem _ ha)
        refine marks_leave ρ'.ds h1.mks h1.toSep (fun K2 w2 c1 c2 c3 => ?_)
        obtain ⟨v, hv⟩ := res_none (P := P) (w := w2) (tmps := (act1 q.fn.ntmps ρ').tmps) hres
        refine ⟨v, hv, ?_⟩
        have g := h1.unmark c1 c2 c2 c3
        have hmp : m ++ [M.loop l r1] <+: m' := g.hm
        have hgn' : m'[σ.nx]? = some (.loop l r1) := pre_get hmp hgn
        have hm2 : m <+: m' := hp.trans hmp
        have hm2' : ∀ (i : Nat) (x : M), m[i]? = some x → m'[i]? = some x := fun _ _ k => pre_get hm2 k
        have e2 : σ'.Hf.map (HA.conc (m ++ [M.loop l r1])) = σ.Hf.map (HA.conc fr.m) := by
          rw [h2.2]
          exact (map_conc_mono (K := K) hmm (fun a ha => hr.toPur.all a (List.mem_append_right _ ha))).trans hr.toPur.fz'
        have hs3 : Sep E K2 (LpA l (s.cr r1) :: (H.map (HA.conc m') ++ (σ.Hf.map (HA.conc fr.m) ++ fr.F))) w2 := by
          have := Sep.perm ((hperm.map (HA.conc m')).append_right (σ'.Hf.map (HA.conc (m ++ [M.loop l r1])) ++ fr.F)) c3.back
          rw [e2] at this
          simpa only [List.map_cons, HA.conc, hgn', List.cons_append] using this
        have hnb : (s.cr r1).state ≠ .busy := by cases s <;> simp [LSt.cr]
        refine ⟨_, _, run_endLoop (LpA.at hs3) hnb, ?_⟩
        have hs4 := (LpA.put (r' := { s.cr r1 with state := .exhausted }) hs3).drop
        have hKK : K.le K2 := hK1.trans c2
        have hrel4 : Rel E fr ⟨σ.base, σ.top, H, σ.Hf, σ'.nx, false⟩ m' K2 ⟨ρ.f, mark ++ ρ.ds⟩ (w2.putObj l (.loop { s.cr r1 with state := .exhausted })) :=
          ⟨⟨hr.hm.trans hm2, hr.hK.trans hKK, g.nx, fun e => (by cases e), hr.base, hr.dead, hr.old, fun i sv hi => SV.mono hm2' hKK sv (hr.top i sv hi), fun a ha => g.okH a (hsub a ha), hr.okF, hm1.mono c2⟩, hs4⟩
        cases s with
        | ready => exact hQ .normal h' _ m' K2 ⟨ρ.f, mark ++ ρ.ds⟩ _ hrel4 ⟨rfl, rfl⟩ h3
        | ret => exact wpIn_ret (hQ .ret h' _ m' K2 ⟨ρ.f, mark ++ ρ.ds⟩ _ hrel4 ⟨rfl, rfl⟩ h3)
        | exit id => exact wpIn_exit (hQ (.exit id) h' _ m' K2 ⟨ρ.f, mark ++ ρ.ds⟩ _ hrel4 ⟨rfl, rfl⟩ h3)
      · cases h3
    cases e with
    | normal => exact fini
    | ret => exact fini
    | exit id => cases hov
    | goto t => cases hov
    | panic ch => cases hov
    | outgrown => cases hov
  exact key
theorem rgRun_ok {J : Rn P} (hJ : JOk J) (hrd : RdOk E fr) {g : Operand} {ps : Array Nat} {ao bo : Code} {h : Hn P} {k : Exit → Hn P → Zt → Option R} {r : R} {Q : Exit → Act → World → Prop} (hh : rgRun J n g ps ao bo h σ k = some r) (hr : Rel E fr σ m K ρ w)
    (hQ : ∀ e h' σ' m' K' ρ' w', Rel E fr σ' m' K' ρ' w' → Same σ σ' → k e h' σ' = some r → Q e (act1 n ρ') w') : (Code.rangeFunc g ps ao bo).wpIn (wideR E.rd) 0 P Q (act1 n ρ) w := by
  unfold rgRun at hh
  split at hh
  · rename_i q h0
    split at hh
    · rename_i f cs e
      split at hh
      · rename_i c hc
        replace hh := bift hh; obtain ⟨hb, hh⟩ := hh
        simp only [Bool.and_eq_true] at hb
        obtain ⟨hb1, hb2, hb3⟩ := hb
        obtain rfl := Nat.eq_of_beq_eq_true hb1
        have hv := hr.toPur.ev n g
        rw [e] at hv
        obtain ⟨us, hv, hus⟩ := hv
        refine wpIn_rangeFunc (fun fn hfn => ?_)
        have tail : ∀ {l : Nat} {mark : List Deferred} {K1 : Hp} {w1 : World} {D : Nat}, (Instr.enterLoop fn (act1 n ρ).tmps ps ao bo E.rd).run P w = .ok (l, mark) w1 →
            Sep E K1 (LpA l { state := .ready, pending := none, fn := fn, tmps := frm n ρ.f, params := ps, assign := ao, body := bo, defers := D } :: σ.atoms fr m) w1 → K.le K1 → MOk fr.k0 K1 (mark ++ ρ.ds) →
            ∃ (l : Nat) (mark : List Deferred) (w₁ : World) (d : Deferred) (w₁' : World) (f : FuncId) (args : Array Value) (w₂ : World),
              (Instr.enterLoop fn (act1 n ρ).tmps ps ao bo (wideR E.rd).round).run P w = .ok (l, mark) w₁ ∧
              (resolve (act1 n ρ).eval (rangeCall g l) 0).run P w₁ = .ok d w₁' ∧
              (∀ f', Target.leads P w₁' d.target d.args = some f' → (wideR E.rd).fn f') ∧
              (invoke d.target d.args).run P w₁' = .ok (.enter f args) w₂ ∧
              ((wideR E.rd).depth.isSome = true → 1 ≤ 0) ∧
              CallsIn (wideR E.rd) (0 - 1) P f args w₂ (rangePost (wideR E.rd) 0 P l Q { act1 n ρ with defers := mark ++ (act1 n ρ).defers }) := fun {l mark K1 w1 D} he hs1 hK1 hm1 => by
          refine ⟨l, mark, w1, { target := .fn (.func q.f) us.toArray, args := #[.func (.yield l) #[] #[]] }, w1, q.f, #[.func (.yield l) #[] #[]] ++ us.toArray, w1, he, ?_, fun _ _ => trivial, ?_, fun hh => (by cases (show false = true from hh)), ?_⟩
          · have hv' : Go.Proofs.Ytgdjfpmjbjkmhaa.ev n ρ.f g = .func (.func q.f) #[] us.toArray := hv
            rw [eval_act1]
            have hc2 : Go.Proofs.Ytgdjfpmjbjkmhaa.ev n ρ.f (.const (.func (.yield l) #[] #[])) = .func (.yield l) #[] #[] := rfl
            simp [resolve, Deferred.ofValue, hv', hc2]
          · exact q.ent _ _
          · exact rg_core hJ hc hus hb2 (Nat.le_of_ble_eq_true hb3) hh hr hs1 hK1 hm1 hQ
        cases hE : E.rd with
        | none =>
          rw [hE] at tail
          obtain ⟨s1, hD⟩ := (hr.toSep.allocO (.deferred (some []))).known
          have s2 := s1.allocO (.loop { state := .ready, pending := none, fn := fn, tmps := frm n ρ.f, params := ps, assign := ao, body := bo, defers := w.heap.size })
          rw [World.size_alloc] at s2
          refine tail (run_enterLoop_outer fn _ ps ao bo) s2 (Hp.le_join _ _) ⟨⟨hr.mks.1.1, hr.mks.1.2.trans (Hp.le_join _ _)⟩, fun d hd => ?_, ?_⟩
          · rcases List.mem_append.1 hd with hd | hd
            · simp only [List.mem_singleton] at hd
              subst hd
              refine ⟨w.heap.size, rfl, Hp.join_right (one_of _ _) hD, ?_⟩
              cases hk0 : fr.k0 w.heap.size with
              | none => rfl
              | some x => rw [hr.mks.1.2 _ _ hk0] at hD; cases hD
            · obtain ⟨D', e1, e2, e3⟩ := hr.mks.2.1 d hd
              exact ⟨D', e1, Hp.le_join _ _ _ _ e2, e3⟩
          · refine List.nodup_cons.2 ⟨fun hd => ?_, hr.mks.2.2⟩
            obtain ⟨D', e1, e2, e3⟩ := hr.mks.2.1 _ hd
            simp only [Deferred.mk.injEq, Target.collected.injEq, and_true] at e1
            rw [← e1, hD] at e2
            cases e2
        | some l0 =>
          rw [hE] at tail
          obtain ⟨r0, hmem⟩ := hrd l0 hE
          have hw0 : w.heap[l0]? = some (.loop r0) := by
            obtain ⟨i, hi⟩ := List.getElem?_of_mem (show LpA l0 r0 ∈ σ.atoms fr m from List.mem_append_right _ (List.mem_append_right _ hmem))
            exact LpA.at (Sep.front i hi hr.toSep)
          exact tail (enter_inner hw0 fn _ ps ao bo) (hr.toSep.allocO _) (Hp.le_refl K) (by simpa using hr.mks)
      · cases hh
    · cases hh
  · cases hh
end
end Go.Proofs.Ytgdjfpmjbjkmhaa
namespace Go.Proofs.Ytgdjfpmjbjkmhaa
open Go.RowKit
set_option linter.unusedVariables false
set_option linter.unusedSimpArgs false
set_option linter.unnecessarySimpa false
set_option linter.unusedSectionVars false
variable [BldA]
section
variable {R : Type} {P : Program} {E : En} {n : Nat} {m m' : List M} {K K' : Hp} {fr : Frz} {σ σ' : Zt} {ρ ρ' : Sl1} {w w' : World}
theorem joinN_ok {c : Code} {f : Hn P → Zt → (R : Type) → (Exit → Hn P → Zt → Option R) → Option R} (hf : Fok P n c f) (hrd : RdOk E fr) {s : Sh} {act W : List Nat} {a b : Hn P} {k : Hn P → Zt → Option R} {r : R} {Q : Exit → Act → World → Prop} (h : joinN f s act W a b σ k = some r) (hr : Rel E fr σ m K ρ w)
    (hQ : ∀ h' σ' m' K' ρ' w', Rel E fr σ' m' K' ρ' w' → Same σ σ' → k h' σ' = some r → Q .normal (Go.Proofs.Ytgdjfpmjbjkmhaa.act1 n ρ') w') : c.wpIn (wideR E.rd) 0 P Q (Go.Proofs.Ytgdjfpmjbjkmhaa.act1 n ρ) w := by
  unfold joinN at h
  obtain ⟨x, hx, h⟩ := ob h
  refine hf _ E ⟨m, K, ρ, fun _ => false, fr.F, fr.k0⟩ hrd a (σ.frz act) _ x m K ρ w Q hx (hr.frz act) (fun e h' σ' m' K' ρ' w' h1 h2 h3 => ?_)
  cases e with
  | normal =>
    obtain ⟨h'', σ2, m2, K2, g1, g2, g3⟩ := prep_ok h' h3 h1
    have hi : Inn σ fr ⟨m, K, ρ, fun _ => false, fr.F, fr.k0⟩ m K ρ (minus σ.H act) σ2 W := ⟨rfl, rfl, rfl, rfl, rfl, (g2.2.trans h2.2), minus_sub, fun _ _ => rfl⟩
    obtain ⟨σ3, m3, q1, q2, q3⟩ := lay_ok hr hi g3 g1 h
    exact hQ b σ3 m3 K2 ρ' w' q3 q2 q1
  | _ => cases h3
theorem joinX_ok {c : Code} {f : Hn P → Zt → (R : Type) → (Exit → Hn P → Zt → Option R) → Option R} (hf : Fok P n c f) (hrd : RdOk E fr) {s : Sh} {act W : List Nat} {a b : Hn P} {k : Exit → Hn P → Zt → Option R} {r : R} {Q : Exit → Act → World → Prop} (h : joinX f s act W a b σ k = some r) (hr : Rel E fr σ m K ρ w)
    (hQ : ∀ e h' σ' m' K' ρ' w', Rel E fr σ' m' K' ρ' w' → Same σ σ' → k e h' σ' = some r → Q e (Go.Proofs.Ytgdjfpmjbjkmhaa.act1 n ρ') w') : c.wpIn (wideR E.rd) 0 P Q (Go.Proofs.Ytgdjfpmjbjkmhaa.act1 n ρ) w := by
  unfold joinX at h
  obtain ⟨o, ho, h⟩ := ob h
  refine hf _ E ⟨m, K, ρ, fun _ => false, fr.F, fr.k0⟩ hrd a (σ.frz act) _ o m K ρ w Q ho (hr.frz act) (fun e h' σ' m' K' ρ' w' h1 h2 h3 => ?_)
  have other : (k e h' (σ.thaw σ' (minus σ.H act) [])).map Sum.inr = some o → Q e (Go.Proofs.Ytgdjfpmjbjkmhaa.act1 n ρ') w' := fun h3 => by
    rw [Option.map_eq_some_iff] at h3
    obtain ⟨r', h4, rfl⟩ := h3
    cases h
    have hi : Inn σ fr ⟨m, K, ρ, fun _ => false, fr.F, fr.k0⟩ m K ρ (minus σ.H act) σ' [] := ⟨rfl, rfl, rfl, rfl, rfl, h2.2, minus_sub, fun _ _ => rfl⟩
    obtain ⟨q1, q2⟩ := thaw_ok hr hi h1
    exact hQ e h' _ m' K' ρ' w' q2 q1 h4
  cases e with
  | normal =>
    obtain ⟨h'', σ2, m2, K2, g1, g2, g3⟩ := prep_ok h' h3 h1
    rw [Option.map_eq_some_iff] at g1
    obtain ⟨x, g1, rfl⟩ := g1
    have hi : Inn σ fr ⟨m, K, ρ, fun _ => false, fr.F, fr.k0⟩ m K ρ (minus σ.H act) σ2 W := ⟨rfl, rfl, rfl, rfl, rfl, (g2.2.trans h2.2), minus_sub, fun _ _ => rfl⟩
    obtain ⟨σ3, m3, q1, q2, q3⟩ := lay_ok hr hi g3 g1 h
    exact hQ .normal b σ3 m3 K2 ρ' w' q3 q2 q1
  | _ => exact other h3
/-- The head of a loop's round. -/
theorem head_ok {s : Sh} {W : List Nat} {rest : List HA} {x : TL s.ts} (hr : Rel E fr σ m K ρ w) {g : Gt} {f : Nat → SV} {H : List HA} {us : List Atom}
    (hg : s.get f H = some g) (hx : TL.of s.ts g.ds = some x) (hok : ∀ a ∈ H, HA.ok m' K' a) (hf : ∀ i, SV.rel m' K' (f i) (ρ' i)) (hmm : m <+: m') (hKK : K.le K') (hrest : ∀ a ∈ rest, a ∈ σ.H) (hs : Sep E K' (H.map (HA.conc m') ++ (us ++ (rest.map (HA.conc m) ++ σ.fz fr))) w')
    (hds : MOk fr.k0 K' ρ'.ds) (hold : ∀ i, i ∉ W → ρ' i = ρ i) {vs : List (Nat × SV)} {u : Un} (hu : s.un (TL.list s.ts x) σ.nx = some (vs, u)) :
    ∃ m'', Rel E ⟨m, K, ρ, fun i => W.contains i, fr.F, fr.k0⟩ ⟨fun i => bif W.contains i then .any else σ.get i, subT (fillF σ) vs, u.H.map (HA.sub (fillF σ)), rest ++ σ.Hf, u.nx, false⟩ m'' K' ρ' w' := by
  rw [TL.of_list hx] at hu
  have hoo : oldOk s.bl m.length = true := by
    unfold Sh.un at hu
    rw [hr.nx]
    cases ho : oldOk s.bl σ.nx with
    | true => rfl
    | false => rw [ho] at hu; cases hu
  obtain ⟨vs', u', ms, e1, e2, e3, e4, e5, e6, e7, e8⟩ := Sh.get_un hg hok hmm hoo
  rw [hr.nx, hu] at e1
  cases e1
  have hp' := pre_app m ms
  refine ⟨m ++ ms, Rel.subs (σ := ⟨fun i => bif W.contains i then .any else σ.get i, vs, u.H, rest ++ σ.Hf, u.nx, false⟩) (fillF_rel hr.toPur (m' := m ++ ms) (fun _ _ k => pre_get hp' k) hKK) ⟨⟨pre_app m ms, hKK, e2, fun e => (by cases e), fun i => ?_, fun i hi => ?_, fun i hi => ?_, fun i sv hi => slC_look e3 hi _ (hf i), e4, fun a ha => ?_, hds⟩, ?_⟩⟩
  · show SV.rel m K (bif W.contains i then .any else σ.get i) (ρ i)
    cases W.contains i with
    | true => exact trivial
    | false => exact hr.toPur.get i
  · show (bif W.contains i then SV.any else σ.get i) = .any
    have hi : W.contains i = true := hi
    rw [hi]; rfl
  · by_cases hW : i ∈ W
    · exact .inl (by simpa using hW)
    · exact .inr (hold i hW)
  · refine hr.toPur.all a ?_
    rcases List.mem_append.1 ha with ha | ha
    · exact List.mem_append_left _ (hrest a ha)
    · exact List.mem_append_right _ ha
  · have s1 := e6 E _ w' hs
    have s2 : Sep E K' ((g.H.map (HA.conc m') ++ us) ++ (u.H.map (HA.conc (m ++ ms)) ++ (rest.map (HA.conc m) ++ σ.fz fr))) w' := Sep.perm (by
      rw [List.append_assoc]
      refine (perm3 _ _ _).trans (List.Perm.append_left _ (perm3 _ _ _)) ) s1
    show Sep E K' (u.H.map (HA.conc (m ++ ms)) ++ ((rest ++ σ.Hf).map (HA.conc m) ++ fr.F)) w'
    rw [List.map_append, hr.toPur.fz', List.append_assoc]
    exact Sep.drops s2
theorem get_oldOk {s : Sh} {ds : List Dat} {nx : Nat} {o : List (Nat × SV) × Un} (h : s.un ds nx = some o) : oldOk s.bl nx = true := by
  unfold Sh.un at h
  cases ho : oldOk s.bl nx with
  | true => rfl
  | false => rw [ho] at h; cases h
theorem lpRun_ok {c : Code} {f : Hn P → Zt → (R : Type) → (Exit → Hn P → Zt → Option R) → Option R} (hf : Fok P n c f) (hrd : RdOk E fr) {s : Sh} {W : List Nat} {a : Hn P} {k : Exit → Hn P → Zt → Option R} {r : R} {Q : Exit → Act → World → Prop} (h : lpRun f s W a σ k = some r) (hr : Rel E fr σ m K ρ w)
    (hQ : ∀ e h' σ' m' K' ρ' w', Rel E fr σ' m' K' ρ' w' → Same σ σ' → k e h' σ' = some r → Q e (Go.Proofs.Ytgdjfpmjbjkmhaa.act1 n ρ') w') : (Code.loop c).wpIn (wideR E.rd) 0 P Q (Go.Proofs.Ytgdjfpmjbjkmhaa.act1 n ρ) w := by
  unfold lpRun at h
  split at h
  · rename_i g hg
    split at h
    · rename_i x0 hx0
      obtain ⟨N, hN⟩ := loop_iter h
      refine wpIn_loop_rounds N ?_
      -- a round's head
      have round : ∀ (N : Nat) (x : TL s.ts) (m1 : List M) (K1 : Hp) (ρ1 : Sl1) (w1 : World) (vs : List (Nat × SV)) (u : Un), iter (lpRound f s W g a σ k) N x = some r → s.un (TL.list s.ts x) σ.nx = some (vs, u) →
          Rel E ⟨m, K, ρ, fun i => W.contains i, fr.F, fr.k0⟩ ⟨fun i => bif W.contains i then .any else σ.get i, subT (fillF σ) vs, u.H.map (HA.sub (fillF σ)), g.H ++ σ.Hf, u.nx, false⟩ m1 K1 ρ1 w1 → Code.roundsIn (wideR E.rd) 0 P c Q N (Go.Proofs.Ytgdjfpmjbjkmhaa.act1 n ρ1) w1 := by
        intro N
        induction N with
        | zero => intro x m1 K1 ρ1 w1 vs u hi; cases hi
        | succ N ih =>
          intro x m1 K1 ρ1 w1 vs u hi hu hrel
          unfold iter at hi
          obtain ⟨o, ho, hi⟩ := ob hi
          rw [roundsIn_succ]
          unfold lpRound at ho
          rw [hu] at ho
          simp only at ho
          have hgsub : ∀ a ∈ g.H, a ∈ σ.H := by
            obtain ⟨_, _, _, _, _, _, _, e5, _⟩ := Sh.get_un (m := m) (K := K) hg hr.okH (List.prefix_refl m) (by rw [hr.nx]; exact get_oldOk hu)
            exact e5
          refine hf _ E ⟨m, K, ρ, fun i => W.contains i, fr.F, fr.k0⟩ hrd a _ _ o m1 K1 ρ1 w1 _ ho hrel (fun e h' σ' m' K' ρ' w' h1 h2 h3 => ?_)
          have other : e ≠ .normal → (k e h' (σ.thaw σ' g.H W)).map Sum.inr = some o → Q e (Go.Proofs.Ytgdjfpmjbjkmhaa.act1 n ρ') w' := fun _ h3 => by
            rw [Option.map_eq_some_iff] at h3
            obtain ⟨r', h4, rfl⟩ := h3
            cases hi
            have hii : Inn σ fr ⟨m, K, ρ, fun i => W.contains i, fr.F, fr.k0⟩ m K ρ g.H σ' W := ⟨rfl, rfl, rfl, rfl, rfl, h2.2, hgsub, fun i hi => by simpa using hi⟩
            obtain ⟨q1, q2⟩ := thaw_ok hr hii h1
            exact hQ e h' _ m' K' ρ' w' q2 q1 h4
          cases e with
          | normal =>
            obtain ⟨h'', σ2, m2, K2, g1, g2, g3⟩ := prep_ok h' h3 h1
            rw [Option.map_eq_some_iff] at g1
            obtain ⟨x', g1, rfl⟩ := g1
            have hsame := h2.trans g2
            unfold Zt.pack at g1
            replace g1 := bift g1; obtain ⟨hk, g1⟩ := g1
            split at g1
            · rename_i g' hg'
              cases hu' : s.un (TL.list s.ts x') σ.nx with
              | none =>
                -- the next round would not run
                cases N with
                | zero => cases hi
                | succ N =>
                  unfold iter at hi
                  obtain ⟨o2, ho2, _⟩ := ob hi
                  unfold lpRound at ho2
                  rw [hu'] at ho2
                  cases ho2
              | some q =>
                obtain ⟨vs', u'⟩ := q
                have hii : Inn σ fr ⟨m, K, ρ, fun i => W.contains i, fr.F, fr.k0⟩ m K ρ g.H σ2 W := ⟨rfl, rfl, rfl, rfl, rfl, hsame.2, hgsub, fun i hi => by simpa using hi⟩
                obtain ⟨m'', hrel'⟩ := head_ok (W := W) (rest := g.H) (us := []) hr hg' g1 g3.okH g3.toPur.get g3.hm g3.hK hgsub (by rw [List.nil_append]; exact hii.sep hr g3) g3.mks (fun i hi => by
                  have := g3.old i (keysIn_spec hk hi)
                  rcases this with h4 | h4
                  · exact absurd (by simpa using h4) hi
                  · exact h4) hu'
                exact ih x' m'' K2 ρ' w' vs' u' hi hu' hrel'
            · cases g1
          | exit i => exact other nofun h3
          | goto l => exact other nofun h3
          | ret => exact other nofun h3
          | panic c => exact other nofun h3
          | outgrown => exact other nofun h3
      cases hu : s.un (TL.list s.ts x0) σ.nx with
      | none =>
        cases N with
        | zero => cases hN
        | succ N =>
          unfold iter at hN
          obtain ⟨o2, ho2, _⟩ := ob hN
          unfold lpRound at ho2
          rw [hu] at ho2
          cases ho2
      | some q =>
        obtain ⟨vs, u⟩ := q
        have hu2 := hu
        rw [TL.of_list hx0] at hu2
        obtain ⟨vs', u', ms, e1, e2, e3, e4, e5, e6, e7, e8⟩ := Sh.get_un (m := m) (K := K) hg hr.okH (List.prefix_refl m) (by rw [hr.nx]; exact get_oldOk hu2)
        rw [hr.nx, hu2] at e1
        cases e1
        have hp' := pre_app m ms
        refine round N x0 (m ++ ms) K ρ w vs u hN hu (Rel.subs (σ := ⟨fun i => bif W.contains i then .any else σ.get i, vs, u.H, g.H ++ σ.Hf, u.nx, false⟩) (fillF_rel hr.toPur (m' := m ++ ms) (fun _ _ k => pre_get hp' k) (Hp.le_refl K)) ⟨⟨pre_app m ms, Hp.le_refl K, e2, fun e => (by cases e), fun i => ?_, fun i hi => ?_, fun i hi => .inr rfl, fun i sv hi => slC_look e3 hi _ (hr.toPur.get i), e4, fun a ha => ?_, hr.mks⟩, ?_⟩)
        · show SV.rel m K (bif W.contains i then .any else σ.get i) (ρ i)
          cases W.contains i with
          | true => exact trivial
          | false => exact hr.toPur.get i
        · show (bif W.contains i then SV.any else σ.get i) = .any
          have hi : W.contains i = true := hi
          rw [hi]; rfl
        · refine hr.toPur.all a ?_
          rcases List.mem_append.1 ha with ha | ha
          · exact List.mem_append_left _ (e5 a ha)
          · exact List.mem_append_right _ ha
        · have s1 := e6 E _ w hr.toSep
          show Sep E K (u.H.map (HA.conc (m ++ ms)) ++ ((g.H ++ σ.Hf).map (HA.conc m) ++ fr.F)) w
          rw [List.map_append, hr.toPur.fz', List.append_assoc]
          exact s1
    · cases h
  · cases h
theorem unroll_ok {c : Code} {f : Hn P → Zt → (R : Type) → (Exit → Hn P → Zt → Option R) → Option R} (hf : Fok P n c f) (hrd : RdOk E fr) {k : Exit → Hn P → Zt → Option R} {r : R} {Q : Exit → Act → World → Prop}
    (hQ : ∀ e h' σ' m' K' ρ' w', Rel E fr σ' m' K' ρ' w' → Same σ σ' → k e h' σ' = some r → Q e (Go.Proofs.Ytgdjfpmjbjkmhaa.act1 n ρ') w') : ∀ (N : Nat) {h : Hn P} {σ1 : Zt} {m : List M} {K : Hp} {ρ : Sl1} {w : World}, unroll (fun h σ k => f h σ _ k) k N h σ1 = some r → Rel E fr σ1 m K ρ w → Same σ σ1 → Code.roundsIn (wideR E.rd) 0 P c Q N (Go.Proofs.Ytgdjfpmjbjkmhaa.act1 n ρ) w
  | 0, h, σ1, m, K, ρ, w, hh, hr, hs => by cases hh
  | N + 1, h, σ1, m, K, ρ, w, hh, hr, hs => by
    rw [roundsIn_succ]
    unfold unroll at hh
    refine hf _ E fr hrd h σ1 _ r m K ρ w _ hh hr (fun e h' σ' m' K' ρ' w' h1 h2 h3 => ?_)
    cases e with
    | normal => exact unroll_ok hf hrd hQ N h3 h1 (hs.trans h2)
    | exit i => exact hQ _ h' σ' m' K' ρ' w' h1 (hs.trans h2) h3
    | goto i => exact hQ _ h' σ' m' K' ρ' w' h1 (hs.trans h2) h3
    | ret => exact hQ _ h' σ' m' K' ρ' w' h1 (hs.trans h2) h3
    | panic i => exact hQ _ h' σ' m' K' ρ' w' h1 (hs.trans h2) h3
    | outgrown => exact hQ _ h' σ' m' K' ρ' w' h1 (hs.trans h2) h3
theorem onNorm_ok {y : Code} {k : Exit → Hn P → Zt → Option R} {f : Hn P → Zt → Option R} {r : R} {Q : Exit → Act → World → Prop} {σ0 : Zt} (hf : ∀ h' σ' m' K' ρ' w', Rel E fr σ' m' K' ρ' w' → Same σ0 σ' → f h' σ' = some r → y.wpIn (wideR E.rd) 0 P Q (Go.Proofs.Ytgdjfpmjbjkmhaa.act1 n ρ') w')
    (hQ : ∀ e h' σ' m' K' ρ' w', Rel E fr σ' m' K' ρ' w' → Same σ0 σ' → k e h' σ' = some r → Q e (Go.Proofs.Ytgdjfpmjbjkmhaa.act1 n ρ') w') : ∀ e h' σ' m' K' ρ' w', Rel E fr σ' m' K' ρ' w' → Same σ0 σ' → onNorm k f e h' σ' = some r → Exit.then (y.wpIn (wideR E.rd) 0 P Q) Q e (Go.Proofs.Ytgdjfpmjbjkmhaa.act1 n ρ') w' := by
  intro e h' σ' m' K' ρ' w' h1 h2 h3
  cases e with
  | normal => exact hf h' σ' m' K' ρ' w' h1 h2 h3
  | exit i => exact hQ _ h' σ' m' K' ρ' w' h1 h2 h3
  | goto i => exact hQ _ h' σ' m' K' ρ' w' h1 h2 h3
  | ret => exact hQ _ h' σ' m' K' ρ' w' h1 h2 h3
  | panic i => exact hQ _ h' σ' m' K' ρ' w' h1 h2 h3
  | outgrown => exact hQ _ h' σ' m' K' ρ' w' h1 h2 h3
theorem Sep.at_out {L : List Atom} {E : En} {K : Hp} {w : World} (h : Sep E K L w) : Sep E K L w := h
/-- Code run at a state does what is computed. -/
theorem exec_ok {J : Rn P} (hJ : JOk J) : ∀ (c : Code), Fok P n c (fun h σ R k => exec J n c h σ k)
  | .skip => fun R E fr hrd h σ k r m K ρ w Q hh hr hQ => wpIn_skip (hQ _ h σ m K ρ w hr Same.rfl' hh)
  | .ret => fun R E fr hrd h σ k r m K ρ w Q hh hr hQ => wpIn_ret (hQ _ h σ m K ρ w hr Same.rfl' hh)
  | .exit id => fun R E fr hrd h σ k r m K ρ w Q hh hr hQ => wpIn_exit (hQ _ h σ m K ρ w hr Same.rfl' hh)
  | .label l => fun R E fr hrd h σ k r m K ρ w Q hh hr hQ => wpIn_label (hQ _ h σ m K ρ w hr Same.rfl' hh)
  | .scope b => fun R E fr hrd h σ k r m K ρ w Q hh hr hQ => by
    refine wpIn_scope_straight (exec_ok hJ b R E fr hrd h σ _ r m K ρ w _ (show exec J n b h σ (onScope k) = some r from hh) hr (fun e h' σ' m' K' ρ' w' h1 h2 h3 => ?_))
    cases e with
    | goto l => cases h3
    | normal => exact hQ _ h' σ' m' K' ρ' w' h1 h2 h3
    | exit i => exact hQ _ h' σ' m' K' ρ' w' h1 h2 h3
    | ret => exact hQ _ h' σ' m' K' ρ' w' h1 h2 h3
    | panic i => exact hQ _ h' σ' m' K' ρ' w' h1 h2 h3
    | outgrown => exact hQ _ h' σ' m' K' ρ' w' h1 h2 h3
  | .region id ops draw => fun R E fr hrd h σ k r m K ρ w Q hh hr hQ => by
    change (bif !ops.toList.all nodf then none else bif draw then prep h σ fun h σ => preO n ops.toList h σ fun h σ => (match h with | .mix plan fin tail act r => mixS n ops plan fin tail act r σ (k .normal) | .tr t s act a b => trS n ops t s act a b σ (k .normal) | _ => none) else prep h σ fun h σ => yreg J n ops h σ (k .normal)) = some r at hh
    replace hh := biff hh; obtain ⟨hn, hh⟩ := hh
    have hn : ops.toList.all nodf = true := by simpa using hn
    cases draw with
    | false =>
      simp only [cond_false] at hh
      obtain ⟨h1, σ1, m1, K1, hh, g1, hr⟩ := prep_ok h hh hr
      replace hQ : ∀ e h' σ' m' K' ρ' w', Rel E fr σ' m' K' ρ' w' → Same σ1 σ' → k e h' σ' = some r → Q e (act1 n ρ') w' := fun e h' σ' m' K' ρ' w' q1 q2 q3 => hQ e h' σ' m' K' ρ' w' q1 (g1.trans q2) q3
      clear g1
      unfold yreg at hh
      split at hh
      · rename_i q h2
        have key : wpListIn (wideR E.rd) 0 P ops Q (ops.toList.take q ++ ops.toList.drop q) (act1 n ρ) w := by
          have hn1 : (ops.toList.take q).all nodf = true := List.all_eq_true.2 (fun x hx => List.all_eq_true.1 hn x (List.mem_of_mem_take hx))
          have hn2 : (ops.toList.drop q).all nodf = true := List.all_eq_true.2 (fun x hx => List.all_eq_true.1 hn x (List.mem_of_mem_drop hx))
          refine wpListIn_app hn1 ?_
          have := runL_ok (ops := ops) (Q := fun e a w => e = .normal ∧ wpListIn (wideR E.rd) 0 P ops Q (ops.toList.drop q) a w) (ops.toList.take q) 0 hh hr (fun h' σ' m' K' ρ' w' h1 h2 h3 => ?_)
          · simpa using this
          · refine ⟨rfl, ?_⟩
            split at h3
            · rename_i o rest hd
              rw [hd] at hn2 ⊢
              simp only [List.all_cons, Bool.and_eq_true] at hn2
              refine yop_ok hJ h3 h1 (fun h'' σ'' m'' K'' ρ'' w'' g1 g2 g3 => ?_)
              have := runL_ok (ops := ops) (Q := Q) rest 0 g3 g1 (fun h3 σ3 m3 K3 ρ3 w3 b1 b2 b3 => hQ _ h3 σ3 m3 K3 ρ3 w3 b1 ((h2.trans g2).trans b2) b3)
              exact wpListIn_of hn2.2 (by simpa using this)
            · cases h3
        rw [List.take_append_drop] at key
        have := wpIn_region_lit (id := id) (l := ops.toList) (by simpa using key)
        simpa using this
      · have := wpIn_region_lit (id := id) (wpListIn_of (r := E.rd) (n := 0) hn (runL_ok (Q := Q) (ops := ops.toList.toArray) ops.toList 0 (by simpa using hh) hr (fun h' σ' m' K' ρ' w' h1 h2 h3 => hQ _ h' σ' m' K' ρ' w' h1 h2 h3)))
        simpa using this
    | true =>
      simp only [cond_true] at hh
      obtain ⟨h1, σ1, m1, K1, hh, g1, hr⟩ := prep_ok h hh hr
      obtain ⟨h2, σ2, m2, hh, g2, hr⟩ := preO_ok h1 hh hr
      replace hQ : ∀ e h' σ' m' K' ρ' w', Rel E fr σ' m' K' ρ' w' → Same σ2 σ' → k e h' σ' = some r → Q e (act1 n ρ') w' := fun e h' σ' m' K' ρ' w' q1 q2 q3 => hQ e h' σ' m' K' ρ' w' q1 ((g1.trans g2).trans q2) q3
      clear g1 g2
      generalize K1 = K at hr
      generalize m2 = m at hr
      generalize σ2 = σ at hr hh hQ
      split at hh
      · rename_i plan fin tail act' h0
        unfold mixS at hh
        replace hh := bif_and hh; obtain ⟨hm, hB, hh⟩ := hh
        have hB' : mixB .any ops.toList.toArray plan fin tail = true := by simpa using hB
        have hfr := (hr.frz act').drew
        have hplan : ∀ s i, (s, i) ∈ plan → i < ops.toList.length := by
          intro s i hi
          have h0 := hB
          unfold mixB at h0
          simp only [Bool.and_eq_true] at h0
          obtain ⟨_, h1⟩ := h0
          split at h1
          · rename_i l1 hl1
            simpa using mixPlan_lt plan _ _ hl1 s i hi
          · cases h1
        have key := runM_ok (l := ops.toList) (Q := Q) plan hh hfr rfl hplan (fun h' σ' m' K' ρ' w' h1 h2 h3 => by
          have hi : Inn σ fr ⟨m, K, ρ, fun _ => false, fr.F, fr.k0⟩ m K ρ (minus σ.H act') σ' [] := ⟨rfl, rfl, rfl, rfl, rfl, h2.2, minus_sub, fun _ _ => rfl⟩
          obtain ⟨z1, z2⟩ := thaw_ok hr hi h1
          have := runL_ok (ops := ops.toList.toArray) (Q := Q) (picks ops.toList tail) 0 (by simpa using h3) z2 (fun h'' σ'' m'' K'' ρ'' w'' b1 b2 b3 => hQ .normal h'' σ'' m'' K'' ρ'' w'' b1 (z1.trans b2) b3)
          rwa [List.drop_zero] at this)
        have := wp_region_mix (id := id) (Q := Q) plan fin tail hm hB' _ hfr.cfz rfl rfl rfl key hn (r := E.rd) (n := 0)
        simpa using this
      · rename_i t s act' a b
        unfold trS at hh
        replace hh := bif_and hh; obtain ⟨hm, hB, hh⟩ := hh
        obtain ⟨x, hx, hh⟩ := ob hh
        have hfr := (hr.frz act').drew
        have key := runT_ok (l := ops.toList) (F := fun a' w' => wpLs P ops.toList.toArray Q (picks ops.toList []) a' w') t hx hfr rfl (fun h' σ' m' K' ρ' w' h1 h2 h3 => by
          obtain ⟨h'', σ2, m2, K2, g1, g2, g3⟩ := prep_ok h' h3 h1
          have hi : Inn σ fr ⟨m, K, ρ, fun _ => false, fr.F, fr.k0⟩ m K ρ (minus σ.H act') σ2 (s.sl.map (·.1) ++ dsts ops.toList) := ⟨rfl, rfl, rfl, rfl, rfl, (g2.2.trans h2.2), minus_sub, fun _ _ => rfl⟩
          obtain ⟨σ3, m3, q1, q2, q3⟩ := lay_ok hr hi g3 g1 hh
          exact hQ .normal b σ3 m3 K2 ρ' w' q3 q2 q1)
        have := wp_region_tree (id := id) (Q := Q) t [] hm hB _ hfr.cfz rfl key hn (r := E.rd) (n := 0)
        simpa using this
      · cases hh
  | .seq a b => fun R E fr hrd h σ k r m K ρ w Q hh hr hQ => by
    have plain : ∀ h0, exec J n a h0 σ (onNorm k (fun h σ => exec J n b h σ k)) = some r → (Code.seq a b).wpIn (wideR E.rd) 0 P Q (act1 n ρ) w := fun h0 hh =>
      wpIn_seq (exec_ok hJ a R E fr hrd h0 σ _ r m K ρ w _ hh hr (onNorm_ok (σ0 := σ) (fun h' σ' m' K' ρ' w' h1 h2 h3 => exec_ok hJ b R E fr hrd h' σ' k r m' K' ρ' w' Q h3 h1 (fun e h'' σ'' m'' K'' ρ'' w'' q1 q2 q3 => hQ e h'' σ'' m'' K'' ρ'' w'' q1 (h2.trans q2) q3)) hQ))
    cases h with
    | sq mk s act ha hb =>
      have hh : (match Zt.mcs mk σ with | some σ => joinN (fun h σ R k => exec J n a h σ k) s act (s.sl.map (·.1) ++ writes a) ha hb σ (fun h σ => exec J n b h σ k) | none => none) = some r := hh
      split at hh
      · rename_i σ1 hm
        obtain ⟨m1, k1, k2⟩ := mcs_ok hm hr
        refine wpIn_seq (joinN_ok (exec_ok hJ a) hrd hh k2 (fun h' σ' m' K' ρ' w' h1 h2 h3 => ?_))
        exact exec_ok hJ b R E fr hrd h' σ' k r m' K' ρ' w' Q h3 h1 (fun e h'' σ'' m'' K'' ρ'' w'' q1 q2 q3 => hQ e h'' σ'' m'' K'' ρ'' w'' q1 ((k1.trans h2).trans q2) q3)
      · cases hh
    | sx mk s act ha hb =>
      have hh : (match Zt.mcs mk σ with | some σ => joinX (fun h σ R k => exec J n a h σ k) s act (s.sl.map (·.1) ++ writes a) ha hb σ (onNorm k (fun h σ => exec J n b h σ k)) | none => none) = some r := hh
      split at hh
      · rename_i σ1 hm
        obtain ⟨m1, k1, k2⟩ := mcs_ok hm hr
        refine wpIn_seq (joinX_ok (exec_ok hJ a) hrd hh k2 ?_)
        exact onNorm_ok (σ0 := σ1) (fun h' σ' m' K' ρ' w' h1 h2 h3 => exec_ok hJ b R E fr hrd h' σ' k r m' K' ρ' w' Q h3 h1 (fun e h'' σ'' m'' K'' ρ'' w'' q1 q2 q3 => hQ e h'' σ'' m'' K'' ρ'' w'' q1 ((k1.trans h2).trans q2) q3)) (fun e h' σ' m' K' ρ' w' q1 q2 q3 => hQ e h' σ' m' K' ρ' w' q1 (k1.trans q2) q3)
      · cases hh
    | pl h => exact plain h hh
    | nil => exact plain _ hh
    | two _ _ _ => exact plain _ hh
    | tw _ _ _ => exact plain _ hh
    | jn _ _ _ _ _ => exact plain _ hh
    | jx _ _ _ _ _ => exact plain _ hh
    | lp _ _ => exact plain _ hh
    | un _ _ => exact plain _ hh
    | per _ _ _ => exact plain _ hh
    | perb _ _ _ _ => exact plain _ hh
    | mc _ _ _ _ => exact plain _ hh
    | ms _ _ => exact plain _ hh
    | wt _ _ => exact plain _ hh
    | cl _ _ _ => exact plain _ hh
    | c2 _ _ _ _ => exact plain _ hh
    | gp _ _ => exact plain _ hh
    | gj _ _ _ _ _ => exact plain _ hh
    | mix _ _ _ _ _ => exact plain _ hh
    | opn _ _ _ => exact plain _ hh
    | opb _ _ _ => exact plain _ hh
    | cls _ _ _ => exact plain _ hh
    | opp _ _ _ _ => exact plain _ hh
    | ot _ _ => exact plain _ hh
    | cm _ _ _ _ => exact plain _ hh
    | cm2 _ _ _ _ _ => exact plain _ hh
    | tr _ _ _ _ _ => exact plain _ hh
    | yl _ _ => exact plain _ hh
    | rg _ _ => exact plain _ hh
  | .cond c x y => fun R E fr hrd h σ k r m K ρ w Q hh hr hQ => by
    obtain ⟨h1, σ1, m1, K1, g1, g2, g3⟩ := prep_ok h (show prep h σ (fun h σ => condS c (σ.evr n c) h σ (fun h σ => exec J n x h σ k) (fun h σ => exec J n y h σ k)) = some r from hh) hr
    have hv := g3.toPur.evr n c
    have goX : ∀ h2 σ2, Rel E fr σ2 m1 K1 ρ w → Same σ σ2 → exec J n x h2 σ2 k = some r → x.wpIn (wideR E.rd) 0 P Q (act1 n ρ) w := fun h2 σ2 q1 q2 q3 =>
      exec_ok hJ x R E fr hrd h2 σ2 k r m1 K1 ρ w Q q3 q1 (fun e h'' σ'' m'' K'' ρ'' w'' p1 p2 p3 => hQ e h'' σ'' m'' K'' ρ'' w'' p1 (q2.trans p2) p3)
    have goY : ∀ h2 σ2, Rel E fr σ2 m1 K1 ρ w → Same σ σ2 → exec J n y h2 σ2 k = some r → y.wpIn (wideR E.rd) 0 P Q (act1 n ρ) w := fun h2 σ2 q1 q2 q3 =>
      exec_ok hJ y R E fr hrd h2 σ2 k r m1 K1 ρ w Q q3 q1 (fun e h'' σ'' m'' K'' ρ'' w'' p1 p2 p3 => hQ e h'' σ'' m'' K'' ρ'' w'' p1 (q2.trans p2) p3)
    have slot : ∀ (d : Nat) (sv : SV), c = .tmp d → σ1.evr n c = sv → sv ≠ .any → σ1.get d = sv := fun d sv hc he hne => by
      subst hc
      cases hh : Nat.blt d n with
      | false =>
        have : σ1.evr n (.tmp d) = .any := by show (bif Nat.blt d n then σ1.get d else .any) = _; rw [hh]; rfl
        rw [this] at he; exact absurd he.symm hne
      | true =>
        have : σ1.evr n (.tmp d) = σ1.get d := by show (bif Nat.blt d n then σ1.get d else .any) = _; rw [hh]; rfl
        rw [← this]; exact he
    unfold condS at g1
    split at g1
    · rename_i jm w0 e
      rw [e] at hv
      obtain ⟨hj, hv⟩ := hv
      split at g1
      · rename_i t
        have hb : ev n ρ c = .bool t := hv
        rw [hb] at hj
        refine wpIn_cond_split (t := t) (by rw [eval_act1]; exact hb) (fun ht => ?_) (fun ht => ?_)
        · subst ht
          split at g1
          · exact goX _ _ (g3.fix (v := .bool true) hj rfl) (g2.trans ⟨rfl, rfl⟩) g1
          · exact goX _ σ1 g3 g2 g1
          · exact goX _ σ1 g3 g2 g1
        · subst ht
          split at g1
          · exact goY _ _ (g3.fix (v := .bool false) hj rfl) (g2.trans ⟨rfl, rfl⟩) g1
          · exact goY _ σ1 g3 g2 g1
          · exact goY _ σ1 g3 g2 g1
      · cases g1
    · rename_i t e
      rw [e] at hv
      have hb : ev n ρ c = .bool t := hv
      refine wpIn_cond_split (t := t) (by rw [eval_act1]; exact hb) (fun ht => ?_) (fun ht => ?_)
      · subst ht
        split at g1
        · rename_i ha hbn d _
          have hg := slot d _ rfl e nofun
          exact goX ha _ (g3.ref (fun _ _ u hu => by rw [hg] at hu; exact hu) (by rw [hg]; nofun)) (g2.trans ⟨rfl, ref_H.2⟩) g1
        · exact goX _ σ1 g3 g2 g1
        · exact goX _ σ1 g3 g2 g1
      · subst ht
        split at g1
        · rename_i ha hbn d _
          have hg := slot d _ rfl e nofun
          exact goY hbn _ (g3.ref (fun _ _ u hu => by rw [hg] at hu; exact hu) (by rw [hg]; nofun)) (g2.trans ⟨rfl, ref_H.2⟩) g1
        · exact goY _ σ1 g3 g2 g1
        · exact goY _ σ1 g3 g2 g1
    · rename_i tp l ng e
      rw [e] at hv
      obtain ⟨q, hb, hl⟩ := hv
      refine wpIn_cond_split (t := q ^^ ng) (by rw [eval_act1]; exact hb) (fun ht => ?_) (fun ht => ?_)
      · split at g1
        · rename_i ha hbn _
          cases ng with
          | true =>
            rw [Bool.xor_true] at ht
            simp only [cond_true] at g1
            exact goX ha _ g3 g2 (nilb_cons g1)
          | false =>
            rw [Bool.xor_false] at ht
            simp only [cond_false] at g1
            exact goX ha _ g3 g2 (nilb_nil (hl ht) g1)
        · cases g1
      · split at g1
        · rename_i ha hbn _
          cases ng with
          | true =>
            rw [Bool.xor_true] at ht
            simp only [cond_true] at g1
            exact goY hbn _ g3 g2 (nilb_nil (hl (by simpa using ht)) g1)
          | false =>
            rw [Bool.xor_false] at ht
            simp only [cond_false] at g1
            exact goY hbn _ g3 g2 (nilb_cons g1)
        · cases g1
    · cases g1
  | .block id b => fun R E fr hrd h σ k r m K ρ w Q hh hr hQ => by
    have blk : ∀ {R : Type} {k : Exit → Hn P → Zt → Option R} {r : R} {Q : Exit → Act → World → Prop} {fr : Frz} {σ : Zt}, (∀ e h' σ' m' K' ρ' w', Rel E fr σ' m' K' ρ' w' → Same σ σ' → k e h' σ' = some r → Q e (act1 n ρ') w') →
        ∀ e h' σ' m' K' ρ' w', Rel E fr σ' m' K' ρ' w' → Same σ σ' → onBlk id k e h' σ' = some r → Exit.inBlock id Q e (act1 n ρ') w' := by
      intro R k r Q fr σ hQ e h' σ' m' K' ρ' w' h1 h2 h3
      cases e with
      | exit i =>
        change (bif Nat.beq i id then k .normal h' σ' else k (.exit i) h' σ') = some r at h3
        show if i = id then _ else _
        cases hb : Nat.beq i id with
        | true =>
          rw [hb] at h3
          rw [if_pos (Nat.eq_of_beq_eq_true hb)]
          exact hQ _ h' σ' m' K' ρ' w' h1 h2 h3
        | false =>
          rw [hb] at h3
          rw [if_neg (fun e => by rw [e, Nat.beq_refl] at hb; cases hb)]
          exact hQ _ h' σ' m' K' ρ' w' h1 h2 h3
      | normal => exact hQ _ h' σ' m' K' ρ' w' h1 h2 h3
      | goto l => exact hQ _ h' σ' m' K' ρ' w' h1 h2 h3
      | ret => exact hQ _ h' σ' m' K' ρ' w' h1 h2 h3
      | panic i => exact hQ _ h' σ' m' K' ρ' w' h1 h2 h3
      | outgrown => exact hQ _ h' σ' m' K' ρ' w' h1 h2 h3
    have fb : Fok P n (.block id b) (fun h σ R k => exec J n b h σ (onBlk id k)) := fun R E fr hrd h σ k r m K ρ w Q hh hr hQ => by
      refine wpIn_block (exec_ok hJ b R E fr hrd h σ _ r m K ρ w _ hh hr ?_)
      intro e h' σ' m' K' ρ' w' h1 h2 h3
      cases e with
      | exit i =>
        change (bif Nat.beq i id then k .normal h' σ' else k (.exit i) h' σ') = some r at h3
        show if i = id then _ else _
        cases hb : Nat.beq i id with
        | true =>
          rw [hb] at h3
          rw [if_pos (Nat.eq_of_beq_eq_true hb)]
          exact hQ _ h' σ' m' K' ρ' w' h1 h2 h3
        | false =>
          rw [hb] at h3
          rw [if_neg (fun e => by rw [e, Nat.beq_refl] at hb; cases hb)]
          exact hQ _ h' σ' m' K' ρ' w' h1 h2 h3
      | normal => exact hQ _ h' σ' m' K' ρ' w' h1 h2 h3
      | goto l => exact hQ _ h' σ' m' K' ρ' w' h1 h2 h3
      | ret => exact hQ _ h' σ' m' K' ρ' w' h1 h2 h3
      | panic i => exact hQ _ h' σ' m' K' ρ' w' h1 h2 h3
      | outgrown => exact hQ _ h' σ' m' K' ρ' w' h1 h2 h3
    have plain : ∀ h0, exec J n b h0 σ (onBlk id k) = some r → (Code.block id b).wpIn (wideR E.rd) 0 P Q (act1 n ρ) w := fun h0 hh => fb R E fr hrd h0 σ k r m K ρ w Q hh hr hQ
    cases h with
    | jn mk s act ha hb =>
      have hh : (match Zt.mcs mk σ with | some σ => joinN (fun h σ R k => exec J n b h σ (onBlk id k)) s act (s.sl.map (·.1) ++ writes b) ha hb σ (k .normal) | none => none) = some r := hh
      split at hh
      · rename_i σ1 hm
        obtain ⟨m1, k1, k2⟩ := mcs_ok hm hr
        exact joinN_ok fb hrd hh k2 (fun h' σ' m' K' ρ' w' h1 h2 h3 => hQ _ h' σ' m' K' ρ' w' h1 (k1.trans h2) h3)
      · cases hh
    | jx mk s act ha hb =>
      have hh : (match Zt.mcs mk σ with | some σ => joinX (fun h σ R k => exec J n b h σ (onBlk id k)) s act (s.sl.map (·.1) ++ writes b) ha hb σ k | none => none) = some r := hh
      split at hh
      · rename_i σ1 hm
        obtain ⟨m1, k1, k2⟩ := mcs_ok hm hr
        exact joinX_ok fb hrd hh k2 (fun e h' σ' m' K' ρ' w' q1 q2 q3 => hQ e h' σ' m' K' ρ' w' q1 (k1.trans q2) q3)
      · cases hh
    | pl h => exact plain _ hh
    | nil => exact plain _ hh
    | two _ _ _ => exact plain _ hh
    | tw _ _ _ => exact plain _ hh
    | sq _ _ _ _ _ => exact plain _ hh
    | sx _ _ _ _ _ => exact plain _ hh
    | lp _ _ => exact plain _ hh
    | un _ _ => exact plain _ hh
    | per _ _ _ => exact plain _ hh
    | perb _ _ _ _ => exact plain _ hh
    | mc _ _ _ _ => exact plain _ hh
    | ms _ _ => exact plain _ hh
    | wt _ _ => exact plain _ hh
    | cl _ _ _ => exact plain _ hh
    | c2 _ _ _ _ => exact plain _ hh
    | gp _ _ => exact plain _ hh
    | gj _ _ _ _ _ => exact plain _ hh
    | mix _ _ _ _ _ => exact plain _ hh
    | opn _ _ _ => exact plain _ hh
    | opb _ _ _ => exact plain _ hh
    | cls _ _ _ => exact plain _ hh
    | opp _ _ _ _ => exact plain _ hh
    | ot _ _ => exact plain _ hh
    | cm _ _ _ _ => exact plain _ hh
    | cm2 _ _ _ _ _ => exact plain _ hh
    | tr _ _ _ _ _ => exact plain _ hh
    | yl _ _ => exact plain _ hh
    | rg _ _ => exact plain _ hh
  | .loop b => fun R E fr hrd h σ k r m K ρ w Q hh hr hQ => by
    obtain ⟨h1, σ1, m1, K1, g1, g2, g3⟩ := prep_ok h (show prep h σ (fun h σ => match h with
      | .un m r => unroll (fun h σ k => exec J n b h σ k) k m r σ
      | .lp s ha => lpRun (fun h σ R k => exec J n b h σ k) s (s.sl.map (·.1) ++ writes b) ha σ k
      | _ => none) = some r from hh) hr
    have hQ' : ∀ e h' σ' m' K' ρ' w', Rel E fr σ' m' K' ρ' w' → Same σ1 σ' → k e h' σ' = some r → Q e (act1 n ρ') w' := fun e h'' σ'' m'' K'' ρ'' w'' p1 p2 p3 => hQ e h'' σ'' m'' K'' ρ'' w'' p1 (g2.trans p2) p3
    split at g1
    · exact wpIn_loop_rounds _ (unroll_ok (exec_ok hJ b) hrd hQ' _ g1 g3 Same.rfl')
    · exact lpRun_ok (exec_ok hJ b) hrd g1 g3 hQ'
    · cases g1
  | .rangeFunc g ps ao bo => fun R E fr hrd h σ k r m K ρ w Q hh hr hQ => by
    obtain ⟨h1, σ1, m1, K1, g1, g2, g3⟩ := prep_ok h (show prep h σ (fun h σ => rgRun J n g ps ao bo h σ k) = some r from hh) hr
    exact rgRun_ok hJ hrd g1 g3 (fun e h'' σ'' m'' K'' ρ'' w'' p1 p2 p3 => hQ e h'' σ'' m'' K'' ρ'' w'' p1 (g2.trans p2) p3)
  | .goto l => fun R E fr hrd h σ k r m K ρ w Q hh hr hQ => by cases hh
  | .refuse s => fun R E fr hrd h σ k r m K ρ w Q hh hr hQ => by cases hh
theorem execN_ok : ∀ d : Nat, JOk (execN (P := P) d)
  | 0 => fun n c R E fr hrd h σ k r m K ρ w Q hh hr hQ => by cases hh
  | d + 1 => fun n c => exec_ok (execN_ok d) c
end
end Go.Proofs.Ytgdjfpmjbjkmhaa
namespace Go.Proofs.Ytgdjfpmjbjkmhaa
open Go.RowKit
set_option linter.unusedVariables false
set_option linter.unusedSimpArgs false
set_option linter.unnecessarySimpa false
set_option linter.unusedSectionVars false
variable [BldA]
/-! ### The end of a function. -/
def resS (P : Program) (n : Nat) (σ : Zt) : List ResultVar → Option (List SV)
  | [] => some []
  | .tmp t :: r => (match resS P n σ r with | some vs => some (σ.ev n (.tmp t) :: vs) | none => none)
  | .cell a ty :: r => (match σ.ev n (.tmp a) with
    | .ptr i o => (match findR (HA.blkR i) (σ.H ++ σ.Hf) with
      | some q => (match ldv P ty q.cs o, resS P n σ r with | some v, some vs => some (v :: vs) | _, _ => none)
      | none => none)
    | _ => none)
def resV : List SV → SV
  | [v] => v
  | vs => .tup vs
def finO (σ : Zt) (rs : List SV) (o : Sh) : Option (TL o.ts) := bif (match rs, o.sl with | [], [] => true | _ :: _, [p] => Nat.beq p.1 0 | _, _ => false) then (match o.get (fun _ => resV rs) σ.H with | some g => TL.of o.ts g.ds | none => none) else none
def finD {P : Program} (σ : Zt) (rs : List SV) : (os : List Sh) → Hn P → Option (OutT os)
  | [a], _ => finO σ rs a
  | [a, b], h => (match h with | .pl _ => (finO σ rs b).map Sum.inr | _ => (finO σ rs a).map Sum.inl)
  | _, _ => none
def finF {P : Program} (n : Nat) (fn : Func) (os : List Sh) (h : Hn P) (σ : Zt) : Option (OutT os) := prep h σ fun h σ => match resS P n σ fn.results.toList with | some rs => finD σ rs os h | none => none
def fin {P : Program} (n : Nat) (fn : Func) (os : List Sh) (e : Exit) (h : Hn P) (σ : Zt) : Option (OutT os) := match e with
  | .normal => finF n fn os h σ
  | .ret => finF n fn os h σ
  | _ => none
/-- What a function computes, out of its code. -/
noncomputable def runF {P : Program} (n : Nat) (fn : Func) (c : Code) (inn : Sh) (os : List Sh) (h : Hn P) (x : TL inn.ts) : Option (OutT os) := match inn.un (TL.list inn.ts x) 0 with
  | some (vs, u) => prep h ⟨fun _ => .any, vs, u.H, [], u.nx, false⟩ fun h σ => exec (execN 4) n c h σ (fin n fn os)
  | none => none
section
variable {P : Program} {E : En} {n : Nat} {m : List M} {K : Hp} {fr : Frz} {σ : Zt} {ρ : Sl1} {w : World}
theorem resS_ok (hr : Rel E fr σ m K ρ w) : ∀ {l : List ResultVar} {rs : List SV}, resS P n σ l = some rs → ∃ us : List Value, SV.relL m K rs us ∧ l.length = us.length ∧ ∀ (j : Nat) (r : ResultVar) (v : Value), l[j]? = some r → us[j]? = some v → RvOk P n (Hold E K (σ.atoms fr m)) ρ r v
  | [], rs, h => by cases h; exact ⟨[], rfl, rfl, fun j r v h => by simp at h⟩
  | .tmp t :: l, rs, h => by
    unfold resS at h
    split at h
    · rename_i vs hvs
      cases h
      obtain ⟨us, h1, h2, h3⟩ := resS_ok hr hvs
      refine ⟨ev n ρ (.tmp t) :: us, ⟨_, us, rfl, hr.toPur.ev n (.tmp t), h1⟩, by simp [h2], fun j r v hj hv => ?_⟩
      cases j with
      | zero => simp at hj hv; subst hj hv; rfl
      | succ j => exact h3 j r v (by simpa using hj) (by simpa using hv)
    · cases h
  | .cell a ty :: l, rs, h => by
    unfold resS at h
    split at h
    · rename_i i o e
      split at h
      · rename_i q hq
        split at h
        · rename_i v vs hv hvs
          cases h
          obtain ⟨us, h1, h2, h3⟩ := resS_ok hr hvs
          obtain ⟨x, hx, hmem⟩ := findR_spec hq
          obtain rfl := blkR_eq hx
          obtain ⟨b, ws, g1, g2, g3⟩ := hr.cls.blk hmem
          obtain ⟨u, g4, g5⟩ := ldv_ok (P := P) (o0 := 0) hv g2 (fun j u hu => by rw [Nat.zero_add]; exact g3 j u hu)
          rw [Nat.zero_add] at g4
          have hev := hr.toPur.ev n (.tmp a)
          rw [e] at hev
          obtain ⟨b', q1, q2⟩ := hev
          rw [g1] at q1; cases q1
          refine ⟨u :: us, ⟨_, us, rfl, g5, h1⟩, by simp [h2], fun j r v hj hv => ?_⟩
          cases j with
          | zero => simp at hj hv; subst hj hv; exact ⟨b, o, q2, g4⟩
          | succ j => exact h3 j r v (by simpa using hj) (by simpa using hv)
        · cases h
      · cases h
    · cases h
theorem mapM_run {C : World → Prop} {w : World} (hw : C w) : ∀ {l : List ResultVar} {us : List Value}, l.length = us.length → (∀ (j : Nat) (r : ResultVar) (v : Value), l[j]? = some r → us[j]? = some v → RvOk P n C ρ r v) → (l.mapM (rvS (frm n ρ))).run P w = .ok us w
  | [], us, h, _ => by
    obtain rfl : us = [] := List.length_eq_zero_iff.1 h.symm
    simp
  | r :: l, us, h, hr => by
    cases us with
    | nil => cases h
    | cons u us =>
      have h1 := rv_run (hr 0 r u rfl rfl) hw
      have h2 := mapM_run hw (l := l) (us := us) (by simpa using h) (fun j r v hj hv => hr (j + 1) r v (by simpa using hj) (by simpa using hv))
      simp [List.mapM_cons, h1, h2]
/-- What a function hands back. -/
def tupV : List Value → Value
  | [v] => v
  | vs => .tuple vs.toArray
theorem res_run {C : World → Prop} {w : World} (hw : C w) {fn : Func} {us : List Value} (hl : fn.results.toList.length = us.length) (h : ∀ (j : Nat) (r : ResultVar) (v : Value), fn.results.toList[j]? = some r → us[j]? = some v → RvOk P n C ρ r v) : (results fn (frm n ρ)).run P w = .ok (tupV us) w := by
  have h1 := mapM_run hw hl h
  rw [results_rvS]
  simp only [Array.mapM_eq_mapM_toList]
  simp only [Sem.run_bind, Sem.run_map, h1, Result.andThen_ok, Sem.run_pure]
  match us with
  | [] => rfl
  | [u] => rfl
  | u :: v :: r =>
    rw [dif_neg (by simp)]
    rfl
theorem resV_rel {rs : List SV} {us : List Value} (h : SV.relL m K rs us) (hne : rs ≠ []) : SV.rel m K (resV rs) (tupV us) := by
  match rs, us, h with
  | [], _, _ => exact absurd rfl hne
  | [v], us, h =>
    obtain ⟨u, q, rfl, h1, h2⟩ := relL_cons h
    obtain rfl := relL_nil h2
    exact h1
  | v :: v2 :: r, us, h =>
    obtain ⟨u, q, rfl, h1, h2⟩ := relL_cons h
    obtain ⟨u2, q2, rfl, h3, h4⟩ := relL_cons h2
    exact ⟨_, rfl, u, _, rfl, h1, u2, q2, rfl, h3, h4⟩
theorem finO_ok {rs : List SV} {us : List Value} {o : Sh} {x : TL o.ts} {K0 : Hp} {m0 : List M} (h : finO σ rs o = some x) (hr : Rel E fr σ m K ρ w) (hrel : SV.relL m K rs us) (hm : m0 <+: m) (ho : oldOk o.bl m0.length = true) (hF : σ.Hf = []) :
    ∃ vs' u' m', o.un (TL.list o.ts x) m0.length = some (vs', u') ∧ m0 <+: m' ∧ m'.length = u'.nx ∧ (∀ a ∈ u'.H, HA.ok m' K a) ∧ resR m' K vs' (tupV us) ∧ Sep E K (u'.H.map (HA.conc m') ++ fr.F) w := by
  unfold finO at h
  replace h := bift h; obtain ⟨hs, h⟩ := h
  split at h
  · rename_i g hg
    obtain ⟨vs, u, ms, e1, e2, e3, e4, e5, e6, e7, e8⟩ := Sh.get_un hg hr.okH hm ho
    rw [TL.of_list h]
    refine ⟨vs, u, m0 ++ ms, e1, pre_app _ _, e2, e4, ?_, ?_⟩
    · split at hs
      · rename_i hsl
        rw [hsl] at e3
        obtain rfl : vs = [] := e3
        obtain rfl := relL_nil hrel
        rfl
      · rename_i v r p hsl
        rw [hsl] at e3
        obtain ⟨sv, q, rfl, g1, g2⟩ := e3
        obtain rfl : q = [] := g2
        exact g1 _ (resV_rel hrel (by simp))
      · cases hs
    · have := e6 E _ w hr.toSep
      have h2 : σ.fz fr = fr.F := by unfold Zt.fz; rw [hF]; rfl
      rw [h2] at this
      have h3 : Sep E K (g.H.map (HA.conc m) ++ (u.H.map (HA.conc (m0 ++ ms)) ++ fr.F)) w := Sep.perm (perm3 _ _ _) this
      exact Sep.drops h3
  · cases h
theorem finD_ok {rs : List SV} {us : List Value} {m0 : List M} (hr : Rel E fr σ m K ρ w) (hrel : SV.relL m K rs us) (hm : m0 <+: m) (hF : σ.Hf = []) : ∀ {os : List Sh} {h0 : Hn P} {r : OutT os}, (∀ o ∈ os, oldOk o.bl m0.length = true) → finD σ rs os h0 = some r →
    ∃ vs' u' m', (outSh os r).1.un (outSh os r).2 m0.length = some (vs', u') ∧ m0 <+: m' ∧ m'.length = u'.nx ∧ (∀ a ∈ u'.H, HA.ok m' K a) ∧ resR m' K vs' (tupV us) ∧ Sep E K (u'.H.map (HA.conc m') ++ fr.F) w
  | [], h0, r, _, h => Empty.elim r
  | [a], h0, r, ho, h => finO_ok (K0 := K) (show finO σ rs a = some r from h) hr hrel hm (ho a (by simp)) hF
  | [a, b], h0, r, ho, h => by
    have key : (finO σ rs b).map Sum.inr = some r ∨ (finO σ rs a).map Sum.inl = some r := by
      cases h0 <;> first | exact .inl h | exact .inr h
    clear h
    rcases key with h | h
    · rw [Option.map_eq_some_iff] at h
      obtain ⟨x, h, rfl⟩ := h
      exact finO_ok (K0 := K) h hr hrel hm (ho b (by simp)) hF
    · rw [Option.map_eq_some_iff] at h
      obtain ⟨x, h, rfl⟩ := h
      exact finO_ok (K0 := K) h hr hrel hm (ho a (by simp)) hF
  | a :: b :: c :: os, h0, r, _, h => by cases h
/-- Slots and arguments, one by one. -/
theorem args_look : ∀ {sl : List (Nat × Kd)} {vs : List (Nat × SV)} {us : List Value} {j N : Nat}, slN j sl N = true → vs.map (·.1) = sl.map (·.1) → slR m K vs us → ∀ i sv, look vs i = some sv → ∃ k u, i = j + k ∧ us[k]? = some u ∧ SV.rel m K sv u
  | [], vs, us, j, N, h1, h2, h3, i, sv, hl => by
    have : vs = [] := by cases vs with | nil => rfl | cons a b => cases h2
    subst this; cases hl
  | p :: sl, vs, us, j, N, h1, h2, h3, i, sv, hl => by
    cases vs with
    | nil => cases h2
    | cons q vs =>
      simp only [List.map_cons, List.cons.injEq] at h2
      simp only [slN, Bool.and_eq_true] at h1
      have hj := Nat.eq_of_beq_eq_true h1.1
      obtain ⟨u, r, rfl, g1, g2⟩ := h3
      change (bif Nat.beq q.1 i then some q.2 else look vs i) = some sv at hl
      cases hb : Nat.beq q.1 i with
      | true =>
        rw [hb] at hl; cases hl
        have := Nat.eq_of_beq_eq_true hb
        exact ⟨0, u, by rw [← this, h2.1, hj]; rfl, rfl, g1⟩
      | false =>
        rw [hb] at hl
        obtain ⟨k, u', e1, e2, e3⟩ := args_look h1.2 h2.2 g2 i sv hl
        exact ⟨k + 1, u', by omega, by simpa using e2, e3⟩
theorem unS_keys {bi : List Nat} : ∀ {sl : List (Nat × Kd)} {u u' : Un} {vs : List (Nat × SV)}, unS bi sl u = some (vs, u') → vs.map (·.1) = sl.map (·.1)
  | [], u, u', vs, h => by cases h; rfl
  | p :: sl, u, u', vs, h => by
    unfold unS at h
    split at h
    · split at h
      · rename_i h2
        cases h
        simp [unS_keys h2]
      · cases h
    · cases h
theorem un_keys {s : Sh} {ds : List Dat} {nx : Nat} {vs : List (Nat × SV)} {u : Un} (h : s.un ds nx = some (vs, u)) : vs.map (·.1) = s.sl.map (·.1) := by
  unfold Sh.un at h
  replace h := (bift h).2
  split at h
  split at h
  · rename_i h1
    split at h
    · cases h; exact unS_keys h1
    · cases h
  · cases h
theorem slR_len : ∀ {vs : List (Nat × SV)} {us : List Value}, slR m K vs us → us.length = vs.length
  | [], us, h => by obtain rfl : us = [] := h; rfl
  | p :: vs, us, ⟨u, r, e, _, h⟩ => by subst e; simp [slR_len h]
end
section
variable {P : Program} {E : En} {n : Nat} {m : List M} {K : Hp} {fr : Frz} {σ : Zt} {ρ : Sl1} {w : World}
theorem resS_kq {b : Bool} : ∀ l : List ResultVar, resS P n ⟨σ.base, σ.top, σ.H, σ.Hf, σ.nx, b⟩ l = resS P n σ l
  | [] => rfl
  | .tmp t :: r => by unfold resS; rw [resS_kq r]; rfl
  | .cell a ty :: r => by unfold resS; rw [resS_kq r]; rfl
theorem finD_kq {b : Bool} {rs : List SV} : ∀ {os : List Sh} {h : Hn P}, finD ⟨σ.base, σ.top, σ.H, σ.Hf, σ.nx, b⟩ rs os h = finD σ rs os h
  | [], h => rfl
  | [a], h => rfl
  | [a, b], h => by cases h <;> rfl
  | a :: b :: c :: os, h => rfl
end
section
variable {P : Program} {n : Nat}
/-- A function answers what is computed of its code. -/
theorem fn_ok {s : Spec} {fn : Func} {c : Code} (hf : P.funcs[s.f]? = some fn) (hb : fn.body = some c) (hn : fn.ntmps = n) (h : Hn P) (hc : (slN 0 s.inn.sl s.inn.sl.length && Nat.ble s.inn.sl.length n) = true) (hold : ∀ ds vs u, s.inn.un ds 0 = some (vs, u) → ∀ o ∈ s.outs, oldOk o.bl u.nx = true)
    (hex : ∀ (x : TL s.inn.ts) r, s.fn x = some r → runF n fn c s.inn s.outs h x = some r) : SpecOk P s := by
  intro x r hx vs u hu m K args hgk hm hok hsl E w F hs
  rw [Bool.and_eq_true] at hc
  obtain ⟨hc1, hc2⟩ := hc
  have hkeys := un_keys hu
  have hlen : args.toArray.size ≤ n := by
    have h1 := slR_len hsl
    have h2 : vs.length = s.inn.sl.length := by have := congrArg List.length hkeys; simpa using this
    simp only [List.size_toArray]
    have := Nat.le_of_ble_eq_true hc2
    omega
  refine callsIn_wide.1 (callsIn_of_wp_marks (F := Fence.wide) (n := 0) hf hb trivial ?_)
  rw [hn, frm_args hlen]
  have hrun := hex x r hx
  unfold runF at hrun
  rw [hu] at hrun
  simp only at hrun
  have hrel : Rel E.out0 ⟨m, K, args1 args.toArray, fun _ => false, F, K⟩ ⟨fun _ => .any, vs, u.H, [], u.nx, false⟩ m K (args1 args.toArray) w := by
    refine ⟨⟨List.prefix_refl m, Hp.le_refl K, hm, fun e => (by cases e), fun i => trivial, fun i e => rfl, fun i _ => .inr rfl, fun i sv hi => ?_, hok, fun a ha => by simp at ha, MOk.nil hgk (Hp.le_refl K)⟩, ?_⟩
    · obtain ⟨k, v, e1, e2, e3⟩ := args_look hc1 hkeys hsl i sv hi
      have : args1 args.toArray i = v := by
        show args0 args.toArray i = v
        unfold args0
        rw [e1, Nat.zero_add]
        simp [e2]
      rw [this]; exact e3
    · exact hs.out0
  obtain ⟨hp, σp, mp, Kp, p1, p2, p3⟩ := prep_ok h hrun hrel
  refine exec_ok (execN_ok 4) c (OutT s.outs) E.out0 ⟨m, K, args1 args.toArray, fun _ => false, F, K⟩ (fun l e => by cases e) hp σp (fin n fn s.outs) r mp Kp _ w _ p1 p3 (fun e h' σ' m' K' ρ' w' h1 h2 h3 => ?_)
  have fini : finF n fn s.outs h' σ' = some r → LeavesInM Fence.wide 0 P fn (act1 n ρ').tmps (fun e w' => ∃ v K' L', e = .returned v ∧ (∃ vs' u' m', (outSh s.outs r).1.un (outSh s.outs r).2 u.nx = some (vs', u') ∧ m <+: m' ∧ m'.length = u'.nx ∧ (∀ a ∈ u'.H, HA.ok m' K' a) ∧ resR m' K' vs' v ∧ L' = u'.H.map (HA.conc m')) ∧ K.le K' ∧ Sep E K' (L' ++ F) w') (act1 n ρ').defers .returning w' := fun h3 => by
    unfold finF at h3
    obtain ⟨h'', σ2, m2, K2, g1, g2, g3⟩ := prep_ok h' h3 h1
    split at g1
    · rename_i rs hrs
      refine marks_leave ρ'.ds g3.mks g3.toSep (fun K3 w3 c1 c2 c3 => ?_)
      have g4 := g3.unmark c1 c2 c2 c3
      rw [← resS_kq (b := false)] at hrs
      rw [← finD_kq (b := false)] at g1
      obtain ⟨us, q1, q2, q3⟩ := resS_ok g4 hrs
      refine ⟨tupV us, res_run (ρ := (⟨ρ'.f, []⟩ : Sl1)) g4.hold q2 q3, ?_⟩
      obtain ⟨vs', u', m'', z1, z2, z3, z4, z5, z6⟩ := finD_ok (m0 := m) g4 q1 g4.hm (((p2.trans h2).trans g2).2) (fun o ho => by rw [hm]; exact hold _ _ _ hu o ho) g1
      rw [hm] at z1
      exact ⟨_, K3, _, rfl, ⟨vs', u', m'', z1, z2, z3, z4, z5, rfl⟩, g4.hK, z6.back⟩
    · cases g1
  cases e with
  | normal => exact fini h3
  | ret => exact fini h3
  | _ => cases h3
end
end Go.Proofs.Ytgdjfpmjbjkmhaa
namespace Go.Proofs.Ytgdjfpmjbjkmhaa
open Go.RowKit
set_option linter.unusedVariables false
set_option linter.unusedSimpArgs false
set_option linter.unnecessarySimpa false
set_option linter.unusedSectionVars false
variable [BldA]
mutual
theorem un_nx {bi : List Nat} : ∀ (k : Kd) {u u' : Un} {v : SV}, Kd.un bi k u = some (v, u') → u.nx ≤ u'.nx
  | .any, u, u', v, h => by cases h; exact Nat.le_refl _
  | .dat t, u, u', v, h => by unfold Kd.un at h; split at h <;> cases h; exact Nat.le_refl _
  | .nilp, u, u', v, h => by cases h; exact Nat.le_refl _
  | .nils, u, u', v, h => by cases h; exact Nat.le_refl _
  | .nilf, u, u', v, h => by cases h; exact Nat.le_refl _
  | .ptr j o, u, u', v, h => by unfold Kd.un at h; split at h <;> cases h; exact Nat.le_refl _
  | .own e t, u, u', v, h => by unfold Kd.un at h; split at h <;> cases h; exact Nat.le_add_right _ _
  | .al j, u, u', v, h => by unfold Kd.un at h; split at h <;> cases h; exact Nat.le_refl _
  | .fsl j m, u, u', v, h => by unfold Kd.un at h; split at h <;> cases h; exact Nat.le_refl _
  | .agg ks, u, u', v, h => by
    unfold Kd.un at h; split at h
    · cases h; exact unL_nx ks (by assumption)
    · cases h
  | .tup ks, u, u', v, h => by
    unfold Kd.un at h; split at h
    · cases h; exact unL_nx ks (by assumption)
    · cases h
  | .fn f ks, u, u', v, h => by
    unfold Kd.un at h; split at h
    · cases h; exact unL_nx ks (by assumption)
    · cases h
  | .lit w, u, u', v, h => by cases h; exact Nat.le_refl _
  | .od o, u, u', v, h => by
    unfold Kd.un at h
    replace h := (bift h).2
    split at h
    · split at h
      · cases h; exact Nat.le_add_right _ _
      · cases h
    · cases h
  | .rp j, u, u', v, h => by unfold Kd.un at h; split at h <;> cases h; exact Nat.le_refl _
  | .is j k, u, u', v, h => by
    unfold Kd.un at h; split at h
    · split at h
      · cases h; exact un_nx k (by assumption)
      · cases h
    · cases h
theorem unL_nx {bi : List Nat} : ∀ (ks : List Kd) {u u' : Un} {vs : List SV}, Kd.unL bi ks u = some (vs, u') → u.nx ≤ u'.nx
  | [], u, u', vs, h => by cases h; exact Nat.le_refl _
  | k :: ks, u, u', vs, h => by
    unfold Kd.unL at h; split at h
    · rename_i h1
      split at h
      · rename_i h2; cases h; exact Nat.le_trans (un_nx k h1) (unL_nx ks h2)
      · cases h
    · cases h
end
theorem unS_nx {bi : List Nat} : ∀ (sl : List (Nat × Kd)) {u u' : Un} {vs : List (Nat × SV)}, unS bi sl u = some (vs, u') → u.nx ≤ u'.nx
  | [], u, u', vs, h => by cases h; exact Nat.le_refl _
  | p :: sl, u, u', vs, h => by
    unfold unS at h; split at h
    · rename_i h1
      split at h
      · rename_i h2; cases h; exact Nat.le_trans (un_nx p.2 h1) (unS_nx sl h2)
      · cases h
    · cases h
theorem unB_nx {bi : List Nat} : ∀ (bl : List Bk) (is : List Nat) {u u' : Un}, unB bi bl is u = some u' → u.nx ≤ u'.nx
  | [], [], u, u', h => by cases h; exact Nat.le_refl _
  | [], i :: is, u, u', h => by cases h
  | b :: bl, [], u, u', h => by cases h
  | b :: bl, i :: is, u, u', h => by
    unfold unB at h; split at h
    · rename_i u1 h1
      refine Nat.le_trans ?_ (unB_nx bl is h)
      unfold unB1 at h1
      cases hn : b.nu with
      | true => rw [hn] at h1; cases h1; exact Nat.le_refl _
      | false =>
        rw [hn] at h1; simp only [cond_false] at h1
        cases hlp : b.lp with
        | true => rw [hlp] at h1; simp only [cond_true] at h1; cases h1; exact Nat.le_refl _
        | false =>
        rw [hlp] at h1; simp only [cond_false] at h1
        cases hr : b.rw with
        | some o =>
          rw [hr] at h1
          dsimp only at h1
          split at h1
          · split at h1
            · cases h1; exact Nat.le_succ _
            · cases h1
          · cases h1
        | none =>
        rw [hr] at h1
        dsimp only at h1
        cases hb : b.bu with
        | true =>
          rw [hb] at h1; simp only [cond_true] at h1
          split at h1 <;> cases h1
          exact Nat.le_refl _
        | false =>
          rw [hb] at h1; simp only [cond_false] at h1
          split at h1
          · rename_i h2
            cases h1
            exact Nat.le_trans (unL_nx b.ks h2) (Nat.le_succ _)
          · cases h1
    · cases h
theorem idsB_nx : ∀ (bl : List Bk) (nx : Nat), allOld bl = true → (idsB bl nx).2 = nx + bl.length
  | [], nx, _ => rfl
  | b :: bl, nx, h => by
    simp only [allOld, Bool.and_eq_true] at h
    cases hb : b.old with
    | some i => rw [hb] at h; cases h.1
    | none =>
      simp only [idsB, hb, List.length_cons]
      rw [idsB_nx bl (nx + 1) h.2]
      omega
theorem sh_nx {s : Sh} {ds : List Dat} {vs : List (Nat × SV)} {u : Un} (h : s.un ds 0 = some (vs, u)) (ho : allOld s.bl = true) : s.bl.length ≤ u.nx := by
  unfold Sh.un at h
  replace h := (bift h).2
  have hn := idsB_nx s.bl 0 ho
  split at h
  rename_i bi nx he
  rw [he] at hn
  simp only [Nat.zero_add] at hn
  split at h
  · rename_i h1
    split at h
    · rename_i h2
      cases h
      have := unS_nx s.sl h1
      have := unB_nx s.bl bi h2
      simp only at *
      omega
    · cases h
  · cases h
theorem oldOk_le : ∀ (bl : List Bk) {a b : Nat}, oldOk bl a = true → a ≤ b → oldOk bl b = true
  | [], a, b, h, hab => rfl
  | x :: bl, a, b, h, hab => by
    simp only [oldOk, Bool.and_eq_true] at h ⊢
    refine ⟨?_, oldOk_le bl h.2 hab⟩
    cases ho : x.old with
    | none => rfl
    | some i =>
      have h1 := h.1
      rw [ho] at h1
      simp only [Nat.blt_eq] at h1 ⊢
      omega
def bodyOf (fn : Func) : Code := match fn.body with | some c => c | none => .skip
/-- What is asked of a specification beforehand. -/
def specOk (s : Spec) (fn : Func) : Bool := fn.body.isSome && (slN 0 s.inn.sl s.inn.sl.length && Nat.ble s.inn.sl.length fn.ntmps) && (allOld s.inn.bl && s.outs.all fun o => oldOk o.bl s.inn.bl.length)
/-- A function answers what is computed of its code. -/
theorem fn_is {P : Program} {s : Spec} {fn : Func} (hf : P.funcs[s.f]? = some fn) (h : Hn P) (hc : specOk s fn = true) (hex : (fun x => runF fn.ntmps fn (bodyOf fn) s.inn s.outs h x) = s.fn) : SpecOk P s := by
  unfold specOk at hc
  simp only [Bool.and_eq_true] at hc
  obtain ⟨⟨h1, h2, h2'⟩, h3, h4⟩ := hc
  have hb : fn.body = some (bodyOf fn) := by
    unfold bodyOf
    cases hbd : fn.body with
    | none => rw [hbd] at h1; cases h1
    | some c => rfl
  refine fn_ok hf hb rfl h (by rw [h2, h2']; rfl) (fun ds vs u hu o ho => oldOk_le o.bl (List.all_eq_true.1 h4 o ho) (sh_nx hu h3)) (fun x r hx => ?_)
  rw [← hx]
  exact congrFun hex x
end Go.Proofs.Ytgdjfpmjbjkmhaa
namespace Go.Proofs.Ytgdjfpmjbjkmhaa
open Go.RowKit
set_option linter.unusedVariables false
set_option linter.unusedSimpArgs false
set_option linter.unnecessarySimpa false
set_option linter.unusedSectionVars false
/-- What answers true for all that is known of its arguments does so for the caller. -/
theorem walkX [BldA] {P : Program} {s : Spec} {W : World} (hs : SpecOk P s) {x : TL s.inn.ts} {r : OutT s.outs} (hr : s.fn x = some r) (hgk : BldA.gk (Hp.of W)) {vs : List (Nat × SV)} (hun : s.inn.un (TL.list _ x) 0 = some (vs, ⟨[], 0, [], []⟩))
    (hout : (outSh s.outs r).1.un (outSh s.outs r).2 0 = some ([(0, .bool true)], ⟨[], 0, [], []⟩)) {args : List Value} (hsl : slR [] (Hp.of W) vs args) :
    Calls P s.f args.toArray W fun e W' => e = .returned (.bool true) ∧ Below W.heap.size W W' := by
  have h := hs x r hr vs _ hun [] (Hp.of W) args hgk rfl (fun a ha => by cases ha) hsl (En.of W) W [] (Sep.start W)
  refine h.mono fun e W' h => ?_
  obtain ⟨v, K', L', rfl, ⟨vs', u', m', h1, _, _, _, h2, _⟩, h3, h4⟩ := h
  have h1 := h1.symm.trans hout
  cases h1
  obtain rfl : v = .bool true := h2
  exact ⟨rfl, h4.below h3⟩
end Go.Proofs.Ytgdjfpmjbjkmhaa
namespace Go.Proofs.Ytgdjfpmjbjkmhaa
open Go.RowKit
set_option linter.unusedVariables false
set_option linter.unusedSimpArgs false
set_option linter.unnecessarySimpa false
set_option linter.unusedSectionVars false
section
variable {α : Type} [DecidableEq α]
/-- Where a key stands, and what stands there. -/
def mfind (k : α) : List (α × Int) → Nat → Option (Nat × Int)
  | [], _ => none
  | p :: l, i => if p.1 = k then some (i, p.2) else mfind k l (i + 1)
/-- What stands at a key; 0, if there is none. -/
def mget (k : α) (l : List (α × Int)) : Int := match mfind k l 0 with | some q => q.2 | none => 0
def mset (k : α) (v : Int) (l : List (α × Int)) : List (α × Int) := match mfind k l 0 with
  | some q => l.modify q.1 (fun p => (p.1, v))
  | none => l ++ [(k, v)]
def mdel (k : α) (l : List (α × Int)) : List (α × Int) := match mfind k l 0 with
  | some q => l.eraseIdx q.1
  | none => l
theorem mfind_some {k : α} : ∀ {l : List (α × Int)} {i j : Nat} {c : Int}, mfind k l i = some (j, c) → i ≤ j ∧ l[j - i]? = some (k, c)
  | [], i, j, c, h => by cases h
  | p :: l, i, j, c, h => by
    unfold mfind at h
    split at h
    · rename_i hk
      cases h
      exact ⟨Nat.le_refl _, by simp [← hk]⟩
    · obtain ⟨h1, h2⟩ := mfind_some h
      refine ⟨by omega, ?_⟩
      rw [show j - i = (j - (i + 1)) + 1 by omega]
      simpa using h2
end
theorem modify_at {β : Type} {f : β → β} : ∀ {l : List β} {j : Nat} {e : β}, l[j]? = some e → l.modify j f = l.set j (f e)
  | [], j, e, h => by simp at h
  | x :: l, 0, e, h => by simp at h; subst h; rfl
  | x :: l, j + 1, e, h => by
    have := modify_at (f := f) (l := l) (j := j) (by simpa using h)
    simp [this]
/-- Keys that are told by one look. -/
class KeyNow (P : Program) (t : TypeId) (kt : Tp) [DecidableEq kt.den] : Prop where
  d : ∃ d, P.underlying t = some d ∧ (∀ a b : kt.den, Instr.sameNow d (keyV kt a) (keyV kt b) = some (decide (b = a))) ∧ (∀ e n (a : kt.den) (w : World), (Instr.checkKey e (n + 1) t (keyV kt a)).run P w = .ok () w) ∧ ∀ n (a : kt.den), Instr.sameBits (n + 1) (keyV kt a) (keyV kt a) = true
section
variable {P : Program} {t mt : TypeId} {kt : Tp} [DecidableEq kt.den] {w : World} {r : Nat}
theorem getMap {es : Array MapEntry} {cl : Nat} (hr : w.heap[r]? = some (.map es cl)) : (getObj r).run P w = .ok (.map es cl) w := by simp [getObj, Sem.run, hr]
theorem setMap {es : Array MapEntry} {cl : Nat} (o : Obj) (hr : w.heap[r]? = some (.map es cl)) : (setObj r o).run P w = .ok () { w with heap := w.heap.setIfInBounds r o } := by simp [setObj, Sem.run, hr]
theorem findNow_eq {d : TypeDesc} (hd : ∀ a b : kt.den, Instr.sameNow d (keyV kt a) (keyV kt b) = some (decide (b = a))) (k : kt.den) : ∀ (es : List MapEntry) (l : List (kt.den × Int)) (i : Nat), es.map (fun e => (e.key, e.val)) = l.map (fun p => (keyV kt p.1, Value.int .i64 p.2)) →
    Instr.findNow d (keyV kt k) es i = some ((mfind k l i).map fun q => (q.1, Value.int .i64 q.2))
  | [], [], i, h => rfl
  | [], _ :: _, i, h => by simp at h
  | _ :: _, [], i, h => by simp at h
  | e :: es, p :: l, i, h => by
    simp only [List.map_cons, List.cons.injEq, Prod.mk.injEq] at h
    obtain ⟨⟨h1, h2⟩, h3⟩ := h
    unfold Instr.findNow mfind
    rw [h1, hd]
    by_cases hk : p.1 = k
    · simp [hk, h2]
    · simp only [hk, decide_false, if_false]
      exact findNow_eq hd k es l (i + 1) h3
theorem run_findKey [hk : KeyNow P t kt] (k : kt.den) {es : List MapEntry} {l : List (kt.den × Int)} (h : es.map (fun e => (e.key, e.val)) = l.map (fun p => (keyV kt p.1, Value.int .i64 p.2))) :
    (Instr.findKey t (keyV kt k) es).run P w = .ok ((mfind k l 0).map fun q => (q.1, Value.int .i64 q.2)) w := by
  obtain ⟨d, h1, h2, h3, h4⟩ := hk.d
  unfold Instr.findKey
  simp only [Sem.run_bind, run_underlying h1, Result.andThen, findNow_eq h2 k es l 0 h, Sem.run_pure]
theorem run_lookup_map [hk : KeyNow P t kt] {et : TypeId} (hm : P.underlying mt = some (.map t et)) (hz : ∀ w, (zeroValue et).run P w = .ok (.int .i64 0) w) (k : kt.den) {es : Array MapEntry} {cl : Nat} {l : List (kt.den × Int)} (hr : w.heap[r]? = some (.map es cl))
    (h : es.toList.map (fun e => (e.key, e.val)) = l.map (fun p => (keyV kt p.1, Value.int .i64 p.2))) :
    (Instr.lookup mt (.map (some r)) (keyV kt k) false).run P w = .ok (.int .i64 (mget k l)) w := by
  obtain ⟨d, h1, h2, h3, h4⟩ := hk.d
  unfold Instr.lookup
  simp only [Sem.run_bind, run_underlying hm, Result.andThen, Sem.run_pure, getMap hr, h3, run_findKey k h]
  unfold mget
  cases hf : mfind k l 0 with
  | none => simp [hz, Result.andThen]
  | some q => simp
theorem run_lookup_nil [hk : KeyNow P t kt] {et : TypeId} (hm : P.underlying mt = some (.map t et)) (hz : ∀ w, (zeroValue et).run P w = .ok (.int .i64 0) w) (k : kt.den) :
    (Instr.lookup mt (.map none) (keyV kt k) false).run P w = .ok (.int .i64 0) w := by
  obtain ⟨d, h1, h2, h3, h4⟩ := hk.d
  unfold Instr.lookup
  simp only [Sem.run_bind, run_underlying hm, Result.andThen, Sem.run_pure, h3]
  rw [run_findKey (l := []) k rfl]
  simp [hz, Result.andThen, mfind]
theorem run_mapUpdate_map [hk : KeyNow P t kt] {et : TypeId} (hm : P.underlying mt = some (.map t et)) (k : kt.den) (c : Int) {es : Array MapEntry} {cl : Nat} {l : List (kt.den × Int)} (hr : w.heap[r]? = some (.map es cl))
    (h : es.toList.map (fun e => (e.key, e.val)) = l.map (fun p => (keyV kt p.1, Value.int .i64 p.2))) :
    ∃ es' cl', (Instr.mapUpdate mt (.map (some r)) (keyV kt k) (.int .i64 c)).run P w = .ok () { w with heap := w.heap.setIfInBounds r (.map es' cl') } ∧
      es'.toList.map (fun e => (e.key, e.val)) = (mset k c l).map (fun p => (keyV kt p.1, Value.int .i64 p.2)) := by
  obtain ⟨d, h1, h2, h3, h4⟩ := hk.d
  unfold Instr.mapUpdate
  simp only [Sem.run_bind, run_underlying hm, Result.andThen, Sem.run_pure, getMap hr, h3, run_findKey k h]
  unfold mset
  cases hf : mfind k l 0 with
  | none =>
    refine ⟨_, _, by simp only [Option.map_none]; exact setMap _ hr, ?_⟩
    simp [h]
  | some q =>
    obtain ⟨j, c0⟩ := q
    obtain ⟨_, hq⟩ := mfind_some hf
    rw [Nat.sub_zero] at hq
    have hj : (es.toList.map (fun e => (e.key, e.val)))[j]? = some (keyV kt k, Value.int .i64 c0) := by rw [h, List.getElem?_map, hq]; rfl
    rw [List.getElem?_map] at hj
    obtain ⟨e, he, hej⟩ := Option.map_eq_some_iff.1 hj
    simp only [Prod.mk.injEq] at hej
    have he' : es[j]? = some e := by rw [← Array.getElem?_toList]; exact he
    have hkey : ((es[j]?).map (·.key)).getD (keyV kt k) = keyV kt k := by rw [he']; exact hej.1
    refine ⟨es.modify j (fun e => { e with key := keyV kt k, val := .int .i64 c }), cl, ?_, ?_⟩
    · simp only [Option.map_some, Sem.run_bind, hkey, Instr.keyThatStays, h4, if_true, Sem.run_pure, Result.andThen]
      exact setMap _ hr
    · show _ = List.map _ (l.modify j _)
      rw [Array.toList_modify, modify_at he, modify_at hq, List.map_set, List.map_set, h]
theorem run_delete_map [hk : KeyNow P t kt] {et ty : TypeId} {ts : Array TypeId} (hm : P.underlying mt = some (.map t et)) (ht : ts[0]? = some mt) (k : kt.den) {es : Array MapEntry} {cl : Nat} {l : List (kt.den × Int)} (hr : w.heap[r]? = some (.map es cl))
    (h : es.toList.map (fun e => (e.key, e.val)) = l.map (fun p => (keyV kt p.1, Value.int .i64 p.2))) :
    ∃ es', (Builtin.delete_ ts ty #[.map (some r), keyV kt k]).run P w = .ok (.tuple #[]) { w with heap := w.heap.setIfInBounds r (.map es' cl) } ∧
      es'.toList.map (fun e => (e.key, e.val)) = (mdel k l).map (fun p => (keyV kt p.1, Value.int .i64 p.2)) := by
  obtain ⟨d, h1, h2, h3, h4⟩ := hk.d
  unfold Builtin.delete_
  simp only [ht, List.getElem?_toArray, List.getElem?_cons_zero, List.getElem?_cons_succ, Sem.run_bind, run_underlying hm, Result.andThen, Sem.run_pure, getMap hr, h3, run_findKey k h]
  unfold mdel
  cases hf : mfind k l 0 with
  | none => exact ⟨es, by simp only [Option.map_none, Sem.run_bind, setMap _ hr, Result.andThen, Sem.run_pure], h⟩
  | some q =>
    obtain ⟨j, c0⟩ := q
    refine ⟨es.eraseIdxIfInBounds j, by simp only [Option.map_some, Sem.run_bind, setMap _ hr, Result.andThen, Sem.run_pure], ?_⟩
    show _ = List.map _ (l.eraseIdx j)
    have hsub : (es.eraseIdxIfInBounds j).toList = es.toList.eraseIdx j := by
      unfold Array.eraseIdxIfInBounds
      split
      · simp
      · rename_i hj; rw [List.eraseIdx_of_length_le (by simpa using hj)]
    have hmap : ∀ {β γ : Type} (g : β → γ) (l : List β) (j : Nat), (l.eraseIdx j).map g = (l.map g).eraseIdx j := by
      intro β γ g l
      induction l with
      | nil => intro j; rfl
      | cons x l ih => intro j; cases j with
        | zero => rfl
        | succ j => simp [ih]
    rw [hsub, hmap, hmap, h]
theorem run_delete_nil [hk : KeyNow P t kt] {et ty : TypeId} {ts : Array TypeId} (hm : P.underlying mt = some (.map t et)) (ht : ts[0]? = some mt) (k : kt.den) :
    (Builtin.delete_ ts ty #[.map none, keyV kt k]).run P w = .ok (.tuple #[]) w := by
  obtain ⟨d, h1, h2, h3, h4⟩ := hk.d
  unfold Builtin.delete_
  simp only [ht, List.getElem?_toArray, List.getElem?_cons_zero, List.getElem?_cons_succ, Sem.run_bind, run_underlying hm, Result.andThen, Sem.run_pure, h3]
end
end Go.Proofs.Ytgdjfpmjbjkmhaa
namespace Go.Proofs.Ytgdjfpmjbjkmhaa
open Go.RowKit
set_option linter.unusedVariables false
set_option linter.unusedSimpArgs false
set_option linter.unnecessarySimpa false
set_option maxRecDepth 100000
set_option maxHeartbeats 4000000
theorem beq_swap {α : Type} [DecidableEq α] [BEq α] [LawfulBEq α] (a b : α) : (a == b) = decide (b = a) := by
  by_cases h : b = a
  · subst h; simp
  · have h' : ¬ a = b := fun e => h e.symm
    simp [h, h']
theorem bytes_dec (a b : List UInt8) : ((⟨a.toArray⟩ : ByteArray) == ⟨b.toArray⟩) = decide (b = a) := by
  by_cases h : b = a
  · subst h; simp [(MapKept.bytes_beq _ _).2]
  · have h' : ¬ ((⟨a.toArray⟩ : ByteArray) == ⟨b.toArray⟩) = true := fun e => h (by
      have := congrArg (fun x : ByteArray => x.data.toList) ((MapKept.bytes_beq _ _).1 e)
      exact this.symm)
    simp only [h, decide_false]
    simpa using h'
/-- Nothing has turned but object r, and what was not there. -/
def Onl (w w' : World) (r : Nat) (o : Obj) : Prop := w'.heap[r]? = some o ∧ (∀ n x, n ≠ r → w.heap[n]? = some x → w'.heap[n]? = some x) ∧ w'.os = w.os ∧ w'.tape = w.tape ∧ w'.output = w.output
/-- Block b has turned; object r is new. -/
def Onl2 (w w' : World) (b : Nat) (ob : Obj) (r : Nat) (o : Obj) : Prop := w'.heap[b]? = some ob ∧ w'.heap[r]? = some o ∧ w.heap[r]? = none ∧ (∀ n x, n ≠ b → w.heap[n]? = some x → w'.heap[n]? = some x) ∧ w'.os = w.os ∧ w'.tape = w.tape ∧ w'.output = w.output
theorem alloc_old {w : World} {o x : Obj} {n : Nat} (h : w.heap[n]? = some x) : (w.alloc o).heap[n]? = some x := (Below.heap_alloc _ _ _ (lt_of_block h)).trans h
theorem setCell_ne {w : World} {b i n : Nat} {v : Value} (h : n ≠ b) : (w.setCell ⟨b, i, none⟩ v).heap[n]? = w.heap[n]? := by
  simp only [World.setCell, Array.getElem?_modify]
  rw [if_neg (fun e => h e.symm)]
section
variable {E : En} {K : Hp} {L : List Atom} {w w' : World}
theorem Sep.grow (hs : Sep E K L w) (ho : ∀ (n : Nat) (x : Obj), w.heap[n]? = some x → w'.heap[n]? = some x) (he : w'.os = w.os ∧ w'.tape = w.tape ∧ w'.output = w.output) : Sep E K L w' :=
  Sep.move (fun ⟨a, b, c⟩ => ⟨he.1.trans a, he.2.1.trans b, he.2.2.trans c⟩) hs (fun n o e => ho n o (hs.sub n o e)) (fun n o e h => ⟨h, ho n o e⟩)
theorem Sep.obj {r : Nat} {o : Obj} (hs : Sep E K ((fun h => h = one r o) :: L) w) : w.heap[r]? = some o := by
  obtain ⟨h, rfl, hd, hs⟩ := hs
  exact hs.sub r _ (Hp.join_right (by simp [one]) (hd r o (by simp [one])))
theorem Sep.onl {r : Nat} {o o' : Obj} (hs : Sep E K ((fun h => h = one r o) :: L) w) (h : Onl w w' r o') : Sep E K ((fun h => h = one r o') :: L) w' :=
  Sep.turn hs (fun ⟨a, b, c⟩ => ⟨h.2.2.1.trans a, h.2.2.2.1.trans b, h.2.2.2.2.trans c⟩) (fun h0 ha _ => by
    subst ha
    refine ⟨_, rfl, fun n x e => ?_, fun n x e h1 => ?_⟩
    · obtain ⟨rfl, rfl⟩ := one_some e
      exact ⟨h.1, fun e => by simp [one] at e⟩
    · exact h.2.1 n x (fun e => by subst e; simp [one] at h1) e)
theorem Sep.onl2 {b r : Nat} {t : TypeId} {cs cs' : List Value} {o : Obj} (hs : Sep E K (Cl b t cs :: L) w) (h : Onl2 w w' b (.cells cs'.toArray t (0, 0)) r o) : Sep E K (Cl b t cs' :: (fun h => h = one r o) :: L) w' := by
  have hb := hs.cl
  refine Sep.split (Sep.turn hs (fun ⟨a, b, c⟩ => ⟨h.2.2.2.2.1.trans a, h.2.2.2.2.2.1.trans b, h.2.2.2.2.2.2.trans c⟩) (fun h0 ha _ => ?_))
  unfold Cl at ha; subst ha
  have hne : ∀ x, one r o b = some x → False := fun x e => by
    obtain ⟨rfl, _⟩ := one_some e
    rw [h.2.2.1] at hb; cases hb
  refine ⟨(one b (.cells cs'.toArray t (0, 0))).join (one r o), ⟨_, _, rfl, rfl, fun n x e => ?_, rfl⟩, fun n x e => ?_, fun n x e h1 => ?_⟩
  · by_cases hn : n = b
    · subst hn; exact (hne x e).elim
    · simp [one, hn]
  · rcases Hp.join_some e with e | ⟨_, e⟩
    · obtain ⟨rfl, rfl⟩ := one_some e
      exact ⟨h.1, fun e => by simp [one] at e⟩
    · obtain ⟨rfl, rfl⟩ := one_some e
      exact ⟨h.2.1, fun _ => h.2.2.1⟩
  · exact h.2.2.2.1 n x (fun e => by subst e; simp [one] at h1) e
end
section
variable {α : Type} [DecidableEq α]
/-- Does it not wait? And what is counted then. -/
def markB (k : α) (x : Option (List (α × Int))) : Bool := match x with | none => true | some l => !decide (mget k l > 0)
def markL (k : α) (x : Option (List (α × Int))) : List (α × Int) := match x with | none => mset k (wrap64 (mget k [] + 1)) [] | some l => if mget k l > 0 then l else mset k (wrap64 (mget k l + 1)) l
end
theorem zero_i64 (w : World) : (zeroValue 3).run Try.prog w = .ok (.int .i64 0) w := by
  rfl
theorem catch_str (p : Addr) (w : World) :
    CallsD Try.prog 43 #[.pointer (some p)] .returning w fun e u' w' => e = .returned (.tuple #[]) ∧ u' = .returning ∧ w' = w := by
  refine callsD_of_wpS Try.func43 rfl fun c₀ cs hu => ?_
  apply wpS_seq
  apply wpS_region
  simp [wpOpsS, go_sem, recoverD, hu, Try.ntmps43, Exit.thenS]
  refine wpS_cond (t := false) (by simp [Act.eval, Array.replicate]) ?_
  simp only [Bool.false_eq_true, if_false]
  refine wpS_of_wp (wp_skip ?_)
  cases c₀
  simp_all [bodyPostS, results, Try.results43]
theorem catchU_str (w : World) :
    CallsD Try.prog 44 #[] .returning w fun e u' w' => e = .returned (.tuple #[]) ∧ u' = .returning ∧ w' = w := by
  refine callsD_of_wpS Try.func44 rfl fun c₀ cs hu => ?_
  apply wpS_region
  simp [wpOpsS, go_sem, recoverD, hu, Try.ntmps44, Exit.thenS]
  cases c₀
  simp_all [bodyPostS, results, Try.results44]
theorem eqn_str (r : Option Nat) (w : World) : (binOp .eql 61 (.map r) (.map none)).run Try.prog w = .ok (.bool r.isNone) w := by
  have h : (Op.equal 61 (.map r) (.map none)).run Try.prog w = .ok r.isNone w := by
    unfold Op.equal
    rw [show Op.maxDepth = 9999 + 1 from rfl, Op.equalIn]
    simp only [Sem.run_bind, run_underlying Try.underlying61, Result.andThen]
    cases r <;> rfl
  show (do pure (Value.bool (← Op.equal 61 (.map r) (.map none))) : Sem Value).run _ _ = _
  simp only [Sem.run_bind, h, Result.andThen, Sem.run_pure]
instance now_str : KeyNow Try.prog 9 (.str) := ⟨⟨_, Try.underlying9, fun a b => by
  show some ((⟨List.toArray (α := UInt8) a⟩ : ByteArray) == ⟨List.toArray (α := UInt8) b⟩) = some (decide ((b : List UInt8) = a)); exact congrArg some (bytes_dec a b), fun e n a w => by
  unfold Instr.checkKey
  simp only [Sem.run_bind, run_underlying Try.underlying9, Result.andThen, keyV]
  rfl, fun n a => by show ((⟨List.toArray (α := UInt8) a⟩ : ByteArray) == ⟨List.toArray (α := UInt8) a⟩) = true; exact (MapKept.bytes_beq _ _).2 rfl⟩⟩
section
variable (b r : Nat) (c0 c1 c2 : Value) (k : List UInt8) {es : Array MapEntry} {cl : Nat} {l : List (List UInt8 × Int)} (w : World)
theorem mark_str_old (hb : w.heap[b]? = some (.cells #[c0, c1, c2, .map (some r)] 63 (0, 0))) (hr : w.heap[r]? = some (.map es cl))
    (hl : es.toList.map (fun e => (e.key, e.val)) = l.map (fun p => (keyV (.str) p.1, Value.int .i64 p.2))) (hp : mget k l > 0) :
    Calls Try.prog 39 #[.pointer (some ⟨b, 0, none⟩), .string ⟨k.toArray⟩] w fun e w' => e = .returned (.bool false) ∧ w' = (w.alloc (.cells #[.bool false] 4)).setCell ⟨w.heap.size, 0, none⟩ (.bool false) := by
  have hmf : ∀ (fn : Fn) (first cap : Array Value) (w : World), (Instr.makeFunc fn first cap).run Try.prog w = .ok (.func fn first cap) w := fun _ _ _ _ => rfl
  have hr1 : (w.alloc (.cells #[.bool false] 4)).heap[r]? = some (.map es cl) := alloc_old hr
  have hld : (w.alloc (.cells #[.bool false] 4)).cell? ⟨b, 3, none⟩ = some (.map (some r)) := by
    have hb1 : (w.alloc (.cells #[.bool false] 4)).heap[b]? = some (.cells #[c0, c1, c2, .map (some r)] 63 (0, 0)) := alloc_old hb
    simp [World.cell?, hb1]
  have hlk : (Instr.lookup 61 (.map (some r)) (.string ⟨k.toArray⟩) false).run Try.prog (w.alloc (.cells #[.bool false] 4)) = .ok (.int .i64 (mget k l)) (w.alloc (.cells #[.bool false] 4)) := run_lookup_map (kt := .str) Try.underlying61 zero_i64 k hr1 hl
  have heq := eqn_str (some r)
  simp only [Option.isNone_some] at heq
  have hgt : decide (mget k l > 0) = true := by simpa using hp
  go_enter_defers Try.func39, Try.ntmps39
  go_wp2
  refine leaves_cons (f := 43) (args := #[.pointer (some ⟨w.heap.size, 0, none⟩)]) (by simp) (by simp [go_sem]) ?_
  refine (catch_str ⟨w.heap.size, 0, none⟩ _).mono ?_
  rintro e u' w'' ⟨rfl, rfl, rfl⟩
  simp [Leaves, settle, results, Try.results39, go_sem]
theorem mark_str_new (hb : w.heap[b]? = some (.cells #[c0, c1, c2, .map (some r)] 63 (0, 0))) (hr : w.heap[r]? = some (.map es cl))
    (hl : es.toList.map (fun e => (e.key, e.val)) = l.map (fun p => (keyV (.str) p.1, Value.int .i64 p.2))) (hp : ¬ mget k l > 0) :
    Calls Try.prog 39 #[.pointer (some ⟨b, 0, none⟩), .string ⟨k.toArray⟩] w fun e w' => e = .returned (.bool true) ∧ ∃ es' cl', Onl w w' r (.map es' cl') ∧ es'.toList.map (fun e => (e.key, e.val)) = (mset k (wrap64 (mget k l + 1)) l).map (fun p => (keyV (.str) p.1, Value.int .i64 p.2)) := by
  have hmf : ∀ (fn : Fn) (first cap : Array Value) (w : World), (Instr.makeFunc fn first cap).run Try.prog w = .ok (.func fn first cap) w := fun _ _ _ _ => rfl
  have hr1 : (w.alloc (.cells #[.bool false] 4)).heap[r]? = some (.map es cl) := alloc_old hr
  have hld : (w.alloc (.cells #[.bool false] 4)).cell? ⟨b, 3, none⟩ = some (.map (some r)) := by
    have hb1 : (w.alloc (.cells #[.bool false] 4)).heap[b]? = some (.cells #[c0, c1, c2, .map (some r)] 63 (0, 0)) := alloc_old hb
    simp [World.cell?, hb1]
  have hlk : (Instr.lookup 61 (.map (some r)) (.string ⟨k.toArray⟩) false).run Try.prog (w.alloc (.cells #[.bool false] 4)) = .ok (.int .i64 (mget k l)) (w.alloc (.cells #[.bool false] 4)) := run_lookup_map (kt := .str) Try.underlying61 zero_i64 k hr1 hl
  have heq := eqn_str (some r)
  simp only [Option.isNone_some] at heq
  have hgt : decide (mget k l > 0) = false := by simpa using hp
  obtain ⟨es', cl', hup, hl'⟩ := run_mapUpdate_map (kt := .str) (P := Try.prog) (mt := 61) Try.underlying61 k (wrap64 (mget k l + 1)) hr1 hl
  obtain ⟨w2, hup, hO1, hn⟩ : ∃ w2 : World, (Instr.mapUpdate 61 (.map (some r)) (.string ⟨k.toArray⟩) (.int .i64 (wrap64 (mget k l + 1)))).run Try.prog (w.alloc (.cells #[.bool false] 4)) = .ok () w2 ∧ Onl w w2 r (.map es' cl') ∧ w2.heap[w.heap.size]? = some (.cells #[.bool false] 4) := by
    have hrs := lt_of_block hr
    refine ⟨_, hup, ⟨?_, fun n x hne hx => ?_, rfl, rfl, rfl⟩, ?_⟩
    · simp only [Array.getElem?_setIfInBounds]
      rw [if_pos trivial, if_pos (lt_of_block hr1)]
    · simp only [Array.getElem?_setIfInBounds]
      rw [if_neg (fun e => hne e.symm)]
      exact alloc_old hx
    · simp only [Array.getElem?_setIfInBounds]
      rw [if_neg (by omega)]
      exact alloc_new w _
  have hc2 : w2.cell? ⟨w.heap.size, 0, none⟩ = some (.bool false) := by simp [World.cell?, hn]
  have hz2 : w2.frozen? ⟨w.heap.size, 0, none⟩ = false := by simp [World.frozen?, hn]
  go_enter_defers Try.func39, Try.ntmps39
  go_wp2
  refine leaves_cons (f := 43) (args := #[.pointer (some ⟨w.heap.size, 0, none⟩)]) (by simp) (by simp [go_sem]) ?_
  refine (catch_str ⟨w.heap.size, 0, none⟩ _).mono ?_
  rintro e u' w'' ⟨rfl, rfl, rfl⟩
  have hc3 : (w2.setCell ⟨w.heap.size, 0, none⟩ (.bool true)).cell? ⟨w.heap.size, 0, none⟩ = some (.bool true) := by simp [World.cell?, World.setCell, Array.getElem?_modify, hn]
  have hO : Onl w (w2.setCell ⟨w.heap.size, 0, none⟩ (.bool true)) r (.map es' cl') := by
    have hrs := lt_of_block hr
    obtain ⟨o1, o2, o3⟩ := hO1
    exact ⟨by rw [setCell_ne (by omega)]; exact o1, fun n x hne hx => by have := lt_of_block hx; rw [setCell_ne (by omega)]; exact o2 n x hne hx, o3⟩
  simp [Leaves, settle, results, Try.results39, go_sem, hc3]
  exact ⟨es', ⟨cl', hO⟩, by simpa using hl'⟩
theorem mark_str_nil (hb : w.heap[b]? = some (.cells #[c0, c1, c2, .map none] 63 (0, 0))) :
    Calls Try.prog 39 #[.pointer (some ⟨b, 0, none⟩), .string ⟨k.toArray⟩] w fun e w' => e = .returned (.bool true) ∧ ∃ r es' cl', Onl2 w w' b (.cells #[c0, c1, c2, .map (some r)] 63 (0, 0)) r (.map es' cl') ∧ es'.toList.map (fun e => (e.key, e.val)) = (mset k (wrap64 (mget k [] + 1)) []).map (fun p => (keyV (.str) p.1, Value.int .i64 p.2)) := by
  have hmf : ∀ (fn : Fn) (first cap : Array Value) (w : World), (Instr.makeFunc fn first cap).run Try.prog w = .ok (.func fn first cap) w := fun _ _ _ _ => rfl
  have hbs := lt_of_block hb
  have hb1 : (w.alloc (.cells #[.bool false] 4)).heap[b]? = some (.cells #[c0, c1, c2, .map none] 63 (0, 0)) := alloc_old hb
  have hld : (w.alloc (.cells #[.bool false] 4)).cell? ⟨b, 3, none⟩ = some (.map none) := by simp [World.cell?, hb1]
  have heq := eqn_str none
  simp only [Option.isNone_none] at heq
  have hsz : (w.alloc (.cells #[.bool false] 4)).heap.size = w.heap.size + 1 := by simp
  have hmk : (Instr.makeMap 61 none).run Try.prog (w.alloc (.cells #[.bool false] 4)) = .ok (.map (some (w.heap.size + 1))) ((w.alloc (.cells #[.bool false] 4)).alloc (.map #[] 0)) := by
    simp only [Instr.makeMap, Sem.run_bind, Sem.run_pure, run_newObj_alloc, Result.andThen, hsz]
  obtain ⟨w2, hw2, ho2, he2⟩ : ∃ w2, (Instr.makeMap 61 none).run Try.prog (w.alloc (.cells #[.bool false] 4)) = .ok (.map (some (w.heap.size + 1))) w2 ∧ (w2.heap[w.heap.size + 1]? = some (.map #[] 0) ∧ w2.heap[w.heap.size]? = some (.cells #[.bool false] 4) ∧ ∀ n x, w.heap[n]? = some x → w2.heap[n]? = some x) ∧ w2.os = w.os ∧ w2.tape = w.tape ∧ w2.output = w.output := by
    refine ⟨_, hmk, ⟨?_, alloc_old (alloc_new w _), fun n x hx => alloc_old (alloc_old hx)⟩, rfl, rfl, rfl⟩
    rw [← hsz]; exact alloc_new _ _
  clear hmk
  obtain ⟨ho2r, ho2n, ho2o⟩ := ho2
  have hcb2 : w2.cell? ⟨b, 3, none⟩ = some (.map none) := by simp [World.cell?, ho2o _ _ hb]
  have hzb2 : w2.frozen? ⟨b, 3, none⟩ = false := by simp [World.frozen?, ho2o _ _ hb]
  obtain ⟨w3, hw3⟩ : ∃ w3, w2.setCell ⟨b, 3, none⟩ (.map (some (w.heap.size + 1))) = w3 := ⟨_, rfl⟩
  have h3r : w3.heap[w.heap.size + 1]? = some (.map #[] 0) := by rw [← hw3, setCell_ne (by omega)]; exact ho2r
  have h3n : w3.heap[w.heap.size]? = some (.cells #[.bool false] 4) := by rw [← hw3, setCell_ne (by omega)]; exact ho2n
  have h3b : w3.heap[b]? = some (.cells #[c0, c1, c2, .map (some (w.heap.size + 1))] 63 (0, 0)) := by
    rw [← hw3]; simp [World.setCell, Array.getElem?_modify, ho2o _ _ hb]
  have hc3 : w3.cell? ⟨b, 3, none⟩ = some (.map (some (w.heap.size + 1))) := by simp [World.cell?, h3b]
  have hlk : (Instr.lookup 61 (.map (some (w.heap.size + 1))) (.string ⟨k.toArray⟩) false).run Try.prog w3 = .ok (.int .i64 0) w3 := run_lookup_map (kt := .str) Try.underlying61 zero_i64 k h3r (l := []) rfl
  obtain ⟨es', cl', hup, hl'⟩ := run_mapUpdate_map (kt := .str) (P := Try.prog) (mt := 61) Try.underlying61 k 1 h3r (l := []) rfl
  obtain ⟨w4, hup, h4r, h4o, h4e⟩ : ∃ w4 : World, (Instr.mapUpdate 61 (.map (some (w.heap.size + 1))) (.string ⟨k.toArray⟩) (.int .i64 1)).run Try.prog w3 = .ok () w4 ∧ w4.heap[w.heap.size + 1]? = some (.map es' cl') ∧ (∀ n, n ≠ w.heap.size + 1 → w4.heap[n]? = w3.heap[n]?) ∧ w4.os = w3.os ∧ w4.tape = w3.tape ∧ w4.output = w3.output := by
    refine ⟨_, hup, ?_, fun n hne => ?_, rfl, rfl, rfl⟩
    · simp only [Array.getElem?_setIfInBounds]
      rw [if_pos trivial, if_pos (lt_of_block h3r)]
    · simp only [Array.getElem?_setIfInBounds]
      rw [if_neg (fun e => hne e.symm)]
  have h4n : w4.heap[w.heap.size]? = some (.cells #[.bool false] 4) := (h4o _ (by omega)).trans h3n
  have hc4 : w4.cell? ⟨w.heap.size, 0, none⟩ = some (.bool false) := by simp [World.cell?, h4n]
  have hz4 : w4.frozen? ⟨w.heap.size, 0, none⟩ = false := by simp [World.frozen?, h4n]
  go_enter_defers Try.func39, Try.ntmps39
  go_wp2
  refine leaves_cons (f := 43) (args := #[.pointer (some ⟨w.heap.size, 0, none⟩)]) (by simp) (by simp [go_sem]) ?_
  refine (catch_str ⟨w.heap.size, 0, none⟩ _).mono ?_
  rintro e u' w'' ⟨rfl, rfl, rfl⟩
  have hc5 : (w4.setCell ⟨w.heap.size, 0, none⟩ (.bool true)).cell? ⟨w.heap.size, 0, none⟩ = some (.bool true) := by simp [World.cell?, World.setCell, Array.getElem?_modify, h4n]
  have hO : Onl2 w (w4.setCell ⟨w.heap.size, 0, none⟩ (.bool true)) b (.cells #[c0, c1, c2, .map (some (w.heap.size + 1))] 63 (0, 0)) (w.heap.size + 1) (.map es' cl') := by
    obtain ⟨e1, e2, e3⟩ := h4e
    obtain ⟨f1, f2, f3⟩ := he2
    refine ⟨by rw [setCell_ne (by omega), h4o _ (by omega)]; exact h3b, by rw [setCell_ne (by omega)]; exact h4r, Array.getElem?_eq_none (by omega), fun n x hne hx => ?_, ?_, ?_, ?_⟩
    · have := lt_of_block hx
      rw [setCell_ne (by omega), h4o _ (by omega), ← hw3, setCell_ne hne]; exact ho2o _ _ hx
    · exact e1.trans ((congrArg World.os hw3.symm).trans f1)
    · exact e2.trans ((congrArg World.tape hw3.symm).trans f2)
    · exact e3.trans ((congrArg World.output hw3.symm).trans f3)
  have h1 : wrap64 (mget k [] + 1) = 1 := IntWalk.wrap64_in (0 + 1) (by decide)
  rw [h1]
  simp only [Leaves, settle, results, Try.results39]
  simp [go_sem, hc5]
  exact ⟨_, es', ⟨cl', hO⟩, by simpa using hl'⟩
theorem unmark_str_old (hb : w.heap[b]? = some (.cells #[c0, c1, c2, .map (some r)] 63 (0, 0))) (hr : w.heap[r]? = some (.map es cl))
    (hl : es.toList.map (fun e => (e.key, e.val)) = l.map (fun p => (keyV (.str) p.1, Value.int .i64 p.2))) :
    Calls Try.prog 40 #[.pointer (some ⟨b, 0, none⟩), .string ⟨k.toArray⟩] w fun e w' => e = .returned (.tuple #[]) ∧ ∃ es' cl', Onl w w' r (.map es' cl') ∧ es'.toList.map (fun e => (e.key, e.val)) = (mdel k l).map (fun p => (keyV (.str) p.1, Value.int .i64 p.2)) := by
  have hld : w.cell? ⟨b, 3, none⟩ = some (.map (some r)) := by simp [World.cell?, hb]
  obtain ⟨es', hd, hl'⟩ := run_delete_map (kt := .str) (P := Try.prog) (mt := 61) (ts := #[61, 9]) (ty := 0) Try.underlying61 rfl k hr hl
  obtain ⟨w2, hd, hO⟩ : ∃ w2 : World, (Builtin.delete_ #[61, 9] 0 #[.map (some r), .string ⟨k.toArray⟩]).run Try.prog w = .ok (.tuple #[]) w2 ∧ Onl w w2 r (.map es' cl) := by
    refine ⟨_, hd, ⟨?_, fun n x hne hx => ?_, rfl, rfl, rfl⟩⟩
    · simp only [Array.getElem?_setIfInBounds]
      rw [if_pos trivial, if_pos (lt_of_block hr)]
    · simp only [Array.getElem?_setIfInBounds]
      rw [if_neg (fun e => hne e.symm)]
      exact hx
  go_enter_defers Try.func40, Try.ntmps40
  go_wp2
  refine leaves_cons (f := 44) (args := #[]) (by simp) (by simp [go_sem]) ?_
  refine (catchU_str _).mono ?_
  rintro e u' w'' ⟨rfl, rfl, rfl⟩
  simp only [Leaves, settle, results, Try.results40]
  simp [go_sem]
  exact ⟨es', ⟨cl, hO⟩, by simpa using hl'⟩
theorem unmark_str_nil (hb : w.heap[b]? = some (.cells #[c0, c1, c2, .map none] 63 (0, 0))) :
    Calls Try.prog 40 #[.pointer (some ⟨b, 0, none⟩), .string ⟨k.toArray⟩] w fun e w' => e = .returned (.tuple #[]) ∧ w' = w := by
  have hld : w.cell? ⟨b, 3, none⟩ = some (.map none) := by simp [World.cell?, hb]
  have hd : (Builtin.delete_ #[61, 9] 0 #[.map none, .string ⟨k.toArray⟩]).run Try.prog w = .ok (.tuple #[]) w := run_delete_nil (kt := .str) (P := Try.prog) (mt := 61) (ts := #[61, 9]) (ty := 0) Try.underlying61 rfl k
  go_enter_defers Try.func40, Try.ntmps40
  go_wp2
  refine leaves_cons (f := 44) (args := #[]) (by simp) (by simp [go_sem]) ?_
  refine (catchU_str _).mono ?_
  rintro e u' w'' ⟨rfl, rfl, rfl⟩
  simp only [Leaves, settle, results, Try.results40]
  simp [go_sem]
end
abbrev Ob_str : OT := .obj 0 (.sl (.cons (.str) (.one (.int .i64))))
theorem mark_str_tr {K K0 : Hp} {b : Nat} {c0 c1 c2 mv : Value} (k : List UInt8) (x : Option (List (List UInt8 × Int))) :
    Tr Try.prog 39 #[.pointer (some ⟨b, 0, none⟩), .string ⟨k.toArray⟩] K [Cl b 63 [c0, c1, c2, mv], OT.own K0 Ob_str [mv] x] (fun v K' L' => (∃ mv', mv'.oneCell' = true ∧ Ob_str.form mv' (some (markL k x) : Option (List (List UInt8 × Int))) ∧ v = .bool (markB k x) ∧ L' = [Cl b 63 [c0, c1, c2, mv'], OT.own K0 Ob_str [mv'] (some (markL k x) : Option (List (List UInt8 × Int)))]) ∧ K = K') := by
  intro E w F hs
  have hb := hs.cl
  cases x with
  | none =>
    have hm := hs.swap.fact (p := [mv] = [Value.map none]) (fun h k => k.1)
    cases hm
    refine (mark_str_nil b c0 c1 c2 k w hb).mono ?_
    rintro e w' ⟨rfl, r, es', cl', hO, hl⟩
    refine ⟨_, K, _, rfl, ⟨⟨.map (some r), rfl, .inr ⟨_, r, rfl, rfl⟩, rfl, rfl⟩, rfl⟩, Hp.le_refl K, ?_⟩
    exact ((Sep.onl2 hs.swap.drop hO).swap.mono (fun h k => ⟨r, _, rfl, ⟨es', cl', rfl, hl⟩, k⟩)).swap
  | some l =>
    obtain ⟨r, o, e1, ⟨es, cl, rfl, hl⟩⟩ := hs.swap.fact (p := ∃ r o, [mv] = [Value.map (some r)] ∧ ObjR 0 (.sl (.cons (.str) (.one (.int .i64)))) l o) (fun h k => by obtain ⟨r, o, a, b, _⟩ := k; exact ⟨r, o, a, b⟩)
    cases e1
    have hs1 : Sep E K ((fun h => ∃ es cl, h = one r (.map es cl) ∧ es.toList.map (fun e => (e.key, e.val)) = l.map (fun p => (keyV (.str) p.1, Value.int .i64 p.2))) :: Cl b 63 [c0, c1, c2, .map (some r)] :: F) w :=
      hs.swap.mono (fun h k => by obtain ⟨r', o, a, ⟨es, cl, rfl, hl⟩, c⟩ := k; cases a; exact ⟨es, cl, c, hl⟩)
    obtain ⟨h0, ⟨es, cl, rfl, hl⟩, hd, hs1⟩ := hs1
    have hs2 : Sep E K ((fun h => h = one r (.map es cl)) :: Cl b 63 [c0, c1, c2, .map (some r)] :: F) w := ⟨_, rfl, hd, hs1⟩
    have hr := hs2.obj
    by_cases hp : mget k l > 0
    · refine (mark_str_old b r c0 c1 c2 k w hb hr hl hp).mono ?_
      rintro e w' ⟨rfl, rfl⟩
      refine ⟨_, K, _, rfl, ⟨⟨.map (some r), rfl, .inr ⟨_, r, rfl, rfl⟩, by simp [markB, hp], rfl⟩, rfl⟩, Hp.le_refl K, ?_⟩
      rw [show markL k (some l) = l by simp [markL, hp]]
      refine Sep.grow (((hs2.mono (fun h k => ⟨r, _, rfl, ⟨es, cl, rfl, hl⟩, k⟩)).swap : Sep E K (Cl b 63 [c0, c1, c2, .map (some r)] :: OT.own K0 Ob_str [.map (some r)] (some l : Option (List (List UInt8 × Int))) :: F) w)) (fun n x hx => ?_) ⟨rfl, rfl, rfl⟩
      have := lt_of_block hx
      rw [setCell_ne (by omega)]; exact alloc_old hx
    · refine (mark_str_new b r c0 c1 c2 k w hb hr hl hp).mono ?_
      rintro e w' ⟨rfl, es', cl', hO, hl'⟩
      refine ⟨_, K, _, rfl, ⟨⟨.map (some r), rfl, .inr ⟨_, r, rfl, rfl⟩, by simp [markB, hp], rfl⟩, rfl⟩, Hp.le_refl K, ?_⟩
      rw [show markL k (some l) = mset k (wrap64 (mget k l + 1)) l by simp [markL, hp]]
      exact ((hs2.onl hO).mono (fun h k => ⟨r, _, rfl, ⟨es', cl', rfl, hl'⟩, k⟩)).swap
theorem unmark_str_tr {K K0 : Hp} {b : Nat} {c0 c1 c2 mv : Value} (k : List UInt8) (x : Option (List (List UInt8 × Int))) :
    Tr Try.prog 40 #[.pointer (some ⟨b, 0, none⟩), .string ⟨k.toArray⟩] K [Cl b 63 [c0, c1, c2, mv], OT.own K0 Ob_str [mv] x] (fun v K' L' => (∃ mv', mv'.oneCell' = true ∧ Ob_str.form mv' (x.map (mdel k) : Option (List (List UInt8 × Int))) ∧ v = .tuple #[] ∧ L' = [Cl b 63 [c0, c1, c2, mv'], OT.own K0 Ob_str [mv'] (x.map (mdel k) : Option (List (List UInt8 × Int)))]) ∧ K = K') := by
  intro E w F hs
  have hb := hs.cl
  cases x with
  | none =>
    have hm := hs.swap.fact (p := [mv] = [Value.map none]) (fun h k => k.1)
    cases hm
    refine (unmark_str_nil b c0 c1 c2 k w hb).mono ?_
    rintro e w' ⟨rfl, rfl⟩
    exact ⟨_, K, _, rfl, ⟨⟨.map none, rfl, .inl ⟨rfl, rfl⟩, rfl, rfl⟩, rfl⟩, Hp.le_refl K, hs⟩
  | some l =>
    obtain ⟨r, o, e1, ⟨es, cl, rfl, hl⟩⟩ := hs.swap.fact (p := ∃ r o, [mv] = [Value.map (some r)] ∧ ObjR 0 (.sl (.cons (.str) (.one (.int .i64)))) l o) (fun h k => by obtain ⟨r, o, a, b, _⟩ := k; exact ⟨r, o, a, b⟩)
    cases e1
    have hs1 : Sep E K ((fun h => ∃ es cl, h = one r (.map es cl) ∧ es.toList.map (fun e => (e.key, e.val)) = l.map (fun p => (keyV (.str) p.1, Value.int .i64 p.2))) :: Cl b 63 [c0, c1, c2, .map (some r)] :: F) w :=
      hs.swap.mono (fun h k => by obtain ⟨r', o, a, ⟨es, cl, rfl, hl⟩, c⟩ := k; cases a; exact ⟨es, cl, c, hl⟩)
    obtain ⟨h0, ⟨es, cl, rfl, hl⟩, hd, hs1⟩ := hs1
    have hs2 : Sep E K ((fun h => h = one r (.map es cl)) :: Cl b 63 [c0, c1, c2, .map (some r)] :: F) w := ⟨_, rfl, hd, hs1⟩
    have hr := hs2.obj
    refine (unmark_str_old b r c0 c1 c2 k w hb hr hl).mono ?_
    rintro e w' ⟨rfl, es', cl', hO, hl'⟩
    refine ⟨_, K, _, rfl, ⟨⟨.map (some r), rfl, .inr ⟨_, r, rfl, rfl⟩, rfl, rfl⟩, rfl⟩, Hp.le_refl K, ?_⟩
    exact ((hs2.onl hO).mono (fun h k => ⟨r, _, rfl, ⟨es', cl', rfl, hl'⟩, k⟩)).swap
/-- What a worklist's mark computes: whether it is fresh; and the worklist then. -/
def markF_str (k : List UInt8) (ring : List (List UInt8)) (first many : Int) (x : Option (List (List UInt8 × Int))) : Option (Bool × List (List UInt8) × Int × Int × Option (List (List UInt8 × Int))) := some (markB k x, ring, first, many, some (markL k x))
def unmarkF_str (k : List UInt8) (ring : List (List UInt8)) (first many : Int) (x : Option (List (List UInt8 × Int))) : Option (List (List UInt8) × Int × Int × Option (List (List UInt8 × Int))) := some (ring, first, many, x.map (mdel k))
noncomputable def sp_mark_str : Spec := ⟨39, ⟨[(0, .ptr 0 0), (1, .dat (.str))], [⟨none, 63, [.own 9 (.str), .dat (.int .i64), .dat (.int .i64), .od Ob_str], false, false, none, false⟩]⟩, [⟨[(0, .dat .bool)], [⟨some 0, 63, [.own 9 (.str), .dat (.int .i64), .dat (.int .i64), .od Ob_str], false, false, none, false⟩]⟩],
  fun x => markF_str x.1 x.2.1 x.2.2.1 x.2.2.2.1 x.2.2.2.2⟩
theorem mark_str_is [BldA] : SpecOk Try.prog sp_mark_str := by
  intro x r hr vv u hu m K args hgk hm hH hsl E w F hs
  have hu' : sp_mark_str.inn.un (TL.list _ x) 0 = some ([(0, .ptr 0 0), (1, .str x.1)], ⟨[], 6, [.blk 0 5 63 [.own 1, .int .i64 x.2.2.1, .int .i64 x.2.2.2.1, .own 3], .od 3 4 Ob_str x.2.2.2.2, .row 1 2 9 (.str) x.2.1 (List.length (α := List UInt8) x.2.1)], [1]⟩) := rfl
  rw [hu'] at hu
  cases hu
  replace hm : m.length = 6 := hm
  obtain ⟨v1, u1, rfl, ⟨b, e1, rfl⟩, v2, u2, rfl, rfl, rfl⟩ := hsl
  obtain ⟨b', vs, g0, g5, v0, r0, rfl, ⟨h1, h1o⟩, v1, r1, rfl, rfl, v2, r2, rfl, rfl, v3, r3, rfl, ⟨h3, h3o⟩, rfl⟩ := hH (.blk 0 5 63 [.own 1, .int .i64 x.2.2.1, .int .i64 x.2.2.2.1, .own 3]) (by simp)
  rw [g0] at e1; cases e1
  obtain ⟨mv, K0, g3, g4, hk, hf⟩ := hH (.od 3 4 Ob_str x.2.2.2.2) (by simp)
  rw [g3] at h3; cases h3
  obtain ⟨ad, cap, cs, g1, g2, hE, _, q2, q3, q4⟩ := hH (.row 1 2 9 (.str) x.2.1 (List.length (α := List UInt8) x.2.1)) (by simp)
  rw [g1] at h1; cases h1
  have hs' : Sep E K (HA.conc m (.blk 0 5 63 [.own 1, .int .i64 x.2.2.1, .int .i64 x.2.2.2.1, .own 3]) :: HA.conc m (.od 3 4 Ob_str x.2.2.2.2) :: HA.conc m (.row 1 2 9 (.str) x.2.1 (List.length (α := List UInt8) x.2.1)) :: F) w := hs
  simp only [HA.conc, g0, g1, g2, g3, g4, g5] at hs'
  refine (mark_str_tr x.1 x.2.2.2.2 E w (Rw 9 (Tp.size (.str)) (.slice ad (List.length (α := List UInt8) x.2.1) cap) (List.length (α := List UInt8) x.2.1) cs :: F) hs').mono ?_
  rintro e w' ⟨v, K', L', rfl, ⟨⟨mv', hone, hform, rfl, rfl⟩, rfl⟩, hle, hs2⟩
  obtain rfl : r = (markB x.1 x.2.2.2.2, x.2.1, x.2.2.1, x.2.2.2.1, (some (markL x.1 x.2.2.2.2) : Option (List (List UInt8 × Int)))) := (Option.some.inj hr).symm
  let ms : List M := [M.val (.slice ad (List.length (α := List UInt8) x.2.1) cap), M.cont (.str) x.2.1 cs, M.val mv', M.hp K0, M.cells [.slice ad (List.length (α := List UInt8) x.2.1) cap, .int .i64 x.2.2.1, .int .i64 x.2.2.2.1, mv']]
  have f0 : (m ++ ms)[0]? = some (.val (.pointer (some ⟨b, 0, none⟩))) := by rw [List.getElem?_append_left (by omega)]; exact g0
  have f6 : (m ++ ms)[6]? = some (.val (.slice ad (List.length (α := List UInt8) x.2.1) cap)) := by rw [List.getElem?_append_right (by omega), hm]; rfl
  have f7 : (m ++ ms)[7]? = some (.cont (.str) x.2.1 cs) := by rw [List.getElem?_append_right (by omega), hm]; rfl
  have f8 : (m ++ ms)[8]? = some (.val mv') := by rw [List.getElem?_append_right (by omega), hm]; rfl
  have f9 : (m ++ ms)[9]? = some (.hp K0) := by rw [List.getElem?_append_right (by omega), hm]; rfl
  have f10 : (m ++ ms)[10]? = some (.cells [.slice ad (List.length (α := List UInt8) x.2.1) cap, .int .i64 x.2.2.1, .int .i64 x.2.2.2.1, mv']) := by rw [List.getElem?_append_right (by omega), hm]; rfl
  refine ⟨_, K, _, rfl, ⟨[(0, .bool (markB x.1 x.2.2.2.2))], ⟨[], 11, [.blk 0 10 63 [.own 6, .int .i64 x.2.2.1, .int .i64 x.2.2.2.1, .own 8], .od 8 9 Ob_str (some (markL x.1 x.2.2.2.2) : Option (List (List UInt8 × Int))), .row 6 7 9 (.str) x.2.1 (List.length (α := List UInt8) x.2.1)], [6]⟩, m ++ ms, rfl, List.prefix_append _ _, by simp [hm, ms], ?_, rfl, rfl⟩, hle, ?_⟩
  · intro a ha
    simp only [List.mem_cons, List.mem_nil_iff, or_false] at ha
    rcases ha with rfl | rfl | rfl
    · exact ⟨b, _, f0, f10, _, _, rfl, ⟨f6, rfl⟩, _, _, rfl, rfl, _, _, rfl, rfl, _, _, rfl, ⟨f8, hone⟩, rfl⟩
    · exact ⟨mv', K0, f8, f9, hk, hform⟩
    · exact ⟨ad, cap, cs, f6, f7, hE, rfl, q2, q3, q4⟩
  · show Sep E K (HA.conc _ (.blk 0 10 63 [.own 6, .int .i64 x.2.2.1, .int .i64 x.2.2.2.1, .own 8]) :: HA.conc _ (.od 8 9 Ob_str (some (markL x.1 x.2.2.2.2) : Option (List (List UInt8 × Int)))) :: HA.conc _ (.row 6 7 9 (.str) x.2.1 (List.length (α := List UInt8) x.2.1)) :: F) w'
    simp only [HA.conc, f0, f6, f7, f8, f9, f10]
    exact hs2
noncomputable def ok_mark_str [BldA] : OkSpec Try.prog := ⟨sp_mark_str, mark_str_is, Try.call39⟩
noncomputable def sp_unmark_str : Spec := ⟨40, ⟨[(0, .ptr 0 0), (1, .dat (.str))], [⟨none, 63, [.own 9 (.str), .dat (.int .i64), .dat (.int .i64), .od Ob_str], false, false, none, false⟩]⟩, [⟨[], [⟨some 0, 63, [.own 9 (.str), .dat (.int .i64), .dat (.int .i64), .od Ob_str], false, false, none, false⟩]⟩],
  fun x => unmarkF_str x.1 x.2.1 x.2.2.1 x.2.2.2.1 x.2.2.2.2⟩
theorem unmark_str_is [BldA] : SpecOk Try.prog sp_unmark_str := by
  intro x r hr vv u hu m K args hgk hm hH hsl E w F hs
  have hu' : sp_unmark_str.inn.un (TL.list _ x) 0 = some ([(0, .ptr 0 0), (1, .str x.1)], ⟨[], 6, [.blk 0 5 63 [.own 1, .int .i64 x.2.2.1, .int .i64 x.2.2.2.1, .own 3], .od 3 4 Ob_str x.2.2.2.2, .row 1 2 9 (.str) x.2.1 (List.length (α := List UInt8) x.2.1)], [1]⟩) := rfl
  rw [hu'] at hu
  cases hu
  replace hm : m.length = 6 := hm
  obtain ⟨v1, u1, rfl, ⟨b, e1, rfl⟩, v2, u2, rfl, rfl, rfl⟩ := hsl
  obtain ⟨b', vs, g0, g5, v0, r0, rfl, ⟨h1, h1o⟩, v1, r1, rfl, rfl, v2, r2, rfl, rfl, v3, r3, rfl, ⟨h3, h3o⟩, rfl⟩ := hH (.blk 0 5 63 [.own 1, .int .i64 x.2.2.1, .int .i64 x.2.2.2.1, .own 3]) (by simp)
  rw [g0] at e1; cases e1
  obtain ⟨mv, K0, g3, g4, hk, hf⟩ := hH (.od 3 4 Ob_str x.2.2.2.2) (by simp)
  rw [g3] at h3; cases h3
  obtain ⟨ad, cap, cs, g1, g2, hE, _, q2, q3, q4⟩ := hH (.row 1 2 9 (.str) x.2.1 (List.length (α := List UInt8) x.2.1)) (by simp)
  rw [g1] at h1; cases h1
  have hs' : Sep E K (HA.conc m (.blk 0 5 63 [.own 1, .int .i64 x.2.2.1, .int .i64 x.2.2.2.1, .own 3]) :: HA.conc m (.od 3 4 Ob_str x.2.2.2.2) :: HA.conc m (.row 1 2 9 (.str) x.2.1 (List.length (α := List UInt8) x.2.1)) :: F) w := hs
  simp only [HA.conc, g0, g1, g2, g3, g4, g5] at hs'
  refine (unmark_str_tr x.1 x.2.2.2.2 E w (Rw 9 (Tp.size (.str)) (.slice ad (List.length (α := List UInt8) x.2.1) cap) (List.length (α := List UInt8) x.2.1) cs :: F) hs').mono ?_
  rintro e w' ⟨v, K', L', rfl, ⟨⟨mv', hone, hform, rfl, rfl⟩, rfl⟩, hle, hs2⟩
  obtain rfl : r = (x.2.1, x.2.2.1, x.2.2.2.1, (Option.map (mdel x.1) x.2.2.2.2 : Option (List (List UInt8 × Int)))) := (Option.some.inj hr).symm
  let ms : List M := [M.val (.slice ad (List.length (α := List UInt8) x.2.1) cap), M.cont (.str) x.2.1 cs, M.val mv', M.hp K0, M.cells [.slice ad (List.length (α := List UInt8) x.2.1) cap, .int .i64 x.2.2.1, .int .i64 x.2.2.2.1, mv']]
  have f0 : (m ++ ms)[0]? = some (.val (.pointer (some ⟨b, 0, none⟩))) := by rw [List.getElem?_append_left (by omega)]; exact g0
  have f6 : (m ++ ms)[6]? = some (.val (.slice ad (List.length (α := List UInt8) x.2.1) cap)) := by rw [List.getElem?_append_right (by omega), hm]; rfl
  have f7 : (m ++ ms)[7]? = some (.cont (.str) x.2.1 cs) := by rw [List.getElem?_append_right (by omega), hm]; rfl
  have f8 : (m ++ ms)[8]? = some (.val mv') := by rw [List.getElem?_append_right (by omega), hm]; rfl
  have f9 : (m ++ ms)[9]? = some (.hp K0) := by rw [List.getElem?_append_right (by omega), hm]; rfl
  have f10 : (m ++ ms)[10]? = some (.cells [.slice ad (List.length (α := List UInt8) x.2.1) cap, .int .i64 x.2.2.1, .int .i64 x.2.2.2.1, mv']) := by rw [List.getElem?_append_right (by omega), hm]; rfl
  refine ⟨_, K, _, rfl, ⟨[], ⟨[], 11, [.blk 0 10 63 [.own 6, .int .i64 x.2.2.1, .int .i64 x.2.2.2.1, .own 8], .od 8 9 Ob_str (Option.map (mdel x.1) x.2.2.2.2 : Option (List (List UInt8 × Int))), .row 6 7 9 (.str) x.2.1 (List.length (α := List UInt8) x.2.1)], [6]⟩, m ++ ms, rfl, List.prefix_append _ _, by simp [hm, ms], ?_, rfl, rfl⟩, hle, ?_⟩
  · intro a ha
    simp only [List.mem_cons, List.mem_nil_iff, or_false] at ha
    rcases ha with rfl | rfl | rfl
    · exact ⟨b, _, f0, f10, _, _, rfl, ⟨f6, rfl⟩, _, _, rfl, rfl, _, _, rfl, rfl, _, _, rfl, ⟨f8, hone⟩, rfl⟩
    · exact ⟨mv', K0, f8, f9, hk, hform⟩
    · exact ⟨ad, cap, cs, f6, f7, hE, rfl, q2, q3, q4⟩
  · show Sep E K (HA.conc _ (.blk 0 10 63 [.own 6, .int .i64 x.2.2.1, .int .i64 x.2.2.2.1, .own 8]) :: HA.conc _ (.od 8 9 Ob_str (Option.map (mdel x.1) x.2.2.2.2 : Option (List (List UInt8 × Int)))) :: HA.conc _ (.row 6 7 9 (.str) x.2.1 (List.length (α := List UInt8) x.2.1)) :: F) w'
    simp only [HA.conc, f0, f6, f7, f8, f9, f10]
    exact hs2
noncomputable def ok_unmark_str [BldA] : OkSpec Try.prog := ⟨sp_unmark_str, unmark_str_is, Try.call40⟩
theorem catch_int (p : Addr) (w : World) :
    CallsD Try.prog 41 #[.pointer (some p)] .returning w fun e u' w' => e = .returned (.tuple #[]) ∧ u' = .returning ∧ w' = w := by
  refine callsD_of_wpS Try.func41 rfl fun c₀ cs hu => ?_
  apply wpS_seq
  apply wpS_region
  simp [wpOpsS, go_sem, recoverD, hu, Try.ntmps41, Exit.thenS]
  refine wpS_cond (t := false) (by simp [Act.eval, Array.replicate]) ?_
  simp only [Bool.false_eq_true, if_false]
  refine wpS_of_wp (wp_skip ?_)
  cases c₀
  simp_all [bodyPostS, results, Try.results41]
theorem catchU_int (w : World) :
    CallsD Try.prog 42 #[] .returning w fun e u' w' => e = .returned (.tuple #[]) ∧ u' = .returning ∧ w' = w := by
  refine callsD_of_wpS Try.func42 rfl fun c₀ cs hu => ?_
  apply wpS_region
  simp [wpOpsS, go_sem, recoverD, hu, Try.ntmps42, Exit.thenS]
  cases c₀
  simp_all [bodyPostS, results, Try.results42]
theorem eqn_int (r : Option Nat) (w : World) : (binOp .eql 43 (.map r) (.map none)).run Try.prog w = .ok (.bool r.isNone) w := by
  have h : (Op.equal 43 (.map r) (.map none)).run Try.prog w = .ok r.isNone w := by
    unfold Op.equal
    rw [show Op.maxDepth = 9999 + 1 from rfl, Op.equalIn]
    simp only [Sem.run_bind, run_underlying Try.underlying43, Result.andThen]
    cases r <;> rfl
  show (do pure (Value.bool (← Op.equal 43 (.map r) (.map none))) : Sem Value).run _ _ = _
  simp only [Sem.run_bind, h, Result.andThen, Sem.run_pure]
instance now_int : KeyNow Try.prog 3 (.int .i64) := ⟨⟨_, Try.underlying3, fun a b => by
  show some ((a : Int) == b) = some (decide ((b : Int) = a)); exact congrArg some (beq_swap a b), fun e n a w => by
  unfold Instr.checkKey
  simp only [Sem.run_bind, run_underlying Try.underlying3, Result.andThen, keyV]
  rfl, fun n a => by simp [Instr.sameBits, keyV]⟩⟩
section
variable (b r : Nat) (c0 c1 c2 : Value) (k : Int) {es : Array MapEntry} {cl : Nat} {l : List (Int × Int)} (w : World)
theorem mark_int_old (hb : w.heap[b]? = some (.cells #[c0, c1, c2, .map (some r)] 45 (0, 0))) (hr : w.heap[r]? = some (.map es cl))
    (hl : es.toList.map (fun e => (e.key, e.val)) = l.map (fun p => (keyV (.int .i64) p.1, Value.int .i64 p.2))) (hp : mget k l > 0) :
    Calls Try.prog 35 #[.pointer (some ⟨b, 0, none⟩), .int .i64 k] w fun e w' => e = .returned (.bool false) ∧ w' = (w.alloc (.cells #[.bool false] 4)).setCell ⟨w.heap.size, 0, none⟩ (.bool false) := by
  have hmf : ∀ (fn : Fn) (first cap : Array Value) (w : World), (Instr.makeFunc fn first cap).run Try.prog w = .ok (.func fn first cap) w := fun _ _ _ _ => rfl
  have hr1 : (w.alloc (.cells #[.bool false] 4)).heap[r]? = some (.map es cl) := alloc_old hr
  have hld : (w.alloc (.cells #[.bool false] 4)).cell? ⟨b, 3, none⟩ = some (.map (some r)) := by
    have hb1 : (w.alloc (.cells #[.bool false] 4)).heap[b]? = some (.cells #[c0, c1, c2, .map (some r)] 45 (0, 0)) := alloc_old hb
    simp [World.cell?, hb1]
  have hlk : (Instr.lookup 43 (.map (some r)) (.int .i64 k) false).run Try.prog (w.alloc (.cells #[.bool false] 4)) = .ok (.int .i64 (mget k l)) (w.alloc (.cells #[.bool false] 4)) := run_lookup_map (kt := .int .i64) Try.underlying43 zero_i64 k hr1 hl
  have heq := eqn_int (some r)
  simp only [Option.isNone_some] at heq
  have hgt : decide (mget k l > 0) = true := by simpa using hp
  go_enter_defers Try.func35, Try.ntmps35
  go_wp2
  refine leaves_cons (f := 41) (args := #[.pointer (some ⟨w.heap.size, 0, none⟩)]) (by simp) (by simp [go_sem]) ?_
  refine (catch_int ⟨w.heap.size, 0, none⟩ _).mono ?_
  rintro e u' w'' ⟨rfl, rfl, rfl⟩
  simp [Leaves, settle, results, Try.results35, go_sem]
theorem mark_int_new (hb : w.heap[b]? = some (.cells #[c0, c1, c2, .map (some r)] 45 (0, 0))) (hr : w.heap[r]? = some (.map es cl))
    (hl : es.toList.map (fun e => (e.key, e.val)) = l.map (fun p => (keyV (.int .i64) p.1, Value.int .i64 p.2))) (hp : ¬ mget k l > 0) :
    Calls Try.prog 35 #[.pointer (some ⟨b, 0, none⟩), .int .i64 k] w fun e w' => e = .returned (.bool true) ∧ ∃ es' cl', Onl w w' r (.map es' cl') ∧ es'.toList.map (fun e => (e.key, e.val)) = (mset k (wrap64 (mget k l + 1)) l).map (fun p => (keyV (.int .i64) p.1, Value.int .i64 p.2)) := by
  have hmf : ∀ (fn : Fn) (first cap : Array Value) (w : World), (Instr.makeFunc fn first cap).run Try.prog w = .ok (.func fn first cap) w := fun _ _ _ _ => rfl
  have hr1 : (w.alloc (.cells #[.bool false] 4)).heap[r]? = some (.map es cl) := alloc_old hr
  have hld : (w.alloc (.cells #[.bool false] 4)).cell? ⟨b, 3, none⟩ = some (.map (some r)) := by
    have hb1 : (w.alloc (.cells #[.bool false] 4)).heap[b]? = some (.cells #[c0, c1, c2, .map (some r)] 45 (0, 0)) := alloc_old hb
    simp [World.cell?, hb1]
  have hlk : (Instr.lookup 43 (.map (some r)) (.int .i64 k) false).run Try.prog (w.alloc (.cells #[.bool false] 4)) = .ok (.int .i64 (mget k l)) (w.alloc (.cells #[.bool false] 4)) := run_lookup_map (kt := .int .i64) Try.underlying43 zero_i64 k hr1 hl
  have heq := eqn_int (some r)
  simp only [Option.isNone_some] at heq
  have hgt : decide (mget k l > 0) = false := by simpa using hp
  obtain ⟨es', cl', hup, hl'⟩ := run_mapUpdate_map (kt := .int .i64) (P := Try.prog) (mt := 43) Try.underlying43 k (wrap64 (mget k l + 1)) hr1 hl
  obtain ⟨w2, hup, hO1, hn⟩ : ∃ w2 : World, (Instr.mapUpdate 43 (.map (some r)) (.int .i64 k) (.int .i64 (wrap64 (mget k l + 1)))).run Try.prog (w.alloc (.cells #[.bool false] 4)) = .ok () w2 ∧ Onl w w2 r (.map es' cl') ∧ w2.heap[w.heap.size]? = some (.cells #[.bool false] 4) := by
    have hrs := lt_of_block hr
    refine ⟨_, hup, ⟨?_, fun n x hne hx => ?_, rfl, rfl, rfl⟩, ?_⟩
    · simp only [Array.getElem?_setIfInBounds]
      rw [if_pos trivial, if_pos (lt_of_block hr1)]
    · simp only [Array.getElem?_setIfInBounds]
      rw [if_neg (fun e => hne e.symm)]
      exact alloc_old hx
    · simp only [Array.getElem?_setIfInBounds]
      rw [if_neg (by omega)]
      exact alloc_new w _
  have hc2 : w2.cell? ⟨w.heap.size, 0, none⟩ = some (.bool false) := by simp [World.cell?, hn]
  have hz2 : w2.frozen? ⟨w.heap.size, 0, none⟩ = false := by simp [World.frozen?, hn]
  go_enter_defers Try.func35, Try.ntmps35
  go_wp2
  refine leaves_cons (f := 41) (args := #[.pointer (some ⟨w.heap.size, 0, none⟩)]) (by simp) (by simp [go_sem]) ?_
  refine (catch_int ⟨w.heap.size, 0, none⟩ _).mono ?_
  rintro e u' w'' ⟨rfl, rfl, rfl⟩
  have hc3 : (w2.setCell ⟨w.heap.size, 0, none⟩ (.bool true)).cell? ⟨w.heap.size, 0, none⟩ = some (.bool true) := by simp [World.cell?, World.setCell, Array.getElem?_modify, hn]
  have hO : Onl w (w2.setCell ⟨w.heap.size, 0, none⟩ (.bool true)) r (.map es' cl') := by
    have hrs := lt_of_block hr
    obtain ⟨o1, o2, o3⟩ := hO1
    exact ⟨by rw [setCell_ne (by omega)]; exact o1, fun n x hne hx => by have := lt_of_block hx; rw [setCell_ne (by omega)]; exact o2 n x hne hx, o3⟩
  simp [Leaves, settle, results, Try.results35, go_sem, hc3]
  exact ⟨es', ⟨cl', hO⟩, by simpa using hl'⟩
theorem mark_int_nil (hb : w.heap[b]? = some (.cells #[c0, c1, c2, .map none] 45 (0, 0))) :
    Calls Try.prog 35 #[.pointer (some ⟨b, 0, none⟩), .int .i64 k] w fun e w' => e = .returned (.bool true) ∧ ∃ r es' cl', Onl2 w w' b (.cells #[c0, c1, c2, .map (some r)] 45 (0, 0)) r (.map es' cl') ∧ es'.toList.map (fun e => (e.key, e.val)) = (mset k (wrap64 (mget k [] + 1)) []).map (fun p => (keyV (.int .i64) p.1, Value.int .i64 p.2)) := by
  have hmf : ∀ (fn : Fn) (first cap : Array Value) (w : World), (Instr.makeFunc fn first cap).run Try.prog w = .ok (.func fn first cap) w := fun _ _ _ _ => rfl
  have hbs := lt_of_block hb
  have hb1 : (w.alloc (.cells #[.bool false] 4)).heap[b]? = some (.cells #[c0, c1, c2, .map none] 45 (0, 0)) := alloc_old hb
  have hld : (w.alloc (.cells #[.bool false] 4)).cell? ⟨b, 3, none⟩ = some (.map none) := by simp [World.cell?, hb1]
  have heq := eqn_int none
  simp only [Option.isNone_none] at heq
  have hsz : (w.alloc (.cells #[.bool false] 4)).heap.size = w.heap.size + 1 := by simp
  have hmk : (Instr.makeMap 43 none).run Try.prog (w.alloc (.cells #[.bool false] 4)) = .ok (.map (some (w.heap.size + 1))) ((w.alloc (.cells #[.bool false] 4)).alloc (.map #[] 0)) := by
    simp only [Instr.makeMap, Sem.run_bind, Sem.run_pure, run_newObj_alloc, Result.andThen, hsz]
  obtain ⟨w2, hw2, ho2, he2⟩ : ∃ w2, (Instr.makeMap 43 none).run Try.prog (w.alloc (.cells #[.bool false] 4)) = .ok (.map (some (w.heap.size + 1))) w2 ∧ (w2.heap[w.heap.size + 1]? = some (.map #[] 0) ∧ w2.heap[w.heap.size]? = some (.cells #[.bool false] 4) ∧ ∀ n x, w.heap[n]? = some x → w2.heap[n]? = some x) ∧ w2.os = w.os ∧ w2.tape = w.tape ∧ w2.output = w.output := by
    refine ⟨_, hmk, ⟨?_, alloc_old (alloc_new w _), fun n x hx => alloc_old (alloc_old hx)⟩, rfl, rfl, rfl⟩
    rw [← hsz]; exact alloc_new _ _
  clear hmk
  obtain ⟨ho2r, ho2n, ho2o⟩ := ho2
  have hcb2 : w2.cell? ⟨b, 3, none⟩ = some (.map none) := by simp [World.cell?, ho2o _ _ hb]
  have hzb2 : w2.frozen? ⟨b, 3, none⟩ = false := by simp [World.frozen?, ho2o _ _ hb]
  obtain ⟨w3, hw3⟩ : ∃ w3, w2.setCell ⟨b, 3, none⟩ (.map (some (w.heap.size + 1))) = w3 := ⟨_, rfl⟩
  have h3r : w3.heap[w.heap.size + 1]? = some (.map #[] 0) := by rw [← hw3, setCell_ne (by omega)]; exact ho2r
  have h3n : w3.heap[w.heap.size]? = some (.cells #[.bool false] 4) := by rw [← hw3, setCell_ne (by omega)]; exact ho2n
  have h3b : w3.heap[b]? = some (.cells #[c0, c1, c2, .map (some (w.heap.size + 1))] 45 (0, 0)) := by
    rw [← hw3]; simp [World.setCell, Array.getElem?_modify, ho2o _ _ hb]
  have hc3 : w3.cell? ⟨b, 3, none⟩ = some (.map (some (w.heap.size + 1))) := by simp [World.cell?, h3b]
  have hlk : (Instr.lookup 43 (.map (some (w.heap.size + 1))) (.int .i64 k) false).run Try.prog w3 = .ok (.int .i64 0) w3 := run_lookup_map (kt := .int .i64) Try.underlying43 zero_i64 k h3r (l := []) rfl
  obtain ⟨es', cl', hup, hl'⟩ := run_mapUpdate_map (kt := .int .i64) (P := Try.prog) (mt := 43) Try.underlying43 k 1 h3r (l := []) rfl
  obtain ⟨w4, hup, h4r, h4o, h4e⟩ : ∃ w4 : World, (Instr.mapUpdate 43 (.map (some (w.heap.size + 1))) (.int .i64 k) (.int .i64 1)).run Try.prog w3 = .ok () w4 ∧ w4.heap[w.heap.size + 1]? = some (.map es' cl') ∧ (∀ n, n ≠ w.heap.size + 1 → w4.heap[n]? = w3.heap[n]?) ∧ w4.os = w3.os ∧ w4.tape = w3.tape ∧ w4.output = w3.output := by
    refine ⟨_, hup, ?_, fun n hne => ?_, rfl, rfl, rfl⟩
    · simp only [Array.getElem?_setIfInBounds]
      rw [if_pos trivial, if_pos (lt_of_block h3r)]
    · simp only [Array.getElem?_setIfInBounds]
      rw [if_neg (fun e => hne e.symm)]
  have h4n : w4.heap[w.heap.size]? = some (.cells #[.bool false] 4) := (h4o _ (by omega)).trans h3n
  have hc4 : w4.cell? ⟨w.heap.size, 0, none⟩ = some (.bool false) := by simp [World.cell?, h4n]
  have hz4 : w4.frozen? ⟨w.heap.size, 0, none⟩ = false := by simp [World.frozen?, h4n]
  go_enter_defers Try.func35, Try.ntmps35
  go_wp2
  refine leaves_cons (f := 41) (args := #[.pointer (some ⟨w.heap.size, 0, none⟩)]) (by simp) (by simp [go_sem]) ?_
  refine (catch_int ⟨w.heap.size, 0, none⟩ _).mono ?_
  rintro e u' w'' ⟨rfl, rfl, rfl⟩
  have hc5 : (w4.setCell ⟨w.heap.size, 0, none⟩ (.bool true)).cell? ⟨w.heap.size, 0, none⟩ = some (.bool true) := by simp [World.cell?, World.setCell, Array.getElem?_modify, h4n]
  have hO : Onl2 w (w4.setCell ⟨w.heap.size, 0, none⟩ (.bool true)) b (.cells #[c0, c1, c2, .map (some (w.heap.size + 1))] 45 (0, 0)) (w.heap.size + 1) (.map es' cl') := by
    obtain ⟨e1, e2, e3⟩ := h4e
    obtain ⟨f1, f2, f3⟩ := he2
    refine ⟨by rw [setCell_ne (by omega), h4o _ (by omega)]; exact h3b, by rw [setCell_ne (by omega)]; exact h4r, Array.getElem?_eq_none (by omega), fun n x hne hx => ?_, ?_, ?_, ?_⟩
    · have := lt_of_block hx
      rw [setCell_ne (by omega), h4o _ (by omega), ← hw3, setCell_ne hne]; exact ho2o _ _ hx
    · exact e1.trans ((congrArg World.os hw3.symm).trans f1)
    · exact e2.trans ((congrArg World.tape hw3.symm).trans f2)
    · exact e3.trans ((congrArg World.output hw3.symm).trans f3)
  have h1 : wrap64 (mget k [] + 1) = 1 := IntWalk.wrap64_in (0 + 1) (by decide)
  rw [h1]
  simp only [Leaves, settle, results, Try.results35]
  simp [go_sem, hc5]
  exact ⟨_, es', ⟨cl', hO⟩, by simpa using hl'⟩
theorem unmark_int_old (hb : w.heap[b]? = some (.cells #[c0, c1, c2, .map (some r)] 45 (0, 0))) (hr : w.heap[r]? = some (.map es cl))
    (hl : es.toList.map (fun e => (e.key, e.val)) = l.map (fun p => (keyV (.int .i64) p.1, Value.int .i64 p.2))) :
    Calls Try.prog 36 #[.pointer (some ⟨b, 0, none⟩), .int .i64 k] w fun e w' => e = .returned (.tuple #[]) ∧ ∃ es' cl', Onl w w' r (.map es' cl') ∧ es'.toList.map (fun e => (e.key, e.val)) = (mdel k l).map (fun p => (keyV (.int .i64) p.1, Value.int .i64 p.2)) := by
  have hld : w.cell? ⟨b, 3, none⟩ = some (.map (some r)) := by simp [World.cell?, hb]
  obtain ⟨es', hd, hl'⟩ := run_delete_map (kt := .int .i64) (P := Try.prog) (mt := 43) (ts := #[43, 3]) (ty := 0) Try.underlying43 rfl k hr hl
  obtain ⟨w2, hd, hO⟩ : ∃ w2 : World, (Builtin.delete_ #[43, 3] 0 #[.map (some r), .int .i64 k]).run Try.prog w = .ok (.tuple #[]) w2 ∧ Onl w w2 r (.map es' cl) := by
    refine ⟨_, hd, ⟨?_, fun n x hne hx => ?_, rfl, rfl, rfl⟩⟩
    · simp only [Array.getElem?_setIfInBounds]
      rw [if_pos trivial, if_pos (lt_of_block hr)]
    · simp only [Array.getElem?_setIfInBounds]
      rw [if_neg (fun e => hne e.symm)]
      exact hx
  go_enter_defers Try.func36, Try.ntmps36
  go_wp2
  refine leaves_cons (f := 42) (args := #[]) (by simp) (by simp [go_sem]) ?_
  refine (catchU_int _).mono ?_
  rintro e u' w'' ⟨rfl, rfl, rfl⟩
  simp only [Leaves, settle, results, Try.results36]
  simp [go_sem]
  exact ⟨es', ⟨cl, hO⟩, by simpa using hl'⟩
theorem unmark_int_nil (hb : w.heap[b]? = some (.cells #[c0, c1, c2, .map none] 45 (0, 0))) :
    Calls Try.prog 36 #[.pointer (some ⟨b, 0, none⟩), .int .i64 k] w fun e w' => e = .returned (.tuple #[]) ∧ w' = w := by
  have hld : w.cell? ⟨b, 3, none⟩ = some (.map none) := by simp [World.cell?, hb]
  have hd : (Builtin.delete_ #[43, 3] 0 #[.map none, .int .i64 k]).run Try.prog w = .ok (.tuple #[]) w := run_delete_nil (kt := .int .i64) (P := Try.prog) (mt := 43) (ts := #[43, 3]) (ty := 0) Try.underlying43 rfl k
  go_enter_defers Try.func36, Try.ntmps36
  go_wp2
  refine leaves_cons (f := 42) (args := #[]) (by simp) (by simp [go_sem]) ?_
  refine (catchU_int _).mono ?_
  rintro e u' w'' ⟨rfl, rfl, rfl⟩
  simp only [Leaves, settle, results, Try.results36]
  simp [go_sem]
end
abbrev Ob_int : OT := .obj 0 (.sl (.cons (.int .i64) (.one (.int .i64))))
theorem mark_int_tr {K K0 : Hp} {b : Nat} {c0 c1 c2 mv : Value} (k : Int) (x : Option (List (Int × Int))) :
    Tr Try.prog 35 #[.pointer (some ⟨b, 0, none⟩), .int .i64 k] K [Cl b 45 [c0, c1, c2, mv], OT.own K0 Ob_int [mv] x] (fun v K' L' => (∃ mv', mv'.oneCell' = true ∧ Ob_int.form mv' (some (markL k x) : Option (List (Int × Int))) ∧ v = .bool (markB k x) ∧ L' = [Cl b 45 [c0, c1, c2, mv'], OT.own K0 Ob_int [mv'] (some (markL k x) : Option (List (Int × Int)))]) ∧ K = K') := by
  intro E w F hs
  have hb := hs.cl
  cases x with
  | none =>
    have hm := hs.swap.fact (p := [mv] = [Value.map none]) (fun h k => k.1)
    cases hm
    refine (mark_int_nil b c0 c1 c2 k w hb).mono ?_
    rintro e w' ⟨rfl, r, es', cl', hO, hl⟩
    refine ⟨_, K, _, rfl, ⟨⟨.map (some r), rfl, .inr ⟨_, r, rfl, rfl⟩, rfl, rfl⟩, rfl⟩, Hp.le_refl K, ?_⟩
    exact ((Sep.onl2 hs.swap.drop hO).swap.mono (fun h k => ⟨r, _, rfl, ⟨es', cl', rfl, hl⟩, k⟩)).swap
  | some l =>
    obtain ⟨r, o, e1, ⟨es, cl, rfl, hl⟩⟩ := hs.swap.fact (p := ∃ r o, [mv] = [Value.map (some r)] ∧ ObjR 0 (.sl (.cons (.int .i64) (.one (.int .i64)))) l o) (fun h k => by obtain ⟨r, o, a, b, _⟩ := k; exact ⟨r, o, a, b⟩)
    cases e1
    have hs1 : Sep E K ((fun h => ∃ es cl, h = one r (.map es cl) ∧ es.toList.map (fun e => (e.key, e.val)) = l.map (fun p => (keyV (.int .i64) p.1, Value.int .i64 p.2))) :: Cl b 45 [c0, c1, c2, .map (some r)] :: F) w :=
      hs.swap.mono (fun h k => by obtain ⟨r', o, a, ⟨es, cl, rfl, hl⟩, c⟩ := k; cases a; exact ⟨es, cl, c, hl⟩)
    obtain ⟨h0, ⟨es, cl, rfl, hl⟩, hd, hs1⟩ := hs1
    have hs2 : Sep E K ((fun h => h = one r (.map es cl)) :: Cl b 45 [c0, c1, c2, .map (some r)] :: F) w := ⟨_, rfl, hd, hs1⟩
    have hr := hs2.obj
    by_cases hp : mget k l > 0
    · refine (mark_int_old b r c0 c1 c2 k w hb hr hl hp).mono ?_
      rintro e w' ⟨rfl, rfl⟩
      refine ⟨_, K, _, rfl, ⟨⟨.map (some r), rfl, .inr ⟨_, r, rfl, rfl⟩, by simp [markB, hp], rfl⟩, rfl⟩, Hp.le_refl K, ?_⟩
      rw [show markL k (some l) = l by simp [markL, hp]]
      refine Sep.grow (((hs2.mono (fun h k => ⟨r, _, rfl, ⟨es, cl, rfl, hl⟩, k⟩)).swap : Sep E K (Cl b 45 [c0, c1, c2, .map (some r)] :: OT.own K0 Ob_int [.map (some r)] (some l : Option (List (Int × Int))) :: F) w)) (fun n x hx => ?_) ⟨rfl, rfl, rfl⟩
      have := lt_of_block hx
      rw [setCell_ne (by omega)]; exact alloc_old hx
    · refine (mark_int_new b r c0 c1 c2 k w hb hr hl hp).mono ?_
      rintro e w' ⟨rfl, es', cl', hO, hl'⟩
      refine ⟨_, K, _, rfl, ⟨⟨.map (some r), rfl, .inr ⟨_, r, rfl, rfl⟩, by simp [markB, hp], rfl⟩, rfl⟩, Hp.le_refl K, ?_⟩
      rw [show markL k (some l) = mset k (wrap64 (mget k l + 1)) l by simp [markL, hp]]
      exact ((hs2.onl hO).mono (fun h k => ⟨r, _, rfl, ⟨es', cl', rfl, hl'⟩, k⟩)).swap
theorem unmark_int_tr {K K0 : Hp} {b : Nat} {c0 c1 c2 mv : Value} (k : Int) (x : Option (List (Int × Int))) :
    Tr Try.prog 36 #[.pointer (some ⟨b, 0, none⟩), .int .i64 k] K [Cl b 45 [c0, c1, c2, mv], OT.own K0 Ob_int [mv] x] (fun v K' L' => (∃ mv', mv'.oneCell' = true ∧ Ob_int.form mv' (x.map (mdel k) : Option (List (Int × Int))) ∧ v = .tuple #[] ∧ L' = [Cl b 45 [c0, c1, c2, mv'], OT.own K0 Ob_int [mv'] (x.map (mdel k) : Option (List (Int × Int)))]) ∧ K = K') := by
  intro E w F hs
  have hb := hs.cl
  cases x with
  | none =>
    have hm := hs.swap.fact (p := [mv] = [Value.map none]) (fun h k => k.1)
    cases hm
    refine (unmark_int_nil b c0 c1 c2 k w hb).mono ?_
    rintro e w' ⟨rfl, rfl⟩
    exact ⟨_, K, _, rfl, ⟨⟨.map none, rfl, .inl ⟨rfl, rfl⟩, rfl, rfl⟩, rfl⟩, Hp.le_refl K, hs⟩
  | some l =>
    obtain ⟨r, o, e1, ⟨es, cl, rfl, hl⟩⟩ := hs.swap.fact (p := ∃ r o, [mv] = [Value.map (some r)] ∧ ObjR 0 (.sl (.cons (.int .i64) (.one (.int .i64)))) l o) (fun h k => by obtain ⟨r, o, a, b, _⟩ := k; exact ⟨r, o, a, b⟩)
    cases e1
    have hs1 : Sep E K ((fun h => ∃ es cl, h = one r (.map es cl) ∧ es.toList.map (fun e => (e.key, e.val)) = l.map (fun p => (keyV (.int .i64) p.1, Value.int .i64 p.2))) :: Cl b 45 [c0, c1, c2, .map (some r)] :: F) w :=
      hs.swap.mono (fun h k => by obtain ⟨r', o, a, ⟨es, cl, rfl, hl⟩, c⟩ := k; cases a; exact ⟨es, cl, c, hl⟩)
    obtain ⟨h0, ⟨es, cl, rfl, hl⟩, hd, hs1⟩ := hs1
    have hs2 : Sep E K ((fun h => h = one r (.map es cl)) :: Cl b 45 [c0, c1, c2, .map (some r)] :: F) w := ⟨_, rfl, hd, hs1⟩
    have hr := hs2.obj
    refine (unmark_int_old b r c0 c1 c2 k w hb hr hl).mono ?_
    rintro e w' ⟨rfl, es', cl', hO, hl'⟩
    refine ⟨_, K, _, rfl, ⟨⟨.map (some r), rfl, .inr ⟨_, r, rfl, rfl⟩, rfl, rfl⟩, rfl⟩, Hp.le_refl K, ?_⟩
    exact ((hs2.onl hO).mono (fun h k => ⟨r, _, rfl, ⟨es', cl', rfl, hl'⟩, k⟩)).swap
/-- What a worklist's mark computes: whether it is fresh; and the worklist then. -/
def markF_int (k : Int) (ring : List (Int)) (first many : Int) (x : Option (List (Int × Int))) : Option (Bool × List (Int) × Int × Int × Option (List (Int × Int))) := some (markB k x, ring, first, many, some (markL k x))
def unmarkF_int (k : Int) (ring : List (Int)) (first many : Int) (x : Option (List (Int × Int))) : Option (List (Int) × Int × Int × Option (List (Int × Int))) := some (ring, first, many, x.map (mdel k))
noncomputable def sp_mark_int : Spec := ⟨35, ⟨[(0, .ptr 0 0), (1, .dat (.int .i64))], [⟨none, 45, [.own 3 (.int .i64), .dat (.int .i64), .dat (.int .i64), .od Ob_int], false, false, none, false⟩]⟩, [⟨[(0, .dat .bool)], [⟨some 0, 45, [.own 3 (.int .i64), .dat (.int .i64), .dat (.int .i64), .od Ob_int], false, false, none, false⟩]⟩],
  fun x => markF_int x.1 x.2.1 x.2.2.1 x.2.2.2.1 x.2.2.2.2⟩
theorem mark_int_is [BldA] : SpecOk Try.prog sp_mark_int := by
  intro x r hr vv u hu m K args hgk hm hH hsl E w F hs
  have hu' : sp_mark_int.inn.un (TL.list _ x) 0 = some ([(0, .ptr 0 0), (1, .int .i64 x.1)], ⟨[], 6, [.blk 0 5 45 [.own 1, .int .i64 x.2.2.1, .int .i64 x.2.2.2.1, .own 3], .od 3 4 Ob_int x.2.2.2.2, .row 1 2 3 (.int .i64) x.2.1 (List.length (α := Int) x.2.1)], [1]⟩) := rfl
  rw [hu'] at hu
  cases hu
  replace hm : m.length = 6 := hm
  obtain ⟨v1, u1, rfl, ⟨b, e1, rfl⟩, v2, u2, rfl, rfl, rfl⟩ := hsl
  obtain ⟨b', vs, g0, g5, v0, r0, rfl, ⟨h1, h1o⟩, v1, r1, rfl, rfl, v2, r2, rfl, rfl, v3, r3, rfl, ⟨h3, h3o⟩, rfl⟩ := hH (.blk 0 5 45 [.own 1, .int .i64 x.2.2.1, .int .i64 x.2.2.2.1, .own 3]) (by simp)
  rw [g0] at e1; cases e1
  obtain ⟨mv, K0, g3, g4, hk, hf⟩ := hH (.od 3 4 Ob_int x.2.2.2.2) (by simp)
  rw [g3] at h3; cases h3
  obtain ⟨ad, cap, cs, g1, g2, hE, _, q2, q3, q4⟩ := hH (.row 1 2 3 (.int .i64) x.2.1 (List.length (α := Int) x.2.1)) (by simp)
  rw [g1] at h1; cases h1
  have hs' : Sep E K (HA.conc m (.blk 0 5 45 [.own 1, .int .i64 x.2.2.1, .int .i64 x.2.2.2.1, .own 3]) :: HA.conc m (.od 3 4 Ob_int x.2.2.2.2) :: HA.conc m (.row 1 2 3 (.int .i64) x.2.1 (List.length (α := Int) x.2.1)) :: F) w := hs
  simp only [HA.conc, g0, g1, g2, g3, g4, g5] at hs'
  refine (mark_int_tr x.1 x.2.2.2.2 E w (Rw 3 (Tp.size (.int .i64)) (.slice ad (List.length (α := Int) x.2.1) cap) (List.length (α := Int) x.2.1) cs :: F) hs').mono ?_
  rintro e w' ⟨v, K', L', rfl, ⟨⟨mv', hone, hform, rfl, rfl⟩, rfl⟩, hle, hs2⟩
  obtain rfl : r = (markB x.1 x.2.2.2.2, x.2.1, x.2.2.1, x.2.2.2.1, (some (markL x.1 x.2.2.2.2) : Option (List (Int × Int)))) := (Option.some.inj hr).symm
  let ms : List M := [M.val (.slice ad (List.length (α := Int) x.2.1) cap), M.cont (.int .i64) x.2.1 cs, M.val mv', M.hp K0, M.cells [.slice ad (List.length (α := Int) x.2.1) cap, .int .i64 x.2.2.1, .int .i64 x.2.2.2.1, mv']]
  have f0 : (m ++ ms)[0]? = some (.val (.pointer (some ⟨b, 0, none⟩))) := by rw [List.getElem?_append_left (by omega)]; exact g0
  have f6 : (m ++ ms)[6]? = some (.val (.slice ad (List.length (α := Int) x.2.1) cap)) := by rw [List.getElem?_append_right (by omega), hm]; rfl
  have f7 : (m ++ ms)[7]? = some (.cont (.int .i64) x.2.1 cs) := by rw [List.getElem?_append_right (by omega), hm]; rfl
  have f8 : (m ++ ms)[8]? = some (.val mv') := by rw [List.getElem?_append_right (by omega), hm]; rfl
  have f9 : (m ++ ms)[9]? = some (.hp K0) := by rw [List.getElem?_append_right (by omega), hm]; rfl
  have f10 : (m ++ ms)[10]? = some (.cells [.slice ad (List.length (α := Int) x.2.1) cap, .int .i64 x.2.2.1, .int .i64 x.2.2.2.1, mv']) := by rw [List.getElem?_append_right (by omega), hm]; rfl
  refine ⟨_, K, _, rfl, ⟨[(0, .bool (markB x.1 x.2.2.2.2))], ⟨[], 11, [.blk 0 10 45 [.own 6, .int .i64 x.2.2.1, .int .i64 x.2.2.2.1, .own 8], .od 8 9 Ob_int (some (markL x.1 x.2.2.2.2) : Option (List (Int × Int))), .row 6 7 3 (.int .i64) x.2.1 (List.length (α := Int) x.2.1)], [6]⟩, m ++ ms, rfl, List.prefix_append _ _, by simp [hm, ms], ?_, rfl, rfl⟩, hle, ?_⟩
  · intro a ha
    simp only [List.mem_cons, List.mem_nil_iff, or_false] at ha
    rcases ha with rfl | rfl | rfl
    · exact ⟨b, _, f0, f10, _, _, rfl, ⟨f6, rfl⟩, _, _, rfl, rfl, _, _, rfl, rfl, _, _, rfl, ⟨f8, hone⟩, rfl⟩
    · exact ⟨mv', K0, f8, f9, hk, hform⟩
    · exact ⟨ad, cap, cs, f6, f7, hE, rfl, q2, q3, q4⟩
  · show Sep E K (HA.conc _ (.blk 0 10 45 [.own 6, .int .i64 x.2.2.1, .int .i64 x.2.2.2.1, .own 8]) :: HA.conc _ (.od 8 9 Ob_int (some (markL x.1 x.2.2.2.2) : Option (List (Int × Int)))) :: HA.conc _ (.row 6 7 3 (.int .i64) x.2.1 (List.length (α := Int) x.2.1)) :: F) w'
    simp only [HA.conc, f0, f6, f7, f8, f9, f10]
    exact hs2
noncomputable def ok_mark_int [BldA] : OkSpec Try.prog := ⟨sp_mark_int, mark_int_is, Try.call35⟩
noncomputable def sp_unmark_int : Spec := ⟨36, ⟨[(0, .ptr 0 0), (1, .dat (.int .i64))], [⟨none, 45, [.own 3 (.int .i64), .dat (.int .i64), .dat (.int .i64), .od Ob_int], false, false, none, false⟩]⟩, [⟨[], [⟨some 0, 45, [.own 3 (.int .i64), .dat (.int .i64), .dat (.int .i64), .od Ob_int], false, false, none, false⟩]⟩],
  fun x => unmarkF_int x.1 x.2.1 x.2.2.1 x.2.2.2.1 x.2.2.2.2⟩
theorem unmark_int_is [BldA] : SpecOk Try.prog sp_unmark_int := by
  intro x r hr vv u hu m K args hgk hm hH hsl E w F hs
  have hu' : sp_unmark_int.inn.un (TL.list _ x) 0 = some ([(0, .ptr 0 0), (1, .int .i64 x.1)], ⟨[], 6, [.blk 0 5 45 [.own 1, .int .i64 x.2.2.1, .int .i64 x.2.2.2.1, .own 3], .od 3 4 Ob_int x.2.2.2.2, .row 1 2 3 (.int .i64) x.2.1 (List.length (α := Int) x.2.1)], [1]⟩) := rfl
  rw [hu'] at hu
  cases hu
  replace hm : m.length = 6 := hm
  obtain ⟨v1, u1, rfl, ⟨b, e1, rfl⟩, v2, u2, rfl, rfl, rfl⟩ := hsl
  obtain ⟨b', vs, g0, g5, v0, r0, rfl, ⟨h1, h1o⟩, v1, r1, rfl, rfl, v2, r2, rfl, rfl, v3, r3, rfl, ⟨h3, h3o⟩, rfl⟩ := hH (.blk 0 5 45 [.own 1, .int .i64 x.2.2.1, .int .i64 x.2.2.2.1, .own 3]) (by simp)
  rw [g0] at e1; cases e1
  obtain ⟨mv, K0, g3, g4, hk, hf⟩ := hH (.od 3 4 Ob_int x.2.2.2.2) (by simp)
  rw [g3] at h3; cases h3
  obtain ⟨ad, cap, cs, g1, g2, hE, _, q2, q3, q4⟩ := hH (.row 1 2 3 (.int .i64) x.2.1 (List.length (α := Int) x.2.1)) (by simp)
  rw [g1] at h1; cases h1
  have hs' : Sep E K (HA.conc m (.blk 0 5 45 [.own 1, .int .i64 x.2.2.1, .int .i64 x.2.2.2.1, .own 3]) :: HA.conc m (.od 3 4 Ob_int x.2.2.2.2) :: HA.conc m (.row 1 2 3 (.int .i64) x.2.1 (List.length (α := Int) x.2.1)) :: F) w := hs
  simp only [HA.conc, g0, g1, g2, g3, g4, g5] at hs'
  refine (unmark_int_tr x.1 x.2.2.2.2 E w (Rw 3 (Tp.size (.int .i64)) (.slice ad (List.length (α := Int) x.2.1) cap) (List.length (α := Int) x.2.1) cs :: F) hs').mono ?_
  rintro e w' ⟨v, K', L', rfl, ⟨⟨mv', hone, hform, rfl, rfl⟩, rfl⟩, hle, hs2⟩
  obtain rfl : r = (x.2.1, x.2.2.1, x.2.2.2.1, (Option.map (mdel x.1) x.2.2.2.2 : Option (List (Int × Int)))) := (Option.some.inj hr).symm
  let ms : List M := [M.val (.slice ad (List.length (α := Int) x.2.1) cap), M.cont (.int .i64) x.2.1 cs, M.val mv', M.hp K0, M.cells [.slice ad (List.length (α := Int) x.2.1) cap, .int .i64 x.2.2.1, .int .i64 x.2.2.2.1, mv']]
  have f0 : (m ++ ms)[0]? = some (.val (.pointer (some ⟨b, 0, none⟩))) := by rw [List.getElem?_append_left (by omega)]; exact g0
  have f6 : (m ++ ms)[6]? = some (.val (.slice ad (List.length (α := Int) x.2.1) cap)) := by rw [List.getElem?_append_right (by omega), hm]; rfl
  have f7 : (m ++ ms)[7]? = some (.cont (.int .i64) x.2.1 cs) := by rw [List.getElem?_append_right (by omega), hm]; rfl
  have f8 : (m ++ ms)[8]? = some (.val mv') := by rw [List.getElem?_append_right (by omega), hm]; rfl
  have f9 : (m ++ ms)[9]? = some (.hp K0) := by rw [List.getElem?_append_right (by omega), hm]; rfl
  have f10 : (m ++ ms)[10]? = some (.cells [.slice ad (List.length (α := Int) x.2.1) cap, .int .i64 x.2.2.1, .int .i64 x.2.2.2.1, mv']) := by rw [List.getElem?_append_right (by omega), hm]; rfl
  refine ⟨_, K, _, rfl, ⟨[], ⟨[], 11, [.blk 0 10 45 [.own 6, .int .i64 x.2.2.1, .int .i64 x.2.2.2.1, .own 8], .od 8 9 Ob_int (Option.map (mdel x.1) x.2.2.2.2 : Option (List (Int × Int))), .row 6 7 3 (.int .i64) x.2.1 (List.length (α := Int) x.2.1)], [6]⟩, m ++ ms, rfl, List.prefix_append _ _, by simp [hm, ms], ?_, rfl, rfl⟩, hle, ?_⟩
  · intro a ha
    simp only [List.mem_cons, List.mem_nil_iff, or_false] at ha
    rcases ha with rfl | rfl | rfl
    · exact ⟨b, _, f0, f10, _, _, rfl, ⟨f6, rfl⟩, _, _, rfl, rfl, _, _, rfl, rfl, _, _, rfl, ⟨f8, hone⟩, rfl⟩
    · exact ⟨mv', K0, f8, f9, hk, hform⟩
    · exact ⟨ad, cap, cs, f6, f7, hE, rfl, q2, q3, q4⟩
  · show Sep E K (HA.conc _ (.blk 0 10 45 [.own 6, .int .i64 x.2.2.1, .int .i64 x.2.2.2.1, .own 8]) :: HA.conc _ (.od 8 9 Ob_int (Option.map (mdel x.1) x.2.2.2.2 : Option (List (Int × Int)))) :: HA.conc _ (.row 6 7 3 (.int .i64) x.2.1 (List.length (α := Int) x.2.1)) :: F) w'
    simp only [HA.conc, f0, f6, f7, f8, f9, f10]
    exact hs2
noncomputable def ok_unmark_int [BldA] : OkSpec Try.prog := ⟨sp_unmark_int, unmark_int_is, Try.call36⟩
end Go.Proofs.Ytgdjfpmjbjkmhaa
namespace Go.Proofs.Ytgdjfpmjbjkmhaa
open Go.RowKit
set_option linter.unusedVariables false
set_option linter.unusedSimpArgs false
set_option linter.unnecessarySimpa false
set_option maxRecDepth 100000
set_option maxHeartbeats 4000000
/-- Two objects have turned, and nothing else. -/
def Onl3 (w w' : World) (b : Nat) (ob : Obj) (g : Nat) (og : Obj) : Prop := w'.heap[b]? = some ob ∧ w'.heap[g]? = some og ∧ (∀ (n : Nat) (x : Obj), n ≠ b → n ≠ g → w.heap[n]? = some x → w'.heap[n]? = some x) ∧ w'.os = w.os ∧ w'.tape = w.tape ∧ w'.output = w.output
theorem Sep.onl3 {E : En} {K : Hp} {L : List Atom} {w w' : World} {b g : Nat} {t : TypeId} {cs cs' : List Value} {o o' : Obj} (hs : Sep E K (Cl b t cs :: (fun h => h = one g o) :: L) w) (h : Onl3 w w' b (.cells cs'.toArray t (0, 0)) g o') : Sep E K (Cl b t cs' :: (fun h => h = one g o') :: L) w' := by
  refine Sep.split (Sep.turn (Sep.join hs) (fun ⟨a, b, c⟩ => ⟨h.2.2.2.1.trans a, h.2.2.2.2.1.trans b, h.2.2.2.2.2.trans c⟩) (fun h0 ha _ => ?_))
  obtain ⟨h1, h2, e1, e2, hd, rfl⟩ := ha
  unfold Cl at e1; subst e1 e2
  have hbg : b ≠ g := by
    intro e; subst e
    have := hd b o (by simp [one])
    simp [one] at this
  refine ⟨(one b (.cells cs'.toArray t (0, 0))).join (one g o'), ⟨_, _, rfl, rfl, fun n x e => ?_, rfl⟩, fun n x e => ?_, fun n x e h3 => ?_⟩
  · obtain ⟨rfl, _⟩ := one_some e
    simp [one, fun e : n = b => hbg e.symm]
    exact fun e => hbg e.symm
  · rcases Hp.join_some e with e | ⟨_, e⟩
    · obtain ⟨rfl, rfl⟩ := one_some e
      exact ⟨h.1, fun e => by simp [Hp.join, one] at e⟩
    · obtain ⟨rfl, rfl⟩ := one_some e
      refine ⟨h.2.1, fun e => ?_⟩
      have := (Hp.join_none e).2
      simp [one] at this
  · obtain ⟨k1, k2⟩ := Hp.join_none h3
    exact h.2.2.1 n x (fun e => by subst e; simp [one] at k1) (fun e => by subst e; simp [one] at k2) e
theorem zero_str (w : World) : (zeroValue 9).run Try.prog w = .ok (.string ⟨#[]⟩) w := by
  rfl
theorem len_int (b : Nat) (ad : Option Addr) (n cap : Nat) (w : World) (hc : w.cell? ⟨b, 0, none⟩ = some (.slice ad n cap)) : Calls Try.prog 15 #[.pointer (some ⟨b, 0, none⟩)] w fun e w' => e = .returned (.int .i64 (n : Int)) ∧ w' = w := by
  go_enter Try.func15, Try.ntmps15
  go_wp2
  go_ret; exact ⟨rfl, rfl⟩
theorem clear_int (g k c : Nat) (x : Int) {cur : Array Value} (w : World) (hg : w.heap[g]? = some (.cells cur 3 (0, 0))) (hx : cur[k]? = some (.int .i64 x)) :
    (Builtin.clear_ #[24] 0 #[.slice (some ⟨g, k, none⟩) 1 c]).run Try.prog w = .ok (.tuple #[]) (w.setCell ⟨g, k, none⟩ (.int .i64 0)) := by
  have hd : w.cell? ⟨g, k, none⟩ = some (.int .i64 x) := by simp [World.cell?, hg, hx]
  have hz : w.frozen? ⟨g, k, none⟩ = false := by simp [World.frozen?, hg]
  simp [Builtin.clear_, run_underlying Try.underlying24, zero_i64, Builtin.zeroCells, storeCells, go_sem, hd, hz, Result.andThen]
theorem pop_int_old (b g k cap : Nat) (x : Int) {cur : Array Value} (w : World) (hb : w.heap[b]? = some (.cells #[.slice (some ⟨g, 0, none⟩) (k + 1) cap] 26 (0, 0))) (hg : w.heap[g]? = some (.cells cur 3 (0, 0))) (hne : b ≠ g) (hcap : k + 1 ≤ cap) (hmax : cap ≤ maxLen) (hx : cur[k]? = some (.int .i64 x)) :
    Calls Try.prog 10 #[.pointer (some ⟨b, 0, none⟩)] w fun e w' => e = .returned (.tuple #[.int .i64 x, .bool true]) ∧ Onl3 w w' b (.cells #[.slice (some ⟨g, 0, none⟩) k cap] 26 (0, 0)) g (.cells (cur.setIfInBounds k (.int .i64 0)) 3 (0, 0)) := by
  have hc : w.cell? ⟨b, 0, none⟩ = some (.slice (some ⟨g, 0, none⟩) (k + 1) cap) := by simp [World.cell?, hb]
  have hd : w.cell? ⟨g, k, none⟩ = some (.int .i64 x) := by simp [World.cell?, hg, hx]
  have hwr : wrap64 ((k : Int) + 1 - 1) = (k : Int) := by rw [Int.add_sub_cancel]; exact IntWalk.wrap64_in _ (by unfold maxLen at hmax; omega)
  have hwr2 : wrap64 (k : Int) = (k : Int) := IntWalk.wrap64_in _ (by unfold maxLen at hmax; omega)
  have hk0 : (0 : Int) ≤ (k : Int) := Int.natCast_nonneg k
  have hk1 : (k : Int) < (k : Int) + 1 := by omega
  have hix : ∀ (i : Int), i = (k : Int) → ∀ w, (Instr.indexAt 24 (.slice (some ⟨g, 0, none⟩) (k + 1) cap) (.int .i64 i)).run Try.prog w = .ok (.pointer (some ⟨g, k, none⟩)) w := by
    intro i hi w
    subst hi
    simp [Instr.indexAt, go_sem]
  have hix1 := hix _ hwr
  have hix2 := hix _ hwr2
  go_enter Try.func10, Try.ntmps10
  go_wp2
  go_quiet (first | (go_at_call 15; exact Calls.quiet_of_same (len_int b (some ⟨g, 0, none⟩) (k + 1) cap _ (by simpa using hc))))
  have hbq : (w.drewN nq).heap[b]? = some (.cells #[.slice (some ⟨g, 0, none⟩) (k + 1) cap] 26 (0, 0)) := hb
  have hgq : (w.drewN nq).heap[g]? = some (.cells cur 3 (0, 0)) := hg
  have hoq : ∀ (n : Nat) (x : Obj), w.heap[n]? = some x → (w.drewN nq).heap[n]? = some x := fun _ _ h => h
  have heq : (w.drewN nq).os = w.os ∧ (w.drewN nq).tape = w.tape ∧ (w.drewN nq).output = w.output := ⟨rfl, rfl, rfl⟩
  generalize w.drewN nq = wq at *
  have hcq : wq.cell? ⟨b, 0, none⟩ = some (.slice (some ⟨g, 0, none⟩) (k + 1) cap) := by simp [World.cell?, hbq]
  have hzq : wq.frozen? ⟨b, 0, none⟩ = false := by simp [World.frozen?, hbq]
  have hdq : wq.cell? ⟨g, k, none⟩ = some (.int .i64 x) := by simp [World.cell?, hgq, hx]
  have hzg : wq.frozen? ⟨g, k, none⟩ = false := by simp [World.frozen?, hgq]
  have hclr := clear_int g k (cap - k) x wq hgq hx
  have hO : Onl3 w ((wq.setCell ⟨g, k, none⟩ (.int .i64 0)).setCell ⟨b, 0, none⟩ (.slice (some ⟨g, 0, none⟩) k cap)) b (.cells #[.slice (some ⟨g, 0, none⟩) k cap] 26 (0, 0)) g (.cells (cur.setIfInBounds k (.int .i64 0)) 3 (0, 0)) := by
    have hne' : ¬ g = b := fun e => hne e.symm
    refine ⟨?_, ?_, fun n x h1 h2 h => ?_, heq⟩
    · simp [World.setCell, Array.getElem?_modify, hne, hne', hbq]
    · simp [World.setCell, Array.getElem?_modify, hne, hne', hgq]
    · rw [setCell_ne h1, setCell_ne h2]; exact hoq n x h
  go_wp2
  first | (go_ret2; exact ⟨rfl, hO⟩) | (go_ret; exact ⟨rfl, hO⟩)
theorem pop_int_nil (b cap : Nat) (ad : Option Addr) (w : World) (hb : w.heap[b]? = some (.cells #[.slice ad 0 cap] 26 (0, 0))) :
    Calls Try.prog 10 #[.pointer (some ⟨b, 0, none⟩)] w fun e w' => e = .returned (.tuple #[.int .i64 0, .bool false]) ∧ w' = w := by
  have hc : w.cell? ⟨b, 0, none⟩ = some (.slice ad 0 cap) := by simp [World.cell?, hb]
  go_enter Try.func10, Try.ntmps10
  go_wp2
  first | (go_ret2; exact ⟨rfl, rfl⟩) | (go_ret; exact ⟨rfl, rfl⟩)
theorem els_int_eq {K : Hp} : ∀ {xs : List (Int)} {cs : List Value}, Els K (.int .i64) cs xs → cs = xs.map (fun x => .int .i64 x)
  | [], cs, h => h
  | x :: xs, cs, h => by
    obtain ⟨es, r, rfl, h1, h2⟩ := h
    rw [els_int_eq h2, show es = [.int .i64 x] from h1]; rfl
theorem els_int_mk (K : Hp) : ∀ xs : List (Int), Els K (.int .i64) (xs.map (fun x => .int .i64 x)) xs
  | [] => rfl
  | x :: xs => ⟨[.int .i64 x], _, rfl, rfl, els_int_mk K xs⟩
def popF_int (l : List (Int)) : Option (Int × Bool × List (Int)) := some (match l.getLast? with | some x => (x, true, l.dropLast) | none => (0, false, []))
theorem pop_int_tr {K : Hp} {b cap : Nat} {ad : Option Addr} {cs : List Value} (l : List (Int)) (hcs : cs = l.map (fun x => .int .i64 x)) {r : Int × Bool × List (Int)} (hr : popF_int l = some r) :
    Tr Try.prog 10 #[.pointer (some ⟨b, 0, none⟩)] K [Cl b 26 [.slice ad (List.length (α := Int) l) cap], Rw 3 1 (.slice ad (List.length (α := Int) l) cap) (List.length (α := Int) l) cs] (fun v K' L' => (v = .tuple #[(fun x : Int => .int .i64 x) r.1, .bool r.2.1] ∧ r.2.2.length ≤ cap ∧ cap ≤ maxLen ∧ (r.2.2 ≠ [] → ∃ g, ad = some ⟨g, 0, none⟩) ∧ L' = [Cl b 26 [.slice ad (List.length (α := Int) r.2.2) cap], Rw 3 1 (.slice ad (List.length (α := Int) r.2.2) cap) (List.length (α := Int) r.2.2) (r.2.2.map (fun x => .int .i64 x))]) ∧ K = K') := by
  intro E w F hs
  have hb := hs.cl
  obtain ⟨ad', cap', e1, f1, f2, f3⟩ := hs.swap.fact (p := ∃ ad' cap', Value.slice ad (List.length (α := Int) l) cap = .slice ad' (List.length (α := Int) l) cap' ∧ List.length (α := Int) l ≤ cap' ∧ cap' ≤ maxLen ∧ (List.length (α := Int) l ≠ 0 → ∃ g, ad' = some ⟨g, 0, none⟩)) (fun h k => Rw.form h k)
  cases e1
  rcases List.eq_nil_or_concat l with rfl | ⟨l0, x, hl⟩
  · obtain rfl : r = (0, false, []) := (Option.some.inj hr).symm
    refine (pop_int_nil b cap ad w hb).mono ?_
    rintro e w' ⟨rfl, rfl⟩
    subst hcs
    exact ⟨_, K, _, rfl, ⟨⟨rfl, f1, f2, fun h => absurd rfl h, rfl⟩, rfl⟩, Hp.le_refl K, hs⟩
  · obtain rfl : l = l0 ++ [x] := by simpa using hl
    obtain rfl : r = (x, true, l0) := by
      have := (Option.some.inj hr).symm
      simpa using this
    simp only [List.length_append, List.length_cons, List.length_nil, Nat.zero_add] at f1 f3 hb hs
    obtain ⟨g, rfl⟩ := f3 (by omega)
    have hs1 : Sep E K ((fun h => ∃ cur : Array Value, h = one g (.cells cur 3 (0, 0)) ∧ cur.size = cap ∧ cur.toList.take (l0.length + 1) = cs) :: Cl b 26 [.slice (some ⟨g, 0, none⟩) (l0.length + 1) cap] :: F) w := hs.swap.mono (fun h k => by
      obtain ⟨h1, h2⟩ := k
      rcases h2 with ⟨h2, _⟩ | ⟨g', cap', cur, h2, h3, _, _, h4, h5⟩
      · cases h2
      · cases h2
        rw [Nat.mul_one] at h4 h5
        exact ⟨cur, h3, h4, h5⟩)
    obtain ⟨h0, ⟨cur, rfl, hsz, htk⟩, hd, hs1⟩ := hs1
    have hs2 : Sep E K ((fun h => h = one g (.cells cur 3 (0, 0))) :: Cl b 26 [.slice (some ⟨g, 0, none⟩) (l0.length + 1) cap] :: F) w := ⟨_, rfl, hd, hs1⟩
    have hg := hs2.obj
    have hne : b ≠ g := by rintro rfl; rw [hb] at hg; cases hg
    have hx : cur[l0.length]? = some (.int .i64 x) := by
      have : (cur.toList.take (l0.length + 1))[l0.length]? = some (.int .i64 x) := by rw [htk, hcs]; simp
      rw [List.getElem?_take, if_pos (by omega)] at this
      rwa [← Array.getElem?_toList]
    refine (pop_int_old b g l0.length cap x w hb hg hne f1 f2 hx).mono ?_
    rintro e w' ⟨rfl, hO⟩
    have f4 : l0.length ≤ cap := by omega
    refine ⟨_, K, _, rfl, ⟨⟨rfl, f4, f2, fun _ => ⟨g, rfl⟩, rfl⟩, rfl⟩, Hp.le_refl K, ?_⟩
    dsimp only
    refine (Sep.onl3 (cs' := [.slice (some ⟨g, 0, none⟩) l0.length cap]) hs2.swap hO).swap.mono (fun h k => ?_) |>.swap
    refine ⟨by simp, .inr ⟨g, cap, _, rfl, k, f4, f2, by rw [Array.size_setIfInBounds, hsz, Nat.mul_one], ?_⟩⟩
    rw [Nat.mul_one, Array.toList_setIfInBounds, List.take_set_of_le (Nat.le_refl _)]
    have : (cur.toList.take (l0.length + 1)).take l0.length = l0.map (fun x => .int .i64 x) := by rw [htk, hcs]; simp
    rw [List.take_take, Nat.min_eq_left (by omega)] at this
    exact this
noncomputable def sp_pop_int : Spec := ⟨10, ⟨[(0, .ptr 0 0)], [⟨none, 26, [.own 3 (.int .i64)], false, false, none, false⟩]⟩, [⟨[(0, .tup [.dat (.int .i64), .dat .bool])], [⟨some 0, 26, [.own 3 (.int .i64)], false, false, none, false⟩]⟩], fun x => popF_int x⟩
theorem pop_int_is [BldA] : SpecOk Try.prog sp_pop_int := by
  intro x r hr vv u hu m K args hgk hm hH hsl E w F hs
  have hu' : sp_pop_int.inn.un (TL.list _ x) 0 = some ([(0, .ptr 0 0)], ⟨[], 4, [.blk 0 3 26 [.own 1], .row 1 2 3 (.int .i64) x (List.length (α := Int) x)], [1]⟩) := rfl
  rw [hu'] at hu
  cases hu
  replace hm : m.length = 4 := hm
  obtain ⟨v1, u1, rfl, ⟨b, e1, rfl⟩, rfl⟩ := hsl
  obtain ⟨b', vs, g0, g3, v0, r0, rfl, ⟨h1, h1o⟩, rfl⟩ := hH (.blk 0 3 26 [.own 1]) (by simp)
  rw [g0] at e1; cases e1
  obtain ⟨ad, cap, cs, g1, g2, hE, _, q2, q3, q4⟩ := hH (.row 1 2 3 (.int .i64) x (List.length (α := Int) x)) (by simp)
  rw [g1] at h1; cases h1
  have hs' : Sep E K (HA.conc m (.blk 0 3 26 [.own 1]) :: HA.conc m (.row 1 2 3 (.int .i64) x (List.length (α := Int) x)) :: F) w := hs
  simp only [HA.conc, g0, g1, g2, g3] at hs'
  refine (pop_int_tr x (els_int_eq hE) (show popF_int x = some r from hr) E w F hs').mono ?_
  rintro e w' ⟨v, K', L', rfl, ⟨⟨rfl, p1, p2, p3, rfl⟩, rfl⟩, hle, hs2⟩
  obtain ⟨r1, r2, r3⟩ := r
  let ms : List M := [M.val (.slice ad (List.length (α := Int) r3) cap), M.cont (.int .i64) r3 (r3.map (fun x => .int .i64 x)), M.cells [.slice ad (List.length (α := Int) r3) cap]]
  have f0 : (m ++ ms)[0]? = some (.val (.pointer (some ⟨b, 0, none⟩))) := by rw [List.getElem?_append_left (by omega)]; exact g0
  have f4 : (m ++ ms)[4]? = some (.val (.slice ad (List.length (α := Int) r3) cap)) := by rw [List.getElem?_append_right (by omega), hm]; rfl
  have f5 : (m ++ ms)[5]? = some (.cont (.int .i64) r3 (r3.map (fun x => .int .i64 x))) := by rw [List.getElem?_append_right (by omega), hm]; rfl
  have f6 : (m ++ ms)[6]? = some (.cells [.slice ad (List.length (α := Int) r3) cap]) := by rw [List.getElem?_append_right (by omega), hm]; rfl
  refine ⟨_, K, _, rfl, ⟨[(0, .tup [(fun x : Int => (.int .i64 x : SV)) r1, .bool r2])], ⟨[], 7, [.blk 0 6 26 [.own 4], .row 4 5 3 (.int .i64) r3 (List.length (α := Int) r3)], [4]⟩, m ++ ms, rfl, List.prefix_append _ _, by simp [hm, ms], ?_, ⟨_, rfl, _, _, rfl, rfl, _, _, rfl, rfl, rfl⟩, rfl⟩, hle, ?_⟩
  · intro a ha
    simp only [List.mem_cons, List.mem_nil_iff, or_false] at ha
    rcases ha with rfl | rfl
    · exact ⟨b, _, f0, f6, _, _, rfl, ⟨f4, rfl⟩, rfl⟩
    · exact ⟨ad, cap, _, f4, f5, els_int_mk K r3, rfl, p1, p2, p3⟩
  · show Sep E K (HA.conc _ (.blk 0 6 26 [.own 4]) :: HA.conc _ (.row 4 5 3 (.int .i64) r3 (List.length (α := Int) r3)) :: F) w'
    simp only [HA.conc, f0, f4, f5, f6]
    exact hs2
/-- Of no stack at all. -/
def popN_int : Option (Int × Bool) := some (0, false)
theorem popN_int_walk (w : World) : Calls Try.prog 10 #[.pointer none] w fun e w' => e = .returned (.tuple #[.int .i64 0, .bool false]) ∧ w' = w := by
  go_enter Try.func10, Try.ntmps10
  go_wp2
  first | (go_ret2; exact ⟨rfl, rfl⟩) | (go_ret; exact ⟨rfl, rfl⟩)
noncomputable def sp_popN_int : Spec := ⟨10, ⟨[(0, .nilp)], []⟩, [⟨[(0, .tup [.dat (.int .i64), .dat .bool])], []⟩], fun _ => popN_int⟩
theorem popN_int_is [BldA] : SpecOk Try.prog sp_popN_int := by
  intro x r hr vv u hu m K args hgk hm hH hsl E w F hs
  have hu' : sp_popN_int.inn.un (TL.list _ x) 0 = some ([(0, .nilp)], ⟨[], 0, [], []⟩) := rfl
  rw [hu'] at hu
  cases hu
  obtain ⟨v1, u1, rfl, rfl, rfl⟩ := hsl
  obtain rfl : r = (0, false) := (Option.some.inj hr).symm
  refine (popN_int_walk w).mono ?_
  rintro e w' ⟨rfl, rfl⟩
  exact ⟨_, K, _, rfl, ⟨[(0, .tup [(fun x : Int => (.int .i64 x : SV)) 0, .bool false])], ⟨[], 0, [], []⟩, m, rfl, List.prefix_rfl, hm, fun a h => (by cases h), ⟨_, rfl, _, _, rfl, rfl, _, _, rfl, rfl, rfl⟩, rfl⟩, Hp.le_refl K, hs⟩
noncomputable def ok_popN_int [BldA] : OkSpec Try.prog := ⟨sp_popN_int, popN_int_is, Try.call10⟩
noncomputable def ok_pop_int [BldA] : OkSpec Try.prog := ⟨sp_pop_int, pop_int_is, Try.call10⟩
theorem len_str (b : Nat) (ad : Option Addr) (n cap : Nat) (w : World) (hc : w.cell? ⟨b, 0, none⟩ = some (.slice ad n cap)) : Calls Try.prog 29 #[.pointer (some ⟨b, 0, none⟩)] w fun e w' => e = .returned (.int .i64 (n : Int)) ∧ w' = w := by
  go_enter Try.func29, Try.ntmps29
  go_wp2
  go_ret; exact ⟨rfl, rfl⟩
theorem clear_str (g k c : Nat) (x : List UInt8) {cur : Array Value} (w : World) (hg : w.heap[g]? = some (.cells cur 9 (0, 0))) (hx : cur[k]? = some (.string ⟨List.toArray (α := UInt8) x⟩)) :
    (Builtin.clear_ #[48] 0 #[.slice (some ⟨g, k, none⟩) 1 c]).run Try.prog w = .ok (.tuple #[]) (w.setCell ⟨g, k, none⟩ (.string ⟨#[]⟩)) := by
  have hd : w.cell? ⟨g, k, none⟩ = some (.string ⟨List.toArray (α := UInt8) x⟩) := by simp [World.cell?, hg, hx]
  have hz : w.frozen? ⟨g, k, none⟩ = false := by simp [World.frozen?, hg]
  simp [Builtin.clear_, run_underlying Try.underlying48, zero_str, Builtin.zeroCells, storeCells, go_sem, hd, hz, Result.andThen]
theorem pop_str_old (b g k cap : Nat) (x : List UInt8) {cur : Array Value} (w : World) (hb : w.heap[b]? = some (.cells #[.slice (some ⟨g, 0, none⟩) (k + 1) cap] 50 (0, 0))) (hg : w.heap[g]? = some (.cells cur 9 (0, 0))) (hne : b ≠ g) (hcap : k + 1 ≤ cap) (hmax : cap ≤ maxLen) (hx : cur[k]? = some (.string ⟨List.toArray (α := UInt8) x⟩)) :
    Calls Try.prog 27 #[.pointer (some ⟨b, 0, none⟩)] w fun e w' => e = .returned (.tuple #[.string ⟨List.toArray (α := UInt8) x⟩, .bool true]) ∧ Onl3 w w' b (.cells #[.slice (some ⟨g, 0, none⟩) k cap] 50 (0, 0)) g (.cells (cur.setIfInBounds k (.string ⟨#[]⟩)) 9 (0, 0)) := by
  have hc : w.cell? ⟨b, 0, none⟩ = some (.slice (some ⟨g, 0, none⟩) (k + 1) cap) := by simp [World.cell?, hb]
  have hd : w.cell? ⟨g, k, none⟩ = some (.string ⟨List.toArray (α := UInt8) x⟩) := by simp [World.cell?, hg, hx]
  have hwr : wrap64 ((k : Int) + 1 - 1) = (k : Int) := by rw [Int.add_sub_cancel]; exact IntWalk.wrap64_in _ (by unfold maxLen at hmax; omega)
  have hwr2 : wrap64 (k : Int) = (k : Int) := IntWalk.wrap64_in _ (by unfold maxLen at hmax; omega)
  have hk0 : (0 : Int) ≤ (k : Int) := Int.natCast_nonneg k
  have hk1 : (k : Int) < (k : Int) + 1 := by omega
  have hix : ∀ (i : Int), i = (k : Int) → ∀ w, (Instr.indexAt 48 (.slice (some ⟨g, 0, none⟩) (k + 1) cap) (.int .i64 i)).run Try.prog w = .ok (.pointer (some ⟨g, k, none⟩)) w := by
    intro i hi w
    subst hi
    simp [Instr.indexAt, go_sem]
  have hix1 := hix _ hwr
  have hix2 := hix _ hwr2
  go_enter Try.func27, Try.ntmps27
  go_wp2
  go_quiet (first | (go_at_call 29; exact Calls.quiet_of_same (len_str b (some ⟨g, 0, none⟩) (k + 1) cap _ (by simpa using hc))))
  have hbq : (w.drewN nq).heap[b]? = some (.cells #[.slice (some ⟨g, 0, none⟩) (k + 1) cap] 50 (0, 0)) := hb
  have hgq : (w.drewN nq).heap[g]? = some (.cells cur 9 (0, 0)) := hg
  have hoq : ∀ (n : Nat) (x : Obj), w.heap[n]? = some x → (w.drewN nq).heap[n]? = some x := fun _ _ h => h
  have heq : (w.drewN nq).os = w.os ∧ (w.drewN nq).tape = w.tape ∧ (w.drewN nq).output = w.output := ⟨rfl, rfl, rfl⟩
  generalize w.drewN nq = wq at *
  have hcq : wq.cell? ⟨b, 0, none⟩ = some (.slice (some ⟨g, 0, none⟩) (k + 1) cap) := by simp [World.cell?, hbq]
  have hzq : wq.frozen? ⟨b, 0, none⟩ = false := by simp [World.frozen?, hbq]
  have hdq : wq.cell? ⟨g, k, none⟩ = some (.string ⟨List.toArray (α := UInt8) x⟩) := by simp [World.cell?, hgq, hx]
  have hzg : wq.frozen? ⟨g, k, none⟩ = false := by simp [World.frozen?, hgq]
  have hclr := clear_str g k (cap - k) x wq hgq hx
  have hO : Onl3 w ((wq.setCell ⟨g, k, none⟩ (.string ⟨#[]⟩)).setCell ⟨b, 0, none⟩ (.slice (some ⟨g, 0, none⟩) k cap)) b (.cells #[.slice (some ⟨g, 0, none⟩) k cap] 50 (0, 0)) g (.cells (cur.setIfInBounds k (.string ⟨#[]⟩)) 9 (0, 0)) := by
    have hne' : ¬ g = b := fun e => hne e.symm
    refine ⟨?_, ?_, fun n x h1 h2 h => ?_, heq⟩
    · simp [World.setCell, Array.getElem?_modify, hne, hne', hbq]
    · simp [World.setCell, Array.getElem?_modify, hne, hne', hgq]
    · rw [setCell_ne h1, setCell_ne h2]; exact hoq n x h
  go_wp2
  first | (go_ret2; exact ⟨rfl, hO⟩) | (go_ret; exact ⟨rfl, hO⟩)
theorem pop_str_nil (b cap : Nat) (ad : Option Addr) (w : World) (hb : w.heap[b]? = some (.cells #[.slice ad 0 cap] 50 (0, 0))) :
    Calls Try.prog 27 #[.pointer (some ⟨b, 0, none⟩)] w fun e w' => e = .returned (.tuple #[.string ⟨#[]⟩, .bool false]) ∧ w' = w := by
  have hc : w.cell? ⟨b, 0, none⟩ = some (.slice ad 0 cap) := by simp [World.cell?, hb]
  go_enter Try.func27, Try.ntmps27
  go_wp2
  first | (go_ret2; exact ⟨rfl, rfl⟩) | (go_ret; exact ⟨rfl, rfl⟩)
theorem els_str_eq {K : Hp} : ∀ {xs : List (List UInt8)} {cs : List Value}, Els K (.str) cs xs → cs = xs.map (fun x => .string ⟨List.toArray (α := UInt8) x⟩)
  | [], cs, h => h
  | x :: xs, cs, h => by
    obtain ⟨es, r, rfl, h1, h2⟩ := h
    rw [els_str_eq h2, show es = [.string ⟨List.toArray (α := UInt8) x⟩] from h1]; rfl
theorem els_str_mk (K : Hp) : ∀ xs : List (List UInt8), Els K (.str) (xs.map (fun x => .string ⟨List.toArray (α := UInt8) x⟩)) xs
  | [] => rfl
  | x :: xs => ⟨[.string ⟨List.toArray (α := UInt8) x⟩], _, rfl, rfl, els_str_mk K xs⟩
def popF_str (l : List (List UInt8)) : Option (List UInt8 × Bool × List (List UInt8)) := some (match l.getLast? with | some x => (x, true, l.dropLast) | none => (([] : List UInt8), false, []))
theorem pop_str_tr {K : Hp} {b cap : Nat} {ad : Option Addr} {cs : List Value} (l : List (List UInt8)) (hcs : cs = l.map (fun x => .string ⟨List.toArray (α := UInt8) x⟩)) {r : List UInt8 × Bool × List (List UInt8)} (hr : popF_str l = some r) :
    Tr Try.prog 27 #[.pointer (some ⟨b, 0, none⟩)] K [Cl b 50 [.slice ad (List.length (α := List UInt8) l) cap], Rw 9 1 (.slice ad (List.length (α := List UInt8) l) cap) (List.length (α := List UInt8) l) cs] (fun v K' L' => (v = .tuple #[(fun x : List UInt8 => .string ⟨List.toArray (α := UInt8) x⟩) r.1, .bool r.2.1] ∧ r.2.2.length ≤ cap ∧ cap ≤ maxLen ∧ (r.2.2 ≠ [] → ∃ g, ad = some ⟨g, 0, none⟩) ∧ L' = [Cl b 50 [.slice ad (List.length (α := List UInt8) r.2.2) cap], Rw 9 1 (.slice ad (List.length (α := List UInt8) r.2.2) cap) (List.length (α := List UInt8) r.2.2) (r.2.2.map (fun x => .string ⟨List.toArray (α := UInt8) x⟩))]) ∧ K = K') := by
  intro E w F hs
  have hb := hs.cl
  obtain ⟨ad', cap', e1, f1, f2, f3⟩ := hs.swap.fact (p := ∃ ad' cap', Value.slice ad (List.length (α := List UInt8) l) cap = .slice ad' (List.length (α := List UInt8) l) cap' ∧ List.length (α := List UInt8) l ≤ cap' ∧ cap' ≤ maxLen ∧ (List.length (α := List UInt8) l ≠ 0 → ∃ g, ad' = some ⟨g, 0, none⟩)) (fun h k => Rw.form h k)
  cases e1
  rcases List.eq_nil_or_concat l with rfl | ⟨l0, x, hl⟩
  · obtain rfl : r = (([] : List UInt8), false, []) := (Option.some.inj hr).symm
    refine (pop_str_nil b cap ad w hb).mono ?_
    rintro e w' ⟨rfl, rfl⟩
    subst hcs
    exact ⟨_, K, _, rfl, ⟨⟨rfl, f1, f2, fun h => absurd rfl h, rfl⟩, rfl⟩, Hp.le_refl K, hs⟩
  · obtain rfl : l = l0 ++ [x] := by simpa using hl
    obtain rfl : r = (x, true, l0) := by
      have := (Option.some.inj hr).symm
      simpa using this
    simp only [List.length_append, List.length_cons, List.length_nil, Nat.zero_add] at f1 f3 hb hs
    obtain ⟨g, rfl⟩ := f3 (by omega)
    have hs1 : Sep E K ((fun h => ∃ cur : Array Value, h = one g (.cells cur 9 (0, 0)) ∧ cur.size = cap ∧ cur.toList.take (l0.length + 1) = cs) :: Cl b 50 [.slice (some ⟨g, 0, none⟩) (l0.length + 1) cap] :: F) w := hs.swap.mono (fun h k => by
      obtain ⟨h1, h2⟩ := k
      rcases h2 with ⟨h2, _⟩ | ⟨g', cap', cur, h2, h3, _, _, h4, h5⟩
      · cases h2
      · cases h2
        rw [Nat.mul_one] at h4 h5
        exact ⟨cur, h3, h4, h5⟩)
    obtain ⟨h0, ⟨cur, rfl, hsz, htk⟩, hd, hs1⟩ := hs1
    have hs2 : Sep E K ((fun h => h = one g (.cells cur 9 (0, 0))) :: Cl b 50 [.slice (some ⟨g, 0, none⟩) (l0.length + 1) cap] :: F) w := ⟨_, rfl, hd, hs1⟩
    have hg := hs2.obj
    have hne : b ≠ g := by rintro rfl; rw [hb] at hg; cases hg
    have hx : cur[l0.length]? = some (.string ⟨List.toArray (α := UInt8) x⟩) := by
      have : (cur.toList.take (l0.length + 1))[l0.length]? = some (.string ⟨List.toArray (α := UInt8) x⟩) := by rw [htk, hcs]; simp
      rw [List.getElem?_take, if_pos (by omega)] at this
      rwa [← Array.getElem?_toList]
    refine (pop_str_old b g l0.length cap x w hb hg hne f1 f2 hx).mono ?_
    rintro e w' ⟨rfl, hO⟩
    have f4 : l0.length ≤ cap := by omega
    refine ⟨_, K, _, rfl, ⟨⟨rfl, f4, f2, fun _ => ⟨g, rfl⟩, rfl⟩, rfl⟩, Hp.le_refl K, ?_⟩
    dsimp only
    refine (Sep.onl3 (cs' := [.slice (some ⟨g, 0, none⟩) l0.length cap]) hs2.swap hO).swap.mono (fun h k => ?_) |>.swap
    refine ⟨by simp, .inr ⟨g, cap, _, rfl, k, f4, f2, by rw [Array.size_setIfInBounds, hsz, Nat.mul_one], ?_⟩⟩
    rw [Nat.mul_one, Array.toList_setIfInBounds, List.take_set_of_le (Nat.le_refl _)]
    have : (cur.toList.take (l0.length + 1)).take l0.length = l0.map (fun x => .string ⟨List.toArray (α := UInt8) x⟩) := by rw [htk, hcs]; simp
    rw [List.take_take, Nat.min_eq_left (by omega)] at this
    exact this
noncomputable def sp_pop_str : Spec := ⟨27, ⟨[(0, .ptr 0 0)], [⟨none, 50, [.own 9 (.str)], false, false, none, false⟩]⟩, [⟨[(0, .tup [.dat (.str), .dat .bool])], [⟨some 0, 50, [.own 9 (.str)], false, false, none, false⟩]⟩], fun x => popF_str x⟩
theorem pop_str_is [BldA] : SpecOk Try.prog sp_pop_str := by
  intro x r hr vv u hu m K args hgk hm hH hsl E w F hs
  have hu' : sp_pop_str.inn.un (TL.list _ x) 0 = some ([(0, .ptr 0 0)], ⟨[], 4, [.blk 0 3 50 [.own 1], .row 1 2 9 (.str) x (List.length (α := List UInt8) x)], [1]⟩) := rfl
  rw [hu'] at hu
  cases hu
  replace hm : m.length = 4 := hm
  obtain ⟨v1, u1, rfl, ⟨b, e1, rfl⟩, rfl⟩ := hsl
  obtain ⟨b', vs, g0, g3, v0, r0, rfl, ⟨h1, h1o⟩, rfl⟩ := hH (.blk 0 3 50 [.own 1]) (by simp)
  rw [g0] at e1; cases e1
  obtain ⟨ad, cap, cs, g1, g2, hE, _, q2, q3, q4⟩ := hH (.row 1 2 9 (.str) x (List.length (α := List UInt8) x)) (by simp)
  rw [g1] at h1; cases h1
  have hs' : Sep E K (HA.conc m (.blk 0 3 50 [.own 1]) :: HA.conc m (.row 1 2 9 (.str) x (List.length (α := List UInt8) x)) :: F) w := hs
  simp only [HA.conc, g0, g1, g2, g3] at hs'
  refine (pop_str_tr x (els_str_eq hE) (show popF_str x = some r from hr) E w F hs').mono ?_
  rintro e w' ⟨v, K', L', rfl, ⟨⟨rfl, p1, p2, p3, rfl⟩, rfl⟩, hle, hs2⟩
  obtain ⟨r1, r2, r3⟩ := r
  let ms : List M := [M.val (.slice ad (List.length (α := List UInt8) r3) cap), M.cont (.str) r3 (r3.map (fun x => .string ⟨List.toArray (α := UInt8) x⟩)), M.cells [.slice ad (List.length (α := List UInt8) r3) cap]]
  have f0 : (m ++ ms)[0]? = some (.val (.pointer (some ⟨b, 0, none⟩))) := by rw [List.getElem?_append_left (by omega)]; exact g0
  have f4 : (m ++ ms)[4]? = some (.val (.slice ad (List.length (α := List UInt8) r3) cap)) := by rw [List.getElem?_append_right (by omega), hm]; rfl
  have f5 : (m ++ ms)[5]? = some (.cont (.str) r3 (r3.map (fun x => .string ⟨List.toArray (α := UInt8) x⟩))) := by rw [List.getElem?_append_right (by omega), hm]; rfl
  have f6 : (m ++ ms)[6]? = some (.cells [.slice ad (List.length (α := List UInt8) r3) cap]) := by rw [List.getElem?_append_right (by omega), hm]; rfl
  refine ⟨_, K, _, rfl, ⟨[(0, .tup [(fun x : List UInt8 => (.str x : SV)) r1, .bool r2])], ⟨[], 7, [.blk 0 6 50 [.own 4], .row 4 5 9 (.str) r3 (List.length (α := List UInt8) r3)], [4]⟩, m ++ ms, rfl, List.prefix_append _ _, by simp [hm, ms], ?_, ⟨_, rfl, _, _, rfl, rfl, _, _, rfl, rfl, rfl⟩, rfl⟩, hle, ?_⟩
  · intro a ha
    simp only [List.mem_cons, List.mem_nil_iff, or_false] at ha
    rcases ha with rfl | rfl
    · exact ⟨b, _, f0, f6, _, _, rfl, ⟨f4, rfl⟩, rfl⟩
    · exact ⟨ad, cap, _, f4, f5, els_str_mk K r3, rfl, p1, p2, p3⟩
  · show Sep E K (HA.conc _ (.blk 0 6 50 [.own 4]) :: HA.conc _ (.row 4 5 9 (.str) r3 (List.length (α := List UInt8) r3)) :: F) w'
    simp only [HA.conc, f0, f4, f5, f6]
    exact hs2
/-- Of no stack at all. -/
def popN_str : Option (List UInt8 × Bool) := some (([] : List UInt8), false)
theorem popN_str_walk (w : World) : Calls Try.prog 27 #[.pointer none] w fun e w' => e = .returned (.tuple #[.string ⟨#[]⟩, .bool false]) ∧ w' = w := by
  go_enter Try.func27, Try.ntmps27
  go_wp2
  first | (go_ret2; exact ⟨rfl, rfl⟩) | (go_ret; exact ⟨rfl, rfl⟩)
noncomputable def sp_popN_str : Spec := ⟨27, ⟨[(0, .nilp)], []⟩, [⟨[(0, .tup [.dat (.str), .dat .bool])], []⟩], fun _ => popN_str⟩
theorem popN_str_is [BldA] : SpecOk Try.prog sp_popN_str := by
  intro x r hr vv u hu m K args hgk hm hH hsl E w F hs
  have hu' : sp_popN_str.inn.un (TL.list _ x) 0 = some ([(0, .nilp)], ⟨[], 0, [], []⟩) := rfl
  rw [hu'] at hu
  cases hu
  obtain ⟨v1, u1, rfl, rfl, rfl⟩ := hsl
  obtain rfl : r = (([] : List UInt8), false) := (Option.some.inj hr).symm
  refine (popN_str_walk w).mono ?_
  rintro e w' ⟨rfl, rfl⟩
  exact ⟨_, K, _, rfl, ⟨[(0, .tup [(fun x : List UInt8 => (.str x : SV)) ([] : List UInt8), .bool false])], ⟨[], 0, [], []⟩, m, rfl, List.prefix_rfl, hm, fun a h => (by cases h), ⟨_, rfl, _, _, rfl, rfl, _, _, rfl, rfl, rfl⟩, rfl⟩, Hp.le_refl K, hs⟩
noncomputable def ok_popN_str [BldA] : OkSpec Try.prog := ⟨sp_popN_str, popN_str_is, Try.call27⟩
noncomputable def ok_pop_str [BldA] : OkSpec Try.prog := ⟨sp_pop_str, pop_str_is, Try.call27⟩
end Go.Proofs.Ytgdjfpmjbjkmhaa
namespace Go.Proofs.Ytgdjfpmjbjkmhaa
open Go.RowKit
set_option linter.unusedVariables false
set_option maxRecDepth 100000
set_option maxHeartbeats 4000000
instance nob : BldA := ⟨1000000000, fun b _ => Cl b 1000000000 [.pointer none, .slice none 0 0], fun h => h, fun _ => True, fun _ _ => trivial⟩

noncomputable def fn_stack_Queue_string_grow_p0_riiod (qa0 : (List (List UInt8))) (qa1 : Int) (qa2 : Int) (qa3 : (Option (List ((List UInt8) × Int)))) : Option (((List (List UInt8)) × (Option (List ((List UInt8) × Int))))) :=
  (mk (IntKind.wrap .i64 ((IntKind.wrap .i64 (2 * (((qa0.length : Nat) : Int)))) + 1)) (IntKind.wrap .i64 ((IntKind.wrap .i64 (2 * (((qa0.length : Nat) : Int)))) + 1)) ([] : List UInt8) : Option (List (List UInt8))).bind fun z31 => (subL qa0 qa1 (((qa0.length : Nat) : Int))).bind fun _ => (some (cpy z31 ((0 : Int).toNat) ((List.drop (qa1 : Int).toNat (List.take (((qa0.length : Nat) : Int) : Int).toNat qa0)).take (z31.length - (0 : Int).toNat)))).bind fun z38 => (subL z38 (((min (List.drop (qa1 : Int).toNat (List.take (((qa0.length : Nat) : Int) : Int).toNat qa0)).length (z31.length - (0 : Int).toNat) : Nat) : Int)) (((z31.length : Nat) : Int))).bind fun _ => (subL qa0 0 qa1).bind fun _ => (some (cpy z38 ((((min (List.drop (qa1 : Int).toNat (List.take (((qa0.length : Nat) : Int) : Int).toNat qa0)).length (z31.length - (0 : Int).toNat) : Nat) : Int) : Int).toNat) ((List.drop (0 : Int).toNat (List.take (qa1 : Int).toNat qa0)).take (((((z31.length : Nat) : Int) : Int).toNat) - (((min (List.drop (qa1 : Int).toNat (List.take (((qa0.length : Nat) : Int) : Int).toNat qa0)).length (z31.length - (0 : Int).toNat) : Nat) : Int) : Int).toNat)))).bind fun z42 => some ((z42, qa3))
noncomputable def h_stack_Queue_string_grow_p0_riiod : Hn Try.prog := .mix [] [0, 1, 2, 3, 4, 5, 6, 7, 8, 9] [10, 11] [] (.mix [] [0, 1, 2, 3, 4, 5, 6, 7, 8, 9, 10, 11] [12] [] (.nil))
noncomputable def sp_stack_Queue_string_grow_p0_riiod : Spec := ⟨37, ⟨[(0, .ptr 0 0)], [⟨none, 63, [.own 9 .str, .dat (.int .i64), .is 1 (.dat (.int .i64)), .od (.obj 0 (.sl (.cons .str (.one (.int .i64)))))], false, false, none, false⟩, ⟨none, 0, [], false, true, none, false⟩]⟩, [⟨[], [⟨(some 0), 63, [.own 9 .str, .lit (.int .i64 0), .is 1 (.any), .od (.obj 0 (.sl (.cons .str (.one (.int .i64)))))], false, false, none, false⟩, ⟨(some 1), 0, [], false, true, none, false⟩]⟩], fun x => fn_stack_Queue_string_grow_p0_riiod x.1 x.2.1 x.2.2.1 x.2.2.2⟩
theorem stack_Queue_string_grow_p0_riiod_is : SpecOk Try.prog sp_stack_Queue_string_grow_p0_riiod := fn_is Try.func37 h_stack_Queue_string_grow_p0_riiod (by kernel_rfl) (by kernel_rfl)
noncomputable def ok_stack_Queue_string_grow_p0_riiod : OkSpec Try.prog := ⟨sp_stack_Queue_string_grow_p0_riiod, stack_Queue_string_grow_p0_riiod_is, Try.call37⟩
noncomputable def fn_stack_Queue_string_Push_p0k_riiod_l1 (xb : (List (List UInt8))) : (Int × (List (List UInt8)) × Int × Int × (Option (List ((List UInt8) × Int)))) → Option ((Int × (List (List UInt8)) × Int × Int × (Option (List ((List UInt8) × Int)))) ⊕ ((List (List UInt8)) × Int × Int × (Option (List ((List UInt8) × Int))))) := fun ((i1491, l1492, i1497, i1498, l1499) : (Int × (List (List UInt8)) × Int × Int × (Option (List ((List UInt8) × Int))))) => cond (decide (i1491 < (((xb.length : Nat) : Int)))) ((getI xb i1491).bind fun x1658 => (cond (decide (i1498 = (((l1492.length : Nat) : Int)))) ((fn_stack_Queue_string_grow_p0_riiod l1492 i1497 i1498 l1499).bind fun (l1718, l1719) => some ((l1718, 0, l1719))) (some ((l1492, i1497, l1499))) : Option (((List (List UInt8)) × Int × (Option (List ((List UInt8) × Int)))))).bind fun (l1694, i1699, l1700) => (nz (((l1694.length : Nat) : Int))).bind fun u1770 => (getI l1694 (Int.tmod (IntKind.wrap .i64 (i1699 + i1498)) (((l1694.length : Nat) : Int)))).bind fun x1772 => (some (l1694.set (Int.tmod (IntKind.wrap .i64 (i1699 + i1498)) (((l1694.length : Nat) : Int))).toNat x1658)).bind fun z1779 => some (.inl ((IntKind.wrap .i64 (i1491 + 1), z1779, i1699, IntKind.wrap .i64 (i1498 + 1), l1700)))) (some (.inr (((l1492, i1497, i1498, l1499)))))
noncomputable def fn_stack_Queue_string_Push_p0k_riiod (xb : (List (List UInt8))) (qa0 : (List (List UInt8))) (qa1 : Int) (qa2 : Int) (qa3 : (Option (List ((List UInt8) × Int)))) : Option (((List (List UInt8)) × Int × Int × (Option (List ((List UInt8) × Int))))) :=
  (loop (fn_stack_Queue_string_Push_p0k_riiod_l1 xb) (0, qa0, qa1, qa2, qa3) : Option (((List (List UInt8)) × Int × Int × (Option (List ((List UInt8) × Int)))))).bind fun (l1336, i1341, i1342, l1343) => some ((l1336, i1341, i1342, l1343))
noncomputable def h_stack_Queue_string_Push_p0k_riiod : Hn Try.prog := .jn [] ⟨[], [⟨(some 0), 63, [.own 9 .str, .dat (.int .i64), .dat (.int .i64), .od (.obj 0 (.sl (.cons .str (.one (.int .i64)))))], false, false, none, false⟩]⟩ [1, 0, 3] (.lp ⟨[(10, .dat (.int .i64))], [⟨(some 0), 63, [.own 9 .str, .dat (.int .i64), .dat (.int .i64), .od (.obj 0 (.sl (.cons .str (.one (.int .i64)))))], false, false, none, false⟩]⟩ (.tw 11 (.pl (.pl (.sq [(0, 2)] ⟨[], [⟨(some 0), 63, [.own 9 .str, .dat (.int .i64), .is 1 (.any), .od (.obj 0 (.sl (.cons .str (.one (.int .i64)))))], false, false, none, false⟩, ⟨(some 11), 0, [], false, true, none, false⟩]⟩ [0, 6, 8] (.mix [] [0, 1, 2, 3, 4, 5, 6, 7, 8, 9] [] [] (.tw 23 (.cl ok_stack_Queue_string_grow_p0_riiod [] (.nil)) (.nil))) (.mix [] [0, 1, 2, 3, 4, 5, 6, 7, 8, 9, 10, 11, 12, 13, 14, 15, 16, 17, 18, 19, 20] [21] [] (.nil))))) (.nil))) (.nil)
noncomputable def sp_stack_Queue_string_Push_p0k_riiod : Spec := ⟨25, ⟨[(0, .ptr 0 0), (1, .dat (.sl .str))], [⟨none, 63, [.own 9 .str, .dat (.int .i64), .dat (.int .i64), .od (.obj 0 (.sl (.cons .str (.one (.int .i64)))))], false, false, none, false⟩]⟩, [⟨[], [⟨(some 0), 63, [.own 9 .str, .dat (.int .i64), .dat (.int .i64), .od (.obj 0 (.sl (.cons .str (.one (.int .i64)))))], false, false, none, false⟩]⟩], fun x => fn_stack_Queue_string_Push_p0k_riiod x.1 x.2.1 x.2.2.1 x.2.2.2.1 x.2.2.2.2⟩
theorem stack_Queue_string_Push_p0k_riiod_is : SpecOk Try.prog sp_stack_Queue_string_Push_p0k_riiod := fn_is Try.func25 h_stack_Queue_string_Push_p0k_riiod (by kernel_rfl) (by kernel_rfl)
noncomputable def ok_stack_Queue_string_Push_p0k_riiod : OkSpec Try.prog := ⟨sp_stack_Queue_string_Push_p0k_riiod, stack_Queue_string_Push_p0k_riiod_is, Try.call25⟩

noncomputable def fn_stack_Work_string_Push_p0s_riiod (xb : (List UInt8)) (qa0 : (List (List UInt8))) (qa1 : Int) (qa2 : Int) (qa3 : (Option (List ((List UInt8) × Int)))) : Option ((Bool × (List (List UInt8)) × Int × Int × (Option (List ((List UInt8) × Int))))) :=
  (markF_str xb qa0 qa1 qa2 qa3).bind fun r69 => cond (!r69.1) (some ((false, r69.2.1, r69.2.2.1, r69.2.2.2.1, r69.2.2.2.2))) ((fn_stack_Queue_string_Push_p0k_riiod (([xb] : List (List UInt8))) r69.2.1 r69.2.2.1 r69.2.2.2.1 r69.2.2.2.2).bind fun (l104, i105, i106, l107) => some ((true, l104, i105, i106, l107)))
noncomputable def h_stack_Work_string_Push_p0s_riiod : Hn Try.prog := .cl ok_mark_str [] (.tw 12 (.nil) (.cl ok_stack_Queue_string_Push_p0k_riiod [16] (.nil)))
noncomputable def sp_stack_Work_string_Push_p0s_riiod : Spec := ⟨31, ⟨[(0, .ptr 0 0), (1, .dat .str)], [⟨none, 63, [.own 9 .str, .dat (.int .i64), .dat (.int .i64), .od (.obj 0 (.sl (.cons .str (.one (.int .i64)))))], false, false, none, false⟩]⟩, [⟨[(0, .dat .bool)], [⟨(some 0), 63, [.own 9 .str, .dat (.int .i64), .dat (.int .i64), .od (.obj 0 (.sl (.cons .str (.one (.int .i64)))))], false, false, none, false⟩]⟩], fun x => fn_stack_Work_string_Push_p0s_riiod x.1 x.2.1 x.2.2.1 x.2.2.2.1 x.2.2.2.2⟩
theorem stack_Work_string_Push_p0s_riiod_is : SpecOk Try.prog sp_stack_Work_string_Push_p0s_riiod := fn_is Try.func31 h_stack_Work_string_Push_p0s_riiod (by kernel_rfl) (by kernel_rfl)
noncomputable def ok_stack_Work_string_Push_p0s_riiod : OkSpec Try.prog := ⟨sp_stack_Work_string_Push_p0s_riiod, stack_Work_string_Push_p0s_riiod_is, Try.call31⟩

noncomputable def fn_stack_Queue_string_Len_p0_riiod (qa0 : (List (List UInt8))) (qa1 : Int) (qa2 : Int) (qa3 : (Option (List ((List UInt8) × Int)))) : Option ((Int × (List (List UInt8)) × (Option (List ((List UInt8) × Int))))) :=
  some ((qa2, qa0, qa3))
noncomputable def h_stack_Queue_string_Len_p0_riiod : Hn Try.prog := .nil
noncomputable def sp_stack_Queue_string_Len_p0_riiod : Spec := ⟨30, ⟨[(0, .ptr 0 0)], [⟨none, 63, [.own 9 .str, .is 1 (.dat (.int .i64)), .is 2 (.dat (.int .i64)), .od (.obj 0 (.sl (.cons .str (.one (.int .i64)))))], false, false, none, false⟩, ⟨none, 0, [], false, true, none, false⟩, ⟨none, 0, [], false, true, none, false⟩]⟩, [⟨[(0, .dat (.int .i64))], [⟨(some 0), 63, [.own 9 .str, .is 1 (.any), .is 2 (.any), .od (.obj 0 (.sl (.cons .str (.one (.int .i64)))))], false, false, none, false⟩, ⟨(some 1), 0, [], false, true, none, false⟩, ⟨(some 2), 0, [], false, true, none, false⟩]⟩], fun x => fn_stack_Queue_string_Len_p0_riiod x.1 x.2.1 x.2.2.1 x.2.2.2⟩
theorem stack_Queue_string_Len_p0_riiod_is : SpecOk Try.prog sp_stack_Queue_string_Len_p0_riiod := fn_is Try.func30 h_stack_Queue_string_Len_p0_riiod (by kernel_rfl) (by kernel_rfl)
noncomputable def ok_stack_Queue_string_Len_p0_riiod : OkSpec Try.prog := ⟨sp_stack_Queue_string_Len_p0_riiod, stack_Queue_string_Len_p0_riiod_is, Try.call30⟩

noncomputable def fn_stack_Queue_string_Pop_p0_riiod (qa0 : (List (List UInt8))) (qa1 : Int) (qa2 : Int) (qa3 : (Option (List ((List UInt8) × Int)))) : Option ((List UInt8 × Bool × (List (List UInt8)) × Int × Int × (Option (List ((List UInt8) × Int))))) :=
  (fn_stack_Queue_string_Len_p0_riiod qa0 qa1 qa2 qa3).bind fun (i147, l148, l149) => cond (decide (i147 = 0)) (some ((([] : List UInt8), false, l148, qa1, qa2, l149))) ((getI l148 qa1).bind fun x188 => (getI l148 qa1).bind fun x228 => (some (l148.set qa1.toNat ([] : List UInt8))).bind fun z235 => (nz (((l148.length : Nat) : Int))).bind fun u248 => some ((x188, true, z235, Int.tmod (IntKind.wrap .i64 (qa1 + 1)) (((l148.length : Nat) : Int)), IntKind.wrap .i64 (qa2 - 1), l149)))
noncomputable def h_stack_Queue_string_Pop_p0_riiod : Hn Try.prog := .mc 0 1 5 (.mc 0 2 5 (.cl ok_stack_Queue_string_Len_p0_riiod [] (.tw 8 (.nil) (.mix [] [0, 1, 2, 3, 4, 5, 6, 7, 8, 9, 10] [] [] (.mix [] [0, 1, 2, 3, 4, 5, 6, 7, 8, 9] [10] [] (.mix [] [0, 1, 2, 3, 4, 5, 6, 7, 8, 9, 10, 11, 12, 13] [14] [] (.nil)))))))
noncomputable def sp_stack_Queue_string_Pop_p0_riiod : Spec := ⟨28, ⟨[(0, .ptr 0 0)], [⟨none, 63, [.own 9 .str, .dat (.int .i64), .dat (.int .i64), .od (.obj 0 (.sl (.cons .str (.one (.int .i64)))))], false, false, none, false⟩]⟩, [⟨[(0, .tup [.dat .str, .dat .bool])], [⟨(some 0), 63, [.own 9 .str, .dat (.int .i64), .dat (.int .i64), .od (.obj 0 (.sl (.cons .str (.one (.int .i64)))))], false, false, none, false⟩]⟩], fun x => fn_stack_Queue_string_Pop_p0_riiod x.1 x.2.1 x.2.2.1 x.2.2.2⟩
theorem stack_Queue_string_Pop_p0_riiod_is : SpecOk Try.prog sp_stack_Queue_string_Pop_p0_riiod := fn_is Try.func28 h_stack_Queue_string_Pop_p0_riiod (by kernel_rfl) (by kernel_rfl)
noncomputable def ok_stack_Queue_string_Pop_p0_riiod : OkSpec Try.prog := ⟨sp_stack_Queue_string_Pop_p0_riiod, stack_Queue_string_Pop_p0_riiod_is, Try.call28⟩

noncomputable def fn_stack_Work_string_Pop_p0_riiod (qa0 : (List (List UInt8))) (qa1 : Int) (qa2 : Int) (qa3 : (Option (List ((List UInt8) × Int)))) : Option ((List UInt8 × Bool × (List (List UInt8)) × Int × Int × (Option (List ((List UInt8) × Int))))) :=
  (fn_stack_Queue_string_Pop_p0_riiod qa0 qa1 qa2 qa3).bind fun (s76, t77, l78, i79, i80, l81) => cond (t77) ((unmarkF_str s76 l78 i79 i80 l81).bind fun r97 => some ((s76, t77, r97.1, r97.2.1, r97.2.2.1, r97.2.2.2))) (some ((s76, t77, l78, i79, i80, l81)))
noncomputable def h_stack_Work_string_Pop_p0_riiod : Hn Try.prog := .cl ok_stack_Queue_string_Pop_p0_riiod [] (.tw 17 (.cl ok_unmark_str [] (.nil)) (.nil))
noncomputable def sp_stack_Work_string_Pop_p0_riiod : Spec := ⟨32, ⟨[(0, .ptr 0 0)], [⟨none, 63, [.own 9 .str, .dat (.int .i64), .dat (.int .i64), .od (.obj 0 (.sl (.cons .str (.one (.int .i64)))))], false, false, none, false⟩]⟩, [⟨[(0, .tup [.dat .str, .dat .bool])], [⟨(some 0), 63, [.own 9 .str, .dat (.int .i64), .dat (.int .i64), .od (.obj 0 (.sl (.cons .str (.one (.int .i64)))))], false, false, none, false⟩]⟩], fun x => fn_stack_Work_string_Pop_p0_riiod x.1 x.2.1 x.2.2.1 x.2.2.2⟩
theorem stack_Work_string_Pop_p0_riiod_is : SpecOk Try.prog sp_stack_Work_string_Pop_p0_riiod := fn_is Try.func32 h_stack_Work_string_Pop_p0_riiod (by kernel_rfl) (by kernel_rfl)
noncomputable def ok_stack_Work_string_Pop_p0_riiod : OkSpec Try.prog := ⟨sp_stack_Work_string_Pop_p0_riiod, stack_Work_string_Pop_p0_riiod_is, Try.call32⟩

noncomputable def fn_stack_Work_string_Len_p0_riiod (qa0 : (List (List UInt8))) (qa1 : Int) (qa2 : Int) (qa3 : (Option (List ((List UInt8) × Int)))) : Option ((Int × (List (List UInt8)) × (Option (List ((List UInt8) × Int))))) :=
  (fn_stack_Queue_string_Len_p0_riiod qa0 qa1 qa2 qa3).bind fun (i53, l54, l55) => some ((i53, l54, l55))
noncomputable def h_stack_Work_string_Len_p0_riiod : Hn Try.prog := .cl ok_stack_Queue_string_Len_p0_riiod [] (.nil)
noncomputable def sp_stack_Work_string_Len_p0_riiod : Spec := ⟨33, ⟨[(0, .ptr 0 0)], [⟨none, 63, [.own 9 .str, .is 1 (.dat (.int .i64)), .is 2 (.dat (.int .i64)), .od (.obj 0 (.sl (.cons .str (.one (.int .i64)))))], false, false, none, false⟩, ⟨none, 0, [], false, true, none, false⟩, ⟨none, 0, [], false, true, none, false⟩]⟩, [⟨[(0, .dat (.int .i64))], [⟨(some 0), 63, [.own 9 .str, .is 1 (.any), .is 2 (.any), .od (.obj 0 (.sl (.cons .str (.one (.int .i64)))))], false, false, none, false⟩, ⟨(some 1), 0, [], false, true, none, false⟩, ⟨(some 2), 0, [], false, true, none, false⟩]⟩], fun x => fn_stack_Work_string_Len_p0_riiod x.1 x.2.1 x.2.2.1 x.2.2.2⟩
theorem stack_Work_string_Len_p0_riiod_is : SpecOk Try.prog sp_stack_Work_string_Len_p0_riiod := fn_is Try.func33 h_stack_Work_string_Len_p0_riiod (by kernel_rfl) (by kernel_rfl)
noncomputable def ok_stack_Work_string_Len_p0_riiod : OkSpec Try.prog := ⟨sp_stack_Work_string_Len_p0_riiod, stack_Work_string_Len_p0_riiod_is, Try.call33⟩

noncomputable def fn_law07_awake  : Option Bool :=
  (fn_stack_Work_string_Push_p0s_riiod ([97] : List UInt8) (([] : (List (List UInt8)))) 0 0 none).bind fun (t238, l239, i240, i241, l242) => (fn_stack_Work_string_Push_p0s_riiod ([98] : List UInt8) l239 i240 i241 l242).bind fun (t254, l255, i256, i257, l258) => (fn_stack_Work_string_Push_p0s_riiod ([97] : List UInt8) l255 i256 i257 l258).bind fun (t270, l271, i272, i273, l274) => (fn_stack_Work_string_Pop_p0_riiod l271 i272 i273 l274).bind fun (s303, t304, l305, i306, i307, l308) => cond ((((t238 && t254) && (!t270)) && (decide (s303 = ([97] : List UInt8)))) && t304) ((fn_stack_Work_string_Push_p0s_riiod ([97] : List UInt8) l305 i306 i307 l308).bind fun (t418, l419, i420, i421, l422) => cond (t418) ((fn_stack_Work_string_Len_p0_riiod l419 i420 i421 l422).bind fun (i450, l451, l452) => some (decide (i450 = 2))) (some (false))) (some (false))
noncomputable def h_law07_awake : Hn Try.prog := .cl ok_stack_Work_string_Push_p0s_riiod [] (.cl ok_stack_Work_string_Push_p0s_riiod [] (.cl ok_stack_Work_string_Push_p0s_riiod [] (.cl ok_stack_Work_string_Pop_p0_riiod [] (.gp 1 (.wt 18 (.gp 2 (.wt 22 (.gp 2 (.wt 26 (.gp 1 (.two 29 (.cl ok_stack_Work_string_Push_p0s_riiod [] (.two 32 (.mc 0 1 51 (.mc 0 2 51 (.cl ok_stack_Work_string_Len_p0_riiod [] (.nil)))) (.nil))) (.nil))))))))))))
noncomputable def sp_law07_awake : Spec := ⟨6, ⟨[], []⟩, [⟨[(0, .dat .bool)], []⟩], fun x => fn_law07_awake⟩
theorem law07_awake_is : SpecOk Try.prog sp_law07_awake := fn_is Try.func6 h_law07_awake (by kernel_rfl) (by kernel_rfl)
noncomputable def ok_law07_awake : OkSpec Try.prog := ⟨sp_law07_awake, law07_awake_is, Try.call6⟩

noncomputable def fn_stack_Stack_int_Push_p0k_r (xb : (List Int)) (qa0 : (List Int)) : Option (List Int) :=
  (app qa0 xb).bind fun z12 => some (z12)
noncomputable def h_stack_Stack_int_Push_p0k_r : Hn Try.prog := .nil
noncomputable def sp_stack_Stack_int_Push_p0k_r : Spec := ⟨7, ⟨[(0, .ptr 0 0), (1, .dat (.sl (.int .i64)))], [⟨none, 26, [.own 3 (.int .i64)], false, false, none, false⟩]⟩, [⟨[], [⟨(some 0), 26, [.own 3 (.int .i64)], false, false, none, false⟩]⟩], fun x => fn_stack_Stack_int_Push_p0k_r x.1 x.2⟩
theorem stack_Stack_int_Push_p0k_r_is : SpecOk Try.prog sp_stack_Stack_int_Push_p0k_r := fn_is Try.func7 h_stack_Stack_int_Push_p0k_r (by kernel_rfl) (by kernel_rfl)
noncomputable def ok_stack_Stack_int_Push_p0k_r : OkSpec Try.prog := ⟨sp_stack_Stack_int_Push_p0k_r, stack_Stack_int_Push_p0k_r_is, Try.call7⟩

noncomputable def fn_ref07_Put (xa : (List Int)) (xb : Int) : Option (List Int) :=
  (app ([] : List Int) xa).bind fun z27 => (app z27 ([xb] : List Int)).bind fun z36 => some (z36)
noncomputable def h_ref07_Put : Hn Try.prog := .nil
noncomputable def sp_ref07_Put : Spec := ⟨8, ⟨[(0, .dat (.sl (.int .i64))), (1, .dat (.int .i64))], []⟩, [⟨[(0, .own 3 (.int .i64))], []⟩], fun x => fn_ref07_Put x.1 x.2⟩
theorem ref07_Put_is : SpecOk Try.prog sp_ref07_Put := fn_is Try.func8 h_ref07_Put (by kernel_rfl) (by kernel_rfl)
noncomputable def ok_ref07_Put : OkSpec Try.prog := ⟨sp_ref07_Put, ref07_Put_is, Try.call8⟩

noncomputable def fn_ref07_Last (xa : (List Int)) : Option (((List Int) × Int × Bool)) :=
  cond (decide ((((xa.length : Nat) : Int)) = 0)) (some ((xa, 0, false))) ((subL xa 0 (IntKind.wrap .i64 ((((xa.length : Nat) : Int)) - 1))).bind fun y114 => (getI xa (IntKind.wrap .i64 ((((xa.length : Nat) : Int)) - 1))).bind fun x120 => some ((y114, x120, true)))
noncomputable def h_ref07_Last : Hn Try.prog := .tw 7 (.nil) (.mix [] [0, 1, 2, 3, 4, 5, 6, 7, 8, 9, 10, 11, 12, 13] [] [] (.nil))
noncomputable def sp_ref07_Last : Spec := ⟨9, ⟨[(0, .dat (.sl (.int .i64)))], []⟩, [⟨[(0, .tup [.dat (.sl (.int .i64)), .dat (.int .i64), .dat .bool])], []⟩], fun x => fn_ref07_Last x⟩
theorem ref07_Last_is : SpecOk Try.prog sp_ref07_Last := fn_is Try.func9 h_ref07_Last (by kernel_rfl) (by kernel_rfl)
noncomputable def ok_ref07_Last : OkSpec Try.prog := ⟨sp_ref07_Last, ref07_Last_is, Try.call9⟩
noncomputable def fn_ref07_Cut_l1 (xb : Int) : ((List Int) × (List Int)) → Option (((List Int) × (List Int)) ⊕ ((List Int) × (List Int))) := fun ((l493, l497) : ((List Int) × (List Int))) => cond ((decide (0 < (((l493.length : Nat) : Int)))) && (decide (xb < (((l493.length : Nat) : Int))))) ((fn_ref07_Last l493).bind fun (l542, i543, t544) => (app l497 ([i543] : List Int)).bind fun z554 => some (.inl (l542, z554))) (some (.inr (((l493, l497)))))
noncomputable def fn_ref07_Cut (xa : (List Int)) (xb : Int) : Option (((List Int) × (List Int))) :=
  (loop (fn_ref07_Cut_l1 xb) ((xa, ([] : List Int))) : Option (((List Int) × (List Int)))).bind fun (l451, l455) => some ((l451, l455))
noncomputable def h_ref07_Cut : Hn Try.prog := .jn [] ⟨[(0, .dat (.sl (.int .i64))), (6, .own 3 (.int .i64)), (10, .any)], []⟩ [0] (.lp ⟨[(0, .dat (.sl (.int .i64))), (6, .own 3 (.int .i64))], []⟩ (.gp 4 (.tw 19 (.cl ok_ref07_Last [] (.nil)) (.nil)))) (.nil)
noncomputable def sp_ref07_Cut : Spec := ⟨11, ⟨[(0, .dat (.sl (.int .i64))), (1, .dat (.int .i64))], []⟩, [⟨[(0, .tup [.dat (.sl (.int .i64)), .own 3 (.int .i64)])], []⟩], fun x => fn_ref07_Cut x.1 x.2⟩
theorem ref07_Cut_is : SpecOk Try.prog sp_ref07_Cut := fn_is Try.func11 h_ref07_Cut (by kernel_rfl) (by kernel_rfl)
noncomputable def ok_ref07_Cut : OkSpec Try.prog := ⟨sp_ref07_Cut, ref07_Cut_is, Try.call11⟩

noncomputable def fn_stack_Stack_int_Len (xa : (Option (List Int))) : Option Int :=
  cond (xa.isNone) (some (0)) ((xa : Option (List Int)).bind fun y14 => some (((y14.length : Nat) : Int)))
noncomputable def h_stack_Stack_int_Len : Hn Try.prog := .tw 4 (.nil) (.nil)
noncomputable def sp_stack_Stack_int_Len : Spec := ⟨15, ⟨[(0, .dat (.ptr (.one (.sl (.int .i64)))))], []⟩, [⟨[(0, .dat (.int .i64))], []⟩], fun x => fn_stack_Stack_int_Len x⟩
theorem stack_Stack_int_Len_is : SpecOk Try.prog sp_stack_Stack_int_Len := fn_is Try.func15 h_stack_Stack_int_Len (by kernel_rfl) (by kernel_rfl)
noncomputable def ok_stack_Stack_int_Len : OkSpec Try.prog := ⟨sp_stack_Stack_int_Len, stack_Stack_int_Len_is, Try.call15⟩
noncomputable def fn_stack_Stack_int_Cut_p0i_r_l1 (xb : Int) : ((List Int) × (List Int)) → Option (((List Int) × (List Int)) ⊕ ((List Int) × (List Int))) := fun ((l345, l350) : ((List Int) × (List Int))) => (fn_stack_Stack_int_Len (some l350)).bind fun i389 => cond (decide ((if xb < 0 then 0 else xb) < i389)) ((popF_int l350).bind fun r394 => (app l345 ([r394.1] : List Int)).bind fun z401 => some (.inl (z401, r394.2.2))) (some (.inr (((l345, l350)))))
noncomputable def fn_stack_Stack_int_Cut_p0i_r (xb : Int) (qa0 : (List Int)) : Option (((List Int) × (List Int))) :=
  (loop (fn_stack_Stack_int_Cut_p0i_r_l1 xb) ([], qa0) : Option (((List Int) × (List Int)))).bind fun (l303, l308) => some ((l303, l308))
noncomputable def h_stack_Stack_int_Cut_p0i_r : Hn Try.prog := .jn [] ⟨[(5, .own 3 (.int .i64))], [⟨(some 0), 26, [.own 3 (.int .i64)], false, false, none, false⟩]⟩ [1, 0] (.lp ⟨[(5, .own 3 (.int .i64))], [⟨(some 0), 26, [.own 3 (.int .i64)], false, false, none, false⟩]⟩ (.cl ok_stack_Stack_int_Len [6, 0] (.tw 12 (.cl ok_pop_int [] (.nil)) (.nil)))) (.nil)
noncomputable def sp_stack_Stack_int_Cut_p0i_r : Spec := ⟨13, ⟨[(0, .ptr 0 0), (1, .dat (.int .i64))], [⟨none, 26, [.own 3 (.int .i64)], false, false, none, false⟩]⟩, [⟨[(0, .own 3 (.int .i64))], [⟨(some 0), 26, [.own 3 (.int .i64)], false, false, none, false⟩]⟩], fun x => fn_stack_Stack_int_Cut_p0i_r x.1 x.2⟩
theorem stack_Stack_int_Cut_p0i_r_is : SpecOk Try.prog sp_stack_Stack_int_Cut_p0i_r := fn_is Try.func13 h_stack_Stack_int_Cut_p0i_r (by kernel_rfl) (by kernel_rfl)
noncomputable def ok_stack_Stack_int_Cut_p0i_r : OkSpec Try.prog := ⟨sp_stack_Stack_int_Cut_p0i_r, stack_Stack_int_Cut_p0i_r_is, Try.call13⟩
noncomputable def fn_ref01_Same_l1 (xa : (List Int)) (xb : (List Int)) : Int → Option (Int ⊕ (Unit ⊕ Bool)) := fun (i757 : Int) => cond (decide (i757 < (((xa.length : Nat) : Int)))) ((getI xa i757).bind fun x889 => (getI xb i757).bind fun x898 => cond (!decide (x889 = x898)) (some (.inr ((.inr (false))))) (some (.inl (IntKind.wrap .i64 (i757 + 1))))) (some (.inr ((.inl ()))))
noncomputable def fn_ref01_Same (xa : (List Int)) (xb : (List Int)) : Option Bool :=
  cond (!decide ((((xa.length : Nat) : Int)) = (((xb.length : Nat) : Int)))) (some (false)) ((loop (fn_ref01_Same_l1 xa xb) 0 : Option (Unit ⊕ Bool)).bind fun o => match o with | .inr r => some r | .inl () => some (true))
noncomputable def h_ref01_Same : Hn Try.prog := .tw 10 (.nil) (.jx [] ⟨[], []⟩ [] (.lp ⟨[(5, .dat (.int .i64))], []⟩ (.tw 14 (.mix [] [0, 1, 2, 3, 4, 5, 6, 7, 8] [] [] (.tw 25 (.nil) (.nil))) (.nil))) (.nil))
noncomputable def sp_ref01_Same : Spec := ⟨12, ⟨[(0, .dat (.sl (.int .i64))), (1, .dat (.sl (.int .i64)))], []⟩, [⟨[(0, .dat .bool)], []⟩], fun x => fn_ref01_Same x.1 x.2⟩
theorem ref01_Same_is : SpecOk Try.prog sp_ref01_Same := fn_is Try.func12 h_ref01_Same (by kernel_rfl) (by kernel_rfl)
noncomputable def ok_ref01_Same : OkSpec Try.prog := ⟨sp_ref01_Same, ref01_Same_is, Try.call12⟩

noncomputable def fn_stack_Stack_int_Top (xa : (Option (List Int))) : Option (Int × Bool) :=
  (fn_stack_Stack_int_Len xa).bind fun i112 => cond (decide (i112 = 0)) (some ((0, false))) ((xa : Option (List Int)).bind fun y192 => (fn_stack_Stack_int_Len xa).bind fun i204 => (getI y192 (IntKind.wrap .i64 (i204 - 1))).bind fun x208 => some ((x208, true)))
noncomputable def h_stack_Stack_int_Top : Hn Try.prog := .cl ok_stack_Stack_int_Len [] (.tw 7 (.nil) (.mix [([0, 1, 2, 3, 4], 5)] [6, 7, 8, 9, 10] [] [] (.cl ok_stack_Stack_int_Len [] (.nil))))
noncomputable def sp_stack_Stack_int_Top : Spec := ⟨14, ⟨[(0, .dat (.ptr (.one (.sl (.int .i64)))))], []⟩, [⟨[(0, .tup [.dat (.int .i64), .dat .bool])], []⟩], fun x => fn_stack_Stack_int_Top x⟩
theorem stack_Stack_int_Top_is : SpecOk Try.prog sp_stack_Stack_int_Top := fn_is Try.func14 h_stack_Stack_int_Top (by kernel_rfl) (by kernel_rfl)
noncomputable def ok_stack_Stack_int_Top : OkSpec Try.prog := ⟨sp_stack_Stack_int_Top, stack_Stack_int_Top_is, Try.call14⟩
noncomputable def fn_law07_StackPlays_l1 (xa : (List (Int × Int))) : ((List Int) × Int × (List Int)) → Option (((List Int) × Int × (List Int)) ⊕ (Unit ⊕ Bool)) := fun ((l3655, i3659, l3660) : ((List Int) × Int × (List Int))) => cond (decide (i3659 < (((xa.length : Nat) : Int)))) (((getI xa i3659).bind fun x4186 => cond (decide (x4186.1 = 0)) ((getI xa i3659).bind fun x4196 => (fn_stack_Stack_int_Push_p0k_r ([x4196.2, i3659] : List Int) l3660).bind fun l4213 => (getI xa i3659).bind fun x4222 => (fn_ref07_Put l3655 x4222.2).bind fun l4233 => (fn_ref07_Put l4233 i3659).bind fun l4246 => some (.inl (l4246, l4213))) (cond (decide (x4186.1 = 1)) ((fn_ref07_Last l3655).bind fun (l4260, i4261, t4262) => (popF_int l3660).bind fun r4269 => cond ((!decide (r4269.1 = i4261)) || (!(r4269.2.1 == t4262))) (some (.inr (.inr ((.inr (false)))))) (some (.inl (l4260, r4269.2.2)))) (cond (decide (x4186.1 = 2)) ((getI xa i3659).bind fun x4278 => (fn_ref07_Cut l3655 x4278.2).bind fun (l4289, l4290) => (getI xa i3659).bind fun x4301 => (fn_stack_Stack_int_Cut_p0i_r x4301.2 l3660).bind fun (l4312, l4313) => (fn_ref01_Same l4312 l4290).bind fun t4334 => cond (!t4334) (some (.inr (.inr ((.inr (false)))))) (some (.inl (l4289, l4313)))) (some (.inl (l3655, l3660))))) : Option (((List Int) × (List Int)) ⊕ (((List Int) × Int × (List Int)) ⊕ (Unit ⊕ Bool)))).bind fun o => match o with | .inr r => some r | .inl (l4177, l4181) => (fn_ref07_Last l4177).bind fun (l4342, i4343, t4344) => (fn_stack_Stack_int_Top (some l4181)).bind fun (i4353, t4354) => (fn_stack_Stack_int_Len (some l4181)).bind fun i4360 => cond (((!decide (i4360 = (((l4177.length : Nat) : Int)))) || (!decide (i4353 = i4343))) || (!(t4354 == t4344))) (some (.inr ((.inr (false))))) (some (.inl ((l4177, IntKind.wrap .i64 (i3659 + 1), l4181))))) (some (.inr ((.inl ()))))
noncomputable def fn_law07_StackPlays (xa : (List (Int × Int))) : Option Bool :=
  cond (decide (60 < (((xa.length : Nat) : Int)))) ((fn_law07_awake).bind fun t2193 => some (t2193)) ((loop (fn_law07_StackPlays_l1 xa) ([], 0, []) : Option (Unit ⊕ Bool)).bind fun o => match o with | .inr r => some r | .inl () => (fn_law07_awake).bind fun t4374 => some (t4374))
noncomputable def h_law07_StackPlays : Hn Try.prog := .tw 20 (.cl ok_law07_awake [] (.nil)) (.jx [] ⟨[], []⟩ [0] (.lp ⟨[(4, .dat (.sl (.int .i64))), (5, .dat (.int .i64))], [⟨(some 0), 26, [.own 3 (.int .i64)], false, false, none, false⟩]⟩ (.tw 25 (.pl (.sx [] ⟨[(4, .dat (.sl (.int .i64)))], [⟨(some 0), 26, [.own 3 (.int .i64)], false, false, none, false⟩]⟩ [0, 2] (.tw 33 (.cl ok_stack_Stack_int_Push_p0k_r [5] (.cl ok_ref07_Put [] (.per 13 14 (.cl ok_ref07_Put [] (.per 15 16 (.nil)))))) (.tw 52 (.cl ok_ref07_Last [] (.cl ok_pop_int [] (.gp 3 (.tw 72 (.nil) (.nil))))) (.tw 73 (.cl ok_ref07_Cut [] (.cl ok_stack_Stack_int_Cut_p0i_r [] (.cl ok_ref01_Same [10, 5] (.tw 94 (.nil) (.nil))))) (.nil)))) (.cl ok_ref07_Last [] (.cl ok_stack_Stack_int_Top [5, 0] (.cl ok_stack_Stack_int_Len [5, 0] (.gp 3 (.wt 114 (.gp 3 (.tw 118 (.nil) (.nil)))))))))) (.nil))) (.cl ok_law07_awake [] (.nil)))
noncomputable def sp_law07_StackPlays : Spec := ⟨3, ⟨[(0, .dat (.sl (.cons (.int .i64) (.one (.int .i64)))))], []⟩, [⟨[(0, .dat .bool)], []⟩], fun x => fn_law07_StackPlays x⟩
theorem law07_StackPlays_is : SpecOk Try.prog sp_law07_StackPlays := fn_is Try.func3 h_law07_StackPlays (by kernel_rfl) (by kernel_rfl)
noncomputable def ok_law07_StackPlays : OkSpec Try.prog := ⟨sp_law07_StackPlays, law07_StackPlays_is, Try.call3⟩

noncomputable def fn_stack_Queue_int_grow_p0_rii (qa0 : (List Int)) (qa1 : Int) (qa2 : Int) : Option (List Int) :=
  (mk (IntKind.wrap .i64 ((IntKind.wrap .i64 (2 * (((qa0.length : Nat) : Int)))) + 1)) (IntKind.wrap .i64 ((IntKind.wrap .i64 (2 * (((qa0.length : Nat) : Int)))) + 1)) 0 : Option (List Int)).bind fun z15 => (subL qa0 qa1 (((qa0.length : Nat) : Int))).bind fun _ => (some (cpy z15 ((0 : Int).toNat) ((List.drop (qa1 : Int).toNat (List.take (((qa0.length : Nat) : Int) : Int).toNat qa0)).take (z15.length - (0 : Int).toNat)))).bind fun z20 => (subL z20 (((min (List.drop (qa1 : Int).toNat (List.take (((qa0.length : Nat) : Int) : Int).toNat qa0)).length (z15.length - (0 : Int).toNat) : Nat) : Int)) (((z15.length : Nat) : Int))).bind fun _ => (subL qa0 0 qa1).bind fun _ => (some (cpy z20 ((((min (List.drop (qa1 : Int).toNat (List.take (((qa0.length : Nat) : Int) : Int).toNat qa0)).length (z15.length - (0 : Int).toNat) : Nat) : Int) : Int).toNat) ((List.drop (0 : Int).toNat (List.take (qa1 : Int).toNat qa0)).take (((((z15.length : Nat) : Int) : Int).toNat) - (((min (List.drop (qa1 : Int).toNat (List.take (((qa0.length : Nat) : Int) : Int).toNat qa0)).length (z15.length - (0 : Int).toNat) : Nat) : Int) : Int).toNat)))).bind fun z22 => some (z22)
noncomputable def h_stack_Queue_int_grow_p0_rii : Hn Try.prog := .mix [] [0, 1, 2, 3, 4, 5, 6, 7, 8, 9] [10, 11] [] (.mix [] [0, 1, 2, 3, 4, 5, 6, 7, 8, 9, 10, 11] [12] [] (.nil))
noncomputable def sp_stack_Queue_int_grow_p0_rii : Spec := ⟨34, ⟨[(0, .ptr 0 0)], [⟨none, 42, [.own 3 (.int .i64), .dat (.int .i64), .is 1 (.dat (.int .i64))], false, false, none, false⟩, ⟨none, 0, [], false, true, none, false⟩]⟩, [⟨[], [⟨(some 0), 42, [.own 3 (.int .i64), .lit (.int .i64 0), .is 1 (.any)], false, false, none, false⟩, ⟨(some 1), 0, [], false, true, none, false⟩]⟩], fun x => fn_stack_Queue_int_grow_p0_rii x.1 x.2.1 x.2.2⟩
theorem stack_Queue_int_grow_p0_rii_is : SpecOk Try.prog sp_stack_Queue_int_grow_p0_rii := fn_is Try.func34 h_stack_Queue_int_grow_p0_rii (by kernel_rfl) (by kernel_rfl)
noncomputable def ok_stack_Queue_int_grow_p0_rii : OkSpec Try.prog := ⟨sp_stack_Queue_int_grow_p0_rii, stack_Queue_int_grow_p0_rii_is, Try.call34⟩
noncomputable def fn_stack_Queue_int_Push_p0k_rii_l1 (xb : (List Int)) : (Int × (List Int) × Int × Int) → Option ((Int × (List Int) × Int × Int) ⊕ ((List Int) × Int × Int)) := fun ((i915, l916, i921, i922) : (Int × (List Int) × Int × Int)) => cond (decide (i915 < (((xb.length : Nat) : Int)))) ((getI xb i915).bind fun x1014 => (cond (decide (i922 = (((l916.length : Nat) : Int)))) ((fn_stack_Queue_int_grow_p0_rii l916 i921 i922).bind fun l1044 => some ((l1044, 0))) (some ((l916, i921))) : Option (((List Int) × Int))).bind fun (l1035, i1040) => (nz (((l1035.length : Nat) : Int))).bind fun u1080 => (getI l1035 (Int.tmod (IntKind.wrap .i64 (i1040 + i922)) (((l1035.length : Nat) : Int)))).bind fun x1082 => (some (l1035.set (Int.tmod (IntKind.wrap .i64 (i1040 + i922)) (((l1035.length : Nat) : Int))).toNat x1014)).bind fun z1089 => some (.inl ((IntKind.wrap .i64 (i915 + 1), z1089, i1040, IntKind.wrap .i64 (i922 + 1))))) (some (.inr (((l916, i921, i922)))))
noncomputable def fn_stack_Queue_int_Push_p0k_rii (xb : (List Int)) (qa0 : (List Int)) (qa1 : Int) (qa2 : Int) : Option (((List Int) × Int × Int)) :=
  (loop (fn_stack_Queue_int_Push_p0k_rii_l1 xb) (0, qa0, qa1, qa2) : Option (((List Int) × Int × Int))).bind fun (l819, i824, i825) => some ((l819, i824, i825))
noncomputable def h_stack_Queue_int_Push_p0k_rii : Hn Try.prog := .jn [] ⟨[], [⟨(some 0), 42, [.own 3 (.int .i64), .dat (.int .i64), .dat (.int .i64)], false, false, none, false⟩]⟩ [1, 0] (.lp ⟨[(10, .dat (.int .i64))], [⟨(some 0), 42, [.own 3 (.int .i64), .dat (.int .i64), .dat (.int .i64)], false, false, none, false⟩]⟩ (.tw 11 (.pl (.pl (.sq [(0, 2)] ⟨[], [⟨(some 0), 42, [.own 3 (.int .i64), .dat (.int .i64), .is 1 (.any)], false, false, none, false⟩, ⟨(some 7), 0, [], false, true, none, false⟩]⟩ [0, 4] (.mix [] [0, 1, 2, 3, 4, 5, 6, 7, 8, 9] [] [] (.tw 23 (.cl ok_stack_Queue_int_grow_p0_rii [] (.nil)) (.nil))) (.mix [] [0, 1, 2, 3, 4, 5, 6, 7, 8, 9, 10, 11, 12, 13, 14, 15, 16, 17, 18, 19, 20] [21] [] (.nil))))) (.nil))) (.nil)
noncomputable def sp_stack_Queue_int_Push_p0k_rii : Spec := ⟨16, ⟨[(0, .ptr 0 0), (1, .dat (.sl (.int .i64)))], [⟨none, 42, [.own 3 (.int .i64), .dat (.int .i64), .dat (.int .i64)], false, false, none, false⟩]⟩, [⟨[], [⟨(some 0), 42, [.own 3 (.int .i64), .dat (.int .i64), .dat (.int .i64)], false, false, none, false⟩]⟩], fun x => fn_stack_Queue_int_Push_p0k_rii x.1 x.2.1 x.2.2.1 x.2.2.2⟩
theorem stack_Queue_int_Push_p0k_rii_is : SpecOk Try.prog sp_stack_Queue_int_Push_p0k_rii := fn_is Try.func16 h_stack_Queue_int_Push_p0k_rii (by kernel_rfl) (by kernel_rfl)
noncomputable def ok_stack_Queue_int_Push_p0k_rii : OkSpec Try.prog := ⟨sp_stack_Queue_int_Push_p0k_rii, stack_Queue_int_Push_p0k_rii_is, Try.call16⟩

noncomputable def fn_stack_Queue_int_grow_p0_riiod (qa0 : (List Int)) (qa1 : Int) (qa2 : Int) (qa3 : (Option (List (Int × Int)))) : Option (((List Int) × (Option (List (Int × Int))))) :=
  (mk (IntKind.wrap .i64 ((IntKind.wrap .i64 (2 * (((qa0.length : Nat) : Int)))) + 1)) (IntKind.wrap .i64 ((IntKind.wrap .i64 (2 * (((qa0.length : Nat) : Int)))) + 1)) 0 : Option (List Int)).bind fun z31 => (subL qa0 qa1 (((qa0.length : Nat) : Int))).bind fun _ => (some (cpy z31 ((0 : Int).toNat) ((List.drop (qa1 : Int).toNat (List.take (((qa0.length : Nat) : Int) : Int).toNat qa0)).take (z31.length - (0 : Int).toNat)))).bind fun z38 => (subL z38 (((min (List.drop (qa1 : Int).toNat (List.take (((qa0.length : Nat) : Int) : Int).toNat qa0)).length (z31.length - (0 : Int).toNat) : Nat) : Int)) (((z31.length : Nat) : Int))).bind fun _ => (subL qa0 0 qa1).bind fun _ => (some (cpy z38 ((((min (List.drop (qa1 : Int).toNat (List.take (((qa0.length : Nat) : Int) : Int).toNat qa0)).length (z31.length - (0 : Int).toNat) : Nat) : Int) : Int).toNat) ((List.drop (0 : Int).toNat (List.take (qa1 : Int).toNat qa0)).take (((((z31.length : Nat) : Int) : Int).toNat) - (((min (List.drop (qa1 : Int).toNat (List.take (((qa0.length : Nat) : Int) : Int).toNat qa0)).length (z31.length - (0 : Int).toNat) : Nat) : Int) : Int).toNat)))).bind fun z42 => some ((z42, qa3))
noncomputable def h_stack_Queue_int_grow_p0_riiod : Hn Try.prog := .mix [] [0, 1, 2, 3, 4, 5, 6, 7, 8, 9] [10, 11] [] (.mix [] [0, 1, 2, 3, 4, 5, 6, 7, 8, 9, 10, 11] [12] [] (.nil))
noncomputable def sp_stack_Queue_int_grow_p0_riiod : Spec := ⟨34, ⟨[(0, .ptr 0 0)], [⟨none, 45, [.own 3 (.int .i64), .dat (.int .i64), .is 1 (.dat (.int .i64)), .od (.obj 0 (.sl (.cons (.int .i64) (.one (.int .i64)))))], false, false, none, false⟩, ⟨none, 0, [], false, true, none, false⟩]⟩, [⟨[], [⟨(some 0), 45, [.own 3 (.int .i64), .lit (.int .i64 0), .is 1 (.any), .od (.obj 0 (.sl (.cons (.int .i64) (.one (.int .i64)))))], false, false, none, false⟩, ⟨(some 1), 0, [], false, true, none, false⟩]⟩], fun x => fn_stack_Queue_int_grow_p0_riiod x.1 x.2.1 x.2.2.1 x.2.2.2⟩
theorem stack_Queue_int_grow_p0_riiod_is : SpecOk Try.prog sp_stack_Queue_int_grow_p0_riiod := fn_is Try.func34 h_stack_Queue_int_grow_p0_riiod (by kernel_rfl) (by kernel_rfl)
noncomputable def ok_stack_Queue_int_grow_p0_riiod : OkSpec Try.prog := ⟨sp_stack_Queue_int_grow_p0_riiod, stack_Queue_int_grow_p0_riiod_is, Try.call34⟩
noncomputable def fn_stack_Queue_int_Push_p0k_riiod_l1 (xb : (List Int)) : (Int × (List Int) × Int × Int × (Option (List (Int × Int)))) → Option ((Int × (List Int) × Int × Int × (Option (List (Int × Int)))) ⊕ ((List Int) × Int × Int × (Option (List (Int × Int))))) := fun ((i1491, l1492, i1497, i1498, l1499) : (Int × (List Int) × Int × Int × (Option (List (Int × Int))))) => cond (decide (i1491 < (((xb.length : Nat) : Int)))) ((getI xb i1491).bind fun x1658 => (cond (decide (i1498 = (((l1492.length : Nat) : Int)))) ((fn_stack_Queue_int_grow_p0_riiod l1492 i1497 i1498 l1499).bind fun (l1718, l1719) => some ((l1718, 0, l1719))) (some ((l1492, i1497, l1499))) : Option (((List Int) × Int × (Option (List (Int × Int)))))).bind fun (l1694, i1699, l1700) => (nz (((l1694.length : Nat) : Int))).bind fun u1770 => (getI l1694 (Int.tmod (IntKind.wrap .i64 (i1699 + i1498)) (((l1694.length : Nat) : Int)))).bind fun x1772 => (some (l1694.set (Int.tmod (IntKind.wrap .i64 (i1699 + i1498)) (((l1694.length : Nat) : Int))).toNat x1658)).bind fun z1779 => some (.inl ((IntKind.wrap .i64 (i1491 + 1), z1779, i1699, IntKind.wrap .i64 (i1498 + 1), l1700)))) (some (.inr (((l1492, i1497, i1498, l1499)))))
noncomputable def fn_stack_Queue_int_Push_p0k_riiod (xb : (List Int)) (qa0 : (List Int)) (qa1 : Int) (qa2 : Int) (qa3 : (Option (List (Int × Int)))) : Option (((List Int) × Int × Int × (Option (List (Int × Int))))) :=
  (loop (fn_stack_Queue_int_Push_p0k_riiod_l1 xb) (0, qa0, qa1, qa2, qa3) : Option (((List Int) × Int × Int × (Option (List (Int × Int)))))).bind fun (l1336, i1341, i1342, l1343) => some ((l1336, i1341, i1342, l1343))
noncomputable def h_stack_Queue_int_Push_p0k_riiod : Hn Try.prog := .jn [] ⟨[], [⟨(some 0), 45, [.own 3 (.int .i64), .dat (.int .i64), .dat (.int .i64), .od (.obj 0 (.sl (.cons (.int .i64) (.one (.int .i64)))))], false, false, none, false⟩]⟩ [1, 0, 3] (.lp ⟨[(10, .dat (.int .i64))], [⟨(some 0), 45, [.own 3 (.int .i64), .dat (.int .i64), .dat (.int .i64), .od (.obj 0 (.sl (.cons (.int .i64) (.one (.int .i64)))))], false, false, none, false⟩]⟩ (.tw 11 (.pl (.pl (.sq [(0, 2)] ⟨[], [⟨(some 0), 45, [.own 3 (.int .i64), .dat (.int .i64), .is 1 (.any), .od (.obj 0 (.sl (.cons (.int .i64) (.one (.int .i64)))))], false, false, none, false⟩, ⟨(some 11), 0, [], false, true, none, false⟩]⟩ [0, 6, 8] (.mix [] [0, 1, 2, 3, 4, 5, 6, 7, 8, 9] [] [] (.tw 23 (.cl ok_stack_Queue_int_grow_p0_riiod [] (.nil)) (.nil))) (.mix [] [0, 1, 2, 3, 4, 5, 6, 7, 8, 9, 10, 11, 12, 13, 14, 15, 16, 17, 18, 19, 20] [21] [] (.nil))))) (.nil))) (.nil)
noncomputable def sp_stack_Queue_int_Push_p0k_riiod : Spec := ⟨16, ⟨[(0, .ptr 0 0), (1, .dat (.sl (.int .i64)))], [⟨none, 45, [.own 3 (.int .i64), .dat (.int .i64), .dat (.int .i64), .od (.obj 0 (.sl (.cons (.int .i64) (.one (.int .i64)))))], false, false, none, false⟩]⟩, [⟨[], [⟨(some 0), 45, [.own 3 (.int .i64), .dat (.int .i64), .dat (.int .i64), .od (.obj 0 (.sl (.cons (.int .i64) (.one (.int .i64)))))], false, false, none, false⟩]⟩], fun x => fn_stack_Queue_int_Push_p0k_riiod x.1 x.2.1 x.2.2.1 x.2.2.2.1 x.2.2.2.2⟩
theorem stack_Queue_int_Push_p0k_riiod_is : SpecOk Try.prog sp_stack_Queue_int_Push_p0k_riiod := fn_is Try.func16 h_stack_Queue_int_Push_p0k_riiod (by kernel_rfl) (by kernel_rfl)
noncomputable def ok_stack_Queue_int_Push_p0k_riiod : OkSpec Try.prog := ⟨sp_stack_Queue_int_Push_p0k_riiod, stack_Queue_int_Push_p0k_riiod_is, Try.call16⟩

noncomputable def fn_stack_Work_int_Push_p0i_riiod (xb : Int) (qa0 : (List Int)) (qa1 : Int) (qa2 : Int) (qa3 : (Option (List (Int × Int)))) : Option ((Bool × (List Int) × Int × Int × (Option (List (Int × Int))))) :=
  (markF_int xb qa0 qa1 qa2 qa3).bind fun r69 => cond (!r69.1) (some ((false, r69.2.1, r69.2.2.1, r69.2.2.2.1, r69.2.2.2.2))) ((fn_stack_Queue_int_Push_p0k_riiod ([xb] : List Int) r69.2.1 r69.2.2.1 r69.2.2.2.1 r69.2.2.2.2).bind fun (l104, i105, i106, l107) => some ((true, l104, i105, i106, l107)))
noncomputable def h_stack_Work_int_Push_p0i_riiod : Hn Try.prog := .cl ok_mark_int [] (.tw 12 (.nil) (.cl ok_stack_Queue_int_Push_p0k_riiod [16] (.nil)))
noncomputable def sp_stack_Work_int_Push_p0i_riiod : Spec := ⟨17, ⟨[(0, .ptr 0 0), (1, .dat (.int .i64))], [⟨none, 45, [.own 3 (.int .i64), .dat (.int .i64), .dat (.int .i64), .od (.obj 0 (.sl (.cons (.int .i64) (.one (.int .i64)))))], false, false, none, false⟩]⟩, [⟨[(0, .dat .bool)], [⟨(some 0), 45, [.own 3 (.int .i64), .dat (.int .i64), .dat (.int .i64), .od (.obj 0 (.sl (.cons (.int .i64) (.one (.int .i64)))))], false, false, none, false⟩]⟩], fun x => fn_stack_Work_int_Push_p0i_riiod x.1 x.2.1 x.2.2.1 x.2.2.2.1 x.2.2.2.2⟩
theorem stack_Work_int_Push_p0i_riiod_is : SpecOk Try.prog sp_stack_Work_int_Push_p0i_riiod := fn_is Try.func17 h_stack_Work_int_Push_p0i_riiod (by kernel_rfl) (by kernel_rfl)
noncomputable def ok_stack_Work_int_Push_p0i_riiod : OkSpec Try.prog := ⟨sp_stack_Work_int_Push_p0i_riiod, stack_Work_int_Push_p0i_riiod_is, Try.call17⟩
noncomputable def fn_ref07_Has_l1 (xa : (List Int)) (xb : Int) : Int → Option (Int ⊕ (Unit ⊕ Bool)) := fun (i125 : Int) => cond (decide (i125 < (((xa.length : Nat) : Int)))) ((getI xa i125).bind fun x140 => cond (decide (x140 = xb)) (some (.inr ((.inr (true))))) (some (.inl (IntKind.wrap .i64 (i125 + 1))))) (some (.inr ((.inl ()))))
noncomputable def fn_ref07_Has (xa : (List Int)) (xb : Int) : Option Bool :=
  (loop (fn_ref07_Has_l1 xa xb) 0 : Option (Unit ⊕ Bool)).bind fun o => match o with | .inr r => some r | .inl () => some (false)
noncomputable def h_ref07_Has : Hn Try.prog := .jx [] ⟨[], []⟩ [] (.lp ⟨[(5, .dat (.int .i64))], []⟩ (.tw 9 (.tw 17 (.nil) (.nil)) (.nil))) (.nil)
noncomputable def sp_ref07_Has : Spec := ⟨18, ⟨[(0, .dat (.sl (.int .i64))), (1, .dat (.int .i64))], []⟩, [⟨[(0, .dat .bool)], []⟩], fun x => fn_ref07_Has x.1 x.2⟩
theorem ref07_Has_is : SpecOk Try.prog sp_ref07_Has := fn_is Try.func18 h_ref07_Has (by kernel_rfl) (by kernel_rfl)
noncomputable def ok_ref07_Has : OkSpec Try.prog := ⟨sp_ref07_Has, ref07_Has_is, Try.call18⟩

noncomputable def fn_stack_Queue_int_Len_p0_rii (qa0 : (List Int)) (qa1 : Int) (qa2 : Int) : Option ((Int × (List Int))) :=
  some ((qa2, qa0))
noncomputable def h_stack_Queue_int_Len_p0_rii : Hn Try.prog := .nil
noncomputable def sp_stack_Queue_int_Len_p0_rii : Spec := ⟨22, ⟨[(0, .ptr 0 0)], [⟨none, 42, [.own 3 (.int .i64), .is 1 (.dat (.int .i64)), .is 2 (.dat (.int .i64))], false, false, none, false⟩, ⟨none, 0, [], false, true, none, false⟩, ⟨none, 0, [], false, true, none, false⟩]⟩, [⟨[(0, .dat (.int .i64))], [⟨(some 0), 42, [.own 3 (.int .i64), .is 1 (.any), .is 2 (.any)], false, false, none, false⟩, ⟨(some 1), 0, [], false, true, none, false⟩, ⟨(some 2), 0, [], false, true, none, false⟩]⟩], fun x => fn_stack_Queue_int_Len_p0_rii x.1 x.2.1 x.2.2⟩
theorem stack_Queue_int_Len_p0_rii_is : SpecOk Try.prog sp_stack_Queue_int_Len_p0_rii := fn_is Try.func22 h_stack_Queue_int_Len_p0_rii (by kernel_rfl) (by kernel_rfl)
noncomputable def ok_stack_Queue_int_Len_p0_rii : OkSpec Try.prog := ⟨sp_stack_Queue_int_Len_p0_rii, stack_Queue_int_Len_p0_rii_is, Try.call22⟩

noncomputable def fn_stack_Queue_int_Pop_p0_rii (qa0 : (List Int)) (qa1 : Int) (qa2 : Int) : Option ((Int × Bool × (List Int) × Int × Int)) :=
  (fn_stack_Queue_int_Len_p0_rii qa0 qa1 qa2).bind fun (i94, l95) => cond (decide (i94 = 0)) (some ((0, false, l95, qa1, qa2))) ((getI l95 qa1).bind fun x126 => (getI l95 qa1).bind fun x154 => (some (l95.set qa1.toNat 0)).bind fun z161 => (nz (((l95.length : Nat) : Int))).bind fun u172 => some ((x126, true, z161, Int.tmod (IntKind.wrap .i64 (qa1 + 1)) (((l95.length : Nat) : Int)), IntKind.wrap .i64 (qa2 - 1))))
noncomputable def h_stack_Queue_int_Pop_p0_rii : Hn Try.prog := .mc 0 1 3 (.mc 0 2 3 (.cl ok_stack_Queue_int_Len_p0_rii [] (.tw 8 (.nil) (.mix [] [0, 1, 2, 3, 4, 5, 6, 7, 8, 9, 10] [] [] (.mix [] [0, 1, 2, 3, 4, 5, 6, 7, 8, 9] [10] [] (.mix [] [0, 1, 2, 3, 4, 5, 6, 7, 8, 9, 10, 11, 12, 13] [14] [] (.nil)))))))
noncomputable def sp_stack_Queue_int_Pop_p0_rii : Spec := ⟨19, ⟨[(0, .ptr 0 0)], [⟨none, 42, [.own 3 (.int .i64), .dat (.int .i64), .dat (.int .i64)], false, false, none, false⟩]⟩, [⟨[(0, .tup [.dat (.int .i64), .dat .bool])], [⟨(some 0), 42, [.own 3 (.int .i64), .dat (.int .i64), .dat (.int .i64)], false, false, none, false⟩]⟩], fun x => fn_stack_Queue_int_Pop_p0_rii x.1 x.2.1 x.2.2⟩
theorem stack_Queue_int_Pop_p0_rii_is : SpecOk Try.prog sp_stack_Queue_int_Pop_p0_rii := fn_is Try.func19 h_stack_Queue_int_Pop_p0_rii (by kernel_rfl) (by kernel_rfl)
noncomputable def ok_stack_Queue_int_Pop_p0_rii : OkSpec Try.prog := ⟨sp_stack_Queue_int_Pop_p0_rii, stack_Queue_int_Pop_p0_rii_is, Try.call19⟩

noncomputable def fn_ref07_First (xa : (List Int)) : Option (((List Int) × Int × Bool)) :=
  cond (decide ((((xa.length : Nat) : Int)) = 0)) (some ((xa, 0, false))) ((subL xa 1 (((xa.length : Nat) : Int))).bind fun y114 => (getI xa 0).bind fun x120 => some ((y114, x120, true)))
noncomputable def h_ref07_First : Hn Try.prog := .tw 7 (.nil) (.mix [] [0, 1, 2, 3, 4, 5, 6, 7] [] [] (.nil))
noncomputable def sp_ref07_First : Spec := ⟨20, ⟨[(0, .dat (.sl (.int .i64)))], []⟩, [⟨[(0, .tup [.dat (.sl (.int .i64)), .dat (.int .i64), .dat .bool])], []⟩], fun x => fn_ref07_First x⟩
theorem ref07_First_is : SpecOk Try.prog sp_ref07_First := fn_is Try.func20 h_ref07_First (by kernel_rfl) (by kernel_rfl)
noncomputable def ok_ref07_First : OkSpec Try.prog := ⟨sp_ref07_First, ref07_First_is, Try.call20⟩

noncomputable def fn_stack_Queue_int_Len_p0_riiod (qa0 : (List Int)) (qa1 : Int) (qa2 : Int) (qa3 : (Option (List (Int × Int)))) : Option ((Int × (List Int) × (Option (List (Int × Int))))) :=
  some ((qa2, qa0, qa3))
noncomputable def h_stack_Queue_int_Len_p0_riiod : Hn Try.prog := .nil
noncomputable def sp_stack_Queue_int_Len_p0_riiod : Spec := ⟨22, ⟨[(0, .ptr 0 0)], [⟨none, 45, [.own 3 (.int .i64), .is 1 (.dat (.int .i64)), .is 2 (.dat (.int .i64)), .od (.obj 0 (.sl (.cons (.int .i64) (.one (.int .i64)))))], false, false, none, false⟩, ⟨none, 0, [], false, true, none, false⟩, ⟨none, 0, [], false, true, none, false⟩]⟩, [⟨[(0, .dat (.int .i64))], [⟨(some 0), 45, [.own 3 (.int .i64), .is 1 (.any), .is 2 (.any), .od (.obj 0 (.sl (.cons (.int .i64) (.one (.int .i64)))))], false, false, none, false⟩, ⟨(some 1), 0, [], false, true, none, false⟩, ⟨(some 2), 0, [], false, true, none, false⟩]⟩], fun x => fn_stack_Queue_int_Len_p0_riiod x.1 x.2.1 x.2.2.1 x.2.2.2⟩
theorem stack_Queue_int_Len_p0_riiod_is : SpecOk Try.prog sp_stack_Queue_int_Len_p0_riiod := fn_is Try.func22 h_stack_Queue_int_Len_p0_riiod (by kernel_rfl) (by kernel_rfl)
noncomputable def ok_stack_Queue_int_Len_p0_riiod : OkSpec Try.prog := ⟨sp_stack_Queue_int_Len_p0_riiod, stack_Queue_int_Len_p0_riiod_is, Try.call22⟩

noncomputable def fn_stack_Queue_int_Pop_p0_riiod (qa0 : (List Int)) (qa1 : Int) (qa2 : Int) (qa3 : (Option (List (Int × Int)))) : Option ((Int × Bool × (List Int) × Int × Int × (Option (List (Int × Int))))) :=
  (fn_stack_Queue_int_Len_p0_riiod qa0 qa1 qa2 qa3).bind fun (i147, l148, l149) => cond (decide (i147 = 0)) (some ((0, false, l148, qa1, qa2, l149))) ((getI l148 qa1).bind fun x188 => (getI l148 qa1).bind fun x228 => (some (l148.set qa1.toNat 0)).bind fun z235 => (nz (((l148.length : Nat) : Int))).bind fun u248 => some ((x188, true, z235, Int.tmod (IntKind.wrap .i64 (qa1 + 1)) (((l148.length : Nat) : Int)), IntKind.wrap .i64 (qa2 - 1), l149)))
noncomputable def h_stack_Queue_int_Pop_p0_riiod : Hn Try.prog := .mc 0 1 5 (.mc 0 2 5 (.cl ok_stack_Queue_int_Len_p0_riiod [] (.tw 8 (.nil) (.mix [] [0, 1, 2, 3, 4, 5, 6, 7, 8, 9, 10] [] [] (.mix [] [0, 1, 2, 3, 4, 5, 6, 7, 8, 9] [10] [] (.mix [] [0, 1, 2, 3, 4, 5, 6, 7, 8, 9, 10, 11, 12, 13] [14] [] (.nil)))))))
noncomputable def sp_stack_Queue_int_Pop_p0_riiod : Spec := ⟨19, ⟨[(0, .ptr 0 0)], [⟨none, 45, [.own 3 (.int .i64), .dat (.int .i64), .dat (.int .i64), .od (.obj 0 (.sl (.cons (.int .i64) (.one (.int .i64)))))], false, false, none, false⟩]⟩, [⟨[(0, .tup [.dat (.int .i64), .dat .bool])], [⟨(some 0), 45, [.own 3 (.int .i64), .dat (.int .i64), .dat (.int .i64), .od (.obj 0 (.sl (.cons (.int .i64) (.one (.int .i64)))))], false, false, none, false⟩]⟩], fun x => fn_stack_Queue_int_Pop_p0_riiod x.1 x.2.1 x.2.2.1 x.2.2.2⟩
theorem stack_Queue_int_Pop_p0_riiod_is : SpecOk Try.prog sp_stack_Queue_int_Pop_p0_riiod := fn_is Try.func19 h_stack_Queue_int_Pop_p0_riiod (by kernel_rfl) (by kernel_rfl)
noncomputable def ok_stack_Queue_int_Pop_p0_riiod : OkSpec Try.prog := ⟨sp_stack_Queue_int_Pop_p0_riiod, stack_Queue_int_Pop_p0_riiod_is, Try.call19⟩

noncomputable def fn_stack_Work_int_Pop_p0_riiod (qa0 : (List Int)) (qa1 : Int) (qa2 : Int) (qa3 : (Option (List (Int × Int)))) : Option ((Int × Bool × (List Int) × Int × Int × (Option (List (Int × Int))))) :=
  (fn_stack_Queue_int_Pop_p0_riiod qa0 qa1 qa2 qa3).bind fun (i76, t77, l78, i79, i80, l81) => cond (t77) ((unmarkF_int i76 l78 i79 i80 l81).bind fun r97 => some ((i76, t77, r97.1, r97.2.1, r97.2.2.1, r97.2.2.2))) (some ((i76, t77, l78, i79, i80, l81)))
noncomputable def h_stack_Work_int_Pop_p0_riiod : Hn Try.prog := .cl ok_stack_Queue_int_Pop_p0_riiod [] (.tw 17 (.cl ok_unmark_int [] (.nil)) (.nil))
noncomputable def sp_stack_Work_int_Pop_p0_riiod : Spec := ⟨21, ⟨[(0, .ptr 0 0)], [⟨none, 45, [.own 3 (.int .i64), .dat (.int .i64), .dat (.int .i64), .od (.obj 0 (.sl (.cons (.int .i64) (.one (.int .i64)))))], false, false, none, false⟩]⟩, [⟨[(0, .tup [.dat (.int .i64), .dat .bool])], [⟨(some 0), 45, [.own 3 (.int .i64), .dat (.int .i64), .dat (.int .i64), .od (.obj 0 (.sl (.cons (.int .i64) (.one (.int .i64)))))], false, false, none, false⟩]⟩], fun x => fn_stack_Work_int_Pop_p0_riiod x.1 x.2.1 x.2.2.1 x.2.2.2⟩
theorem stack_Work_int_Pop_p0_riiod_is : SpecOk Try.prog sp_stack_Work_int_Pop_p0_riiod := fn_is Try.func21 h_stack_Work_int_Pop_p0_riiod (by kernel_rfl) (by kernel_rfl)
noncomputable def ok_stack_Work_int_Pop_p0_riiod : OkSpec Try.prog := ⟨sp_stack_Work_int_Pop_p0_riiod, stack_Work_int_Pop_p0_riiod_is, Try.call21⟩

noncomputable def fn_stack_Work_int_Len_p0_riiod (qa0 : (List Int)) (qa1 : Int) (qa2 : Int) (qa3 : (Option (List (Int × Int)))) : Option ((Int × (List Int) × (Option (List (Int × Int))))) :=
  (fn_stack_Queue_int_Len_p0_riiod qa0 qa1 qa2 qa3).bind fun (i53, l54, l55) => some ((i53, l54, l55))
noncomputable def h_stack_Work_int_Len_p0_riiod : Hn Try.prog := .cl ok_stack_Queue_int_Len_p0_riiod [] (.nil)
noncomputable def sp_stack_Work_int_Len_p0_riiod : Spec := ⟨23, ⟨[(0, .ptr 0 0)], [⟨none, 45, [.own 3 (.int .i64), .is 1 (.dat (.int .i64)), .is 2 (.dat (.int .i64)), .od (.obj 0 (.sl (.cons (.int .i64) (.one (.int .i64)))))], false, false, none, false⟩, ⟨none, 0, [], false, true, none, false⟩, ⟨none, 0, [], false, true, none, false⟩]⟩, [⟨[(0, .dat (.int .i64))], [⟨(some 0), 45, [.own 3 (.int .i64), .is 1 (.any), .is 2 (.any), .od (.obj 0 (.sl (.cons (.int .i64) (.one (.int .i64)))))], false, false, none, false⟩, ⟨(some 1), 0, [], false, true, none, false⟩, ⟨(some 2), 0, [], false, true, none, false⟩]⟩], fun x => fn_stack_Work_int_Len_p0_riiod x.1 x.2.1 x.2.2.1 x.2.2.2⟩
theorem stack_Work_int_Len_p0_riiod_is : SpecOk Try.prog sp_stack_Work_int_Len_p0_riiod := fn_is Try.func23 h_stack_Work_int_Len_p0_riiod (by kernel_rfl) (by kernel_rfl)
noncomputable def ok_stack_Work_int_Len_p0_riiod : OkSpec Try.prog := ⟨sp_stack_Work_int_Len_p0_riiod, stack_Work_int_Len_p0_riiod_is, Try.call23⟩
noncomputable def fn_law07_StackQueues_l1 (xa : (List (Int × Int))) : ((List Int) × (List Int) × Int × (List Int) × Int × Int × (List Int) × Int × Int × (Option (List (Int × Int)))) → Option (((List Int) × (List Int) × Int × (List Int) × Int × Int × (List Int) × Int × Int × (Option (List (Int × Int)))) ⊕ (Unit ⊕ Bool)) := fun ((l11868, l11872, i11876, l11877, i11882, i11883, l11884, i11889, i11890, l11891) : ((List Int) × (List Int) × Int × (List Int) × Int × Int × (List Int) × Int × Int × (Option (List (Int × Int))))) => cond (decide (i11876 < (((xa.length : Nat) : Int)))) (((getI xa i11876).bind fun x13570 => cond (decide (x13570.1 = 0)) ((getI xa i11876).bind fun x13608 => (fn_stack_Queue_int_Push_p0k_rii ([x13608.2, i11876] : List Int) l11877 i11882 i11883).bind fun (l13625, i13626, i13627) => (getI xa i11876).bind fun x13668 => (fn_ref07_Put l11868 x13668.2).bind fun l13679 => (fn_ref07_Put l13679 i11876).bind fun l13692 => (getI xa i11876).bind fun x13842 => (getI xa i11876).bind fun x13851 => (fn_stack_Work_int_Push_p0i_riiod x13842.2 l11884 i11889 i11890 l11891).bind fun (t13862, l13863, i13864, i13865, l13866) => (fn_ref07_Has l11872 x13851.2).bind fun t13878 => cond (t13862 == t13878) (some (.inr (.inr ((.inr (false)))))) ((getI xa i11876).bind fun x13898 => (fn_ref07_Has l11872 x13898.2).bind fun t13909 => cond (!t13909) ((getI xa i11876).bind fun x13933 => (fn_ref07_Put l11872 x13933.2).bind fun l13944 => some (.inl (l13692, l13944, l13625, i13626, i13627, l13863, i13864, i13865, l13866))) (some (.inl (l13692, l11872, l13625, i13626, i13627, l13863, i13864, i13865, l13866))))) (some (.inl (l11868, l11872, l11877, i11882, i11883, l11884, i11889, i11890, l11891))) : Option (((List Int) × (List Int) × (List Int) × Int × Int × (List Int) × Int × Int × (Option (List (Int × Int)))) ⊕ (((List Int) × (List Int) × Int × (List Int) × Int × Int × (List Int) × Int × Int × (Option (List (Int × Int)))) ⊕ (Unit ⊕ Bool)))).bind fun o => match o with | .inr r => some r | .inl (l13537, l13541, l13545, i13550, i13551, l13552, i13557, i13558, l13559) => ((getI xa i11876).bind fun x14142 => cond (decide (x14142.1 = 1)) ((fn_stack_Queue_int_Pop_p0_rii l13545 i13550 i13551).bind fun (i14169, t14170, l14171, i14172, i14173) => (fn_ref07_First l13537).bind fun (l14195, i14196, t14197) => (fn_stack_Work_int_Pop_p0_riiod l13552 i13557 i13558 l13559).bind fun (i14223, t14224, l14225, i14226, i14227, l14228) => (fn_ref07_First l13541).bind fun (l14251, i14252, t14253) => cond ((((!decide (i14169 = i14196)) || (!(t14170 == t14197))) || (!decide (i14223 = i14252))) || (!(t14224 == t14253))) (some (.inr (.inr ((.inr (false)))))) (some (.inl (l14195, l14251, l14171, i14172, i14173, l14225, i14226, i14227, l14228)))) (some (.inl (l13537, l13541, l13545, i13550, i13551, l13552, i13557, i13558, l13559))) : Option (((List Int) × (List Int) × (List Int) × Int × Int × (List Int) × Int × Int × (Option (List (Int × Int)))) ⊕ (((List Int) × (List Int) × Int × (List Int) × Int × Int × (List Int) × Int × Int × (Option (List (Int × Int)))) ⊕ (Unit ⊕ Bool)))).bind fun o => match o with | .inr r => some r | .inl (l14109, l14113, l14117, i14122, i14123, l14124, i14129, i14130, l14131) => (fn_stack_Queue_int_Len_p0_rii l14117 i14122 i14123).bind fun (i14324, l14325) => cond (!decide (i14324 = (((l14109.length : Nat) : Int)))) (some (.inr ((.inr (false))))) ((fn_stack_Work_int_Len_p0_riiod l14124 i14129 i14130 l14131).bind fun (i14352, l14353, l14354) => cond (!decide (i14352 = (((l14113.length : Nat) : Int)))) (some (.inr ((.inr (false))))) (some (.inl ((l14109, l14113, IntKind.wrap .i64 (i11876 + 1), l14325, i14122, i14123, l14353, i14129, i14130, l14354)))))) (some (.inr ((.inl ()))))
noncomputable def fn_law07_StackQueues (xa : (List (Int × Int))) : Option Bool :=
  cond (decide (60 < (((xa.length : Nat) : Int)))) ((fn_law07_awake).bind fun t7190 => some (t7190)) ((loop (fn_law07_StackQueues_l1 xa) ([], [], 0, [], 0, 0, [], 0, 0, none) : Option (Unit ⊕ Bool)).bind fun o => match o with | .inr r => some r | .inl () => (fn_law07_awake).bind fun t14368 => some (t14368))
noncomputable def h_law07_StackQueues : Hn Try.prog := .tw 20 (.cl ok_law07_awake [] (.nil)) (.jx [] ⟨[], []⟩ [2, 0] (.lp ⟨[(5, .dat (.sl (.int .i64))), (6, .dat (.sl (.int .i64))), (7, .dat (.int .i64))], [⟨(some 0), 42, [.own 3 (.int .i64), .dat (.int .i64), .dat (.int .i64)], false, false, none, false⟩, ⟨(some 2), 45, [.own 3 (.int .i64), .dat (.int .i64), .dat (.int .i64), .od (.obj 0 (.sl (.cons (.int .i64) (.one (.int .i64)))))], false, false, none, false⟩]⟩ (.tw 25 (.pl (.sx [] ⟨[(5, .dat (.sl (.int .i64))), (6, .dat (.sl (.int .i64)))], [⟨(some 0), 42, [.own 3 (.int .i64), .dat (.int .i64), .dat (.int .i64)], false, false, none, false⟩, ⟨(some 2), 45, [.own 3 (.int .i64), .dat (.int .i64), .dat (.int .i64), .od (.obj 0 (.sl (.cons (.int .i64) (.one (.int .i64)))))], false, false, none, false⟩]⟩ [0, 2, 4, 7, 9] (.tw 33 (.cl ok_stack_Queue_int_Push_p0k_rii [12] (.cl ok_ref07_Put [] (.per 20 21 (.cl ok_ref07_Put [] (.mix [([0, 1, 2, 3, 4, 6, 7, 8, 9, 10, 11], 5)] [] [12, 13] [2, 7, 9] (.cl ok_stack_Work_int_Push_p0i_riiod [] (.cl ok_ref07_Has [] (.tw 64 (.nil) (.cl ok_ref07_Has [] (.tw 72 (.cl ok_ref07_Put [] (.per 22 23 (.per 34 35 (.nil)))) (.per 22 23 (.nil)))))))))))) (.nil)) (.sx [] ⟨[(5, .dat (.sl (.int .i64))), (6, .dat (.sl (.int .i64)))], [⟨(some 0), 42, [.own 3 (.int .i64), .dat (.int .i64), .dat (.int .i64)], false, false, none, false⟩, ⟨(some 2), 45, [.own 3 (.int .i64), .dat (.int .i64), .dat (.int .i64), .od (.obj 0 (.sl (.cons (.int .i64) (.one (.int .i64)))))], false, false, none, false⟩]⟩ [0, 2, 12, 15, 17] (.tw 85 (.cl ok_stack_Queue_int_Pop_p0_rii [] (.cl ok_ref07_First [] (.cl ok_stack_Work_int_Pop_p0_riiod [] (.cl ok_ref07_First [] (.gp 3 (.wt 116 (.gp 3 (.wt 121 (.gp 3 (.tw 125 (.nil) (.nil))))))))))) (.nil)) (.wt 1000028 (.mc 0 1 22 (.mc 0 2 22 (.cl ok_stack_Queue_int_Len_p0_rii [] (.two 130 (.nil) (.wt 1000036 (.mc 2 1 27 (.mc 2 2 27 (.cl ok_stack_Work_int_Len_p0_riiod [] (.tw 135 (.nil) (.nil)))))))))))))) (.nil))) (.cl ok_law07_awake [] (.nil)))
noncomputable def sp_law07_StackQueues : Spec := ⟨4, ⟨[(0, .dat (.sl (.cons (.int .i64) (.one (.int .i64)))))], []⟩, [⟨[(0, .dat .bool)], []⟩], fun x => fn_law07_StackQueues x⟩
theorem law07_StackQueues_is : SpecOk Try.prog sp_law07_StackQueues := fn_is Try.func4 h_law07_StackQueues (by kernel_rfl) (by kernel_rfl)
noncomputable def ok_law07_StackQueues : OkSpec Try.prog := ⟨sp_law07_StackQueues, law07_StackQueues_is, Try.call4⟩

noncomputable def fn_stack_Stack_string_Push_p0k_r (xb : (List (List UInt8))) (qa0 : (List (List UInt8))) : Option ((List (List UInt8))) :=
  (app qa0 xb).bind fun z12 => some (z12)
noncomputable def h_stack_Stack_string_Push_p0k_r : Hn Try.prog := .nil
noncomputable def sp_stack_Stack_string_Push_p0k_r : Spec := ⟨24, ⟨[(0, .ptr 0 0), (1, .dat (.sl .str))], [⟨none, 50, [.own 9 .str], false, false, none, false⟩]⟩, [⟨[], [⟨(some 0), 50, [.own 9 .str], false, false, none, false⟩]⟩], fun x => fn_stack_Stack_string_Push_p0k_r x.1 x.2⟩
theorem stack_Stack_string_Push_p0k_r_is : SpecOk Try.prog sp_stack_Stack_string_Push_p0k_r := fn_is Try.func24 h_stack_Stack_string_Push_p0k_r (by kernel_rfl) (by kernel_rfl)
noncomputable def ok_stack_Stack_string_Push_p0k_r : OkSpec Try.prog := ⟨sp_stack_Stack_string_Push_p0k_r, stack_Stack_string_Push_p0k_r_is, Try.call24⟩

noncomputable def fn_stack_Queue_string_grow_p0_rii (qa0 : (List (List UInt8))) (qa1 : Int) (qa2 : Int) : Option ((List (List UInt8))) :=
  (mk (IntKind.wrap .i64 ((IntKind.wrap .i64 (2 * (((qa0.length : Nat) : Int)))) + 1)) (IntKind.wrap .i64 ((IntKind.wrap .i64 (2 * (((qa0.length : Nat) : Int)))) + 1)) ([] : List UInt8) : Option (List (List UInt8))).bind fun z15 => (subL qa0 qa1 (((qa0.length : Nat) : Int))).bind fun _ => (some (cpy z15 ((0 : Int).toNat) ((List.drop (qa1 : Int).toNat (List.take (((qa0.length : Nat) : Int) : Int).toNat qa0)).take (z15.length - (0 : Int).toNat)))).bind fun z20 => (subL z20 (((min (List.drop (qa1 : Int).toNat (List.take (((qa0.length : Nat) : Int) : Int).toNat qa0)).length (z15.length - (0 : Int).toNat) : Nat) : Int)) (((z15.length : Nat) : Int))).bind fun _ => (subL qa0 0 qa1).bind fun _ => (some (cpy z20 ((((min (List.drop (qa1 : Int).toNat (List.take (((qa0.length : Nat) : Int) : Int).toNat qa0)).length (z15.length - (0 : Int).toNat) : Nat) : Int) : Int).toNat) ((List.drop (0 : Int).toNat (List.take (qa1 : Int).toNat qa0)).take (((((z15.length : Nat) : Int) : Int).toNat) - (((min (List.drop (qa1 : Int).toNat (List.take (((qa0.length : Nat) : Int) : Int).toNat qa0)).length (z15.length - (0 : Int).toNat) : Nat) : Int) : Int).toNat)))).bind fun z22 => some (z22)
noncomputable def h_stack_Queue_string_grow_p0_rii : Hn Try.prog := .mix [] [0, 1, 2, 3, 4, 5, 6, 7, 8, 9] [10, 11] [] (.mix [] [0, 1, 2, 3, 4, 5, 6, 7, 8, 9, 10, 11] [12] [] (.nil))
noncomputable def sp_stack_Queue_string_grow_p0_rii : Spec := ⟨37, ⟨[(0, .ptr 0 0)], [⟨none, 52, [.own 9 .str, .dat (.int .i64), .is 1 (.dat (.int .i64))], false, false, none, false⟩, ⟨none, 0, [], false, true, none, false⟩]⟩, [⟨[], [⟨(some 0), 52, [.own 9 .str, .lit (.int .i64 0), .is 1 (.any)], false, false, none, false⟩, ⟨(some 1), 0, [], false, true, none, false⟩]⟩], fun x => fn_stack_Queue_string_grow_p0_rii x.1 x.2.1 x.2.2⟩
theorem stack_Queue_string_grow_p0_rii_is : SpecOk Try.prog sp_stack_Queue_string_grow_p0_rii := fn_is Try.func37 h_stack_Queue_string_grow_p0_rii (by kernel_rfl) (by kernel_rfl)
noncomputable def ok_stack_Queue_string_grow_p0_rii : OkSpec Try.prog := ⟨sp_stack_Queue_string_grow_p0_rii, stack_Queue_string_grow_p0_rii_is, Try.call37⟩
noncomputable def fn_stack_Queue_string_Push_p0k_rii_l1 (xb : (List (List UInt8))) : (Int × (List (List UInt8)) × Int × Int) → Option ((Int × (List (List UInt8)) × Int × Int) ⊕ ((List (List UInt8)) × Int × Int)) := fun ((i915, l916, i921, i922) : (Int × (List (List UInt8)) × Int × Int)) => cond (decide (i915 < (((xb.length : Nat) : Int)))) ((getI xb i915).bind fun x1014 => (cond (decide (i922 = (((l916.length : Nat) : Int)))) ((fn_stack_Queue_string_grow_p0_rii l916 i921 i922).bind fun l1044 => some ((l1044, 0))) (some ((l916, i921))) : Option (((List (List UInt8)) × Int))).bind fun (l1035, i1040) => (nz (((l1035.length : Nat) : Int))).bind fun u1080 => (getI l1035 (Int.tmod (IntKind.wrap .i64 (i1040 + i922)) (((l1035.length : Nat) : Int)))).bind fun x1082 => (some (l1035.set (Int.tmod (IntKind.wrap .i64 (i1040 + i922)) (((l1035.length : Nat) : Int))).toNat x1014)).bind fun z1089 => some (.inl ((IntKind.wrap .i64 (i915 + 1), z1089, i1040, IntKind.wrap .i64 (i922 + 1))))) (some (.inr (((l916, i921, i922)))))
noncomputable def fn_stack_Queue_string_Push_p0k_rii (xb : (List (List UInt8))) (qa0 : (List (List UInt8))) (qa1 : Int) (qa2 : Int) : Option (((List (List UInt8)) × Int × Int)) :=
  (loop (fn_stack_Queue_string_Push_p0k_rii_l1 xb) (0, qa0, qa1, qa2) : Option (((List (List UInt8)) × Int × Int))).bind fun (l819, i824, i825) => some ((l819, i824, i825))
noncomputable def h_stack_Queue_string_Push_p0k_rii : Hn Try.prog := .jn [] ⟨[], [⟨(some 0), 52, [.own 9 .str, .dat (.int .i64), .dat (.int .i64)], false, false, none, false⟩]⟩ [1, 0] (.lp ⟨[(10, .dat (.int .i64))], [⟨(some 0), 52, [.own 9 .str, .dat (.int .i64), .dat (.int .i64)], false, false, none, false⟩]⟩ (.tw 11 (.pl (.pl (.sq [(0, 2)] ⟨[], [⟨(some 0), 52, [.own 9 .str, .dat (.int .i64), .is 1 (.any)], false, false, none, false⟩, ⟨(some 7), 0, [], false, true, none, false⟩]⟩ [0, 4] (.mix [] [0, 1, 2, 3, 4, 5, 6, 7, 8, 9] [] [] (.tw 23 (.cl ok_stack_Queue_string_grow_p0_rii [] (.nil)) (.nil))) (.mix [] [0, 1, 2, 3, 4, 5, 6, 7, 8, 9, 10, 11, 12, 13, 14, 15, 16, 17, 18, 19, 20] [21] [] (.nil))))) (.nil))) (.nil)
noncomputable def sp_stack_Queue_string_Push_p0k_rii : Spec := ⟨25, ⟨[(0, .ptr 0 0), (1, .dat (.sl .str))], [⟨none, 52, [.own 9 .str, .dat (.int .i64), .dat (.int .i64)], false, false, none, false⟩]⟩, [⟨[], [⟨(some 0), 52, [.own 9 .str, .dat (.int .i64), .dat (.int .i64)], false, false, none, false⟩]⟩], fun x => fn_stack_Queue_string_Push_p0k_rii x.1 x.2.1 x.2.2.1 x.2.2.2⟩
theorem stack_Queue_string_Push_p0k_rii_is : SpecOk Try.prog sp_stack_Queue_string_Push_p0k_rii := fn_is Try.func25 h_stack_Queue_string_Push_p0k_rii (by kernel_rfl) (by kernel_rfl)
noncomputable def ok_stack_Queue_string_Push_p0k_rii : OkSpec Try.prog := ⟨sp_stack_Queue_string_Push_p0k_rii, stack_Queue_string_Push_p0k_rii_is, Try.call25⟩

noncomputable def fn_stack_Stack_string_Len (xa : (Option (List (List UInt8)))) : Option Int :=
  cond (xa.isNone) (some (0)) ((xa : Option (List (List UInt8))).bind fun y14 => some (((y14.length : Nat) : Int)))
noncomputable def h_stack_Stack_string_Len : Hn Try.prog := .tw 4 (.nil) (.nil)
noncomputable def sp_stack_Stack_string_Len : Spec := ⟨29, ⟨[(0, .dat (.ptr (.one (.sl .str))))], []⟩, [⟨[(0, .dat (.int .i64))], []⟩], fun x => fn_stack_Stack_string_Len x⟩
theorem stack_Stack_string_Len_is : SpecOk Try.prog sp_stack_Stack_string_Len := fn_is Try.func29 h_stack_Stack_string_Len (by kernel_rfl) (by kernel_rfl)
noncomputable def ok_stack_Stack_string_Len : OkSpec Try.prog := ⟨sp_stack_Stack_string_Len, stack_Stack_string_Len_is, Try.call29⟩
noncomputable def fn_stack_Stack_string_Cut_p0i_r_l1 (xb : Int) : ((List (List UInt8)) × (List (List UInt8))) → Option (((List (List UInt8)) × (List (List UInt8))) ⊕ ((List (List UInt8)) × (List (List UInt8)))) := fun ((l345, l350) : ((List (List UInt8)) × (List (List UInt8)))) => (fn_stack_Stack_string_Len (some l350)).bind fun i389 => cond (decide ((if xb < 0 then 0 else xb) < i389)) ((popF_str l350).bind fun r394 => (app l345 (([r394.1] : List (List UInt8)))).bind fun z401 => some (.inl (z401, r394.2.2))) (some (.inr (((l345, l350)))))
noncomputable def fn_stack_Stack_string_Cut_p0i_r (xb : Int) (qa0 : (List (List UInt8))) : Option (((List (List UInt8)) × (List (List UInt8)))) :=
  (loop (fn_stack_Stack_string_Cut_p0i_r_l1 xb) ([], qa0) : Option (((List (List UInt8)) × (List (List UInt8))))).bind fun (l303, l308) => some ((l303, l308))
noncomputable def h_stack_Stack_string_Cut_p0i_r : Hn Try.prog := .jn [] ⟨[(5, .own 9 .str)], [⟨(some 0), 50, [.own 9 .str], false, false, none, false⟩]⟩ [1, 0] (.lp ⟨[(5, .own 9 .str)], [⟨(some 0), 50, [.own 9 .str], false, false, none, false⟩]⟩ (.cl ok_stack_Stack_string_Len [6, 0] (.tw 12 (.cl ok_pop_str [] (.nil)) (.nil)))) (.nil)
noncomputable def sp_stack_Stack_string_Cut_p0i_r : Spec := ⟨26, ⟨[(0, .ptr 0 0), (1, .dat (.int .i64))], [⟨none, 50, [.own 9 .str], false, false, none, false⟩]⟩, [⟨[(0, .own 9 .str)], [⟨(some 0), 50, [.own 9 .str], false, false, none, false⟩]⟩], fun x => fn_stack_Stack_string_Cut_p0i_r x.1 x.2⟩
theorem stack_Stack_string_Cut_p0i_r_is : SpecOk Try.prog sp_stack_Stack_string_Cut_p0i_r := fn_is Try.func26 h_stack_Stack_string_Cut_p0i_r (by kernel_rfl) (by kernel_rfl)
noncomputable def ok_stack_Stack_string_Cut_p0i_r : OkSpec Try.prog := ⟨sp_stack_Stack_string_Cut_p0i_r, stack_Stack_string_Cut_p0i_r_is, Try.call26⟩

noncomputable def fn_stack_Queue_string_Len_p0_rii (qa0 : (List (List UInt8))) (qa1 : Int) (qa2 : Int) : Option ((Int × (List (List UInt8)))) :=
  some ((qa2, qa0))
noncomputable def h_stack_Queue_string_Len_p0_rii : Hn Try.prog := .nil
noncomputable def sp_stack_Queue_string_Len_p0_rii : Spec := ⟨30, ⟨[(0, .ptr 0 0)], [⟨none, 52, [.own 9 .str, .is 1 (.dat (.int .i64)), .is 2 (.dat (.int .i64))], false, false, none, false⟩, ⟨none, 0, [], false, true, none, false⟩, ⟨none, 0, [], false, true, none, false⟩]⟩, [⟨[(0, .dat (.int .i64))], [⟨(some 0), 52, [.own 9 .str, .is 1 (.any), .is 2 (.any)], false, false, none, false⟩, ⟨(some 1), 0, [], false, true, none, false⟩, ⟨(some 2), 0, [], false, true, none, false⟩]⟩], fun x => fn_stack_Queue_string_Len_p0_rii x.1 x.2.1 x.2.2⟩
theorem stack_Queue_string_Len_p0_rii_is : SpecOk Try.prog sp_stack_Queue_string_Len_p0_rii := fn_is Try.func30 h_stack_Queue_string_Len_p0_rii (by kernel_rfl) (by kernel_rfl)
noncomputable def ok_stack_Queue_string_Len_p0_rii : OkSpec Try.prog := ⟨sp_stack_Queue_string_Len_p0_rii, stack_Queue_string_Len_p0_rii_is, Try.call30⟩

noncomputable def fn_stack_Queue_string_Pop_p0_rii (qa0 : (List (List UInt8))) (qa1 : Int) (qa2 : Int) : Option ((List UInt8 × Bool × (List (List UInt8)) × Int × Int)) :=
  (fn_stack_Queue_string_Len_p0_rii qa0 qa1 qa2).bind fun (i94, l95) => cond (decide (i94 = 0)) (some ((([] : List UInt8), false, l95, qa1, qa2))) ((getI l95 qa1).bind fun x126 => (getI l95 qa1).bind fun x154 => (some (l95.set qa1.toNat ([] : List UInt8))).bind fun z161 => (nz (((l95.length : Nat) : Int))).bind fun u172 => some ((x126, true, z161, Int.tmod (IntKind.wrap .i64 (qa1 + 1)) (((l95.length : Nat) : Int)), IntKind.wrap .i64 (qa2 - 1))))
noncomputable def h_stack_Queue_string_Pop_p0_rii : Hn Try.prog := .mc 0 1 3 (.mc 0 2 3 (.cl ok_stack_Queue_string_Len_p0_rii [] (.tw 8 (.nil) (.mix [] [0, 1, 2, 3, 4, 5, 6, 7, 8, 9, 10] [] [] (.mix [] [0, 1, 2, 3, 4, 5, 6, 7, 8, 9] [10] [] (.mix [] [0, 1, 2, 3, 4, 5, 6, 7, 8, 9, 10, 11, 12, 13] [14] [] (.nil)))))))
noncomputable def sp_stack_Queue_string_Pop_p0_rii : Spec := ⟨28, ⟨[(0, .ptr 0 0)], [⟨none, 52, [.own 9 .str, .dat (.int .i64), .dat (.int .i64)], false, false, none, false⟩]⟩, [⟨[(0, .tup [.dat .str, .dat .bool])], [⟨(some 0), 52, [.own 9 .str, .dat (.int .i64), .dat (.int .i64)], false, false, none, false⟩]⟩], fun x => fn_stack_Queue_string_Pop_p0_rii x.1 x.2.1 x.2.2⟩
theorem stack_Queue_string_Pop_p0_rii_is : SpecOk Try.prog sp_stack_Queue_string_Pop_p0_rii := fn_is Try.func28 h_stack_Queue_string_Pop_p0_rii (by kernel_rfl) (by kernel_rfl)
noncomputable def ok_stack_Queue_string_Pop_p0_rii : OkSpec Try.prog := ⟨sp_stack_Queue_string_Pop_p0_rii, stack_Queue_string_Pop_p0_rii_is, Try.call28⟩

noncomputable def fn_stack_Stack_int_Push_zk (xb : (List Int)) : Option Unit :=
  some (())
noncomputable def h_stack_Stack_int_Push_zk : Hn Try.prog := .nil
noncomputable def sp_stack_Stack_int_Push_zk : Spec := ⟨7, ⟨[(0, .nilp), (1, .dat (.sl (.int .i64)))], []⟩, [⟨[], []⟩], fun x => fn_stack_Stack_int_Push_zk x⟩
theorem stack_Stack_int_Push_zk_is : SpecOk Try.prog sp_stack_Stack_int_Push_zk := fn_is Try.func7 h_stack_Stack_int_Push_zk (by kernel_rfl) (by kernel_rfl)
noncomputable def ok_stack_Stack_int_Push_zk : OkSpec Try.prog := ⟨sp_stack_Stack_int_Push_zk, stack_Stack_int_Push_zk_is, Try.call7⟩

noncomputable def fn_stack_Queue_int_Push_zk (xb : (List Int)) : Option Unit :=
  some (())
noncomputable def h_stack_Queue_int_Push_zk : Hn Try.prog := .nil
noncomputable def sp_stack_Queue_int_Push_zk : Spec := ⟨16, ⟨[(0, .nilp), (1, .dat (.sl (.int .i64)))], []⟩, [⟨[], []⟩], fun x => fn_stack_Queue_int_Push_zk x⟩
theorem stack_Queue_int_Push_zk_is : SpecOk Try.prog sp_stack_Queue_int_Push_zk := fn_is Try.func16 h_stack_Queue_int_Push_zk (by kernel_rfl) (by kernel_rfl)
noncomputable def ok_stack_Queue_int_Push_zk : OkSpec Try.prog := ⟨sp_stack_Queue_int_Push_zk, stack_Queue_int_Push_zk_is, Try.call16⟩

noncomputable def fn_stack_Queue_int_Len_z  : Option Int :=
  some (0)
noncomputable def h_stack_Queue_int_Len_z : Hn Try.prog := .nil
noncomputable def sp_stack_Queue_int_Len_z : Spec := ⟨22, ⟨[(0, .nilp)], []⟩, [⟨[(0, .dat (.int .i64))], []⟩], fun x => fn_stack_Queue_int_Len_z⟩
theorem stack_Queue_int_Len_z_is : SpecOk Try.prog sp_stack_Queue_int_Len_z := fn_is Try.func22 h_stack_Queue_int_Len_z (by kernel_rfl) (by kernel_rfl)
noncomputable def ok_stack_Queue_int_Len_z : OkSpec Try.prog := ⟨sp_stack_Queue_int_Len_z, stack_Queue_int_Len_z_is, Try.call22⟩

noncomputable def fn_stack_Queue_int_Pop_z  : Option (Int × Bool) :=
  (fn_stack_Queue_int_Len_z).bind fun i13 => cond (decide (i13 = 0)) (some ((0, false))) (none)
noncomputable def h_stack_Queue_int_Pop_z : Hn Try.prog := .cl ok_stack_Queue_int_Len_z [] (.tw 8 (.nil) (.mix [] [0, 1, 2, 3, 4, 5, 6, 7, 8, 9, 10] [] [] (.nil)))
noncomputable def sp_stack_Queue_int_Pop_z : Spec := ⟨19, ⟨[(0, .nilp)], []⟩, [⟨[(0, .tup [.dat (.int .i64), .dat .bool])], []⟩], fun x => fn_stack_Queue_int_Pop_z⟩
theorem stack_Queue_int_Pop_z_is : SpecOk Try.prog sp_stack_Queue_int_Pop_z := fn_is Try.func19 h_stack_Queue_int_Pop_z (by kernel_rfl) (by kernel_rfl)
noncomputable def ok_stack_Queue_int_Pop_z : OkSpec Try.prog := ⟨sp_stack_Queue_int_Pop_z, stack_Queue_int_Pop_z_is, Try.call19⟩

noncomputable def fn_stack_Work_int_Pop_z  : Option (Int × Bool) :=
  some ((0, false))
noncomputable def h_stack_Work_int_Pop_z : Hn Try.prog := .nil
noncomputable def sp_stack_Work_int_Pop_z : Spec := ⟨21, ⟨[(0, .nilp)], []⟩, [⟨[(0, .tup [.dat (.int .i64), .dat .bool])], []⟩], fun x => fn_stack_Work_int_Pop_z⟩
theorem stack_Work_int_Pop_z_is : SpecOk Try.prog sp_stack_Work_int_Pop_z := fn_is Try.func21 h_stack_Work_int_Pop_z (by kernel_rfl) (by kernel_rfl)
noncomputable def ok_stack_Work_int_Pop_z : OkSpec Try.prog := ⟨sp_stack_Work_int_Pop_z, stack_Work_int_Pop_z_is, Try.call21⟩

noncomputable def fn_stack_Work_int_Push_zi (xb : Int) : Option Bool :=
  some (false)
noncomputable def h_stack_Work_int_Push_zi : Hn Try.prog := .nil
noncomputable def sp_stack_Work_int_Push_zi : Spec := ⟨17, ⟨[(0, .nilp), (1, .dat (.int .i64))], []⟩, [⟨[(0, .dat .bool)], []⟩], fun x => fn_stack_Work_int_Push_zi x⟩
theorem stack_Work_int_Push_zi_is : SpecOk Try.prog sp_stack_Work_int_Push_zi := fn_is Try.func17 h_stack_Work_int_Push_zi (by kernel_rfl) (by kernel_rfl)
noncomputable def ok_stack_Work_int_Push_zi : OkSpec Try.prog := ⟨sp_stack_Work_int_Push_zi, stack_Work_int_Push_zi_is, Try.call17⟩

noncomputable def fn_stack_Work_int_Len_z  : Option Int :=
  some (0)
noncomputable def h_stack_Work_int_Len_z : Hn Try.prog := .nil
noncomputable def sp_stack_Work_int_Len_z : Spec := ⟨23, ⟨[(0, .nilp)], []⟩, [⟨[(0, .dat (.int .i64))], []⟩], fun x => fn_stack_Work_int_Len_z⟩
theorem stack_Work_int_Len_z_is : SpecOk Try.prog sp_stack_Work_int_Len_z := fn_is Try.func23 h_stack_Work_int_Len_z (by kernel_rfl) (by kernel_rfl)
noncomputable def ok_stack_Work_int_Len_z : OkSpec Try.prog := ⟨sp_stack_Work_int_Len_z, stack_Work_int_Len_z_is, Try.call23⟩
noncomputable def fn_stack_Stack_int_Cut_zi_l1 (xb : Int) : (List Int) → Option ((List Int) ⊕ (List Int)) := fun (l251 : (List Int)) => (fn_stack_Stack_int_Len ((none : (Option (List Int))))).bind fun i282 => cond (decide ((if xb < 0 then 0 else xb) < i282)) ((popN_int).bind fun r287 => (app l251 ([r287.1] : List Int)).bind fun z291 => some (.inl z291)) (some (.inr (l251)))
noncomputable def fn_stack_Stack_int_Cut_zi (xb : Int) : Option (List Int) :=
  (loop (fn_stack_Stack_int_Cut_zi_l1 xb) ([]) : Option (List Int)).bind fun l222 => some (l222)
noncomputable def h_stack_Stack_int_Cut_zi : Hn Try.prog := .jn [] ⟨[(5, .own 3 (.int .i64))], []⟩ [] (.lp ⟨[(5, .own 3 (.int .i64))], []⟩ (.cl ok_stack_Stack_int_Len [] (.tw 12 (.cl ok_popN_int [] (.nil)) (.nil)))) (.nil)
noncomputable def sp_stack_Stack_int_Cut_zi : Spec := ⟨13, ⟨[(0, .nilp), (1, .dat (.int .i64))], []⟩, [⟨[(0, .own 3 (.int .i64))], []⟩], fun x => fn_stack_Stack_int_Cut_zi x⟩
theorem stack_Stack_int_Cut_zi_is : SpecOk Try.prog sp_stack_Stack_int_Cut_zi := fn_is Try.func13 h_stack_Stack_int_Cut_zi (by kernel_rfl) (by kernel_rfl)
noncomputable def ok_stack_Stack_int_Cut_zi : OkSpec Try.prog := ⟨sp_stack_Stack_int_Cut_zi, stack_Stack_int_Cut_zi_is, Try.call13⟩
noncomputable def fn_law07_StackTurns_l1 (xa : (List (List UInt8))) : Int → Option (Int ⊕ (Unit ⊕ Bool)) := fun (i1168 : Int) => cond (decide (i1168 < (((xa.length : Nat) : Int)))) ((getI xa i1168).bind fun x1189 => cond (decide (50 < (((x1189.length : Nat) : Int)))) ((fn_law07_awake).bind fun t1201 => some (.inr ((.inr (t1201))))) (some (.inl (IntKind.wrap .i64 (i1168 + 1))))) (some (.inr ((.inl ()))))
noncomputable def fn_law07_StackTurns_l2 (xa : (List (List UInt8))) : (Int × (List (List UInt8)) × (List (List UInt8)) × Int × Int) → Option ((Int × (List (List UInt8)) × (List (List UInt8)) × Int × Int) ⊕ (((List (List UInt8)) × (List (List UInt8)) × Int × Int) ⊕ Bool)) := fun ((i1564, l1565, l1570, i1575, i1576) : (Int × (List (List UInt8)) × (List (List UInt8)) × Int × Int)) => cond (decide (i1564 < (((xa.length : Nat) : Int)))) ((popF_str l1565).bind fun r1649 => (fn_stack_Queue_string_Pop_p0_rii l1570 i1575 i1576).bind fun (s1655, t1656, l1657, i1658, i1659) => (getI xa i1564).bind fun x1668 => (cond (!decide (r1649.1 = x1668)) (some (true)) ((getI xa i1564).bind fun x1689 => some (!decide (s1655 = x1689)))).bind fun t1687 => cond ((t1687 || (!r1649.2.1)) || (!t1656)) (some (.inr ((.inr (false))))) (some (.inl ((IntKind.wrap .i64 (i1564 + 1), r1649.2.2, l1657, i1658, i1659))))) (some (.inr ((.inl (l1565, l1570, i1575, i1576)))))
noncomputable def fn_law07_StackTurns (xa : (List (List UInt8))) : Option Bool :=
  cond (decide (100 < (((xa.length : Nat) : Int)))) ((fn_law07_awake).bind fun t1091 => some (t1091)) ((loop (fn_law07_StackTurns_l1 xa) 0 : Option (Unit ⊕ Bool)).bind fun o => match o with | .inr r => some r | .inl () => (fn_stack_Stack_string_Push_p0k_r xa (([] : (List (List UInt8))))).bind fun l1213 => (fn_stack_Queue_string_Push_p0k_rii xa (([] : (List (List UInt8)))) 0 0).bind fun (l1227, i1228, i1229) => (fn_stack_Stack_string_Cut_p0i_r 0 l1213).bind fun (l1240, l1241) => (fn_stack_Stack_string_Push_p0k_r l1240 (([] : (List (List UInt8))))).bind fun l1262 => (loop (fn_law07_StackTurns_l2 xa) (0, l1262, l1227, i1228, i1229) : Option (((List (List UInt8)) × (List (List UInt8)) × Int × Int) ⊕ Bool)).bind fun o => match o with | .inr r => some r | .inl (l1482, l1487, i1492, i1493) => (fn_stack_Stack_int_Push_zk ([1] : List Int)).bind fun _ => (fn_stack_Queue_int_Push_zk ([1] : List Int)).bind fun _ => (popN_int).bind fun r1727 => (fn_stack_Queue_int_Pop_z).bind fun (i1730, t1731) => (fn_stack_Work_int_Pop_z).bind fun (i1737, t1738) => (fn_stack_Stack_int_Top ((none : (Option (List Int))))).bind fun (i1744, t1745) => (fn_stack_Stack_string_Len (some l1241)).bind fun i1751 => (cond (decide (i1751 = 0)) ((fn_stack_Stack_string_Len (some l1482)).bind fun i1766 => some (decide (i1766 = 0))) (some (false))).bind fun t1762 => cond (t1762) ((fn_stack_Queue_string_Len_p0_rii l1487 i1492 i1493).bind fun (i1786, l1787) => (cond (((((decide (i1786 = 0)) && (!r1727.2)) && (!t1731)) && (!t1738)) && (!t1745)) ((fn_stack_Work_int_Push_zi 1).bind fun t1819 => some (!t1819)) (some (false))).bind fun t1815 => (cond (t1815) ((fn_stack_Stack_int_Len ((none : (Option (List Int))))).bind fun i1834 => some (decide (i1834 = 0))) (some (false))).bind fun t1830 => (cond (t1830) ((fn_stack_Queue_int_Len_z).bind fun i1849 => some (decide (i1849 = 0))) (some (false))).bind fun t1845 => (cond (t1845) ((fn_stack_Work_int_Len_z).bind fun i1864 => some (decide (i1864 = 0))) (some (false))).bind fun t1860 => (cond (t1860) ((fn_stack_Stack_int_Cut_zi 0).bind fun l1883 => some (decide ((((l1883.length : Nat) : Int)) = 0))) (some (false))).bind fun t1879 => (cond (t1879) ((fn_law07_awake).bind fun t1902 => some (t1902)) (some (false))).bind fun t1898 => some (t1898)) (some (false)))
noncomputable def h_law07_StackTurns : Hn Try.prog := .tw 25 (.cl ok_law07_awake [] (.nil)) (.jx [] ⟨[], []⟩ [] (.lp ⟨[(3, .dat (.int .i64))], []⟩ (.tw 30 (.tw 38 (.cl ok_law07_awake [] (.nil)) (.nil)) (.nil))) (.cl ok_stack_Stack_string_Push_p0k_r [] (.cl ok_stack_Queue_string_Push_p0k_rii [] (.cl ok_stack_Stack_string_Cut_p0i_r [] (.cl ok_stack_Stack_string_Push_p0k_r [21] (.jx [] ⟨[(44, .any)], [⟨(some 2), 50, [.own 9 .str], false, false, none, false⟩, ⟨(some 4), 52, [.own 9 .str, .dat (.int .i64), .dat (.int .i64)], false, false, none, false⟩]⟩ [29, 21, 2, 15, 4] (.lp ⟨[(7, .dat (.int .i64))], [⟨(some 2), 50, [.own 9 .str], false, false, none, false⟩, ⟨(some 4), 52, [.own 9 .str, .dat (.int .i64), .dat (.int .i64)], false, false, none, false⟩]⟩ (.tw 49 (.cl ok_pop_str [] (.cl ok_stack_Queue_string_Pop_p0_rii [] (.gj 6 ⟨[(73, .dat .bool)], []⟩ [] (.two 66 (.nil) (.nil)) (.wt 74 (.gp 2 (.wt 78 (.gp 2 (.tw 81 (.nil) (.nil))))))))) (.nil))) (.cl ok_stack_Stack_int_Push_zk [38] (.cl ok_stack_Queue_int_Push_zk [40] (.cl ok_popN_int [] (.cl ok_stack_Queue_int_Pop_z [] (.cl ok_stack_Work_int_Pop_z [] (.cl ok_stack_Stack_int_Top [] (.cl ok_stack_Stack_string_Len [23, 0] (.gj 2 ⟨[(113, .dat .bool)], []⟩ [] (.two 110 (.cl ok_stack_Stack_string_Len [32, 2] (.nil)) (.nil)) (.two 114 (.wt 1000042 (.mc 4 1 37 (.mc 4 2 37 (.cl ok_stack_Queue_string_Len_p0_rii [] (.wt 118 (.gp 2 (.wt 122 (.gp 2 (.wt 126 (.gp 2 (.wt 130 (.gp 2 (.wt 134 (.gj 3 ⟨[(138, .dat .bool)], []⟩ [] (.two 134 (.cl ok_stack_Work_int_Push_zi [] (.nil)) (.nil)) (.wt 139 (.gj 3 ⟨[(143, .dat .bool)], []⟩ [] (.two 139 (.cl ok_stack_Stack_int_Len [] (.nil)) (.nil)) (.wt 144 (.gj 3 ⟨[(148, .dat .bool)], []⟩ [] (.two 144 (.cl ok_stack_Queue_int_Len_z [] (.nil)) (.nil)) (.wt 149 (.gj 3 ⟨[(153, .dat .bool)], []⟩ [] (.two 149 (.cl ok_stack_Work_int_Len_z [] (.nil)) (.nil)) (.wt 154 (.gj 4 ⟨[(159, .dat .bool)], []⟩ [] (.two 154 (.cl ok_stack_Stack_int_Cut_zi [] (.nil)) (.nil)) (.wt 160 (.gj 1 ⟨[(162, .dat .bool)], []⟩ [] (.two 160 (.cl ok_law07_awake [] (.nil)) (.nil)) (.nil))))))))))))))))))))))))) (.nil))))))))))))))))
noncomputable def sp_law07_StackTurns : Spec := ⟨5, ⟨[(0, .dat (.sl .str))], []⟩, [⟨[(0, .dat .bool)], []⟩], fun x => fn_law07_StackTurns x⟩
theorem law07_StackTurns_is : SpecOk Try.prog sp_law07_StackTurns := fn_is Try.func5 h_law07_StackTurns (by kernel_rfl) (by kernel_rfl)
noncomputable def ok_law07_StackTurns : OkSpec Try.prog := ⟨sp_law07_StackTurns, law07_StackTurns_is, Try.call5⟩
end Go.Proofs.Ytgdjfpmjbjkmhaa
namespace Go.Proofs.Ytgdjfpmjbjkmhaa
set_option linter.unusedVariables false
section
variable {σ β : Type} {body : σ → Option (σ ⊕ β)}
theorem loop_nat (st : Nat → σ) (n : Nat) {b : β} (h : ∀ k, k < n → body (st k) = some (.inl (st (k + 1)))) (he : body (st n) = some (.inr b)) : loop body (st 0) = some b := by
  have : ∀ m k, k + m = n → loop body (st k) = some b := by
    intro m
    induction m with
    | zero => intro k hk; have : k = n := by omega
              subst this; exact loop_end he
    | succ m ih => intro k hk; rw [loop_next (h k (by omega))]; exact ih (k + 1) (by omega)
  exact this n 0 (by omega)
theorem least (p : Nat → Prop) : ∀ n, (∃ k, k < n ∧ p k ∧ ∀ j, j < k → ¬ p j) ∨ ∀ j, j < n → ¬ p j
  | 0 => .inr (fun j hj => by omega)
  | n + 1 => by
    rcases least p n with ⟨k, h1, h2, h3⟩ | h
    · exact .inl ⟨k, by omega, h2, h3⟩
    · by_cases hp : p n
      · exact .inl ⟨n, by omega, hp, h⟩
      · exact .inr (fun j hj => if e : j = n then e ▸ hp else h j (by omega))
theorem loop_find (p : Nat → Prop) (st : Nat → σ) (n : Nat) (hit : Nat → β) (e : β) (hgo : ∀ k, k < n → ¬ p k → body (st k) = some (.inl (st (k + 1)))) (hhit : ∀ k, k < n → p k → body (st k) = some (.inr (hit k))) (hend : body (st n) = some (.inr e)) :
    (∃ k, k < n ∧ p k ∧ (∀ j, j < k → ¬ p j) ∧ loop body (st 0) = some (hit k)) ∨ ((∀ j, j < n → ¬ p j) ∧ loop body (st 0) = some e) := by
  rcases least p n with ⟨k, h1, h2, h3⟩ | h
  · exact .inl ⟨k, h1, h2, h3, loop_nat st k (fun j hj => hgo j (by omega) (h3 j hj)) (hhit k h1 h2)⟩
  · exact .inr ⟨h, loop_nat st n (fun k hk => hgo k hk (h k hk)) hend⟩
open Classical in
theorem loop_any (p : Nat → Prop) (st : Nat → σ) (n : Nat) (b e : β) (hgo : ∀ k, k < n → ¬ p k → body (st k) = some (.inl (st (k + 1)))) (hhit : ∀ k, k < n → p k → body (st k) = some (.inr b)) (hend : body (st n) = some (.inr e)) :
    loop body (st 0) = some (if ∃ k, k < n ∧ p k then b else e) := by
  rcases loop_find p st n (fun _ => b) e hgo hhit hend with ⟨k, h1, h2, h3, h4⟩ | ⟨h1, h2⟩
  · rw [if_pos ⟨k, h1, h2⟩]; exact h4
  · rw [if_neg (fun ⟨k, h3, h4⟩ => h1 k h3 h4)]; exact h2
end
theorem w64 {x : Int} (h1 : -9223372036854775808 ≤ x) (h2 : x ≤ 9223372036854775807) : IntKind.wrap .i64 x = x := by
  rw [IntWalk.i64_left, IntWalk.wrap64_in _ ⟨h1, h2⟩]
theorem w64s {k n : Nat} (h : k < n) (hn : n ≤ 9223372036854775807) : IntKind.wrap .i64 ((k : Int) + 1) = ((k + 1 : Nat) : Int) := by
  rw [w64 (by omega) (by omega)]; rfl
theorem ne_list {α : Type} {xs ys : List α} (h : xs.length = ys.length) : (∃ k, k < xs.length ∧ xs[k]? ≠ ys[k]?) ↔ xs ≠ ys := by
  constructor
  · rintro ⟨k, _, h2⟩ rfl; exact h2 rfl
  · intro hne
    rcases least (fun k => xs[k]? ≠ ys[k]?) xs.length with ⟨k, h1, h2, _⟩ | h'
    · exact ⟨k, h1, h2⟩
    · exfalso; apply hne
      apply List.ext_getElem? 
      intro k
      by_cases hk : k < xs.length
      · exact Classical.byContradiction (fun hc => h' k hk hc)
      · rw [List.getElem?_eq_none (by omega), List.getElem?_eq_none (by omega)]
theorem getN {α : Type} {l : List α} {k : Nat} (h : k < l.length) : getI l (k : Int) = some l[k] := getI_eq rfl h
theorem any_ex {α : Type} {t : α → Bool} {l : List α} : l.any t = true ↔ ∃ k, k < l.length ∧ (l[k]?.map t) = some true := by
  rw [List.any_eq_true]
  constructor
  · rintro ⟨x, hx, h⟩
    obtain ⟨k, hk, rfl⟩ := List.getElem_of_mem hx
    exact ⟨k, hk, by simp [hk, h]⟩
  · rintro ⟨k, hk, h⟩
    exact ⟨l[k], List.getElem_mem hk, by simpa [hk] using h⟩
/-- A list searched. -/
theorem loop_one {α β : Type} (xa : List α) (t : α → Bool) (hit e : β) (hn : xa.length ≤ 9223372036854775807) :
    loop (fun (i : Int) => (cond (decide (i < ((xa.length : Nat) : Int))) ((getI xa i).bind fun x => cond (t x) (some (.inr hit)) (some (.inl (IntKind.wrap .i64 (i + 1))))) (some (.inr e)) : Option (Int ⊕ β))) 0 = some (if xa.any t then hit else e) := by
  classical
  have h := loop_any (body := fun (i : Int) => (cond (decide (i < ((xa.length : Nat) : Int))) ((getI xa i).bind fun x => cond (t x) (some (.inr hit)) (some (.inl (IntKind.wrap .i64 (i + 1))))) (some (.inr e)) : Option (Int ⊕ β)))
    (fun k => (xa[k]?.map t) = some true) (fun k : Nat => (k : Int)) xa.length hit e ?_ ?_ ?_
  · refine h.trans ?_
    by_cases hh : xa.any t = true
    · rw [if_pos (any_ex.1 hh), if_pos hh]
    · rw [if_neg (fun h => hh (any_ex.2 h)), if_neg hh]
  · intro k hk hp
    simp [hk] at hp
    simp [hk, getN hk, hp, w64s hk hn]
  · intro k hk hp
    simp [hk] at hp
    simp [hk, getN hk, hp]
  · simp
/-- Two lists searched, hand in hand. -/
theorem loop_two {α γ β : Type} (xa : List α) (xb : List γ) (t : α → γ → Bool) (hit e : β) (hl : xa.length = xb.length) (hn : xa.length ≤ 9223372036854775807) :
    loop (fun (i : Int) => (cond (decide (i < ((xa.length : Nat) : Int))) ((getI xa i).bind fun x => (getI xb i).bind fun y => cond (t x y) (some (.inr hit)) (some (.inl (IntKind.wrap .i64 (i + 1))))) (some (.inr e)) : Option (Int ⊕ β))) 0 = some (if (xa.zip xb).any (fun p => t p.1 p.2) then hit else e) := by
  classical
  have hz : (xa.zip xb).length = xa.length := by simp [hl]
  have h := loop_any (body := fun (i : Int) => (cond (decide (i < ((xa.length : Nat) : Int))) ((getI xa i).bind fun x => (getI xb i).bind fun y => cond (t x y) (some (.inr hit)) (some (.inl (IntKind.wrap .i64 (i + 1))))) (some (.inr e)) : Option (Int ⊕ β)))
    (fun k => ((xa.zip xb)[k]?.map fun p => t p.1 p.2) = some true) (fun k : Nat => (k : Int)) xa.length hit e ?_ ?_ ?_
  · refine h.trans ?_
    have ha := any_ex (t := fun p : α × γ => t p.1 p.2) (l := xa.zip xb)
    rw [hz] at ha
    by_cases hh : (xa.zip xb).any (fun p => t p.1 p.2) = true
    · rw [if_pos (ha.1 hh), if_pos hh]
    · rw [if_neg (fun h => hh (ha.2 h)), if_neg hh]
  · intro k hk hp
    have hk2 : k < xb.length := by omega
    have hk3 : k < (xa.zip xb).length := by omega
    have hz3 : (xa.zip xb)[k]? = some (xa[k], xb[k]) := by rw [List.getElem?_eq_getElem hk3, List.getElem_zip]
    rw [hz3] at hp
    simp at hp
    simp [hk, getN hk, getN hk2, hp, w64s hk hn]
  · intro k hk hp
    have hk2 : k < xb.length := by omega
    have hk3 : k < (xa.zip xb).length := by omega
    have hz3 : (xa.zip xb)[k]? = some (xa[k], xb[k]) := by rw [List.getElem?_eq_getElem hk3, List.getElem_zip]
    rw [hz3] at hp
    simp at hp
    simp [hk, getN hk, getN hk2, hp]
  · simp
theorem zip_any_ne {α : Type} [DecidableEq α] {xs ys : List α} (h : xs.length = ys.length) : (xs.zip ys).any (fun p => !decide (p.1 = p.2)) = !decide (xs = ys) := by
  induction xs generalizing ys with
  | nil => cases ys with
    | nil => rfl
    | cons => cases h
  | cons x xs ih => cases ys with
    | nil => cases h
    | cons y ys =>
      simp only [List.zip_cons_cons, List.any_cons, ih (by simpa using h), List.cons.injEq]
      by_cases h1 : x = y <;> simp [h1]
/-- A list searched for a place. -/
theorem loop_idx {α γ : Type} (xa : List α) (t : α → γ → Bool) (q : γ) (hn : xa.length ≤ 9223372036854775807) :
    ∃ r, loop (fun ((i, c) : Int × γ) => (cond (decide (i < ((xa.length : Nat) : Int))) ((getI xa i).bind fun x => cond (t x c) (some (.inr (.inr (i, c)))) (some (.inl (IntKind.wrap .i64 (i + 1), c)))) (some (.inr (.inl c))) : Option ((Int × γ) ⊕ (γ ⊕ (Int × γ))))) (0, q) = some r ∧ ((r = .inl q ∧ xa.any (t · q) = false) ∨ ∃ k : Nat, r = .inr ((k : Int), q) ∧ xa.any (t · q) = true) := by
  have h := loop_find (body := fun ((i, c) : Int × γ) => (cond (decide (i < ((xa.length : Nat) : Int))) ((getI xa i).bind fun x => cond (t x c) (some (.inr (.inr (i, c)))) (some (.inl (IntKind.wrap .i64 (i + 1), c)))) (some (.inr (.inl c))) : Option ((Int × γ) ⊕ (γ ⊕ (Int × γ)))))
    (fun k => (xa[k]?.map (t · q)) = some true) (fun k : Nat => ((k : Int), q)) xa.length (fun k => .inr ((k : Int), q)) (.inl q) ?_ ?_ ?_
  · rcases h with ⟨k, h1, h2, _, h3⟩ | ⟨h1, h2⟩
    · exact ⟨_, h3, .inr ⟨k, rfl, any_ex.2 ⟨k, h1, h2⟩⟩⟩
    · refine ⟨_, h2, .inl ⟨rfl, ?_⟩⟩
      cases hh : xa.any (t · q) with
      | false => rfl
      | true => obtain ⟨k, h3, h4⟩ := any_ex.1 hh; exact absurd h4 (h1 k h3)
  · intro k hk hp
    simp [hk] at hp
    simp [hk, getN hk, hp, w64s hk hn]
  · intro k hk hp
    simp [hk] at hp
    simp [hk, getN hk, hp]
  · simp
/-- A list gone through, with something carried along. -/
theorem loop_fold {α γ : Type} (xa : List α) (f : γ → α → γ) (c0 : γ) (hn : xa.length ≤ 9223372036854775807) {body : γ × Int → Option ((γ × Int) ⊕ γ)}
    (hb : ∀ k x, xa[k]? = some x → body ((xa.take k).foldl f c0, (k : Int)) = some (.inl (f ((xa.take k).foldl f c0) x, IntKind.wrap .i64 ((k : Int) + 1)))) (he : body (xa.foldl f c0, (xa.length : Int)) = some (.inr (xa.foldl f c0))) : loop body (c0, 0) = some (xa.foldl f c0) := by
  have h := loop_nat (body := body) (fun k : Nat => ((xa.take k).foldl f c0, (k : Int))) xa.length (b := xa.foldl f c0) ?_ ?_
  · simpa using h
  · intro k hk
    rw [hb k xa[k] (by simp [hk]), w64s hk hn]
    congr 3
    rw [List.take_succ_eq_append_getElem hk, List.foldl_append]; rfl
  · simpa using he
theorem foldl_snoc {α γ : Type} (g : α → γ) (xa : List α) (c : List γ) : xa.foldl (fun c x => c ++ [g x]) c = c ++ xa.map g := by
  induction xa generalizing c with
  | nil => simp
  | cons x xa ih => simp [ih]
/-- A list built by going through another. -/
theorem loop_map {α γ : Type} (xa : List α) (g : α → γ) (c0 : List γ) (hn : c0.length + xa.length ≤ 1073741824) {body : List γ × Int → Option ((List γ × Int) ⊕ List γ)}
    (hb : ∀ (c : List γ) (i : Int), body (c, i) = cond (decide (i < ((xa.length : Nat) : Int))) ((getI xa i).bind fun x => (app c [g x]).bind fun z => some (.inl (z, IntKind.wrap .i64 (i + 1)))) (some (.inr c))) : loop body (c0, 0) = some (c0 ++ xa.map g) := by
  rw [← foldl_snoc]
  refine loop_fold xa (fun c x => c ++ [g x]) c0 (by omega) (fun k x hx => ?_) ?_
  · have hk := (List.getElem?_eq_some_iff.1 hx).1
    rw [hb, foldl_snoc]
    have hx' : xa[k] = x := by rw [List.getElem?_eq_getElem hk] at hx; exact Option.some.inj hx
    have ha := app_eq (a := c0 ++ (xa.take k).map g) (b := [g x]) (by simp; omega)
    simp only [Option.bind_some, getN hk, hx', ha, Int.ofNat_lt.2 hk, decide_true, cond_true]
  · rw [hb]; simp
end Go.Proofs.Ytgdjfpmjbjkmhaa

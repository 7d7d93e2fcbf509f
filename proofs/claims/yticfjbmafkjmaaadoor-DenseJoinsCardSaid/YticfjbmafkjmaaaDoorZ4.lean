/- A part of the proof: what lies ahead of the law. Nothing is claimed here. -/
import Derived.Test.YticfjbmafkjmaaaDoorZ3
import Derived.RangeFuncRecord
import Derived.Shelf.Spec.TrailingZeros
import Derived.Test.YticfjbmafkjmaaaDoorProg
import Derived.Test.YticfjbmafkjmaaaDoorRows
import Derived.Lib.RowBridge
import Derived.KernelRfl
namespace Go.Proofs.YticfjbmafkjmaaaDoor
open Go.RowKit
set_option linter.unusedVariables false
set_option linter.unusedSimpArgs false
set_option linter.unnecessarySimpa false
set_option linter.unusedSectionVars false
variable [BldA]
/-! ### Marks at the end of a function. -/
def Hp.del (K : Hp) (D : Nat) : Hp := fun n => if n = D then none else K n
theorem Hp.cle_del {K : Hp} {D : Nat} {x : Option (List Deferred)} (h : K D = some (.deferred x)) : K.cle (K.del D) := fun g o v e => by
  unfold cellK Hp.del at *
  by_cases hg : g = D
  · subst hg; rw [h] at e; cases e
  · rw [if_neg hg]; exact e
section
variable {P : Program} {E : En} {n : Nat} {m : List M} {K : Hp} {fr : Frz} {σ : Zt} {ρ : Sl1} {w : World}
theorem Rel.unmark (hr : Rel E fr σ m K ρ w) {K2 : Hp} {w2 : World} (hc : K.cle K2) (hk : fr.K.le K2) (h0 : fr.k0.le K2) (hs : Sep E K2 (σ.atoms fr m) w2) : Rel E fr ⟨σ.base, σ.top, σ.H, σ.Hf, σ.nx, false⟩ m K2 ⟨ρ.f, []⟩ w2 where
  hm := hr.hm
  hK := hk
  nx := hr.nx
  kq := fun e => (by cases e)
  base := hr.base
  dead := hr.dead
  old := hr.old
  top := fun i sv hi => SV.monoC (fun _ _ h => h) hc sv (hr.top i sv hi)
  okH := fun a ha => HA.ok_monoC (fun _ _ h => h) hc (hr.okH a ha)
  okF := hr.okF
  mks := MOk.nil hr.mks.1.1 h0
  sep := hs
theorem marks_leave {fn : Func} {tmps : Array Value} {R : Ending → World → Prop} {L : List Atom} {k0 : Hp} : ∀ (ds : List Deferred) {K : Hp} {w : World}, MOk k0 K ds → Sep E K L w →
    (∀ K2 w2, K.cle K2 → k0.le K2 → Sep E K2 L w2 → ∃ v, (results fn tmps).run P w2 = .ok v w2 ∧ R (.returned v) w2) → LeavesInM Fence.wide 0 P fn tmps R ds .returning w
  | [], K, w, hm, hs, h => h K w (Hp.cle_refl K) hm.1.2 hs
  | d :: ds, K, w, hm, hs, h => by
    obtain ⟨D, rfl, hD, h0⟩ := hm.2.1 d (by simp)
    have hw : w.heap[D]? = some (.deferred (some [])) := hs.sub D _ hD
    have hnd := List.nodup_cons.1 hm.2.2
    refine ⟨by simp, .inl ⟨D, w.putObj D (.deferred none), rfl, run_takeDeferred hw, ?_⟩⟩
    have other : ∀ (k : Nat) (o : Obj), k ≠ D → w.heap[k]? = some o → (w.putObj D (.deferred none)).heap[k]? = some o := fun k o hne e => by rw [World.putObj_heap_other hne]; exact e
    have hs1 : Sep E (K.del D) L (w.putObj D (.deferred none)) := by
      refine Sep.move (w := w) (w' := w.putObj D (.deferred none)) (fun e => e) hs (fun k o e => ?_) (fun k o e e1 => ?_)
      · unfold Hp.del at e
        split at e
        · cases e
        · rename_i hne; exact other k o hne (hs.sub k o e)
      · have hne : k ≠ D := fun e2 => by rw [e2, hD] at e1; cases e1
        exact ⟨by unfold Hp.del; rw [if_neg hne]; exact e1, other k o hne e⟩
    refine marks_leave ds ⟨⟨hm.1.1, fun k o e => ?_⟩, fun d' hd' => ?_, hnd.2⟩ hs1 (fun K2 w2 c1 c2 c3 => h K2 w2 ((Hp.cle_del hD).trans c1) c2 c3)
    · unfold Hp.del
      rw [if_neg (fun e2 => by rw [e2, h0] at e; cases e)]
      exact hm.1.2 k o e
    · obtain ⟨D', rfl, h1, h2⟩ := hm.2.1 d' (List.mem_cons_of_mem _ hd')
      refine ⟨D', rfl, ?_, h2⟩
      unfold Hp.del
      rw [if_neg (fun e => hnd.1 (by rw [← e]; exact hd'))]
      exact h1
end
/-! ### Records of loops. -/
section
variable {P : Program} {E : En} {K : Hp} {L : List Atom} {w : World}
theorem LpA.at {l : Nat} {r : Loop} (h : Sep E K (LpA l r :: L) w) : w.heap[l]? = some (.loop r) := by
  obtain ⟨h1, rfl, hd, hs⟩ := h
  exact hs.sub l _ (Hp.join_right (one_of l _) (hd l _ (one_of l _)))
theorem LpA.put {l : Nat} {r r' : Loop} (h : Sep E K (LpA l r :: L) w) : Sep E K (LpA l r' :: L) (w.putObj l (.loop r')) := by
  have hw := LpA.at h
  have hlt := (Array.getElem?_eq_some_iff.1 hw).1
  refine Sep.turn h (fun e => e) (fun h1 hA hle => ?_)
  obtain rfl := hA
  refine ⟨one l (.loop r'), rfl, fun n o e => ?_, fun n o e e1 => ?_⟩
  · obtain ⟨rfl, rfl⟩ := one_some e
    exact ⟨World.putObj_heap_same hlt, fun e2 => by rw [one_of] at e2; cases e2⟩
  · have hne : n ≠ l := fun e2 => by subst e2; rw [one_of] at e1; cases e1
    rw [World.putObj_heap_other hne]; exact e
theorem enter_inner {l₀ : Nat} {r₀ : Loop} (h : w.heap[l₀]? = some (.loop r₀)) (fn : FuncId) (tmps : Array Value) (ps : Array Tmp) (assign body : Code) :
    (Instr.enterLoop fn tmps ps assign body (some l₀)).run P w =
      .ok (w.heap.size, []) (w.alloc (.loop { state := .ready, pending := none, fn, tmps, params := ps, assign, body, defers := r₀.defers })) := by
  unfold Instr.enterLoop
  simp only [Sem.run_bind, run_getLoop h, run_newObj_alloc, Result.andThen, Sem.run_pure]
/-- A new block of whatever kind. -/
theorem Sep.allocO (h : Sep E K L w) (o : Obj) : Sep E K ((fun hh => hh = one w.heap.size o) :: L) (w.alloc o) :=
  Sep.turn h.emp (fun e => e) (fun h0 ha _ => by
    unfold _root_.Go.Proofs.YticfjbmafkjmaaaDoor.emp at ha; subst ha
    refine ⟨one w.heap.size o, rfl, fun n x e => ?_, fun n x e _ => ?_⟩
    · obtain ⟨rfl, rfl⟩ := one_some e
      exact ⟨World.alloc_heap_new w _, fun _ => Array.getElem?_eq_none (Nat.le_refl _)⟩
    · rw [Below.heap_alloc _ _ _ (lt_of_block e)]; exact e)
theorem Sep.known {o : Obj} {b : Nat} (h : Sep E K ((fun hh => hh = one b o) :: L) w) : Sep E (K.join (one b o)) L w ∧ K b = none := by
  obtain ⟨h1, rfl, hd, hs⟩ := h
  exact ⟨hs, hd b _ (one_of b o)⟩
end
/-! ### A round. -/
def busyR (r : Loop) : Loop := { r with state := .busy, pending := none }
/-- What a frame stands within. -/
def RdOk (E : En) (fr : Frz) : Prop := ∀ l, E.rd = some l → ∃ r, LpA l r ∈ fr.F
section
variable {R : Type} {P : Program} {E : En} {n : Nat} {m m' : List M} {K K' : Hp} {fr : Frz} {σ σ' : Zt} {ρ ρ' : Sl1} {w w' : World}
/-- What a piece of code does, run at states. -/
def Fok (P : Program) (n : Nat) (c : Code) (f : Hn P → Zt → (R : Type) → (Exit → Hn P → Zt → Option R) → Option R) : Prop :=
  ∀ (R : Type) (E : En) (fr : Frz), RdOk E fr → ∀ (h : Hn P) (σ : Zt) (k : Exit → Hn P → Zt → Option R) (r : R) (m : List M) (K : Hp) (ρ : Sl1) (w : World) (Q : Exit → Act → World → Prop), f h σ R k = some r → Rel E fr σ m K ρ w →
    (∀ e h' σ' m' K' ρ' w', Rel E fr σ' m' K' ρ' w' → Same σ σ' → k e h' σ' = some r → Q e (act1 n ρ') w') → c.wpIn (wideR E.rd) 0 P Q (act1 n ρ) w
def JOk (J : Rn P) : Prop := ∀ n c, Fok P n c (fun h σ R k => J n c R h σ k)
def setV : List Nat → List Value → Sl0 → Sl0
  | p :: ps, x :: xs, f => setV ps xs (upd f p x)
  | _, _, f => f
theorem frm_set {ρ : Sl0} {p : Nat} {v : Value} : (frm n ρ).setIfInBounds p v = frm n (upd ρ p v) := by
  have h := congrArg Act.tmps (Go.Proofs.YticfjbmafkjmaaaDoor.put_act n ρ p v)
  unfold act Act.put at h
  exact h
theorem frm_foldl : ∀ (ps : List Nat) (xs : List Value) (ρ : Sl0), (ps.zip xs).foldl (fun t (q : Nat × Value) => t.setIfInBounds q.1 q.2) (frm n ρ) = frm n (setV ps xs ρ)
  | [], xs, ρ => rfl
  | p :: ps, [], ρ => rfl
  | p :: ps, x :: xs, ρ => by
    show (ps.zip xs).foldl _ ((frm n ρ).setIfInBounds p x) = _
    rw [frm_set]
    exact frm_foldl ps xs (upd ρ p x)
theorem setPs_rel : ∀ (ps : List Nat) {xs : List SV} {us : List Value} {f : Nat → SV} {ρ : Sl0}, SV.relL m K xs us → (∀ i, SV.rel m K (f i) (ρ i)) → ∀ i, SV.rel m K (setPs ps xs f i) (setV ps us ρ i)
  | [], xs, us, f, ρ, h, hf, i => hf i
  | p :: ps, [], us, f, ρ, h, hf, i => by
    obtain rfl := relL_nil h
    exact hf i
  | p :: ps, x :: xs, us, f, ρ, h, hf, i => by
    obtain ⟨u, r, rfl, h1, h2⟩ := relL_cons h
    refine setPs_rel ps (us := r) (ρ := upd ρ p u) h2 (fun j => ?_) i
    show SV.rel m K (bif Nat.beq j p then x else f j) (bif Nat.beq j p then u else ρ j)
    cases Nat.beq j p with
    | true => exact h1
    | false => exact hf j
theorem relL_len2 : ∀ {xs : List SV} {us : List Value}, SV.relL m K xs us → us.length = xs.length
  | [], us, h => by obtain rfl := relL_nil h; rfl
  | x :: xs, us, h => by
    obtain ⟨u, r, rfl, h1, h2⟩ := relL_cons h
    simp [relL_len2 h2]
theorem yldRun_ok {J : Rn P} (hJ : JOk J) {c : SV} {xs : List SV} {h : Hn P} {k : Hn P → Zt → Bool → Option R} {r : R} (hh : yldRun J σ c xs h k = some r) (hr : Rel E fr σ m K ρ w) {us : List Value} {v : Value} (hv : SV.rel m K c v) (hxs : SV.relL m K xs us) {X : Ending → World → Prop}
    (hX : ∀ h' σ' m' K' w' b, Rel E fr σ' m' K' ρ w' → Same σ σ' → k h' σ' b = some r → X (.returned (.bool b)) w') :
    ∃ l, v = .func (.yield l) #[] #[] ∧ ∃ fn tmps ao bo, (Instr.yield l us.toArray).run P w = .ok (.round l fn tmps ao bo) w ∧ RoundIn (wideR E.rd) 0 P l fn tmps ao bo w X := by
  unfold yldRun at hh
  split at hh
  · rename_i i n0 vs0 ps ao bo
    obtain ⟨l, rr, ρ0, rfl, hm, ht, hp, ha, hb, hvs⟩ := hv
    replace hh := bift hh; obtain ⟨hlen, hh⟩ := hh
    have hlen := Nat.eq_of_beq_eq_true hlen
    split at hh
    · rename_i H hq
      obtain ⟨a, ha', hmem, hperm⟩ := pick_spec hq
      obtain rfl := lpR_eq ha'
      have hsub : ∀ a ∈ H, a ∈ σ.H := fun a ha => hperm.symm.subset (List.mem_cons_of_mem _ ha)
      -- the record, ahead
      have hs0 : Sep E K (LpA l (LSt.ready.cr rr) :: (H.map (HA.conc m) ++ σ.fz fr)) w := by
        have := Sep.perm ((hperm.map (HA.conc m)).append_right (σ.fz fr)) hr.toSep
        simpa only [List.map_cons, HA.conc, hm, List.cons_append] using this
      have hw := LpA.at hs0
      have hy := run_yield (P := P) (args := us.toArray) hw (by
        show us.toArray.size = rr.params.size
        rw [hp, List.size_toArray, relL_len2 hxs, hlen])
      refine ⟨l, rfl, _, _, _, _, hy, roundIn_of_wpIn trivial ?_⟩
      have htm : (((LSt.ready.cr rr).params.zip us.toArray).foldl (fun tmps (t, a) => tmps.setIfInBounds t a) (LSt.ready.cr rr).tmps) = frm n0 (setV ps.toList us ρ0) := by
        show ((rr.params.zip us.toArray).foldl _ rr.tmps) = _
        rw [hp, ht, ← Array.foldl_toList, Array.toList_zip]
        exact frm_foldl ps.toList us ρ0
      rw [htm]
      show rr.assign.wpIn (wideR (some l)) 0 P _ (act1 n0 ⟨setV ps.toList us ρ0, []⟩) w
      rw [ha]
      have hE : ∀ (L : List Atom) (K : Hp) (w : World), Sep E K L w → Sep { E with rd := some l } K L w := fun L K w => Sep.rd (E := E) (E' := { E with rd := some l }) (fun w h => h)
      have hE' : ∀ (L : List Atom) (K : Hp) (w : World), Sep { E with rd := some l } K L w → Sep E K L w := fun L K w => Sep.rd (E := { E with rd := some l }) (E' := E) (fun w h => h)
      have mid : ∀ (A B C : List Atom) (x : Atom), (A ++ (B ++ x :: C)).Perm (x :: (A ++ (B ++ C))) := fun A B C x => by
        rw [← List.append_assoc, ← List.append_assoc]; exact List.perm_middle
      have hrel : Rel { E with rd := some l } ⟨m, K, ⟨setV ps.toList us ρ0, []⟩, fun _ => false, LpA l (LSt.ready.cr rr) :: fr.F, K⟩ ⟨setPs ps.toList xs vs0, [], H, σ.Hf, σ.nx, false⟩ m K ⟨setV ps.toList us ρ0, []⟩ w := by
        refine ⟨⟨List.prefix_refl m, Hp.le_refl K, hr.nx, fun e => (by cases e), fun i => setPs_rel ps.toList hxs hvs i, fun i e => (by cases e), fun i _ => .inr rfl, fun i sv e => (by cases e), fun a ha => hr.okH a (hsub a ha), fun a ha => hr.toPur.all a (List.mem_append_right _ ha), MOk.nil hr.mks.gk (Hp.le_refl K)⟩, ?_⟩
        show Sep _ K (H.map (HA.conc m) ++ (σ.Hf.map (HA.conc m) ++ (LpA l (LSt.ready.cr rr) :: fr.F))) w
        refine hE _ _ _ (Sep.perm (mid _ _ _ _).symm ?_)
        rw [hr.toPur.fz']
        exact hs0
      refine hJ n0 ao _ { E with rd := some l } ⟨m, K, ⟨setV ps.toList us ρ0, []⟩, fun _ => false, LpA l (LSt.ready.cr rr) :: fr.F, K⟩ (by intro l2 e; cases e; exact ⟨_, List.mem_cons_self⟩) h _ _ r m K _ w _ hh hrel (fun e h' σ1 m1 K1 ρ1 w1 h1 h2 h3 => ?_)
      cases e with
      | normal =>
        have hs1 : Sep E K1 (LpA l (LSt.ready.cr rr) :: (σ1.H.map (HA.conc m1) ++ (σ1.Hf.map (HA.conc m) ++ fr.F))) w1 := Sep.perm (mid _ _ _ _) (hE' _ _ _ h1.sep)
        have hw1 := LpA.at hs1
        refine ⟨w1.putObj l (.loop (busyR rr)), run_beginRound hw1 rfl, ?_⟩
        have hs2 := LpA.put (r' := (busyR rr)) hs1
        have hrel2 : Rel { E with rd := some l } ⟨m, K, ⟨setV ps.toList us ρ0, []⟩, fun _ => false, LpA l (busyR rr) :: fr.F, K⟩ σ1 m1 K1 ρ1 (w1.putObj l (.loop (busyR rr))) :=
          ⟨⟨h1.hm, h1.hK, h1.nx, h1.kq, h1.base, h1.dead, h1.old, h1.top, h1.okH, h1.okF, h1.mks⟩, hE _ _ _ (Sep.perm (mid _ _ _ _).symm hs2)⟩
        show (LSt.ready.cr rr).body.wpIn (wideR (some l)) 0 P _ (act1 n0 ρ1) _
        rw [show (LSt.ready.cr rr).body = bo from hb]
        refine hJ n0 bo _ { E with rd := some l } ⟨m, K, ⟨setV ps.toList us ρ0, []⟩, fun _ => false, LpA l (busyR rr) :: fr.F, K⟩ (by intro l2 e; cases e; exact ⟨_, List.mem_cons_self⟩) h' σ1 _ r m1 K1 ρ1 _ _ h3 hrel2 (fun e2 h'' σ2 m2 K2 ρ2 w2 g1 g2 g3 => ?_)
        have hs3 : Sep E K2 (LpA l (busyR rr) :: (σ2.H.map (HA.conc m2) ++ (σ2.Hf.map (HA.conc m) ++ fr.F))) w2 := Sep.perm (mid _ _ _ _) (hE' _ _ _ g1.sep)
        have hw3 := LpA.at hs3
        have back : ∀ (s : LSt) (b : Bool) (jump : Option Code), exLst e2 = some (b, s) → b = jump.isNone → s.cr rr = { busyR rr with state := if jump.isNone then .ready else .done, pending := jump } →
            ∃ v w', (Instr.endRound l jump).run P w2 = .ok v w' ∧ X (.returned v) w' := fun s b jump e1 e2 e3 => by
          subst e2
          rw [e1] at g3
          simp only at g3
          refine ⟨_, _, run_endRound jump hw3, ?_⟩
          refine hX h'' ⟨σ.base, σ.top, .lp i s :: σ2.H, σ.Hf, σ2.nx, false⟩ m2 K2 _ _ ?_ ⟨rfl, rfl⟩ g3
          have hm2 : m <+: m2 := g1.hm
          have hK2 : K.le K2 := g1.hK
          have hm2' : ∀ (i : Nat) (x : M), m[i]? = some x → m2[i]? = some x := fun _ _ k => pre_get hm2 k
          refine ⟨⟨hr.hm.trans hm2, hr.hK.trans hK2, g1.nx, fun e => (by cases e), hr.base, hr.dead, hr.old, fun i sv hi => SV.mono hm2' hK2 sv (hr.top i sv hi), fun a ha => ?_, hr.okF, hr.mks.mono hK2⟩, ?_⟩
          · rcases List.mem_cons.1 ha with rfl | ha
            · exact ⟨l, rr, hm2' _ _ hm⟩
            · exact g1.okH a ha
          · have := LpA.put (r' := s.cr rr) hs3
            have hHf : σ2.Hf = σ.Hf := (h2.trans g2).2
            rw [hHf, hr.toPur.fz'] at this
            show Sep E K2 ((HA.lp i s :: σ2.H).map (HA.conc m2) ++ (σ.Hf.map (HA.conc fr.m) ++ fr.F)) _
            simp only [List.map_cons, HA.conc, hm2' _ _ hm, List.cons_append]
            rw [e3] at this ⊢
            exact this
        cases e2 with
        | normal => exact back .ready true none rfl rfl rfl
        | ret => exact back .ret false (some .ret) rfl rfl rfl
        | exit id => exact back (.exit id) false (some (.exit id)) rfl rfl rfl
        | goto t => cases g3
        | panic ch => cases g3
        | outgrown => cases g3
      | exit id => cases h3
      | goto t => cases h3
      | ret => cases h3
      | panic ch => cases h3
      | outgrown => cases h3
    · cases hh
  · cases hh
/-- Another post where an operation leaves. -/
theorem wpIn_post {F : Fence} {N : Nat} {o : Oper} {a : Act} {w : World} {X : Act → World → Prop} {Q Q' : Exit → Act → World → Prop} (hq : ∀ e a w, Q e a w → e ≠ .normal → Q' e a w) (hh : o.wpIn F N P a w X Q) : o.wpIn F N P a w X Q' := by
  unfold Oper.wpIn at *
  refine ⟨hh.1, ?_⟩
  have hh := hh.2
  have lo : LetsOut Q → LetsOut Q' := fun ⟨a, w, h⟩ => ⟨a, w, hq _ _ _ h nofun⟩
  generalize (o.semAt F.round a.eval).run P w = r at *
  cases r with
  | ok x w' =>
    cases x <;> simp only [Oper.uponIn] at hh ⊢ <;>
      first
        | exact hh
        | exact ⟨hh.1, CallsIn.mono hh.2 (fun e w'' he => by cases e <;> first | exact he | exact hq _ _ _ he nofun | exact lo he)⟩
        | exact ⟨hh.1, RowsIn.mono hh.2 (fun _ _ he => he)⟩
        | exact ⟨hh.1, RoundIn.mono hh.2 (fun e w'' he => by cases e <;> first | exact he | exact hq _ _ _ he nofun | exact lo he)⟩
        | exact hh.elim
  | halt x w' => cases x <;> simp only [Oper.uponIn] at hh ⊢ <;> first | exact hq _ _ _ hh nofun | exact lo hh | exact hh
/-- A list of plain operations ahead of others. -/
theorem wpListIn_app {r : Option Nat} {ops : Array Oper} {Q : Exit → Act → World → Prop} {rest : List Oper} : ∀ {l : List Oper} {a : Act} {w : World}, l.all nodf = true → wpLs P ops (fun e a w => e = .normal ∧ wpListIn (wideR r) 0 P ops Q rest a w) l a w → wpListIn (wideR r) 0 P ops Q (l ++ rest) a w
  | [], a, w, _, h => h.2
  | o :: l, a, w, hd, h => by
    simp only [List.all_cons, Bool.and_eq_true] at hd
    unfold wpLs at h
    rw [List.cons_append]
    unfold wpListIn
    split
    · rename_i hw; rw [if_pos hw] at h
      exact wpIn_post (fun e a w h hne => absurd h.1 hne) (Oper.wpIn_mono (fun a w h => wpListIn_app hd.2 h) (wpIn_of_wp hd.1 h))
    · rename_i hw; rw [if_neg hw] at h
      exact ⟨fun _ _ => trivial, wpListIn_app hd.2 h⟩
theorem relL_map {f : Operand → SV} {g : Operand → Value} (hf : ∀ x, SV.rel m K (f x) (g x)) : ∀ l : List Operand, SV.relL m K (l.map f) (l.map g)
  | [] => rfl
  | x :: l => ⟨_, _, rfl, hf x, relL_map hf l⟩
theorem yop_ok {J : Rn P} (hJ : JOk J) {o : Oper} {h : Hn P} {k : Hn P → Zt → Option R} {r : R} {ops : Array Oper} {rest : List Oper} {Q : Exit → Act → World → Prop} (hh : yop J n o h σ k = some r) (hr : Rel E fr σ m K ρ w)
    (hk : ∀ h' σ' m' K' ρ' w', Rel E fr σ' m' K' ρ' w' → Same σ σ' → k h' σ' = some r → wpListIn (wideR E.rd) 0 P ops Q rest (act1 n ρ') w') : wpListIn (wideR E.rd) 0 P ops Q (o :: rest) (act1 n ρ) w := by
  unfold yop at hh
  split at hh
  · rename_i d c args ats t pos af
    obtain ⟨l, hv, fn, tmps, ao, bo, hy, hround⟩ := yldRun_ok hJ hh hr (hr.toPur.ev n c) (relL_map (fun x => hr.toPur.evr n x) args.toList)
      (X := fun e w'' => match e with
        | .returned v => wpListIn (wideR E.rd) 0 P ops Q rest ((act1 n ρ).put (some d) v) w''
        | .panicked chain => Q (.panic chain) (act1 n ρ) w''
        | .outgrown => LetsOut Q)
      (fun h' σ' m' K' w' b h1 h2 h3 => by
        show wpListIn _ _ _ _ _ _ ((act1 n ρ).put (some d) (.bool b)) _
        rw [put_act1]
        exact hk h' _ m' K' _ w' (h1.set (d := d) (sv := .bool b) (v := .bool b) rfl) h2 h3)
    unfold wpListIn
    rw [if_pos (by simp [Region.wanted])]
    refine ⟨fun _ _ => trivial, ?_⟩
    rw [semR rfl, eval_act1]
    have hrun : (execOp (Go.Proofs.YticfjbmafkjmaaaDoor.ev n ρ.f) ⟨some d, .call ⟨.value c, args, ats⟩, t, pos, af, none⟩).run P w = .ok (.round l fn tmps ao bo) w := by
      have e : (args.toList.map (Go.Proofs.YticfjbmafkjmaaaDoor.ev n ρ.f)).toArray = args.map (Go.Proofs.YticfjbmafkjmaaaDoor.ev n ρ.f) := Array.ext' (by rw [Array.toList_map])
      rw [e] at hy
      have hv' : Go.Proofs.YticfjbmafkjmaaaDoor.ev n ρ.f c = .func (.yield l) #[] #[] := hv
      simp [execOp, resolve, Deferred.ofValue, hv', invoke, hy]
    rw [hrun, Oper.uponIn_round]
    refine ⟨fun hh => (by cases (show false = true from hh)), hround.mono (fun e w'' he => ?_)⟩
    cases e <;> exact he
  · cases hh
theorem slA_look : ∀ {vs : List SV} {us : List Value} {j i : Nat} {sv : SV}, SV.relL m K vs us → look (slA j vs) i = some sv → ∃ k u, i = j + k ∧ us[k]? = some u ∧ SV.rel m K sv u
  | [], us, j, i, sv, h, hl => by cases hl
  | v :: vs, us, j, i, sv, h, hl => by
    obtain ⟨u, q, rfl, h1, h2⟩ := relL_cons h
    change (bif Nat.beq j i then some v else look (slA (j + 1) vs) i) = some sv at hl
    cases hb : Nat.beq j i with
    | true =>
      rw [hb] at hl
      cases hl
      exact ⟨0, u, (Nat.eq_of_beq_eq_true hb).symm, rfl, h1⟩
    | false =>
      rw [hb] at hl
      obtain ⟨k, u', e1, e2, e3⟩ := slA_look (j := j + 1) h2 hl
      exact ⟨k + 1, u', by omega, by simpa using e2, e3⟩
theorem res_none {fn : Func} {tmps : Array Value} (h : fn.results.isEmpty = true) : ∃ v, (results fn tmps).run P w = .ok v w := by
  have h' : fn.results = #[] := by simpa using h
  refine ⟨.tuple #[], ?_⟩
  unfold results
  simp [h']
theorem rg_core {J : Rn P} (hJ : JOk J) {ps : Array Nat} {ao bo : Code} {h0 : Hn P} {k : Exit → Hn P → Zt → Option R} {r : R} {Q : Exit → Act → World → Prop} {q : ItFn P} {c : Code} (hc : q.fn.body = some c) {cs : List SV} {us : List Value} (hus : SV.relL m K cs us)
    (hres : q.fn.results.isEmpty = true) (hlen : cs.length + 1 ≤ q.fn.ntmps)
    (hh : J q.fn.ntmps c R h0 ⟨fun _ => .any, slA 0 (.yld σ.nx n σ.get ps ao bo :: cs), .lp σ.nx .ready :: σ.H, σ.Hf, σ.nx + 1, false⟩ (fun e h σ' =>
          bif exOver e then (match pick (HA.lpR σ.nx) σ'.H with
            | some (s, H) => LSt.go s k h ⟨σ.base, σ.top, H, σ.Hf, σ'.nx, false⟩
            | none => none) else none) = some r)
    (hr : Rel E fr σ m K ρ w) {l : Nat} {mark : List Deferred} {K1 : Hp} {w1 : World} {fn1 : FuncId} {D : Nat}
    (hs1 : Sep E K1 (LpA l { state := .ready, pending := none, fn := fn1, tmps := frm n ρ.f, params := ps, assign := ao, body := bo, defers := D } :: σ.atoms fr m) w1) (hK1 : K.le K1) (hm1 : MOk fr.k0 K1 (mark ++ ρ.ds))
    (hQ : ∀ e h' σ' m' K' ρ' w', Rel E fr σ' m' K' ρ' w' → Same σ σ' → k e h' σ' = some r → Q e (act1 n ρ') w') :
    CallsIn (wideR E.rd) 0 P q.f (#[.func (.yield l) #[] #[]] ++ us.toArray) w1 (rangePost (wideR E.rd) 0 P l Q { act1 n ρ with defers := mark ++ (act1 n ρ).defers }) := by
  obtain ⟨r1, hr1⟩ : ∃ r1 : Loop, r1 = { state := .ready, pending := none, fn := fn1, tmps := frm n ρ.f, params := ps, assign := ao, body := bo, defers := D } := ⟨_, rfl⟩
  rw [← hr1] at hs1
  obtain ⟨args, hargs⟩ : ∃ args : Array Value, args = (Value.func (.yield l) #[] #[] :: us).toArray := ⟨_, rfl⟩
  have hargs' : (#[.func (.yield l) #[] #[]] ++ us.toArray : Array Value) = args := by rw [hargs]; exact Array.ext' (by simp)
  rw [hargs']
  have hp := pre_app m [M.loop l r1]
  have hmm : ∀ (i : Nat) (x : M), m[i]? = some x → (m ++ [M.loop l r1])[i]? = some x := fun _ _ k => pre_get hp k
  have hgn : (m ++ [M.loop l r1])[σ.nx]? = some (.loop l r1) := get_new0 hr.nx
  have hsz : args.size ≤ q.fn.ntmps := by
    rw [hargs, List.size_toArray, List.length_cons, relL_len2 hus]
    exact hlen
  have hall : SV.relL (m ++ [M.loop l r1]) K1 (.yld σ.nx n σ.get ps ao bo :: cs) (Value.func (.yield l) #[] #[] :: us) :=
    ⟨_, _, rfl, ⟨l, r1, ρ.f, rfl, hgn, by rw [hr1], by rw [hr1], by rw [hr1], by rw [hr1], fun j => SV.mono hmm hK1 _ (hr.toPur.get j)⟩, SV.monoL hmm hK1 _ hus⟩
  have hrel : Rel E.out0 ⟨m ++ [M.loop l r1], K1, args1 args, fun _ => false, fr.F, K1⟩ ⟨fun _ => .any, slA 0 (.yld σ.nx n σ.get ps ao bo :: cs), .lp σ.nx .ready :: σ.H, σ.Hf, σ.nx + 1, false⟩ (m ++ [M.loop l r1]) K1 (args1 args) w1 := by
    refine ⟨⟨List.prefix_refl _, Hp.le_refl K1, by simp [hr.nx], fun e => (by cases e), fun i => trivial, fun i e => (by cases e), fun i _ => .inr rfl, fun i sv hi => ?_, fun a ha => ?_, fun a ha => HA.ok_mono hmm hK1 (hr.toPur.all a (List.mem_append_right _ ha)), MOk.nil hm1.gk (Hp.le_refl K1)⟩, ?_⟩
    · obtain ⟨j, u, e1, e2, e3⟩ := slA_look hall hi
      have : args1 args i = u := by
        show args0 args i = u
        unfold args0
        rw [e1, Nat.zero_add, hargs]
        simp [e2]
      rw [this]; exact e3
    · rcases List.mem_cons.1 ha with rfl | ha
      · exact ⟨l, r1, hgn⟩
      · exact HA.ok_mono hmm hK1 (hr.okH a ha)
    · show Sep E.out0 K1 ((HA.lp σ.nx .ready :: σ.H).map (HA.conc (m ++ [M.loop l r1])) ++ (σ.Hf.map (HA.conc (m ++ [M.loop l r1])) ++ fr.F)) w1
      have e1 : σ.H.map (HA.conc (m ++ [M.loop l r1])) = σ.H.map (HA.conc m) := map_conc_mono (K := K) hmm hr.okH
      have e2 : σ.Hf.map (HA.conc (m ++ [M.loop l r1])) = σ.Hf.map (HA.conc fr.m) := (map_conc_mono (K := K) hmm (fun a ha => hr.toPur.all a (List.mem_append_right _ ha))).trans hr.toPur.fz'
      rw [List.map_cons, e1, e2]
      have e3 : HA.conc (m ++ [M.loop l r1]) (.lp σ.nx .ready) = LpA l r1 := by
        simp only [HA.conc, hgn]
        rw [hr1]; rfl
      rw [e3]
      exact hs1.out0
  have key : CallsIn Fence.wide 0 P q.f args w1 (rangePost (wideR E.rd) 0 P l Q { act1 n ρ with defers := mark ++ (act1 n ρ).defers }) := by
    refine callsIn_of_wp_marks (F := Fence.wide) (n := 0) q.at_ hc trivial ?_
    rw [frm_args hsz]
    refine hJ q.fn.ntmps c R E.out0 ⟨m ++ [M.loop l r1], K1, args1 args, fun _ => false, fr.F, K1⟩ (fun l2 e => by cases e) h0 _ _ r _ K1 (args1 args) w1 _ hh hrel (fun e h' σ' m' K' ρ' w' h1 h2 h3 => ?_)
    replace h3 := bift h3; obtain ⟨hov, h3⟩ := h3
    have fini : LeavesInM Fence.wide 0 P q.fn (act1 q.fn.ntmps ρ').tmps (rangePost (wideR E.rd) 0 P l Q { act1 n ρ with defers := mark ++ (act1 n ρ).defers }) ρ'.ds .returning w' := by
      split at h3
      · rename_i s H hq
        obtain ⟨a, ha', hmem, hperm⟩ := pick_spec hq
        obtain rfl := lpR_eq ha'
        have hsub : ∀ a ∈ H, a ∈ σ'.H := fun a ha => hperm.symm.subset (List.mem_cons_of_mem _ ha)
        refine marks_leave ρ'.ds h1.mks h1.toSep (fun K2 w2 c1 c2 c3 => ?_)
        obtain ⟨v, hv⟩ := res_none (P := P) (w := w2) (tmps := (act1 q.fn.ntmps ρ').tmps) hres
        refine ⟨v, hv, ?_⟩
        have g := h1.unmark c1 c2 c2 c3
        have hmp : m ++ [M.loop l r1] <+: m' := g.hm
        have hgn' : m'[σ.nx]? = some (.loop l r1) := pre_get hmp hgn
        have hm2 : m <+: m' := hp.trans hmp
        have hm2' : ∀ (i : Nat) (x : M), m[i]? = some x → m'[i]? = some x := fun _ _ k => pre_get hm2 k
        have e2 : σ'.Hf.map (HA.conc (m ++ [M.loop l r1])) = σ.Hf.map (HA.conc fr.m) := by
          rw [h2.2]
          exact (map_conc_mono (K := K) hmm (fun a ha => hr.toPur.all a (List.mem_append_right _ ha))).trans hr.toPur.fz'
        have hs3 : Sep E K2 (LpA l (s.cr r1) :: (H.map (HA.conc m') ++ (σ.Hf.map (HA.conc fr.m) ++ fr.F))) w2 := by
          have := Sep.perm ((hperm.map (HA.conc m')).append_right (σ'.Hf.map (HA.conc (m ++ [M.loop l r1])) ++ fr.F)) c3.back
          rw [e2] at this
          simpa only [List.map_cons, HA.conc, hgn', List.cons_append] using this
        have hnb : (s.cr r1).state ≠ .busy := by cases s <;> simp [LSt.cr]
        refine ⟨_, _, run_endLoop (LpA.at hs3) hnb, ?_⟩
        have hs4 := (LpA.put (r' := { s.cr r1 with state := .exhausted }) hs3).drop
        have hKK : K.le K2 := hK1.trans c2
        have hrel4 : Rel E fr ⟨σ.base, σ.top, H, σ.Hf, σ'.nx, false⟩ m' K2 ⟨ρ.f, mark ++ ρ.ds⟩ (w2.putObj l (.loop { s.cr r1 with state := .exhausted })) :=
          ⟨⟨hr.hm.trans hm2, hr.hK.trans hKK, g.nx, fun e => (by cases e), hr.base, hr.dead, hr.old, fun i sv hi => SV.mono hm2' hKK sv (hr.top i sv hi), fun a ha => g.okH a (hsub a ha), hr.okF, hm1.mono c2⟩, hs4⟩
        cases s with
        | ready => exact hQ .normal h' _ m' K2 ⟨ρ.f, mark ++ ρ.ds⟩ _ hrel4 ⟨rfl, rfl⟩ h3
        | ret => exact wpIn_ret (hQ .ret h' _ m' K2 ⟨ρ.f, mark ++ ρ.ds⟩ _ hrel4 ⟨rfl, rfl⟩ h3)
        | exit id => exact wpIn_exit (hQ (.exit id) h' _ m' K2 ⟨ρ.f, mark ++ ρ.ds⟩ _ hrel4 ⟨rfl, rfl⟩ h3)
      · cases h3
    cases e with
    | normal => exact fini
    | ret => exact fini
    | exit id => cases hov
    | goto t => cases hov
    | panic ch => cases hov
    | outgrown => cases hov
  exact key
theorem rgRun_ok {J : Rn P} (hJ : JOk J) (hrd : RdOk E fr) {g : Operand} {ps : Array Nat} {ao bo : Code} {h : Hn P} {k : Exit → Hn P → Zt → Option R} {r : R} {Q : Exit → Act → World → Prop} (hh : rgRun J n g ps ao bo h σ k = some r) (hr : Rel E fr σ m K ρ w)
    (hQ : ∀ e h' σ' m' K' ρ' w', Rel E fr σ' m' K' ρ' w' → Same σ σ' → k e h' σ' = some r → Q e (act1 n ρ') w') : (Code.rangeFunc g ps ao bo).wpIn (wideR E.rd) 0 P Q (act1 n ρ) w := by
  unfold rgRun at hh
  split at hh
  · rename_i q h0
    split at hh
    · rename_i f cs e
      split at hh
      · rename_i c hc
        replace hh := bift hh; obtain ⟨hb, hh⟩ := hh
        simp only [Bool.and_eq_true] at hb
        obtain ⟨hb1, hb2, hb3⟩ := hb
        obtain rfl := Nat.eq_of_beq_eq_true hb1
        have hv := hr.toPur.ev n g
        rw [e] at hv
        obtain ⟨us, hv, hus⟩ := hv
        refine wpIn_rangeFunc (fun fn hfn => ?_)
        have tail : ∀ {l : Nat} {mark : List Deferred} {K1 : Hp} {w1 : World} {D : Nat}, (Instr.enterLoop fn (act1 n ρ).tmps ps ao bo E.rd).run P w = .ok (l, mark) w1 →
            Sep E K1 (LpA l { state := .ready, pending := none, fn := fn, tmps := frm n ρ.f, params := ps, assign := ao, body := bo, defers := D } :: σ.atoms fr m) w1 → K.le K1 → MOk fr.k0 K1 (mark ++ ρ.ds) →
            ∃ (l : Nat) (mark : List Deferred) (w₁ : World) (d : Deferred) (w₁' : World) (f : FuncId) (args : Array Value) (w₂ : World),
              (Instr.enterLoop fn (act1 n ρ).tmps ps ao bo (wideR E.rd).round).run P w = .ok (l, mark) w₁ ∧
              (resolve (act1 n ρ).eval (rangeCall g l) 0).run P w₁ = .ok d w₁' ∧
              (∀ f', Target.leads P w₁' d.target d.args = some f' → (wideR E.rd).fn f') ∧
              (invoke d.target d.args).run P w₁' = .ok (.enter f args) w₂ ∧
              ((wideR E.rd).depth.isSome = true → 1 ≤ 0) ∧
              CallsIn (wideR E.rd) (0 - 1) P f args w₂ (rangePost (wideR E.rd) 0 P l Q { act1 n ρ with defers := mark ++ (act1 n ρ).defers }) := fun {l mark K1 w1 D} he hs1 hK1 hm1 => by
          refine ⟨l, mark, w1, { target := .fn (.func q.f) us.toArray, args := #[.func (.yield l) #[] #[]] }, w1, q.f, #[.func (.yield l) #[] #[]] ++ us.toArray, w1, he, ?_, fun _ _ => trivial, ?_, fun hh => (by cases (show false = true from hh)), ?_⟩
          · have hv' : Go.Proofs.YticfjbmafkjmaaaDoor.ev n ρ.f g = .func (.func q.f) #[] us.toArray := hv
            rw [eval_act1]
            have hc2 : Go.Proofs.YticfjbmafkjmaaaDoor.ev n ρ.f (.const (.func (.yield l) #[] #[])) = .func (.yield l) #[] #[] := rfl
            simp [resolve, Deferred.ofValue, hv', hc2]
          · exact q.ent _ _
          · exact rg_core hJ hc hus hb2 (Nat.le_of_ble_eq_true hb3) hh hr hs1 hK1 hm1 hQ
        cases hE : E.rd with
        | none =>
          rw [hE] at tail
          obtain ⟨s1, hD⟩ := (hr.toSep.allocO (.deferred (some []))).known
          have s2 := s1.allocO (.loop { state := .ready, pending := none, fn := fn, tmps := frm n ρ.f, params := ps, assign := ao, body := bo, defers := w.heap.size })
          rw [World.size_alloc] at s2
          refine tail (run_enterLoop_outer fn _ ps ao bo) s2 (Hp.le_join _ _) ⟨⟨hr.mks.1.1, hr.mks.1.2.trans (Hp.le_join _ _)⟩, fun d hd => ?_, ?_⟩
          · rcases List.mem_append.1 hd with hd | hd
            · simp only [List.mem_singleton] at hd
              subst hd
              refine ⟨w.heap.size, rfl, Hp.join_right (one_of _ _) hD, ?_⟩
              cases hk0 : fr.k0 w.heap.size with
              | none => rfl
              | some x => rw [hr.mks.1.2 _ _ hk0] at hD; cases hD
            · obtain ⟨D', e1, e2, e3⟩ := hr.mks.2.1 d hd
              exact ⟨D', e1, Hp.le_join _ _ _ _ e2, e3⟩
          · refine List.nodup_cons.2 ⟨fun hd => ?_, hr.mks.2.2⟩
            obtain ⟨D', e1, e2, e3⟩ := hr.mks.2.1 _ hd
            simp only [Deferred.mk.injEq, Target.collected.injEq, and_true] at e1
            rw [← e1, hD] at e2
            cases e2
        | some l0 =>
          rw [hE] at tail
          obtain ⟨r0, hmem⟩ := hrd l0 hE
          have hw0 : w.heap[l0]? = some (.loop r0) := by
            obtain ⟨i, hi⟩ := List.getElem?_of_mem (show LpA l0 r0 ∈ σ.atoms fr m from List.mem_append_right _ (List.mem_append_right _ hmem))
            exact LpA.at (Sep.front i hi hr.toSep)
          exact tail (enter_inner hw0 fn _ ps ao bo) (hr.toSep.allocO _) (Hp.le_refl K) (by simpa using hr.mks)
      · cases hh
    · cases hh
  · cases hh
end
end Go.Proofs.YticfjbmafkjmaaaDoor
namespace Go.Proofs.YticfjbmafkjmaaaDoor
open Go.RowKit
set_option linter.unusedVariables false
set_option linter.unusedSimpArgs false
set_option linter.unnecessarySimpa false
set_option linter.unusedSectionVars false
variable [BldA]
section
variable {R : Type} {P : Program} {E : En} {n : Nat} {m m' : List M} {K K' : Hp} {fr : Frz} {σ σ' : Zt} {ρ ρ' : Sl1} {w w' : World}
theorem joinN_ok {c : Code} {f : Hn P → Zt → (R : Type) → (Exit → Hn P → Zt → Option R) → Option R} (hf : Fok P n c f) (hrd : RdOk E fr) {s : Sh} {act W : List Nat} {a b : Hn P} {k : Hn P → Zt → Option R} {r : R} {Q : Exit → Act → World → Prop} (h : joinN f s act W a b σ k = some r) (hr : Rel E fr σ m K ρ w)
    (hQ : ∀ h' σ' m' K' ρ' w', Rel E fr σ' m' K' ρ' w' → Same σ σ' → k h' σ' = some r → Q .normal (Go.Proofs.YticfjbmafkjmaaaDoor.act1 n ρ') w') : c.wpIn (wideR E.rd) 0 P Q (Go.Proofs.YticfjbmafkjmaaaDoor.act1 n ρ) w := by
  unfold joinN at h
  obtain ⟨x, hx, h⟩ := ob h
  refine hf _ E ⟨m, K, ρ, fun _ => false, fr.F, fr.k0⟩ hrd a (σ.frz act) _ x m K ρ w Q hx (hr.frz act) (fun e h' σ' m' K' ρ' w' h1 h2 h3 => ?_)
  cases e with
  | normal =>
    obtain ⟨h'', σ2, m2, K2, g1, g2, g3⟩ := prep_ok h' h3 h1
    have hi : Inn σ fr ⟨m, K, ρ, fun _ => false, fr.F, fr.k0⟩ m K ρ (minus σ.H act) σ2 W := ⟨rfl, rfl, rfl, rfl, rfl, (g2.2.trans h2.2), minus_sub, fun _ _ => rfl⟩
    obtain ⟨σ3, m3, q1, q2, q3⟩ := lay_ok hr hi g3 g1 h
    exact hQ b σ3 m3 K2 ρ' w' q3 q2 q1
  | _ => cases h3
theorem joinX_ok {c : Code} {f : Hn P → Zt → (R : Type) → (Exit → Hn P → Zt → Option R) → Option R} (hf : Fok P n c f) (hrd : RdOk E fr) {s : Sh} {act W : List Nat} {a b : Hn P} {k : Exit → Hn P → Zt → Option R} {r : R} {Q : Exit → Act → World → Prop} (h : joinX f s act W a b σ k = some r) (hr : Rel E fr σ m K ρ w)
    (hQ : ∀ e h' σ' m' K' ρ' w', Rel E fr σ' m' K' ρ' w' → Same σ σ' → k e h' σ' = some r → Q e (Go.Proofs.YticfjbmafkjmaaaDoor.act1 n ρ') w') : c.wpIn (wideR E.rd) 0 P Q (Go.Proofs.YticfjbmafkjmaaaDoor.act1 n ρ) w := by
  unfold joinX at h
  obtain ⟨o, ho, h⟩ := ob h
  refine hf _ E ⟨m, K, ρ, fun _ => false, fr.F, fr.k0⟩ hrd a (σ.frz act) _ o m K ρ w Q ho (hr.frz act) (fun e h' σ' m' K' ρ' w' h1 h2 h3 => ?_)
  have other : (k e h' (σ.thaw σ' (minus σ.H act) [])).map Sum.inr = some o → Q e (Go.Proofs.YticfjbmafkjmaaaDoor.act1 n ρ') w' := fun h3 => by
    rw [Option.map_eq_some_iff] at h3
    obtain ⟨r', h4, rfl⟩ := h3
    cases h
    have hi : Inn σ fr ⟨m, K, ρ, fun _ => false, fr.F, fr.k0⟩ m K ρ (minus σ.H act) σ' [] := ⟨rfl, rfl, rfl, rfl, rfl, h2.2, minus_sub, fun _ _ => rfl⟩
    obtain ⟨q1, q2⟩ := thaw_ok hr hi h1
    exact hQ e h' _ m' K' ρ' w' q2 q1 h4
  cases e with
  | normal =>
    obtain ⟨h'', σ2, m2, K2, g1, g2, g3⟩ := prep_ok h' h3 h1
    rw [Option.map_eq_some_iff] at g1
    obtain ⟨x, g1, rfl⟩ := g1
    have hi : Inn σ fr ⟨m, K, ρ, fun _ => false, fr.F, fr.k0⟩ m K ρ (minus σ.H act) σ2 W := ⟨rfl, rfl, rfl, rfl, rfl, (g2.2.trans h2.2), minus_sub, fun _ _ => rfl⟩
    obtain ⟨σ3, m3, q1, q2, q3⟩ := lay_ok hr hi g3 g1 h
    exact hQ .normal b σ3 m3 K2 ρ' w' q3 q2 q1
  | _ => exact other h3
/-- The head of a loop's round. -/
theorem head_ok {s : Sh} {W : List Nat} {rest : List HA} {x : TL s.ts} (hr : Rel E fr σ m K ρ w) {g : Gt} {f : Nat → SV} {H : List HA} {us : List Atom}
    (hg : s.get f H = some g) (hx : TL.of s.ts g.ds = some x) (hok : ∀ a ∈ H, HA.ok m' K' a) (hf : ∀ i, SV.rel m' K' (f i) (ρ' i)) (hmm : m <+: m') (hKK : K.le K') (hrest : ∀ a ∈ rest, a ∈ σ.H) (hs : Sep E K' (H.map (HA.conc m') ++ (us ++ (rest.map (HA.conc m) ++ σ.fz fr))) w')
    (hds : MOk fr.k0 K' ρ'.ds) (hold : ∀ i, i ∉ W → ρ' i = ρ i) {vs : List (Nat × SV)} {u : Un} (hu : s.un (TL.list s.ts x) σ.nx = some (vs, u)) :
    ∃ m'', Rel E ⟨m, K, ρ, fun i => W.contains i, fr.F, fr.k0⟩ ⟨fun i => bif W.contains i then .any else σ.get i, subT (fillF σ) vs, u.H.map (HA.sub (fillF σ)), rest ++ σ.Hf, u.nx, false⟩ m'' K' ρ' w' := by
  rw [TL.of_list hx] at hu
  have hoo : oldOk s.bl m.length = true := by
    unfold Sh.un at hu
    rw [hr.nx]
    cases ho : oldOk s.bl σ.nx with
    | true => rfl
    | false => rw [ho] at hu; cases hu
  obtain ⟨vs', u', ms, e1, e2, e3, e4, e5, e6, e7, e8⟩ := Sh.get_un hg hok hmm hoo
  rw [hr.nx, hu] at e1
  cases e1
  have hp' := pre_app m ms
  refine ⟨m ++ ms, Rel.subs (σ := ⟨fun i => bif W.contains i then .any else σ.get i, vs, u.H, rest ++ σ.Hf, u.nx, false⟩) (fillF_rel hr.toPur (m' := m ++ ms) (fun _ _ k => pre_get hp' k) hKK) ⟨⟨pre_app m ms, hKK, e2, fun e => (by cases e), fun i => ?_, fun i hi => ?_, fun i hi => ?_, fun i sv hi => slC_look e3 hi _ (hf i), e4, fun a ha => ?_, hds⟩, ?_⟩⟩
  · show SV.rel m K (bif W.contains i then .any else σ.get i) (ρ i)
    cases W.contains i with
    | true => exact trivial
    | false => exact hr.toPur.get i
  · show (bif W.contains i then SV.any else σ.get i) = .any
    have hi : W.contains i = true := hi
    rw [hi]; rfl
  · by_cases hW : i ∈ W
    · exact .inl (by simpa using hW)
    · exact .inr (hold i hW)
  · refine hr.toPur.all a ?_
    rcases List.mem_append.1 ha with ha | ha
    · exact List.mem_append_left _ (hrest a ha)
    · exact List.mem_append_right _ ha
  · have s1 := e6 E _ w' hs
    have s2 : Sep E K' ((g.H.map (HA.conc m') ++ us) ++ (u.H.map (HA.conc (m ++ ms)) ++ (rest.map (HA.conc m) ++ σ.fz fr))) w' := Sep.perm (by
      rw [List.append_assoc]
      refine (perm3 _ _ _).trans (List.Perm.append_left _ (perm3 _ _ _)) ) s1
    show Sep E K' (u.H.map (HA.conc (m ++ ms)) ++ ((rest ++ σ.Hf).map (HA.conc m) ++ fr.F)) w'
    rw [List.map_append, hr.toPur.fz', List.append_assoc]
    exact Sep.drops s2
theorem get_oldOk {s : Sh} {ds : List Dat} {nx : Nat} {o : List (Nat × SV) × Un} (h : s.un ds nx = some o) : oldOk s.bl nx = true := by
  unfold Sh.un at h
  cases ho : oldOk s.bl nx with
  | true => rfl
  | false => rw [ho] at h; cases h
theorem lpRun_ok {c : Code} {f : Hn P → Zt → (R : Type) → (Exit → Hn P → Zt → Option R) → Option R} (hf : Fok P n c f) (hrd : RdOk E fr) {s : Sh} {W : List Nat} {a : Hn P} {k : Exit → Hn P → Zt → Option R} {r : R} {Q : Exit → Act → World → Prop} (h : lpRun f s W a σ k = some r) (hr : Rel E fr σ m K ρ w)
    (hQ : ∀ e h' σ' m' K' ρ' w', Rel E fr σ' m' K' ρ' w' → Same σ σ' → k e h' σ' = some r → Q e (Go.Proofs.YticfjbmafkjmaaaDoor.act1 n ρ') w') : (Code.loop c).wpIn (wideR E.rd) 0 P Q (Go.Proofs.YticfjbmafkjmaaaDoor.act1 n ρ) w := by
  unfold lpRun at h
  split at h
  · rename_i g hg
    split at h
    · rename_i x0 hx0
      obtain ⟨N, hN⟩ := loop_iter h
      refine wpIn_loop_rounds N ?_
      -- a round's head
      have round : ∀ (N : Nat) (x : TL s.ts) (m1 : List M) (K1 : Hp) (ρ1 : Sl1) (w1 : World) (vs : List (Nat × SV)) (u : Un), iter (lpRound f s W g a σ k) N x = some r → s.un (TL.list s.ts x) σ.nx = some (vs, u) →
          Rel E ⟨m, K, ρ, fun i => W.contains i, fr.F, fr.k0⟩ ⟨fun i => bif W.contains i then .any else σ.get i, subT (fillF σ) vs, u.H.map (HA.sub (fillF σ)), g.H ++ σ.Hf, u.nx, false⟩ m1 K1 ρ1 w1 → Code.roundsIn (wideR E.rd) 0 P c Q N (Go.Proofs.YticfjbmafkjmaaaDoor.act1 n ρ1) w1 := by
        intro N
        induction N with
        | zero => intro x m1 K1 ρ1 w1 vs u hi; cases hi
        | succ N ih =>
          intro x m1 K1 ρ1 w1 vs u hi hu hrel
          unfold iter at hi
          obtain ⟨o, ho, hi⟩ := ob hi
          rw [roundsIn_succ]
          unfold lpRound at ho
          rw [hu] at ho
          simp only at ho
          have hgsub : ∀ a ∈ g.H, a ∈ σ.H := by
            obtain ⟨_, _, _, _, _, _, _, e5, _⟩ := Sh.get_un (m := m) (K := K) hg hr.okH (List.prefix_refl m) (by rw [hr.nx]; exact get_oldOk hu)
            exact e5
          refine hf _ E ⟨m, K, ρ, fun i => W.contains i, fr.F, fr.k0⟩ hrd a _ _ o m1 K1 ρ1 w1 _ ho hrel (fun e h' σ' m' K' ρ' w' h1 h2 h3 => ?_)
          have other : e ≠ .normal → (k e h' (σ.thaw σ' g.H W)).map Sum.inr = some o → Q e (Go.Proofs.YticfjbmafkjmaaaDoor.act1 n ρ') w' := fun _ h3 => by
            rw [Option.map_eq_some_iff] at h3
            obtain ⟨r', h4, rfl⟩ := h3
            cases hi
            have hii : Inn σ fr ⟨m, K, ρ, fun i => W.contains i, fr.F, fr.k0⟩ m K ρ g.H σ' W := ⟨rfl, rfl, rfl, rfl, rfl, h2.2, hgsub, fun i hi => by simpa using hi⟩
            obtain ⟨q1, q2⟩ := thaw_ok hr hii h1
            exact hQ e h' _ m' K' ρ' w' q2 q1 h4
          cases e with
          | normal =>
            obtain ⟨h'', σ2, m2, K2, g1, g2, g3⟩ := prep_ok h' h3 h1
            rw [Option.map_eq_some_iff] at g1
            obtain ⟨x', g1, rfl⟩ := g1
            have hsame := h2.trans g2
            unfold Zt.pack at g1
            replace g1 := bift g1; obtain ⟨hk, g1⟩ := g1
            split at g1
            · rename_i g' hg'
              cases hu' : s.un (TL.list s.ts x') σ.nx with
              | none =>
                -- the next round would not run
                cases N with
                | zero => cases hi
                | succ N =>
                  unfold iter at hi
                  obtain ⟨o2, ho2, _⟩ := ob hi
                  unfold lpRound at ho2
                  rw [hu'] at ho2
                  cases ho2
              | some q =>
                obtain ⟨vs', u'⟩ := q
                have hii : Inn σ fr ⟨m, K, ρ, fun i => W.contains i, fr.F, fr.k0⟩ m K ρ g.H σ2 W := ⟨rfl, rfl, rfl, rfl, rfl, hsame.2, hgsub, fun i hi => by simpa using hi⟩
                obtain ⟨m'', hrel'⟩ := head_ok (W := W) (rest := g.H) (us := []) hr hg' g1 g3.okH g3.toPur.get g3.hm g3.hK hgsub (by rw [List.nil_append]; exact hii.sep hr g3) g3.mks (fun i hi => by
                  have := g3.old i (keysIn_spec hk hi)
                  rcases this with h4 | h4
                  · exact absurd (by simpa using h4) hi
                  · exact h4) hu'
                exact ih x' m'' K2 ρ' w' vs' u' hi hu' hrel'
            · cases g1
          | exit i => exact other nofun h3
          | goto l => exact other nofun h3
          | ret => exact other nofun h3
          | panic c => exact other nofun h3
          | outgrown => exact other nofun h3
      cases hu : s.un (TL.list s.ts x0) σ.nx with
      | none =>
        cases N with
        | zero => cases hN
        | succ N =>
          unfold iter at hN
          obtain ⟨o2, ho2, _⟩ := ob hN
          unfold lpRound at ho2
          rw [hu] at ho2
          cases ho2
      | some q =>
        obtain ⟨vs, u⟩ := q
        have hu2 := hu
        rw [TL.of_list hx0] at hu2
        obtain ⟨vs', u', ms, e1, e2, e3, e4, e5, e6, e7, e8⟩ := Sh.get_un (m := m) (K := K) hg hr.okH (List.prefix_refl m) (by rw [hr.nx]; exact get_oldOk hu2)
        rw [hr.nx, hu2] at e1
        cases e1
        have hp' := pre_app m ms
        refine round N x0 (m ++ ms) K ρ w vs u hN hu (Rel.subs (σ := ⟨fun i => bif W.contains i then .any else σ.get i, vs, u.H, g.H ++ σ.Hf, u.nx, false⟩) (fillF_rel hr.toPur (m' := m ++ ms) (fun _ _ k => pre_get hp' k) (Hp.le_refl K)) ⟨⟨pre_app m ms, Hp.le_refl K, e2, fun e => (by cases e), fun i => ?_, fun i hi => ?_, fun i hi => .inr rfl, fun i sv hi => slC_look e3 hi _ (hr.toPur.get i), e4, fun a ha => ?_, hr.mks⟩, ?_⟩)
        · show SV.rel m K (bif W.contains i then .any else σ.get i) (ρ i)
          cases W.contains i with
          | true => exact trivial
          | false => exact hr.toPur.get i
        · show (bif W.contains i then SV.any else σ.get i) = .any
          have hi : W.contains i = true := hi
          rw [hi]; rfl
        · refine hr.toPur.all a ?_
          rcases List.mem_append.1 ha with ha | ha
          · exact List.mem_append_left _ (e5 a ha)
          · exact List.mem_append_right _ ha
        · have s1 := e6 E _ w hr.toSep
          show Sep E K (u.H.map (HA.conc (m ++ ms)) ++ ((g.H ++ σ.Hf).map (HA.conc m) ++ fr.F)) w
          rw [List.map_append, hr.toPur.fz', List.append_assoc]
          exact s1
    · cases h
  · cases h
theorem unroll_ok {c : Code} {f : Hn P → Zt → (R : Type) → (Exit → Hn P → Zt → Option R) → Option R} (hf : Fok P n c f) (hrd : RdOk E fr) {k : Exit → Hn P → Zt → Option R} {r : R} {Q : Exit → Act → World → Prop}
    (hQ : ∀ e h' σ' m' K' ρ' w', Rel E fr σ' m' K' ρ' w' → Same σ σ' → k e h' σ' = some r → Q e (Go.Proofs.YticfjbmafkjmaaaDoor.act1 n ρ') w') : ∀ (N : Nat) {h : Hn P} {σ1 : Zt} {m : List M} {K : Hp} {ρ : Sl1} {w : World}, unroll (fun h σ k => f h σ _ k) k N h σ1 = some r → Rel E fr σ1 m K ρ w → Same σ σ1 → Code.roundsIn (wideR E.rd) 0 P c Q N (Go.Proofs.YticfjbmafkjmaaaDoor.act1 n ρ) w
  | 0, h, σ1, m, K, ρ, w, hh, hr, hs => by cases hh
  | N + 1, h, σ1, m, K, ρ, w, hh, hr, hs => by
    rw [roundsIn_succ]
    unfold unroll at hh
    refine hf _ E fr hrd h σ1 _ r m K ρ w _ hh hr (fun e h' σ' m' K' ρ' w' h1 h2 h3 => ?_)
    cases e with
    | normal => exact unroll_ok hf hrd hQ N h3 h1 (hs.trans h2)
    | exit i => exact hQ _ h' σ' m' K' ρ' w' h1 (hs.trans h2) h3
    | goto i => exact hQ _ h' σ' m' K' ρ' w' h1 (hs.trans h2) h3
    | ret => exact hQ _ h' σ' m' K' ρ' w' h1 (hs.trans h2) h3
    | panic i => exact hQ _ h' σ' m' K' ρ' w' h1 (hs.trans h2) h3
    | outgrown => exact hQ _ h' σ' m' K' ρ' w' h1 (hs.trans h2) h3
theorem onNorm_ok {y : Code} {k : Exit → Hn P → Zt → Option R} {f : Hn P → Zt → Option R} {r : R} {Q : Exit → Act → World → Prop} {σ0 : Zt} (hf : ∀ h' σ' m' K' ρ' w', Rel E fr σ' m' K' ρ' w' → Same σ0 σ' → f h' σ' = some r → y.wpIn (wideR E.rd) 0 P Q (Go.Proofs.YticfjbmafkjmaaaDoor.act1 n ρ') w')
    (hQ : ∀ e h' σ' m' K' ρ' w', Rel E fr σ' m' K' ρ' w' → Same σ0 σ' → k e h' σ' = some r → Q e (Go.Proofs.YticfjbmafkjmaaaDoor.act1 n ρ') w') : ∀ e h' σ' m' K' ρ' w', Rel E fr σ' m' K' ρ' w' → Same σ0 σ' → onNorm k f e h' σ' = some r → Exit.then (y.wpIn (wideR E.rd) 0 P Q) Q e (Go.Proofs.YticfjbmafkjmaaaDoor.act1 n ρ') w' := by
  intro e h' σ' m' K' ρ' w' h1 h2 h3
  cases e with
  | normal => exact hf h' σ' m' K' ρ' w' h1 h2 h3
  | exit i => exact hQ _ h' σ' m' K' ρ' w' h1 h2 h3
  | goto i => exact hQ _ h' σ' m' K' ρ' w' h1 h2 h3
  | ret => exact hQ _ h' σ' m' K' ρ' w' h1 h2 h3
  | panic i => exact hQ _ h' σ' m' K' ρ' w' h1 h2 h3
  | outgrown => exact hQ _ h' σ' m' K' ρ' w' h1 h2 h3
theorem Sep.at_out {L : List Atom} {E : En} {K : Hp} {w : World} (h : Sep E K L w) : Sep E K L w := h
/-- Code run at a state does what is computed. -/
theorem exec_ok {J : Rn P} (hJ : JOk J) : ∀ (c : Code), Fok P n c (fun h σ R k => exec J n c h σ k)
  | .skip => fun R E fr hrd h σ k r m K ρ w Q hh hr hQ => wpIn_skip (hQ _ h σ m K ρ w hr Same.rfl' hh)
  | .ret => fun R E fr hrd h σ k r m K ρ w Q hh hr hQ => wpIn_ret (hQ _ h σ m K ρ w hr Same.rfl' hh)
  | .exit id => fun R E fr hrd h σ k r m K ρ w Q hh hr hQ => wpIn_exit (hQ _ h σ m K ρ w hr Same.rfl' hh)
  | .label l => fun R E fr hrd h σ k r m K ρ w Q hh hr hQ => wpIn_label (hQ _ h σ m K ρ w hr Same.rfl' hh)
  | .scope b => fun R E fr hrd h σ k r m K ρ w Q hh hr hQ => by
    refine wpIn_scope_straight (exec_ok hJ b R E fr hrd h σ _ r m K ρ w _ (show exec J n b h σ (onScope k) = some r from hh) hr (fun e h' σ' m' K' ρ' w' h1 h2 h3 => ?_))
    cases e with
    | goto l => cases h3
    | normal => exact hQ _ h' σ' m' K' ρ' w' h1 h2 h3
    | exit i => exact hQ _ h' σ' m' K' ρ' w' h1 h2 h3
    | ret => exact hQ _ h' σ' m' K' ρ' w' h1 h2 h3
    | panic i => exact hQ _ h' σ' m' K' ρ' w' h1 h2 h3
    | outgrown => exact hQ _ h' σ' m' K' ρ' w' h1 h2 h3
  | .region id ops draw => fun R E fr hrd h σ k r m K ρ w Q hh hr hQ => by
    change (bif !ops.toList.all nodf then none else bif draw then prep h σ fun h σ => preO n ops.toList h σ fun h σ => (match h with | .mix plan fin tail act r => mixS n ops plan fin tail act r σ (k .normal) | .tr t s act a b => trS n ops t s act a b σ (k .normal) | _ => none) else prep h σ fun h σ => yreg J n ops h σ (k .normal)) = some r at hh
    replace hh := biff hh; obtain ⟨hn, hh⟩ := hh
    have hn : ops.toList.all nodf = true := by simpa using hn
    cases draw with
    | false =>
      simp only [cond_false] at hh
      obtain ⟨h1, σ1, m1, K1, hh, g1, hr⟩ := prep_ok h hh hr
      replace hQ : ∀ e h' σ' m' K' ρ' w', Rel E fr σ' m' K' ρ' w' → Same σ1 σ' → k e h' σ' = some r → Q e (act1 n ρ') w' := fun e h' σ' m' K' ρ' w' q1 q2 q3 => hQ e h' σ' m' K' ρ' w' q1 (g1.trans q2) q3
      clear g1
      unfold yreg at hh
      split at hh
      · rename_i q h2
        have key : wpListIn (wideR E.rd) 0 P ops Q (ops.toList.take q ++ ops.toList.drop q) (act1 n ρ) w := by
          have hn1 : (ops.toList.take q).all nodf = true := List.all_eq_true.2 (fun x hx => List.all_eq_true.1 hn x (List.mem_of_mem_take hx))
          have hn2 : (ops.toList.drop q).all nodf = true := List.all_eq_true.2 (fun x hx => List.all_eq_true.1 hn x (List.mem_of_mem_drop hx))
          refine wpListIn_app hn1 ?_
          have := runL_ok (ops := ops) (Q := fun e a w => e = .normal ∧ wpListIn (wideR E.rd) 0 P ops Q (ops.toList.drop q) a w) (ops.toList.take q) 0 hh hr (fun h' σ' m' K' ρ' w' h1 h2 h3 => ?_)
          · simpa using this
          · refine ⟨rfl, ?_⟩
            split at h3
            · rename_i o rest hd
              rw [hd] at hn2 ⊢
              simp only [List.all_cons, Bool.and_eq_true] at hn2
              refine yop_ok hJ h3 h1 (fun h'' σ'' m'' K'' ρ'' w'' g1 g2 g3 => ?_)
              have := runL_ok (ops := ops) (Q := Q) rest 0 g3 g1 (fun h3 σ3 m3 K3 ρ3 w3 b1 b2 b3 => hQ _ h3 σ3 m3 K3 ρ3 w3 b1 ((h2.trans g2).trans b2) b3)
              exact wpListIn_of hn2.2 (by simpa using this)
            · cases h3
        rw [List.take_append_drop] at key
        have := wpIn_region_lit (id := id) (l := ops.toList) (by simpa using key)
        simpa using this
      · have := wpIn_region_lit (id := id) (wpListIn_of (r := E.rd) (n := 0) hn (runL_ok (Q := Q) (ops := ops.toList.toArray) ops.toList 0 (by simpa using hh) hr (fun h' σ' m' K' ρ' w' h1 h2 h3 => hQ _ h' σ' m' K' ρ' w' h1 h2 h3)))
        simpa using this
    | true =>
      simp only [cond_true] at hh
      obtain ⟨h1, σ1, m1, K1, hh, g1, hr⟩ := prep_ok h hh hr
      obtain ⟨h2, σ2, m2, hh, g2, hr⟩ := preO_ok h1 hh hr
      replace hQ : ∀ e h' σ' m' K' ρ' w', Rel E fr σ' m' K' ρ' w' → Same σ2 σ' → k e h' σ' = some r → Q e (act1 n ρ') w' := fun e h' σ' m' K' ρ' w' q1 q2 q3 => hQ e h' σ' m' K' ρ' w' q1 ((g1.trans g2).trans q2) q3
      clear g1 g2
      generalize K1 = K at hr
      generalize m2 = m at hr
      generalize σ2 = σ at hr hh hQ
      split at hh
      · rename_i plan fin tail act' h0
        unfold mixS at hh
        replace hh := bif_and hh; obtain ⟨hm, hB, hh⟩ := hh
        have hB' : mixB .any ops.toList.toArray plan fin tail = true := by simpa using hB
        have hfr := (hr.frz act').drew
        have hplan : ∀ s i, (s, i) ∈ plan → i < ops.toList.length := by
          intro s i hi
          have h0 := hB
          unfold mixB at h0
          simp only [Bool.and_eq_true] at h0
          obtain ⟨_, h1⟩ := h0
          split at h1
          · rename_i l1 hl1
            simpa using mixPlan_lt plan _ _ hl1 s i hi
          · cases h1
        have key := runM_ok (l := ops.toList) (Q := Q) plan hh hfr rfl hplan (fun h' σ' m' K' ρ' w' h1 h2 h3 => by
          have hi : Inn σ fr ⟨m, K, ρ, fun _ => false, fr.F, fr.k0⟩ m K ρ (minus σ.H act') σ' [] := ⟨rfl, rfl, rfl, rfl, rfl, h2.2, minus_sub, fun _ _ => rfl⟩
          obtain ⟨z1, z2⟩ := thaw_ok hr hi h1
          have := runL_ok (ops := ops.toList.toArray) (Q := Q) (picks ops.toList tail) 0 (by simpa using h3) z2 (fun h'' σ'' m'' K'' ρ'' w'' b1 b2 b3 => hQ .normal h'' σ'' m'' K'' ρ'' w'' b1 (z1.trans b2) b3)
          rwa [List.drop_zero] at this)
        have := wp_region_mix (id := id) (Q := Q) plan fin tail hm hB' _ hfr.cfz rfl rfl rfl key hn (r := E.rd) (n := 0)
        simpa using this
      · rename_i t s act' a b
        unfold trS at hh
        replace hh := bif_and hh; obtain ⟨hm, hB, hh⟩ := hh
        obtain ⟨x, hx, hh⟩ := ob hh
        have hfr := (hr.frz act').drew
        have key := runT_ok (l := ops.toList) (F := fun a' w' => wpLs P ops.toList.toArray Q (picks ops.toList []) a' w') t hx hfr rfl (fun h' σ' m' K' ρ' w' h1 h2 h3 => by
          obtain ⟨h'', σ2, m2, K2, g1, g2, g3⟩ := prep_ok h' h3 h1
          have hi : Inn σ fr ⟨m, K, ρ, fun _ => false, fr.F, fr.k0⟩ m K ρ (minus σ.H act') σ2 (s.sl.map (·.1) ++ dsts ops.toList) := ⟨rfl, rfl, rfl, rfl, rfl, (g2.2.trans h2.2), minus_sub, fun _ _ => rfl⟩
          obtain ⟨σ3, m3, q1, q2, q3⟩ := lay_ok hr hi g3 g1 hh
          exact hQ .normal b σ3 m3 K2 ρ' w' q3 q2 q1)
        have := wp_region_tree (id := id) (Q := Q) t [] hm hB _ hfr.cfz rfl key hn (r := E.rd) (n := 0)
        simpa using this
      · cases hh
  | .seq a b => fun R E fr hrd h σ k r m K ρ w Q hh hr hQ => by
    have plain : ∀ h0, exec J n a h0 σ (onNorm k (fun h σ => exec J n b h σ k)) = some r → (Code.seq a b).wpIn (wideR E.rd) 0 P Q (act1 n ρ) w := fun h0 hh =>
      wpIn_seq (exec_ok hJ a R E fr hrd h0 σ _ r m K ρ w _ hh hr (onNorm_ok (σ0 := σ) (fun h' σ' m' K' ρ' w' h1 h2 h3 => exec_ok hJ b R E fr hrd h' σ' k r m' K' ρ' w' Q h3 h1 (fun e h'' σ'' m'' K'' ρ'' w'' q1 q2 q3 => hQ e h'' σ'' m'' K'' ρ'' w'' q1 (h2.trans q2) q3)) hQ))
    cases h with
    | sq mk s act ha hb =>
      have hh : (match Zt.mcs mk σ with | some σ => joinN (fun h σ R k => exec J n a h σ k) s act (s.sl.map (·.1) ++ writes a) ha hb σ (fun h σ => exec J n b h σ k) | none => none) = some r := hh
      split at hh
      · rename_i σ1 hm
        obtain ⟨m1, k1, k2⟩ := mcs_ok hm hr
        refine wpIn_seq (joinN_ok (exec_ok hJ a) hrd hh k2 (fun h' σ' m' K' ρ' w' h1 h2 h3 => ?_))
        exact exec_ok hJ b R E fr hrd h' σ' k r m' K' ρ' w' Q h3 h1 (fun e h'' σ'' m'' K'' ρ'' w'' q1 q2 q3 => hQ e h'' σ'' m'' K'' ρ'' w'' q1 ((k1.trans h2).trans q2) q3)
      · cases hh
    | sx mk s act ha hb =>
      have hh : (match Zt.mcs mk σ with | some σ => joinX (fun h σ R k => exec J n a h σ k) s act (s.sl.map (·.1) ++ writes a) ha hb σ (onNorm k (fun h σ => exec J n b h σ k)) | none => none) = some r := hh
      split at hh
      · rename_i σ1 hm
        obtain ⟨m1, k1, k2⟩ := mcs_ok hm hr
        refine wpIn_seq (joinX_ok (exec_ok hJ a) hrd hh k2 ?_)
        exact onNorm_ok (σ0 := σ1) (fun h' σ' m' K' ρ' w' h1 h2 h3 => exec_ok hJ b R E fr hrd h' σ' k r m' K' ρ' w' Q h3 h1 (fun e h'' σ'' m'' K'' ρ'' w'' q1 q2 q3 => hQ e h'' σ'' m'' K'' ρ'' w'' q1 ((k1.trans h2).trans q2) q3)) (fun e h' σ' m' K' ρ' w' q1 q2 q3 => hQ e h' σ' m' K' ρ' w' q1 (k1.trans q2) q3)
      · cases hh
    | pl h => exact plain h hh
    | nil => exact plain _ hh
    | two _ _ _ => exact plain _ hh
    | tw _ _ _ => exact plain _ hh
    | jn _ _ _ _ _ => exact plain _ hh
    | jx _ _ _ _ _ => exact plain _ hh
    | lp _ _ => exact plain _ hh
    | un _ _ => exact plain _ hh
    | per _ _ _ => exact plain _ hh
    | perb _ _ _ _ => exact plain _ hh
    | mc _ _ _ _ => exact plain _ hh
    | ms _ _ => exact plain _ hh
    | wt _ _ => exact plain _ hh
    | cl _ _ _ => exact plain _ hh
    | c2 _ _ _ _ => exact plain _ hh
    | gp _ _ => exact plain _ hh
    | gj _ _ _ _ _ => exact plain _ hh
    | mix _ _ _ _ _ => exact plain _ hh
    | opn _ _ _ => exact plain _ hh
    | opb _ _ _ => exact plain _ hh
    | cls _ _ _ => exact plain _ hh
    | opp _ _ _ _ => exact plain _ hh
    | ot _ _ => exact plain _ hh
    | cm _ _ _ _ => exact plain _ hh
    | cm2 _ _ _ _ _ => exact plain _ hh
    | tr _ _ _ _ _ => exact plain _ hh
    | yl _ _ => exact plain _ hh
    | rg _ _ => exact plain _ hh
  | .cond c x y => fun R E fr hrd h σ k r m K ρ w Q hh hr hQ => by
    obtain ⟨h1, σ1, m1, K1, g1, g2, g3⟩ := prep_ok h (show prep h σ (fun h σ => condS c (σ.evr n c) h σ (fun h σ => exec J n x h σ k) (fun h σ => exec J n y h σ k)) = some r from hh) hr
    have hv := g3.toPur.evr n c
    have goX : ∀ h2 σ2, Rel E fr σ2 m1 K1 ρ w → Same σ σ2 → exec J n x h2 σ2 k = some r → x.wpIn (wideR E.rd) 0 P Q (act1 n ρ) w := fun h2 σ2 q1 q2 q3 =>
      exec_ok hJ x R E fr hrd h2 σ2 k r m1 K1 ρ w Q q3 q1 (fun e h'' σ'' m'' K'' ρ'' w'' p1 p2 p3 => hQ e h'' σ'' m'' K'' ρ'' w'' p1 (q2.trans p2) p3)
    have goY : ∀ h2 σ2, Rel E fr σ2 m1 K1 ρ w → Same σ σ2 → exec J n y h2 σ2 k = some r → y.wpIn (wideR E.rd) 0 P Q (act1 n ρ) w := fun h2 σ2 q1 q2 q3 =>
      exec_ok hJ y R E fr hrd h2 σ2 k r m1 K1 ρ w Q q3 q1 (fun e h'' σ'' m'' K'' ρ'' w'' p1 p2 p3 => hQ e h'' σ'' m'' K'' ρ'' w'' p1 (q2.trans p2) p3)
    have slot : ∀ (d : Nat) (sv : SV), c = .tmp d → σ1.evr n c = sv → sv ≠ .any → σ1.get d = sv := fun d sv hc he hne => by
      subst hc
      cases hh : Nat.blt d n with
      | false =>
        have : σ1.evr n (.tmp d) = .any := by show (bif Nat.blt d n then σ1.get d else .any) = _; rw [hh]; rfl
        rw [this] at he; exact absurd he.symm hne
      | true =>
        have : σ1.evr n (.tmp d) = σ1.get d := by show (bif Nat.blt d n then σ1.get d else .any) = _; rw [hh]; rfl
        rw [← this]; exact he
    unfold condS at g1
    split at g1
    · rename_i jm w0 e
      rw [e] at hv
      obtain ⟨hj, hv⟩ := hv
      split at g1
      · rename_i t
        have hb : ev n ρ c = .bool t := hv
        rw [hb] at hj
        refine wpIn_cond_split (t := t) (by rw [eval_act1]; exact hb) (fun ht => ?_) (fun ht => ?_)
        · subst ht
          split at g1
          · exact goX _ _ (g3.fix (v := .bool true) hj rfl) (g2.trans ⟨rfl, rfl⟩) g1
          · exact goX _ σ1 g3 g2 g1
          · exact goX _ σ1 g3 g2 g1
        · subst ht
          split at g1
          · exact goY _ _ (g3.fix (v := .bool false) hj rfl) (g2.trans ⟨rfl, rfl⟩) g1
          · exact goY _ σ1 g3 g2 g1
          · exact goY _ σ1 g3 g2 g1
      · cases g1
    · rename_i t e
      rw [e] at hv
      have hb : ev n ρ c = .bool t := hv
      refine wpIn_cond_split (t := t) (by rw [eval_act1]; exact hb) (fun ht => ?_) (fun ht => ?_)
      · subst ht
        split at g1
        · rename_i ha hbn d _
          have hg := slot d _ rfl e nofun
          exact goX ha _ (g3.ref (fun _ _ u hu => by rw [hg] at hu; exact hu) (by rw [hg]; nofun)) (g2.trans ⟨rfl, ref_H.2⟩) g1
        · exact goX _ σ1 g3 g2 g1
        · exact goX _ σ1 g3 g2 g1
      · subst ht
        split at g1
        · rename_i ha hbn d _
          have hg := slot d _ rfl e nofun
          exact goY hbn _ (g3.ref (fun _ _ u hu => by rw [hg] at hu; exact hu) (by rw [hg]; nofun)) (g2.trans ⟨rfl, ref_H.2⟩) g1
        · exact goY _ σ1 g3 g2 g1
        · exact goY _ σ1 g3 g2 g1
    · rename_i tp l ng e
      rw [e] at hv
      obtain ⟨q, hb, hl⟩ := hv
      refine wpIn_cond_split (t := q ^^ ng) (by rw [eval_act1]; exact hb) (fun ht => ?_) (fun ht => ?_)
      · split at g1
        · rename_i ha hbn _
          cases ng with
          | true =>
            rw [Bool.xor_true] at ht
            simp only [cond_true] at g1
            exact goX ha _ g3 g2 (nilb_cons g1)
          | false =>
            rw [Bool.xor_false] at ht
            simp only [cond_false] at g1
            exact goX ha _ g3 g2 (nilb_nil (hl ht) g1)
        · cases g1
      · split at g1
        · rename_i ha hbn _
          cases ng with
          | true =>
            rw [Bool.xor_true] at ht
            simp only [cond_true] at g1
            exact goY hbn _ g3 g2 (nilb_nil (hl (by simpa using ht)) g1)
          | false =>
            rw [Bool.xor_false] at ht
            simp only [cond_false] at g1
            exact goY hbn _ g3 g2 (nilb_cons g1)
        · cases g1
    · cases g1
  | .block id b => fun R E fr hrd h σ k r m K ρ w Q hh hr hQ => by
    have blk : ∀ {R : Type} {k : Exit → Hn P → Zt → Option R} {r : R} {Q : Exit → Act → World → Prop} {fr : Frz} {σ : Zt}, (∀ e h' σ' m' K' ρ' w', Rel E fr σ' m' K' ρ' w' → Same σ σ' → k e h' σ' = some r → Q e (act1 n ρ') w') →
        ∀ e h' σ' m' K' ρ' w', Rel E fr σ' m' K' ρ' w' → Same σ σ' → onBlk id k e h' σ' = some r → Exit.inBlock id Q e (act1 n ρ') w' := by
      intro R k r Q fr σ hQ e h' σ' m' K' ρ' w' h1 h2 h3
      cases e with
      | exit i =>
        change (bif Nat.beq i id then k .normal h' σ' else k (.exit i) h' σ') = some r at h3
        show if i = id then _ else _
        cases hb : Nat.beq i id with
        | true =>
          rw [hb] at h3
          rw [if_pos (Nat.eq_of_beq_eq_true hb)]
          exact hQ _ h' σ' m' K' ρ' w' h1 h2 h3
        | false =>
          rw [hb] at h3
          rw [if_neg (fun e => by rw [e, Nat.beq_refl] at hb; cases hb)]
          exact hQ _ h' σ' m' K' ρ' w' h1 h2 h3
      | normal => exact hQ _ h' σ' m' K' ρ' w' h1 h2 h3
      | goto l => exact hQ _ h' σ' m' K' ρ' w' h1 h2 h3
      | ret => exact hQ _ h' σ' m' K' ρ' w' h1 h2 h3
      | panic i => exact hQ _ h' σ' m' K' ρ' w' h1 h2 h3
      | outgrown => exact hQ _ h' σ' m' K' ρ' w' h1 h2 h3
    have fb : Fok P n (.block id b) (fun h σ R k => exec J n b h σ (onBlk id k)) := fun R E fr hrd h σ k r m K ρ w Q hh hr hQ => by
      refine wpIn_block (exec_ok hJ b R E fr hrd h σ _ r m K ρ w _ hh hr ?_)
      intro e h' σ' m' K' ρ' w' h1 h2 h3
      cases e with
      | exit i =>
        change (bif Nat.beq i id then k .normal h' σ' else k (.exit i) h' σ') = some r at h3
        show if i = id then _ else _
        cases hb : Nat.beq i id with
        | true =>
          rw [hb] at h3
          rw [if_pos (Nat.eq_of_beq_eq_true hb)]
          exact hQ _ h' σ' m' K' ρ' w' h1 h2 h3
        | false =>
          rw [hb] at h3
          rw [if_neg (fun e => by rw [e, Nat.beq_refl] at hb; cases hb)]
          exact hQ _ h' σ' m' K' ρ' w' h1 h2 h3
      | normal => exact hQ _ h' σ' m' K' ρ' w' h1 h2 h3
      | goto l => exact hQ _ h' σ' m' K' ρ' w' h1 h2 h3
      | ret => exact hQ _ h' σ' m' K' ρ' w' h1 h2 h3
      | panic i => exact hQ _ h' σ' m' K' ρ' w' h1 h2 h3
      | outgrown => exact hQ _ h' σ' m' K' ρ' w' h1 h2 h3
    have plain : ∀ h0, exec J n b h0 σ (onBlk id k) = some r → (Code.block id b).wpIn (wideR E.rd) 0 P Q (act1 n ρ) w := fun h0 hh => fb R E fr hrd h0 σ k r m K ρ w Q hh hr hQ
    cases h with
    | jn mk s act ha hb =>
      have hh : (match Zt.mcs mk σ with | some σ => joinN (fun h σ R k => exec J n b h σ (onBlk id k)) s act (s.sl.map (·.1) ++ writes b) ha hb σ (k .normal) | none => none) = some r := hh
      split at hh
      · rename_i σ1 hm
        obtain ⟨m1, k1, k2⟩ := mcs_ok hm hr
        exact joinN_ok fb hrd hh k2 (fun h' σ' m' K' ρ' w' h1 h2 h3 => hQ _ h' σ' m' K' ρ' w' h1 (k1.trans h2) h3)
      · cases hh
    | jx mk s act ha hb =>
      have hh : (match Zt.mcs mk σ with | some σ => joinX (fun h σ R k => exec J n b h σ (onBlk id k)) s act (s.sl.map (·.1) ++ writes b) ha hb σ k | none => none) = some r := hh
      split at hh
      · rename_i σ1 hm
        obtain ⟨m1, k1, k2⟩ := mcs_ok hm hr
        exact joinX_ok fb hrd hh k2 (fun e h' σ' m' K' ρ' w' q1 q2 q3 => hQ e h' σ' m' K' ρ' w' q1 (k1.trans q2) q3)
      · cases hh
    | pl h => exact plain _ hh
    | nil => exact plain _ hh
    | two _ _ _ => exact plain _ hh
    | tw _ _ _ => exact plain _ hh
    | sq _ _ _ _ _ => exact plain _ hh
    | sx _ _ _ _ _ => exact plain _ hh
    | lp _ _ => exact plain _ hh
    | un _ _ => exact plain _ hh
    | per _ _ _ => exact plain _ hh
    | perb _ _ _ _ => exact plain _ hh
    | mc _ _ _ _ => exact plain _ hh
    | ms _ _ => exact plain _ hh
    | wt _ _ => exact plain _ hh
    | cl _ _ _ => exact plain _ hh
    | c2 _ _ _ _ => exact plain _ hh
    | gp _ _ => exact plain _ hh
    | gj _ _ _ _ _ => exact plain _ hh
    | mix _ _ _ _ _ => exact plain _ hh
    | opn _ _ _ => exact plain _ hh
    | opb _ _ _ => exact plain _ hh
    | cls _ _ _ => exact plain _ hh
    | opp _ _ _ _ => exact plain _ hh
    | ot _ _ => exact plain _ hh
    | cm _ _ _ _ => exact plain _ hh
    | cm2 _ _ _ _ _ => exact plain _ hh
    | tr _ _ _ _ _ => exact plain _ hh
    | yl _ _ => exact plain _ hh
    | rg _ _ => exact plain _ hh
  | .loop b => fun R E fr hrd h σ k r m K ρ w Q hh hr hQ => by
    obtain ⟨h1, σ1, m1, K1, g1, g2, g3⟩ := prep_ok h (show prep h σ (fun h σ => match h with
      | .un m r => unroll (fun h σ k => exec J n b h σ k) k m r σ
      | .lp s ha => lpRun (fun h σ R k => exec J n b h σ k) s (s.sl.map (·.1) ++ writes b) ha σ k
      | _ => none) = some r from hh) hr
    have hQ' : ∀ e h' σ' m' K' ρ' w', Rel E fr σ' m' K' ρ' w' → Same σ1 σ' → k e h' σ' = some r → Q e (act1 n ρ') w' := fun e h'' σ'' m'' K'' ρ'' w'' p1 p2 p3 => hQ e h'' σ'' m'' K'' ρ'' w'' p1 (g2.trans p2) p3
    split at g1
    · exact wpIn_loop_rounds _ (unroll_ok (exec_ok hJ b) hrd hQ' _ g1 g3 Same.rfl')
    · exact lpRun_ok (exec_ok hJ b) hrd g1 g3 hQ'
    · cases g1
  | .rangeFunc g ps ao bo => fun R E fr hrd h σ k r m K ρ w Q hh hr hQ => by
    obtain ⟨h1, σ1, m1, K1, g1, g2, g3⟩ := prep_ok h (show prep h σ (fun h σ => rgRun J n g ps ao bo h σ k) = some r from hh) hr
    exact rgRun_ok hJ hrd g1 g3 (fun e h'' σ'' m'' K'' ρ'' w'' p1 p2 p3 => hQ e h'' σ'' m'' K'' ρ'' w'' p1 (g2.trans p2) p3)
  | .goto l => fun R E fr hrd h σ k r m K ρ w Q hh hr hQ => by cases hh
  | .refuse s => fun R E fr hrd h σ k r m K ρ w Q hh hr hQ => by cases hh
theorem execN_ok : ∀ d : Nat, JOk (execN (P := P) d)
  | 0 => fun n c R E fr hrd h σ k r m K ρ w Q hh hr hQ => by cases hh
  | d + 1 => fun n c => exec_ok (execN_ok d) c
end
end Go.Proofs.YticfjbmafkjmaaaDoor
namespace Go.Proofs.YticfjbmafkjmaaaDoor
open Go.RowKit
set_option linter.unusedVariables false
set_option linter.unusedSimpArgs false
set_option linter.unnecessarySimpa false
set_option linter.unusedSectionVars false
variable [BldA]
/-! ### The end of a function. -/
def resS (P : Program) (n : Nat) (σ : Zt) : List ResultVar → Option (List SV)
  | [] => some []
  | .tmp t :: r => (match resS P n σ r with | some vs => some (σ.ev n (.tmp t) :: vs) | none => none)
  | .cell a ty :: r => (match σ.ev n (.tmp a) with
    | .ptr i o => (match findR (HA.blkR i) (σ.H ++ σ.Hf) with
      | some q => (match ldv P ty q.cs o, resS P n σ r with | some v, some vs => some (v :: vs) | _, _ => none)
      | none => none)
    | _ => none)
def resV : List SV → SV
  | [v] => v
  | vs => .tup vs
def finO (σ : Zt) (rs : List SV) (o : Sh) : Option (TL o.ts) := bif (match rs, o.sl with | [], [] => true | _ :: _, [p] => Nat.beq p.1 0 | _, _ => false) then (match o.get (fun _ => resV rs) σ.H with | some g => TL.of o.ts g.ds | none => none) else none
def finD {P : Program} (σ : Zt) (rs : List SV) : (os : List Sh) → Hn P → Option (OutT os)
  | [a], _ => finO σ rs a
  | [a, b], h => (match h with | .pl _ => (finO σ rs b).map Sum.inr | _ => (finO σ rs a).map Sum.inl)
  | _, _ => none
def finF {P : Program} (n : Nat) (fn : Func) (os : List Sh) (h : Hn P) (σ : Zt) : Option (OutT os) := prep h σ fun h σ => match resS P n σ fn.results.toList with | some rs => finD σ rs os h | none => none
def fin {P : Program} (n : Nat) (fn : Func) (os : List Sh) (e : Exit) (h : Hn P) (σ : Zt) : Option (OutT os) := match e with
  | .normal => finF n fn os h σ
  | .ret => finF n fn os h σ
  | _ => none
/-- What a function computes, out of its code. -/
noncomputable def runF {P : Program} (n : Nat) (fn : Func) (c : Code) (inn : Sh) (os : List Sh) (h : Hn P) (x : TL inn.ts) : Option (OutT os) := match inn.un (TL.list inn.ts x) 0 with
  | some (vs, u) => prep h ⟨fun _ => .any, vs, u.H, [], u.nx, false⟩ fun h σ => exec (execN 4) n c h σ (fin n fn os)
  | none => none
section
variable {P : Program} {E : En} {n : Nat} {m : List M} {K : Hp} {fr : Frz} {σ : Zt} {ρ : Sl1} {w : World}
theorem resS_ok (hr : Rel E fr σ m K ρ w) : ∀ {l : List ResultVar} {rs : List SV}, resS P n σ l = some rs → ∃ us : List Value, SV.relL m K rs us ∧ l.length = us.length ∧ ∀ (j : Nat) (r : ResultVar) (v : Value), l[j]? = some r → us[j]? = some v → RvOk P n (Hold E K (σ.atoms fr m)) ρ r v
  | [], rs, h => by cases h; exact ⟨[], rfl, rfl, fun j r v h => by simp at h⟩
  | .tmp t :: l, rs, h => by
    unfold resS at h
    split at h
    · rename_i vs hvs
      cases h
      obtain ⟨us, h1, h2, h3⟩ := resS_ok hr hvs
      refine ⟨ev n ρ (.tmp t) :: us, ⟨_, us, rfl, hr.toPur.ev n (.tmp t), h1⟩, by simp [h2], fun j r v hj hv => ?_⟩
      cases j with
      | zero => simp at hj hv; subst hj hv; rfl
      | succ j => exact h3 j r v (by simpa using hj) (by simpa using hv)
    · cases h
  | .cell a ty :: l, rs, h => by
    unfold resS at h
    split at h
    · rename_i i o e
      split at h
      · rename_i q hq
        split at h
        · rename_i v vs hv hvs
          cases h
          obtain ⟨us, h1, h2, h3⟩ := resS_ok hr hvs
          obtain ⟨x, hx, hmem⟩ := findR_spec hq
          obtain rfl := blkR_eq hx
          obtain ⟨b, ws, g1, g2, g3⟩ := hr.cls.blk hmem
          obtain ⟨u, g4, g5⟩ := ldv_ok (P := P) (o0 := 0) hv g2 (fun j u hu => by rw [Nat.zero_add]; exact g3 j u hu)
          rw [Nat.zero_add] at g4
          have hev := hr.toPur.ev n (.tmp a)
          rw [e] at hev
          obtain ⟨b', q1, q2⟩ := hev
          rw [g1] at q1; cases q1
          refine ⟨u :: us, ⟨_, us, rfl, g5, h1⟩, by simp [h2], fun j r v hj hv => ?_⟩
          cases j with
          | zero => simp at hj hv; subst hj hv; exact ⟨b, o, q2, g4⟩
          | succ j => exact h3 j r v (by simpa using hj) (by simpa using hv)
        · cases h
      · cases h
    · cases h
theorem mapM_run {C : World → Prop} {w : World} (hw : C w) : ∀ {l : List ResultVar} {us : List Value}, l.length = us.length → (∀ (j : Nat) (r : ResultVar) (v : Value), l[j]? = some r → us[j]? = some v → RvOk P n C ρ r v) → (l.mapM (rvS (frm n ρ))).run P w = .ok us w
  | [], us, h, _ => by
    obtain rfl : us = [] := List.length_eq_zero_iff.1 h.symm
    simp
  | r :: l, us, h, hr => by
    cases us with
    | nil => cases h
    | cons u us =>
      have h1 := rv_run (hr 0 r u rfl rfl) hw
      have h2 := mapM_run hw (l := l) (us := us) (by simpa using h) (fun j r v hj hv => hr (j + 1) r v (by simpa using hj) (by simpa using hv))
      simp [List.mapM_cons, h1, h2]
/-- What a function hands back. -/
def tupV : List Value → Value
  | [v] => v
  | vs => .tuple vs.toArray
theorem res_run {C : World → Prop} {w : World} (hw : C w) {fn : Func} {us : List Value} (hl : fn.results.toList.length = us.length) (h : ∀ (j : Nat) (r : ResultVar) (v : Value), fn.results.toList[j]? = some r → us[j]? = some v → RvOk P n C ρ r v) : (results fn (frm n ρ)).run P w = .ok (tupV us) w := by
  have h1 := mapM_run hw hl h
  rw [results_rvS]
  simp only [Array.mapM_eq_mapM_toList]
  simp only [Sem.run_bind, Sem.run_map, h1, Result.andThen_ok, Sem.run_pure]
  match us with
  | [] => rfl
  | [u] => rfl
  | u :: v :: r =>
    rw [dif_neg (by simp)]
    rfl
theorem resV_rel {rs : List SV} {us : List Value} (h : SV.relL m K rs us) (hne : rs ≠ []) : SV.rel m K (resV rs) (tupV us) := by
  match rs, us, h with
  | [], _, _ => exact absurd rfl hne
  | [v], us, h =>
    obtain ⟨u, q, rfl, h1, h2⟩ := relL_cons h
    obtain rfl := relL_nil h2
    exact h1
  | v :: v2 :: r, us, h =>
    obtain ⟨u, q, rfl, h1, h2⟩ := relL_cons h
    obtain ⟨u2, q2, rfl, h3, h4⟩ := relL_cons h2
    exact ⟨_, rfl, u, _, rfl, h1, u2, q2, rfl, h3, h4⟩
theorem finO_ok {rs : List SV} {us : List Value} {o : Sh} {x : TL o.ts} {K0 : Hp} {m0 : List M} (h : finO σ rs o = some x) (hr : Rel E fr σ m K ρ w) (hrel : SV.relL m K rs us) (hm : m0 <+: m) (ho : oldOk o.bl m0.length = true) (hF : σ.Hf = []) :
    ∃ vs' u' m', o.un (TL.list o.ts x) m0.length = some (vs', u') ∧ m0 <+: m' ∧ m'.length = u'.nx ∧ (∀ a ∈ u'.H, HA.ok m' K a) ∧ resR m' K vs' (tupV us) ∧ Sep E K (u'.H.map (HA.conc m') ++ fr.F) w := by
  unfold finO at h
  replace h := bift h; obtain ⟨hs, h⟩ := h
  split at h
  · rename_i g hg
    obtain ⟨vs, u, ms, e1, e2, e3, e4, e5, e6, e7, e8⟩ := Sh.get_un hg hr.okH hm ho
    rw [TL.of_list h]
    refine ⟨vs, u, m0 ++ ms, e1, pre_app _ _, e2, e4, ?_, ?_⟩
    · split at hs
      · rename_i hsl
        rw [hsl] at e3
        obtain rfl : vs = [] := e3
        obtain rfl := relL_nil hrel
        rfl
      · rename_i v r p hsl
        rw [hsl] at e3
        obtain ⟨sv, q, rfl, g1, g2⟩ := e3
        obtain rfl : q = [] := g2
        exact g1 _ (resV_rel hrel (by simp))
      · cases hs
    · have := e6 E _ w hr.toSep
      have h2 : σ.fz fr = fr.F := by unfold Zt.fz; rw [hF]; rfl
      rw [h2] at this
      have h3 : Sep E K (g.H.map (HA.conc m) ++ (u.H.map (HA.conc (m0 ++ ms)) ++ fr.F)) w := Sep.perm (perm3 _ _ _) this
      exact Sep.drops h3
  · cases h
theorem finD_ok {rs : List SV} {us : List Value} {m0 : List M} (hr : Rel E fr σ m K ρ w) (hrel : SV.relL m K rs us) (hm : m0 <+: m) (hF : σ.Hf = []) : ∀ {os : List Sh} {h0 : Hn P} {r : OutT os}, (∀ o ∈ os, oldOk o.bl m0.length = true) → finD σ rs os h0 = some r →
    ∃ vs' u' m', (outSh os r).1.un (outSh os r).2 m0.length = some (vs', u') ∧ m0 <+: m' ∧ m'.length = u'.nx ∧ (∀ a ∈ u'.H, HA.ok m' K a) ∧ resR m' K vs' (tupV us) ∧ Sep E K (u'.H.map (HA.conc m') ++ fr.F) w
  | [], h0, r, _, h => Empty.elim r
  | [a], h0, r, ho, h => finO_ok (K0 := K) (show finO σ rs a = some r from h) hr hrel hm (ho a (by simp)) hF
  | [a, b], h0, r, ho, h => by
    have key : (finO σ rs b).map Sum.inr = some r ∨ (finO σ rs a).map Sum.inl = some r := by
      cases h0 <;> first | exact .inl h | exact .inr h
    clear h
    rcases key with h | h
    · rw [Option.map_eq_some_iff] at h
      obtain ⟨x, h, rfl⟩ := h
      exact finO_ok (K0 := K) h hr hrel hm (ho b (by simp)) hF
    · rw [Option.map_eq_some_iff] at h
      obtain ⟨x, h, rfl⟩ := h
      exact finO_ok (K0 := K) h hr hrel hm (ho a (by simp)) hF
  | a :: b :: c :: os, h0, r, _, h => by cases h
/-- Slots and arguments, one by one. -/
theorem args_look : ∀ {sl : List (Nat × Kd)} {vs : List (Nat × SV)} {us : List Value} {j N : Nat}, slN j sl N = true → vs.map (·.1) = sl.map (·.1) → slR m K vs us → ∀ i sv, look vs i = some sv → ∃ k u, i = j + k ∧ us[k]? = some u ∧ SV.rel m K sv u
  | [], vs, us, j, N, h1, h2, h3, i, sv, hl => by
    have : vs = [] := by cases vs with | nil => rfl | cons a b => cases h2
    subst this; cases hl
  | p :: sl, vs, us, j, N, h1, h2, h3, i, sv, hl => by
    cases vs with
    | nil => cases h2
    | cons q vs =>
      simp only [List.map_cons, List.cons.injEq] at h2
      simp only [slN, Bool.and_eq_true] at h1
      have hj := Nat.eq_of_beq_eq_true h1.1
      obtain ⟨u, r, rfl, g1, g2⟩ := h3
      change (bif Nat.beq q.1 i then some q.2 else look vs i) = some sv at hl
      cases hb : Nat.beq q.1 i with
      | true =>
        rw [hb] at hl; cases hl
        have := Nat.eq_of_beq_eq_true hb
        exact ⟨0, u, by rw [← this, h2.1, hj]; rfl, rfl, g1⟩
      | false =>
        rw [hb] at hl
        obtain ⟨k, u', e1, e2, e3⟩ := args_look h1.2 h2.2 g2 i sv hl
        exact ⟨k + 1, u', by omega, by simpa using e2, e3⟩
theorem unS_keys {bi : List Nat} : ∀ {sl : List (Nat × Kd)} {u u' : Un} {vs : List (Nat × SV)}, unS bi sl u = some (vs, u') → vs.map (·.1) = sl.map (·.1)
  | [], u, u', vs, h => by cases h; rfl
  | p :: sl, u, u', vs, h => by
    unfold unS at h
    split at h
    · split at h
      · rename_i h2
        cases h
        simp [unS_keys h2]
      · cases h
    · cases h
theorem un_keys {s : Sh} {ds : List Dat} {nx : Nat} {vs : List (Nat × SV)} {u : Un} (h : s.un ds nx = some (vs, u)) : vs.map (·.1) = s.sl.map (·.1) := by
  unfold Sh.un at h
  replace h := (bift h).2
  split at h
  split at h
  · rename_i h1
    split at h
    · cases h; exact unS_keys h1
    · cases h
  · cases h
theorem slR_len : ∀ {vs : List (Nat × SV)} {us : List Value}, slR m K vs us → us.length = vs.length
  | [], us, h => by obtain rfl : us = [] := h; rfl
  | p :: vs, us, ⟨u, r, e, _, h⟩ => by subst e; simp [slR_len h]
end
section
variable {P : Program} {E : En} {n : Nat} {m : List M} {K : Hp} {fr : Frz} {σ : Zt} {ρ : Sl1} {w : World}
theorem resS_kq {b : Bool} : ∀ l : List ResultVar, resS P n ⟨σ.base, σ.top, σ.H, σ.Hf, σ.nx, b⟩ l = resS P n σ l
  | [] => rfl
  | .tmp t :: r => by unfold resS; rw [resS_kq r]; rfl
  | .cell a ty :: r => by unfold resS; rw [resS_kq r]; rfl
theorem finD_kq {b : Bool} {rs : List SV} : ∀ {os : List Sh} {h : Hn P}, finD ⟨σ.base, σ.top, σ.H, σ.Hf, σ.nx, b⟩ rs os h = finD σ rs os h
  | [], h => rfl
  | [a], h => rfl
  | [a, b], h => by cases h <;> rfl
  | a :: b :: c :: os, h => rfl
end
section
variable {P : Program} {n : Nat}
/-- A function answers what is computed of its code. -/
theorem fn_ok {s : Spec} {fn : Func} {c : Code} (hf : P.funcs[s.f]? = some fn) (hb : fn.body = some c) (hn : fn.ntmps = n) (h : Hn P) (hc : (slN 0 s.inn.sl s.inn.sl.length && Nat.ble s.inn.sl.length n) = true) (hold : ∀ ds vs u, s.inn.un ds 0 = some (vs, u) → ∀ o ∈ s.outs, oldOk o.bl u.nx = true)
    (hex : ∀ (x : TL s.inn.ts) r, s.fn x = some r → runF n fn c s.inn s.outs h x = some r) : SpecOk P s := by
  intro x r hx vs u hu m K args hgk hm hok hsl E w F hs
  rw [Bool.and_eq_true] at hc
  obtain ⟨hc1, hc2⟩ := hc
  have hkeys := un_keys hu
  have hlen : args.toArray.size ≤ n := by
    have h1 := slR_len hsl
    have h2 : vs.length = s.inn.sl.length := by have := congrArg List.length hkeys; simpa using this
    simp only [List.size_toArray]
    have := Nat.le_of_ble_eq_true hc2
    omega
  refine callsIn_wide.1 (callsIn_of_wp_marks (F := Fence.wide) (n := 0) hf hb trivial ?_)
  rw [hn, frm_args hlen]
  have hrun := hex x r hx
  unfold runF at hrun
  rw [hu] at hrun
  simp only at hrun
  have hrel : Rel E.out0 ⟨m, K, args1 args.toArray, fun _ => false, F, K⟩ ⟨fun _ => .any, vs, u.H, [], u.nx, false⟩ m K (args1 args.toArray) w := by
    refine ⟨⟨List.prefix_refl m, Hp.le_refl K, hm, fun e => (by cases e), fun i => trivial, fun i e => rfl, fun i _ => .inr rfl, fun i sv hi => ?_, hok, fun a ha => by simp at ha, MOk.nil hgk (Hp.le_refl K)⟩, ?_⟩
    · obtain ⟨k, v, e1, e2, e3⟩ := args_look hc1 hkeys hsl i sv hi
      have : args1 args.toArray i = v := by
        show args0 args.toArray i = v
        unfold args0
        rw [e1, Nat.zero_add]
        simp [e2]
      rw [this]; exact e3
    · exact hs.out0
  obtain ⟨hp, σp, mp, Kp, p1, p2, p3⟩ := prep_ok h hrun hrel
  refine exec_ok (execN_ok 4) c (OutT s.outs) E.out0 ⟨m, K, args1 args.toArray, fun _ => false, F, K⟩ (fun l e => by cases e) hp σp (fin n fn s.outs) r mp Kp _ w _ p1 p3 (fun e h' σ' m' K' ρ' w' h1 h2 h3 => ?_)
  have fini : finF n fn s.outs h' σ' = some r → LeavesInM Fence.wide 0 P fn (act1 n ρ').tmps (fun e w' => ∃ v K' L', e = .returned v ∧ (∃ vs' u' m', (outSh s.outs r).1.un (outSh s.outs r).2 u.nx = some (vs', u') ∧ m <+: m' ∧ m'.length = u'.nx ∧ (∀ a ∈ u'.H, HA.ok m' K' a) ∧ resR m' K' vs' v ∧ L' = u'.H.map (HA.conc m')) ∧ K.le K' ∧ Sep E K' (L' ++ F) w') (act1 n ρ').defers .returning w' := fun h3 => by
    unfold finF at h3
    obtain ⟨h'', σ2, m2, K2, g1, g2, g3⟩ := prep_ok h' h3 h1
    split at g1
    · rename_i rs hrs
      refine marks_leave ρ'.ds g3.mks g3.toSep (fun K3 w3 c1 c2 c3 => ?_)
      have g4 := g3.unmark c1 c2 c2 c3
      rw [← resS_kq (b := false)] at hrs
      rw [← finD_kq (b := false)] at g1
      obtain ⟨us, q1, q2, q3⟩ := resS_ok g4 hrs
      refine ⟨tupV us, res_run (ρ := (⟨ρ'.f, []⟩ : Sl1)) g4.hold q2 q3, ?_⟩
      obtain ⟨vs', u', m'', z1, z2, z3, z4, z5, z6⟩ := finD_ok (m0 := m) g4 q1 g4.hm (((p2.trans h2).trans g2).2) (fun o ho => by rw [hm]; exact hold _ _ _ hu o ho) g1
      rw [hm] at z1
      exact ⟨_, K3, _, rfl, ⟨vs', u', m'', z1, z2, z3, z4, z5, rfl⟩, g4.hK, z6.back⟩
    · cases g1
  cases e with
  | normal => exact fini h3
  | ret => exact fini h3
  | _ => cases h3
end
end Go.Proofs.YticfjbmafkjmaaaDoor
namespace Go.Proofs.YticfjbmafkjmaaaDoor
open Go.RowKit
set_option linter.unusedVariables false
set_option linter.unusedSimpArgs false
set_option linter.unnecessarySimpa false
set_option linter.unusedSectionVars false
variable [BldA]
mutual
theorem un_nx {bi : List Nat} : ∀ (k : Kd) {u u' : Un} {v : SV}, Kd.un bi k u = some (v, u') → u.nx ≤ u'.nx
  | .any, u, u', v, h => by cases h; exact Nat.le_refl _
  | .dat t, u, u', v, h => by unfold Kd.un at h; split at h <;> cases h; exact Nat.le_refl _
  | .nilp, u, u', v, h => by cases h; exact Nat.le_refl _
  | .nils, u, u', v, h => by cases h; exact Nat.le_refl _
  | .nilf, u, u', v, h => by cases h; exact Nat.le_refl _
  | .ptr j o, u, u', v, h => by unfold Kd.un at h; split at h <;> cases h; exact Nat.le_refl _
  | .own e t, u, u', v, h => by unfold Kd.un at h; split at h <;> cases h; exact Nat.le_add_right _ _
  | .al j, u, u', v, h => by unfold Kd.un at h; split at h <;> cases h; exact Nat.le_refl _
  | .fsl j m, u, u', v, h => by unfold Kd.un at h; split at h <;> cases h; exact Nat.le_refl _
  | .agg ks, u, u', v, h => by
    unfold Kd.un at h; split at h
    · cases h; exact unL_nx ks (by assumption)
    · cases h
  | .tup ks, u, u', v, h => by
    unfold Kd.un at h; split at h
    · cases h; exact unL_nx ks (by assumption)
    · cases h
  | .fn f ks, u, u', v, h => by
    unfold Kd.un at h; split at h
    · cases h; exact unL_nx ks (by assumption)
    · cases h
  | .lit w, u, u', v, h => by cases h; exact Nat.le_refl _
  | .od o, u, u', v, h => by
    unfold Kd.un at h
    replace h := (bift h).2
    split at h
    · split at h
      · cases h; exact Nat.le_add_right _ _
      · cases h
    · cases h
  | .rp j, u, u', v, h => by unfold Kd.un at h; split at h <;> cases h; exact Nat.le_refl _
  | .is j k, u, u', v, h => by
    unfold Kd.un at h; split at h
    · split at h
      · cases h; exact un_nx k (by assumption)
      · cases h
    · cases h
theorem unL_nx {bi : List Nat} : ∀ (ks : List Kd) {u u' : Un} {vs : List SV}, Kd.unL bi ks u = some (vs, u') → u.nx ≤ u'.nx
  | [], u, u', vs, h => by cases h; exact Nat.le_refl _
  | k :: ks, u, u', vs, h => by
    unfold Kd.unL at h; split at h
    · rename_i h1
      split at h
      · rename_i h2; cases h; exact Nat.le_trans (un_nx k h1) (unL_nx ks h2)
      · cases h
    · cases h
end
theorem unS_nx {bi : List Nat} : ∀ (sl : List (Nat × Kd)) {u u' : Un} {vs : List (Nat × SV)}, unS bi sl u = some (vs, u') → u.nx ≤ u'.nx
  | [], u, u', vs, h => by cases h; exact Nat.le_refl _
  | p :: sl, u, u', vs, h => by
    unfold unS at h; split at h
    · rename_i h1
      split at h
      · rename_i h2; cases h; exact Nat.le_trans (un_nx p.2 h1) (unS_nx sl h2)
      · cases h
    · cases h
theorem unB_nx {bi : List Nat} : ∀ (bl : List Bk) (is : List Nat) {u u' : Un}, unB bi bl is u = some u' → u.nx ≤ u'.nx
  | [], [], u, u', h => by cases h; exact Nat.le_refl _
  | [], i :: is, u, u', h => by cases h
  | b :: bl, [], u, u', h => by cases h
  | b :: bl, i :: is, u, u', h => by
    unfold unB at h; split at h
    · rename_i u1 h1
      refine Nat.le_trans ?_ (unB_nx bl is h)
      unfold unB1 at h1
      cases hn : b.nu with
      | true => rw [hn] at h1; cases h1; exact Nat.le_refl _
      | false =>
        rw [hn] at h1; simp only [cond_false] at h1
        cases hlp : b.lp with
        | true => rw [hlp] at h1; simp only [cond_true] at h1; cases h1; exact Nat.le_refl _
        | false =>
        rw [hlp] at h1; simp only [cond_false] at h1
        cases hr : b.rw with
        | some o =>
          rw [hr] at h1
          dsimp only at h1
          split at h1
          · split at h1
            · cases h1; exact Nat.le_succ _
            · cases h1
          · cases h1
        | none =>
        rw [hr] at h1
        dsimp only at h1
        cases hb : b.bu with
        | true =>
          rw [hb] at h1; simp only [cond_true] at h1
          split at h1 <;> cases h1
          exact Nat.le_refl _
        | false =>
          rw [hb] at h1; simp only [cond_false] at h1
          split at h1
          · rename_i h2
            cases h1
            exact Nat.le_trans (unL_nx b.ks h2) (Nat.le_succ _)
          · cases h1
    · cases h
theorem idsB_nx : ∀ (bl : List Bk) (nx : Nat), allOld bl = true → (idsB bl nx).2 = nx + bl.length
  | [], nx, _ => rfl
  | b :: bl, nx, h => by
    simp only [allOld, Bool.and_eq_true] at h
    cases hb : b.old with
    | some i => rw [hb] at h; cases h.1
    | none =>
      simp only [idsB, hb, List.length_cons]
      rw [idsB_nx bl (nx + 1) h.2]
      omega
theorem sh_nx {s : Sh} {ds : List Dat} {vs : List (Nat × SV)} {u : Un} (h : s.un ds 0 = some (vs, u)) (ho : allOld s.bl = true) : s.bl.length ≤ u.nx := by
  unfold Sh.un at h
  replace h := (bift h).2
  have hn := idsB_nx s.bl 0 ho
  split at h
  rename_i bi nx he
  rw [he] at hn
  simp only [Nat.zero_add] at hn
  split at h
  · rename_i h1
    split at h
    · rename_i h2
      cases h
      have := unS_nx s.sl h1
      have := unB_nx s.bl bi h2
      simp only at *
      omega
    · cases h
  · cases h
theorem oldOk_le : ∀ (bl : List Bk) {a b : Nat}, oldOk bl a = true → a ≤ b → oldOk bl b = true
  | [], a, b, h, hab => rfl
  | x :: bl, a, b, h, hab => by
    simp only [oldOk, Bool.and_eq_true] at h ⊢
    refine ⟨?_, oldOk_le bl h.2 hab⟩
    cases ho : x.old with
    | none => rfl
    | some i =>
      have h1 := h.1
      rw [ho] at h1
      simp only [Nat.blt_eq] at h1 ⊢
      omega
def bodyOf (fn : Func) : Code := match fn.body with | some c => c | none => .skip
/-- What is asked of a specification beforehand. -/
def specOk (s : Spec) (fn : Func) : Bool := fn.body.isSome && (slN 0 s.inn.sl s.inn.sl.length && Nat.ble s.inn.sl.length fn.ntmps) && (allOld s.inn.bl && s.outs.all fun o => oldOk o.bl s.inn.bl.length)
/-- A function answers what is computed of its code. -/
theorem fn_is {P : Program} {s : Spec} {fn : Func} (hf : P.funcs[s.f]? = some fn) (h : Hn P) (hc : specOk s fn = true) (hex : (fun x => runF fn.ntmps fn (bodyOf fn) s.inn s.outs h x) = s.fn) : SpecOk P s := by
  unfold specOk at hc
  simp only [Bool.and_eq_true] at hc
  obtain ⟨⟨h1, h2, h2'⟩, h3, h4⟩ := hc
  have hb : fn.body = some (bodyOf fn) := by
    unfold bodyOf
    cases hbd : fn.body with
    | none => rw [hbd] at h1; cases h1
    | some c => rfl
  refine fn_ok hf hb rfl h (by rw [h2, h2']; rfl) (fun ds vs u hu o ho => oldOk_le o.bl (List.all_eq_true.1 h4 o ho) (sh_nx hu h3)) (fun x r hx => ?_)
  rw [← hx]
  exact congrFun hex x
end Go.Proofs.YticfjbmafkjmaaaDoor
namespace Go.Proofs.YticfjbmafkjmaaaDoor
open Go.RowKit
set_option linter.unusedVariables false
set_option linter.unusedSimpArgs false
set_option linter.unnecessarySimpa false
set_option linter.unusedSectionVars false
/-- What answers true for all that is known of its arguments does so for the caller. -/
theorem walkX [BldA] {P : Program} {s : Spec} {W : World} (hs : SpecOk P s) {x : TL s.inn.ts} {r : OutT s.outs} (hr : s.fn x = some r) (hgk : BldA.gk (Hp.of W)) {vs : List (Nat × SV)} (hun : s.inn.un (TL.list _ x) 0 = some (vs, ⟨[], 0, [], []⟩))
    (hout : (outSh s.outs r).1.un (outSh s.outs r).2 0 = some ([(0, .bool true)], ⟨[], 0, [], []⟩)) {args : List Value} (hsl : slR [] (Hp.of W) vs args) :
    Calls P s.f args.toArray W fun e W' => e = .returned (.bool true) ∧ Below W.heap.size W W' := by
  have h := hs x r hr vs _ hun [] (Hp.of W) args hgk rfl (fun a ha => by cases ha) hsl (En.of W) W [] (Sep.start W)
  refine h.mono fun e W' h => ?_
  obtain ⟨v, K', L', rfl, ⟨vs', u', m', h1, _, _, _, h2, _⟩, h3, h4⟩ := h
  have h1 := h1.symm.trans hout
  cases h1
  obtain rfl : v = .bool true := h2
  exact ⟨rfl, h4.below h3⟩
end Go.Proofs.YticfjbmafkjmaaaDoor
namespace Go.Proofs
open Go.Shelf
def Tryd.lays29_ren : Go.Shelf.Ren := ⟨fun | 29 => 33 | n => n, fun | 22 => 59 | 3 => 3 | 4 => 4 | 25 => 61 | 54 => 62 | 0 => 0 | 5 => 5 | n => n, fun | 1 => 0 | n => n⟩
theorem Tryd.lays29 : Go.Proofs.Lays7.n29 Tryd.prog Tryd.lays29_ren := {
  mixed := by kernel_rfl
  f29 := Tryd.func33.trans (congrArg some (by kernel_rfl))
  t0 := Tryd.underlying0
  a0 := Tryd.isAgg0
  z0 := Tryd.sizeOf0
  v0 := Tryd.zeroValue0
  i0 := by kernel_rfl
  t3 := Tryd.underlying3
  a3 := Tryd.isAgg3
  z3 := Tryd.sizeOf3
  v3 := Tryd.zeroValue3
  i3 := by kernel_rfl
  t4 := Tryd.underlying4
  a4 := Tryd.isAgg4
  z4 := Tryd.sizeOf4
  v4 := Tryd.zeroValue4
  i4 := by kernel_rfl
  t5 := Tryd.underlying5
  a5 := Tryd.isAgg5
  z5 := Tryd.sizeOf5
  v5 := Tryd.zeroValue5
  i5 := by kernel_rfl
  t22 := Tryd.underlying59
  a22 := Tryd.isAgg59
  z22 := Tryd.sizeOf59
  v22 := Tryd.zeroValue59
  i22 := by kernel_rfl
  t25 := Tryd.underlying61
  a25 := Tryd.isAgg61
  z25 := Tryd.sizeOf61
  v25 := Tryd.zeroValue61
  i25 := by kernel_rfl
  t54 := Tryd.underlying62
  a54 := Tryd.isAgg62
  z54 := Tryd.sizeOf62
  g1 := by kernel_rfl }
end Go.Proofs
namespace Go.Proofs.YticfjbmafkjmaaaDoor
open Go.RowKit
set_option linter.unusedVariables false
set_option linter.unnecessarySimpa false
set_option linter.unusedSectionVars false
set_option linter.unusedSimpArgs false
def tzF (x : Int) : Option Int := if 0 ≤ x ∧ x < 18446744073709551616 then some ((Lib.ctz 64 x.toNat : Nat) : Int) else none
/-- The library's table lies there. -/
def tzGk (K : Hp) : Prop := ∀ j, j < 64 → cellK K 0 j = some (.int .u8 ((Lib.deBruijn64tab.getD j 0 : Nat) : Int))
theorem tzGk.mono {K K' : Hp} (h : K.cle K') (g : tzGk K) : tzGk K' := fun j hj => h _ _ _ (g j hj)
def sp_TZ : Spec := ⟨33, ⟨[(0, .dat (.int .u64))], []⟩, [⟨[(0, .dat (.int .i64))], []⟩], tzF⟩
theorem TZ_is [BldA] (hg : ∀ K, BldA.gk K → tzGk K) : SpecOk Tryd.prog sp_TZ := by
  intro x r hr vs u hu m K args hgk hm hH hsl E w F hs
  have hu' : sp_TZ.inn.un (TL.list _ x) 0 = some ([(0, .int .u64 x)], ⟨[], 0, [], []⟩) := rfl
  rw [hu'] at hu
  cases hu
  obtain ⟨v, q, rfl, h1, rfl⟩ := hsl
  obtain rfl : v = .int .u64 x := h1
  replace hr : tzF x = some r := hr
  unfold tzF at hr
  split at hr
  · rename_i hx
    cases hr
    have hxe : ((x.toNat : Nat) : Int) = x := Int.toNat_of_nonneg hx.1
    have hc := Any7.bits_TrailingZeros64 Tryd.lays29 x.toNat (by omega) w (fun _ j hj => cellK_world hs.sub (hg K hgk j hj))
    rw [hxe] at hc
    refine Calls.mono (show Calls Tryd.prog 33 #[.int .u64 x] w _ from hc) ?_
    rintro e w' ⟨rfl, rfl⟩
    exact ⟨_, K, [], rfl, ⟨[(0, .int .i64 _)], ⟨[], 0, [], []⟩, m, rfl, List.prefix_rfl, hm, fun a h => (by cases h), rfl, rfl⟩, Hp.le_refl K, hs⟩
  · cases hr
end Go.Proofs.YticfjbmafkjmaaaDoor
namespace Go.Proofs.YticfjbmafkjmaaaDoor
open Go.RowKit
set_option linter.unusedVariables false
set_option maxRecDepth 100000
set_option maxHeartbeats 4000000
instance nob : BldA := ⟨1000000000, fun b _ => Cl b 1000000000 [.pointer none, .slice none 0 0], fun h => h, tzGk, tzGk.mono⟩
noncomputable def ok_TZ : OkSpec Tryd.prog := ⟨sp_TZ, TZ_is (fun _ h => h), Tryd.call33⟩

noncomputable def fn_dense_New (xa : Int) : Option ((Int ⊕ (Int × (List Int)))) :=
  cond (decide (xa < 0)) (some (.inl 2)) (cond (decide (1048576 < xa)) (some (.inl 5)) ((mk (IntKind.wrap .i64 (Int.tdiv (IntKind.wrap .i64 ((IntKind.wrap .i64 (xa + 64)) - 1)) 64)) (IntKind.wrap .i64 (Int.tdiv (IntKind.wrap .i64 ((IntKind.wrap .i64 (xa + 64)) - 1)) 64)) 0 : Option (List Int)).bind fun z19 => some (.inr (0, z19))))
noncomputable def h_dense_New : Hn Tryd.prog := .tw 5 (.nil) (.tw 7 (.nil) (.pl (.pl (.nil))))
noncomputable def sp_dense_New : Spec := ⟨7, ⟨[(0, .is 0 (.dat (.int .i64)))], [⟨none, 0, [], false, true, none, false⟩]⟩, [⟨[(0, .tup [.nilp, .dat (.int .i64)])], []⟩, ⟨[(0, .tup [.ptr 0 0, .dat (.int .i64)])], [⟨none, 53, [.is 1 (.any), .own 59 (.int .u64)], false, false, none, false⟩, ⟨(some 0), 0, [], false, true, none, false⟩]⟩], fun x => fn_dense_New x⟩
theorem dense_New_is : SpecOk Tryd.prog sp_dense_New := fn_is Tryd.func7 h_dense_New (by kernel_rfl) (by kernel_rfl)
noncomputable def ok_dense_New : OkSpec Tryd.prog := ⟨sp_dense_New, dense_New_is, Tryd.call7⟩

noncomputable def fn_dense_New_c70  : Option ((Int ⊕ (Int × (List Int)))) :=
  cond (decide (70 < 0)) (some (.inl 2)) (cond (decide (1048576 < 70)) (some (.inl 5)) ((mk (IntKind.wrap .i64 (Int.tdiv (IntKind.wrap .i64 ((IntKind.wrap .i64 (70 + 64)) - 1)) 64)) (IntKind.wrap .i64 (Int.tdiv (IntKind.wrap .i64 ((IntKind.wrap .i64 (70 + 64)) - 1)) 64)) 0 : Option (List Int)).bind fun z19 => some (.inr (0, z19))))
noncomputable def h_dense_New_c70 : Hn Tryd.prog := .tw 5 (.nil) (.tw 7 (.nil) (.pl (.pl (.nil))))
noncomputable def sp_dense_New_c70 : Spec := ⟨7, ⟨[(0, .lit (.int .i64 70))], []⟩, [⟨[(0, .tup [.nilp, .dat (.int .i64)])], []⟩, ⟨[(0, .tup [.ptr 0 0, .dat (.int .i64)])], [⟨none, 53, [.lit (.int .i64 70), .own 59 (.int .u64)], false, false, none, false⟩]⟩], fun x => fn_dense_New_c70⟩
theorem dense_New_c70_is : SpecOk Tryd.prog sp_dense_New_c70 := fn_is Tryd.func7 h_dense_New_c70 (by kernel_rfl) (by kernel_rfl)
noncomputable def ok_dense_New_c70 : OkSpec Tryd.prog := ⟨sp_dense_New_c70, dense_New_c70_is, Tryd.call7⟩

noncomputable def fn_dense_Set_Size (xa : (Option (Int × (List Int)))) : Option Int :=
  cond (xa.isNone) (some (0)) ((xa : Option (Int × (List Int))).bind fun y11 => some (y11.1))
noncomputable def h_dense_Set_Size : Hn Tryd.prog := .tw 4 (.nil) (.nil)
noncomputable def sp_dense_Set_Size : Spec := ⟨22, ⟨[(0, .dat (.ptr (.cons (.int .i64) (.one (.sl (.int .u64))))))], []⟩, [⟨[(0, .dat (.int .i64))], []⟩], fun x => fn_dense_Set_Size x⟩
theorem dense_Set_Size_is : SpecOk Tryd.prog sp_dense_Set_Size := fn_is Tryd.func22 h_dense_Set_Size (by kernel_rfl) (by kernel_rfl)
noncomputable def ok_dense_Set_Size : OkSpec Tryd.prog := ⟨sp_dense_Set_Size, dense_Set_Size_is, Tryd.call22⟩

noncomputable def fn_dense_Set_mayHave (xa : (Option (Int × (List Int)))) (xb : Int) : Option Bool :=
  (cond (decide (0 ≤ xb)) ((fn_dense_Set_Size xa).bind fun i28 => some (decide (xb < i28))) (some (false))).bind fun t24 => some (t24)
noncomputable def h_dense_Set_mayHave : Hn Tryd.prog := .gj 4 ⟨[(12, .dat .bool)], []⟩ [] (.two 7 (.cl ok_dense_Set_Size [] (.nil)) (.nil)) (.nil)
noncomputable def sp_dense_Set_mayHave : Spec := ⟨30, ⟨[(0, .dat (.ptr (.cons (.int .i64) (.one (.sl (.int .u64)))))), (1, .dat (.int .i64))], []⟩, [⟨[(0, .dat .bool)], []⟩], fun x => fn_dense_Set_mayHave x.1 x.2⟩
theorem dense_Set_mayHave_is : SpecOk Tryd.prog sp_dense_Set_mayHave := fn_is Tryd.func30 h_dense_Set_mayHave (by kernel_rfl) (by kernel_rfl)
noncomputable def ok_dense_Set_mayHave : OkSpec Tryd.prog := ⟨sp_dense_Set_mayHave, dense_Set_mayHave_is, Tryd.call30⟩

noncomputable def fn_dense_Set_Has (xa : (Option (Int × (List Int)))) (xb : Int) : Option Bool :=
  (fn_dense_Set_mayHave xa xb).bind fun t200 => cond (t200) ((xa : Option (Int × (List Int))).bind fun y205 => (getI y205.2 (IntKind.wrap .i64 (Int.tdiv xb 64))).bind fun x215 => (ge0 (Int.tmod xb 64)).bind fun u224 => some (!decide ((IntKind.wrap .u64 ((BitVec.ofInt (IntKind.bits .u64) x215 &&& BitVec.ofInt (IntKind.bits .u64) (IntKind.wrap .u64 (1 * 2 ^ (min (Int.toNat (Int.tmod xb 64)) (IntKind.bits .u64))))).toNat : Int)) = 0))) (some (false))
noncomputable def h_dense_Set_Has : Hn Tryd.prog := .mix [([0, 1], 2)] [3, 4, 5, 6, 7, 8, 9, 10, 11, 12, 13, 14, 15, 16, 17, 18] [] [] (.cl ok_dense_Set_mayHave [] (.two 8 (.nil) (.nil)))
noncomputable def sp_dense_Set_Has : Spec := ⟨21, ⟨[(0, .dat (.ptr (.cons (.int .i64) (.one (.sl (.int .u64)))))), (1, .dat (.int .i64))], []⟩, [⟨[(0, .dat .bool)], []⟩], fun x => fn_dense_Set_Has x.1 x.2⟩
theorem dense_Set_Has_is : SpecOk Tryd.prog sp_dense_Set_Has := fn_is Tryd.func21 h_dense_Set_Has (by kernel_rfl) (by kernel_rfl)
noncomputable def ok_dense_Set_Has : OkSpec Tryd.prog := ⟨sp_dense_Set_Has, dense_Set_Has_is, Tryd.call21⟩

noncomputable def fn_dense_Set_Add_zi (xb : Int) : Option Bool :=
  (fn_dense_Set_mayHave ((none : (Option (Int × (List Int))))) xb).bind fun t26 => (cond (!t26) (some (true)) ((fn_dense_Set_Has ((none : (Option (Int × (List Int))))) xb).bind fun t41 => some (t41))).bind fun t37 => cond (t37) (some (false)) (none)
noncomputable def h_dense_Set_Add_zi : Hn Tryd.prog := .cl ok_dense_Set_mayHave [] (.gj 3 ⟨[(13, .dat .bool)], []⟩ [] (.two 9 (.nil) (.cl ok_dense_Set_Has [] (.nil))) (.tw 13 (.nil) (.mix [] [0, 1, 2, 3, 4, 5, 6, 7, 8, 9, 10, 11, 12] [13] [] (.nil))))
noncomputable def sp_dense_Set_Add_zi : Spec := ⟨15, ⟨[(0, .nilp), (1, .dat (.int .i64))], []⟩, [⟨[(0, .dat .bool)], []⟩], fun x => fn_dense_Set_Add_zi x⟩
theorem dense_Set_Add_zi_is : SpecOk Tryd.prog sp_dense_Set_Add_zi := fn_is Tryd.func15 h_dense_Set_Add_zi (by kernel_rfl) (by kernel_rfl)
noncomputable def ok_dense_Set_Add_zi : OkSpec Tryd.prog := ⟨sp_dense_Set_Add_zi, dense_Set_Add_zi_is, Tryd.call15⟩
noncomputable def fn_dense_Set_Next_l1 (y175 : (Int × (List Int))) : (Int × Int) → Option ((Int × Int) ⊕ ((Int × Int) ⊕ Int)) := fun ((i285, i286) : (Int × Int)) => cond (decide (i286 = 0)) (cond (decide ((IntKind.wrap .i64 (i285 + 1)) = (((y175.2.length : Nat) : Int)))) (some (.inr ((.inr ((-1)))))) ((getI y175.2 (IntKind.wrap .i64 (i285 + 1))).bind fun x319 => some (.inl ((IntKind.wrap .i64 (i285 + 1), x319))))) (some (.inr ((.inl (i285, i286)))))
noncomputable def fn_dense_Set_Next (xa : (Option (Int × (List Int)))) (xb : Int) : Option Int :=
  (fn_dense_Set_mayHave xa (if xb < 0 then 0 else xb)).bind fun t170 => cond (!t170) (some ((-1))) ((xa : Option (Int × (List Int))).bind fun y175 => (getI y175.2 (IntKind.wrap .i64 (Int.tdiv (if xb < 0 then 0 else xb) 64))).bind fun x185 => (ge0 (Int.tmod (if xb < 0 then 0 else xb) 64)).bind fun u194 => (ge0 (Int.tmod (if xb < 0 then 0 else xb) 64)).bind fun u196 => (loop (fn_dense_Set_Next_l1 y175) ((IntKind.wrap .i64 (Int.tdiv (if xb < 0 then 0 else xb) 64), IntKind.wrap .u64 ((Int.fdiv x185 (2 ^ (min (Int.toNat (Int.tmod (if xb < 0 then 0 else xb) 64)) (IntKind.bits .u64)))) * 2 ^ (min (Int.toNat (Int.tmod (if xb < 0 then 0 else xb) 64)) (IntKind.bits .u64))))) : Option ((Int × Int) ⊕ Int)).bind fun o => match o with | .inr r => some r | .inl (i262, i263) => (tzF i263).bind fun i330 => some (IntKind.wrap .i64 ((IntKind.wrap .i64 (i262 * 64)) + i330)))
noncomputable def h_dense_Set_Next : Hn Tryd.prog := .ms 0 (.cl ok_dense_Set_mayHave [] (.tw 12 (.nil) (.jx [] ⟨[(5, .dat (.int .i64)), (6, .dat (.int .u64))], []⟩ [] (.lp ⟨[(5, .dat (.int .i64)), (6, .dat (.int .u64))], []⟩ (.tw 29 (.tw 38 (.nil) (.nil)) (.nil))) (.cl ok_TZ [] (.nil)))))
noncomputable def sp_dense_Set_Next : Spec := ⟨23, ⟨[(0, .dat (.ptr (.cons (.int .i64) (.one (.sl (.int .u64)))))), (1, .dat (.int .i64))], []⟩, [⟨[(0, .dat (.int .i64))], []⟩], fun x => fn_dense_Set_Next x.1 x.2⟩
theorem dense_Set_Next_is : SpecOk Tryd.prog sp_dense_Set_Next := fn_is Tryd.func23 h_dense_Set_Next (by kernel_rfl) (by kernel_rfl)
noncomputable def ok_dense_Set_Next : OkSpec Tryd.prog := ⟨sp_dense_Set_Next, dense_Set_Next_is, Tryd.call23⟩

noncomputable def fn_math_bits_OnesCount64 (xa : Int) : Option Int :=
  some (IntKind.wrap .i64 ((BitVec.ofInt (IntKind.bits .i64) (IntKind.wrap .i64 (IntKind.wrap .u64 ((IntKind.wrap .u64 ((IntKind.wrap .u64 ((IntKind.wrap .u64 ((BitVec.ofInt (IntKind.bits .u64) (IntKind.wrap .u64 ((Int.fdiv (IntKind.wrap .u64 ((IntKind.wrap .u64 ((BitVec.ofInt (IntKind.bits .u64) (Int.fdiv (IntKind.wrap .u64 ((IntKind.wrap .u64 ((BitVec.ofInt (IntKind.bits .u64) (Int.fdiv xa (2 ^ (min (Int.toNat 1) (IntKind.bits .u64)))) &&& BitVec.ofInt (IntKind.bits .u64) 6148914691236517205).toNat : Int)) + (IntKind.wrap .u64 ((BitVec.ofInt (IntKind.bits .u64) xa &&& BitVec.ofInt (IntKind.bits .u64) 6148914691236517205).toNat : Int)))) (2 ^ (min (Int.toNat 2) (IntKind.bits .u64)))) &&& BitVec.ofInt (IntKind.bits .u64) 3689348814741910323).toNat : Int)) + (IntKind.wrap .u64 ((BitVec.ofInt (IntKind.bits .u64) (IntKind.wrap .u64 ((IntKind.wrap .u64 ((BitVec.ofInt (IntKind.bits .u64) (Int.fdiv xa (2 ^ (min (Int.toNat 1) (IntKind.bits .u64)))) &&& BitVec.ofInt (IntKind.bits .u64) 6148914691236517205).toNat : Int)) + (IntKind.wrap .u64 ((BitVec.ofInt (IntKind.bits .u64) xa &&& BitVec.ofInt (IntKind.bits .u64) 6148914691236517205).toNat : Int)))) &&& BitVec.ofInt (IntKind.bits .u64) 3689348814741910323).toNat : Int)))) (2 ^ (min (Int.toNat 4) (IntKind.bits .u64)))) + (IntKind.wrap .u64 ((IntKind.wrap .u64 ((BitVec.ofInt (IntKind.bits .u64) (Int.fdiv (IntKind.wrap .u64 ((IntKind.wrap .u64 ((BitVec.ofInt (IntKind.bits .u64) (Int.fdiv xa (2 ^ (min (Int.toNat 1) (IntKind.bits .u64)))) &&& BitVec.ofInt (IntKind.bits .u64) 6148914691236517205).toNat : Int)) + (IntKind.wrap .u64 ((BitVec.ofInt (IntKind.bits .u64) xa &&& BitVec.ofInt (IntKind.bits .u64) 6148914691236517205).toNat : Int)))) (2 ^ (min (Int.toNat 2) (IntKind.bits .u64)))) &&& BitVec.ofInt (IntKind.bits .u64) 3689348814741910323).toNat : Int)) + (IntKind.wrap .u64 ((BitVec.ofInt (IntKind.bits .u64) (IntKind.wrap .u64 ((IntKind.wrap .u64 ((BitVec.ofInt (IntKind.bits .u64) (Int.fdiv xa (2 ^ (min (Int.toNat 1) (IntKind.bits .u64)))) &&& BitVec.ofInt (IntKind.bits .u64) 6148914691236517205).toNat : Int)) + (IntKind.wrap .u64 ((BitVec.ofInt (IntKind.bits .u64) xa &&& BitVec.ofInt (IntKind.bits .u64) 6148914691236517205).toNat : Int)))) &&& BitVec.ofInt (IntKind.bits .u64) 3689348814741910323).toNat : Int)))))) &&& BitVec.ofInt (IntKind.bits .u64) 1085102592571150095).toNat : Int)) + (Int.fdiv (IntKind.wrap .u64 ((BitVec.ofInt (IntKind.bits .u64) (IntKind.wrap .u64 ((Int.fdiv (IntKind.wrap .u64 ((IntKind.wrap .u64 ((BitVec.ofInt (IntKind.bits .u64) (Int.fdiv (IntKind.wrap .u64 ((IntKind.wrap .u64 ((BitVec.ofInt (IntKind.bits .u64) (Int.fdiv xa (2 ^ (min (Int.toNat 1) (IntKind.bits .u64)))) &&& BitVec.ofInt (IntKind.bits .u64) 6148914691236517205).toNat : Int)) + (IntKind.wrap .u64 ((BitVec.ofInt (IntKind.bits .u64) xa &&& BitVec.ofInt (IntKind.bits .u64) 6148914691236517205).toNat : Int)))) (2 ^ (min (Int.toNat 2) (IntKind.bits .u64)))) &&& BitVec.ofInt (IntKind.bits .u64) 3689348814741910323).toNat : Int)) + (IntKind.wrap .u64 ((BitVec.ofInt (IntKind.bits .u64) (IntKind.wrap .u64 ((IntKind.wrap .u64 ((BitVec.ofInt (IntKind.bits .u64) (Int.fdiv xa (2 ^ (min (Int.toNat 1) (IntKind.bits .u64)))) &&& BitVec.ofInt (IntKind.bits .u64) 6148914691236517205).toNat : Int)) + (IntKind.wrap .u64 ((BitVec.ofInt (IntKind.bits .u64) xa &&& BitVec.ofInt (IntKind.bits .u64) 6148914691236517205).toNat : Int)))) &&& BitVec.ofInt (IntKind.bits .u64) 3689348814741910323).toNat : Int)))) (2 ^ (min (Int.toNat 4) (IntKind.bits .u64)))) + (IntKind.wrap .u64 ((IntKind.wrap .u64 ((BitVec.ofInt (IntKind.bits .u64) (Int.fdiv (IntKind.wrap .u64 ((IntKind.wrap .u64 ((BitVec.ofInt (IntKind.bits .u64) (Int.fdiv xa (2 ^ (min (Int.toNat 1) (IntKind.bits .u64)))) &&& BitVec.ofInt (IntKind.bits .u64) 6148914691236517205).toNat : Int)) + (IntKind.wrap .u64 ((BitVec.ofInt (IntKind.bits .u64) xa &&& BitVec.ofInt (IntKind.bits .u64) 6148914691236517205).toNat : Int)))) (2 ^ (min (Int.toNat 2) (IntKind.bits .u64)))) &&& BitVec.ofInt (IntKind.bits .u64) 3689348814741910323).toNat : Int)) + (IntKind.wrap .u64 ((BitVec.ofInt (IntKind.bits .u64) (IntKind.wrap .u64 ((IntKind.wrap .u64 ((BitVec.ofInt (IntKind.bits .u64) (Int.fdiv xa (2 ^ (min (Int.toNat 1) (IntKind.bits .u64)))) &&& BitVec.ofInt (IntKind.bits .u64) 6148914691236517205).toNat : Int)) + (IntKind.wrap .u64 ((BitVec.ofInt (IntKind.bits .u64) xa &&& BitVec.ofInt (IntKind.bits .u64) 6148914691236517205).toNat : Int)))) &&& BitVec.ofInt (IntKind.bits .u64) 3689348814741910323).toNat : Int)))))) &&& BitVec.ofInt (IntKind.bits .u64) 1085102592571150095).toNat : Int)) (2 ^ (min (Int.toNat 8) (IntKind.bits .u64)))))) + (Int.fdiv (IntKind.wrap .u64 ((IntKind.wrap .u64 ((BitVec.ofInt (IntKind.bits .u64) (IntKind.wrap .u64 ((Int.fdiv (IntKind.wrap .u64 ((IntKind.wrap .u64 ((BitVec.ofInt (IntKind.bits .u64) (Int.fdiv (IntKind.wrap .u64 ((IntKind.wrap .u64 ((BitVec.ofInt (IntKind.bits .u64) (Int.fdiv xa (2 ^ (min (Int.toNat 1) (IntKind.bits .u64)))) &&& BitVec.ofInt (IntKind.bits .u64) 6148914691236517205).toNat : Int)) + (IntKind.wrap .u64 ((BitVec.ofInt (IntKind.bits .u64) xa &&& BitVec.ofInt (IntKind.bits .u64) 6148914691236517205).toNat : Int)))) (2 ^ (min (Int.toNat 2) (IntKind.bits .u64)))) &&& BitVec.ofInt (IntKind.bits .u64) 3689348814741910323).toNat : Int)) + (IntKind.wrap .u64 ((BitVec.ofInt (IntKind.bits .u64) (IntKind.wrap .u64 ((IntKind.wrap .u64 ((BitVec.ofInt (IntKind.bits .u64) (Int.fdiv xa (2 ^ (min (Int.toNat 1) (IntKind.bits .u64)))) &&& BitVec.ofInt (IntKind.bits .u64) 6148914691236517205).toNat : Int)) + (IntKind.wrap .u64 ((BitVec.ofInt (IntKind.bits .u64) xa &&& BitVec.ofInt (IntKind.bits .u64) 6148914691236517205).toNat : Int)))) &&& BitVec.ofInt (IntKind.bits .u64) 3689348814741910323).toNat : Int)))) (2 ^ (min (Int.toNat 4) (IntKind.bits .u64)))) + (IntKind.wrap .u64 ((IntKind.wrap .u64 ((BitVec.ofInt (IntKind.bits .u64) (Int.fdiv (IntKind.wrap .u64 ((IntKind.wrap .u64 ((BitVec.ofInt (IntKind.bits .u64) (Int.fdiv xa (2 ^ (min (Int.toNat 1) (IntKind.bits .u64)))) &&& BitVec.ofInt (IntKind.bits .u64) 6148914691236517205).toNat : Int)) + (IntKind.wrap .u64 ((BitVec.ofInt (IntKind.bits .u64) xa &&& BitVec.ofInt (IntKind.bits .u64) 6148914691236517205).toNat : Int)))) (2 ^ (min (Int.toNat 2) (IntKind.bits .u64)))) &&& BitVec.ofInt (IntKind.bits .u64) 3689348814741910323).toNat : Int)) + (IntKind.wrap .u64 ((BitVec.ofInt (IntKind.bits .u64) (IntKind.wrap .u64 ((IntKind.wrap .u64 ((BitVec.ofInt (IntKind.bits .u64) (Int.fdiv xa (2 ^ (min (Int.toNat 1) (IntKind.bits .u64)))) &&& BitVec.ofInt (IntKind.bits .u64) 6148914691236517205).toNat : Int)) + (IntKind.wrap .u64 ((BitVec.ofInt (IntKind.bits .u64) xa &&& BitVec.ofInt (IntKind.bits .u64) 6148914691236517205).toNat : Int)))) &&& BitVec.ofInt (IntKind.bits .u64) 3689348814741910323).toNat : Int)))))) &&& BitVec.ofInt (IntKind.bits .u64) 1085102592571150095).toNat : Int)) + (Int.fdiv (IntKind.wrap .u64 ((BitVec.ofInt (IntKind.bits .u64) (IntKind.wrap .u64 ((Int.fdiv (IntKind.wrap .u64 ((IntKind.wrap .u64 ((BitVec.ofInt (IntKind.bits .u64) (Int.fdiv (IntKind.wrap .u64 ((IntKind.wrap .u64 ((BitVec.ofInt (IntKind.bits .u64) (Int.fdiv xa (2 ^ (min (Int.toNat 1) (IntKind.bits .u64)))) &&& BitVec.ofInt (IntKind.bits .u64) 6148914691236517205).toNat : Int)) + (IntKind.wrap .u64 ((BitVec.ofInt (IntKind.bits .u64) xa &&& BitVec.ofInt (IntKind.bits .u64) 6148914691236517205).toNat : Int)))) (2 ^ (min (Int.toNat 2) (IntKind.bits .u64)))) &&& BitVec.ofInt (IntKind.bits .u64) 3689348814741910323).toNat : Int)) + (IntKind.wrap .u64 ((BitVec.ofInt (IntKind.bits .u64) (IntKind.wrap .u64 ((IntKind.wrap .u64 ((BitVec.ofInt (IntKind.bits .u64) (Int.fdiv xa (2 ^ (min (Int.toNat 1) (IntKind.bits .u64)))) &&& BitVec.ofInt (IntKind.bits .u64) 6148914691236517205).toNat : Int)) + (IntKind.wrap .u64 ((BitVec.ofInt (IntKind.bits .u64) xa &&& BitVec.ofInt (IntKind.bits .u64) 6148914691236517205).toNat : Int)))) &&& BitVec.ofInt (IntKind.bits .u64) 3689348814741910323).toNat : Int)))) (2 ^ (min (Int.toNat 4) (IntKind.bits .u64)))) + (IntKind.wrap .u64 ((IntKind.wrap .u64 ((BitVec.ofInt (IntKind.bits .u64) (Int.fdiv (IntKind.wrap .u64 ((IntKind.wrap .u64 ((BitVec.ofInt (IntKind.bits .u64) (Int.fdiv xa (2 ^ (min (Int.toNat 1) (IntKind.bits .u64)))) &&& BitVec.ofInt (IntKind.bits .u64) 6148914691236517205).toNat : Int)) + (IntKind.wrap .u64 ((BitVec.ofInt (IntKind.bits .u64) xa &&& BitVec.ofInt (IntKind.bits .u64) 6148914691236517205).toNat : Int)))) (2 ^ (min (Int.toNat 2) (IntKind.bits .u64)))) &&& BitVec.ofInt (IntKind.bits .u64) 3689348814741910323).toNat : Int)) + (IntKind.wrap .u64 ((BitVec.ofInt (IntKind.bits .u64) (IntKind.wrap .u64 ((IntKind.wrap .u64 ((BitVec.ofInt (IntKind.bits .u64) (Int.fdiv xa (2 ^ (min (Int.toNat 1) (IntKind.bits .u64)))) &&& BitVec.ofInt (IntKind.bits .u64) 6148914691236517205).toNat : Int)) + (IntKind.wrap .u64 ((BitVec.ofInt (IntKind.bits .u64) xa &&& BitVec.ofInt (IntKind.bits .u64) 6148914691236517205).toNat : Int)))) &&& BitVec.ofInt (IntKind.bits .u64) 3689348814741910323).toNat : Int)))))) &&& BitVec.ofInt (IntKind.bits .u64) 1085102592571150095).toNat : Int)) (2 ^ (min (Int.toNat 8) (IntKind.bits .u64)))))) (2 ^ (min (Int.toNat 16) (IntKind.bits .u64)))))) + (Int.fdiv (IntKind.wrap .u64 ((IntKind.wrap .u64 ((IntKind.wrap .u64 ((BitVec.ofInt (IntKind.bits .u64) (IntKind.wrap .u64 ((Int.fdiv (IntKind.wrap .u64 ((IntKind.wrap .u64 ((BitVec.ofInt (IntKind.bits .u64) (Int.fdiv (IntKind.wrap .u64 ((IntKind.wrap .u64 ((BitVec.ofInt (IntKind.bits .u64) (Int.fdiv xa (2 ^ (min (Int.toNat 1) (IntKind.bits .u64)))) &&& BitVec.ofInt (IntKind.bits .u64) 6148914691236517205).toNat : Int)) + (IntKind.wrap .u64 ((BitVec.ofInt (IntKind.bits .u64) xa &&& BitVec.ofInt (IntKind.bits .u64) 6148914691236517205).toNat : Int)))) (2 ^ (min (Int.toNat 2) (IntKind.bits .u64)))) &&& BitVec.ofInt (IntKind.bits .u64) 3689348814741910323).toNat : Int)) + (IntKind.wrap .u64 ((BitVec.ofInt (IntKind.bits .u64) (IntKind.wrap .u64 ((IntKind.wrap .u64 ((BitVec.ofInt (IntKind.bits .u64) (Int.fdiv xa (2 ^ (min (Int.toNat 1) (IntKind.bits .u64)))) &&& BitVec.ofInt (IntKind.bits .u64) 6148914691236517205).toNat : Int)) + (IntKind.wrap .u64 ((BitVec.ofInt (IntKind.bits .u64) xa &&& BitVec.ofInt (IntKind.bits .u64) 6148914691236517205).toNat : Int)))) &&& BitVec.ofInt (IntKind.bits .u64) 3689348814741910323).toNat : Int)))) (2 ^ (min (Int.toNat 4) (IntKind.bits .u64)))) + (IntKind.wrap .u64 ((IntKind.wrap .u64 ((BitVec.ofInt (IntKind.bits .u64) (Int.fdiv (IntKind.wrap .u64 ((IntKind.wrap .u64 ((BitVec.ofInt (IntKind.bits .u64) (Int.fdiv xa (2 ^ (min (Int.toNat 1) (IntKind.bits .u64)))) &&& BitVec.ofInt (IntKind.bits .u64) 6148914691236517205).toNat : Int)) + (IntKind.wrap .u64 ((BitVec.ofInt (IntKind.bits .u64) xa &&& BitVec.ofInt (IntKind.bits .u64) 6148914691236517205).toNat : Int)))) (2 ^ (min (Int.toNat 2) (IntKind.bits .u64)))) &&& BitVec.ofInt (IntKind.bits .u64) 3689348814741910323).toNat : Int)) + (IntKind.wrap .u64 ((BitVec.ofInt (IntKind.bits .u64) (IntKind.wrap .u64 ((IntKind.wrap .u64 ((BitVec.ofInt (IntKind.bits .u64) (Int.fdiv xa (2 ^ (min (Int.toNat 1) (IntKind.bits .u64)))) &&& BitVec.ofInt (IntKind.bits .u64) 6148914691236517205).toNat : Int)) + (IntKind.wrap .u64 ((BitVec.ofInt (IntKind.bits .u64) xa &&& BitVec.ofInt (IntKind.bits .u64) 6148914691236517205).toNat : Int)))) &&& BitVec.ofInt (IntKind.bits .u64) 3689348814741910323).toNat : Int)))))) &&& BitVec.ofInt (IntKind.bits .u64) 1085102592571150095).toNat : Int)) + (Int.fdiv (IntKind.wrap .u64 ((BitVec.ofInt (IntKind.bits .u64) (IntKind.wrap .u64 ((Int.fdiv (IntKind.wrap .u64 ((IntKind.wrap .u64 ((BitVec.ofInt (IntKind.bits .u64) (Int.fdiv (IntKind.wrap .u64 ((IntKind.wrap .u64 ((BitVec.ofInt (IntKind.bits .u64) (Int.fdiv xa (2 ^ (min (Int.toNat 1) (IntKind.bits .u64)))) &&& BitVec.ofInt (IntKind.bits .u64) 6148914691236517205).toNat : Int)) + (IntKind.wrap .u64 ((BitVec.ofInt (IntKind.bits .u64) xa &&& BitVec.ofInt (IntKind.bits .u64) 6148914691236517205).toNat : Int)))) (2 ^ (min (Int.toNat 2) (IntKind.bits .u64)))) &&& BitVec.ofInt (IntKind.bits .u64) 3689348814741910323).toNat : Int)) + (IntKind.wrap .u64 ((BitVec.ofInt (IntKind.bits .u64) (IntKind.wrap .u64 ((IntKind.wrap .u64 ((BitVec.ofInt (IntKind.bits .u64) (Int.fdiv xa (2 ^ (min (Int.toNat 1) (IntKind.bits .u64)))) &&& BitVec.ofInt (IntKind.bits .u64) 6148914691236517205).toNat : Int)) + (IntKind.wrap .u64 ((BitVec.ofInt (IntKind.bits .u64) xa &&& BitVec.ofInt (IntKind.bits .u64) 6148914691236517205).toNat : Int)))) &&& BitVec.ofInt (IntKind.bits .u64) 3689348814741910323).toNat : Int)))) (2 ^ (min (Int.toNat 4) (IntKind.bits .u64)))) + (IntKind.wrap .u64 ((IntKind.wrap .u64 ((BitVec.ofInt (IntKind.bits .u64) (Int.fdiv (IntKind.wrap .u64 ((IntKind.wrap .u64 ((BitVec.ofInt (IntKind.bits .u64) (Int.fdiv xa (2 ^ (min (Int.toNat 1) (IntKind.bits .u64)))) &&& BitVec.ofInt (IntKind.bits .u64) 6148914691236517205).toNat : Int)) + (IntKind.wrap .u64 ((BitVec.ofInt (IntKind.bits .u64) xa &&& BitVec.ofInt (IntKind.bits .u64) 6148914691236517205).toNat : Int)))) (2 ^ (min (Int.toNat 2) (IntKind.bits .u64)))) &&& BitVec.ofInt (IntKind.bits .u64) 3689348814741910323).toNat : Int)) + (IntKind.wrap .u64 ((BitVec.ofInt (IntKind.bits .u64) (IntKind.wrap .u64 ((IntKind.wrap .u64 ((BitVec.ofInt (IntKind.bits .u64) (Int.fdiv xa (2 ^ (min (Int.toNat 1) (IntKind.bits .u64)))) &&& BitVec.ofInt (IntKind.bits .u64) 6148914691236517205).toNat : Int)) + (IntKind.wrap .u64 ((BitVec.ofInt (IntKind.bits .u64) xa &&& BitVec.ofInt (IntKind.bits .u64) 6148914691236517205).toNat : Int)))) &&& BitVec.ofInt (IntKind.bits .u64) 3689348814741910323).toNat : Int)))))) &&& BitVec.ofInt (IntKind.bits .u64) 1085102592571150095).toNat : Int)) (2 ^ (min (Int.toNat 8) (IntKind.bits .u64)))))) + (Int.fdiv (IntKind.wrap .u64 ((IntKind.wrap .u64 ((BitVec.ofInt (IntKind.bits .u64) (IntKind.wrap .u64 ((Int.fdiv (IntKind.wrap .u64 ((IntKind.wrap .u64 ((BitVec.ofInt (IntKind.bits .u64) (Int.fdiv (IntKind.wrap .u64 ((IntKind.wrap .u64 ((BitVec.ofInt (IntKind.bits .u64) (Int.fdiv xa (2 ^ (min (Int.toNat 1) (IntKind.bits .u64)))) &&& BitVec.ofInt (IntKind.bits .u64) 6148914691236517205).toNat : Int)) + (IntKind.wrap .u64 ((BitVec.ofInt (IntKind.bits .u64) xa &&& BitVec.ofInt (IntKind.bits .u64) 6148914691236517205).toNat : Int)))) (2 ^ (min (Int.toNat 2) (IntKind.bits .u64)))) &&& BitVec.ofInt (IntKind.bits .u64) 3689348814741910323).toNat : Int)) + (IntKind.wrap .u64 ((BitVec.ofInt (IntKind.bits .u64) (IntKind.wrap .u64 ((IntKind.wrap .u64 ((BitVec.ofInt (IntKind.bits .u64) (Int.fdiv xa (2 ^ (min (Int.toNat 1) (IntKind.bits .u64)))) &&& BitVec.ofInt (IntKind.bits .u64) 6148914691236517205).toNat : Int)) + (IntKind.wrap .u64 ((BitVec.ofInt (IntKind.bits .u64) xa &&& BitVec.ofInt (IntKind.bits .u64) 6148914691236517205).toNat : Int)))) &&& BitVec.ofInt (IntKind.bits .u64) 3689348814741910323).toNat : Int)))) (2 ^ (min (Int.toNat 4) (IntKind.bits .u64)))) + (IntKind.wrap .u64 ((IntKind.wrap .u64 ((BitVec.ofInt (IntKind.bits .u64) (Int.fdiv (IntKind.wrap .u64 ((IntKind.wrap .u64 ((BitVec.ofInt (IntKind.bits .u64) (Int.fdiv xa (2 ^ (min (Int.toNat 1) (IntKind.bits .u64)))) &&& BitVec.ofInt (IntKind.bits .u64) 6148914691236517205).toNat : Int)) + (IntKind.wrap .u64 ((BitVec.ofInt (IntKind.bits .u64) xa &&& BitVec.ofInt (IntKind.bits .u64) 6148914691236517205).toNat : Int)))) (2 ^ (min (Int.toNat 2) (IntKind.bits .u64)))) &&& BitVec.ofInt (IntKind.bits .u64) 3689348814741910323).toNat : Int)) + (IntKind.wrap .u64 ((BitVec.ofInt (IntKind.bits .u64) (IntKind.wrap .u64 ((IntKind.wrap .u64 ((BitVec.ofInt (IntKind.bits .u64) (Int.fdiv xa (2 ^ (min (Int.toNat 1) (IntKind.bits .u64)))) &&& BitVec.ofInt (IntKind.bits .u64) 6148914691236517205).toNat : Int)) + (IntKind.wrap .u64 ((BitVec.ofInt (IntKind.bits .u64) xa &&& BitVec.ofInt (IntKind.bits .u64) 6148914691236517205).toNat : Int)))) &&& BitVec.ofInt (IntKind.bits .u64) 3689348814741910323).toNat : Int)))))) &&& BitVec.ofInt (IntKind.bits .u64) 1085102592571150095).toNat : Int)) + (Int.fdiv (IntKind.wrap .u64 ((BitVec.ofInt (IntKind.bits .u64) (IntKind.wrap .u64 ((Int.fdiv (IntKind.wrap .u64 ((IntKind.wrap .u64 ((BitVec.ofInt (IntKind.bits .u64) (Int.fdiv (IntKind.wrap .u64 ((IntKind.wrap .u64 ((BitVec.ofInt (IntKind.bits .u64) (Int.fdiv xa (2 ^ (min (Int.toNat 1) (IntKind.bits .u64)))) &&& BitVec.ofInt (IntKind.bits .u64) 6148914691236517205).toNat : Int)) + (IntKind.wrap .u64 ((BitVec.ofInt (IntKind.bits .u64) xa &&& BitVec.ofInt (IntKind.bits .u64) 6148914691236517205).toNat : Int)))) (2 ^ (min (Int.toNat 2) (IntKind.bits .u64)))) &&& BitVec.ofInt (IntKind.bits .u64) 3689348814741910323).toNat : Int)) + (IntKind.wrap .u64 ((BitVec.ofInt (IntKind.bits .u64) (IntKind.wrap .u64 ((IntKind.wrap .u64 ((BitVec.ofInt (IntKind.bits .u64) (Int.fdiv xa (2 ^ (min (Int.toNat 1) (IntKind.bits .u64)))) &&& BitVec.ofInt (IntKind.bits .u64) 6148914691236517205).toNat : Int)) + (IntKind.wrap .u64 ((BitVec.ofInt (IntKind.bits .u64) xa &&& BitVec.ofInt (IntKind.bits .u64) 6148914691236517205).toNat : Int)))) &&& BitVec.ofInt (IntKind.bits .u64) 3689348814741910323).toNat : Int)))) (2 ^ (min (Int.toNat 4) (IntKind.bits .u64)))) + (IntKind.wrap .u64 ((IntKind.wrap .u64 ((BitVec.ofInt (IntKind.bits .u64) (Int.fdiv (IntKind.wrap .u64 ((IntKind.wrap .u64 ((BitVec.ofInt (IntKind.bits .u64) (Int.fdiv xa (2 ^ (min (Int.toNat 1) (IntKind.bits .u64)))) &&& BitVec.ofInt (IntKind.bits .u64) 6148914691236517205).toNat : Int)) + (IntKind.wrap .u64 ((BitVec.ofInt (IntKind.bits .u64) xa &&& BitVec.ofInt (IntKind.bits .u64) 6148914691236517205).toNat : Int)))) (2 ^ (min (Int.toNat 2) (IntKind.bits .u64)))) &&& BitVec.ofInt (IntKind.bits .u64) 3689348814741910323).toNat : Int)) + (IntKind.wrap .u64 ((BitVec.ofInt (IntKind.bits .u64) (IntKind.wrap .u64 ((IntKind.wrap .u64 ((BitVec.ofInt (IntKind.bits .u64) (Int.fdiv xa (2 ^ (min (Int.toNat 1) (IntKind.bits .u64)))) &&& BitVec.ofInt (IntKind.bits .u64) 6148914691236517205).toNat : Int)) + (IntKind.wrap .u64 ((BitVec.ofInt (IntKind.bits .u64) xa &&& BitVec.ofInt (IntKind.bits .u64) 6148914691236517205).toNat : Int)))) &&& BitVec.ofInt (IntKind.bits .u64) 3689348814741910323).toNat : Int)))))) &&& BitVec.ofInt (IntKind.bits .u64) 1085102592571150095).toNat : Int)) (2 ^ (min (Int.toNat 8) (IntKind.bits .u64)))))) (2 ^ (min (Int.toNat 16) (IntKind.bits .u64)))))) (2 ^ (min (Int.toNat 32) (IntKind.bits .u64))))))) &&& BitVec.ofInt (IntKind.bits .i64) 127).toNat : Int))
noncomputable def h_math_bits_OnesCount64 : Hn Tryd.prog := .nil
noncomputable def sp_math_bits_OnesCount64 : Spec := ⟨31, ⟨[(0, .dat (.int .u64))], []⟩, [⟨[(0, .dat (.int .i64))], []⟩], fun x => fn_math_bits_OnesCount64 x⟩
theorem math_bits_OnesCount64_is : SpecOk Tryd.prog sp_math_bits_OnesCount64 := fn_is Tryd.func31 h_math_bits_OnesCount64 (by kernel_rfl) (by kernel_rfl)
noncomputable def ok_math_bits_OnesCount64 : OkSpec Tryd.prog := ⟨sp_math_bits_OnesCount64, math_bits_OnesCount64_is, Tryd.call31⟩
noncomputable def fn_dense_Set_Count_l1 (y125 : (Int × (List Int))) : (Int × Int) → Option ((Int × Int) ⊕ Int) := fun ((i209, i210) : (Int × Int)) => cond (decide (i210 < (((y125.2.length : Nat) : Int)))) ((getI y125.2 i210).bind fun x231 => (fn_math_bits_OnesCount64 x231).bind fun i242 => some (.inl ((IntKind.wrap .i64 (i209 + i242), IntKind.wrap .i64 (i210 + 1))))) (some (.inr (i209)))
noncomputable def fn_dense_Set_Count (xa : (Option (Int × (List Int)))) : Option Int :=
  cond (xa.isNone) (some (0)) ((xa : Option (Int × (List Int))).bind fun y125 => (loop (fn_dense_Set_Count_l1 y125) (0, 0) : Option Int).bind fun i190 => some (i190))
noncomputable def h_dense_Set_Count : Hn Tryd.prog := .tw 7 (.nil) (.jn [] ⟨[(3, .dat (.int .i64))], []⟩ [] (.lp ⟨[(3, .dat (.int .i64)), (13, .dat (.int .i64))], []⟩ (.tw 14 (.cl ok_math_bits_OnesCount64 [] (.nil)) (.nil))) (.nil))
noncomputable def sp_dense_Set_Count : Spec := ⟨18, ⟨[(0, .dat (.ptr (.cons (.int .i64) (.one (.sl (.int .u64))))))], []⟩, [⟨[(0, .dat (.int .i64))], []⟩], fun x => fn_dense_Set_Count x⟩
theorem dense_Set_Count_is : SpecOk Tryd.prog sp_dense_Set_Count := fn_is Tryd.func18 h_dense_Set_Count (by kernel_rfl) (by kernel_rfl)
noncomputable def ok_dense_Set_Count : OkSpec Tryd.prog := ⟨sp_dense_Set_Count, dense_Set_Count_is, Tryd.call18⟩

noncomputable def fn_dense_Set_Add_p0i_ir (xb : Int) (qa0 : Int) (qa1 : (List Int)) : Option ((Bool × (List Int))) :=
  (fn_dense_Set_mayHave (some (qa0, qa1)) xb).bind fun t100 => (cond (!t100) (some (true)) ((fn_dense_Set_Has (some (qa0, qa1)) xb).bind fun t115 => some (t115))).bind fun t111 => cond (t111) (some ((false, qa1))) ((getI qa1 (IntKind.wrap .i64 (Int.tdiv xb 64))).bind fun x168 => (ge0 (Int.tmod xb 64)).bind fun u175 => (getI qa1 (IntKind.wrap .i64 (Int.tdiv xb 64))).bind fun x177 => (some (qa1.set (IntKind.wrap .i64 (Int.tdiv xb 64)).toNat (IntKind.wrap .u64 ((BitVec.ofInt (IntKind.bits .u64) x168 ||| BitVec.ofInt (IntKind.bits .u64) (IntKind.wrap .u64 (1 * 2 ^ (min (Int.toNat (Int.tmod xb 64)) (IntKind.bits .u64))))).toNat : Int)))).bind fun z184 => some ((true, z184)))
noncomputable def h_dense_Set_Add_p0i_ir : Hn Tryd.prog := .cl ok_dense_Set_mayHave [2, 0] (.gj 3 ⟨[(13, .dat .bool)], []⟩ [] (.two 9 (.nil) (.cl ok_dense_Set_Has [2, 0] (.nil))) (.tw 13 (.nil) (.mix [] [0, 1, 2, 3, 4, 5, 6, 7, 8, 9, 10, 11, 12] [13] [] (.nil))))
noncomputable def sp_dense_Set_Add_p0i_ir : Spec := ⟨15, ⟨[(0, .ptr 0 0), (1, .dat (.int .i64))], [⟨none, 53, [.is 1 (.dat (.int .i64)), .own 59 (.int .u64)], false, false, none, false⟩, ⟨none, 0, [], false, true, none, false⟩]⟩, [⟨[(0, .dat .bool)], [⟨(some 0), 53, [.is 1 (.any), .own 59 (.int .u64)], false, false, none, false⟩, ⟨(some 1), 0, [], false, true, none, false⟩]⟩], fun x => fn_dense_Set_Add_p0i_ir x.1 x.2.1 x.2.2⟩
theorem dense_Set_Add_p0i_ir_is : SpecOk Tryd.prog sp_dense_Set_Add_p0i_ir := fn_is Tryd.func15 h_dense_Set_Add_p0i_ir (by kernel_rfl) (by kernel_rfl)
noncomputable def ok_dense_Set_Add_p0i_ir : OkSpec Tryd.prog := ⟨sp_dense_Set_Add_p0i_ir, dense_Set_Add_p0i_ir_is, Tryd.call15⟩

noncomputable def fn_law03_awake  : Option Bool :=
  (fn_dense_New_c70).bind fun o => match o with | .inl i146 => (fn_dense_Set_Add_zi 3).bind fun t152 => (fn_dense_Set_Add_zi 69).bind fun t158 => (fn_dense_Set_Add_zi 70).bind fun t164 => (cond ((((decide (i146 = 0)) && t152) && t158) && (!t164)) ((fn_dense_Set_Next ((none : (Option (Int × (List Int))))) 4).bind fun i185 => some (decide (i185 = 69))) (some (false))).bind fun t181 => (cond (t181) ((fn_dense_Set_Count ((none : (Option (Int × (List Int)))))).bind fun i200 => some (decide (i200 = 2))) (some (false))).bind fun t196 => some (t196) | .inr (i204, l205) => (fn_dense_Set_Add_p0i_ir 3 70 l205).bind fun (t216, l217) => (fn_dense_Set_Add_p0i_ir 69 70 l217).bind fun (t228, l229) => (fn_dense_Set_Add_p0i_ir 70 70 l229).bind fun (t240, l241) => (cond ((((decide (i204 = 0)) && t216) && t228) && (!t240)) ((fn_dense_Set_Next (some (70, l241)) 4).bind fun i267 => some (decide (i267 = 69))) (some (false))).bind fun t263 => (cond (t263) ((fn_dense_Set_Count (some (70, l241))).bind fun i282 => some (decide (i282 = 2))) (some (false))).bind fun t278 => some (t278)
noncomputable def h_law03_awake : Hn Tryd.prog := .c2 ok_dense_New_c70 [] (.cl ok_dense_Set_Add_zi [] (.cl ok_dense_Set_Add_zi [] (.cl ok_dense_Set_Add_zi [] (.gp 1 (.wt 21 (.gp 1 (.wt 24 (.gp 2 (.wt 28 (.gj 3 ⟨[(32, .dat .bool)], []⟩ [] (.two 28 (.cl ok_dense_Set_Next [] (.nil)) (.nil)) (.wt 33 (.gj 3 ⟨[(37, .dat .bool)], []⟩ [] (.two 33 (.cl ok_dense_Set_Count [] (.nil)) (.nil)) (.nil))))))))))))) (.mc 0 0 3 (.cl ok_dense_Set_Add_p0i_ir [] (.cl ok_dense_Set_Add_p0i_ir [] (.cl ok_dense_Set_Add_p0i_ir [] (.gp 1 (.wt 21 (.gp 1 (.wt 24 (.gp 2 (.wt 28 (.gj 3 ⟨[(32, .dat .bool)], []⟩ [] (.two 28 (.cl ok_dense_Set_Next [20, 0] (.nil)) (.nil)) (.wt 33 (.gj 3 ⟨[(37, .dat .bool)], []⟩ [] (.two 33 (.cl ok_dense_Set_Count [20, 0] (.nil)) (.nil)) (.nil))))))))))))))
noncomputable def sp_law03_awake : Spec := ⟨6, ⟨[], []⟩, [⟨[(0, .dat .bool)], []⟩], fun x => fn_law03_awake⟩
theorem law03_awake_is : SpecOk Tryd.prog sp_law03_awake := fn_is Tryd.func6 h_law03_awake (by kernel_rfl) (by kernel_rfl)
noncomputable def ok_law03_awake : OkSpec Tryd.prog := ⟨sp_law03_awake, law03_awake_is, Tryd.call6⟩
noncomputable def fn_ref03_Has_l1 (xa : (Int × (List Int))) (xb : Int) : Int → Option (Int ⊕ (Unit ⊕ Bool)) := fun (i127 : Int) => cond (decide (i127 < (((xa.2.length : Nat) : Int)))) ((getI xa.2 i127).bind fun x142 => cond (decide (x142 = xb)) (some (.inr ((.inr (true))))) (some (.inl (IntKind.wrap .i64 (i127 + 1))))) (some (.inr ((.inl ()))))
noncomputable def fn_ref03_Has (xa : (Int × (List Int))) (xb : Int) : Option Bool :=
  (loop (fn_ref03_Has_l1 xa xb) 0 : Option (Unit ⊕ Bool)).bind fun o => match o with | .inr r => some r | .inl () => some (false)
noncomputable def h_ref03_Has : Hn Tryd.prog := .jx [] ⟨[], []⟩ [] (.lp ⟨[(5, .dat (.int .i64))], []⟩ (.tw 10 (.tw 19 (.nil) (.nil)) (.nil))) (.nil)
noncomputable def sp_ref03_Has : Spec := ⟨28, ⟨[(0, .dat (.cons (.int .i64) (.one (.sl (.int .i64))))), (1, .dat (.int .i64))], []⟩, [⟨[(0, .dat .bool)], []⟩], fun x => fn_ref03_Has x.1 x.2⟩
theorem ref03_Has_is : SpecOk Tryd.prog sp_ref03_Has := fn_is Tryd.func28 h_ref03_Has (by kernel_rfl) (by kernel_rfl)
noncomputable def ok_ref03_Has : OkSpec Tryd.prog := ⟨sp_ref03_Has, ref03_Has_is, Tryd.call28⟩
noncomputable def fn_ref03_Add_l1 (xa : (Int × (List Int))) (xb : Int) : ((List Int) × Bool × Int) → Option (((List Int) × Bool × Int) ⊕ ((List Int) × Bool)) := fun ((l2381, t2386, i2387) : ((List Int) × Bool × Int)) => cond (decide (i2387 < (((xa.2.length : Nat) : Int)))) (((cond (!t2386) ((getI xa.2 i2387).bind fun x2595 => some (decide (xb < x2595))) (some (false))).bind fun t2593 => cond (t2593) ((app l2381 ([xb] : List Int)).bind fun z2608 => some ((z2608, true))) (some ((l2381, t2386))) : Option (((List Int) × Bool))).bind fun (l2577, t2582) => (getI xa.2 i2387).bind fun x2614 => (app l2577 ([x2614] : List Int)).bind fun z2626 => some (.inl ((z2626, t2582, IntKind.wrap .i64 (i2387 + 1))))) (some (.inr (((l2381, t2386)))))
noncomputable def fn_ref03_Add (xa : (Int × (List Int))) (xb : Int) : Option ((Int × (List Int) × Bool)) :=
  (cond ((decide (xb < 0)) || (decide (xa.1 ≤ xb))) (some (true)) ((fn_ref03_Has (xa.1, xa.2) xb).bind fun t1352 => some (t1352))).bind fun t1348 => cond (t1348) (some ((xa.1, xa.2, false))) ((loop (fn_ref03_Add_l1 xa xb) ((([] : List Int), false, 0)) : Option (((List Int) × Bool))).bind fun (l2204, t2209) => (cond (!t2209) ((app l2204 ([xb] : List Int)).bind fun z2661 => some (z2661)) (some (l2204)) : Option (List Int)).bind fun l2652 => some ((xa.1, l2652, true)))
noncomputable def h_ref03_Add : Hn Tryd.prog := .gp 4 (.wt 17 (.gj 3 ⟨[(21, .dat .bool)], []⟩ [] (.two 17 (.nil) (.cl ok_ref03_Has [] (.nil))) (.tw 21 (.nil) (.jn [] ⟨[(6, .own 3 (.int .i64)), (7, .dat .bool), (23, .any)], []⟩ [4] (.lp ⟨[(6, .own 3 (.int .i64)), (7, .dat .bool), (8, .dat (.int .i64))], []⟩ (.tw 28 (.pl (.sq [] ⟨[(6, .own 3 (.int .i64)), (7, .dat .bool)], []⟩ [6] (.gj 7 ⟨[(41, .dat .bool)], []⟩ [] (.two 33 (.nil) (.nil)) (.tw 41 (.nil) (.nil))) (.nil))) (.nil))) (.sq [] ⟨[(6, .own 3 (.int .i64))], []⟩ [6] (.tw 55 (.nil) (.nil)) (.per 8 9 (.nil)))))))
noncomputable def sp_ref03_Add : Spec := ⟨25, ⟨[(0, .dat (.cons (.int .i64) (.one (.sl (.int .i64))))), (1, .dat (.int .i64))], []⟩, [⟨[(0, .tup [.agg [.dat (.int .i64), .dat (.sl (.int .i64))], .dat .bool])], []⟩], fun x => fn_ref03_Add x.1 x.2⟩
theorem ref03_Add_is : SpecOk Tryd.prog sp_ref03_Add := fn_is Tryd.func25 h_ref03_Add (by kernel_rfl) (by kernel_rfl)
noncomputable def ok_ref03_Add : OkSpec Tryd.prog := ⟨sp_ref03_Add, ref03_Add_is, Tryd.call25⟩
noncomputable def fn_ref03_Del_l1 (xa : (Int × (List Int))) (xb : Int) : ((List Int) × Int) → Option (((List Int) × Int) ⊕ (List Int)) := fun ((l767, i772) : ((List Int) × Int)) => cond (decide (i772 < (((xa.2.length : Nat) : Int)))) ((getI xa.2 i772).bind fun x810 => cond (!decide (x810 = xb)) ((getI xa.2 i772).bind fun x820 => (app l767 ([x820] : List Int)).bind fun z832 => some (.inl ((z832, IntKind.wrap .i64 (i772 + 1))))) (some (.inl ((l767, IntKind.wrap .i64 (i772 + 1)))))) (some (.inr (l767)))
noncomputable def fn_ref03_Del (xa : (Int × (List Int))) (xb : Int) : Option ((Int × (List Int) × Bool)) :=
  (loop (fn_ref03_Del_l1 xa xb) ((([] : List Int), 0)) : Option (List Int)).bind fun l698 => some ((xa.1, l698, decide ((((l698.length : Nat) : Int)) < (((xa.2.length : Nat) : Int)))))
noncomputable def h_ref03_Del : Hn Tryd.prog := .jn [] ⟨[(6, .own 3 (.int .i64)), (8, .any)], []⟩ [4] (.lp ⟨[(6, .own 3 (.int .i64)), (7, .dat (.int .i64))], []⟩ (.tw 13 (.tw 22 (.nil) (.nil)) (.nil))) (.mix [([0, 1, 2, 3, 4, 5, 6, 7, 8, 9], 10)] [11] [] [2] (.nil))
noncomputable def sp_ref03_Del : Spec := ⟨26, ⟨[(0, .dat (.cons (.int .i64) (.one (.sl (.int .i64))))), (1, .dat (.int .i64))], []⟩, [⟨[(0, .tup [.agg [.dat (.int .i64), .own 3 (.int .i64)], .dat .bool])], []⟩], fun x => fn_ref03_Del x.1 x.2⟩
theorem ref03_Del_is : SpecOk Tryd.prog sp_ref03_Del := fn_is Tryd.func26 h_ref03_Del (by kernel_rfl) (by kernel_rfl)
noncomputable def ok_ref03_Del : OkSpec Tryd.prog := ⟨sp_ref03_Del, ref03_Del_is, Tryd.call26⟩
noncomputable def fn_ref03_Or_l1 (xb : (Int × (List Int))) : (Bool × Int × Int × (List Int)) → Option ((Bool × Int × Int × (List Int)) ⊕ (Bool × Int × (List Int))) := fun ((t1625, i1626, i1627, l1628) : (Bool × Int × Int × (List Int))) => cond (decide (i1626 < (((xb.2.length : Nat) : Int)))) (((getI xb.2 i1626).bind fun x1908 => ((fn_ref03_Add (i1627, l1628) x1908).bind fun (i1919, l1920, t1921) => some ((t1921, i1919, l1920))).bind fun x1941 => ((fn_ref03_Add (i1627, l1628) x1908).bind fun (i1932, l1933, t1934) => some ((t1934, i1932, l1933))).bind fun y1942 => agr x1941 y1942 (some x1941) : Option ((Bool × Int × (List Int)))).bind fun (t1867, i1868, l1869) => some (.inl ((t1625 || t1867, IntKind.wrap .i64 (i1626 + 1), i1868, l1869)))) (some (.inr (((t1625, i1627, l1628)))))
noncomputable def fn_ref03_Or (xa : (Int × (List Int))) (xb : (Int × (List Int))) : Option ((Int × (List Int) × Bool)) :=
  cond (!decide (xa.1 = xb.1)) (some ((xa.1, xa.2, false))) ((loop (fn_ref03_Or_l1 xb) (false, 0, xa.1, xa.2) : Option ((Bool × Int × (List Int)))).bind fun (t1461, i1462, l1463) => some ((i1462, l1463, t1461)))
noncomputable def h_ref03_Or : Hn Tryd.prog := .tw 14 (.nil) (.jn [] ⟨[(6, .dat .bool)], [⟨(some 0), 30, [.dat (.int .i64), .dat (.sl (.int .i64))], false, false, none, false⟩]⟩ [0] (.lp ⟨[(6, .dat .bool), (7, .dat (.int .i64))], [⟨(some 0), 30, [.dat (.int .i64), .dat (.sl (.int .i64))], false, false, none, false⟩]⟩ (.tw 20 (.tr (.still [0, 1, 2, 3, 4, 5] (.alt 6 (.still [7, 8, 9] (.alt 10 (.alt 11 (.leaf [12]) .done) .done)) (.alt 10 (.alt 6 (.still [7, 8, 9] (.alt 11 (.leaf [12]) .done)) .done) .done))) ⟨[(8, .ptr 0 0), (9, .dat .bool)], [⟨none, 30, [.dat (.int .i64), .dat (.sl (.int .i64))], false, false, none, false⟩]⟩ [] (.two 0 (.cl ok_ref03_Add [] (.nil)) (.cl ok_ref03_Add [] (.nil))) (.gp 1 (.nil))) (.nil))) (.nil))
noncomputable def sp_ref03_Or : Spec := ⟨27, ⟨[(0, .dat (.cons (.int .i64) (.one (.sl (.int .i64))))), (1, .dat (.cons (.int .i64) (.one (.sl (.int .i64)))))], []⟩, [⟨[(0, .tup [.agg [.dat (.int .i64), .dat (.sl (.int .i64))], .dat .bool])], []⟩], fun x => fn_ref03_Or x.1 x.2⟩
theorem ref03_Or_is : SpecOk Tryd.prog sp_ref03_Or := fn_is Tryd.func27 h_ref03_Or (by kernel_rfl) (by kernel_rfl)
noncomputable def ok_ref03_Or : OkSpec Tryd.prog := ⟨sp_ref03_Or, ref03_Or_is, Tryd.call27⟩

noncomputable def fn_ref03_Do (xa : (Int × (List Int))) (xb : (Int × (List Int))) (xc : (Int × Int)) : Option ((Int × (List Int) × Int × (List Int) × Bool)) :=
  (cond (decide (xc.1 = 0)) ((fn_ref03_Add (xa.1, xa.2) xc.2).bind fun (i279, l280, t281) => some ((t281, i279, l280, xb.1, xb.2))) (cond (decide (xc.1 = 1)) ((fn_ref03_Del (xa.1, xa.2) xc.2).bind fun (i291, l292, t293) => some ((t293, i291, l292, xb.1, xb.2))) (cond (decide (xc.1 = 2)) ((fn_ref03_Add (xb.1, xb.2) xc.2).bind fun (i307, l308, t309) => some ((t309, xa.1, xa.2, i307, l308))) (cond (decide (xc.1 = 3)) ((fn_ref03_Del (xb.1, xb.2) xc.2).bind fun (i319, l320, t321) => some ((t321, xa.1, xa.2, i319, l320))) (cond (decide (xc.1 = 4)) ((fn_ref03_Or (xa.1, xa.2) (xb.1, xb.2)).bind fun (i335, l336, t337) => some ((t337, i335, l336, xb.1, xb.2))) (cond (decide (xc.1 = 5)) ((fn_ref03_Or (xb.1, xb.2) (xa.1, xa.2)).bind fun (i347, l348, t349) => some ((t349, xa.1, xa.2, i347, l348))) (some ((false, xa.1, xa.2, xb.1, xb.2)))))))) : Option ((Bool × Int × (List Int) × Int × (List Int)))).bind fun (t265, i266, l267, i271, l272) => some ((i266, l267, i271, l272, t265))
noncomputable def h_ref03_Do : Hn Tryd.prog := .pl (.pl (.sq [] ⟨[(9, .dat .bool)], [⟨(some 0), 30, [.dat (.int .i64), .dat (.sl (.int .i64))], false, false, none, false⟩, ⟨(some 2), 30, [.dat (.int .i64), .dat (.sl (.int .i64))], false, false, none, false⟩]⟩ [2, 0] (.tw 12 (.cl ok_ref03_Add [] (.nil)) (.tw 21 (.cl ok_ref03_Del [] (.per 10 11 (.nil))) (.tw 30 (.cl ok_ref03_Add [] (.nil)) (.tw 39 (.cl ok_ref03_Del [] (.per 10 11 (.nil))) (.tw 48 (.cl ok_ref03_Or [] (.nil)) (.tw 56 (.cl ok_ref03_Or [] (.nil)) (.nil))))))) (.mix [([0, 1, 2], 3), ([], 4)] [5] [] [6, 8] (.nil))))
noncomputable def sp_ref03_Do : Spec := ⟨8, ⟨[(0, .dat (.cons (.int .i64) (.one (.sl (.int .i64))))), (1, .dat (.cons (.int .i64) (.one (.sl (.int .i64))))), (2, .dat (.cons (.int .i64) (.one (.int .i64))))], []⟩, [⟨[(0, .tup [.agg [.dat (.int .i64), .dat (.sl (.int .i64))], .agg [.dat (.int .i64), .dat (.sl (.int .i64))], .dat .bool])], []⟩], fun x => fn_ref03_Do x.1 x.2.1 x.2.2⟩
theorem ref03_Do_is : SpecOk Tryd.prog sp_ref03_Do := fn_is Tryd.func8 h_ref03_Do (by kernel_rfl) (by kernel_rfl)
noncomputable def ok_ref03_Do : OkSpec Tryd.prog := ⟨sp_ref03_Do, ref03_Do_is, Tryd.call8⟩

noncomputable def fn_dense_Set_Del_p0i_ir (xb : Int) (qa0 : Int) (qa1 : (List Int)) : Option ((Bool × (List Int))) :=
  (fn_dense_Set_Has (some (qa0, qa1)) xb).bind fun t85 => cond (!t85) (some ((false, qa1))) ((getI qa1 (IntKind.wrap .i64 (Int.tdiv xb 64))).bind fun x138 => (ge0 (Int.tmod xb 64)).bind fun u145 => (getI qa1 (IntKind.wrap .i64 (Int.tdiv xb 64))).bind fun x147 => (some (qa1.set (IntKind.wrap .i64 (Int.tdiv xb 64)).toNat (IntKind.wrap .u64 ((BitVec.ofInt (IntKind.bits .u64) x138 &&& ~~~BitVec.ofInt (IntKind.bits .u64) (IntKind.wrap .u64 (1 * 2 ^ (min (Int.toNat (Int.tmod xb 64)) (IntKind.bits .u64))))).toNat : Int)))).bind fun z154 => some ((true, z154)))
noncomputable def h_dense_Set_Del_p0i_ir : Hn Tryd.prog := .cl ok_dense_Set_Has [2, 0] (.tw 8 (.nil) (.mix [] [0, 1, 2, 3, 4, 5, 6, 7, 8, 9, 10, 11, 12] [13] [] (.nil)))
noncomputable def sp_dense_Set_Del_p0i_ir : Spec := ⟨19, ⟨[(0, .ptr 0 0), (1, .dat (.int .i64))], [⟨none, 53, [.is 1 (.dat (.int .i64)), .own 59 (.int .u64)], false, false, none, false⟩, ⟨none, 0, [], false, true, none, false⟩]⟩, [⟨[(0, .dat .bool)], [⟨(some 0), 53, [.is 1 (.any), .own 59 (.int .u64)], false, false, none, false⟩, ⟨(some 1), 0, [], false, true, none, false⟩]⟩], fun x => fn_dense_Set_Del_p0i_ir x.1 x.2.1 x.2.2⟩
theorem dense_Set_Del_p0i_ir_is : SpecOk Tryd.prog sp_dense_Set_Del_p0i_ir := fn_is Tryd.func19 h_dense_Set_Del_p0i_ir (by kernel_rfl) (by kernel_rfl)
noncomputable def ok_dense_Set_Del_p0i_ir : OkSpec Tryd.prog := ⟨sp_dense_Set_Del_p0i_ir, dense_Set_Del_p0i_ir_is, Tryd.call19⟩
noncomputable def fn_dense_Set_Or_p0p1_ir_ir_l1 (qb1 : (List Int)) : (Bool × Int × (List Int)) → Option ((Bool × Int × (List Int)) ⊕ (Bool × (List Int))) := fun ((t913, i914, l915) : (Bool × Int × (List Int))) => cond (decide (i914 < (((qb1.length : Nat) : Int)))) ((getI qb1 i914).bind fun x964 => (getI l915 i914).bind fun x971 => cond (!decide ((IntKind.wrap .u64 ((BitVec.ofInt (IntKind.bits .u64) x964 &&& ~~~BitVec.ofInt (IntKind.bits .u64) x971).toNat : Int)) = 0)) ((getI l915 i914).bind fun x979 => (getI l915 i914).bind fun x986 => (some (l915.set i914.toNat (IntKind.wrap .u64 ((BitVec.ofInt (IntKind.bits .u64) x979 ||| BitVec.ofInt (IntKind.bits .u64) x964).toNat : Int)))).bind fun z993 => some (.inl ((true, IntKind.wrap .i64 (i914 + 1), z993)))) (some (.inl ((t913, IntKind.wrap .i64 (i914 + 1), l915))))) (some (.inr (((t913, l915)))))
noncomputable def fn_dense_Set_Or_p0p1_ir_ir (qa0 : Int) (qa1 : (List Int)) (qb0 : Int) (qb1 : (List Int)) : Option ((Bool × (List Int) × (List Int))) :=
  cond (!decide (qa0 = qb0)) (some ((false, qa1, qb1))) ((loop (fn_dense_Set_Or_p0p1_ir_ir_l1 qb1) (false, 0, qa1) : Option ((Bool × (List Int)))).bind fun (t830, l831) => some ((t830, l831, qb1)))
noncomputable def h_dense_Set_Or_p0p1_ir_ir : Hn Tryd.prog := .mix [] [0, 1, 2, 3, 4, 5, 6, 7, 8, 9, 10, 11, 12, 13, 14, 15, 16] [] [] (.tw 24 (.nil) (.jn [] ⟨[(5, .dat .bool)], [⟨(some 0), 53, [.is 1 (.any), .own 59 (.int .u64)], false, false, none, false⟩, ⟨(some 2), 0, [], false, true, none, false⟩]⟩ [4, 0] (.lp ⟨[(5, .dat .bool), (30, .dat (.int .i64))], [⟨(some 0), 53, [.is 1 (.any), .own 59 (.int .u64)], false, false, none, false⟩, ⟨(some 2), 0, [], false, true, none, false⟩]⟩ (.tw 31 (.tw 44 (.nil) (.nil)) (.nil))) (.nil)))
noncomputable def sp_dense_Set_Or_p0p1_ir_ir : Spec := ⟨17, ⟨[(0, .ptr 0 0), (1, .ptr 1 0)], [⟨none, 53, [.is 2 (.dat (.int .i64)), .own 59 (.int .u64)], false, false, none, false⟩, ⟨none, 53, [.is 3 (.dat (.int .i64)), .own 59 (.int .u64)], false, false, none, false⟩, ⟨none, 0, [], false, true, none, false⟩, ⟨none, 0, [], false, true, none, false⟩]⟩, [⟨[(0, .dat .bool)], [⟨(some 0), 53, [.is 2 (.any), .own 59 (.int .u64)], false, false, none, false⟩, ⟨(some 1), 53, [.is 3 (.any), .own 59 (.int .u64)], false, false, none, false⟩, ⟨(some 2), 0, [], false, true, none, false⟩, ⟨(some 3), 0, [], false, true, none, false⟩]⟩], fun x => fn_dense_Set_Or_p0p1_ir_ir x.1 x.2.1 x.2.2.1 x.2.2.2⟩
theorem dense_Set_Or_p0p1_ir_ir_is : SpecOk Tryd.prog sp_dense_Set_Or_p0p1_ir_ir := fn_is Tryd.func17 h_dense_Set_Or_p0p1_ir_ir (by kernel_rfl) (by kernel_rfl)
noncomputable def ok_dense_Set_Or_p0p1_ir_ir : OkSpec Tryd.prog := ⟨sp_dense_Set_Or_p0p1_ir_ir, dense_Set_Or_p0p1_ir_ir_is, Tryd.call17⟩

noncomputable def fn_law03_does_p0p1a_ir_ir (xc : (Int × Int)) (qa0 : Int) (qa1 : (List Int)) (qb0 : Int) (qb1 : (List Int)) : Option ((Bool × (List Int) × (List Int))) :=
  cond (decide (xc.1 = 0)) ((fn_dense_Set_Add_p0i_ir xc.2 qa0 qa1).bind fun (t107, l108) => some ((t107, l108, qb1))) (cond (decide (xc.1 = 1)) ((fn_dense_Set_Del_p0i_ir xc.2 qa0 qa1).bind fun (t120, l121) => some ((t120, l121, qb1))) (cond (decide (xc.1 = 2)) ((fn_dense_Set_Add_p0i_ir xc.2 qb0 qb1).bind fun (t133, l134) => some ((t133, qa1, l134))) (cond (decide (xc.1 = 3)) ((fn_dense_Set_Del_p0i_ir xc.2 qb0 qb1).bind fun (t146, l147) => some ((t146, qa1, l147))) (cond (decide (xc.1 = 4)) ((fn_dense_Set_Or_p0p1_ir_ir qa0 qa1 qb0 qb1).bind fun (t159, l160, l161) => some ((t159, l160, l161))) (cond (decide (xc.1 = 5)) ((fn_dense_Set_Or_p0p1_ir_ir qb0 qb1 qa0 qa1).bind fun (t178, l179, l180) => some ((t178, l180, l179))) (some ((false, qa1, qb1))))))))
noncomputable def h_law03_does_p0p1a_ir_ir : Hn Tryd.prog := .tw 9 (.cl ok_dense_Set_Add_p0i_ir [] (.nil)) (.tw 15 (.cl ok_dense_Set_Del_p0i_ir [] (.nil)) (.tw 21 (.cl ok_dense_Set_Add_p0i_ir [] (.nil)) (.tw 27 (.cl ok_dense_Set_Del_p0i_ir [] (.nil)) (.tw 33 (.cl ok_dense_Set_Or_p0p1_ir_ir [] (.nil)) (.tw 38 (.cl ok_dense_Set_Or_p0p1_ir_ir [] (.nil)) (.nil))))))
noncomputable def sp_law03_does_p0p1a_ir_ir : Spec := ⟨9, ⟨[(0, .ptr 0 0), (1, .ptr 1 0), (2, .dat (.cons (.int .i64) (.one (.int .i64))))], [⟨none, 53, [.is 2 (.dat (.int .i64)), .own 59 (.int .u64)], false, false, none, false⟩, ⟨none, 53, [.is 3 (.dat (.int .i64)), .own 59 (.int .u64)], false, false, none, false⟩, ⟨none, 0, [], false, true, none, false⟩, ⟨none, 0, [], false, true, none, false⟩]⟩, [⟨[(0, .dat .bool)], [⟨(some 0), 53, [.is 2 (.any), .own 59 (.int .u64)], false, false, none, false⟩, ⟨(some 1), 53, [.is 3 (.any), .own 59 (.int .u64)], false, false, none, false⟩, ⟨(some 2), 0, [], false, true, none, false⟩, ⟨(some 3), 0, [], false, true, none, false⟩]⟩], fun x => fn_law03_does_p0p1a_ir_ir x.1 x.2.1 x.2.2.1 x.2.2.2.1 x.2.2.2.2⟩
theorem law03_does_p0p1a_ir_ir_is : SpecOk Tryd.prog sp_law03_does_p0p1a_ir_ir := fn_is Tryd.func9 h_law03_does_p0p1a_ir_ir (by kernel_rfl) (by kernel_rfl)
noncomputable def ok_law03_does_p0p1a_ir_ir : OkSpec Tryd.prog := ⟨sp_law03_does_p0p1a_ir_ir, law03_does_p0p1a_ir_ir_is, Tryd.call9⟩
noncomputable def fn_ref03_Next_l1 (xa : (Int × (List Int))) (xb : Int) : Int → Option (Int ⊕ (Unit ⊕ Int)) := fun (i217 : Int) => cond (decide (i217 < (((xa.2.length : Nat) : Int)))) ((getI xa.2 i217).bind fun x241 => cond (decide (xb ≤ x241)) ((getI xa.2 i217).bind fun x251 => some (.inr ((.inr (x251))))) (some (.inl (IntKind.wrap .i64 (i217 + 1))))) (some (.inr ((.inl ()))))
noncomputable def fn_ref03_Next (xa : (Int × (List Int))) (xb : Int) : Option Int :=
  (loop (fn_ref03_Next_l1 xa xb) 0 : Option (Unit ⊕ Int)).bind fun o => match o with | .inr r => some r | .inl () => some ((-1))
noncomputable def h_ref03_Next : Hn Tryd.prog := .jx [] ⟨[], []⟩ [] (.lp ⟨[(5, .dat (.int .i64))], []⟩ (.tw 10 (.tw 19 (.nil) (.nil)) (.nil))) (.nil)
noncomputable def sp_ref03_Next : Spec := ⟨29, ⟨[(0, .dat (.cons (.int .i64) (.one (.sl (.int .i64))))), (1, .dat (.int .i64))], []⟩, [⟨[(0, .dat (.int .i64))], []⟩], fun x => fn_ref03_Next x.1 x.2⟩
theorem ref03_Next_is : SpecOk Tryd.prog sp_ref03_Next := fn_is Tryd.func29 h_ref03_Next (by kernel_rfl) (by kernel_rfl)
noncomputable def ok_ref03_Next : OkSpec Tryd.prog := ⟨sp_ref03_Next, ref03_Next_is, Tryd.call29⟩

noncomputable def fn_dense_Set_All_p0_ir (qa0 : Int) (qa1 : (List Int)) : Option (List Int) :=
  some (qa1)
noncomputable def h_dense_Set_All_p0_ir : Hn Tryd.prog := .nil
noncomputable def sp_dense_Set_All_p0_ir : Spec := ⟨20, ⟨[(0, .ptr 0 0)], [⟨none, 53, [.is 1 (.dat (.int .i64)), .own 59 (.int .u64)], false, false, none, false⟩, ⟨none, 0, [], false, true, none, false⟩]⟩, [⟨[(0, .fn 32 [.ptr 1 0])], [⟨(some 0), 53, [.is 2 (.any), .own 59 (.int .u64)], false, false, none, false⟩, ⟨none, 24, [.ptr 0 0], false, false, none, false⟩, ⟨(some 1), 0, [], false, true, none, false⟩]⟩], fun x => fn_dense_Set_All_p0_ir x.1 x.2⟩
theorem dense_Set_All_p0_ir_is : SpecOk Tryd.prog sp_dense_Set_All_p0_ir := fn_is Tryd.func20 h_dense_Set_All_p0_ir (by kernel_rfl) (by kernel_rfl)
noncomputable def ok_dense_Set_All_p0_ir : OkSpec Tryd.prog := ⟨sp_dense_Set_All_p0_ir, dense_Set_All_p0_ir_is, Tryd.call20⟩
noncomputable def fn_dense_Set_List_p0_ir_l1 (qa0 : Int) (l179 : (List Int)) : (Int × (List Int)) → Option ((Int × (List Int)) ⊕ (List Int)) := fun ((i295, l296) : (Int × (List Int))) => cond (decide (0 ≤ i295)) ((app l296 ([i295] : List Int)).bind fun z329 => (fn_dense_Set_Next (some (qa0, l179)) (IntKind.wrap .i64 (i295 + 1))).bind fun i337 => some (.inl (i337, z329))) (some (.inr (l296)))
noncomputable def fn_dense_Set_List_p0_ir (qa0 : Int) (qa1 : (List Int)) : Option (((List Int) × (List Int))) :=
  (fn_dense_Set_All_p0_ir qa0 qa1).bind fun l179 => (fn_dense_Set_Next (some (qa0, l179)) 0).bind fun i192 => (loop (fn_dense_Set_List_p0_ir_l1 qa0 l179) (i192, []) : Option (List Int)).bind fun l266 => some ((l266, l179))
noncomputable def h_dense_Set_List_p0_ir : Hn Tryd.prog := .cl ok_dense_Set_All_p0_ir [] (.rg ⟨32, _, Tryd.func32, Tryd.call32⟩ (.cl ok_dense_Set_Next [11, 0] (.jn [] ⟨[], [⟨(some 5), 28, [.own 3 (.int .i64)], false, false, none, false⟩, ⟨(some 15), 0, [], false, false, none, true⟩]⟩ [15, 5] (.lp ⟨[(3, .dat (.int .i64))], [⟨(some 5), 28, [.own 3 (.int .i64)], false, false, none, false⟩, ⟨(some 15), 0, [], false, false, none, true⟩]⟩ (.tw 7 (.yl 2 (.cl ok_dense_Set_Next [11, 0] (.nil))) (.nil))) (.nil))))
noncomputable def sp_dense_Set_List_p0_ir : Spec := ⟨24, ⟨[(0, .ptr 0 0)], [⟨none, 53, [.is 1 (.dat (.int .i64)), .own 59 (.int .u64)], false, false, none, false⟩, ⟨none, 0, [], false, true, none, false⟩]⟩, [⟨[(0, .own 3 (.int .i64))], [⟨(some 0), 53, [.is 1 (.any), .own 59 (.int .u64)], false, false, none, false⟩, ⟨(some 1), 0, [], false, true, none, false⟩]⟩], fun x => fn_dense_Set_List_p0_ir x.1 x.2⟩
theorem dense_Set_List_p0_ir_is : SpecOk Tryd.prog sp_dense_Set_List_p0_ir := fn_is Tryd.func24 h_dense_Set_List_p0_ir (by kernel_rfl) (by kernel_rfl)
noncomputable def ok_dense_Set_List_p0_ir : OkSpec Tryd.prog := ⟨sp_dense_Set_List_p0_ir, dense_Set_List_p0_ir_is, Tryd.call24⟩
noncomputable def fn_ref01_Same_l1 (xa : (List Int)) (xb : (List Int)) : Int → Option (Int ⊕ (Unit ⊕ Bool)) := fun (i757 : Int) => cond (decide (i757 < (((xa.length : Nat) : Int)))) ((getI xa i757).bind fun x889 => (getI xb i757).bind fun x898 => cond (!decide (x889 = x898)) (some (.inr ((.inr (false))))) (some (.inl (IntKind.wrap .i64 (i757 + 1))))) (some (.inr ((.inl ()))))
noncomputable def fn_ref01_Same (xa : (List Int)) (xb : (List Int)) : Option Bool :=
  cond (!decide ((((xa.length : Nat) : Int)) = (((xb.length : Nat) : Int)))) (some (false)) ((loop (fn_ref01_Same_l1 xa xb) 0 : Option (Unit ⊕ Bool)).bind fun o => match o with | .inr r => some r | .inl () => some (true))
noncomputable def h_ref01_Same : Hn Tryd.prog := .tw 10 (.nil) (.jx [] ⟨[], []⟩ [] (.lp ⟨[(5, .dat (.int .i64))], []⟩ (.tw 14 (.mix [] [0, 1, 2, 3, 4, 5, 6, 7, 8] [] [] (.tw 25 (.nil) (.nil))) (.nil))) (.nil))
noncomputable def sp_ref01_Same : Spec := ⟨14, ⟨[(0, .dat (.sl (.int .i64))), (1, .dat (.sl (.int .i64)))], []⟩, [⟨[(0, .dat .bool)], []⟩], fun x => fn_ref01_Same x.1 x.2⟩
theorem ref01_Same_is : SpecOk Tryd.prog sp_ref01_Same := fn_is Tryd.func14 h_ref01_Same (by kernel_rfl) (by kernel_rfl)
noncomputable def ok_ref01_Same : OkSpec Tryd.prog := ⟨sp_ref01_Same, ref01_Same_is, Tryd.call14⟩

noncomputable def fn_law03_tells_p0ai_ir (xb : (Int × (List Int))) (xc : Int) (qa0 : Int) (qa1 : (List Int)) : Option ((Bool × (List Int))) :=
  (fn_dense_Set_Size (some (qa0, qa1))).bind fun i412 => cond (decide (i412 = xb.1)) ((fn_dense_Set_Has (some (qa0, qa1)) xc).bind fun t419 => (fn_ref03_Has (xb.1, xb.2) xc).bind fun t425 => cond (t419 == t425) ((fn_dense_Set_Count (some (qa0, qa1))).bind fun i432 => cond (decide (i432 = (((xb.2.length : Nat) : Int)))) ((fn_dense_Set_Next (some (qa0, qa1)) xc).bind fun i439 => (fn_ref03_Next (xb.1, xb.2) xc).bind fun i445 => cond (decide (i439 = i445)) ((fn_dense_Set_List_p0_ir qa0 qa1).bind fun (l452, l453) => (fn_ref01_Same l452 xb.2).bind fun t471 => some ((t471, l453))) (some ((false, qa1)))) (some ((false, qa1)))) (some ((false, qa1)))) (some ((false, qa1)))
noncomputable def h_law03_tells_p0ai_ir : Hn Tryd.prog := .mix [([0, 2, 3], 1), ([4, 5, 6, 7, 9, 10], 8), ([], 11), ([12, 13, 14, 15, 17, 18, 19], 16), ([20, 21, 22, 23, 24, 26, 27], 25), ([], 28), ([29, 30, 31, 32, 34, 35], 33)] [] [36, 37, 38] [2, 0] (.cl ok_dense_Set_Size [2, 0] (.two 12 (.cl ok_dense_Set_Has [2, 0] (.cl ok_ref03_Has [] (.two 21 (.cl ok_dense_Set_Count [2, 0] (.two 29 (.cl ok_dense_Set_Next [2, 0] (.cl ok_ref03_Next [] (.two 38 (.cl ok_dense_Set_List_p0_ir [] (.cl ok_ref01_Same [10] (.nil))) (.nil)))) (.nil))) (.nil)))) (.nil)))
noncomputable def sp_law03_tells_p0ai_ir : Spec := ⟨10, ⟨[(0, .ptr 0 0), (1, .dat (.cons (.int .i64) (.one (.sl (.int .i64))))), (2, .dat (.int .i64))], [⟨none, 53, [.is 1 (.dat (.int .i64)), .own 59 (.int .u64)], false, false, none, false⟩, ⟨none, 0, [], false, true, none, false⟩]⟩, [⟨[(0, .dat .bool)], [⟨(some 0), 53, [.is 1 (.any), .own 59 (.int .u64)], false, false, none, false⟩, ⟨(some 1), 0, [], false, true, none, false⟩]⟩], fun x => fn_law03_tells_p0ai_ir x.1 x.2.1 x.2.2.1 x.2.2.2⟩
theorem law03_tells_p0ai_ir_is : SpecOk Tryd.prog sp_law03_tells_p0ai_ir := fn_is Tryd.func10 h_law03_tells_p0ai_ir (by kernel_rfl) (by kernel_rfl)
noncomputable def ok_law03_tells_p0ai_ir : OkSpec Tryd.prog := ⟨sp_law03_tells_p0ai_ir, law03_tells_p0ai_ir_is, Tryd.call10⟩

noncomputable def fn_dense_Set_All (xa : (Option (Int × (List Int)))) : Option Unit :=
  some (())
noncomputable def h_dense_Set_All : Hn Tryd.prog := .nil
noncomputable def sp_dense_Set_All : Spec := ⟨20, ⟨[(0, .is 0 (.dat (.ptr (.cons (.int .i64) (.one (.sl (.int .u64)))))))], [⟨none, 0, [], false, true, none, false⟩]⟩, [⟨[(0, .fn 32 [.ptr 0 0])], [⟨none, 24, [.is 1 (.any)], false, false, none, false⟩, ⟨(some 0), 0, [], false, true, none, false⟩]⟩], fun x => fn_dense_Set_All x⟩
theorem dense_Set_All_is : SpecOk Tryd.prog sp_dense_Set_All := fn_is Tryd.func20 h_dense_Set_All (by kernel_rfl) (by kernel_rfl)
noncomputable def ok_dense_Set_All : OkSpec Tryd.prog := ⟨sp_dense_Set_All, dense_Set_All_is, Tryd.call20⟩
noncomputable def fn_dense_Within_l1 (xa : (Option (Int × (List Int)))) (xb : (Option (Int × (List Int)))) : Int → Option (Int ⊕ (Unit ⊕ Bool)) := fun (i185 : Int) => cond (decide (0 ≤ i185)) ((fn_dense_Set_Has xb i185).bind fun t205 => cond (!t205) (some (.inr ((.inr (false))))) ((fn_dense_Set_Next xa (IntKind.wrap .i64 (i185 + 1))).bind fun i212 => some (.inl i212))) (some (.inr ((.inl ()))))
noncomputable def fn_dense_Within (xa : (Option (Int × (List Int)))) (xb : (Option (Int × (List Int)))) : Option Bool :=
  (fn_dense_Set_All xa).bind fun _ => (fn_dense_Set_Next xa 0).bind fun i120 => (loop (fn_dense_Within_l1 xa xb) i120 : Option (Unit ⊕ Bool)).bind fun o => match o with | .inr r => some r | .inl () => some (true)
noncomputable def h_dense_Within : Hn Tryd.prog := .ms 6 (.cl ok_dense_Set_All [] (.rg ⟨32, _, Tryd.func32, Tryd.call32⟩ (.cl ok_dense_Set_Next [] (.jx [] ⟨[], [⟨(some 2), 4, [.lit (.bool false)], false, false, none, false⟩, ⟨(some 7), 0, [], false, false, none, true⟩]⟩ [7, 2] (.lp ⟨[(3, .dat (.int .i64))], [⟨(some 2), 4, [.lit (.bool false)], false, false, none, false⟩, ⟨(some 7), 0, [], false, false, none, true⟩]⟩ (.tw 7 (.yl 2 (.cl ok_dense_Set_Has [] (.tw 12 (.nil) (.cl ok_dense_Set_Next [] (.nil))))) (.nil))) (.nil)))))
noncomputable def sp_dense_Within : Spec := ⟨11, ⟨[(0, .dat (.ptr (.cons (.int .i64) (.one (.sl (.int .u64)))))), (1, .dat (.ptr (.cons (.int .i64) (.one (.sl (.int .u64))))))], []⟩, [⟨[(0, .dat .bool)], []⟩], fun x => fn_dense_Within x.1 x.2⟩
theorem dense_Within_is : SpecOk Tryd.prog sp_dense_Within := fn_is Tryd.func11 h_dense_Within (by kernel_rfl) (by kernel_rfl)
noncomputable def ok_dense_Within : OkSpec Tryd.prog := ⟨sp_dense_Within, dense_Within_is, Tryd.call11⟩
noncomputable def fn_ref03_Within_l1 (xa : (Int × (List Int))) (xb : (Int × (List Int))) : Int → Option (Int ⊕ (Unit ⊕ Bool)) := fun (i459 : Int) => cond (decide (i459 < (((xa.2.length : Nat) : Int)))) ((getI xa.2 i459).bind fun x534 => (fn_ref03_Has (xb.1, xb.2) x534).bind fun t545 => cond (!t545) (some (.inr ((.inr (false))))) (some (.inl (IntKind.wrap .i64 (i459 + 1))))) (some (.inr ((.inl ()))))
noncomputable def fn_ref03_Within (xa : (Int × (List Int))) (xb : (Int × (List Int))) : Option Bool :=
  (loop (fn_ref03_Within_l1 xa xb) 0 : Option (Unit ⊕ Bool)).bind fun o => match o with | .inr r => some r | .inl () => some (true)
noncomputable def h_ref03_Within : Hn Tryd.prog := .jx [] ⟨[], []⟩ [] (.lp ⟨[(5, .dat (.int .i64))], []⟩ (.tw 10 (.mix [] [0, 1, 2, 3, 4, 5] [6, 7] [] (.cl ok_ref03_Has [] (.tw 20 (.nil) (.nil)))) (.nil))) (.nil)
noncomputable def sp_ref03_Within : Spec := ⟨12, ⟨[(0, .dat (.cons (.int .i64) (.one (.sl (.int .i64))))), (1, .dat (.cons (.int .i64) (.one (.sl (.int .i64)))))], []⟩, [⟨[(0, .dat .bool)], []⟩], fun x => fn_ref03_Within x.1 x.2⟩
theorem ref03_Within_is : SpecOk Tryd.prog sp_ref03_Within := fn_is Tryd.func12 h_ref03_Within (by kernel_rfl) (by kernel_rfl)
noncomputable def ok_ref03_Within : OkSpec Tryd.prog := ⟨sp_ref03_Within, ref03_Within_is, Tryd.call12⟩

noncomputable def fn_dense_Same (xa : (Option (Int × (List Int)))) (xb : (Option (Int × (List Int)))) : Option Bool :=
  cond (xa.isNone || xb.isNone) (some (xa.isNone && xb.isNone)) ((xa : Option (Int × (List Int))).bind fun y158 => (xb : Option (Int × (List Int))).bind fun y164 => cond (decide (y158.1 = y164.1)) ((fn_dense_Within xa xb).bind fun t173 => cond (t173) ((fn_dense_Within xb xa).bind fun t180 => some (t180)) (some (false))) (some (false)))
noncomputable def h_dense_Same : Hn Tryd.prog := .gp 2 (.tw 10 (.gp 2 (.nil)) (.mix [([0, 1, 2, 3, 4, 5, 6, 7, 8, 9, 10, 11], 12)] [13, 14, 15, 16] [17, 18, 19] [] (.two 26 (.cl ok_dense_Within [] (.two 31 (.cl ok_dense_Within [] (.nil)) (.nil))) (.nil))))
noncomputable def sp_dense_Same : Spec := ⟨13, ⟨[(0, .dat (.ptr (.cons (.int .i64) (.one (.sl (.int .u64)))))), (1, .dat (.ptr (.cons (.int .i64) (.one (.sl (.int .u64))))))], []⟩, [⟨[(0, .dat .bool)], []⟩], fun x => fn_dense_Same x.1 x.2⟩
theorem dense_Same_is : SpecOk Tryd.prog sp_dense_Same := fn_is Tryd.func13 h_dense_Same (by kernel_rfl) (by kernel_rfl)
noncomputable def ok_dense_Same : OkSpec Tryd.prog := ⟨sp_dense_Same, dense_Same_is, Tryd.call13⟩
noncomputable def fn_law03_DensePlays_l1 (xa : Int) (xb : Int) (xc : (List (Int × Int))) (xd : Int) : (Int × (List Int) × (List Int) × Int × (List Int) × Int × (List Int)) → Option ((Int × (List Int) × (List Int) × Int × (List Int) × Int × (List Int)) ⊕ (Unit ⊕ Bool)) := fun ((i8426, l8427, l8432, i8437, l8438, i8442, l8443) : (Int × (List Int) × (List Int) × Int × (List Int) × Int × (List Int))) => cond (decide (i8426 < (((xc.length : Nat) : Int)))) (((getI xc i8426).bind fun x9605 => ((fn_ref03_Do (i8437, l8438) (i8442, l8443) (x9605.1, x9605.2)).bind fun (i9616, l9617, i9618, l9619, t9620) => (some ((t9620, i9616, l9617, i9618, l9619))).bind fun x9634 => (some ((t9620, i9616, l9617, i9618, l9619))).bind fun y9635 => agr x9634 y9635 (some x9634)).bind fun x9712 => ((((fn_ref03_Do (i8437, l8438) (i8442, l8443) (x9605.1, x9605.2)).bind fun (i9639, l9640, i9641, l9642, t9643) => some ((t9643, i9639, l9640, i9641, l9642))).bind fun x9671 => ((fn_ref03_Do (i8437, l8438) (i8442, l8443) (x9605.1, x9605.2)).bind fun (i9657, l9658, i9659, l9660, t9661) => some ((t9661, i9657, l9658, i9659, l9660))).bind fun y9672 => agr x9671 y9672 (some x9671)).bind fun x9710 => (((fn_ref03_Do (i8437, l8438) (i8442, l8443) (x9605.1, x9605.2)).bind fun (i9676, l9677, i9678, l9679, t9680) => some ((t9680, i9676, l9677, i9678, l9679))).bind fun x9708 => ((fn_ref03_Do (i8437, l8438) (i8442, l8443) (x9605.1, x9605.2)).bind fun (i9694, l9695, i9696, l9697, t9698) => some ((t9698, i9694, l9695, i9696, l9697))).bind fun y9709 => agr x9708 y9709 (some x9708)).bind fun y9711 => agr x9710 y9711 (some x9710)).bind fun y9713 => agr x9712 y9713 (some x9712) : Option ((Bool × Int × (List Int) × Int × (List Int)))).bind fun (t9485, i9486, l9487, i9491, l9492) => (getI xc i8426).bind fun x9964 => (fn_law03_does_p0p1a_ir_ir (x9964.1, x9964.2) xa l8427 xb l8432).bind fun (t9975, l9976, l9977) => cond (!(t9975 == t9485)) (some (.inr ((.inr (false))))) ((fn_law03_tells_p0ai_ir (i9486, l9487) xd xa l9976).bind fun (t9994, l9995) => cond (!t9994) (some (.inr ((.inr (false))))) ((getI xc i8426).bind fun x10005 => (fn_law03_tells_p0ai_ir (i9491, l9492) x10005.2 xb l9977).bind fun (t10016, l10017) => cond (!t10016) (some (.inr ((.inr (false))))) ((fn_dense_Within (some (xa, l9995)) (some (xb, l10017))).bind fun t10029 => (fn_ref03_Within (i9486, l9487) (i9491, l9492)).bind fun t10035 => cond (!(t10029 == t10035)) (some (.inr ((.inr (false))))) ((fn_dense_Same (some (xa, l9995)) (some (xb, l10017))).bind fun t10042 => cond (decide (xa = xb)) ((fn_ref01_Same l9487 l9492).bind fun t10049 => cond (!(t10042 == t10049)) (some (.inr ((.inr (false))))) (some (.inl ((IntKind.wrap .i64 (i8426 + 1), l9995, l10017, i9486, l9487, i9491, l9492))))) (cond (!(t10042 == false)) (some (.inr ((.inr (false))))) (some (.inl ((IntKind.wrap .i64 (i8426 + 1), l9995, l10017, i9486, l9487, i9491, l9492)))))))))) (some (.inr ((.inl ()))))
noncomputable def fn_law03_DensePlays (xa : Int) (xb : Int) (xc : (List (Int × Int))) (xd : Int) : Option Bool :=
  cond ((((decide (30 < (((xc.length : Nat) : Int)))) || ((decide (300 < xa)) && (decide (xa ≤ 1048576)))) || (decide (xb < 0))) || (decide (300 < xb))) ((fn_law03_awake).bind fun t5043 => some (t5043)) ((fn_dense_New xa).bind fun o => match o with | .inl i5049 => ((fn_dense_New xb).bind fun o => match o with | .inl i5055 => cond (decide (xa < 0)) ((cond (decide (i5049 = 2)) ((fn_law03_awake).bind fun t5071 => some (t5071)) (some (false))).bind fun t5067 => some (t5067)) (cond (decide (1048576 < xa)) ((cond (decide (i5049 = 5)) ((fn_law03_awake).bind fun t5087 => some (t5087)) (some (false))).bind fun t5083 => some (t5083)) (some (false))) | .inr (i5091, l5092) => cond (decide (xa < 0)) ((cond (decide (i5049 = 2)) ((fn_law03_awake).bind fun t5113 => some (t5113)) (some (false))).bind fun t5109 => some (t5109)) (cond (decide (1048576 < xa)) ((cond (decide (i5049 = 5)) ((fn_law03_awake).bind fun t5129 => some (t5129)) (some (false))).bind fun t5125 => some (t5125)) (some (false)))) | .inr (i5133, l5134) => (fn_dense_New xb).bind fun o => match o with | .inl i5145 => cond (decide (xa < 0)) (some (false)) (cond (decide (1048576 < xa)) (some (false)) (some (false))) | .inr (i5151, l5152) => cond (decide (xa < 0)) (some (false)) (cond (decide (1048576 < xa)) (some (false)) (cond ((!decide (i5133 = 0)) || (!decide (i5151 = 0))) (some (false)) ((loop (fn_law03_DensePlays_l1 xa xb xc xd) (0, l5134, l5152, xa, [], xb, []) : Option (Unit ⊕ Bool)).bind fun o => match o with | .inr r => some r | .inl () => (fn_law03_awake).bind fun t10058 => some (t10058)))))
noncomputable def h_law03_DensePlays : Hn Tryd.prog := .gp 6 (.wt 30 (.gp 2 (.wt 34 (.gp 2 (.tw 37 (.cl ok_law03_awake [] (.nil)) (.ms 40 (.c2 ok_dense_New [] (.ms 45 (.c2 ok_dense_New [] (.tw 50 (.wt 57 (.gj 1 ⟨[(59, .dat .bool)], []⟩ [] (.two 57 (.cl ok_law03_awake [] (.nil)) (.nil)) (.nil))) (.tw 61 (.wt 68 (.gj 1 ⟨[(70, .dat .bool)], []⟩ [] (.two 68 (.cl ok_law03_awake [] (.nil)) (.nil)) (.nil))) (.nil))) (.tw 50 (.wt 57 (.gj 1 ⟨[(59, .dat .bool)], []⟩ [] (.two 57 (.cl ok_law03_awake [] (.nil)) (.nil)) (.nil))) (.tw 61 (.wt 68 (.gj 1 ⟨[(70, .dat .bool)], []⟩ [] (.two 68 (.cl ok_law03_awake [] (.nil)) (.nil)) (.nil))) (.nil))))) (.ms 45 (.c2 ok_dense_New [] (.tw 50 (.nil) (.tw 61 (.nil) (.nil))) (.tw 50 (.nil) (.tw 61 (.nil) (.wt 81 (.gp 2 (.tw 84 (.nil) (.jx [] ⟨[], []⟩ [12, 10, 7, 6, 2, 1] (.lp ⟨[(15, .dat (.int .i64))], [⟨(some 1), 53, [.is 4 (.any), .own 59 (.int .u64)], false, false, none, false⟩, ⟨(some 6), 53, [.is 5 (.any), .own 59 (.int .u64)], false, false, none, false⟩, ⟨(some 10), 30, [.dat (.int .i64), .dat (.sl (.int .i64))], false, false, none, false⟩, ⟨(some 12), 30, [.dat (.int .i64), .dat (.sl (.int .i64))], false, false, none, false⟩, ⟨(some 0), 0, [], false, true, none, false⟩, ⟨(some 5), 0, [], false, true, none, false⟩]⟩ (.tw 92 (.tr (.still [0, 1, 2, 3, 4, 5] (.alt 6 (.still [7, 8, 9, 10] (.alt 11 (.alt 12 (.alt 13 (.alt 14 (.leaf [15]) .done) .done) .done) (.alt 12 (.alt 11 (.alt 13 (.alt 14 (.leaf [15]) .done) .done) .done) .done))) (.alt 11 (.alt 6 (.still [7, 8, 9, 10] (.alt 12 (.alt 13 (.alt 14 (.leaf [15]) .done) .done) .done)) (.alt 12 (.alt 6 (.still [7, 8, 9, 10] (.alt 13 (.alt 14 (.leaf [15]) .done) .done)) .done) .done)) (.alt 12 (.alt 6 (.still [7, 8, 9, 10] (.alt 11 (.alt 13 (.alt 14 (.leaf [15]) .done) .done) .done)) (.alt 11 (.alt 6 (.still [7, 8, 9, 10] (.alt 13 (.alt 14 (.leaf [15]) .done) .done)) .done) .done)) .done)))) ⟨[(16, .ptr 0 0), (17, .ptr 1 0), (18, .dat .bool)], [⟨none, 30, [.dat (.int .i64), .dat (.sl (.int .i64))], false, false, none, false⟩, ⟨none, 30, [.dat (.int .i64), .dat (.sl (.int .i64))], false, false, none, false⟩]⟩ [] (.two 0 (.cl ok_ref03_Do [] (.two 0 (.nil) (.nil))) (.two 0 (.two 0 (.cl ok_ref03_Do [] (.nil)) (.cl ok_ref03_Do [] (.nil))) (.two 0 (.cl ok_ref03_Do [] (.nil)) (.cl ok_ref03_Do [] (.nil))))) (.mix [([0, 1, 2, 3, 4, 5, 7], 6), ([8, 9, 10, 11, 12], 13), ([14, 15, 16, 17, 18, 19, 20, 21, 22, 23], 24), ([25, 26, 27, 28, 29, 31, 32], 30), ([], 33), ([34, 35, 36, 37, 38, 40, 41, 42], 39)] [43, 44, 45, 46, 47] [48, 49, 50, 51] [1, 6, 16, 19] (.cl ok_law03_does_p0p1a_ir_ir [] (.two 117 (.nil) (.cl ok_law03_tells_p0ai_ir [] (.two 124 (.nil) (.cl ok_law03_tells_p0ai_ir [] (.two 135 (.nil) (.cl ok_dense_Within [45, 1, 51, 6] (.cl ok_ref03_Within [] (.two 144 (.nil) (.cl ok_dense_Same [45, 1, 51, 6] (.two 151 (.cl ok_ref01_Same [] (.tw 159 (.nil) (.nil))) (.tw 159 (.nil) (.nil))))))))))))))) (.nil))) (.cl ok_law03_awake [] (.nil)))))))))))))))))
noncomputable def sp_law03_DensePlays : Spec := ⟨3, ⟨[(0, .dat (.int .i64)), (1, .dat (.int .i64)), (2, .dat (.sl (.cons (.int .i64) (.one (.int .i64))))), (3, .dat (.int .i64))], []⟩, [⟨[(0, .dat .bool)], []⟩], fun x => fn_law03_DensePlays x.1 x.2.1 x.2.2.1 x.2.2.2⟩
theorem law03_DensePlays_is : SpecOk Tryd.prog sp_law03_DensePlays := fn_is Tryd.func3 h_law03_DensePlays (by kernel_rfl) (by kernel_rfl)
noncomputable def ok_law03_DensePlays : OkSpec Tryd.prog := ⟨sp_law03_DensePlays, law03_DensePlays_is, Tryd.call3⟩

noncomputable def fn_dense_Set_Clone_p0_ir (qa0 : Int) (qa1 : (List Int)) : Option (((List Int) × (List Int))) :=
  (mk (((qa1.length : Nat) : Int)) (((qa1.length : Nat) : Int)) 0 : Option (List Int)).bind fun z56 => (some (cpy z56 ((0 : Int).toNat) (qa1.take (z56.length - (0 : Int).toNat)))).bind fun z62 => some ((qa1, z62))
noncomputable def h_dense_Set_Clone_p0_ir : Hn Tryd.prog := .mix [([0, 1, 2, 3, 4, 5, 6, 7, 8], 9), ([10], 11)] [12] [] [] (.mix [] [0, 1, 2, 3, 4, 5, 6, 7] [8] [] (.nil))
noncomputable def sp_dense_Set_Clone_p0_ir : Spec := ⟨16, ⟨[(0, .ptr 0 0)], [⟨none, 53, [.is 1 (.dat (.int .i64)), .own 59 (.int .u64)], false, false, none, false⟩, ⟨none, 0, [], false, true, none, false⟩]⟩, [⟨[(0, .ptr 1 0)], [⟨(some 0), 53, [.is 2 (.any), .own 59 (.int .u64)], false, false, none, false⟩, ⟨none, 53, [.is 2 (.any), .own 59 (.int .u64)], false, false, none, false⟩, ⟨(some 1), 0, [], false, true, none, false⟩]⟩], fun x => fn_dense_Set_Clone_p0_ir x.1 x.2⟩
theorem dense_Set_Clone_p0_ir_is : SpecOk Tryd.prog sp_dense_Set_Clone_p0_ir := fn_is Tryd.func16 h_dense_Set_Clone_p0_ir (by kernel_rfl) (by kernel_rfl)
noncomputable def ok_dense_Set_Clone_p0_ir : OkSpec Tryd.prog := ⟨sp_dense_Set_Clone_p0_ir, dense_Set_Clone_p0_ir_is, Tryd.call16⟩
noncomputable def fn_law03_DenseJoins_l1 (xa : Int) (xb : (List Int)) : (Int × (List Int)) → Option ((Int × (List Int)) ⊕ (List Int)) := fun ((i1004, l1005) : (Int × (List Int))) => cond (decide (i1004 < (((xb.length : Nat) : Int)))) ((getI xb i1004).bind fun x1040 => (fn_dense_Set_Add_p0i_ir x1040 xa l1005).bind fun (t1051, l1052) => some (.inl ((IntKind.wrap .i64 (i1004 + 1), l1052)))) (some (.inr (l1005)))
noncomputable def fn_law03_DenseJoins_l2 (xa : Int) (xc : (List Int)) : (Int × (List Int)) → Option ((Int × (List Int)) ⊕ (List Int)) := fun ((i1179, l1180) : (Int × (List Int))) => cond (decide (i1179 < (((xc.length : Nat) : Int)))) ((getI xc i1179).bind fun x1215 => (fn_dense_Set_Add_p0i_ir x1215 xa l1180).bind fun (t1226, l1227) => some (.inl ((IntKind.wrap .i64 (i1179 + 1), l1227)))) (some (.inr (l1180)))
noncomputable def fn_law03_DenseJoins_l3 (xa : Int) (l1417 : (List Int)) : (Int × Int) → Option ((Int × Int) ⊕ (Int ⊕ Int)) := fun ((i1592, i1593) : (Int × Int)) => cond (decide (0 ≤ i1592)) (cond ((decide (i1592 < 0)) || (decide ((IntKind.wrap .i64 (i1593 + 1)) = 2))) (some (.inr ((.inr (IntKind.wrap .i64 (i1593 + 1)))))) ((fn_dense_Set_Next (some (xa, l1417)) (IntKind.wrap .i64 (i1592 + 1))).bind fun i1613 => some (.inl ((i1613, IntKind.wrap .i64 (i1593 + 1)))))) (some (.inr (.inl i1593)))
noncomputable def fn_law03_DenseJoins (xa : Int) (xb : (List Int)) (xc : (List Int)) (xd : Int) : Option Bool :=
  cond ((((decide (60 < (((xb.length : Nat) : Int)))) || (decide (60 < (((xc.length : Nat) : Int))))) || (decide (xa < 0))) || (decide (300 < xa))) ((fn_law03_awake).bind fun t831 => some (t831)) ((fn_dense_New xa).bind fun o => match o with | .inl i837 => ((fn_dense_New xa).bind fun o => match o with | .inl i843 => some (false) | .inr (i847, l848) => some (false)) | .inr (i857, l858) => (fn_dense_New xa).bind fun o => match o with | .inl i869 => some (false) | .inr (i873, l874) => cond ((!decide (i857 = 0)) || (!decide (i873 = 0))) (some (false)) ((loop (fn_law03_DenseJoins_l1 xa xb) (0, l858) : Option (List Int)).bind fun l971 => (loop (fn_law03_DenseJoins_l2 xa xc) (0, l874) : Option (List Int)).bind fun l1146 => (fn_dense_Set_Clone_p0_ir xa l971).bind fun (l1238, l1239) => (fn_dense_Within (some (xa, l1146)) (some (xa, l1238))).bind fun t1255 => (fn_dense_Set_Or_p0p1_ir_ir xa l1238 xa l1146).bind fun (t1261, l1262, l1263) => cond (t1261 == t1255) (some (false)) ((fn_dense_Set_Or_p0p1_ir_ir xa l1262 xa l1263).bind fun (t1299, l1300, l1301) => (cond (t1299) (some (true)) ((fn_dense_Within (some (xa, l1301)) (some (xa, l1300))).bind fun t1326 => some (!t1326))).bind fun t1322 => (cond (t1322) (some (true)) ((fn_dense_Within (some (xa, l1239)) (some (xa, l1300))).bind fun t1341 => some (!t1341))).bind fun t1337 => (cond (t1337) (some (true)) ((fn_dense_Set_Count (some (xa, l1300))).bind fun i1368 => (fn_dense_Set_Count (some (xa, l1239))).bind fun i1374 => (fn_dense_Set_Count (some (xa, l1301))).bind fun i1380 => some (decide ((IntKind.wrap .i64 (i1374 + i1380)) < i1368)))).bind fun t1364 => cond (t1364) (some (false)) ((fn_dense_Set_Count (some (xa, l1239))).bind fun i1387 => (fn_dense_Set_Add_p0i_ir xd xa l1300).bind fun (t1393, l1394) => (fn_dense_Set_Del_p0i_ir xd xa l1394).bind fun (t1405, l1406) => (fn_dense_Set_All_p0_ir xa l1406).bind fun l1417 => (fn_dense_Set_Count (some (xa, l1239))).bind fun i1429 => (cond (!decide (i1429 = i1387)) (some (true)) ((fn_dense_Set_Has (some (xa, l1417)) xd).bind fun t1444 => some (t1444))).bind fun t1440 => cond (bif t1440 then true else false) (some (false)) (((fn_dense_Set_Next (some (xa, l1417)) 0).bind fun i1538 => (loop (fn_law03_DenseJoins_l3 xa l1417) (i1538, 0) : Option (Int ⊕ Int)).bind fun o => match o with | .inr r => some r | .inl i1579 => some (i1579) : Option Int).bind fun i1534 => (fn_dense_Set_Count (some (xa, l1417))).bind fun i1619 => (cond (decide (2 < i1619)) (some (2)) (some (i1619)) : Option Int).bind fun i1624 => (cond (decide (i1534 = i1624)) ((fn_law03_awake).bind fun t1637 => some (t1637)) (some (false))).bind fun t1633 => some (t1633))))))
noncomputable def h_law03_DenseJoins : Hn Tryd.prog := .gp 3 (.wt 30 (.gp 2 (.wt 34 (.gp 2 (.tw 37 (.cl ok_law03_awake [] (.nil)) (.ms 40 (.c2 ok_dense_New [] (.ms 45 (.c2 ok_dense_New [] (.nil) (.nil))) (.ms 45 (.c2 ok_dense_New [] (.nil) (.wt 59 (.gp 2 (.tw 62 (.nil) (.jn [] ⟨[], [⟨(some 1), 53, [.is 1 (.any), .own 59 (.int .u64)], false, false, none, false⟩, ⟨(some 0), 0, [], false, true, none, false⟩]⟩ [2, 1] (.lp ⟨[(13, .dat (.int .i64))], [⟨(some 1), 53, [.is 1 (.any), .own 59 (.int .u64)], false, false, none, false⟩, ⟨(some 0), 0, [], false, true, none, false⟩]⟩ (.tw 66 (.cl ok_dense_Set_Add_p0i_ir [] (.nil)) (.nil))) (.jn [] ⟨[], [⟨(some 6), 53, [.is 1 (.any), .own 59 (.int .u64)], false, false, none, false⟩, ⟨(some 5), 0, [], false, true, none, false⟩]⟩ [6, 7] (.lp ⟨[(14, .dat (.int .i64))], [⟨(some 6), 53, [.is 1 (.any), .own 59 (.int .u64)], false, false, none, false⟩, ⟨(some 5), 0, [], false, true, none, false⟩]⟩ (.tw 78 (.cl ok_dense_Set_Add_p0i_ir [] (.nil)) (.nil))) (.cl ok_dense_Set_Clone_p0_ir [] (.cl ok_dense_Within [13, 6, 20, 1] (.cl ok_dense_Set_Or_p0p1_ir_ir [] (.two 97 (.nil) (.cl ok_dense_Set_Or_p0p1_ir_ir [] (.wt 102 (.gj 4 ⟨[(107, .dat .bool)], []⟩ [] (.two 102 (.nil) (.cl ok_dense_Within [47, 6, 44, 1] (.nil))) (.wt 108 (.gj 4 ⟨[(113, .dat .bool)], []⟩ [] (.two 108 (.nil) (.cl ok_dense_Within [23, 19, 44, 1] (.nil))) (.wt 114 (.gj 8 ⟨[(123, .dat .bool)], []⟩ [] (.two 114 (.nil) (.cl ok_dense_Set_Count [44, 1] (.cl ok_dense_Set_Count [23, 19] (.cl ok_dense_Set_Count [47, 6] (.nil))))) (.tw 123 (.nil) (.cl ok_dense_Set_Count [23, 19] (.cl ok_dense_Set_Add_p0i_ir [] (.cl ok_dense_Set_Del_p0i_ir [] (.cl ok_dense_Set_All_p0_ir [] (.cl ok_dense_Set_Count [23, 19] (.gj 3 ⟨[(142, .dat .bool)], []⟩ [] (.two 138 (.nil) (.cl ok_dense_Set_Has [66, 1] (.nil))) (.wt 143 (.gp 2 (.tw 146 (.nil) (.pl (.sq [] ⟨[], [⟨(some 70), 3, [.dat (.int .i64)], false, false, none, false⟩]⟩ [70, 47, 6, 23, 19] (.rg ⟨32, _, Tryd.func32, Tryd.call32⟩ (.cl ok_dense_Set_Next [66, 1] (.jx [] ⟨[], [⟨(some 70), 3, [.dat (.int .i64)], false, false, none, false⟩, ⟨(some 73), 0, [], false, false, none, true⟩]⟩ [73, 70, 47, 6, 23, 19] (.lp ⟨[(3, .dat (.int .i64))], [⟨(some 70), 3, [.dat (.int .i64)], false, false, none, false⟩, ⟨(some 73), 0, [], false, false, none, true⟩]⟩ (.tw 7 (.yl 2 (.gp 2 (.tw 156 (.nil) (.cl ok_dense_Set_Next [66, 1] (.nil))))) (.nil))) (.nil)))) (.cl ok_dense_Set_Count [66, 1] (.sq [] ⟨[(21, .dat (.int .i64))], []⟩ [] (.tw 160 (.nil) (.nil)) (.gj 1 ⟨[(166, .dat .bool)], []⟩ [] (.two 164 (.cl ok_law03_awake [] (.nil)) (.nil)) (.nil)))))))))))))))))))))))))))))))))))))))))
noncomputable def sp_law03_DenseJoins : Spec := ⟨4, ⟨[(0, .dat (.int .i64)), (1, .dat (.sl (.int .i64))), (2, .dat (.sl (.int .i64))), (3, .dat (.int .i64))], []⟩, [⟨[(0, .dat .bool)], []⟩], fun x => fn_law03_DenseJoins x.1 x.2.1 x.2.2.1 x.2.2.2⟩
theorem law03_DenseJoins_is : SpecOk Tryd.prog sp_law03_DenseJoins := fn_is Tryd.func4 h_law03_DenseJoins (by kernel_rfl) (by kernel_rfl)
noncomputable def ok_law03_DenseJoins : OkSpec Tryd.prog := ⟨sp_law03_DenseJoins, law03_DenseJoins_is, Tryd.call4⟩
end Go.Proofs.YticfjbmafkjmaaaDoor
namespace Go.Proofs.YticfjbmafkjmaaaDoor
set_option linter.unusedVariables false
section
variable {σ β : Type} {body : σ → Option (σ ⊕ β)}
theorem loop_nat (st : Nat → σ) (n : Nat) {b : β} (h : ∀ k, k < n → body (st k) = some (.inl (st (k + 1)))) (he : body (st n) = some (.inr b)) : loop body (st 0) = some b := by
  have : ∀ m k, k + m = n → loop body (st k) = some b := by
    intro m
    induction m with
    | zero => intro k hk; have : k = n := by omega
              subst this; exact loop_end he
    | succ m ih => intro k hk; rw [loop_next (h k (by omega))]; exact ih (k + 1) (by omega)
  exact this n 0 (by omega)
theorem least (p : Nat → Prop) : ∀ n, (∃ k, k < n ∧ p k ∧ ∀ j, j < k → ¬ p j) ∨ ∀ j, j < n → ¬ p j
  | 0 => .inr (fun j hj => by omega)
  | n + 1 => by
    rcases least p n with ⟨k, h1, h2, h3⟩ | h
    · exact .inl ⟨k, by omega, h2, h3⟩
    · by_cases hp : p n
      · exact .inl ⟨n, by omega, hp, h⟩
      · exact .inr (fun j hj => if e : j = n then e ▸ hp else h j (by omega))
theorem loop_find (p : Nat → Prop) (st : Nat → σ) (n : Nat) (hit : Nat → β) (e : β) (hgo : ∀ k, k < n → ¬ p k → body (st k) = some (.inl (st (k + 1)))) (hhit : ∀ k, k < n → p k → body (st k) = some (.inr (hit k))) (hend : body (st n) = some (.inr e)) :
    (∃ k, k < n ∧ p k ∧ (∀ j, j < k → ¬ p j) ∧ loop body (st 0) = some (hit k)) ∨ ((∀ j, j < n → ¬ p j) ∧ loop body (st 0) = some e) := by
  rcases least p n with ⟨k, h1, h2, h3⟩ | h
  · exact .inl ⟨k, h1, h2, h3, loop_nat st k (fun j hj => hgo j (by omega) (h3 j hj)) (hhit k h1 h2)⟩
  · exact .inr ⟨h, loop_nat st n (fun k hk => hgo k hk (h k hk)) hend⟩
open Classical in
theorem loop_any (p : Nat → Prop) (st : Nat → σ) (n : Nat) (b e : β) (hgo : ∀ k, k < n → ¬ p k → body (st k) = some (.inl (st (k + 1)))) (hhit : ∀ k, k < n → p k → body (st k) = some (.inr b)) (hend : body (st n) = some (.inr e)) :
    loop body (st 0) = some (if ∃ k, k < n ∧ p k then b else e) := by
  rcases loop_find p st n (fun _ => b) e hgo hhit hend with ⟨k, h1, h2, h3, h4⟩ | ⟨h1, h2⟩
  · rw [if_pos ⟨k, h1, h2⟩]; exact h4
  · rw [if_neg (fun ⟨k, h3, h4⟩ => h1 k h3 h4)]; exact h2
end
theorem w64 {x : Int} (h1 : -9223372036854775808 ≤ x) (h2 : x ≤ 9223372036854775807) : IntKind.wrap .i64 x = x := by
  rw [IntWalk.i64_left, IntWalk.wrap64_in _ ⟨h1, h2⟩]
theorem w64s {k n : Nat} (h : k < n) (hn : n ≤ 9223372036854775807) : IntKind.wrap .i64 ((k : Int) + 1) = ((k + 1 : Nat) : Int) := by
  rw [w64 (by omega) (by omega)]; rfl
theorem ne_list {α : Type} {xs ys : List α} (h : xs.length = ys.length) : (∃ k, k < xs.length ∧ xs[k]? ≠ ys[k]?) ↔ xs ≠ ys := by
  constructor
  · rintro ⟨k, _, h2⟩ rfl; exact h2 rfl
  · intro hne
    rcases least (fun k => xs[k]? ≠ ys[k]?) xs.length with ⟨k, h1, h2, _⟩ | h'
    · exact ⟨k, h1, h2⟩
    · exfalso; apply hne
      apply List.ext_getElem? 
      intro k
      by_cases hk : k < xs.length
      · exact Classical.byContradiction (fun hc => h' k hk hc)
      · rw [List.getElem?_eq_none (by omega), List.getElem?_eq_none (by omega)]
theorem getN {α : Type} {l : List α} {k : Nat} (h : k < l.length) : getI l (k : Int) = some l[k] := getI_eq rfl h
theorem any_ex {α : Type} {t : α → Bool} {l : List α} : l.any t = true ↔ ∃ k, k < l.length ∧ (l[k]?.map t) = some true := by
  rw [List.any_eq_true]
  constructor
  · rintro ⟨x, hx, h⟩
    obtain ⟨k, hk, rfl⟩ := List.getElem_of_mem hx
    exact ⟨k, hk, by simp [hk, h]⟩
  · rintro ⟨k, hk, h⟩
    exact ⟨l[k], List.getElem_mem hk, by simpa [hk] using h⟩
/-- A list searched. -/
theorem loop_one {α β : Type} (xa : List α) (t : α → Bool) (hit e : β) (hn : xa.length ≤ 9223372036854775807) :
    loop (fun (i : Int) => (cond (decide (i < ((xa.length : Nat) : Int))) ((getI xa i).bind fun x => cond (t x) (some (.inr hit)) (some (.inl (IntKind.wrap .i64 (i + 1))))) (some (.inr e)) : Option (Int ⊕ β))) 0 = some (if xa.any t then hit else e) := by
  classical
  have h := loop_any (body := fun (i : Int) => (cond (decide (i < ((xa.length : Nat) : Int))) ((getI xa i).bind fun x => cond (t x) (some (.inr hit)) (some (.inl (IntKind.wrap .i64 (i + 1))))) (some (.inr e)) : Option (Int ⊕ β)))
    (fun k => (xa[k]?.map t) = some true) (fun k : Nat => (k : Int)) xa.length hit e ?_ ?_ ?_
  · refine h.trans ?_
    by_cases hh : xa.any t = true
    · rw [if_pos (any_ex.1 hh), if_pos hh]
    · rw [if_neg (fun h => hh (any_ex.2 h)), if_neg hh]
  · intro k hk hp
    simp [hk] at hp
    simp [hk, getN hk, hp, w64s hk hn]
  · intro k hk hp
    simp [hk] at hp
    simp [hk, getN hk, hp]
  · simp
/-- Two lists searched, hand in hand. -/
theorem loop_two {α γ β : Type} (xa : List α) (xb : List γ) (t : α → γ → Bool) (hit e : β) (hl : xa.length = xb.length) (hn : xa.length ≤ 9223372036854775807) :
    loop (fun (i : Int) => (cond (decide (i < ((xa.length : Nat) : Int))) ((getI xa i).bind fun x => (getI xb i).bind fun y => cond (t x y) (some (.inr hit)) (some (.inl (IntKind.wrap .i64 (i + 1))))) (some (.inr e)) : Option (Int ⊕ β))) 0 = some (if (xa.zip xb).any (fun p => t p.1 p.2) then hit else e) := by
  classical
  have hz : (xa.zip xb).length = xa.length := by simp [hl]
  have h := loop_any (body := fun (i : Int) => (cond (decide (i < ((xa.length : Nat) : Int))) ((getI xa i).bind fun x => (getI xb i).bind fun y => cond (t x y) (some (.inr hit)) (some (.inl (IntKind.wrap .i64 (i + 1))))) (some (.inr e)) : Option (Int ⊕ β)))
    (fun k => ((xa.zip xb)[k]?.map fun p => t p.1 p.2) = some true) (fun k : Nat => (k : Int)) xa.length hit e ?_ ?_ ?_
  · refine h.trans ?_
    have ha := any_ex (t := fun p : α × γ => t p.1 p.2) (l := xa.zip xb)
    rw [hz] at ha
    by_cases hh : (xa.zip xb).any (fun p => t p.1 p.2) = true
    · rw [if_pos (ha.1 hh), if_pos hh]
    · rw [if_neg (fun h => hh (ha.2 h)), if_neg hh]
  · intro k hk hp
    have hk2 : k < xb.length := by omega
    have hk3 : k < (xa.zip xb).length := by omega
    have hz3 : (xa.zip xb)[k]? = some (xa[k], xb[k]) := by rw [List.getElem?_eq_getElem hk3, List.getElem_zip]
    rw [hz3] at hp
    simp at hp
    simp [hk, getN hk, getN hk2, hp, w64s hk hn]
  · intro k hk hp
    have hk2 : k < xb.length := by omega
    have hk3 : k < (xa.zip xb).length := by omega
    have hz3 : (xa.zip xb)[k]? = some (xa[k], xb[k]) := by rw [List.getElem?_eq_getElem hk3, List.getElem_zip]
    rw [hz3] at hp
    simp at hp
    simp [hk, getN hk, getN hk2, hp]
  · simp
theorem zip_any_ne {α : Type} [DecidableEq α] {xs ys : List α} (h : xs.length = ys.length) : (xs.zip ys).any (fun p => !decide (p.1 = p.2)) = !decide (xs = ys) := by
  induction xs generalizing ys with
  | nil => cases ys with
    | nil => rfl
    | cons => cases h
  | cons x xs ih => cases ys with
    | nil => cases h
    | cons y ys =>
      simp only [List.zip_cons_cons, List.any_cons, ih (by simpa using h), List.cons.injEq]
      by_cases h1 : x = y <;> simp [h1]
/-- A list searched for a place. -/
theorem loop_idx {α γ : Type} (xa : List α) (t : α → γ → Bool) (q : γ) (hn : xa.length ≤ 9223372036854775807) :
    ∃ r, loop (fun ((i, c) : Int × γ) => (cond (decide (i < ((xa.length : Nat) : Int))) ((getI xa i).bind fun x => cond (t x c) (some (.inr (.inr (i, c)))) (some (.inl (IntKind.wrap .i64 (i + 1), c)))) (some (.inr (.inl c))) : Option ((Int × γ) ⊕ (γ ⊕ (Int × γ))))) (0, q) = some r ∧ ((r = .inl q ∧ xa.any (t · q) = false) ∨ ∃ k : Nat, r = .inr ((k : Int), q) ∧ xa.any (t · q) = true) := by
  have h := loop_find (body := fun ((i, c) : Int × γ) => (cond (decide (i < ((xa.length : Nat) : Int))) ((getI xa i).bind fun x => cond (t x c) (some (.inr (.inr (i, c)))) (some (.inl (IntKind.wrap .i64 (i + 1), c)))) (some (.inr (.inl c))) : Option ((Int × γ) ⊕ (γ ⊕ (Int × γ)))))
    (fun k => (xa[k]?.map (t · q)) = some true) (fun k : Nat => ((k : Int), q)) xa.length (fun k => .inr ((k : Int), q)) (.inl q) ?_ ?_ ?_
  · rcases h with ⟨k, h1, h2, _, h3⟩ | ⟨h1, h2⟩
    · exact ⟨_, h3, .inr ⟨k, rfl, any_ex.2 ⟨k, h1, h2⟩⟩⟩
    · refine ⟨_, h2, .inl ⟨rfl, ?_⟩⟩
      cases hh : xa.any (t · q) with
      | false => rfl
      | true => obtain ⟨k, h3, h4⟩ := any_ex.1 hh; exact absurd h4 (h1 k h3)
  · intro k hk hp
    simp [hk] at hp
    simp [hk, getN hk, hp, w64s hk hn]
  · intro k hk hp
    simp [hk] at hp
    simp [hk, getN hk, hp]
  · simp
/-- A list gone through, with something carried along. -/
theorem loop_fold {α γ : Type} (xa : List α) (f : γ → α → γ) (c0 : γ) (hn : xa.length ≤ 9223372036854775807) {body : γ × Int → Option ((γ × Int) ⊕ γ)}
    (hb : ∀ k x, xa[k]? = some x → body ((xa.take k).foldl f c0, (k : Int)) = some (.inl (f ((xa.take k).foldl f c0) x, IntKind.wrap .i64 ((k : Int) + 1)))) (he : body (xa.foldl f c0, (xa.length : Int)) = some (.inr (xa.foldl f c0))) : loop body (c0, 0) = some (xa.foldl f c0) := by
  have h := loop_nat (body := body) (fun k : Nat => ((xa.take k).foldl f c0, (k : Int))) xa.length (b := xa.foldl f c0) ?_ ?_
  · simpa using h
  · intro k hk
    rw [hb k xa[k] (by simp [hk]), w64s hk hn]
    congr 3
    rw [List.take_succ_eq_append_getElem hk, List.foldl_append]; rfl
  · simpa using he
theorem foldl_snoc {α γ : Type} (g : α → γ) (xa : List α) (c : List γ) : xa.foldl (fun c x => c ++ [g x]) c = c ++ xa.map g := by
  induction xa generalizing c with
  | nil => simp
  | cons x xa ih => simp [ih]
/-- A list built by going through another. -/
theorem loop_map {α γ : Type} (xa : List α) (g : α → γ) (c0 : List γ) (hn : c0.length + xa.length ≤ 1073741824) {body : List γ × Int → Option ((List γ × Int) ⊕ List γ)}
    (hb : ∀ (c : List γ) (i : Int), body (c, i) = cond (decide (i < ((xa.length : Nat) : Int))) ((getI xa i).bind fun x => (app c [g x]).bind fun z => some (.inl (z, IntKind.wrap .i64 (i + 1)))) (some (.inr c))) : loop body (c0, 0) = some (c0 ++ xa.map g) := by
  rw [← foldl_snoc]
  refine loop_fold xa (fun c x => c ++ [g x]) c0 (by omega) (fun k x hx => ?_) ?_
  · have hk := (List.getElem?_eq_some_iff.1 hx).1
    rw [hb, foldl_snoc]
    have hx' : xa[k] = x := by rw [List.getElem?_eq_getElem hk] at hx; exact Option.some.inj hx
    have ha := app_eq (a := c0 ++ (xa.take k).map g) (b := [g x]) (by simp; omega)
    simp only [Option.bind_some, getN hk, hx', ha, Int.ofNat_lt.2 hk, decide_true, cond_true]
  · rw [hb]; simp
end Go.Proofs.YticfjbmafkjmaaaDoor
namespace Go.Proofs.YticfjbmafkjmaaaDoor
open Go.RowKit
set_option linter.unusedVariables false
set_option linter.unusedSimpArgs false
set_option linter.unnecessarySimpa false
/-! ### Bits of a word. -/
theorem ofInt_nat (x : Nat) : BitVec.ofInt 64 (x : Int) = BitVec.ofNat 64 x := by simp
theorem wrapU (x : Nat) (h : x < 18446744073709551616) : IntKind.wrap .u64 (x : Int) = (x : Int) := by
  rw [IntKind.wrap_u64]
  omega
theorem pow_lt64 {k : Nat} (hk : k < 64) : 2 ^ k < 18446744073709551616 := Nat.pow_lt_pow_right (by decide) hk
theorem one_pow {k : Nat} (hk : k < 64) : IntKind.wrap .u64 (1 * 2 ^ (min k (IntKind.bits .u64))) = ((2 ^ k : Nat) : Int) := by
  have h1 : min k (IntKind.bits .u64) = k := Nat.min_eq_left (Nat.le_of_lt hk)
  rw [h1, Int.one_mul]
  have := wrapU (2 ^ k) (pow_lt64 hk)
  rw [← this]
  congr 1
theorem andU (x y : Nat) (hx : x < 18446744073709551616) (hy : y < 18446744073709551616) : IntKind.wrap .u64 ((BitVec.ofInt (IntKind.bits .u64) (x : Int) &&& BitVec.ofInt (IntKind.bits .u64) (y : Int)).toNat : Int) = ((x &&& y : Nat) : Int) := by
  show IntKind.wrap .u64 ((BitVec.ofInt 64 (x : Int) &&& BitVec.ofInt 64 (y : Int)).toNat : Int) = _
  rw [ofInt_nat, ofInt_nat, BitVec.toNat_and, BitVec.toNat_ofNat, BitVec.toNat_ofNat, Nat.mod_eq_of_lt hx, Nat.mod_eq_of_lt hy]
  exact wrapU _ (Nat.and_lt_two_pow (n := 64) _ hy)
theorem orU (x y : Nat) (hx : x < 18446744073709551616) (hy : y < 18446744073709551616) : IntKind.wrap .u64 ((BitVec.ofInt (IntKind.bits .u64) (x : Int) ||| BitVec.ofInt (IntKind.bits .u64) (y : Int)).toNat : Int) = ((x ||| y : Nat) : Int) := by
  show IntKind.wrap .u64 ((BitVec.ofInt 64 (x : Int) ||| BitVec.ofInt 64 (y : Int)).toNat : Int) = _
  rw [ofInt_nat, ofInt_nat, BitVec.toNat_or, BitVec.toNat_ofNat, BitVec.toNat_ofNat, Nat.mod_eq_of_lt hx, Nat.mod_eq_of_lt hy]
  exact wrapU _ (Nat.or_lt_two_pow (n := 64) hx hy)
/-- One bit, looked at. -/
theorem and_bit (x k : Nat) : (x &&& 2 ^ k = 0) ↔ x.testBit k = false := by
  constructor
  · intro h
    have := congrArg (fun n => n.testBit k) h
    simpa [Nat.testBit_and, Nat.testBit_two_pow_self] using this
  · intro h
    apply Nat.eq_of_testBit_eq
    intro i
    rw [Nat.testBit_and, Nat.testBit_two_pow, Nat.zero_testBit]
    by_cases hi : k = i
    · subst hi; simp [h]
    · simp [hi]
theorem or_bit (x k i : Nat) : (x ||| 2 ^ k).testBit i = (x.testBit i || decide (k = i)) := by
  rw [Nat.testBit_or, Nat.testBit_two_pow]
/-- A word of a set. -/
def Wd (w : Int) : Prop := 0 ≤ w ∧ w < 18446744073709551616
/-- Is it a member? -/
def mem (l : List Int) (i : Nat) : Bool := match l[i / 64]? with | some w => w.toNat.testBit (i % 64) | none => false
/-- A set of size n in words. -/
structure Ds (n : Nat) (l : List Int) : Prop where
  hn : n ≤ 1048576
  len : l.length = (n + 63) / 64
  wd : ∀ w ∈ l, Wd w
  top : ∀ i, n ≤ i → mem l i = false
theorem mayHave_some {n : Nat} {l : List Int} (i : Int) : fn_dense_Set_mayHave (some ((n : Int), l)) i = some (decide (0 ≤ i ∧ i < n)) := by
  unfold fn_dense_Set_mayHave
  rw [show fn_dense_Set_Size (some ((n : Int), l)) = some (n : Int) from rfl]
  by_cases h : 0 ≤ i
  · simp [h]
  · simp [h]
theorem Ds.word {n : Nat} {l : List Int} (h : Ds n l) {k : Nat} (hk : k < n) : ∃ x : Nat, l[k / 64]? = some (x : Int) ∧ x < 18446744073709551616 := by
  have hl : k / 64 < l.length := by rw [h.len]; omega
  refine ⟨(l[k / 64]).toNat, ?_, ?_⟩
  · rw [List.getElem?_eq_getElem hl, Int.toNat_of_nonneg (h.wd _ (List.getElem_mem hl)).1]
  · have := h.wd _ (List.getElem_mem hl)
    unfold Wd at this
    omega
theorem mem_of {l : List Int} {k x : Nat} (h : l[k / 64]? = some (x : Int)) : mem l k = x.testBit (k % 64) := by
  unfold mem
  rw [h]
  simp
/-- Has. -/
theorem Has_some {n : Nat} {l : List Int} (h : Ds n l) (i : Int) : fn_dense_Set_Has (some ((n : Int), l)) i = some (decide (0 ≤ i ∧ i < n) && mem l i.toNat) := by
  unfold fn_dense_Set_Has
  rw [mayHave_some]
  by_cases hi : 0 ≤ i ∧ i < n
  · obtain ⟨k, rfl⟩ := Int.eq_ofNat_of_zero_le hi.1
    have hk : k < n := by omega
    have hn := h.hn
    obtain ⟨x, hx, hx2⟩ := h.word hk
    have e1 : IntKind.wrap .i64 (Int.tdiv (k : Int) 64) = ((k / 64 : Nat) : Int) := by
      rw [show Int.tdiv (k : Int) 64 = ((k / 64 : Nat) : Int) from rfl]
      exact w64 (by omega) (by omega)
    have e2 : Int.tmod (k : Int) 64 = ((k % 64 : Nat) : Int) := rfl
    have g : getI l ((k / 64 : Nat) : Int) = some (x : Int) := by
      unfold getI
      rw [if_pos (Int.natCast_nonneg _), Int.toNat_natCast]
      exact hx
    have hd : decide (0 ≤ (k : Int) ∧ (k : Int) < n) = true := by simpa using hk
    rw [hd, e1, e2]
    simp only [Option.bind_some, cond_true, g, ge0_eq (Int.natCast_nonneg _), Int.toNat_natCast, Bool.true_and]
    have E : IntKind.wrap .u64 ((BitVec.ofInt (IntKind.bits .u64) (x : Int) &&& BitVec.ofInt (IntKind.bits .u64) (IntKind.wrap .u64 (1 * 2 ^ (min (k % 64) (IntKind.bits .u64))))).toNat : Int) = ((x &&& 2 ^ (k % 64) : Nat) : Int) := by
      rw [one_pow (Nat.mod_lt k (by decide))]
      exact andU x _ hx2 (pow_lt64 (Nat.mod_lt k (by decide)))
    simp only [E, mem_of hx]
    have hb := and_bit x (k % 64)
    cases ht : x.testBit (k % 64) with
    | false => simp [hb.2 ht]
    | true =>
      have : ¬ (x &&& 2 ^ (k % 64) = 0) := fun e => by rw [hb.1 e] at ht; cases ht
      have h2 : ¬ (((x &&& 2 ^ (k % 64) : Nat) : Int) = 0) := by omega
      rw [decide_eq_false h2]
      rfl
  · rw [decide_eq_false hi]
    rfl
theorem mem_set {l : List Int} {q x y : Nat} (hq : l[q]? = some (x : Int)) (j : Nat) : mem (l.set q (y : Int)) j = if j / 64 = q then y.testBit (j % 64) else mem l j := by
  unfold mem
  rw [List.getElem?_set]
  have hlt : q < l.length := (List.getElem?_eq_some_iff.1 hq).1
  by_cases hj : j / 64 = q
  · rw [if_pos hj.symm, if_pos hj, ← hj] 
    simp [hj, hlt]
  · rw [if_neg (fun e => hj e.symm), if_neg hj]
/-- Add. -/
theorem Add_some {n : Nat} {l : List Int} (h : Ds n l) (i : Int) : ∃ l', fn_dense_Set_Add_p0i_ir i n l = some (decide (0 ≤ i ∧ i < n) && !mem l i.toNat, l') ∧ Ds n l' ∧ ∀ j, mem l' j = (mem l j || decide ((0 ≤ i ∧ i < n) ∧ i.toNat = j)) := by
  unfold fn_dense_Set_Add_p0i_ir
  rw [mayHave_some, Has_some h]
  by_cases hi : 0 ≤ i ∧ i < n
  · rw [decide_eq_true hi]
    cases hm : mem l i.toNat with
    | true => exact ⟨l, rfl, h, fun j => by
        by_cases hj : i.toNat = j
        · subst hj; simp [hm]
        · simp [hj]⟩
    | false =>
      obtain ⟨k, rfl⟩ := Int.eq_ofNat_of_zero_le hi.1
      have hk : k < n := by omega
      have hn := h.hn
      obtain ⟨x, hx, hx2⟩ := h.word hk
      have e1 : IntKind.wrap .i64 (Int.tdiv (k : Int) 64) = ((k / 64 : Nat) : Int) := by
        rw [show Int.tdiv (k : Int) 64 = ((k / 64 : Nat) : Int) from rfl]
        exact w64 (by omega) (by omega)
      have e2 : Int.tmod (k : Int) 64 = ((k % 64 : Nat) : Int) := rfl
      have g : getI l ((k / 64 : Nat) : Int) = some (x : Int) := by
        unfold getI
        rw [if_pos (Int.natCast_nonneg _), Int.toNat_natCast]
        exact hx
      have E : IntKind.wrap .u64 ((BitVec.ofInt (IntKind.bits .u64) (x : Int) ||| BitVec.ofInt (IntKind.bits .u64) (IntKind.wrap .u64 (1 * 2 ^ (min (k % 64) (IntKind.bits .u64))))).toNat : Int) = ((x ||| 2 ^ (k % 64) : Nat) : Int) := by
        rw [one_pow (Nat.mod_lt k (by decide))]
        exact orU x _ hx2 (pow_lt64 (Nat.mod_lt k (by decide)))
      have hlt : k / 64 < l.length := (List.getElem?_eq_some_iff.1 hx).1
      have hmem : ∀ j, mem (l.set (k / 64) ((x ||| 2 ^ (k % 64) : Nat) : Int)) j = (mem l j || decide (((0 : Int) ≤ (k : Int) ∧ (k : Int) < n) ∧ k = j)) := fun j => by
        rw [mem_set hx]
        by_cases hj : j / 64 = k / 64
        · rw [if_pos hj, or_bit, mem_of (by rw [hj]; exact hx)]
          have : (k % 64 = j % 64) ↔ k = j := by omega
          simp [this, hk]
        · rw [if_neg hj]
          have : ¬ k = j := fun e => hj (by rw [e])
          simp [this]
      refine ⟨l.set (k / 64) ((x ||| 2 ^ (k % 64) : Nat) : Int), ?_, ⟨hn, by rw [List.length_set]; exact h.len, fun w hw => ?_, fun j hj => ?_⟩, hmem⟩
      · rw [e1, e2]
        simp only [Option.bind_some, cond_true, cond_false, g, ge0_eq (Int.natCast_nonneg _), Int.toNat_natCast, Bool.true_and, Bool.not_true, Bool.not_false, E]
      · rcases List.mem_or_eq_of_mem_set hw with hw | rfl
        · exact h.wd w hw
        · have := Nat.or_lt_two_pow (n := 64) hx2 (pow_lt64 (Nat.mod_lt k (by decide)))
          unfold Wd
          omega
      · rw [hmem, h.top j hj]
        have : ¬ k = j := by omega
        simp [this]
  · rw [decide_eq_false hi]
    exact ⟨l, rfl, h, fun j => by simp [hi]⟩
/-- Bits from r on. -/
theorem from_bit (x r j : Nat) : (x / 2 ^ r * 2 ^ r).testBit j = (decide (r ≤ j) && x.testBit j) := by
  rw [Nat.testBit_mul_two_pow]
  by_cases h : r ≤ j
  · rw [Nat.testBit_div_two_pow, Nat.sub_add_cancel h]
  · simp [h]
theorem from_word (x r : Nat) (hx : x < 18446744073709551616) (hr : r < 64) : IntKind.wrap .u64 ((Int.fdiv (x : Int) (2 ^ (min r (IntKind.bits .u64)))) * 2 ^ (min r (IntKind.bits .u64))) = ((x / 2 ^ r * 2 ^ r : Nat) : Int) := by
  have h1 : min r (IntKind.bits .u64) = r := Nat.min_eq_left (Nat.le_of_lt hr)
  have hp : ((2 : Int) ^ r) = ((2 ^ r : Nat) : Int) := by simp
  have h2 : Int.fdiv (x : Int) ((2 ^ r : Nat) : Int) = ((x / 2 ^ r : Nat) : Int) := by
    rw [Int.fdiv_eq_ediv_of_nonneg _ (Int.natCast_nonneg _)]
    rfl
  rw [h1, hp, h2, ← Int.natCast_mul]
  exact wrapU _ (Nat.lt_of_le_of_lt (Nat.div_mul_le_self x (2 ^ r)) hx)
/-- The least bit of a word. -/
theorem ctz_bit {x : Nat} (h0 : x ≠ 0) (h : x < 18446744073709551616) : Lib.ctz 64 x < 64 ∧ x.testBit (Lib.ctz 64 x) = true ∧ ∀ j, j < Lib.ctz 64 x → x.testBit j = false := by
  have h' : x < 2 ^ 64 := h
  obtain ⟨m, hm, hk⟩ := Lib.ctzFrom_spec 64 x (by omega) h'
  have e : Lib.ctz 64 x = Lib.ctzFrom 64 x := by simp [Lib.ctz, h0]
  rw [e]
  clear e
  revert hm hk
  generalize Lib.ctzFrom 64 x = c
  intro hm hk
  refine ⟨hk, ?_, fun j hj => ?_⟩
  · rw [hm, Nat.mul_comm, Nat.testBit_mul_two_pow]
    simp
  · rw [hm, Nat.mul_comm, Nat.testBit_mul_two_pow]
    simp [Nat.not_le.2 hj]
/-- One bit, taken away. -/
theorem andn_bit (x k : Nat) (hx : x < 18446744073709551616) (hk : k < 64) : ∃ y : Nat, IntKind.wrap .u64 ((BitVec.ofInt (IntKind.bits .u64) (x : Int) &&& ~~~BitVec.ofInt (IntKind.bits .u64) (IntKind.wrap .u64 (1 * 2 ^ (min k (IntKind.bits .u64))))).toNat : Int) = (y : Int) ∧ y < 18446744073709551616 ∧ ∀ j, y.testBit j = (x.testBit j && !decide (k = j)) := by
  rw [one_pow hk]
  refine ⟨(BitVec.ofNat 64 x &&& ~~~BitVec.ofNat 64 (2 ^ k)).toNat, ?_, BitVec.isLt _, fun j => ?_⟩
  · show IntKind.wrap .u64 ((BitVec.ofInt 64 (x : Int) &&& ~~~BitVec.ofInt 64 ((2 ^ k : Nat) : Int)).toNat : Int) = _
    rw [ofInt_nat, ofInt_nat]
    exact wrapU _ (BitVec.isLt _)
  · rw [BitVec.testBit_toNat, BitVec.getLsbD_and, BitVec.getLsbD_not, BitVec.getLsbD_ofNat, BitVec.getLsbD_ofNat, Nat.testBit_two_pow]
    by_cases hj : j < 64
    · simp [hj]
    · have : x.testBit j = false := Nat.testBit_lt_two_pow (Nat.lt_of_lt_of_le hx (show 2 ^ 64 ≤ 2 ^ j from Nat.pow_le_pow_right (by decide) (by omega)))
      simp [hj, this]
/-- Del. -/
theorem Del_some {n : Nat} {l : List Int} (h : Ds n l) (i : Int) : ∃ l', fn_dense_Set_Del_p0i_ir i n l = some (decide (0 ≤ i ∧ i < n) && mem l i.toNat, l') ∧ Ds n l' ∧ ∀ j, mem l' j = (mem l j && !decide ((0 ≤ i ∧ i < n) ∧ i.toNat = j)) := by
  unfold fn_dense_Set_Del_p0i_ir
  rw [Has_some h]
  by_cases hi : 0 ≤ i ∧ i < n
  · rw [decide_eq_true hi]
    cases hm : mem l i.toNat with
    | false => exact ⟨l, rfl, h, fun j => by
        by_cases hj : i.toNat = j
        · subst hj; simp [hm]
        · simp [hj]⟩
    | true =>
      obtain ⟨k, rfl⟩ := Int.eq_ofNat_of_zero_le hi.1
      have hk : k < n := by omega
      have hn := h.hn
      obtain ⟨x, hx, hx2⟩ := h.word hk
      have e1 : IntKind.wrap .i64 (Int.tdiv (k : Int) 64) = ((k / 64 : Nat) : Int) := by
        rw [show Int.tdiv (k : Int) 64 = ((k / 64 : Nat) : Int) from rfl]
        exact w64 (by omega) (by omega)
      have e2 : Int.tmod (k : Int) 64 = ((k % 64 : Nat) : Int) := rfl
      have g : getI l ((k / 64 : Nat) : Int) = some (x : Int) := by
        unfold getI
        rw [if_pos (Int.natCast_nonneg _), Int.toNat_natCast]
        exact hx
      obtain ⟨y, E, hy, hb⟩ := andn_bit x (k % 64) hx2 (Nat.mod_lt k (by decide))
      have hmem : ∀ j, mem (l.set (k / 64) (y : Int)) j = (mem l j && !decide (((0 : Int) ≤ (k : Int) ∧ (k : Int) < n) ∧ k = j)) := fun j => by
        rw [mem_set hx]
        by_cases hj : j / 64 = k / 64
        · rw [if_pos hj, hb, mem_of (by rw [hj]; exact hx)]
          have : (k % 64 = j % 64) ↔ k = j := by omega
          simp [this, hk]
        · rw [if_neg hj]
          have : ¬ k = j := fun e => hj (by rw [e])
          simp [this]
      refine ⟨l.set (k / 64) (y : Int), ?_, ⟨hn, by rw [List.length_set]; exact h.len, fun w hw => ?_, fun j hj => ?_⟩, hmem⟩
      · rw [e1, e2]
        simp only [Option.bind_some, cond_true, cond_false, g, ge0_eq (Int.natCast_nonneg _), Int.toNat_natCast, Bool.true_and, Bool.not_true, Bool.not_false, E]
      · rcases List.mem_or_eq_of_mem_set hw with hw | rfl
        · exact h.wd w hw
        · unfold Wd
          omega
      · rw [hmem, h.top j hj]
        rfl
  · rw [decide_eq_false hi]
    exact ⟨l, rfl, h, fun j => by simp [hi]⟩
/-- The first word that holds a bit, from one on. -/
theorem Next_loop {n : Int} {l : List Int} (hw : ∀ w ∈ l, Wd w) (hlen : l.length ≤ 20000) : ∀ (d a w : Nat), a + 1 + d = l.length → w < 18446744073709551616 →
    ∃ r, loop (fn_dense_Set_Next_l1 (n, l)) ((a : Int), (w : Int)) = some r ∧ ((r = .inr (-1) ∧ w = 0 ∧ ∀ q, a < q → q < l.length → l[q]? = some 0) ∨
      ∃ b v : Nat, r = .inl ((b : Int), (v : Int)) ∧ v ≠ 0 ∧ v < 18446744073709551616 ∧ a ≤ b ∧ b < l.length ∧ ((b = a ∧ v = w) ∨ (a < b ∧ w = 0 ∧ l[b]? = some (v : Int))) ∧ ∀ q, a < q → q < b → l[q]? = some 0) := by
  intro d
  induction d with
  | zero =>
    intro a w ha hx
    by_cases h0 : w = 0
    · subst h0
      refine ⟨.inr (-1), loop_end ?_, .inl ⟨rfl, rfl, fun q h1 h2 => by omega⟩⟩
      have e : IntKind.wrap .i64 ((a : Int) + 1) = ((l.length : Nat) : Int) := by rw [w64 (by omega) (by omega)]; omega
      unfold fn_dense_Set_Next_l1
      simp [e]
    · refine ⟨.inl ((a : Int), (w : Int)), loop_end ?_, .inr ⟨a, w, rfl, h0, hx, Nat.le_refl a, by omega, .inl ⟨rfl, rfl⟩, fun q h1 h2 => by omega⟩⟩
      have h1 : ¬ ((w : Int) = 0) := by omega
      unfold fn_dense_Set_Next_l1
      simp [h1, h0]
  | succ d ih =>
    intro a w ha hx
    by_cases h0 : w = 0
    · subst h0
      have hlt : a + 1 < l.length := by omega
      have hwd := hw _ (List.getElem_mem hlt)
      obtain ⟨x, hxe⟩ : ∃ x : Nat, l[a + 1] = (x : Int) := ⟨l[a + 1].toNat, (Int.toNat_of_nonneg hwd.1).symm⟩
      have hx2 : x < 18446744073709551616 := by have := hwd.2; rw [hxe] at this; omega
      have hq : l[a + 1]? = some (x : Int) := by rw [List.getElem?_eq_getElem hlt, hxe]
      obtain ⟨r, h1, h2⟩ := ih (a + 1) x (by omega) hx2
      have e : IntKind.wrap .i64 ((a : Int) + 1) = ((a + 1 : Nat) : Int) := by rw [w64 (by omega) (by omega)]; rfl
      have hne : ¬ (((a + 1 : Nat) : Int) = ((l.length : Nat) : Int)) := by omega
      have hg : getI l ((a + 1 : Nat) : Int) = some (x : Int) := by
        unfold getI
        rw [if_pos (Int.natCast_nonneg _), Int.toNat_natCast]
        exact hq
      refine ⟨r, (loop_next (s' := (((a + 1 : Nat) : Int), (x : Int))) ?_).trans h1, ?_⟩
      · unfold fn_dense_Set_Next_l1
        simp only [e, hg, Option.bind_some, decide_eq_false hne, cond_false]
        rfl
      · rcases h2 with ⟨h3, h4, h5⟩ | ⟨b, v, h3, h4, h5, h6, h7, h8, h9⟩
        · refine .inl ⟨h3, rfl, fun q g1 g2 => ?_⟩
          by_cases hqa : q = a + 1
          · subst hqa; rw [hq, h4]; rfl
          · exact h5 q (by omega) g2
        · refine .inr ⟨b, v, h3, h4, h5, by omega, h7, .inr ?_, fun q g1 g2 => ?_⟩
          · rcases h8 with ⟨rfl, rfl⟩ | ⟨g1, g2, g3⟩
            · exact ⟨by omega, rfl, hq⟩
            · exact ⟨by omega, rfl, g3⟩
          · by_cases hqa : q = a + 1
            · subst hqa
              rcases h8 with ⟨rfl, rfl⟩ | ⟨k1, k2, k3⟩
              · omega
              · rw [hq, k2]; rfl
            · exact h9 q (by omega) g2
    · refine ⟨.inl ((a : Int), (w : Int)), loop_end ?_, .inr ⟨a, w, rfl, h0, hx, Nat.le_refl a, by omega, .inl ⟨rfl, rfl⟩, fun q h1 h2 => by omega⟩⟩
      have h1 : ¬ ((w : Int) = 0) := by omega
      unfold fn_dense_Set_Next_l1
      simp [h1, h0]
theorem mem_zero {l : List Int} {j : Nat} (h : ∀ w, l[j / 64]? = some w → w = 0) : mem l j = false := by
  unfold mem
  cases hl : l[j / 64]? with
  | none => rfl
  | some w => rw [h w hl]; simp
/-- Next: the least member from a number on. -/
theorem Next_some {n : Nat} {l : List Int} (h : Ds n l) (i : Int) : ∃ r, fn_dense_Set_Next (some ((n : Int), l)) i = some r ∧ ((r = -1 ∧ ∀ j : Nat, i ≤ (j : Int) → mem l j = false) ∨
    ∃ k : Nat, r = (k : Int) ∧ i ≤ (k : Int) ∧ mem l k = true ∧ ∀ j : Nat, i ≤ (j : Int) → j < k → mem l j = false) := by
  obtain ⟨c, hc⟩ : ∃ c : Nat, (if i < 0 then 0 else i) = (c : Int) := ⟨(if i < 0 then 0 else i).toNat, by split <;> omega⟩
  have hci : ∀ j : Nat, i ≤ (j : Int) ↔ c ≤ j := fun j => by split at hc <;> omega
  have hn := h.hn
  have hl := h.len
  unfold fn_dense_Set_Next
  simp only [hc, mayHave_some, Option.bind_some]
  by_cases hk : c < n
  · have hd : decide (0 ≤ (c : Int) ∧ (c : Int) < n) = true := by simpa using hk
    obtain ⟨x, hx, hx2⟩ := h.word hk
    have e1 : IntKind.wrap .i64 (Int.tdiv (c : Int) 64) = ((c / 64 : Nat) : Int) := by
      rw [show Int.tdiv (c : Int) 64 = ((c / 64 : Nat) : Int) from rfl]
      exact w64 (by omega) (by omega)
    have e2 : Int.tmod (c : Int) 64 = ((c % 64 : Nat) : Int) := rfl
    have g : getI l ((c / 64 : Nat) : Int) = some (x : Int) := by
      unfold getI
      rw [if_pos (Int.natCast_nonneg _), Int.toNat_natCast]
      exact hx
    have hr : c % 64 < 64 := Nat.mod_lt c (by decide)
    have hw2 : x / 2 ^ (c % 64) * 2 ^ (c % 64) < 18446744073709551616 := Nat.lt_of_le_of_lt (Nat.div_mul_le_self x _) hx2
    obtain ⟨r, hlp, hcase⟩ := Next_loop (n := (n : Int)) h.wd (by omega) (l.length - 1 - c / 64) (c / 64) _ (by omega) hw2
    simp only [hd, Bool.not_true, cond_false, e1, e2, g, Option.bind_some, ge0_eq (Int.natCast_nonneg _), Int.toNat_natCast, from_word x _ hx2 hr, hlp]
    rcases hcase with ⟨rfl, h4, h5⟩ | ⟨b, v, rfl, h4, h5, h6, h7, h8, h9⟩
    · refine ⟨-1, rfl, .inl ⟨rfl, fun j hj => ?_⟩⟩
      have hj := (hci j).1 hj
      by_cases hja : j / 64 = c / 64
      · rw [mem_of (by rw [hja]; exact hx)]
        have := from_bit x (c % 64) (j % 64)
        rw [h4, Nat.zero_testBit] at this
        have hle : c % 64 ≤ j % 64 := by omega
        simpa [hle] using this.symm
      · refine mem_zero (fun w hw => ?_)
        have hlt := (List.getElem?_eq_some_iff.1 hw).1
        rw [h5 (j / 64) (by omega) hlt] at hw
        exact (Option.some.inj hw).symm
    · obtain ⟨t1, t2, t3⟩ := ctz_bit h4 h5
      have ht : tzF (v : Int) = some ((Lib.ctz 64 v : Nat) : Int) := by
        unfold tzF
        rw [if_pos ⟨Int.natCast_nonneg _, by omega⟩, Int.toNat_natCast]
      have e3 : IntKind.wrap .i64 (IntKind.wrap .i64 ((b : Int) * 64) + ((Lib.ctz 64 v : Nat) : Int)) = ((b * 64 + Lib.ctz 64 v : Nat) : Int) := by
        rw [w64 (x := (b : Int) * 64) (by omega) (by omega), w64 (by omega) (by omega)]
        omega
      refine ⟨((b * 64 + Lib.ctz 64 v : Nat) : Int), by simp only [ht, Option.bind_some, e3], .inr ⟨_, rfl, ?_⟩⟩
      generalize Lib.ctz 64 v = z at t1 t2 t3
      have d1 : (b * 64 + z) / 64 = b := by omega
      have d2 : (b * 64 + z) % 64 = z := by omega
      rcases h8 with ⟨rfl, rfl⟩ | ⟨g1, g2, g3⟩
      · rw [from_bit, Bool.and_eq_true] at t2
        have hz : c % 64 ≤ z := by simpa using t2.1
        refine ⟨(hci _).2 (by omega), ?_, fun j hj hjk => ?_⟩
        · rw [mem_of (x := x) (by rw [d1]; exact hx), d2]
          exact t2.2
        · have hj := (hci j).1 hj
          have := t3 (j % 64) (by omega)
          rw [from_bit] at this
          rw [mem_of (by rw [show j / 64 = c / 64 by omega]; exact hx)]
          have hle : c % 64 ≤ j % 64 := by omega
          simpa [hle] using this
      · refine ⟨(hci _).2 (by omega), ?_, fun j hj hjk => ?_⟩
        · rw [mem_of (x := v) (by rw [d1]; exact g3), d2]
          exact t2
        · have hj := (hci j).1 hj
          by_cases hja : j / 64 = c / 64
          · rw [mem_of (by rw [hja]; exact hx)]
            have := from_bit x (c % 64) (j % 64)
            rw [g2, Nat.zero_testBit] at this
            have hle : c % 64 ≤ j % 64 := by omega
            simpa [hle] using this.symm
          · by_cases hjb : j / 64 = b
            · rw [mem_of (by rw [hjb]; exact g3)]
              exact t3 _ (by omega)
            · exact mem_zero (fun w hw => by
                rw [h9 (j / 64) (by omega) (by omega)] at hw
                exact (Option.some.inj hw).symm)
  · have hd : decide (0 ≤ (c : Int) ∧ (c : Int) < n) = false := by simpa using hk
    simp only [hd, Bool.not_false, cond_true]
    exact ⟨-1, rfl, .inl ⟨rfl, fun j hj => h.top j (by have := (hci j).1 hj; omega)⟩⟩
theorem mem_rep (m j : Nat) : mem (List.replicate m 0) j = false := mem_zero (fun w hw => by
  rw [List.getElem?_replicate] at hw
  split at hw
  · exact (Option.some.inj hw).symm
  · cases hw)
theorem Ds_new {n : Nat} (h : n ≤ 1048576) : Ds n (List.replicate ((n + 63) / 64) 0) :=
  ⟨h, List.length_replicate, fun w hw => by
    obtain ⟨_, rfl⟩ := List.mem_replicate.1 hw
    exact ⟨Int.le_refl _, by decide⟩, fun j _ => mem_rep _ j⟩
/-- New. -/
theorem New_some (n : Int) : fn_dense_New n = if n < 0 then some (.inl 2) else if 1048576 < n then some (.inl 5) else some (.inr (0, List.replicate ((n.toNat + 63) / 64) 0)) := by
  unfold fn_dense_New
  by_cases h1 : n < 0
  · simp [h1]
  · by_cases h2 : 1048576 < n
    · simp [h1, h2]
    · obtain ⟨k, rfl⟩ := Int.eq_ofNat_of_zero_le (by omega : 0 ≤ n)
      have e : IntKind.wrap .i64 (Int.tdiv (IntKind.wrap .i64 (IntKind.wrap .i64 ((k : Int) + 64) - 1)) 64) = (((k + 63) / 64 : Nat) : Int) := by
        rw [w64 (x := (k : Int) + 64) (by omega) (by omega), w64 (x := (k : Int) + 64 - 1) (by omega) (by omega), show (k : Int) + 64 - 1 = ((k + 63 : Nat) : Int) by omega]
        rw [show Int.tdiv ((k + 63 : Nat) : Int) 64 = (((k + 63) / 64 : Nat) : Int) from rfl]
        exact w64 (by omega) (by omega)
      rw [e]
      have hm : (mk ((((k + 63) / 64 : Nat) : Int)) ((((k + 63) / 64 : Nat) : Int)) (0 : Int)) = some (List.replicate ((k + 63) / 64) 0) := by
        unfold mk
        rw [if_pos (by constructor <;> omega), Int.toNat_natCast]
      rw [hm]
      simp [h1, h2]
/-! ### The members, rising. -/
def mems (n : Nat) (l : List Int) : List Nat := (List.range n).filter (mem l)
def liN (L : List Nat) : List Int := L.map Int.ofNat
theorem filter_gap {p : Nat → Bool} {c : Nat} : ∀ (d : Nat), (∀ j, c ≤ j → j < c + d → p j = false) → (List.range (c + d)).filter p = (List.range c).filter p
  | 0, _ => rfl
  | d + 1, h => by
    rw [← Nat.add_assoc, List.range_succ, List.filter_append, filter_gap d (fun j h1 h2 => h j h1 (by omega))]
    simp [h (c + d) (by omega) (by omega)]
theorem filter_len (p : Nat → Bool) (c : Nat) : ((List.range c).filter p).length ≤ c := by
  have := List.length_filter_le p (List.range c)
  simpa using this
/-- List. -/
theorem List_some {n : Nat} {l : List Int} (h : Ds n l) : fn_dense_Set_List_p0_ir n l = some (liN (mems n l), l) := by
  have hn := h.hn
  have lt_of : ∀ k, mem l k = true → k < n := fun k hk => by
    rcases Nat.lt_or_ge k n with h1 | h1
    · exact h1
    · rw [h.top k h1] at hk; cases hk
  have key : ∀ (r : Int) (acc : List Int), (∃ c : Nat, c ≤ n ∧ acc = liN ((List.range c).filter (mem l)) ∧ ((r = -1 ∧ ∀ j : Nat, (c : Int) ≤ (j : Int) → mem l j = false) ∨ ∃ k : Nat, r = (k : Int) ∧ (c : Int) ≤ (k : Int) ∧ mem l k = true ∧ ∀ j : Nat, (c : Int) ≤ (j : Int) → j < k → mem l j = false)) →
      loop (fn_dense_Set_List_p0_ir_l1 n l) (r, acc) = some (liN (mems n l)) := by
    intro r acc hI
    refine loop_val (fun s => ∃ c : Nat, c ≤ n ∧ s.2 = liN ((List.range c).filter (mem l)) ∧ ((s.1 = -1 ∧ ∀ j : Nat, (c : Int) ≤ (j : Int) → mem l j = false) ∨ ∃ k : Nat, s.1 = (k : Int) ∧ (c : Int) ≤ (k : Int) ∧ mem l k = true ∧ ∀ j : Nat, (c : Int) ≤ (j : Int) → j < k → mem l j = false)) (fun s => if s.1 < 0 then 0 else n + 1 - s.1.toNat) ?_ (s := (r, acc)) hI
    rintro ⟨r, acc⟩ ⟨c, hcn, rfl, hr⟩
    rcases hr with ⟨rfl, h2⟩ | ⟨k, rfl, h2, h3, h4⟩
    · right
      have e : mems n l = (List.range c).filter (mem l) := by
        unfold mems
        have := filter_gap (p := mem l) (c := c) (n - c) (fun j h1 _ => h2 j (by omega))
        rw [show c + (n - c) = n by omega] at this
        exact this
      rw [e]
      rfl
    · left
      have hk := lt_of k h3
      obtain ⟨r', g1, g2⟩ := Next_some h (((k + 1 : Nat) : Int))
      have e1 : IntKind.wrap .i64 ((k : Int) + 1) = ((k + 1 : Nat) : Int) := by rw [w64 (by omega) (by omega)]; rfl
      have e2 : (List.range (k + 1)).filter (mem l) = (List.range c).filter (mem l) ++ [k] := by
        have := filter_gap (p := mem l) (c := c) (k - c) (fun j h5 h6 => h4 j (by omega) (by omega))
        rw [show c + (k - c) = k by omega] at this
        rw [List.range_succ, List.filter_append, this]
        simp [h3]
      have e3 : app (liN ((List.range c).filter (mem l))) [(k : Int)] = some (liN ((List.range (k + 1)).filter (mem l))) := by
        have := filter_len (mem l) c
        unfold app
        rw [if_pos (by simp [liN]; omega), e2]
        simp [liN]
      refine ⟨(r', liN ((List.range (k + 1)).filter (mem l))), ?_, ⟨k + 1, by omega, rfl, g2⟩, ?_⟩
      · unfold fn_dense_Set_List_p0_ir_l1
        have h0 : decide (0 ≤ (k : Int)) = true := by simp
        simp only [h0, cond_true, e3, e1, g1, Option.bind_some]
      · show (if r' < 0 then 0 else n + 1 - r'.toNat) < (if (k : Int) < 0 then 0 else n + 1 - (k : Int).toNat)
        rw [if_neg (by omega : ¬ (k : Int) < 0), Int.toNat_natCast]
        rcases g2 with ⟨rfl, _⟩ | ⟨k', rfl, k1, k2, _⟩
        · simp; omega
        · rw [if_neg (by omega : ¬ (k' : Int) < 0), Int.toNat_natCast]
          have := lt_of k' k2
          omega
  obtain ⟨r, g1, g2⟩ := Next_some h 0
  unfold fn_dense_Set_List_p0_ir
  rw [show fn_dense_Set_All_p0_ir n l = some l from rfl]
  simp only [Option.bind_some, g1]
  rw [key r [] ⟨0, Nat.zero_le n, rfl, g2⟩]
  rfl
theorem Has_nat {n : Nat} {l : List Int} (h : Ds n l) (k : Nat) : fn_dense_Set_Has (some ((n : Int), l)) (k : Int) = some (mem l k) := by
  rw [Has_some h, Int.toNat_natCast]
  cases hm : mem l k with
  | false => simp
  | true =>
    have : k < n := by
      rcases Nat.lt_or_ge k n with h1 | h1
      · exact h1
      · rw [h.top k h1] at hm; cases hm
    simp [this]
/-- Within. -/
theorem Within_some {n m : Nat} {l l' : List Int} (h : Ds n l) (h' : Ds m l') : fn_dense_Within (some ((n : Int), l)) (some ((m : Int), l')) = some ((mems n l).all (mem l')) := by
  have hn := h.hn
  have lt_of : ∀ k, mem l k = true → k < n := fun k hk => by
    rcases Nat.lt_or_ge k n with h1 | h1
    · exact h1
    · rw [h.top k h1] at hk; cases hk
  have hmu : ∀ (k : Nat) (r' : Int), mem l k = true → ((r' = -1 ∧ ∀ j : Nat, ((k + 1 : Nat) : Int) ≤ (j : Int) → mem l j = false) ∨ ∃ k' : Nat, r' = (k' : Int) ∧ ((k + 1 : Nat) : Int) ≤ (k' : Int) ∧ mem l k' = true ∧ ∀ j : Nat, ((k + 1 : Nat) : Int) ≤ (j : Int) → j < k' → mem l j = false) →
      (if r' < 0 then 0 else n + 1 - r'.toNat) < (if (k : Int) < 0 then 0 else n + 1 - (k : Int).toNat) := fun k r' h3 g2 => by
    have hk := lt_of k h3
    rw [if_neg (by omega : ¬ (k : Int) < 0), Int.toNat_natCast]
    rcases g2 with ⟨rfl, _⟩ | ⟨k', rfl, k1, k2, _⟩
    · simp; omega
    · rw [if_neg (by omega : ¬ (k' : Int) < 0), Int.toNat_natCast]
      have := lt_of k' k2
      omega
  have step : ∀ k : Nat, mem l k = true → mem l' k = true → ∃ r', fn_dense_Within_l1 (some ((n : Int), l)) (some ((m : Int), l')) (k : Int) = some (.inl r') ∧ ((r' = -1 ∧ ∀ j : Nat, ((k + 1 : Nat) : Int) ≤ (j : Int) → mem l j = false) ∨ ∃ k' : Nat, r' = (k' : Int) ∧ ((k + 1 : Nat) : Int) ≤ (k' : Int) ∧ mem l k' = true ∧ ∀ j : Nat, ((k + 1 : Nat) : Int) ≤ (j : Int) → j < k' → mem l j = false) := fun k h3 h4 => by
    have hk := lt_of k h3
    obtain ⟨r', g1, g2⟩ := Next_some h (((k + 1 : Nat) : Int))
    have e1 : IntKind.wrap .i64 ((k : Int) + 1) = ((k + 1 : Nat) : Int) := by rw [w64 (by omega) (by omega)]; rfl
    have h0 : decide (0 ≤ (k : Int)) = true := by simp
    refine ⟨r', ?_, g2⟩
    unfold fn_dense_Within_l1
    simp only [h0, cond_true, cond_false, Has_nat h', h4, Bool.not_true, e1, g1, Option.bind_some]
  obtain ⟨r, g1, g2⟩ := Next_some h 0
  unfold fn_dense_Within
  rw [show fn_dense_Set_All (some ((n : Int), l)) = some () from rfl]
  simp only [Option.bind_some, g1]
  by_cases hall : ∀ j, mem l j = true → mem l' j = true
  · rw [loop_val (fun s : Int => ∃ c : Nat, ((s = -1 ∧ ∀ j : Nat, (c : Int) ≤ (j : Int) → mem l j = false) ∨ ∃ k : Nat, s = (k : Int) ∧ (c : Int) ≤ (k : Int) ∧ mem l k = true ∧ ∀ j : Nat, (c : Int) ≤ (j : Int) → j < k → mem l j = false)) (fun s => if s < 0 then 0 else n + 1 - s.toNat) (b := .inl ()) ?_ ⟨0, g2⟩]
    · have : (mems n l).all (mem l') = true := List.all_eq_true.2 (fun j hj => hall j (List.mem_filter.1 hj).2)
      rw [this]
      rfl
    · rintro s ⟨c, ⟨rfl, h2⟩ | ⟨k, rfl, h2, h3, h4⟩⟩
      · exact .inr rfl
      · obtain ⟨r', s1, s2⟩ := step k h3 (hall k h3)
        exact .inl ⟨r', s1, ⟨k + 1, s2⟩, hmu k r' h3 s2⟩
  · have hbad : ∃ j, mem l j = true ∧ mem l' j = false := by
      by_cases hc : ∃ j, mem l j = true ∧ mem l' j = false
      · exact hc
      · exact absurd (fun j hj => by
          cases hm : mem l' j with
          | true => rfl
          | false => exact absurd ⟨j, hj, hm⟩ hc) hall
    obtain ⟨j0, b1, b2⟩ := hbad
    rw [loop_val (fun s : Int => ∃ c : Nat, c ≤ j0 ∧ ((s = -1 ∧ ∀ j : Nat, (c : Int) ≤ (j : Int) → mem l j = false) ∨ ∃ k : Nat, s = (k : Int) ∧ (c : Int) ≤ (k : Int) ∧ mem l k = true ∧ ∀ j : Nat, (c : Int) ≤ (j : Int) → j < k → mem l j = false)) (fun s => if s < 0 then 0 else n + 1 - s.toNat) (b := .inr false) ?_ ⟨0, Nat.zero_le _, g2⟩]
    · have : (mems n l).all (mem l') = false := by
        rw [Bool.eq_false_iff]
        intro ha
        have := List.all_eq_true.1 ha j0 (List.mem_filter.2 ⟨List.mem_range.2 (lt_of j0 b1), b1⟩)
        rw [b2] at this
        cases this
      rw [this]
      rfl
    · rintro s ⟨c, hc, ⟨rfl, h2⟩ | ⟨k, rfl, h2, h3, h4⟩⟩
      · rw [h2 j0 (by omega)] at b1
        cases b1
      · cases hk' : mem l' k with
        | true =>
          obtain ⟨r', s1, s2⟩ := step k h3 hk'
          refine .inl ⟨r', s1, ⟨k + 1, ?_, s2⟩, hmu k r' h3 s2⟩
          rcases Nat.lt_or_ge j0 k with h5 | h5
          · rw [h4 j0 (by omega) h5] at b1; cases b1
          · have : j0 ≠ k := fun e => by rw [e, hk'] at b2; cases b2
            omega
        | false =>
          right
          have h0 : decide (0 ≤ (k : Int)) = true := by simp
          unfold fn_dense_Within_l1
          simp only [h0, cond_true, Has_nat h', hk', Bool.not_false, Option.bind_some]
end Go.Proofs.YticfjbmafkjmaaaDoor
namespace Go.Proofs.YticfjbmafkjmaaaDoor
set_option linter.unusedVariables false
theorem bind_of {α β : Type} {m : Option α} {f : α → Option β} {y : β} {Q : α → Prop} (h : ∃ r, m = some r ∧ Q r) (k : ∀ r, Q r → f r = some y) : m.bind f = some y := by
  obtain ⟨r, rfl, h2⟩ := h; exact k r h2
theorem bind_ex {α β : Type} {m : Option α} {f : α → Option β} {Q : α → Prop} {R : β → Prop} (h : ∃ r, m = some r ∧ Q r) (k : ∀ r, Q r → ∃ y, f r = some y ∧ R y) : ∃ y, m.bind f = some y ∧ R y := by
  obtain ⟨r, rfl, h2⟩ := h; exact k r h2
theorem getZ {α : Type} {l : List α} {i : Int} (h0 : 0 ≤ i) (h1 : i < (l.length : Nat)) : getI l i = some (l[i.toNat]'(by omega)) := by
  unfold getI; rw [if_pos h0]; simp
theorem getN1 {α : Type} {l : List α} {k : Nat} (h : k + 1 < l.length) : getI l ((k : Int) + 1) = some l[k + 1] := getI_eq rfl h
theorem dlt {k n : Nat} (h : k < n) : decide ((k : Int) < (n : Int)) = true := by simp; omega
theorem dge {k n : Nat} (h : ¬ k < n) : decide ((k : Int) < (n : Int)) = false := by simp; omega
theorem beq_dec {α : Type} [DecidableEq α] (a b : α) : (a == b) = decide (a = b) := Bool.beq_eq_decide_eq a b
section
variable {α β γ σ : Type}
/-- Counted from 0 to n, with a way out. -/
theorem loop_stop {body : σ → Option (σ ⊕ β)} (n : Nat) (st : Nat → σ) (stop : Nat → Option β) (e : β) (h : ∀ k, k < n → body (st k) = some (match stop k with | none => .inl (st (k + 1)) | some b => .inr b)) (he : body (st n) = some (.inr e)) :
    loop body (st 0) = some (((List.range n).findSome? stop).getD e) := by
  rcases loop_find (fun k => (stop k).isSome = true) st n (fun k => (stop k).getD e) e (fun k hk hp => by
      rw [h k hk]; cases hs : stop k with
      | none => rfl
      | some b => simp [hs] at hp) (fun k hk hp => by
      rw [h k hk]; cases hs : stop k with
      | none => simp [hs] at hp
      | some b => rfl) he with ⟨k, h1, h2, h3, h4⟩ | ⟨h1, h2⟩
  · rw [h4]
    obtain ⟨b, hb⟩ := Option.isSome_iff_exists.1 h2
    have : (List.range n).findSome? stop = some b := by
      rw [List.findSome?_eq_some_iff]
      refine ⟨List.range k, k, (List.range' (k + 1) (n - k - 1)), ?_, hb, fun a ha => ?_⟩
      · rw [List.range_eq_range', List.range_eq_range', ← List.range'_succ (s := k) (n := n - k - 1)]
        rw [show n - k - 1 + 1 = n - k by omega]
        have := List.range'_append_1 (s := 0) (m := k) (n := n - k)
        rw [Nat.zero_add, show k + (n - k) = n by omega] at this
        exact this.symm
      · have := h3 a (List.mem_range.1 ha)
        cases hs : stop a with
        | none => rfl
        | some b => simp [hs] at this
    rw [this, hb]
  · rw [h2]
    have : (List.range n).findSome? stop = none := by
      rw [List.findSome?_eq_none_iff]
      intro a ha
      have := h1 a (List.mem_range.1 ha)
      cases hs : stop a with
      | none => rfl
      | some b => simp [hs] at this
    rw [this]; rfl
/-- A list searched: where the first hit lies. -/
theorem loop_search {body : Int → Option (Int ⊕ β)} (xa : List α) (t : α → Bool) (hit : Nat → β) (e : β) (hb : ∀ (k : Nat) (h : k < xa.length), body (k : Int) = some (if t xa[k] then .inr (hit k) else .inl ((k + 1 : Nat) : Int))) (he : body (xa.length : Int) = some (.inr e)) :
    loop body 0 = some (match xa.findIdx? t with | some k => hit k | none => e) := by
  rcases loop_find (fun k => ∃ h : k < xa.length, t xa[k] = true) (fun k : Nat => (k : Int)) xa.length hit e (fun k hk hp => by
      rw [hb k hk, if_neg (fun h => hp ⟨hk, h⟩)]) (fun k hk ⟨_, hp⟩ => by rw [hb k hk, if_pos hp]) he with ⟨k, h1, ⟨_, h2⟩, h3, h4⟩ | ⟨h1, h2⟩
  · rw [show ((0 : Int)) = ((0 : Nat) : Int) from rfl, h4]
    have : xa.findIdx? t = some k := by
      rw [List.findIdx?_eq_some_iff_getElem]
      exact ⟨h1, h2, fun j hj => fun hc => h3 j hj ⟨by omega, by simpa using hc⟩⟩
    rw [this]
  · rw [show ((0 : Int)) = ((0 : Nat) : Int) from rfl, h2]
    have : xa.findIdx? t = none := by
      rw [List.findIdx?_eq_none_iff]
      intro x hx
      obtain ⟨k, hk, rfl⟩ := List.getElem_of_mem hx
      cases hc : t xa[k] with
      | false => rfl
      | true => exact absurd ⟨hk, hc⟩ (h1 k hk)
    rw [this]
theorem loop_some {body : Int → Option (Int ⊕ β)} (xa : List α) (t : α → Bool) (hit e : β) (hb : ∀ (k : Nat) (h : k < xa.length), body (k : Int) = some (if t xa[k] then .inr hit else .inl ((k + 1 : Nat) : Int))) (he : body (xa.length : Int) = some (.inr e)) :
    loop body 0 = some (if xa.any t then hit else e) := by
  rw [loop_search xa t (fun _ => hit) e hb he]
  cases h : xa.findIdx? t with
  | none =>
    have : xa.any t = false := by
      rw [List.any_eq_false]; intro x hx; have := List.findIdx?_eq_none_iff.1 h x hx; simp [this]
    rw [this]; rfl
  | some k =>
    obtain ⟨hk, h1, _⟩ := List.findIdx?_eq_some_iff_getElem.1 h
    have : xa.any t = true := List.any_eq_true.2 ⟨_, List.getElem_mem hk, h1⟩
    rw [this]; rfl
/-- A list gone through, with what is carried along. -/
theorem loop_carry {δ : Type} {body : (γ × Int) → Option ((γ × Int) ⊕ δ)} (xa : List α) (acc : Nat → γ) (out : δ) (hb : ∀ (k : Nat) (h : k < xa.length), body (acc k, (k : Int)) = some (.inl (acc (k + 1), ((k + 1 : Nat) : Int)))) (he : body (acc xa.length, (xa.length : Int)) = some (.inr out)) :
    loop body (acc 0, 0) = some out := loop_nat (fun k => (acc k, (k : Int))) xa.length hb he
/-- Two lists held against each other, place by place. -/
theorem loop_alike [DecidableEq α] {body : Int → Option (Int ⊕ β)} (xa xb : List α) (hit e : β) (hl : xa.length = xb.length) (hb : ∀ (k : Nat) (h : k < xa.length), body (k : Int) = some (if xa[k] = (xb[k]'(by omega)) then .inl ((k + 1 : Nat) : Int) else .inr hit)) (he : body (xa.length : Int) = some (.inr e)) :
    loop body 0 = some (if xa = xb then e else hit) := by
  rw [loop_search (List.range xa.length) (fun k => decide (xa[k]? ≠ xb[k]?)) (fun _ => hit) e (fun k h => by
      simp at h
      rw [hb k h]
      have h2 : k < xb.length := by omega
      by_cases hq : xa[k] = xb[k] <;> simp [h, h2, hq]) (by simpa using he)]
  by_cases hq : xa = xb
  · subst hq
    have : (List.range xa.length).findIdx? (fun k => decide (xa[k]? ≠ xa[k]?)) = none := by rw [List.findIdx?_eq_none_iff]; simp
    rw [this]; simp
  · cases h : (List.range xa.length).findIdx? (fun k => decide (xa[k]? ≠ xb[k]?)) with
    | some k => simp [hq]
    | none =>
      exfalso; apply hq
      rw [List.findIdx?_eq_none_iff] at h
      apply List.ext_getElem?
      intro k
      by_cases hk : k < xa.length
      · simpa using h k (List.mem_range.2 hk)
      · rw [List.getElem?_eq_none (by omega), List.getElem?_eq_none (by omega)]
theorem take_snoc {l : List α} {k : Nat} (h : k < l.length) : l.take (k + 1) = l.take k ++ [l[k]] := List.take_succ_eq_append_getElem h
theorem dlen {a b : Nat} (h : a = b) : (!decide ((a : Int) = (b : Int))) = false := by simp [h]
theorem dlen' {a b : Nat} (h : ¬ a = b) : (!decide ((a : Int) = (b : Int))) = true := by simp; omega
end
theorem ok64 {x : Int} (h : Tp.Ok (.int .i64) x) : -9223372036854775808 ≤ x ∧ x ≤ 9223372036854775807 := by
  have h' : (Lit.int .i64 x).wf = true := h
  simp only [Lit.wf, IntKind.min, IntKind.max, IntKind.signed, IntKind.bits, Bool.and_eq_true, decide_eq_true_eq] at h'
  simp at h'; omega
theorem sub1 {α : Type} {l : List α} (h : 1 ≤ l.length) : subL l 1 ((l.length : Nat) : Int) = some (l.drop 1) := by
  rw [subL_eq (by omega) (by omega) (by omega)]; simp
end Go.Proofs.YticfjbmafkjmaaaDoor
namespace Go.Proofs.YticfjbmafkjmaaaDoor
open Go.RowKit
set_option linter.unusedVariables false
set_option linter.unusedSimpArgs false
set_option linter.unnecessarySimpa false
def pc : Nat → Nat → Nat
  | 0, _ => 0
  | n + 1, x => (x % 2) + pc n (x / 2)
theorem land_split (a b y M : Nat) (ha : a < 256) (hb : b < 256) : (a + 256 * y) &&& (b + 256 * M) = (a &&& b) + 256 * (y &&& M) := by
  have h1 : a &&& b < 256 := Nat.and_lt_two_pow (n := 8) a hb
  apply Nat.eq_of_testBit_eq
  intro i
  have e : ∀ (u v : Nat), u < 256 → (u + 256 * v).testBit i = if i < 8 then u.testBit i else v.testBit (i - 8) := fun u v hu => by
    rw [Nat.add_comm, show 256 * v = 2 ^ 8 * v from rfl, Nat.testBit_two_pow_mul_add v (show u < 2 ^ 8 from hu)]
  rw [Nat.testBit_and, e a y ha, e b M hb, e _ _ h1]
  split <;> simp [Nat.testBit_and]
def bts : Nat → List Nat → Nat
  | 0, _ => 0
  | _ + 1, [] => 0
  | n + 1, p :: l => p + 256 * bts n l
theorem eachByte (P : Nat → Bool) (h : (List.range 256).all P = true) {a : Nat} (ha : a < 256) : P a = true := List.all_eq_true.1 h a (List.mem_range.2 ha)
def s1 (M x : Nat) : Nat := ((x / 2) &&& M) + (x &&& M)
def s2 (M x : Nat) : Nat := ((x / 4) &&& M) + (x &&& M)
def s3 (M x : Nat) : Nat := (x / 16 + x) &&& M
theorem s1_split (a y M : Nat) (ha : a < 256) : s1 (85 + 256 * M) (a + 256 * y) = s1 85 a + 256 * s1 M y := by
  unfold s1
  have h2 : (a + 256 * y) / 2 = (a / 2 + 128 * (y % 2)) + 256 * (y / 2) := by omega
  have h3 : (a / 2 + 128 * (y % 2)) &&& 85 = (a / 2) &&& 85 := by
    have h4 : y % 2 = 0 ∨ y % 2 = 1 := by omega
    rcases h4 with h4 | h4
    · rw [h4]; rfl
    · rw [h4]
      have := eachByte (fun a => decide (((a / 2 + 128 * 1) &&& 85) = ((a / 2) &&& 85))) (by decide +kernel) ha
      exact of_decide_eq_true this
  rw [land_split a 85 y M ha (by decide), h2, land_split _ 85 _ M (by omega) (by decide), h3]
  omega
theorem s1_low {a : Nat} (ha : a < 256) : s1 85 a < 256 := by
  have := eachByte (fun a => decide (s1 85 a < 256)) (by decide +kernel) ha
  exact of_decide_eq_true this
theorem s2_split (a y M : Nat) (ha : a < 256) : s2 (51 + 256 * M) (a + 256 * y) = s2 51 a + 256 * s2 M y := by
  unfold s2
  have h2 : (a + 256 * y) / 4 = (a / 4 + 64 * (y % 4)) + 256 * (y / 4) := by omega
  have h3 : (a / 4 + 64 * (y % 4)) &&& 51 = (a / 4) &&& 51 := by
    have h4 : y % 4 = 0 ∨ y % 4 = 1 ∨ y % 4 = 2 ∨ y % 4 = 3 := by omega
    have := eachByte (fun a => decide (((a / 4 + 64 * 1) &&& 51) = ((a / 4) &&& 51) ∧ ((a / 4 + 64 * 2) &&& 51) = ((a / 4) &&& 51) ∧ ((a / 4 + 64 * 3) &&& 51) = ((a / 4) &&& 51))) (by decide +kernel) ha
    have := of_decide_eq_true this
    rcases h4 with h4 | h4 | h4 | h4 <;> rw [h4]
    · rfl
    · exact this.1
    · exact this.2.1
    · exact this.2.2
  rw [land_split a 51 y M ha (by decide), h2, land_split _ 51 _ M (by omega) (by decide), h3]
  omega
theorem s2_low {a : Nat} (ha : a < 256) : s2 51 a < 256 := by
  have := eachByte (fun a => decide (s2 51 a < 256)) (by decide +kernel) ha
  exact of_decide_eq_true this
/-- what the first three steps make of a byte -/
theorem byte_pc {a : Nat} (ha : a < 256) : ((s2 51 (s1 85 a)) / 16 + (s2 51 (s1 85 a)) % 16) = pc 8 a ∧ (s2 51 (s1 85 a)) % 16 ≤ 4 ∧ (s2 51 (s1 85 a)) / 16 ≤ 4 ∧ s2 51 (s1 85 a) < 256 ∧ pc 8 a ≤ 8 := by
  have := eachByte (fun a => decide (((s2 51 (s1 85 a)) / 16 + (s2 51 (s1 85 a)) % 16) = pc 8 a ∧ (s2 51 (s1 85 a)) % 16 ≤ 4 ∧ (s2 51 (s1 85 a)) / 16 ≤ 4 ∧ s2 51 (s1 85 a) < 256 ∧ pc 8 a ≤ 8)) (by decide +kernel) ha
  exact of_decide_eq_true this
/-- the third step, of bytes whose halves are small -/
theorem s3_split (a y M : Nat) (ha : a < 256) (h1 : a % 16 ≤ 4) (h2 : a / 16 ≤ 4) (h3 : y % 16 ≤ 4) : s3 (15 + 256 * M) (a + 256 * y) = (a / 16 + a % 16) + 256 * s3 M y := by
  unfold s3
  have e : (a + 256 * y) / 16 + (a + 256 * y) = (a / 16 + a % 16 + 16 * (a / 16 + y % 16)) + 256 * (y / 16 + y) := by omega
  rw [e, land_split _ 15 _ M (by omega) (by decide)]
  have : (a / 16 + a % 16 + 16 * (a / 16 + y % 16)) &&& 15 = a / 16 + a % 16 := by
    rw [show (15 : Nat) = 2 ^ 4 - 1 from rfl, Nat.and_two_pow_sub_one_eq_mod]
    omega
  rw [this]
theorem pc_add : ∀ (n m x : Nat), pc (n + m) x = pc n x + pc m (x / 2 ^ n)
  | 0, m, x => by simp [pc]
  | n + 1, m, x => by
    rw [show n + 1 + m = (n + m) + 1 by omega, show pc ((n + m) + 1) x = x % 2 + pc (n + m) (x / 2) from rfl, show pc (n + 1) x = x % 2 + pc n (x / 2) from rfl]
    rw [pc_add n m, Nat.div_div_eq_div_mul, Nat.pow_succ, Nat.mul_comm 2]
    omega
theorem pc_mod (a y : Nat) (ha : a < 256) : pc 8 (a + 256 * y) = pc 8 a := by
  unfold pc pc pc pc pc pc pc pc pc
  omega
def masks : Nat → Nat → Nat
  | _, 0 => 0
  | b, n + 1 => b + 256 * masks b n
def pcs : Nat → Nat → Nat
  | 0, _ => 0
  | n + 1, x => pc 8 (x % 256) + 256 * pcs n (x / 256)
/-- All three steps: each byte its count. -/
theorem three (n : Nat) : ∀ x, x < 256 ^ n → s3 (masks 15 n) (s2 (masks 51 n) (s1 (masks 85 n) x)) = pcs n x ∧ (s2 (masks 51 n) (s1 (masks 85 n) x)) % 16 ≤ 4 := by
  induction n with
  | zero => intro x hx; have : x = 0 := by simp at hx; omega
            subst this; decide
  | succ n ih =>
    intro x hx
    have hx2 : x / 256 < 256 ^ n := by
      rw [Nat.pow_succ] at hx
      exact Nat.div_lt_of_lt_mul (by rw [Nat.mul_comm]; exact hx)
    obtain ⟨i1, i2⟩ := ih _ hx2
    have ha : x % 256 < 256 := Nat.mod_lt _ (by decide)
    obtain ⟨b1, b2, b3, b4, b5⟩ := byte_pc ha
    have e : x = x % 256 + 256 * (x / 256) := by omega
    unfold masks
    have e1 : s1 (85 + 256 * masks 85 n) x = s1 85 (x % 256) + 256 * s1 (masks 85 n) (x / 256) := by
      conv => lhs; rw [e]
      exact s1_split _ _ _ ha
    rw [e1, s2_split _ _ _ (s1_low ha), s3_split _ _ _ b4 b2 b3 i2, i1, b1]
    refine ⟨rfl, ?_⟩
    omega
theorem three64 (x : Nat) (hx : x < 18446744073709551616) : s3 1085102592571150095 (s2 3689348814741910323 (s1 6148914691236517205 x)) = pcs 8 x :=
  (three 8 x hx).1
theorem last4 (x : Nat) : ∃ p0 p1 p2 p3 p4 p5 p6 p7 : Nat, pcs 8 x = p0 + 256 * (p1 + 256 * (p2 + 256 * (p3 + 256 * (p4 + 256 * (p5 + 256 * (p6 + 256 * (p7 + 256 * 0))))))) ∧ pc 64 x = p0 + p1 + p2 + p3 + p4 + p5 + p6 + p7 ∧ p0 ≤ 8 ∧ p1 ≤ 8 ∧ p2 ≤ 8 ∧ p3 ≤ 8 ∧ p4 ≤ 8 ∧ p5 ≤ 8 ∧ p6 ≤ 8 ∧ p7 ≤ 8 := by
  have h : ∀ y, pc 8 (y % 256) ≤ 8 := fun y => (byte_pc (Nat.mod_lt y (by decide))).2.2.2.2
  have g : ∀ m y, pc (8 + m) y = pc 8 (y % 256) + pc m (y / 256) := fun m y => by
    rw [pc_add 8 m]
    congr 1
    conv => lhs; rw [show y = y % 256 + 256 * (y / 256) by omega]
    exact pc_mod _ _ (Nat.mod_lt _ (by decide))
  refine ⟨_, _, _, _, _, _, _, _, rfl, ?_, h _, h _, h _, h _, h _, h _, h _, h _⟩
  rw [show (64 : Nat) = 8 + (8 + (8 + (8 + (8 + (8 + (8 + (8 + 0))))))) from rfl, g, g, g, g, g, g, g, g]
  simp only [pc]
  omega
theorem dv {k L R x : Nat} (hk : 0 < k) (h : x = L + k * R) (hL : L < k) : x / k = R := by
  rw [h, Nat.add_mul_div_left _ _ hk, Nat.div_eq_of_lt hL, Nat.zero_add]
theorem sum4 {y z u v s : Nat} {p0 p1 p2 p3 p4 p5 p6 p7 : Nat} (hy : y = p0 + 256 * (p1 + 256 * (p2 + 256 * (p3 + 256 * (p4 + 256 * (p5 + 256 * (p6 + 256 * (p7 + 256 * 0)))))))) (hs : s = p0 + p1 + p2 + p3 + p4 + p5 + p6 + p7) (h0 : p0 ≤ 8) (h1 : p1 ≤ 8) (h2 : p2 ≤ 8) (h3 : p3 ≤ 8) (h4 : p4 ≤ 8) (h5 : p5 ≤ 8) (h6 : p6 ≤ 8) (h7 : p7 ≤ 8)
    (hz : z = y + y / 256) (hu : u = z + z / 65536) (hv : v = u + u / 4294967296) : v % 128 = s ∧ v < 9223372036854775808 := by
  have e1 : y / 256 = p1 + 256 * (p2 + 256 * (p3 + 256 * (p4 + 256 * (p5 + 256 * (p6 + 256 * p7))))) := dv (L := p0) (by decide) (by rw [hy]; rfl) (by omega)
  rw [e1, hy] at hz
  have e2 : z / 65536 = (p2 + p3) + 256 * ((p3 + p4) + 256 * ((p4 + p5) + 256 * ((p5 + p6) + 256 * ((p6 + p7) + 256 * p7)))) := dv (L := (p0 + p1) + 256 * (p1 + p2)) (by decide) (by rw [hz]; clear hz hu hv hy e1; omega) (by clear hz hu hv hy e1; omega)
  rw [e2, hz] at hu
  clear e1 e2 hz hy
  have e3 : u / 4294967296 = (p4 + p5 + p6 + p7) + 256 * ((p5 + p6 + p7) + 256 * ((p6 + p7) + 256 * p7)) := dv (L := (p0 + p1 + p2 + p3) + 256 * ((p1 + p2 + p3 + p4) + 256 * ((p2 + p3 + p4 + p5) + 256 * (p3 + p4 + p5 + p6)))) (by decide) (by rw [hu]; clear hu hv; omega) (by clear hu hv; omega)
  rw [e3, hu] at hv
  clear e3 hu
  refine ⟨?_, by omega⟩
  have : v = s + 128 * (2 * ((p1+p2+p3+p4 + (p5+p6+p7)) + 256 * ((p2+p3+p4+p5 + (p6+p7)) + 256 * ((p3+p4+p5+p6 + p7) + 256 * ((p4+p5+p6+p7) + 256 * ((p5+p6+p7) + 256 * ((p6+p7) + 256 * p7))))))) := by rw [hv, hs]; clear hv hs; omega
  rw [this, Nat.add_mul_mod_self_left]
  exact Nat.mod_eq_of_lt (by omega)

/-! ### OnesCount64. -/
def ocA (x m : Int) : Int := IntKind.wrap .u64 ((BitVec.ofInt (IntKind.bits .u64) x &&& BitVec.ofInt (IntKind.bits .u64) m).toNat : Int)
def ocS (x : Int) (k : Nat) : Int := Int.fdiv x (2 ^ (min k (IntKind.bits .u64)))
def oc1 (x : Int) : Int := IntKind.wrap .u64 (ocA (ocS x 1) 6148914691236517205 + ocA x 6148914691236517205)
def oc2 (x : Int) : Int := IntKind.wrap .u64 (ocA (ocS x 2) 3689348814741910323 + ocA x 3689348814741910323)
def oc3 (x : Int) : Int := ocA (IntKind.wrap .u64 (ocS x 4 + x)) 1085102592571150095
def oc4 (x : Int) : Int := IntKind.wrap .u64 (x + ocS x 8)
def oc5 (x : Int) : Int := IntKind.wrap .u64 (x + ocS x 16)
def oc6 (x : Int) : Int := IntKind.wrap .u64 (x + ocS x 32)
theorem Ones_form (x : Int) : fn_math_bits_OnesCount64 x = some (IntKind.wrap .i64 ((BitVec.ofInt (IntKind.bits .i64) (IntKind.wrap .i64 (oc6 (oc5 (oc4 (oc3 (oc2 (oc1 x))))))) &&& BitVec.ofInt (IntKind.bits .i64) 127).toNat : Int)) := rfl
theorem ocA_eq (x m : Nat) (M : Int) (hM : M = (m : Int)) (hx : x < 18446744073709551616) (hm : m < 18446744073709551616) : ocA (x : Int) M = ((x &&& m : Nat) : Int) := by
  rw [hM]
  exact andU x m hx hm
theorem ocS_eq (x k : Nat) (hk : k < 64) : ocS (x : Int) k = ((x / 2 ^ k : Nat) : Int) := by
  unfold ocS
  have h1 : min k (IntKind.bits .u64) = k := Nat.min_eq_left (Nat.le_of_lt hk)
  have hp : ((2 : Int) ^ k) = ((2 ^ k : Nat) : Int) := by simp
  rw [h1, hp, Int.fdiv_eq_ediv_of_nonneg _ (Int.natCast_nonneg _)]
  rfl
theorem and_le (x m : Nat) : x &&& m ≤ m := Nat.and_le_right
theorem oc1_eq (x : Nat) (hx : x < 18446744073709551616) : oc1 (x : Int) = ((s1 6148914691236517205 x : Nat) : Int) := by
  unfold oc1 s1
  rw [ocS_eq x 1 (by decide), ocA_eq (x / 2 ^ 1) 6148914691236517205 6148914691236517205 rfl (by omega) (by decide), ocA_eq x 6148914691236517205 6148914691236517205 rfl hx (by decide), ← Int.natCast_add]
  have b1 := and_le (x / 2 ^ 1) 6148914691236517205
  have b2 := and_le x 6148914691236517205
  exact wrapU _ (by omega)
theorem oc2_eq (x : Nat) (hx : x < 18446744073709551616) : oc2 (x : Int) = ((s2 3689348814741910323 x : Nat) : Int) := by
  unfold oc2 s2
  rw [ocS_eq x 2 (by decide), ocA_eq (x / 2 ^ 2) 3689348814741910323 3689348814741910323 rfl (by omega) (by decide), ocA_eq x 3689348814741910323 3689348814741910323 rfl hx (by decide), ← Int.natCast_add]
  have b1 := and_le (x / 2 ^ 2) 3689348814741910323
  have b2 := and_le x 3689348814741910323
  exact wrapU _ (by omega)
theorem oc3_eq (z : Nat) (hz : z ≤ 7378697629483820646) : oc3 (z : Int) = ((s3 1085102592571150095 z : Nat) : Int) := by
  unfold oc3 s3
  rw [ocS_eq z 4 (by decide), ← Int.natCast_add, wrapU _ (by omega), ocA_eq _ 1085102592571150095 1085102592571150095 rfl (by omega) (by decide)]
theorem s1_lt (x : Nat) : s1 6148914691236517205 x < 18446744073709551616 := by
  have b1 := and_le (x / 2) 6148914691236517205
  have b2 := and_le x 6148914691236517205
  unfold s1; omega
theorem s2_lt (x : Nat) : s2 3689348814741910323 x ≤ 7378697629483820646 := by
  have b1 := and_le (x / 4) 3689348814741910323
  have b2 := and_le x 3689348814741910323
  unfold s2; omega
theorem oc4_eq (w : Nat) (h : w + w / 256 < 18446744073709551616) : oc4 (w : Int) = ((w + w / 256 : Nat) : Int) := by
  unfold oc4
  rw [ocS_eq w 8 (by decide), ← Int.natCast_add]
  exact wrapU _ h
theorem oc5_eq (w : Nat) (h : w + w / 65536 < 18446744073709551616) : oc5 (w : Int) = ((w + w / 65536 : Nat) : Int) := by
  unfold oc5
  rw [ocS_eq w 16 (by decide), ← Int.natCast_add]
  exact wrapU _ h
theorem oc6_eq (w : Nat) (h : w + w / 4294967296 < 18446744073709551616) : oc6 (w : Int) = ((w + w / 4294967296 : Nat) : Int) := by
  unfold oc6
  rw [ocS_eq w 32 (by decide), ← Int.natCast_add]
  exact wrapU _ h
theorem oc7_eq (v : Nat) (h : v < 9223372036854775808) : IntKind.wrap .i64 ((BitVec.ofInt (IntKind.bits .i64) (IntKind.wrap .i64 (v : Int)) &&& BitVec.ofInt (IntKind.bits .i64) 127).toNat : Int) = ((v % 128 : Nat) : Int) := by
  rw [w64 (x := (v : Int)) (by omega) (by omega)]
  show IntKind.wrap .i64 ((BitVec.ofInt 64 (v : Int) &&& BitVec.ofInt 64 ((127 : Nat) : Int)).toNat : Int) = _
  rw [ofInt_nat, ofInt_nat, BitVec.toNat_and, BitVec.toNat_ofNat, BitVec.toNat_ofNat, Nat.mod_eq_of_lt (by omega), Nat.mod_eq_of_lt (by decide), show (127 : Nat) = 2 ^ 7 - 1 from rfl, Nat.and_two_pow_sub_one_eq_mod]
  exact w64 (by omega) (by omega)
theorem Ones_sum (w s : Nat) (h : ∃ p0 p1 p2 p3 p4 p5 p6 p7 : Nat, w = p0 + 256 * (p1 + 256 * (p2 + 256 * (p3 + 256 * (p4 + 256 * (p5 + 256 * (p6 + 256 * (p7 + 256 * 0))))))) ∧ s = p0 + p1 + p2 + p3 + p4 + p5 + p6 + p7 ∧ p0 ≤ 8 ∧ p1 ≤ 8 ∧ p2 ≤ 8 ∧ p3 ≤ 8 ∧ p4 ≤ 8 ∧ p5 ≤ 8 ∧ p6 ≤ 8 ∧ p7 ≤ 8) :
    IntKind.wrap .i64 ((BitVec.ofInt (IntKind.bits .i64) (IntKind.wrap .i64 (oc6 (oc5 (oc4 (w : Int))))) &&& BitVec.ofInt (IntKind.bits .i64) 127).toNat : Int) = ((s : Nat) : Int) := by
  obtain ⟨p0, p1, p2, p3, p4, p5, p6, p7, q, qs, c0, c1, c2, c3, c4, c5, c6, c7⟩ := h
  obtain ⟨r1, r2⟩ := sum4 q qs c0 c1 c2 c3 c4 c5 c6 c7 rfl rfl rfl
  clear q qs c0 c1 c2 c3 c4 c5 c6 c7
  generalize h1 : w + w / 256 = w1 at *
  generalize h2 : w1 + w1 / 65536 = w2 at *
  generalize h3 : w2 + w2 / 4294967296 = w3 at *
  rw [oc4_eq w (by omega), h1, oc5_eq w1 (by omega), h2, oc6_eq w2 (by omega), h3, oc7_eq w3 r2, r1]
theorem Ones_eq (x : Nat) (hx : x < 18446744073709551616) : fn_math_bits_OnesCount64 (x : Int) = some ((pc 64 x : Nat) : Int) := by
  rw [Ones_form, oc1_eq x hx, oc2_eq _ (s1_lt x), oc3_eq _ (s2_lt _), three64 x hx]
  exact congrArg some (Ones_sum _ _ (last4 x))
/-- Bits counted one by one. -/
theorem pc_filter : ∀ (n x : Nat), pc n x = ((List.range n).filter (fun i => x.testBit i)).length
  | 0, _ => rfl
  | n + 1, x => by
    have e : (fun i => x.testBit i) ∘ Nat.succ = fun i => (x / 2).testBit i := funext fun i => by
      show x.testBit (i + 1) = _
      rw [Nat.testBit_succ]
    rw [show pc (n + 1) x = x % 2 + pc n (x / 2) from rfl, pc_filter n (x / 2), List.range_succ_eq_map, List.filter_cons, List.filter_map, e]
    have h0 : x.testBit 0 = decide (x % 2 = 1) := Nat.testBit_zero x
    rw [h0]
    by_cases h : x % 2 = 1
    · rw [if_pos (decide_eq_true h), List.length_cons, List.length_map, h]
      omega
    · rw [if_neg (by simpa using h), List.length_map]
      omega
def wsum (l : List Int) : Nat := (l.map fun w => pc 64 w.toNat).sum
theorem mem_cons (w : Int) (l : List Int) (i : Nat) : mem (w :: l) i = if i < 64 then w.toNat.testBit i else mem l (i - 64) := by
  unfold mem
  by_cases h : i < 64
  · rw [if_pos h, Nat.div_eq_of_lt h, Nat.mod_eq_of_lt h]
    rfl
  · rw [if_neg h, show i / 64 = (i - 64) / 64 + 1 by omega, show i % 64 = (i - 64) % 64 by omega]
    rfl
theorem wsum_eq : ∀ l : List Int, ((List.range (64 * l.length)).filter (mem l)).length = wsum l
  | [] => rfl
  | w :: l => by
    rw [show 64 * (w :: l).length = 64 + 64 * l.length by simp; omega, List.range_add, List.filter_append, List.length_append, List.filter_map, List.length_map]
    have e1 : (List.range 64).filter (mem (w :: l)) = (List.range 64).filter (fun i => w.toNat.testBit i) := List.filter_congr fun i hi => by
      rw [mem_cons, if_pos (List.mem_range.1 hi)]
    have e2 : (mem (w :: l)) ∘ (64 + ·) = mem l := funext fun i => by
      show mem (w :: l) (64 + i) = _
      rw [mem_cons, if_neg (by omega), Nat.add_sub_cancel_left]
    rw [e1, e2, wsum_eq l, ← pc_filter]
    simp [wsum]
theorem mems_len {n : Nat} {l : List Int} (h : Ds n l) : (mems n l).length = wsum l := by
  have hl := h.len
  rw [← wsum_eq]
  have := filter_gap (p := mem l) (c := n) (64 * l.length - n) (fun j h1 _ => h.top j h1)
  rw [show n + (64 * l.length - n) = 64 * l.length by omega] at this
  rw [this]
  rfl
theorem pc_le (n x : Nat) : pc n x ≤ n := by
  rw [pc_filter]; exact filter_len _ _
theorem wsum_snoc {l : List Int} {k : Nat} (hk : k < l.length) : wsum (l.take (k + 1)) = wsum (l.take k) + pc 64 (l[k]).toNat := by
  unfold wsum
  rw [take_snoc hk, List.map_append, List.sum_append]
  simp
/-- Count. -/
theorem Count_some {n : Nat} {l : List Int} (h : Ds n l) : fn_dense_Set_Count (some ((n : Int), l)) = some (((mems n l).length : Nat) : Int) := by
  have hn := h.hn
  have hl := h.len
  have hb : ∀ k, k ≤ l.length → wsum (l.take k) ≤ 64 * k := fun k => by
    induction k with
    | zero => intro _; simp [wsum]
    | succ k ih =>
      intro hk
      have := ih (by omega)
      have h2 := pc_le 64 (l[k]).toNat
      rw [wsum_snoc (by omega : k < l.length)]
      omega
  unfold fn_dense_Set_Count
  have hlp : loop (fn_dense_Set_Count_l1 ((n : Int), l)) ((0 : Int), (0 : Int)) = some ((wsum l : Nat) : Int) := by
    have := loop_nat (body := fn_dense_Set_Count_l1 ((n : Int), l)) (fun k : Nat => (((wsum (l.take k) : Nat) : Int), (k : Int))) l.length (b := ((wsum l : Nat) : Int)) ?_ ?_
    · exact this
    · intro k hk
      unfold fn_dense_Set_Count_l1
      have hw := h.wd _ (List.getElem_mem hk)
      unfold Wd at hw
      obtain ⟨x, hx⟩ := Int.eq_ofNat_of_zero_le hw.1
      have ho := Ones_eq x (by omega)
      rw [← hx] at ho
      have hp : l[k].toNat = x := by omega
      have h1 := hb k (by omega)
      have h2 := hb (k + 1) (by omega)
      have e : wsum (l.take (k + 1)) = wsum (l.take k) + pc 64 x := by
        rw [wsum_snoc hk, hp]
      simp only [dlt hk, cond_true, getN hk, ho, Option.bind_some]
      rw [w64s hk (by omega), e, w64 (by omega) (by omega), ← Int.natCast_add]
    · unfold fn_dense_Set_Count_l1
      simp
  simp only [Option.isNone_some, cond_false, Option.bind_some]
  rw [hlp, mems_len h]
  rfl
end Go.Proofs.YticfjbmafkjmaaaDoor
namespace Go.Proofs.YticfjbmafkjmaaaDoor
set_option linter.unusedVariables false
theorem strict_eq : ∀ {xs ys : List Int}, xs.Pairwise (· < ·) → ys.Pairwise (· < ·) → (∀ a, a ∈ xs ↔ a ∈ ys) → xs = ys
  | [], [], _, _, _ => rfl
  | [], y :: ys, _, _, h => by have := (h y).2 (by simp); simp at this
  | x :: xs, [], _, _, h => by have := (h x).1 (by simp); simp at this
  | x :: xs, y :: ys, hx, hy, h => by
    obtain ⟨hx1, hx2⟩ := List.pairwise_cons.1 hx
    obtain ⟨hy1, hy2⟩ := List.pairwise_cons.1 hy
    have e : x = y := by
      have h1 := (h x).1 (by simp)
      have h2 := (h y).2 (by simp)
      rcases List.mem_cons.1 h1 with h1 | h1
      · exact h1
      · rcases List.mem_cons.1 h2 with h2 | h2
        · exact h2.symm
        · have := hy1 x h1; have := hx1 y h2; omega
    subst e
    rw [strict_eq hx2 hy2 (fun a => ?_)]
    constructor
    · intro ha
      rcases List.mem_cons.1 ((h a).1 (by simp [ha])) with e | e
      · subst e; have := hx1 a ha; omega
      · exact e
    · intro ha
      rcases List.mem_cons.1 ((h a).2 (by simp [ha])) with e | e
      · subst e; have := hy1 a ha; omega
      · exact e
theorem compactUpTo_sorted {zs : List Int} (hs : zs.Pairwise (· ≤ ·)) : ∀ m, m ≤ zs.length → (Lib.compactUpTo zs.toArray m).Pairwise (· < ·) ∧ ∀ a, a ∈ Lib.compactUpTo zs.toArray m ↔ a ∈ zs.take m
  | 0, _ => by simp [Lib.compactUpTo]
  | m + 1, h => by
    obtain ⟨h1, h2⟩ := compactUpTo_sorted hs m (by omega)
    have hm : m < zs.length := by omega
    have e : zs.toArray[m]! = zs[m] := by simp [getElem!_pos, hm]
    rw [Lib.compactUpTo_succ, e]
    have htk : zs.take (m + 1) = zs.take m ++ [zs[m]] := List.take_succ_eq_append_getElem hm
    have hle : ∀ a ∈ zs.take m, a ≤ zs[m] := by
      intro a ha
      have := hs.sublist (List.take_sublist (m + 1) zs)
      rw [htk] at this
      exact (List.pairwise_append.1 this).2.2 a ha _ (by simp)
    rw [htk]
    cases hk : Lib.keeps zs.toArray m with
    | false =>
      simp only [Bool.false_eq_true, if_false, List.append_nil]
      refine ⟨h1, fun a => ?_⟩
      rw [h2, List.mem_append]
      have hm0 : m ≠ 0 := by rintro rfl; simp [Lib.keeps] at hk
      have he : zs.toArray[m]! = zs.toArray[m - 1]! := by
        simp [Lib.keeps, hm0] at hk; simpa using hk
      have hp : m - 1 < zs.length := by omega
      have e2 : zs.toArray[m - 1]! = zs[m - 1] := by simp [getElem!_pos, hp]
      rw [e, e2] at he
      constructor
      · exact .inl
      · rintro (h | h)
        · exact h
        · simp at h; rw [h, he]
          exact List.mem_take_iff_getElem.2 ⟨m - 1, by omega, rfl⟩
    | true =>
      simp only [if_true]
      refine ⟨List.pairwise_append.2 ⟨h1, by simp, fun a ha b hb => ?_⟩, fun a => by rw [List.mem_append, List.mem_append, h2]⟩
      simp at hb; subst hb
      have ha' := (h2 a).1 ha
      have hle' := hle a ha'
      rcases Int.lt_or_eq_of_le hle' with h | h
      · exact h
      · exfalso
        obtain ⟨j, hj, rfl⟩ := List.mem_take_iff_getElem.1 ha'
        have hm0 : m ≠ 0 := by omega
        have hp : m - 1 < zs.length := by omega
        have e2 : zs.toArray[m - 1]! = zs[m - 1] := by simp [getElem!_pos, hp]
        simp only [Lib.keeps, e, e2] at hk
        simp [hm0] at hk
        have a1 : zs[j] ≤ zs[m - 1] := by
          rcases Nat.lt_or_ge j (m - 1) with q | q
          · exact List.pairwise_iff_getElem.1 hs j (m - 1) _ _ q
          · have : j = m - 1 := by omega
            subst this; exact Int.le_refl _
        have a2 : zs[m - 1] ≤ zs[m] := List.pairwise_iff_getElem.1 hs (m - 1) m _ _ (by omega)
        omega
theorem compact_sorted {zs : List Int} (hs : zs.Pairwise (· ≤ ·)) : (Lib.compact zs).Pairwise (· < ·) ∧ ∀ a, a ∈ Lib.compact zs ↔ a ∈ zs := by
  have := compactUpTo_sorted hs zs.length (Nat.le_refl _)
  rw [List.take_length] at this
  exact this
end Go.Proofs.YticfjbmafkjmaaaDoor
namespace Go.Proofs.YticfjbmafkjmaaaDoor
open Go.RowKit
set_option linter.unusedVariables false
set_option linter.unusedSimpArgs false
set_option linter.unnecessarySimpa false
/-! ### Rising lists. -/
def ins (i : Int) : List Int → List Int
  | [] => [i]
  | x :: l => if i < x then i :: x :: l else x :: ins i l
theorem ins_mem (i a : Int) : ∀ l, a ∈ ins i l ↔ a = i ∨ a ∈ l
  | [] => by simp [ins]
  | x :: l => by
    unfold ins
    split
    · simp
    · rw [List.mem_cons, ins_mem i a l, List.mem_cons]
      constructor
      · rintro (h | h | h) <;> simp [h]
      · rintro (h | h | h) <;> simp [h]
theorem ins_rs (i : Int) : ∀ l : List Int, l.Pairwise (· < ·) → i ∉ l → (ins i l).Pairwise (· < ·)
  | [], _, _ => by simp [ins]
  | x :: l, h, hi => by
    obtain ⟨h1, h2⟩ := List.pairwise_cons.1 h
    have hx : i ≠ x := fun e => hi (by simp [e])
    unfold ins
    split
    · rename_i hlt
      refine List.pairwise_cons.2 ⟨fun a ha => ?_, h⟩
      rcases List.mem_cons.1 ha with rfl | ha
      · exact hlt
      · have := h1 a ha; omega
    · refine List.pairwise_cons.2 ⟨fun a ha => ?_, ins_rs i l h2 (fun hm => hi (by simp [hm]))⟩
      rcases (ins_mem i a l).1 ha with rfl | ha
      · omega
      · exact h1 a ha
theorem ins_len (i : Int) : ∀ l : List Int, (ins i l).length = l.length + 1
  | [] => rfl
  | x :: l => by unfold ins; split <;> simp [ins_len i l]
theorem ins_cons (i x : Int) (l : List Int) : ins i (x :: l) = if i < x then i :: x :: l else x :: ins i l := rfl
def rHas (L : List Int) (i : Int) : Bool := decide (i ∈ L)
def rAdd (s : Int) (L : List Int) (i : Int) : List Int := if (0 ≤ i ∧ i < s) ∧ i ∉ L then ins i L else L
def rAddOk (s : Int) (L : List Int) (i : Int) : Bool := decide ((0 ≤ i ∧ i < s) ∧ i ∉ L)
def rDel (L : List Int) (i : Int) : List Int := L.filter (fun x => !decide (x = i))
def rOr (s : Int) (L : List Int) : List Int → List Int × Bool
  | [] => (L, false)
  | x :: l => ((rOr s (rAdd s L x) l).1, rAddOk s L x || (rOr s (rAdd s L x) l).2)
theorem rfHas {s : Int} {L : List Int} (hL : L.length ≤ 9000000) (i : Int) : fn_ref03_Has (s, L) i = some (rHas L i) := by
  unfold fn_ref03_Has
  rw [loop_some L (fun x => decide (x = i)) (.inr true) (.inl ()) (fun k hk => ?_) ?_]
  · have e : L.any (fun x => decide (x = i)) = rHas L i := by
      unfold rHas
      rw [Bool.eq_iff_iff]
      simp
    rw [e]
    cases rHas L i <;> rfl
  · unfold fn_ref03_Has_l1
    simp
  · unfold fn_ref03_Has_l1
    simp only [dlt hk, cond_true, getN hk, Option.bind_some, w64s hk (by omega)]
    by_cases h : L[k] = i <;> simp [h]
theorem rfAdd {s : Int} {L : List Int} (hL : L.length ≤ 9000000) (i : Int) : fn_ref03_Add (s, L) i = some (s, rAdd s L i, rAddOk s L i) := by
  have hcond : (cond ((decide (i < 0)) || (decide (s ≤ i))) (some (true)) ((fn_ref03_Has (s, L) i).bind fun t1352 => some (t1352))) = some (!rAddOk s L i) := by
    rw [rfHas hL]
    unfold rAddOk rHas
    by_cases h1 : i < 0
    · have h2 : ¬ 0 ≤ i := by omega
      simp [h1, h2]
    · by_cases h2 : s ≤ i
      · have h3 : ¬ i < s := by omega
        simp [h1, h2, h3]
      · have h3 : i < s := by omega
        have h4 : 0 ≤ i := by omega
        simp [h1, h2, h3, h4]
  unfold fn_ref03_Add
  dsimp only
  rw [hcond]
  simp only [Option.bind_some]
  cases ho : rAddOk s L i with
  | false =>
    have : ¬ ((0 ≤ i ∧ i < s) ∧ i ∉ L) := of_decide_eq_false ho
    unfold rAdd
    rw [if_neg this]
    rfl
  | true =>
    have hh : (0 ≤ i ∧ i < s) ∧ i ∉ L := of_decide_eq_true ho
    have he : rAdd s L i = ins i L := by unfold rAdd; rw [if_pos hh]
    have key := loop_inv (body := fn_ref03_Add_l1 (s, L) i) (fun q => ∃ k : Nat, k ≤ L.length ∧ q.2.2 = (k : Int) ∧ q.1.length ≤ k + (if q.2.1 then 1 else 0) ∧ (if q.2.1 then q.1 ++ L.drop k else q.1 ++ ins i (L.drop k)) = ins i L) (fun q => L.length - q.2.2.toNat)
      (Q := fun r => r.1.length ≤ L.length + 1 ∧ (if r.2 then r.1 else r.1 ++ [i]) = ins i L) ?_ (s := (([] : List Int), false, (0 : Int))) ⟨0, Nat.zero_le _, rfl, Nat.zero_le _, by simp⟩
    · obtain ⟨⟨l, t⟩, hlp, q1, q2⟩ := key
      rw [hlp]
      simp only [Bool.not_true, cond_false, Option.bind_some]
      have ha : app l [i] = some (l ++ [i]) := app_eq (by simp at q1 ⊢; omega)
      cases t with
      | true => simp only [if_true] at q2; rw [he, ← q2]; rfl
      | false => simp only [Bool.false_eq_true, if_false] at q2; rw [he, ← q2]; simp [ha]
    · rintro ⟨l, t, j⟩ ⟨k, hk, rfl, hl, hv⟩
      dsimp only at hl hv ⊢
      unfold fn_ref03_Add_l1
      by_cases hkl : k < L.length
      · left
        have hd : L.drop k = L[k] :: L.drop (k + 1) := List.drop_eq_getElem_cons hkl
        rw [hd] at hv
        simp only [dlt hkl, cond_true, getN hkl, Option.bind_some, w64s hkl (by omega)]
        cases t with
        | true =>
          simp only [if_true] at hv
          have ha : app l [L[k]] = some (l ++ [L[k]]) := app_eq (by simp at hl ⊢; omega)
          refine ⟨(l ++ [L[k]], true, ((k + 1 : Nat) : Int)), by simp [ha], ⟨k + 1, by omega, rfl, by simp at hl ⊢; omega, ?_⟩, ?_⟩
          · simp only [if_true]; rw [← hv]; simp
          · show L.length - ((k + 1 : Nat) : Int).toNat < L.length - ((k : Nat) : Int).toNat
            rw [Int.toNat_natCast, Int.toNat_natCast]; omega
        | false =>
          simp only [Bool.false_eq_true, if_false] at hv
          rw [ins_cons] at hv
          by_cases hx : i < L[k]
          · rw [if_pos hx] at hv
            have ha : app l [i] = some (l ++ [i]) := app_eq (by simp at hl ⊢; omega)
            have ha2 : app (l ++ [i]) [L[k]] = some (l ++ [i] ++ [L[k]]) := app_eq (by simp at hl ⊢; omega)
            refine ⟨(l ++ [i] ++ [L[k]], true, ((k + 1 : Nat) : Int)), by simp [hx, ha, ha2], ⟨k + 1, by omega, rfl, ?_, ?_⟩, ?_⟩
            · simp at hl ⊢; omega
            · simp only [if_true]; rw [← hv]; simp
            · show L.length - ((k + 1 : Nat) : Int).toNat < L.length - ((k : Nat) : Int).toNat
              rw [Int.toNat_natCast, Int.toNat_natCast]; omega
          · rw [if_neg hx] at hv
            have ha : app l [L[k]] = some (l ++ [L[k]]) := app_eq (by simp at hl ⊢; omega)
            refine ⟨(l ++ [L[k]], false, ((k + 1 : Nat) : Int)), by simp [hx, ha], ⟨k + 1, by omega, rfl, by simp at hl ⊢; omega, ?_⟩, ?_⟩
            · simp only [Bool.false_eq_true, if_false]; rw [← hv]; simp
            · show L.length - ((k + 1 : Nat) : Int).toNat < L.length - ((k : Nat) : Int).toNat
              rw [Int.toNat_natCast, Int.toNat_natCast]; omega
      · right
        have e : k = L.length := by omega
        subst e
        refine ⟨(l, t), by simp, by cases t <;> simp at hl ⊢ <;> omega, ?_⟩
        cases t with
        | true => simpa using hv
        | false => simpa [ins] using hv
theorem rfDel {s : Int} {L : List Int} (hL : L.length ≤ 9000000) (i : Int) : fn_ref03_Del (s, L) i = some (s, rDel L i, decide ((rDel L i).length < L.length)) := by
  have hlp : loop (fn_ref03_Del_l1 (s, L) i) (([] : List Int), (0 : Int)) = some (rDel L i) := by
    have := loop_nat (body := fn_ref03_Del_l1 (s, L) i) (fun k : Nat => (rDel (L.take k) i, (k : Int))) L.length (b := rDel L i) ?_ ?_
    · exact this
    · intro k hk
      unfold fn_ref03_Del_l1
      have hle : (rDel (L.take k) i).length ≤ k := by
        have := List.length_filter_le (fun x => !decide (x = i)) (L.take k)
        unfold rDel
        simp at this ⊢
        omega
      have ha : app (rDel (L.take k) i) [L[k]] = some (rDel (L.take k) i ++ [L[k]]) := app_eq (by simp; omega)
      have e : rDel (L.take (k + 1)) i = rDel (L.take k) i ++ (if L[k] = i then [] else [L[k]]) := by
        unfold rDel
        rw [take_snoc hk, List.filter_append]
        by_cases h : L[k] = i <;> simp [h]
      simp only [dlt hk, cond_true, getN hk, Option.bind_some, w64s hk (by omega), ha, e]
      by_cases h : L[k] = i <;> simp [h]
    · unfold fn_ref03_Del_l1
      simp
  unfold fn_ref03_Del
  rw [hlp]
  simp
theorem rAdd_len (s : Int) (L : List Int) (i : Int) : (rAdd s L i).length ≤ L.length + 1 := by
  unfold rAdd
  split
  · rw [ins_len]; exact Nat.le_refl _
  · omega
theorem rOr_len (s : Int) : ∀ (l L : List Int), (rOr s L l).1.length ≤ L.length + l.length
  | [], _ => Nat.le_refl _
  | x :: l, L => by
    have h1 := rOr_len s l (rAdd s L x)
    have h2 := rAdd_len s L x
    unfold rOr
    simp only [List.length_cons]
    omega
theorem rOr_snoc (s : Int) (x : Int) : ∀ (l L : List Int), rOr s L (l ++ [x]) = (rAdd s (rOr s L l).1 x, (rOr s L l).2 || rAddOk s (rOr s L l).1 x)
  | [], L => by simp [rOr]
  | y :: l, L => by
    rw [List.cons_append]
    unfold rOr
    rw [rOr_snoc s x l]
    simp [Bool.or_assoc]
theorem rfOr {s t : Int} {L l : List Int} (hL : L.length ≤ 4000000) (hl : l.length ≤ 4000000) : fn_ref03_Or (s, L) (t, l) = some (s, if s = t then (rOr s L l).1 else L, decide (s = t) && (rOr s L l).2) := by
  have hlp : loop (fn_ref03_Or_l1 (t, l)) (false, (0 : Int), s, L) = some ((rOr s L l).2, s, (rOr s L l).1) := by
    have := loop_nat (body := fn_ref03_Or_l1 (t, l)) (fun k : Nat => ((rOr s L (l.take k)).2, (k : Int), s, (rOr s L (l.take k)).1)) l.length (b := ((rOr s L l).2, s, (rOr s L l).1)) ?_ ?_
    · simpa [rOr] using this
    · intro k hk
      unfold fn_ref03_Or_l1
      have hle := rOr_len s (l.take k) L
      have h2 : (l.take k).length ≤ k := by simp; omega
      simp only [dlt hk, cond_true, getN hk, Option.bind_some, w64s hk (by omega), rfAdd (s := s) (L := (rOr s L (l.take k)).1) (by omega), agr_self]
      rw [take_snoc hk, rOr_snoc]
    · unfold fn_ref03_Or_l1
      simp
  unfold fn_ref03_Or
  dsimp only
  rw [hlp]
  by_cases h : s = t <;> simp [h]
theorem rfNext {s : Int} {L : List Int} (hL : L.length ≤ 9000000) (i : Int) : fn_ref03_Next (s, L) i = some ((L.find? (fun x => decide (i ≤ x))).getD (-1)) := by
  unfold fn_ref03_Next
  rw [loop_search L (fun x => decide (i ≤ x)) (fun k => .inr (L.getD k 0)) (.inl ()) (fun k hk => ?_) ?_]
  · cases h : L.findIdx? (fun x => decide (i ≤ x)) with
    | none =>
      have h2 : L.find? (fun x => decide (i ≤ x)) = none := by
        rw [List.find?_eq_none]
        intro x hx
        have := List.findIdx?_eq_none_iff.1 h x hx
        simpa using this
      rw [h2]
      rfl
    | some k =>
      obtain ⟨hk, h1, h3⟩ := List.findIdx?_eq_some_iff_getElem.1 h
      have h2 : L.find? (fun x => decide (i ≤ x)) = some L[k] := List.find?_eq_some_iff_getElem.2 ⟨h1, k, hk, rfl, fun j hj => by have := h3 j hj; simpa using this⟩
      rw [h2]
      simp [hk]
  · unfold fn_ref03_Next_l1
    simp
  · unfold fn_ref03_Next_l1
    simp only [dlt hk, cond_true, getN hk, Option.bind_some, w64s hk (by omega)]
    by_cases h : i ≤ L[k] <;> simp [h, hk]
theorem rfWithin {s t : Int} {L l : List Int} (hL : L.length ≤ 9000000) (hl : l.length ≤ 9000000) : fn_ref03_Within (s, L) (t, l) = some (L.all (fun x => decide (x ∈ l))) := by
  unfold fn_ref03_Within
  rw [loop_some L (fun x => !decide (x ∈ l)) (.inr false) (.inl ()) (fun k hk => ?_) ?_]
  · cases h : L.all (fun x => decide (x ∈ l)) with
    | true =>
      have : L.any (fun x => !decide (x ∈ l)) = false := by
        rw [List.any_eq_false]
        intro x hx
        have := List.all_eq_true.1 h x hx
        simpa using this
      rw [this]
      rfl
    | false =>
      have : L.any (fun x => !decide (x ∈ l)) = true := by
        rw [List.all_eq_false] at h
        obtain ⟨x, hx, hx2⟩ := h
        exact List.any_eq_true.2 ⟨x, hx, by simpa using hx2⟩
      rw [this]
      rfl
  · unfold fn_ref03_Within_l1
    simp
  · unfold fn_ref03_Within_l1
    simp only [dlt hk, cond_true, getN hk, Option.bind_some, w64s hk (by omega), rfHas hl]
    unfold rHas
    by_cases h : L[k] ∈ l <;> simp [h]
theorem rfSame {A B : List Int} (hA : A.length ≤ 9000000) : fn_ref01_Same A B = some (decide (A = B)) := by
  unfold fn_ref01_Same
  by_cases hl : A.length = B.length
  · rw [loop_alike A B (.inr false) (.inl ()) hl (fun k hk => ?_) ?_]
    · rw [dlen hl]
      by_cases h : A = B <;> simp [h]
    · unfold fn_ref01_Same_l1
      simp
    · unfold fn_ref01_Same_l1
      have hk2 : k < B.length := by omega
      simp only [dlt hk, cond_true, getN hk, getN hk2, Option.bind_some, w64s hk (by omega)]
      by_cases h : A[k] = B[k] <;> simp [h]
  · rw [dlen' hl]
    have : A ≠ B := fun e => hl (by rw [e])
    simp [this]
/-! ### Words and lists hold the same members. -/
structure Rp (n : Nat) (l : List Int) (L : List Int) : Prop where
  ds : Ds n l
  rs : L.Pairwise (· < ·)
  mm : ∀ x : Int, x ∈ L ↔ 0 ≤ x ∧ mem l x.toNat = true
theorem liN_mem (M : List Nat) (x : Int) : x ∈ liN M ↔ 0 ≤ x ∧ x.toNat ∈ M := by
  unfold liN
  rw [List.mem_map]
  constructor
  · rintro ⟨a, ha, rfl⟩
    exact ⟨Int.natCast_nonneg _, by simpa using ha⟩
  · rintro ⟨h1, h2⟩
    exact ⟨x.toNat, h2, Int.toNat_of_nonneg h1⟩
theorem lt_of_mem {n : Nat} {l : List Int} (h : Ds n l) {k : Nat} (hk : mem l k = true) : k < n := by
  rcases Nat.lt_or_ge k n with h1 | h1
  · exact h1
  · rw [h.top k h1] at hk; cases hk
theorem mems_mem {n : Nat} {l : List Int} (h : Ds n l) (k : Nat) : k ∈ mems n l ↔ mem l k = true := by
  unfold mems
  rw [List.mem_filter, List.mem_range]
  exact ⟨fun h => h.2, fun hk => ⟨lt_of_mem h hk, hk⟩⟩
theorem liN_rs (n : Nat) (l : List Int) : (liN (mems n l)).Pairwise (· < ·) := by
  unfold liN mems
  rw [List.pairwise_map]
  refine List.Pairwise.imp (fun h => ?_) (List.Pairwise.filter (mem l) (List.pairwise_lt_range (n := n)))
  exact Int.ofNat_lt.2 h
theorem Rp.eq {n : Nat} {l L : List Int} (h : Rp n l L) : liN (mems n l) = L :=
  strict_eq (liN_rs n l) h.rs (fun x => by rw [liN_mem, mems_mem h.ds, h.mm])
theorem Rp.len {n : Nat} {l L : List Int} (h : Rp n l L) : (mems n l).length = L.length := by
  rw [← h.eq]; simp [liN]
theorem Rp.le {n : Nat} {l L : List Int} (h : Rp n l L) : L.length ≤ n := by
  rw [← h.len]; exact filter_len _ _
theorem Rp_new {n : Nat} (h : n ≤ 1048576) : Rp n (List.replicate ((n + 63) / 64) 0) [] :=
  ⟨Ds_new h, List.Pairwise.nil, fun x => by simp [mem_rep]⟩
theorem Rp.has {n : Nat} {l L : List Int} (h : Rp n l L) (i : Int) : fn_dense_Set_Has (some ((n : Int), l)) i = some (rHas L i) := by
  rw [Has_some h.ds]
  congr 1
  unfold rHas
  rw [Bool.eq_iff_iff, Bool.and_eq_true, decide_eq_true_eq, decide_eq_true_eq, h.mm]
  constructor
  · exact fun h => ⟨h.1.1, h.2⟩
  · intro h2
    have := lt_of_mem h.ds h2.2
    exact ⟨⟨h2.1, by omega⟩, h2.2⟩
theorem Rp.add {n : Nat} {l L : List Int} (h : Rp n l L) (i : Int) : ∃ l', fn_dense_Set_Add_p0i_ir i n l = some (rAddOk n L i, l') ∧ Rp n l' (rAdd n L i) := by
  obtain ⟨l', h1, h2, h3⟩ := Add_some h.ds i
  have hm := h.mm i
  have e : (decide (0 ≤ i ∧ i < n) && !mem l i.toNat) = rAddOk n L i := by
    unfold rAddOk
    rw [Bool.eq_iff_iff, Bool.and_eq_true, decide_eq_true_eq, decide_eq_true_eq, hm]
    constructor
    · rintro ⟨h5, h6⟩
      exact ⟨h5, fun h7 => by rw [h7.2] at h6; cases h6⟩
    · rintro ⟨h5, h6⟩
      refine ⟨h5, ?_⟩
      cases h7 : mem l i.toNat with
      | false => rfl
      | true => exact absurd ⟨h5.1, h7⟩ h6
  refine ⟨l', by rw [h1, e], h2, ?_, fun x => ?_⟩
  · unfold rAdd
    split
    · rename_i h4
      exact ins_rs _ _ h.rs h4.2
    · exact h.rs
  · rw [h3]
    unfold rAdd
    split
    · rename_i h4
      rw [ins_mem, h.mm, Bool.or_eq_true, decide_eq_true_eq]
      constructor
      · rintro (rfl | h5)
        · exact ⟨h4.1.1, .inr ⟨h4.1, rfl⟩⟩
        · exact ⟨h5.1, .inl h5.2⟩
      · rintro ⟨h5, h6 | h6⟩
        · exact .inr ⟨h5, h6⟩
        · exact .inl (by omega)
    · rename_i h4
      rw [h.mm, Bool.or_eq_true, decide_eq_true_eq]
      constructor
      · exact fun h5 => ⟨h5.1, .inl h5.2⟩
      · rintro ⟨h5, h6 | h6⟩
        · exact ⟨h5, h6⟩
        · have hx : x = i := by omega
          subst hx
          refine ⟨h5, ?_⟩
          cases h7 : mem l x.toNat with
          | true => rfl
          | false => exact absurd ⟨h6.1, fun h8 => by rw [(hm.1 h8).2] at h7; cases h7⟩ h4
theorem rDel_len {L : List Int} (i : Int) : decide ((rDel L i).length < L.length) = decide (i ∈ L) := by
  unfold rDel
  rw [Bool.eq_iff_iff, decide_eq_true_eq, decide_eq_true_eq, List.length_filter_lt_length_iff_exists]
  simp
theorem Rp.del {n : Nat} {l L : List Int} (h : Rp n l L) (i : Int) : ∃ l', fn_dense_Set_Del_p0i_ir i n l = some (rHas L i, l') ∧ Rp n l' (rDel L i) := by
  obtain ⟨l', h1, h2, h3⟩ := Del_some h.ds i
  have hh := h.has i
  rw [Has_some h.ds] at hh
  refine ⟨l', by rw [h1]; exact congrArg (Option.map (·, l')) hh, h2, List.Pairwise.filter _ h.rs, fun x => ?_⟩
  unfold rDel
  rw [h3, List.mem_filter, h.mm, Bool.and_eq_true]
  simp only [Bool.not_eq_true', decide_eq_false_iff_not]
  constructor
  · rintro ⟨⟨h5, h6⟩, h7⟩
    exact ⟨h5, h6, fun h8 => h7 (by omega)⟩
  · rintro ⟨h5, h6, h7⟩
    refine ⟨⟨h5, h6⟩, fun h8 => h7 ⟨?_, by rw [h8]⟩⟩
    have := lt_of_mem h.ds h6
    omega
theorem Rp.count {n : Nat} {l L : List Int} (h : Rp n l L) : fn_dense_Set_Count (some ((n : Int), l)) = some ((L.length : Nat) : Int) := by
  rw [Count_some h.ds, h.len]
theorem Rp.list {n : Nat} {l L : List Int} (h : Rp n l L) : fn_dense_Set_List_p0_ir n l = some (L, l) := by
  rw [List_some h.ds, h.eq]
theorem find_of {i r : Int} : ∀ {L : List Int}, L.Pairwise (· < ·) → ((r = -1 ∧ ∀ x ∈ L, ¬ i ≤ x) ∨ (r ∈ L ∧ i ≤ r ∧ ∀ x ∈ L, i ≤ x → r ≤ x)) → (L.find? (fun x => decide (i ≤ x))).getD (-1) = r
  | [], _, h => by
    rcases h with h | h
    · simp [h.1]
    · simp at h
  | x :: L, hs, h => by
    obtain ⟨h1, h2⟩ := List.pairwise_cons.1 hs
    by_cases hx : i ≤ x
    · rcases h with h | h
      · exact absurd hx (h.2 x (by simp))
      · rw [List.find?_cons_of_pos (by simpa using hx)]
        have := h.2.2 x (by simp) hx
        rcases List.mem_cons.1 h.1 with rfl | h3
        · rfl
        · have := h1 r h3; omega
    · rw [List.find?_cons_of_neg (by simpa using hx)]
      refine find_of h2 ?_
      rcases h with h | h
      · exact .inl ⟨h.1, fun y hy => h.2 y (by simp [hy])⟩
      · refine .inr ⟨?_, h.2.1, fun y hy => h.2.2 y (by simp [hy])⟩
        rcases List.mem_cons.1 h.1 with rfl | h3
        · exact absurd h.2.1 hx
        · exact h3
theorem Rp.next {n : Nat} {l L : List Int} (h : Rp n l L) (i : Int) : fn_dense_Set_Next (some ((n : Int), l)) i = some ((L.find? (fun x => decide (i ≤ x))).getD (-1)) := by
  obtain ⟨r, h1, h2⟩ := Next_some h.ds i
  rw [h1, find_of (r := r) h.rs]
  rcases h2 with ⟨rfl, h2⟩ | ⟨k, rfl, h2, h3, h4⟩
  · refine .inl ⟨rfl, fun x hx hi => ?_⟩
    have := (h.mm x).1 hx
    rw [h2 x.toNat (by omega)] at this
    cases this.2
  · refine .inr ⟨(h.mm _).2 ⟨Int.natCast_nonneg _, by simpa using h3⟩, h2, fun x hx hi => ?_⟩
    have := (h.mm x).1 hx
    rcases Nat.lt_or_ge x.toNat k with h5 | h5
    · rw [h4 x.toNat (by omega) h5] at this
      cases this.2
    · omega
theorem Rp.within {n m : Nat} {l l' L L' : List Int} (h : Rp n l L) (h' : Rp m l' L') : fn_dense_Within (some ((n : Int), l)) (some ((m : Int), l')) = some (L.all (fun x => decide (x ∈ L'))) := by
  rw [Within_some h.ds h'.ds]
  congr 1
  rw [← h.eq]
  unfold liN
  rw [List.all_map]
  congr 1
  funext k
  show mem l' k = decide (((k : Nat) : Int) ∈ L')
  rw [Bool.eq_iff_iff, decide_eq_true_eq, h'.mm]
  simp
end Go.Proofs.YticfjbmafkjmaaaDoor
namespace Go.Proofs.YticfjbmafkjmaaaDoor
open Go.RowKit
set_option linter.unusedVariables false
set_option linter.unusedSimpArgs false
set_option linter.unnecessarySimpa false
theorem andn_word (x y : Nat) (hx : x < 18446744073709551616) (hy : y < 18446744073709551616) : IntKind.wrap .u64 ((BitVec.ofInt (IntKind.bits .u64) (x : Int) &&& ~~~BitVec.ofInt (IntKind.bits .u64) (y : Int)).toNat : Int) = 0 ↔ ∀ i, x.testBit i = true → y.testBit i = true := by
  have e : IntKind.wrap .u64 ((BitVec.ofInt (IntKind.bits .u64) (x : Int) &&& ~~~BitVec.ofInt (IntKind.bits .u64) (y : Int)).toNat : Int) = (((BitVec.ofNat 64 x &&& ~~~BitVec.ofNat 64 y).toNat : Nat) : Int) := by
    show IntKind.wrap .u64 ((BitVec.ofInt 64 (x : Int) &&& ~~~BitVec.ofInt 64 (y : Int)).toNat : Int) = _
    rw [ofInt_nat, ofInt_nat]
    exact wrapU _ (BitVec.isLt _)
  have hb : ∀ i, (BitVec.ofNat 64 x &&& ~~~BitVec.ofNat 64 y).toNat.testBit i = (x.testBit i && !y.testBit i) := fun i => by
    rw [BitVec.testBit_toNat, BitVec.getLsbD_and, BitVec.getLsbD_not, BitVec.getLsbD_ofNat, BitVec.getLsbD_ofNat]
    by_cases hj : i < 64
    · simp [hj]
    · have : x.testBit i = false := Nat.testBit_lt_two_pow (Nat.lt_of_lt_of_le hx (show 2 ^ 64 ≤ 2 ^ i from Nat.pow_le_pow_right (by decide) (by omega)))
      simp [hj, this]
  rw [e]
  constructor
  · intro h i hi
    have h0 : (BitVec.ofNat 64 x &&& ~~~BitVec.ofNat 64 y).toNat = 0 := by omega
    have := hb i
    rw [h0, Nat.zero_testBit, hi] at this
    cases hy : y.testBit i with
    | true => rfl
    | false => rw [hy] at this; cases this
  · intro h
    have h0 : (BitVec.ofNat 64 x &&& ~~~BitVec.ofNat 64 y).toNat = 0 := Nat.eq_of_testBit_eq fun i => by
      rw [hb, Nat.zero_testBit]
      cases hx : x.testBit i with
      | false => rfl
      | true => rw [h i hx]; rfl
    rw [h0]
    rfl
theorem mem_word {l : List Int} {q x : Nat} (h : l[q]? = some (x : Int)) (i : Nat) (hi : i < 64) : mem l (64 * q + i) = x.testBit i := by
  have h1 : (64 * q + i) / 64 = q := by omega
  have h2 : (64 * q + i) % 64 = i := by omega
  rw [mem_of (x := x) (by rw [h1]; exact h), h2]
/-- Or, of two sets of a size. -/
theorem Or_same {n : Nat} {l l' : List Int} (h : Ds n l) (h' : Ds n l') : ∃ c q, fn_dense_Set_Or_p0p1_ir_ir n l n l' = some (c, q, l') ∧ Ds n q ∧ (∀ j, mem q j = (mem l j || mem l' j)) ∧ (c = true ↔ ∃ j, mem l' j = true ∧ mem l j = false) := by
  have hn := h.hn
  have hl := h.len
  have hl' := h'.len
  have wordOf : ∀ {n : Nat} {l : List Int}, (∀ w ∈ l, Wd w) → ∀ (k : Nat) (hk : k < l.length), ∃ x : Nat, l[k] = (x : Int) ∧ x < 18446744073709551616 := fun hw k hk => by
    have := hw _ (List.getElem_mem hk)
    unfold Wd at this
    exact ⟨_, (Int.toNat_of_nonneg this.1).symm, by omega⟩
  have key := loop_inv (body := fn_dense_Set_Or_p0p1_ir_ir_l1 l') (fun s => ∃ k : Nat, k ≤ l'.length ∧ s.2.1 = (k : Int) ∧ s.2.2.length = l.length ∧ (∀ w ∈ s.2.2, Wd w) ∧ (∀ j, mem s.2.2 j = if j / 64 < k then mem l j || mem l' j else mem l j) ∧ (s.1 = true ↔ ∃ j, j / 64 < k ∧ mem l' j = true ∧ mem l j = false)) (fun s => l'.length - s.2.1.toNat)
    (Q := fun r => r.2.length = l.length ∧ (∀ w ∈ r.2, Wd w) ∧ (∀ j, mem r.2 j = (mem l j || mem l' j)) ∧ (r.1 = true ↔ ∃ j, mem l' j = true ∧ mem l j = false)) ?_ (s := (false, (0 : Int), l)) ⟨0, Nat.zero_le _, rfl, rfl, h.wd, fun j => by simp, by simp⟩
  · obtain ⟨⟨c, q⟩, hlp, q1, q2, q3, q4⟩ := key
    refine ⟨c, q, ?_, ⟨hn, by rw [q1]; exact hl, q2, fun j hj => ?_⟩, q3, q4⟩
    · unfold fn_dense_Set_Or_p0p1_ir_ir
      rw [hlp]
      simp
    · rw [q3, h.top j hj, h'.top j hj]; rfl
  · rintro ⟨c, i, q⟩ ⟨k, hk, rfl, g1, g2, g3, g4⟩
    dsimp only at g1 g2 g3 g4 ⊢
    unfold fn_dense_Set_Or_p0p1_ir_ir_l1
    by_cases hkl : k < l'.length
    · left
      have hkq : k < q.length := by omega
      obtain ⟨x, hx, hx2⟩ := wordOf (n := n) h'.wd k hkl
      obtain ⟨y, hy, hy2⟩ := wordOf (n := n) g2 k hkq
      have hxs : l'[k]? = some (x : Int) := by rw [List.getElem?_eq_getElem hkl, hx]
      have hys : q[k]? = some (y : Int) := by rw [List.getElem?_eq_getElem hkq, hy]
      have hmy : ∀ j, j / 64 = k → mem l j = y.testBit (j % 64) := fun j hj => by
        have := g3 j
        rw [if_neg (by omega), mem_of (by rw [hj]; exact hys)] at this
        exact this.symm
      have hmx : ∀ j, j / 64 = k → mem l' j = x.testBit (j % 64) := fun j hj => mem_of (by rw [hj]; exact hxs)
      have ha := andn_word x y hx2 hy2
      simp only [dlt hkl, cond_true, getN hkl, getN hkq, hx, hy, Option.bind_some, w64s hkl (by omega), Int.toNat_natCast]
      by_cases hz : IntKind.wrap .u64 ((BitVec.ofInt (IntKind.bits .u64) (x : Int) &&& ~~~BitVec.ofInt (IntKind.bits .u64) (y : Int)).toNat : Int) = 0
      · have hsub := ha.1 hz
        have hsub2 : ∀ j, j / 64 = k → mem l' j = true → mem l j = true := fun j hj hm => by
          rw [hmx j hj] at hm
          rw [hmy j hj]
          exact hsub _ hm
        refine ⟨(c, ((k + 1 : Nat) : Int), q), by rw [decide_eq_true hz]; rfl, ⟨k + 1, by omega, rfl, g1, g2, fun j => ?_, ?_⟩, ?_⟩
        · rw [g3]
          by_cases h1 : j / 64 < k
          · rw [if_pos h1, if_pos (by omega)]
          · rw [if_neg h1]
            by_cases h2 : j / 64 = k
            · rw [if_pos (by omega)]
              cases hm : mem l' j with
              | false => simp
              | true => rw [hsub2 j h2 hm]; rfl
            · rw [if_neg (by omega)]
        · rw [g4]
          constructor
          · rintro ⟨j, h1, h2⟩; exact ⟨j, by omega, h2⟩
          · rintro ⟨j, h1, h2, h3⟩
            by_cases h4 : j / 64 = k
            · rw [hsub2 j h4 h2] at h3; cases h3
            · exact ⟨j, by omega, h2, h3⟩
        · show l'.length - ((k + 1 : Nat) : Int).toNat < l'.length - ((k : Nat) : Int).toNat
          rw [Int.toNat_natCast, Int.toNat_natCast]; omega
      · have hw : IntKind.wrap .u64 ((BitVec.ofInt (IntKind.bits .u64) (y : Int) ||| BitVec.ofInt (IntKind.bits .u64) (x : Int)).toNat : Int) = ((y ||| x : Nat) : Int) := orU y x hy2 hx2
        have hex : ∃ i, x.testBit i = true ∧ y.testBit i = false := by
          refine Classical.byContradiction fun hc => hz (ha.2 fun i hi => ?_)
          cases hyi : y.testBit i with
          | true => rfl
          | false => exact absurd ⟨i, hi, hyi⟩ hc
        obtain ⟨i, hi1, hi2⟩ := hex
        have hi64 : i < 64 := by
          rcases Nat.lt_or_ge i 64 with h1 | h1
          · exact h1
          · rw [Nat.testBit_lt_two_pow (Nat.lt_of_lt_of_le hx2 (show 2 ^ 64 ≤ 2 ^ i from Nat.pow_le_pow_right (by decide) h1))] at hi1
            cases hi1
        refine ⟨(true, ((k + 1 : Nat) : Int), q.set k ((y ||| x : Nat) : Int)), by rw [decide_eq_false hz, hw]; rfl, ⟨k + 1, by omega, rfl, by rw [List.length_set]; exact g1, fun w hw => ?_, fun j => ?_, ?_⟩, ?_⟩
        · rcases List.mem_or_eq_of_mem_set hw with hw | rfl
          · exact g2 w hw
          · have := Nat.or_lt_two_pow (n := 64) hy2 hx2
            unfold Wd
            omega
        · dsimp only
          rw [mem_set hys]
          by_cases h2 : j / 64 = k
          · rw [if_pos h2, if_pos (by omega), Nat.testBit_or, hmy j h2, hmx j h2]
          · rw [if_neg h2, g3]
            by_cases h1 : j / 64 < k
            · rw [if_pos h1, if_pos (by omega)]
            · rw [if_neg h1, if_neg (by omega)]
        · refine ⟨fun _ => ⟨64 * k + i, by omega, ?_, ?_⟩, fun _ => rfl⟩
          · rw [hmx _ (by omega), show (64 * k + i) % 64 = i by omega]; exact hi1
          · rw [hmy _ (by omega), show (64 * k + i) % 64 = i by omega]; exact hi2
        · show l'.length - ((k + 1 : Nat) : Int).toNat < l'.length - ((k : Nat) : Int).toNat
          rw [Int.toNat_natCast, Int.toNat_natCast]; omega
    · right
      have e : k = l'.length := by omega
      subst e
      have hlt : ∀ j, mem l' j = true → j / 64 < l'.length := fun j hj => by
        have := lt_of_mem h' hj
        omega
      refine ⟨(c, q), by simp, g1, g2, fun j => ?_, ?_⟩
      · rw [g3]
        by_cases h1 : j / 64 < l'.length
        · rw [if_pos h1]
        · rw [if_neg h1]
          cases hm : mem l' j with
          | false => simp
          | true => exact absurd (hlt j hm) h1
      · rw [g4]
        constructor
        · rintro ⟨j, _, h2⟩; exact ⟨j, h2⟩
        · rintro ⟨j, h2⟩; exact ⟨j, hlt j h2.1, h2⟩
theorem Or_unlike {n m : Nat} (h : n ≠ m) (l l' : List Int) : fn_dense_Set_Or_p0p1_ir_ir n l m l' = some (false, l, l') := by
  unfold fn_dense_Set_Or_p0p1_ir_ir
  have : ¬ ((n : Int) = (m : Int)) := by omega
  simp [this]
/-! ### The reference's Or. -/
theorem rAdd_rs {s : Int} {L : List Int} (h : L.Pairwise (· < ·)) (i : Int) : (rAdd s L i).Pairwise (· < ·) := by
  unfold rAdd
  split
  · rename_i h4; exact ins_rs _ _ h h4.2
  · exact h
theorem rAdd_mem {s : Int} {L : List Int} (i x : Int) : x ∈ rAdd s L i ↔ x ∈ L ∨ (x = i ∧ 0 ≤ i ∧ i < s) := by
  unfold rAdd
  split
  · rename_i h4
    rw [ins_mem]
    constructor
    · rintro (h | h)
      · exact .inr ⟨h, h4.1⟩
      · exact .inl h
    · rintro (h | h)
      · exact .inr h
      · exact .inl h.1
  · rename_i h4
    constructor
    · exact .inl
    · rintro (h | ⟨rfl, h⟩)
      · exact h
      · refine Classical.byContradiction fun h5 => h4 ⟨h, h5⟩
theorem rOr_rs (s : Int) : ∀ (l L : List Int), L.Pairwise (· < ·) → (rOr s L l).1.Pairwise (· < ·)
  | [], _, h => h
  | x :: l, L, h => rOr_rs s l _ (rAdd_rs h x)
theorem rOr_mem (s : Int) (x : Int) : ∀ (l L : List Int), x ∈ (rOr s L l).1 ↔ x ∈ L ∨ (x ∈ l ∧ 0 ≤ x ∧ x < s)
  | [], L => by simp [rOr]
  | y :: l, L => by
    unfold rOr
    dsimp only
    rw [rOr_mem s x l, rAdd_mem, List.mem_cons]
    constructor
    · rintro ((h | ⟨h, h2⟩) | ⟨h, h2⟩)
      · exact .inl h
      · subst h; exact .inr ⟨.inl rfl, h2⟩
      · exact .inr ⟨.inr h, h2⟩
    · rintro (h | ⟨h | h, h2⟩)
      · exact .inl (.inl h)
      · subst h; exact .inl (.inr ⟨rfl, h2⟩)
      · exact .inr ⟨h, h2⟩
theorem rOr_ok (s : Int) : ∀ (l L : List Int), (rOr s L l).2 = true ↔ ∃ x ∈ l, (0 ≤ x ∧ x < s) ∧ x ∉ L
  | [], L => by simp [rOr]
  | y :: l, L => by
    unfold rOr
    dsimp only
    rw [Bool.or_eq_true, rOr_ok s l]
    unfold rAddOk
    rw [decide_eq_true_eq]
    constructor
    · rintro (h | ⟨x, h1, h2, h3⟩)
      · exact ⟨y, by simp, h⟩
      · exact ⟨x, by simp [h1], h2, fun h => h3 ((rAdd_mem _ _).2 (.inl h))⟩
    · rintro ⟨x, h1, h2, h3⟩
      by_cases hy : (0 ≤ y ∧ y < s) ∧ y ∉ L
      · exact .inl hy
      · rcases List.mem_cons.1 h1 with rfl | h1
        · exact absurd ⟨h2, h3⟩ hy
        · refine .inr ⟨x, h1, h2, fun h => ?_⟩
          rcases (rAdd_mem _ _).1 h with h | ⟨rfl, h⟩
          · exact h3 h
          · exact hy ⟨h, h3⟩
/-- Or. -/
theorem Rp.or {n m : Nat} {l l' L L' : List Int} (h : Rp n l L) (h' : Rp m l' L') : ∃ q, fn_dense_Set_Or_p0p1_ir_ir n l m l' = some (decide ((n : Int) = (m : Int)) && (rOr n L L').2, q, l') ∧ Rp n q (if (n : Int) = (m : Int) then (rOr n L L').1 else L) := by
  by_cases e : n = m
  · subst e
    obtain ⟨c, q, h1, h2, h3, h4⟩ := Or_same h.ds h'.ds
    refine ⟨q, ?_, ?_⟩
    · rw [h1]
      have : c = (rOr n L L').2 := by
        rw [Bool.eq_iff_iff, h4, rOr_ok]
        constructor
        · rintro ⟨j, h5, h6⟩
          have := lt_of_mem h'.ds h5
          refine ⟨(j : Int), (h'.mm _).2 ⟨Int.natCast_nonneg _, by simpa using h5⟩, ⟨Int.natCast_nonneg _, by omega⟩, fun h7 => ?_⟩
          have := ((h.mm _).1 h7).2
          rw [Int.toNat_natCast, h6] at this
          cases this
        · rintro ⟨x, h5, h6, h7⟩
          refine ⟨x.toNat, ((h'.mm _).1 h5).2, ?_⟩
          cases h8 : mem l x.toNat with
          | false => rfl
          | true => exact absurd ((h.mm x).2 ⟨h6.1, h8⟩) h7
      rw [this]
      simp
    · rw [if_pos rfl]
      refine ⟨h2, rOr_rs _ _ _ h.rs, fun x => ?_⟩
      rw [rOr_mem, h3, Bool.or_eq_true, h.mm, h'.mm]
      constructor
      · rintro (h5 | ⟨h5, h6⟩)
        · exact ⟨h5.1, .inl h5.2⟩
        · exact ⟨h5.1, .inr h5.2⟩
      · rintro ⟨h5, h6 | h6⟩
        · exact .inl ⟨h5, h6⟩
        · have := lt_of_mem h'.ds h6
          exact .inr ⟨⟨h5, h6⟩, h5, by omega⟩
  · have e2 : ¬ ((n : Int) = (m : Int)) := by omega
    rw [Or_unlike e, if_neg e2, decide_eq_false e2]
    exact ⟨l, rfl, h⟩
/-- Clone. -/
theorem Clone_some {n : Nat} {l : List Int} (h : Ds n l) : fn_dense_Set_Clone_p0_ir n l = some (l, l) := by
  have hn := h.hn
  have hl := h.len
  unfold fn_dense_Set_Clone_p0_ir
  have hm : (mk (((l.length : Nat) : Int)) (((l.length : Nat) : Int)) (0 : Int)) = some (List.replicate l.length 0) := by
    unfold mk
    rw [if_pos (by constructor <;> omega), Int.toNat_natCast]
  rw [hm]
  simp [cpy]
end Go.Proofs.YticfjbmafkjmaaaDoor
namespace Go.Proofs.YticfjbmafkjmaaaDoor
open Go.RowKit
set_option linter.unusedVariables false
set_option linter.unusedSimpArgs false
set_option linter.unnecessarySimpa false
/-! ### A nil set. -/
theorem Size_none : fn_dense_Set_Size none = some 0 := rfl
theorem mayHave_none (i : Int) : fn_dense_Set_mayHave none i = some false := by
  unfold fn_dense_Set_mayHave
  rw [Size_none]
  by_cases h : 0 ≤ i
  · have h2 : ¬ i < 0 := by omega
    simp [h, h2]
  · simp [h]
theorem Has_none (i : Int) : fn_dense_Set_Has none i = some false := by
  unfold fn_dense_Set_Has
  rw [mayHave_none]
  rfl
theorem Add_none (i : Int) : fn_dense_Set_Add_zi i = some false := by
  unfold fn_dense_Set_Add_zi
  rw [mayHave_none]
  rfl
theorem Count_none : fn_dense_Set_Count none = some 0 := rfl
theorem Next_none (i : Int) : fn_dense_Set_Next none i = some (-1) := by
  unfold fn_dense_Set_Next
  rw [mayHave_none]
  rfl
/-! ### The chapter's example. -/
theorem awake_1 : fn_dense_New_c70 = some (.inr (0, [0, 0])) := by kernel_rfl
theorem awake_2 : fn_dense_Set_Add_p0i_ir 3 70 [0, 0] = some (true, [8, 0]) := by kernel_rfl
theorem awake_3 : fn_dense_Set_Add_p0i_ir 69 70 [8, 0] = some (true, [8, 32]) := by kernel_rfl
theorem awake_4 : fn_dense_Set_Add_p0i_ir 70 70 [8, 32] = some (false, [8, 32]) := by kernel_rfl
theorem awake_5 : fn_dense_Set_Next (some (70, [8, 32])) 4 = some 69 := by
  have h : loop (fn_dense_Set_Next_l1 (70, [8, 32])) ((0 : Int), (0 : Int)) = some (.inl (1, 32)) := loop_of (n := 3) (by kernel_rfl)
  have e : fn_dense_Set_Next (some (70, [8, 32])) 4 = ((loop (fn_dense_Set_Next_l1 (70, [8, 32])) ((0 : Int), (0 : Int)) : Option ((Int × Int) ⊕ Int)).bind fun o => match o with | .inr r => some r | .inl (i262, i263) => (tzF i263).bind fun i330 => some (IntKind.wrap .i64 ((IntKind.wrap .i64 (i262 * 64)) + i330))) := by kernel_rfl
  have t : (tzF 32).bind (fun i330 => some (IntKind.wrap .i64 ((IntKind.wrap .i64 (1 * 64)) + i330))) = some 69 := by kernel_rfl
  rw [e, h]
  exact t
theorem awake_6 : fn_dense_Set_Count (some (70, [8, 32])) = some 2 := by
  have h : loop (fn_dense_Set_Count_l1 (70, [8, 32])) ((0 : Int), (0 : Int)) = some 2 := loop_of (n := 4) (by kernel_rfl)
  have e : fn_dense_Set_Count (some (70, [8, 32])) = (loop (fn_dense_Set_Count_l1 (70, [8, 32])) ((0 : Int), (0 : Int))).bind fun i => some i := rfl
  rw [e, h]
  rfl
theorem awake03 : fn_law03_awake = some true := by
  unfold fn_law03_awake
  rw [awake_1]
  simp only [Option.bind_some]
  rw [awake_2]
  simp only [Option.bind_some]
  rw [awake_3]
  simp only [Option.bind_some]
  rw [awake_4]
  simp only [Option.bind_some]
  rw [awake_5, awake_6]
  rfl
end Go.Proofs.YticfjbmafkjmaaaDoor

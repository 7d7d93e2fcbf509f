/- A part of the proof: what lies ahead of the law. Nothing is claimed here. -/
import Derived.Test.YtfdkbceponodmaaZ3
import Derived.RangeFuncRecord
import Derived.Shelf.Small.Bits
import Derived.Shelf.Small.Wraps
import Derived.Shelf.Strconv.Itoa0
import Derived.Shelf.Sort.Plain
import Derived.Shelf.Slices.Reverse
import Derived.Ground.Names2Prog
import Derived.Shelf.Slices.CompactI
import Derived.Shelf.Slices.SearchI
import Derived.Shelf.Slices.Cells
import Derived.Shelf.Slices.In.SortNone
import Derived.Shelf.Slices.Empties
import Derived.Test.YtfdkbceponodmaaProg
import Derived.Sort.OwnSortedInts
import Derived.Shelf.Spec.SlicesInsert
import Derived.Shelf.Spec.SlicesInsertGrow
import Derived.Shelf.Slices.Delete
import Derived.Test.YtfdkbceponodmaaRows
import Derived.Lib.RowBridge
namespace Go.Proofs.Ytfdkbceponodmaa
open Go.RowKit
set_option linter.unusedVariables false
set_option linter.unusedSimpArgs false
set_option linter.unnecessarySimpa false
set_option linter.unusedSectionVars false
variable [BldA]
/-! ### Marks at the end of a function. -/
def Hp.del (K : Hp) (D : Nat) : Hp := fun n => if n = D then none else K n
theorem Hp.cle_del {K : Hp} {D : Nat} {x : Option (List Deferred)} (h : K D = some (.deferred x)) : K.cle (K.del D) := fun g o v e => by
  unfold cellK Hp.del at *
  by_cases hg : g = D
  · subst hg; rw [h] at e; cases e
  · rw [if_neg hg]; exact e
section
variable {P : Program} {E : En} {n : Nat} {m : List M} {K : Hp} {fr : Frz} {σ : Zt} {ρ : Sl1} {w : World}
theorem Rel.unmark (hr : Rel E fr σ m K ρ w) {K2 : Hp} {w2 : World} (hc : K.cle K2) (hk : fr.K.le K2) (h0 : fr.k0.le K2) (hs : Sep E K2 (σ.atoms fr m) w2) : Rel E fr ⟨σ.base, σ.top, σ.H, σ.Hf, σ.nx, false⟩ m K2 ⟨ρ.f, []⟩ w2 where
  hm := hr.hm
  hK := hk
  nx := hr.nx
  kq := fun e => (by cases e)
  base := hr.base
  dead := hr.dead
  old := hr.old
  top := fun i sv hi => SV.monoC (fun _ _ h => h) hc sv (hr.top i sv hi)
  okH := fun a ha => HA.ok_monoC (fun _ _ h => h) hc (hr.okH a ha)
  okF := hr.okF
  mks := MOk.nil hr.mks.1.1 h0
  sep := hs
theorem marks_leave {fn : Func} {tmps : Array Value} {R : Ending → World → Prop} {L : List Atom} {k0 : Hp} : ∀ (ds : List Deferred) {K : Hp} {w : World}, MOk k0 K ds → Sep E K L w →
    (∀ K2 w2, K.cle K2 → k0.le K2 → Sep E K2 L w2 → ∃ v, (results fn tmps).run P w2 = .ok v w2 ∧ R (.returned v) w2) → LeavesInM Fence.wide 0 P fn tmps R ds .returning w
  | [], K, w, hm, hs, h => h K w (Hp.cle_refl K) hm.1.2 hs
  | d :: ds, K, w, hm, hs, h => by
    obtain ⟨D, rfl, hD, h0⟩ := hm.2.1 d (by simp)
    have hw : w.heap[D]? = some (.deferred (some [])) := hs.sub D _ hD
    have hnd := List.nodup_cons.1 hm.2.2
    refine ⟨by simp, .inl ⟨D, w.putObj D (.deferred none), rfl, run_takeDeferred hw, ?_⟩⟩
    have other : ∀ (k : Nat) (o : Obj), k ≠ D → w.heap[k]? = some o → (w.putObj D (.deferred none)).heap[k]? = some o := fun k o hne e => by rw [World.putObj_heap_other hne]; exact e
    have hs1 : Sep E (K.del D) L (w.putObj D (.deferred none)) := by
      refine Sep.move (w := w) (w' := w.putObj D (.deferred none)) (fun e => e) hs (fun k o e => ?_) (fun k o e e1 => ?_)
      · unfold Hp.del at e
        split at e
        · cases e
        · rename_i hne; exact other k o hne (hs.sub k o e)
      · have hne : k ≠ D := fun e2 => by rw [e2, hD] at e1; cases e1
        exact ⟨by unfold Hp.del; rw [if_neg hne]; exact e1, other k o hne e⟩
    refine marks_leave ds ⟨⟨hm.1.1, fun k o e => ?_⟩, fun d' hd' => ?_, hnd.2⟩ hs1 (fun K2 w2 c1 c2 c3 => h K2 w2 ((Hp.cle_del hD).trans c1) c2 c3)
    · unfold Hp.del
      rw [if_neg (fun e2 => by rw [e2, h0] at e; cases e)]
      exact hm.1.2 k o e
    · obtain ⟨D', rfl, h1, h2⟩ := hm.2.1 d' (List.mem_cons_of_mem _ hd')
      refine ⟨D', rfl, ?_, h2⟩
      unfold Hp.del
      rw [if_neg (fun e => hnd.1 (by rw [← e]; exact hd'))]
      exact h1
end
/-! ### Records of loops. -/
section
variable {P : Program} {E : En} {K : Hp} {L : List Atom} {w : World}
theorem LpA.at {l : Nat} {r : Loop} (h : Sep E K (LpA l r :: L) w) : w.heap[l]? = some (.loop r) := by
  obtain ⟨h1, rfl, hd, hs⟩ := h
  exact hs.sub l _ (Hp.join_right (one_of l _) (hd l _ (one_of l _)))
theorem LpA.put {l : Nat} {r r' : Loop} (h : Sep E K (LpA l r :: L) w) : Sep E K (LpA l r' :: L) (w.putObj l (.loop r')) := by
  have hw := LpA.at h
  have hlt := (Array.getElem?_eq_some_iff.1 hw).1
  refine Sep.turn h (fun e => e) (fun h1 hA hle => ?_)
  obtain rfl := hA
  refine ⟨one l (.loop r'), rfl, fun n o e => ?_, fun n o e e1 => ?_⟩
  · obtain ⟨rfl, rfl⟩ := one_some e
    exact ⟨World.putObj_heap_same hlt, fun e2 => by rw [one_of] at e2; cases e2⟩
  · have hne : n ≠ l := fun e2 => by subst e2; rw [one_of] at e1; cases e1
    rw [World.putObj_heap_other hne]; exact e
theorem enter_inner {l₀ : Nat} {r₀ : Loop} (h : w.heap[l₀]? = some (.loop r₀)) (fn : FuncId) (tmps : Array Value) (ps : Array Tmp) (assign body : Code) :
    (Instr.enterLoop fn tmps ps assign body (some l₀)).run P w =
      .ok (w.heap.size, []) (w.alloc (.loop { state := .ready, pending := none, fn, tmps, params := ps, assign, body, defers := r₀.defers })) := by
  unfold Instr.enterLoop
  simp only [Sem.run_bind, run_getLoop h, run_newObj_alloc, Result.andThen, Sem.run_pure]
/-- A new block of whatever kind. -/
theorem Sep.allocO (h : Sep E K L w) (o : Obj) : Sep E K ((fun hh => hh = one w.heap.size o) :: L) (w.alloc o) :=
  Sep.turn h.emp (fun e => e) (fun h0 ha _ => by
    unfold _root_.Go.Proofs.Ytfdkbceponodmaa.emp at ha; subst ha
    refine ⟨one w.heap.size o, rfl, fun n x e => ?_, fun n x e _ => ?_⟩
    · obtain ⟨rfl, rfl⟩ := one_some e
      exact ⟨World.alloc_heap_new w _, fun _ => Array.getElem?_eq_none (Nat.le_refl _)⟩
    · rw [Below.heap_alloc _ _ _ (lt_of_block e)]; exact e)
theorem Sep.known {o : Obj} {b : Nat} (h : Sep E K ((fun hh => hh = one b o) :: L) w) : Sep E (K.join (one b o)) L w ∧ K b = none := by
  obtain ⟨h1, rfl, hd, hs⟩ := h
  exact ⟨hs, hd b _ (one_of b o)⟩
end
/-! ### A round. -/
def busyR (r : Loop) : Loop := { r with state := .busy, pending := none }
/-- What a frame stands within. -/
def RdOk (E : En) (fr : Frz) : Prop := ∀ l, E.rd = some l → ∃ r, LpA l r ∈ fr.F
section
variable {R : Type} {P : Program} {E : En} {n : Nat} {m m' : List M} {K K' : Hp} {fr : Frz} {σ σ' : Zt} {ρ ρ' : Sl1} {w w' : World}
/-- What a piece of code does, run at states. -/
def Fok (P : Program) (n : Nat) (c : Code) (f : Hn P → Zt → (R : Type) → (Exit → Hn P → Zt → Option R) → Option R) : Prop :=
  ∀ (R : Type) (E : En) (fr : Frz), RdOk E fr → ∀ (h : Hn P) (σ : Zt) (k : Exit → Hn P → Zt → Option R) (r : R) (m : List M) (K : Hp) (ρ : Sl1) (w : World) (Q : Exit → Act → World → Prop), f h σ R k = some r → Rel E fr σ m K ρ w →
    (∀ e h' σ' m' K' ρ' w', Rel E fr σ' m' K' ρ' w' → Same σ σ' → k e h' σ' = some r → Q e (act1 n ρ') w') → c.wpIn (wideR E.rd) 0 P Q (act1 n ρ) w
def JOk (J : Rn P) : Prop := ∀ n c, Fok P n c (fun h σ R k => J n c R h σ k)
def setV : List Nat → List Value → Sl0 → Sl0
  | p :: ps, x :: xs, f => setV ps xs (upd f p x)
  | _, _, f => f
theorem frm_set {ρ : Sl0} {p : Nat} {v : Value} : (frm n ρ).setIfInBounds p v = frm n (upd ρ p v) := by
  have h := congrArg Act.tmps (Go.Proofs.Ytfdkbceponodmaa.put_act n ρ p v)
  unfold act Act.put at h
  exact h
theorem frm_foldl : ∀ (ps : List Nat) (xs : List Value) (ρ : Sl0), (ps.zip xs).foldl (fun t (q : Nat × Value) => t.setIfInBounds q.1 q.2) (frm n ρ) = frm n (setV ps xs ρ)
  | [], xs, ρ => rfl
  | p :: ps, [], ρ => rfl
  | p :: ps, x :: xs, ρ => by
    show (ps.zip xs).foldl _ ((frm n ρ).setIfInBounds p x) = _
    rw [frm_set]
    exact frm_foldl ps xs (upd ρ p x)
theorem setPs_rel : ∀ (ps : List Nat) {xs : List SV} {us : List Value} {f : Nat → SV} {ρ : Sl0}, SV.relL m K xs us → (∀ i, SV.rel m K (f i) (ρ i)) → ∀ i, SV.rel m K (setPs ps xs f i) (setV ps us ρ i)
  | [], xs, us, f, ρ, h, hf, i => hf i
  | p :: ps, [], us, f, ρ, h, hf, i => by
    obtain rfl := relL_nil h
    exact hf i
  | p :: ps, x :: xs, us, f, ρ, h, hf, i => by
    obtain ⟨u, r, rfl, h1, h2⟩ := relL_cons h
    refine setPs_rel ps (us := r) (ρ := upd ρ p u) h2 (fun j => ?_) i
    show SV.rel m K (bif Nat.beq j p then x else f j) (bif Nat.beq j p then u else ρ j)
    cases Nat.beq j p with
    | true => exact h1
    | false => exact hf j
theorem relL_len2 : ∀ {xs : List SV} {us : List Value}, SV.relL m K xs us → us.length = xs.length
  | [], us, h => by obtain rfl := relL_nil h; rfl
  | x :: xs, us, h => by
    obtain ⟨u, r, rfl, h1, h2⟩ := relL_cons h
    simp [relL_len2 h2]
theorem yldRun_ok {J : Rn P} (hJ : JOk J) {c : SV} {xs : List SV} {h : Hn P} {k : Hn P → Zt → Bool → Option R} {r : R} (hh : yldRun J σ c xs h k = some r) (hr : Rel E fr σ m K ρ w) {us : List Value} {v : Value} (hv : SV.rel m K c v) (hxs : SV.relL m K xs us) {X : Ending → World → Prop}
    (hX : ∀ h' σ' m' K' w' b, Rel E fr σ' m' K' ρ w' → Same σ σ' → k h' σ' b = some r → X (.returned (.bool b)) w') :
    ∃ l, v = .func (.yield l) #[] #[] ∧ ∃ fn tmps ao bo, (Instr.yield l us.toArray).run P w = .ok (.round l fn tmps ao bo) w ∧ RoundIn (wideR E.rd) 0 P l fn tmps ao bo w X := by
  unfold yldRun at hh
  split at hh
  · rename_i i n0 vs0 ps ao bo
    obtain ⟨l, rr, ρ0, rfl, hm, ht, hp, ha, hb, hvs⟩ := hv
    replace hh := bift hh; obtain ⟨hlen, hh⟩ := hh
    have hlen := Nat.eq_of_beq_eq_true hlen
    split at hh
    · rename_i H hq
      obtain ⟨a, ha', hmem, hperm⟩ := pick_spec hq
      obtain rfl := lpR_eq ha'
      have hsub : ∀ a ∈ H, a ∈ σ.H := fun a ha => hperm.symm.subset (List.mem_cons_of_mem _ ha)
      -- the record, ahead
      have hs0 : Sep E K (LpA l (LSt.ready.cr rr) :: (H.map (HA.conc m) ++ σ.fz fr)) w := by
        have := Sep.perm ((hperm.map (HA.conc m)).append_right (σ.fz fr)) hr.toSep
        simpa only [List.map_cons, HA.conc, hm, List.cons_append] using this
      have hw := LpA.at hs0
      have hy := run_yield (P := P) (args := us.toArray) hw (by
        show us.toArray.size = rr.params.size
        rw [hp, List.size_toArray, relL_len2 hxs, hlen])
      refine ⟨l, rfl, _, _, _, _, hy, roundIn_of_wpIn trivial ?_⟩
      have htm : (((LSt.ready.cr rr).params.zip us.toArray).foldl (fun tmps (t, a) => tmps.setIfInBounds t a) (LSt.ready.cr rr).tmps) = frm n0 (setV ps.toList us ρ0) := by
        show ((rr.params.zip us.toArray).foldl _ rr.tmps) = _
        rw [hp, ht, ← Array.foldl_toList, Array.toList_zip]
        exact frm_foldl ps.toList us ρ0
      rw [htm]
      show rr.assign.wpIn (wideR (some l)) 0 P _ (act1 n0 ⟨setV ps.toList us ρ0, []⟩) w
      rw [ha]
      have hE : ∀ (L : List Atom) (K : Hp) (w : World), Sep E K L w → Sep { E with rd := some l } K L w := fun L K w => Sep.rd (E := E) (E' := { E with rd := some l }) (fun w h => h)
      have hE' : ∀ (L : List Atom) (K : Hp) (w : World), Sep { E with rd := some l } K L w → Sep E K L w := fun L K w => Sep.rd (E := { E with rd := some l }) (E' := E) (fun w h => h)
      have mid : ∀ (A B C : List Atom) (x : Atom), (A ++ (B ++ x :: C)).Perm (x :: (A ++ (B ++ C))) := fun A B C x => by
        rw [← List.append_assoc, ← List.append_assoc]; exact List.perm_middle
      have hrel : Rel { E with rd := some l } ⟨m, K, ⟨setV ps.toList us ρ0, []⟩, fun _ => false, LpA l (LSt.ready.cr rr) :: fr.F, K⟩ ⟨setPs ps.toList xs vs0, [], H, σ.Hf, σ.nx, false⟩ m K ⟨setV ps.toList us ρ0, []⟩ w := by
        refine ⟨⟨List.prefix_refl m, Hp.le_refl K, hr.nx, fun e => (by cases e), fun i => setPs_rel ps.toList hxs hvs i, fun i e => (by cases e), fun i _ => .inr rfl, fun i sv e => (by cases e), fun a ha => hr.okH a (hsub a ha), fun a ha => hr.toPur.all a (List.mem_append_right _ ha), MOk.nil hr.mks.gk (Hp.le_refl K)⟩, ?_⟩
        show Sep _ K (H.map (HA.conc m) ++ (σ.Hf.map (HA.conc m) ++ (LpA l (LSt.ready.cr rr) :: fr.F))) w
        refine hE _ _ _ (Sep.perm (mid _ _ _ _).symm ?_)
        rw [hr.toPur.fz']
        exact hs0
      refine hJ n0 ao _ { E with rd := some l } ⟨m, K, ⟨setV ps.toList us ρ0, []⟩, fun _ => false, LpA l (LSt.ready.cr rr) :: fr.F, K⟩ (by intro l2 e; cases e; exact ⟨_, List.mem_cons_self⟩) h _ _ r m K _ w _ hh hrel (fun e h' σ1 m1 K1 ρ1 w1 h1 h2 h3 => ?_)
      cases e with
      | normal =>
        have hs1 : Sep E K1 (LpA l (LSt.ready.cr rr) :: (σ1.H.map (HA.conc m1) ++ (σ1.Hf.map (HA.conc m) ++ fr.F))) w1 := Sep.perm (mid _ _ _ _) (hE' _ _ _ h1.sep)
        have hw1 := LpA.at hs1
        refine ⟨w1.putObj l (.loop (busyR rr)), run_beginRound hw1 rfl, ?_⟩
        have hs2 := LpA.put (r' := (busyR rr)) hs1
        have hrel2 : Rel { E with rd := some l } ⟨m, K, ⟨setV ps.toList us ρ0, []⟩, fun _ => false, LpA l (busyR rr) :: fr.F, K⟩ σ1 m1 K1 ρ1 (w1.putObj l (.loop (busyR rr))) :=
          ⟨⟨h1.hm, h1.hK, h1.nx, h1.kq, h1.base, h1.dead, h1.old, h1.top, h1.okH, h1.okF, h1.mks⟩, hE _ _ _ (Sep.perm (mid _ _ _ _).symm hs2)⟩
        show (LSt.ready.cr rr).body.wpIn (wideR (some l)) 0 P _ (act1 n0 ρ1) _
        rw [show (LSt.ready.cr rr).body = bo from hb]
        refine hJ n0 bo _ { E with rd := some l } ⟨m, K, ⟨setV ps.toList us ρ0, []⟩, fun _ => false, LpA l (busyR rr) :: fr.F, K⟩ (by intro l2 e; cases e; exact ⟨_, List.mem_cons_self⟩) h' σ1 _ r m1 K1 ρ1 _ _ h3 hrel2 (fun e2 h'' σ2 m2 K2 ρ2 w2 g1 g2 g3 => ?_)
        have hs3 : Sep E K2 (LpA l (busyR rr) :: (σ2.H.map (HA.conc m2) ++ (σ2.Hf.map (HA.conc m) ++ fr.F))) w2 := Sep.perm (mid _ _ _ _) (hE' _ _ _ g1.sep)
        have hw3 := LpA.at hs3
        have back : ∀ (s : LSt) (b : Bool) (jump : Option Code), exLst e2 = some (b, s) → b = jump.isNone → s.cr rr = { busyR rr with state := if jump.isNone then .ready else .done, pending := jump } →
            ∃ v w', (Instr.endRound l jump).run P w2 = .ok v w' ∧ X (.returned v) w' := fun s b jump e1 e2 e3 => by
          subst e2
          rw [e1] at g3
          simp only at g3
          refine ⟨_, _, run_endRound jump hw3, ?_⟩
          refine hX h'' ⟨σ.base, σ.top, .lp i s :: σ2.H, σ.Hf, σ2.nx, false⟩ m2 K2 _ _ ?_ ⟨rfl, rfl⟩ g3
          have hm2 : m <+: m2 := g1.hm
          have hK2 : K.le K2 := g1.hK
          have hm2' : ∀ (i : Nat) (x : M), m[i]? = some x → m2[i]? = some x := fun _ _ k => pre_get hm2 k
          refine ⟨⟨hr.hm.trans hm2, hr.hK.trans hK2, g1.nx, fun e => (by cases e), hr.base, hr.dead, hr.old, fun i sv hi => SV.mono hm2' hK2 sv (hr.top i sv hi), fun a ha => ?_, hr.okF, hr.mks.mono hK2⟩, ?_⟩
          · rcases List.mem_cons.1 ha with rfl | ha
            · exact ⟨l, rr, hm2' _ _ hm⟩
            · exact g1.okH a ha
          · have := LpA.put (r' := s.cr rr) hs3
            have hHf : σ2.Hf = σ.Hf := (h2.trans g2).2
            rw [hHf, hr.toPur.fz'] at this
            show Sep E K2 ((HA.lp i s :: σ2.H).map (HA.conc m2) ++ (σ.Hf.map (HA.conc fr.m) ++ fr.F)) _
            simp only [List.map_cons, HA.conc, hm2' _ _ hm, List.cons_append]
            rw [e3] at this ⊢
            exact this
        cases e2 with
        | normal => exact back .ready true none rfl rfl rfl
        | ret => exact back .ret false (some .ret) rfl rfl rfl
        | exit id => exact back (.exit id) false (some (.exit id)) rfl rfl rfl
        | goto t => cases g3
        | panic ch => cases g3
        | outgrown => cases g3
      | exit id => cases h3
      | goto t => cases h3
      | ret => cases h3
      | panic ch => cases h3
      | outgrown => cases h3
    · cases hh
  · cases hh
/-- Another post where an operation leaves. -/
theorem wpIn_post {F : Fence} {N : Nat} {o : Oper} {a : Act} {w : World} {X : Act → World → Prop} {Q Q' : Exit → Act → World → Prop} (hq : ∀ e a w, Q e a w → e ≠ .normal → Q' e a w) (hh : o.wpIn F N P a w X Q) : o.wpIn F N P a w X Q' := by
  unfold Oper.wpIn at *
  refine ⟨hh.1, ?_⟩
  have hh := hh.2
  have lo : LetsOut Q → LetsOut Q' := fun ⟨a, w, h⟩ => ⟨a, w, hq _ _ _ h nofun⟩
  generalize (o.semAt F.round a.eval).run P w = r at *
  cases r with
  | ok x w' =>
    cases x <;> simp only [Oper.uponIn] at hh ⊢ <;>
      first
        | exact hh
        | exact ⟨hh.1, CallsIn.mono hh.2 (fun e w'' he => by cases e <;> first | exact he | exact hq _ _ _ he nofun | exact lo he)⟩
        | exact ⟨hh.1, RowsIn.mono hh.2 (fun _ _ he => he)⟩
        | exact ⟨hh.1, RoundIn.mono hh.2 (fun e w'' he => by cases e <;> first | exact he | exact hq _ _ _ he nofun | exact lo he)⟩
        | exact hh.elim
  | halt x w' => cases x <;> simp only [Oper.uponIn] at hh ⊢ <;> first | exact hq _ _ _ hh nofun | exact lo hh | exact hh
/-- A list of plain operations ahead of others. -/
theorem wpListIn_app {r : Option Nat} {ops : Array Oper} {Q : Exit → Act → World → Prop} {rest : List Oper} : ∀ {l : List Oper} {a : Act} {w : World}, l.all nodf = true → wpLs P ops (fun e a w => e = .normal ∧ wpListIn (wideR r) 0 P ops Q rest a w) l a w → wpListIn (wideR r) 0 P ops Q (l ++ rest) a w
  | [], a, w, _, h => h.2
  | o :: l, a, w, hd, h => by
    simp only [List.all_cons, Bool.and_eq_true] at hd
    unfold wpLs at h
    rw [List.cons_append]
    unfold wpListIn
    split
    · rename_i hw; rw [if_pos hw] at h
      exact wpIn_post (fun e a w h hne => absurd h.1 hne) (Oper.wpIn_mono (fun a w h => wpListIn_app hd.2 h) (wpIn_of_wp hd.1 h))
    · rename_i hw; rw [if_neg hw] at h
      exact ⟨fun _ _ => trivial, wpListIn_app hd.2 h⟩
theorem relL_map {f : Operand → SV} {g : Operand → Value} (hf : ∀ x, SV.rel m K (f x) (g x)) : ∀ l : List Operand, SV.relL m K (l.map f) (l.map g)
  | [] => rfl
  | x :: l => ⟨_, _, rfl, hf x, relL_map hf l⟩
theorem yop_ok {J : Rn P} (hJ : JOk J) {o : Oper} {h : Hn P} {k : Hn P → Zt → Option R} {r : R} {ops : Array Oper} {rest : List Oper} {Q : Exit → Act → World → Prop} (hh : yop J n o h σ k = some r) (hr : Rel E fr σ m K ρ w)
    (hk : ∀ h' σ' m' K' ρ' w', Rel E fr σ' m' K' ρ' w' → Same σ σ' → k h' σ' = some r → wpListIn (wideR E.rd) 0 P ops Q rest (act1 n ρ') w') : wpListIn (wideR E.rd) 0 P ops Q (o :: rest) (act1 n ρ) w := by
  unfold yop at hh
  split at hh
  · rename_i d c args ats t pos af
    obtain ⟨l, hv, fn, tmps, ao, bo, hy, hround⟩ := yldRun_ok hJ hh hr (hr.toPur.ev n c) (relL_map (fun x => hr.toPur.evr n x) args.toList)
      (X := fun e w'' => match e with
        | .returned v => wpListIn (wideR E.rd) 0 P ops Q rest ((act1 n ρ).put (some d) v) w''
        | .panicked chain => Q (.panic chain) (act1 n ρ) w''
        | .outgrown => LetsOut Q)
      (fun h' σ' m' K' w' b h1 h2 h3 => by
        show wpListIn _ _ _ _ _ _ ((act1 n ρ).put (some d) (.bool b)) _
        rw [put_act1]
        exact hk h' _ m' K' _ w' (h1.set (d := d) (sv := .bool b) (v := .bool b) rfl) h2 h3)
    unfold wpListIn
    rw [if_pos (by simp [Region.wanted])]
    refine ⟨fun _ _ => trivial, ?_⟩
    rw [semR rfl, eval_act1]
    have hrun : (execOp (Go.Proofs.Ytfdkbceponodmaa.ev n ρ.f) ⟨some d, .call ⟨.value c, args, ats⟩, t, pos, af, none⟩).run P w = .ok (.round l fn tmps ao bo) w := by
      have e : (args.toList.map (Go.Proofs.Ytfdkbceponodmaa.ev n ρ.f)).toArray = args.map (Go.Proofs.Ytfdkbceponodmaa.ev n ρ.f) := Array.ext' (by rw [Array.toList_map])
      rw [e] at hy
      have hv' : Go.Proofs.Ytfdkbceponodmaa.ev n ρ.f c = .func (.yield l) #[] #[] := hv
      simp [execOp, resolve, Deferred.ofValue, hv', invoke, hy]
    rw [hrun, Oper.uponIn_round]
    refine ⟨fun hh => (by cases (show false = true from hh)), hround.mono (fun e w'' he => ?_)⟩
    cases e <;> exact he
  · cases hh
theorem slA_look : ∀ {vs : List SV} {us : List Value} {j i : Nat} {sv : SV}, SV.relL m K vs us → look (slA j vs) i = some sv → ∃ k u, i = j + k ∧ us[k]? = some u ∧ SV.rel m K sv u
  | [], us, j, i, sv, h, hl => by cases hl
  | v :: vs, us, j, i, sv, h, hl => by
    obtain ⟨u, q, rfl, h1, h2⟩ := relL_cons h
    change (bif Nat.beq j i then some v else look (slA (j + 1) vs) i) = some sv at hl
    cases hb : Nat.beq j i with
    | true =>
      rw [hb] at hl
      cases hl
      exact ⟨0, u, (Nat.eq_of_beq_eq_true hb).symm, rfl, h1⟩
    | false =>
      rw [hb] at hl
      obtain ⟨k, u', e1, e2, e3⟩ := slA_look (j := j + 1) h2 hl
      exact ⟨k + 1, u', by omega, by simpa using e2, e3⟩
theorem res_none {fn : Func} {tmps : Array Value} (h : fn.results.isEmpty = true) : ∃ v, (results fn tmps).run P w = .ok v w := by
  have h' : fn.results = #[] := by simpa using h
  refine ⟨.tuple #[], ?_⟩
  unfold results
  simp [h']
theorem rg_core {J : Rn P} (hJ : JOk J) {ps : Array Nat} {ao bo : Code} {h0 : Hn P} {k : Exit → Hn P → Zt → Option R} {r : R} {Q : Exit → Act → World → Prop} {q : ItFn P} {c : Code} (hc : q.fn.body = some c) {cs : List SV} {us : List Value} (hus : SV.relL m K cs us)
    (hres : q.fn.results.isEmpty = true) (hlen : cs.length + 1 ≤ q.fn.ntmps)
    (hh : J q.fn.ntmps c R h0 ⟨fun _ => .any, slA 0 (.yld σ.nx n σ.get ps ao bo :: cs), .lp σ.nx .ready :: σ.H, σ.Hf, σ.nx + 1, false⟩ (fun e h σ' =>
          bif exOver e then (match pick (HA.lpR σ.nx) σ'.H with
            | some (s, H) => LSt.go s k h ⟨σ.base, σ.top, H, σ.Hf, σ'.nx, false⟩
            | none => none) else none) = some r)
    (hr : Rel E fr σ m K ρ w) {l : Nat} {mark : List Deferred} {K1 : Hp} {w1 : World} {fn1 : FuncId} {D : Nat}
    (hs1 : Sep E K1 (LpA l { state := .ready, pending := none, fn := fn1, tmps := frm n ρ.f, params := ps, assign := ao, body := bo, defers := D } :: σ.atoms fr m) w1) (hK1 : K.le K1) (hm1 : MOk fr.k0 K1 (mark ++ ρ.ds))
    (hQ : ∀ e h' σ' m' K' ρ' w', Rel E fr σ' m' K' ρ' w' → Same σ σ' → k e h' σ' = some r → Q e (act1 n ρ') w') :
    CallsIn (wideR E.rd) 0 P q.f (#[.func (.yield l) #[] #[]] ++ us.toArray) w1 (rangePost (wideR E.rd) 0 P l Q { act1 n ρ with defers := mark ++ (act1 n ρ).defers }) := by
  obtain ⟨r1, hr1⟩ : ∃ r1 : Loop, r1 = { state := .ready, pending := none, fn := fn1, tmps := frm n ρ.f, params := ps, assign := ao, body := bo, defers := D } := ⟨_, rfl⟩
  rw [← hr1] at hs1
  obtain ⟨args, hargs⟩ : ∃ args : Array Value, args = (Value.func (.yield l) #[] #[] :: us).toArray := ⟨_, rfl⟩
  have hargs' : (#[.func (.yield l) #[] #[]] ++ us.toArray : Array Value) = args := by rw [hargs]; exact Array.ext' (by simp)
  rw [hargs']
  have hp := pre_app m [M.loop l r1]
  have hmm : ∀ (i : Nat) (x : M), m[i]? = some x → (m ++ [M.loop l r1])[i]? = some x := fun _ _ k => pre_get hp k
  have hgn : (m ++ [M.loop l r1])[σ.nx]? = some (.loop l r1) := get_new0 hr.nx
  have hsz : args.size ≤ q.fn.ntmps := by
    rw [hargs, List.size_toArray, List.length_cons, relL_len2 hus]
    exact hlen
  have hall : SV.relL (m ++ [M.loop l r1]) K1 (.yld σ.nx n σ.get ps ao bo :: cs) (Value.func (.yield l) #[] #[] :: us) :=
    ⟨_, _, rfl, ⟨l, r1, ρ.f, rfl, hgn, by rw [hr1], by rw [hr1], by rw [hr1], by rw [hr1], fun j => SV.mono hmm hK1 _ (hr.toPur.get j)⟩, SV.monoL hmm hK1 _ hus⟩
  have hrel : Rel E.out0 ⟨m ++ [M.loop l r1], K1, args1 args, fun _ => false, fr.F, K1⟩ ⟨fun _ => .any, slA 0 (.yld σ.nx n σ.get ps ao bo :: cs), .lp σ.nx .ready :: σ.H, σ.Hf, σ.nx + 1, false⟩ (m ++ [M.loop l r1]) K1 (args1 args) w1 := by
    refine ⟨⟨List.prefix_refl _, Hp.le_refl K1, by simp [hr.nx], fun e => (by cases e), fun i => trivial, fun i e => (by cases e), fun i _ => .inr rfl, fun i sv hi => ?_, fun a ha => ?_, fun a ha => HA.ok_mono hmm hK1 (hr.toPur.all a (List.mem_append_right _ ha)), MOk.nil hm1.gk (Hp.le_refl K1)⟩, ?_⟩
    · obtain ⟨j, u, e1, e2, e3⟩ := slA_look hall hi
      have : args1 args i = u := by
        show args0 args i = u
        unfold args0
        rw [e1, Nat.zero_add, hargs]
        simp [e2]
      rw [this]; exact e3
    · rcases List.mem_cons.1 ha with rfl | ha
      · exact ⟨l, r1, hgn⟩
      · exact HA.ok_mono hmm hK1 (hr.okH a ha)
    · show Sep E.out0 K1 ((HA.lp σ.nx .ready :: σ.H).map (HA.conc (m ++ [M.loop l r1])) ++ (σ.Hf.map (HA.conc (m ++ [M.loop l r1])) ++ fr.F)) w1
      have e1 : σ.H.map (HA.conc (m ++ [M.loop l r1])) = σ.H.map (HA.conc m) := map_conc_mono (K := K) hmm hr.okH
      have e2 : σ.Hf.map (HA.conc (m ++ [M.loop l r1])) = σ.Hf.map (HA.conc fr.m) := (map_conc_mono (K := K) hmm (fun a ha => hr.toPur.all a (List.mem_append_right _ ha))).trans hr.toPur.fz'
      rw [List.map_cons, e1, e2]
      have e3 : HA.conc (m ++ [M.loop l r1]) (.lp σ.nx .ready) = LpA l r1 := by
        simp only [HA.conc, hgn]
        rw [hr1]; rfl
      rw [e3]
      exact hs1.out0
  have key : CallsIn Fence.wide 0 P q.f args w1 (rangePost (wideR E.rd) 0 P l Q { act1 n ρ with defers := mark ++ (act1 n ρ).defers }) := by
    refine callsIn_of_wp_marks (F := Fence.wide) (n := 0) q.at_ hc trivial ?_
    rw [frm_args hsz]
    refine hJ q.fn.ntmps c R E.out0 ⟨m ++ [M.loop l r1], K1, args1 args, fun _ => false, fr.F, K1⟩ (fun l2 e => by cases e) h0 _ _ r _ K1 (args1 args) w1 _ hh hrel (fun e h' σ' m' K' ρ' w' h1 h2 h3 => ?_)
    replace h3 := bift h3; obtain ⟨hov, h3⟩ := h3
    have fini : LeavesInM Fence.wide 0 P q.fn (act1 q.fn.ntmps ρ').tmps (rangePost (wideR E.rd) 0 P l Q { act1 n ρ with defers := mark ++ (act1 n ρ).defers }) ρ'.ds .returning w' := by
      split at h3
      · rename_i s H hq
        obtain ⟨a, ha', hmem, hperm⟩ := pick_spec hq
        obtain rfl := lpR_eq ha'
        have hsub : ∀ a ∈ H, a ∈ σ'.H := fun a ha => hperm.symm.subset (List.mem_cons_of_mem _ ha)
        refine marks_leave ρ'.ds h1.mks h1.toSep (fun K2 w2 c1 c2 c3 => ?_)
        obtain ⟨v, hv⟩ := res_none (P := P) (w := w2) (tmps := (act1 q.fn.ntmps ρ').tmps) hres
        refine ⟨v, hv, ?_⟩
        have g := h1.unmark c1 c2 c2 c3
        have hmp : m ++ [M.loop l r1] <+: m' := g.hm
        have hgn' : m'[σ.nx]? = some (.loop l r1) := pre_get hmp hgn
        have hm2 : m <+: m' := hp.trans hmp
        have hm2' : ∀ (i : Nat) (x : M), m[i]? = some x → m'[i]? = some x := fun _ _ k => pre_get hm2 k
        have e2 : σ'.Hf.map (HA.conc (m ++ [M.loop l r1])) = σ.Hf.map (HA.conc fr.m) := by
          rw [h2.2]
          exact (map_conc_mono (K := K) hmm (fun a ha => hr.toPur.all a (List.mem_append_right _ ha))).trans hr.toPur.fz'
        have hs3 : Sep E K2 (LpA l (s.cr r1) :: (H.map (HA.conc m') ++ (σ.Hf.map (HA.conc fr.m) ++ fr.F))) w2 := by
          have := Sep.perm ((hperm.map (HA.conc m')).append_right (σ'.Hf.map (HA.conc (m ++ [M.loop l r1])) ++ fr.F)) c3.back
          rw [e2] at this
          simpa only [List.map_cons, HA.conc, hgn', List.cons_append] using this
        have hnb : (s.cr r1).state ≠ .busy := by cases s <;> simp [LSt.cr]
        refine ⟨_, _, run_endLoop (LpA.at hs3) hnb, ?_⟩
        have hs4 := (LpA.put (r' := { s.cr r1 with state := .exhausted }) hs3).drop
        have hKK : K.le K2 := hK1.trans c2
        have hrel4 : Rel E fr ⟨σ.base, σ.top, H, σ.Hf, σ'.nx, false⟩ m' K2 ⟨ρ.f, mark ++ ρ.ds⟩ (w2.putObj l (.loop { s.cr r1 with state := .exhausted })) :=
          ⟨⟨hr.hm.trans hm2, hr.hK.trans hKK, g.nx, fun e => (by cases e), hr.base, hr.dead, hr.old, fun i sv hi => SV.mono hm2' hKK sv (hr.top i sv hi), fun a ha => g.okH a (hsub a ha), hr.okF, hm1.mono c2⟩, hs4⟩
        cases s with
        | ready => exact hQ .normal h' _ m' K2 ⟨ρ.f, mark ++ ρ.ds⟩ _ hrel4 ⟨rfl, rfl⟩ h3
        | ret => exact wpIn_ret (hQ .ret h' _ m' K2 ⟨ρ.f, mark ++ ρ.ds⟩ _ hrel4 ⟨rfl, rfl⟩ h3)
        | exit id => exact wpIn_exit (hQ (.exit id) h' _ m' K2 ⟨ρ.f, mark ++ ρ.ds⟩ _ hrel4 ⟨rfl, rfl⟩ h3)
      · cases h3
    cases e with
    | normal => exact fini
    | ret => exact fini
    | exit id => cases hov
    | goto t => cases hov
    | panic ch => cases hov
    | outgrown => cases hov
  exact key
theorem rgRun_ok {J : Rn P} (hJ : JOk J) (hrd : RdOk E fr) {g : Operand} {ps : Array Nat} {ao bo : Code} {h : Hn P} {k : Exit → Hn P → Zt → Option R} {r : R} {Q : Exit → Act → World → Prop} (hh : rgRun J n g ps ao bo h σ k = some r) (hr : Rel E fr σ m K ρ w)
    (hQ : ∀ e h' σ' m' K' ρ' w', Rel E fr σ' m' K' ρ' w' → Same σ σ' → k e h' σ' = some r → Q e (act1 n ρ') w') : (Code.rangeFunc g ps ao bo).wpIn (wideR E.rd) 0 P Q (act1 n ρ) w := by
  unfold rgRun at hh
  split at hh
  · rename_i q h0
    split at hh
    · rename_i f cs e
      split at hh
      · rename_i c hc
        replace hh := bift hh; obtain ⟨hb, hh⟩ := hh
        simp only [Bool.and_eq_true] at hb
        obtain ⟨hb1, hb2, hb3⟩ := hb
        obtain rfl := Nat.eq_of_beq_eq_true hb1
        have hv := hr.toPur.ev n g
        rw [e] at hv
        obtain ⟨us, hv, hus⟩ := hv
        refine wpIn_rangeFunc (fun fn hfn => ?_)
        have tail : ∀ {l : Nat} {mark : List Deferred} {K1 : Hp} {w1 : World} {D : Nat}, (Instr.enterLoop fn (act1 n ρ).tmps ps ao bo E.rd).run P w = .ok (l, mark) w1 →
            Sep E K1 (LpA l { state := .ready, pending := none, fn := fn, tmps := frm n ρ.f, params := ps, assign := ao, body := bo, defers := D } :: σ.atoms fr m) w1 → K.le K1 → MOk fr.k0 K1 (mark ++ ρ.ds) →
            ∃ (l : Nat) (mark : List Deferred) (w₁ : World) (d : Deferred) (w₁' : World) (f : FuncId) (args : Array Value) (w₂ : World),
              (Instr.enterLoop fn (act1 n ρ).tmps ps ao bo (wideR E.rd).round).run P w = .ok (l, mark) w₁ ∧
              (resolve (act1 n ρ).eval (rangeCall g l) 0).run P w₁ = .ok d w₁' ∧
              (∀ f', Target.leads P w₁' d.target d.args = some f' → (wideR E.rd).fn f') ∧
              (invoke d.target d.args).run P w₁' = .ok (.enter f args) w₂ ∧
              ((wideR E.rd).depth.isSome = true → 1 ≤ 0) ∧
              CallsIn (wideR E.rd) (0 - 1) P f args w₂ (rangePost (wideR E.rd) 0 P l Q { act1 n ρ with defers := mark ++ (act1 n ρ).defers }) := fun {l mark K1 w1 D} he hs1 hK1 hm1 => by
          refine ⟨l, mark, w1, { target := .fn (.func q.f) us.toArray, args := #[.func (.yield l) #[] #[]] }, w1, q.f, #[.func (.yield l) #[] #[]] ++ us.toArray, w1, he, ?_, fun _ _ => trivial, ?_, fun hh => (by cases (show false = true from hh)), ?_⟩
          · have hv' : Go.Proofs.Ytfdkbceponodmaa.ev n ρ.f g = .func (.func q.f) #[] us.toArray := hv
            rw [eval_act1]
            have hc2 : Go.Proofs.Ytfdkbceponodmaa.ev n ρ.f (.const (.func (.yield l) #[] #[])) = .func (.yield l) #[] #[] := rfl
            simp [resolve, Deferred.ofValue, hv', hc2]
          · exact q.ent _ _
          · exact rg_core hJ hc hus hb2 (Nat.le_of_ble_eq_true hb3) hh hr hs1 hK1 hm1 hQ
        cases hE : E.rd with
        | none =>
          rw [hE] at tail
          obtain ⟨s1, hD⟩ := (hr.toSep.allocO (.deferred (some []))).known
          have s2 := s1.allocO (.loop { state := .ready, pending := none, fn := fn, tmps := frm n ρ.f, params := ps, assign := ao, body := bo, defers := w.heap.size })
          rw [World.size_alloc] at s2
          refine tail (run_enterLoop_outer fn _ ps ao bo) s2 (Hp.le_join _ _) ⟨⟨hr.mks.1.1, hr.mks.1.2.trans (Hp.le_join _ _)⟩, fun d hd => ?_, ?_⟩
          · rcases List.mem_append.1 hd with hd | hd
            · simp only [List.mem_singleton] at hd
              subst hd
              refine ⟨w.heap.size, rfl, Hp.join_right (one_of _ _) hD, ?_⟩
              cases hk0 : fr.k0 w.heap.size with
              | none => rfl
              | some x => rw [hr.mks.1.2 _ _ hk0] at hD; cases hD
            · obtain ⟨D', e1, e2, e3⟩ := hr.mks.2.1 d hd
              exact ⟨D', e1, Hp.le_join _ _ _ _ e2, e3⟩
          · refine List.nodup_cons.2 ⟨fun hd => ?_, hr.mks.2.2⟩
            obtain ⟨D', e1, e2, e3⟩ := hr.mks.2.1 _ hd
            simp only [Deferred.mk.injEq, Target.collected.injEq, and_true] at e1
            rw [← e1, hD] at e2
            cases e2
        | some l0 =>
          rw [hE] at tail
          obtain ⟨r0, hmem⟩ := hrd l0 hE
          have hw0 : w.heap[l0]? = some (.loop r0) := by
            obtain ⟨i, hi⟩ := List.getElem?_of_mem (show LpA l0 r0 ∈ σ.atoms fr m from List.mem_append_right _ (List.mem_append_right _ hmem))
            exact LpA.at (Sep.front i hi hr.toSep)
          exact tail (enter_inner hw0 fn _ ps ao bo) (hr.toSep.allocO _) (Hp.le_refl K) (by simpa using hr.mks)
      · cases hh
    · cases hh
  · cases hh
end
end Go.Proofs.Ytfdkbceponodmaa
namespace Go.Proofs.Ytfdkbceponodmaa
open Go.RowKit
set_option linter.unusedVariables false
set_option linter.unusedSimpArgs false
set_option linter.unnecessarySimpa false
set_option linter.unusedSectionVars false
variable [BldA]
section
variable {R : Type} {P : Program} {E : En} {n : Nat} {m m' : List M} {K K' : Hp} {fr : Frz} {σ σ' : Zt} {ρ ρ' : Sl1} {w w' : World}
theorem joinN_ok {c : Code} {f : Hn P → Zt → (R : Type) → (Exit → Hn P → Zt → Option R) → Option R} (hf : Fok P n c f) (hrd : RdOk E fr) {s : Sh} {act W : List Nat} {a b : Hn P} {k : Hn P → Zt → Option R} {r : R} {Q : Exit → Act → World → Prop} (h : joinN f s act W a b σ k = some r) (hr : Rel E fr σ m K ρ w)
    (hQ : ∀ h' σ' m' K' ρ' w', Rel E fr σ' m' K' ρ' w' → Same σ σ' → k h' σ' = some r → Q .normal (Go.Proofs.Ytfdkbceponodmaa.act1 n ρ') w') : c.wpIn (wideR E.rd) 0 P Q (Go.Proofs.Ytfdkbceponodmaa.act1 n ρ) w := by
  unfold joinN at h
  obtain ⟨x, hx, h⟩ := ob h
  refine hf _ E ⟨m, K, ρ, fun _ => false, fr.F, fr.k0⟩ hrd a (σ.frz act) _ x m K ρ w Q hx (hr.frz act) (fun e h' σ' m' K' ρ' w' h1 h2 h3 => ?_)
  cases e with
  | normal =>
    obtain ⟨h'', σ2, m2, K2, g1, g2, g3⟩ := prep_ok h' h3 h1
    have hi : Inn σ fr ⟨m, K, ρ, fun _ => false, fr.F, fr.k0⟩ m K ρ (minus σ.H act) σ2 W := ⟨rfl, rfl, rfl, rfl, rfl, (g2.2.trans h2.2), minus_sub, fun _ _ => rfl⟩
    obtain ⟨σ3, m3, q1, q2, q3⟩ := lay_ok hr hi g3 g1 h
    exact hQ b σ3 m3 K2 ρ' w' q3 q2 q1
  | _ => cases h3
theorem joinX_ok {c : Code} {f : Hn P → Zt → (R : Type) → (Exit → Hn P → Zt → Option R) → Option R} (hf : Fok P n c f) (hrd : RdOk E fr) {s : Sh} {act W : List Nat} {a b : Hn P} {k : Exit → Hn P → Zt → Option R} {r : R} {Q : Exit → Act → World → Prop} (h : joinX f s act W a b σ k = some r) (hr : Rel E fr σ m K ρ w)
    (hQ : ∀ e h' σ' m' K' ρ' w', Rel E fr σ' m' K' ρ' w' → Same σ σ' → k e h' σ' = some r → Q e (Go.Proofs.Ytfdkbceponodmaa.act1 n ρ') w') : c.wpIn (wideR E.rd) 0 P Q (Go.Proofs.Ytfdkbceponodmaa.act1 n ρ) w := by
  unfold joinX at h
  obtain ⟨o, ho, h⟩ := ob h
  refine hf _ E ⟨m, K, ρ, fun _ => false, fr.F, fr.k0⟩ hrd a (σ.frz act) _ o m K ρ w Q ho (hr.frz act) (fun e h' σ' m' K' ρ' w' h1 h2 h3 => ?_)
  have other : (k e h' (σ.thaw σ' (minus σ.H act) [])).map Sum.inr = some o → Q e (Go.Proofs.Ytfdkbceponodmaa.act1 n ρ') w' := fun h3 => by
    rw [Option.map_eq_some_iff] at h3
    obtain ⟨r', h4, rfl⟩ := h3
    cases h
    have hi : Inn σ fr ⟨m, K, ρ, fun _ => false, fr.F, fr.k0⟩ m K ρ (minus σ.H act) σ' [] := ⟨rfl, rfl, rfl, rfl, rfl, h2.2, minus_sub, fun _ _ => rfl⟩
    obtain ⟨q1, q2⟩ := thaw_ok hr hi h1
    exact hQ e h' _ m' K' ρ' w' q2 q1 h4
  cases e with
  | normal =>
    obtain ⟨h'', σ2, m2, K2, g1, g2, g3⟩ := prep_ok h' h3 h1
    rw [Option.map_eq_some_iff] at g1
    obtain ⟨x, g1, rfl⟩ := g1
    have hi : Inn σ fr ⟨m, K, ρ, fun _ => false, fr.F, fr.k0⟩ m K ρ (minus σ.H act) σ2 W := ⟨rfl, rfl, rfl, rfl, rfl, (g2.2.trans h2.2), minus_sub, fun _ _ => rfl⟩
    obtain ⟨σ3, m3, q1, q2, q3⟩ := lay_ok hr hi g3 g1 h
    exact hQ .normal b σ3 m3 K2 ρ' w' q3 q2 q1
  | _ => exact other h3
/-- The head of a loop's round. -/
theorem head_ok {s : Sh} {W : List Nat} {rest : List HA} {x : TL s.ts} (hr : Rel E fr σ m K ρ w) {g : Gt} {f : Nat → SV} {H : List HA} {us : List Atom}
    (hg : s.get f H = some g) (hx : TL.of s.ts g.ds = some x) (hok : ∀ a ∈ H, HA.ok m' K' a) (hf : ∀ i, SV.rel m' K' (f i) (ρ' i)) (hmm : m <+: m') (hKK : K.le K') (hrest : ∀ a ∈ rest, a ∈ σ.H) (hs : Sep E K' (H.map (HA.conc m') ++ (us ++ (rest.map (HA.conc m) ++ σ.fz fr))) w')
    (hds : MOk fr.k0 K' ρ'.ds) (hold : ∀ i, i ∉ W → ρ' i = ρ i) {vs : List (Nat × SV)} {u : Un} (hu : s.un (TL.list s.ts x) σ.nx = some (vs, u)) :
    ∃ m'', Rel E ⟨m, K, ρ, fun i => W.contains i, fr.F, fr.k0⟩ ⟨fun i => bif W.contains i then .any else σ.get i, subT (fillF σ) vs, u.H.map (HA.sub (fillF σ)), rest ++ σ.Hf, u.nx, false⟩ m'' K' ρ' w' := by
  rw [TL.of_list hx] at hu
  have hoo : oldOk s.bl m.length = true := by
    unfold Sh.un at hu
    rw [hr.nx]
    cases ho : oldOk s.bl σ.nx with
    | true => rfl
    | false => rw [ho] at hu; cases hu
  obtain ⟨vs', u', ms, e1, e2, e3, e4, e5, e6, e7, e8⟩ := Sh.get_un hg hok hmm hoo
  rw [hr.nx, hu] at e1
  cases e1
  have hp' := pre_app m ms
  refine ⟨m ++ ms, Rel.subs (σ := ⟨fun i => bif W.contains i then .any else σ.get i, vs, u.H, rest ++ σ.Hf, u.nx, false⟩) (fillF_rel hr.toPur (m' := m ++ ms) (fun _ _ k => pre_get hp' k) hKK) ⟨⟨pre_app m ms, hKK, e2, fun e => (by cases e), fun i => ?_, fun i hi => ?_, fun i hi => ?_, fun i sv hi => slC_look e3 hi _ (hf i), e4, fun a ha => ?_, hds⟩, ?_⟩⟩
  · show SV.rel m K (bif W.contains i then .any else σ.get i) (ρ i)
    cases W.contains i with
    | true => exact trivial
    | false => exact hr.toPur.get i
  · show (bif W.contains i then SV.any else σ.get i) = .any
    have hi : W.contains i = true := hi
    rw [hi]; rfl
  · by_cases hW : i ∈ W
    · exact .inl (by simpa using hW)
    · exact .inr (hold i hW)
  · refine hr.toPur.all a ?_
    rcases List.mem_append.1 ha with ha | ha
    · exact List.mem_append_left _ (hrest a ha)
    · exact List.mem_append_right _ ha
  · have s1 := e6 E _ w' hs
    have s2 : Sep E K' ((g.H.map (HA.conc m') ++ us) ++ (u.H.map (HA.conc (m ++ ms)) ++ (rest.map (HA.conc m) ++ σ.fz fr))) w' := Sep.perm (by
      rw [List.append_assoc]
      refine (perm3 _ _ _).trans (List.Perm.append_left _ (perm3 _ _ _)) ) s1
    show Sep E K' (u.H.map (HA.conc (m ++ ms)) ++ ((rest ++ σ.Hf).map (HA.conc m) ++ fr.F)) w'
    rw [List.map_append, hr.toPur.fz', List.append_assoc]
    exact Sep.drops s2
theorem get_oldOk {s : Sh} {ds : List Dat} {nx : Nat} {o : List (Nat × SV) × Un} (h : s.un ds nx = some o) : oldOk s.bl nx = true := by
  unfold Sh.un at h
  cases ho : oldOk s.bl nx with
  | true => rfl
  | false => rw [ho] at h; cases h
theorem lpRun_ok {c : Code} {f : Hn P → Zt → (R : Type) → (Exit → Hn P → Zt → Option R) → Option R} (hf : Fok P n c f) (hrd : RdOk E fr) {s : Sh} {W : List Nat} {a : Hn P} {k : Exit → Hn P → Zt → Option R} {r : R} {Q : Exit → Act → World → Prop} (h : lpRun f s W a σ k = some r) (hr : Rel E fr σ m K ρ w)
    (hQ : ∀ e h' σ' m' K' ρ' w', Rel E fr σ' m' K' ρ' w' → Same σ σ' → k e h' σ' = some r → Q e (Go.Proofs.Ytfdkbceponodmaa.act1 n ρ') w') : (Code.loop c).wpIn (wideR E.rd) 0 P Q (Go.Proofs.Ytfdkbceponodmaa.act1 n ρ) w := by
  unfold lpRun at h
  split at h
  · rename_i g hg
    split at h
    · rename_i x0 hx0
      obtain ⟨N, hN⟩ := loop_iter h
      refine wpIn_loop_rounds N ?_
      -- a round's head
      have round : ∀ (N : Nat) (x : TL s.ts) (m1 : List M) (K1 : Hp) (ρ1 : Sl1) (w1 : World) (vs : List (Nat × SV)) (u : Un), iter (lpRound f s W g a σ k) N x = some r → s.un (TL.list s.ts x) σ.nx = some (vs, u) →
          Rel E ⟨m, K, ρ, fun i => W.contains i, fr.F, fr.k0⟩ ⟨fun i => bif W.contains i then .any else σ.get i, subT (fillF σ) vs, u.H.map (HA.sub (fillF σ)), g.H ++ σ.Hf, u.nx, false⟩ m1 K1 ρ1 w1 → Code.roundsIn (wideR E.rd) 0 P c Q N (Go.Proofs.Ytfdkbceponodmaa.act1 n ρ1) w1 := by
        intro N
        induction N with
        | zero => intro x m1 K1 ρ1 w1 vs u hi; cases hi
        | succ N ih =>
          intro x m1 K1 ρ1 w1 vs u hi hu hrel
          unfold iter at hi
          obtain ⟨o, ho, hi⟩ := ob hi
          rw [roundsIn_succ]
          unfold lpRound at ho
          rw [hu] at ho
          simp only at ho
          have hgsub : ∀ a ∈ g.H, a ∈ σ.H := by
            obtain ⟨_, _, _, _, _, _, _, e5, _⟩ := Sh.get_un (m := m) (K := K) hg hr.okH (List.prefix_refl m) (by rw [hr.nx]; exact get_oldOk hu)
            exact e5
          refine hf _ E ⟨m, K, ρ, fun i => W.contains i, fr.F, fr.k0⟩ hrd a _ _ o m1 K1 ρ1 w1 _ ho hrel (fun e h' σ' m' K' ρ' w' h1 h2 h3 => ?_)
          have other : e ≠ .normal → (k e h' (σ.thaw σ' g.H W)).map Sum.inr = some o → Q e (Go.Proofs.Ytfdkbceponodmaa.act1 n ρ') w' := fun _ h3 => by
            rw [Option.map_eq_some_iff] at h3
            obtain ⟨r', h4, rfl⟩ := h3
            cases hi
            have hii : Inn σ fr ⟨m, K, ρ, fun i => W.contains i, fr.F, fr.k0⟩ m K ρ g.H σ' W := ⟨rfl, rfl, rfl, rfl, rfl, h2.2, hgsub, fun i hi => by simpa using hi⟩
            obtain ⟨q1, q2⟩ := thaw_ok hr hii h1
            exact hQ e h' _ m' K' ρ' w' q2 q1 h4
          cases e with
          | normal =>
            obtain ⟨h'', σ2, m2, K2, g1, g2, g3⟩ := prep_ok h' h3 h1
            rw [Option.map_eq_some_iff] at g1
            obtain ⟨x', g1, rfl⟩ := g1
            have hsame := h2.trans g2
            unfold Zt.pack at g1
            replace g1 := bift g1; obtain ⟨hk, g1⟩ := g1
            split at g1
            · rename_i g' hg'
              cases hu' : s.un (TL.list s.ts x') σ.nx with
              | none =>
                -- the next round would not run
                cases N with
                | zero => cases hi
                | succ N =>
                  unfold iter at hi
                  obtain ⟨o2, ho2, _⟩ := ob hi
                  unfold lpRound at ho2
                  rw [hu'] at ho2
                  cases ho2
              | some q =>
                obtain ⟨vs', u'⟩ := q
                have hii : Inn σ fr ⟨m, K, ρ, fun i => W.contains i, fr.F, fr.k0⟩ m K ρ g.H σ2 W := ⟨rfl, rfl, rfl, rfl, rfl, hsame.2, hgsub, fun i hi => by simpa using hi⟩
                obtain ⟨m'', hrel'⟩ := head_ok (W := W) (rest := g.H) (us := []) hr hg' g1 g3.okH g3.toPur.get g3.hm g3.hK hgsub (by rw [List.nil_append]; exact hii.sep hr g3) g3.mks (fun i hi => by
                  have := g3.old i (keysIn_spec hk hi)
                  rcases this with h4 | h4
                  · exact absurd (by simpa using h4) hi
                  · exact h4) hu'
                exact ih x' m'' K2 ρ' w' vs' u' hi hu' hrel'
            · cases g1
          | exit i => exact other nofun h3
          | goto l => exact other nofun h3
          | ret => exact other nofun h3
          | panic c => exact other nofun h3
          | outgrown => exact other nofun h3
      cases hu : s.un (TL.list s.ts x0) σ.nx with
      | none =>
        cases N with
        | zero => cases hN
        | succ N =>
          unfold iter at hN
          obtain ⟨o2, ho2, _⟩ := ob hN
          unfold lpRound at ho2
          rw [hu] at ho2
          cases ho2
      | some q =>
        obtain ⟨vs, u⟩ := q
        have hu2 := hu
        rw [TL.of_list hx0] at hu2
        obtain ⟨vs', u', ms, e1, e2, e3, e4, e5, e6, e7, e8⟩ := Sh.get_un (m := m) (K := K) hg hr.okH (List.prefix_refl m) (by rw [hr.nx]; exact get_oldOk hu2)
        rw [hr.nx, hu2] at e1
        cases e1
        have hp' := pre_app m ms
        refine round N x0 (m ++ ms) K ρ w vs u hN hu (Rel.subs (σ := ⟨fun i => bif W.contains i then .any else σ.get i, vs, u.H, g.H ++ σ.Hf, u.nx, false⟩) (fillF_rel hr.toPur (m' := m ++ ms) (fun _ _ k => pre_get hp' k) (Hp.le_refl K)) ⟨⟨pre_app m ms, Hp.le_refl K, e2, fun e => (by cases e), fun i => ?_, fun i hi => ?_, fun i hi => .inr rfl, fun i sv hi => slC_look e3 hi _ (hr.toPur.get i), e4, fun a ha => ?_, hr.mks⟩, ?_⟩)
        · show SV.rel m K (bif W.contains i then .any else σ.get i) (ρ i)
          cases W.contains i with
          | true => exact trivial
          | false => exact hr.toPur.get i
        · show (bif W.contains i then SV.any else σ.get i) = .any
          have hi : W.contains i = true := hi
          rw [hi]; rfl
        · refine hr.toPur.all a ?_
          rcases List.mem_append.1 ha with ha | ha
          · exact List.mem_append_left _ (e5 a ha)
          · exact List.mem_append_right _ ha
        · have s1 := e6 E _ w hr.toSep
          show Sep E K (u.H.map (HA.conc (m ++ ms)) ++ ((g.H ++ σ.Hf).map (HA.conc m) ++ fr.F)) w
          rw [List.map_append, hr.toPur.fz', List.append_assoc]
          exact s1
    · cases h
  · cases h
theorem unroll_ok {c : Code} {f : Hn P → Zt → (R : Type) → (Exit → Hn P → Zt → Option R) → Option R} (hf : Fok P n c f) (hrd : RdOk E fr) {k : Exit → Hn P → Zt → Option R} {r : R} {Q : Exit → Act → World → Prop}
    (hQ : ∀ e h' σ' m' K' ρ' w', Rel E fr σ' m' K' ρ' w' → Same σ σ' → k e h' σ' = some r → Q e (Go.Proofs.Ytfdkbceponodmaa.act1 n ρ') w') : ∀ (N : Nat) {h : Hn P} {σ1 : Zt} {m : List M} {K : Hp} {ρ : Sl1} {w : World}, unroll (fun h σ k => f h σ _ k) k N h σ1 = some r → Rel E fr σ1 m K ρ w → Same σ σ1 → Code.roundsIn (wideR E.rd) 0 P c Q N (Go.Proofs.Ytfdkbceponodmaa.act1 n ρ) w
  | 0, h, σ1, m, K, ρ, w, hh, hr, hs => by cases hh
  | N + 1, h, σ1, m, K, ρ, w, hh, hr, hs => by
    rw [roundsIn_succ]
    unfold unroll at hh
    refine hf _ E fr hrd h σ1 _ r m K ρ w _ hh hr (fun e h' σ' m' K' ρ' w' h1 h2 h3 => ?_)
    cases e with
    | normal => exact unroll_ok hf hrd hQ N h3 h1 (hs.trans h2)
    | exit i => exact hQ _ h' σ' m' K' ρ' w' h1 (hs.trans h2) h3
    | goto i => exact hQ _ h' σ' m' K' ρ' w' h1 (hs.trans h2) h3
    | ret => exact hQ _ h' σ' m' K' ρ' w' h1 (hs.trans h2) h3
    | panic i => exact hQ _ h' σ' m' K' ρ' w' h1 (hs.trans h2) h3
    | outgrown => exact hQ _ h' σ' m' K' ρ' w' h1 (hs.trans h2) h3
theorem onNorm_ok {y : Code} {k : Exit → Hn P → Zt → Option R} {f : Hn P → Zt → Option R} {r : R} {Q : Exit → Act → World → Prop} {σ0 : Zt} (hf : ∀ h' σ' m' K' ρ' w', Rel E fr σ' m' K' ρ' w' → Same σ0 σ' → f h' σ' = some r → y.wpIn (wideR E.rd) 0 P Q (Go.Proofs.Ytfdkbceponodmaa.act1 n ρ') w')
    (hQ : ∀ e h' σ' m' K' ρ' w', Rel E fr σ' m' K' ρ' w' → Same σ0 σ' → k e h' σ' = some r → Q e (Go.Proofs.Ytfdkbceponodmaa.act1 n ρ') w') : ∀ e h' σ' m' K' ρ' w', Rel E fr σ' m' K' ρ' w' → Same σ0 σ' → onNorm k f e h' σ' = some r → Exit.then (y.wpIn (wideR E.rd) 0 P Q) Q e (Go.Proofs.Ytfdkbceponodmaa.act1 n ρ') w' := by
  intro e h' σ' m' K' ρ' w' h1 h2 h3
  cases e with
  | normal => exact hf h' σ' m' K' ρ' w' h1 h2 h3
  | exit i => exact hQ _ h' σ' m' K' ρ' w' h1 h2 h3
  | goto i => exact hQ _ h' σ' m' K' ρ' w' h1 h2 h3
  | ret => exact hQ _ h' σ' m' K' ρ' w' h1 h2 h3
  | panic i => exact hQ _ h' σ' m' K' ρ' w' h1 h2 h3
  | outgrown => exact hQ _ h' σ' m' K' ρ' w' h1 h2 h3
theorem Sep.at_out {L : List Atom} {E : En} {K : Hp} {w : World} (h : Sep E K L w) : Sep E K L w := h
/-- Code run at a state does what is computed. -/
theorem exec_ok {J : Rn P} (hJ : JOk J) : ∀ (c : Code), Fok P n c (fun h σ R k => exec J n c h σ k)
  | .skip => fun R E fr hrd h σ k r m K ρ w Q hh hr hQ => wpIn_skip (hQ _ h σ m K ρ w hr Same.rfl' hh)
  | .ret => fun R E fr hrd h σ k r m K ρ w Q hh hr hQ => wpIn_ret (hQ _ h σ m K ρ w hr Same.rfl' hh)
  | .exit id => fun R E fr hrd h σ k r m K ρ w Q hh hr hQ => wpIn_exit (hQ _ h σ m K ρ w hr Same.rfl' hh)
  | .label l => fun R E fr hrd h σ k r m K ρ w Q hh hr hQ => wpIn_label (hQ _ h σ m K ρ w hr Same.rfl' hh)
  | .scope b => fun R E fr hrd h σ k r m K ρ w Q hh hr hQ => by
    refine wpIn_scope_straight (exec_ok hJ b R E fr hrd h σ _ r m K ρ w _ (show exec J n b h σ (onScope k) = some r from hh) hr (fun e h' σ' m' K' ρ' w' h1 h2 h3 => ?_))
    cases e with
    | goto l => cases h3
    | normal => exact hQ _ h' σ' m' K' ρ' w' h1 h2 h3
    | exit i => exact hQ _ h' σ' m' K' ρ' w' h1 h2 h3
    | ret => exact hQ _ h' σ' m' K' ρ' w' h1 h2 h3
    | panic i => exact hQ _ h' σ' m' K' ρ' w' h1 h2 h3
    | outgrown => exact hQ _ h' σ' m' K' ρ' w' h1 h2 h3
  | .region id ops draw => fun R E fr hrd h σ k r m K ρ w Q hh hr hQ => by
    change (bif !ops.toList.all nodf then none else bif draw then prep h σ fun h σ => preO n ops.toList h σ fun h σ => (match h with | .mix plan fin tail act r => mixS n ops plan fin tail act r σ (k .normal) | .tr t s act a b => trS n ops t s act a b σ (k .normal) | _ => none) else prep h σ fun h σ => yreg J n ops h σ (k .normal)) = some r at hh
    replace hh := biff hh; obtain ⟨hn, hh⟩ := hh
    have hn : ops.toList.all nodf = true := by simpa using hn
    cases draw with
    | false =>
      simp only [cond_false] at hh
      obtain ⟨h1, σ1, m1, K1, hh, g1, hr⟩ := prep_ok h hh hr
      replace hQ : ∀ e h' σ' m' K' ρ' w', Rel E fr σ' m' K' ρ' w' → Same σ1 σ' → k e h' σ' = some r → Q e (act1 n ρ') w' := fun e h' σ' m' K' ρ' w' q1 q2 q3 => hQ e h' σ' m' K' ρ' w' q1 (g1.trans q2) q3
      clear g1
      unfold yreg at hh
      split at hh
      · rename_i q h2
        have key : wpListIn (wideR E.rd) 0 P ops Q (ops.toList.take q ++ ops.toList.drop q) (act1 n ρ) w := by
          have hn1 : (ops.toList.take q).all nodf = true := List.all_eq_true.2 (fun x hx => List.all_eq_true.1 hn x (List.mem_of_mem_take hx))
          have hn2 : (ops.toList.drop q).all nodf = true := List.all_eq_true.2 (fun x hx => List.all_eq_true.1 hn x (List.mem_of_mem_drop hx))
          refine wpListIn_app hn1 ?_
          have := runL_ok (ops := ops) (Q := fun e a w => e = .normal ∧ wpListIn (wideR E.rd) 0 P ops Q (ops.toList.drop q) a w) (ops.toList.take q) 0 hh hr (fun h' σ' m' K' ρ' w' h1 h2 h3 => ?_)
          · simpa using this
          · refine ⟨rfl, ?_⟩
            split at h3
            · rename_i o rest hd
              rw [hd] at hn2 ⊢
              simp only [List.all_cons, Bool.and_eq_true] at hn2
              refine yop_ok hJ h3 h1 (fun h'' σ'' m'' K'' ρ'' w'' g1 g2 g3 => ?_)
              have := runL_ok (ops := ops) (Q := Q) rest 0 g3 g1 (fun h3 σ3 m3 K3 ρ3 w3 b1 b2 b3 => hQ _ h3 σ3 m3 K3 ρ3 w3 b1 ((h2.trans g2).trans b2) b3)
              exact wpListIn_of hn2.2 (by simpa using this)
            · cases h3
        rw [List.take_append_drop] at key
        have := wpIn_region_lit (id := id) (l := ops.toList) (by simpa using key)
        simpa using this
      · have := wpIn_region_lit (id := id) (wpListIn_of (r := E.rd) (n := 0) hn (runL_ok (Q := Q) (ops := ops.toList.toArray) ops.toList 0 (by simpa using hh) hr (fun h' σ' m' K' ρ' w' h1 h2 h3 => hQ _ h' σ' m' K' ρ' w' h1 h2 h3)))
        simpa using this
    | true =>
      simp only [cond_true] at hh
      obtain ⟨h1, σ1, m1, K1, hh, g1, hr⟩ := prep_ok h hh hr
      obtain ⟨h2, σ2, m2, hh, g2, hr⟩ := preO_ok h1 hh hr
      replace hQ : ∀ e h' σ' m' K' ρ' w', Rel E fr σ' m' K' ρ' w' → Same σ2 σ' → k e h' σ' = some r → Q e (act1 n ρ') w' := fun e h' σ' m' K' ρ' w' q1 q2 q3 => hQ e h' σ' m' K' ρ' w' q1 ((g1.trans g2).trans q2) q3
      clear g1 g2
      generalize K1 = K at hr
      generalize m2 = m at hr
      generalize σ2 = σ at hr hh hQ
      split at hh
      · rename_i plan fin tail act' h0
        unfold mixS at hh
        replace hh := bif_and hh; obtain ⟨hm, hB, hh⟩ := hh
        have hB' : mixB .any ops.toList.toArray plan fin tail = true := by simpa using hB
        have hfr := (hr.frz act').drew
        have hplan : ∀ s i, (s, i) ∈ plan → i < ops.toList.length := by
          intro s i hi
          have h0 := hB
          unfold mixB at h0
          simp only [Bool.and_eq_true] at h0
          obtain ⟨_, h1⟩ := h0
          split at h1
          · rename_i l1 hl1
            simpa using mixPlan_lt plan _ _ hl1 s i hi
          · cases h1
        have key := runM_ok (l := ops.toList) (Q := Q) plan hh hfr rfl hplan (fun h' σ' m' K' ρ' w' h1 h2 h3 => by
          have hi : Inn σ fr ⟨m, K, ρ, fun _ => false, fr.F, fr.k0⟩ m K ρ (minus σ.H act') σ' [] := ⟨rfl, rfl, rfl, rfl, rfl, h2.2, minus_sub, fun _ _ => rfl⟩
          obtain ⟨z1, z2⟩ := thaw_ok hr hi h1
          have := runL_ok (ops := ops.toList.toArray) (Q := Q) (picks ops.toList tail) 0 (by simpa using h3) z2 (fun h'' σ'' m'' K'' ρ'' w'' b1 b2 b3 => hQ .normal h'' σ'' m'' K'' ρ'' w'' b1 (z1.trans b2) b3)
          rwa [List.drop_zero] at this)
        have := wp_region_mix (id := id) (Q := Q) plan fin tail hm hB' _ hfr.cfz rfl rfl rfl key hn (r := E.rd) (n := 0)
        simpa using this
      · rename_i t s act' a b
        unfold trS at hh
        replace hh := bif_and hh; obtain ⟨hm, hB, hh⟩ := hh
        obtain ⟨x, hx, hh⟩ := ob hh
        have hfr := (hr.frz act').drew
        have key := runT_ok (l := ops.toList) (F := fun a' w' => wpLs P ops.toList.toArray Q (picks ops.toList []) a' w') t hx hfr rfl (fun h' σ' m' K' ρ' w' h1 h2 h3 => by
          obtain ⟨h'', σ2, m2, K2, g1, g2, g3⟩ := prep_ok h' h3 h1
          have hi : Inn σ fr ⟨m, K, ρ, fun _ => false, fr.F, fr.k0⟩ m K ρ (minus σ.H act') σ2 (s.sl.map (·.1) ++ dsts ops.toList) := ⟨rfl, rfl, rfl, rfl, rfl, (g2.2.trans h2.2), minus_sub, fun _ _ => rfl⟩
          obtain ⟨σ3, m3, q1, q2, q3⟩ := lay_ok hr hi g3 g1 hh
          exact hQ .normal b σ3 m3 K2 ρ' w' q3 q2 q1)
        have := wp_region_tree (id := id) (Q := Q) t [] hm hB _ hfr.cfz rfl key hn (r := E.rd) (n := 0)
        simpa using this
      · cases hh
  | .seq a b => fun R E fr hrd h σ k r m K ρ w Q hh hr hQ => by
    have plain : ∀ h0, exec J n a h0 σ (onNorm k (fun h σ => exec J n b h σ k)) = some r → (Code.seq a b).wpIn (wideR E.rd) 0 P Q (act1 n ρ) w := fun h0 hh =>
      wpIn_seq (exec_ok hJ a R E fr hrd h0 σ _ r m K ρ w _ hh hr (onNorm_ok (σ0 := σ) (fun h' σ' m' K' ρ' w' h1 h2 h3 => exec_ok hJ b R E fr hrd h' σ' k r m' K' ρ' w' Q h3 h1 (fun e h'' σ'' m'' K'' ρ'' w'' q1 q2 q3 => hQ e h'' σ'' m'' K'' ρ'' w'' q1 (h2.trans q2) q3)) hQ))
    cases h with
    | sq mk s act ha hb =>
      have hh : (match Zt.mcs mk σ with | some σ => joinN (fun h σ R k => exec J n a h σ k) s act (s.sl.map (·.1) ++ writes a) ha hb σ (fun h σ => exec J n b h σ k) | none => none) = some r := hh
      split at hh
      · rename_i σ1 hm
        obtain ⟨m1, k1, k2⟩ := mcs_ok hm hr
        refine wpIn_seq (joinN_ok (exec_ok hJ a) hrd hh k2 (fun h' σ' m' K' ρ' w' h1 h2 h3 => ?_))
        exact exec_ok hJ b R E fr hrd h' σ' k r m' K' ρ' w' Q h3 h1 (fun e h'' σ'' m'' K'' ρ'' w'' q1 q2 q3 => hQ e h'' σ'' m'' K'' ρ'' w'' q1 ((k1.trans h2).trans q2) q3)
      · cases hh
    | sx mk s act ha hb =>
      have hh : (match Zt.mcs mk σ with | some σ => joinX (fun h σ R k => exec J n a h σ k) s act (s.sl.map (·.1) ++ writes a) ha hb σ (onNorm k (fun h σ => exec J n b h σ k)) | none => none) = some r := hh
      split at hh
      · rename_i σ1 hm
        obtain ⟨m1, k1, k2⟩ := mcs_ok hm hr
        refine wpIn_seq (joinX_ok (exec_ok hJ a) hrd hh k2 ?_)
        exact onNorm_ok (σ0 := σ1) (fun h' σ' m' K' ρ' w' h1 h2 h3 => exec_ok hJ b R E fr hrd h' σ' k r m' K' ρ' w' Q h3 h1 (fun e h'' σ'' m'' K'' ρ'' w'' q1 q2 q3 => hQ e h'' σ'' m'' K'' ρ'' w'' q1 ((k1.trans h2).trans q2) q3)) (fun e h' σ' m' K' ρ' w' q1 q2 q3 => hQ e h' σ' m' K' ρ' w' q1 (k1.trans q2) q3)
      · cases hh
    | pl h => exact plain h hh
    | nil => exact plain _ hh
    | two _ _ _ => exact plain _ hh
    | tw _ _ _ => exact plain _ hh
    | jn _ _ _ _ _ => exact plain _ hh
    | jx _ _ _ _ _ => exact plain _ hh
    | lp _ _ => exact plain _ hh
    | un _ _ => exact plain _ hh
    | per _ _ _ => exact plain _ hh
    | perb _ _ _ _ => exact plain _ hh
    | mc _ _ _ _ => exact plain _ hh
    | ms _ _ => exact plain _ hh
    | wt _ _ => exact plain _ hh
    | cl _ _ _ => exact plain _ hh
    | c2 _ _ _ _ => exact plain _ hh
    | gp _ _ => exact plain _ hh
    | gj _ _ _ _ _ => exact plain _ hh
    | mix _ _ _ _ _ => exact plain _ hh
    | opn _ _ _ => exact plain _ hh
    | opb _ _ _ => exact plain _ hh
    | cls _ _ _ => exact plain _ hh
    | opp _ _ _ _ => exact plain _ hh
    | ot _ _ => exact plain _ hh
    | cm _ _ _ _ => exact plain _ hh
    | cm2 _ _ _ _ _ => exact plain _ hh
    | tr _ _ _ _ _ => exact plain _ hh
    | yl _ _ => exact plain _ hh
    | rg _ _ => exact plain _ hh
  | .cond c x y => fun R E fr hrd h σ k r m K ρ w Q hh hr hQ => by
    obtain ⟨h1, σ1, m1, K1, g1, g2, g3⟩ := prep_ok h (show prep h σ (fun h σ => condS c (σ.evr n c) h σ (fun h σ => exec J n x h σ k) (fun h σ => exec J n y h σ k)) = some r from hh) hr
    have hv := g3.toPur.evr n c
    have goX : ∀ h2 σ2, Rel E fr σ2 m1 K1 ρ w → Same σ σ2 → exec J n x h2 σ2 k = some r → x.wpIn (wideR E.rd) 0 P Q (act1 n ρ) w := fun h2 σ2 q1 q2 q3 =>
      exec_ok hJ x R E fr hrd h2 σ2 k r m1 K1 ρ w Q q3 q1 (fun e h'' σ'' m'' K'' ρ'' w'' p1 p2 p3 => hQ e h'' σ'' m'' K'' ρ'' w'' p1 (q2.trans p2) p3)
    have goY : ∀ h2 σ2, Rel E fr σ2 m1 K1 ρ w → Same σ σ2 → exec J n y h2 σ2 k = some r → y.wpIn (wideR E.rd) 0 P Q (act1 n ρ) w := fun h2 σ2 q1 q2 q3 =>
      exec_ok hJ y R E fr hrd h2 σ2 k r m1 K1 ρ w Q q3 q1 (fun e h'' σ'' m'' K'' ρ'' w'' p1 p2 p3 => hQ e h'' σ'' m'' K'' ρ'' w'' p1 (q2.trans p2) p3)
    have slot : ∀ (d : Nat) (sv : SV), c = .tmp d → σ1.evr n c = sv → sv ≠ .any → σ1.get d = sv := fun d sv hc he hne => by
      subst hc
      cases hh : Nat.blt d n with
      | false =>
        have : σ1.evr n (.tmp d) = .any := by show (bif Nat.blt d n then σ1.get d else .any) = _; rw [hh]; rfl
        rw [this] at he; exact absurd he.symm hne
      | true =>
        have : σ1.evr n (.tmp d) = σ1.get d := by show (bif Nat.blt d n then σ1.get d else .any) = _; rw [hh]; rfl
        rw [← this]; exact he
    unfold condS at g1
    split at g1
    · rename_i jm w0 e
      rw [e] at hv
      obtain ⟨hj, hv⟩ := hv
      split at g1
      · rename_i t
        have hb : ev n ρ c = .bool t := hv
        rw [hb] at hj
        refine wpIn_cond_split (t := t) (by rw [eval_act1]; exact hb) (fun ht => ?_) (fun ht => ?_)
        · subst ht
          split at g1
          · exact goX _ _ (g3.fix (v := .bool true) hj rfl) (g2.trans ⟨rfl, rfl⟩) g1
          · exact goX _ σ1 g3 g2 g1
          · exact goX _ σ1 g3 g2 g1
        · subst ht
          split at g1
          · exact goY _ _ (g3.fix (v := .bool false) hj rfl) (g2.trans ⟨rfl, rfl⟩) g1
          · exact goY _ σ1 g3 g2 g1
          · exact goY _ σ1 g3 g2 g1
      · cases g1
    · rename_i t e
      rw [e] at hv
      have hb : ev n ρ c = .bool t := hv
      refine wpIn_cond_split (t := t) (by rw [eval_act1]; exact hb) (fun ht => ?_) (fun ht => ?_)
      · subst ht
        split at g1
        · rename_i ha hbn d _
          have hg := slot d _ rfl e nofun
          exact goX ha _ (g3.ref (fun _ _ u hu => by rw [hg] at hu; exact hu) (by rw [hg]; nofun)) (g2.trans ⟨rfl, ref_H.2⟩) g1
        · exact goX _ σ1 g3 g2 g1
        · exact goX _ σ1 g3 g2 g1
      · subst ht
        split at g1
        · rename_i ha hbn d _
          have hg := slot d _ rfl e nofun
          exact goY hbn _ (g3.ref (fun _ _ u hu => by rw [hg] at hu; exact hu) (by rw [hg]; nofun)) (g2.trans ⟨rfl, ref_H.2⟩) g1
        · exact goY _ σ1 g3 g2 g1
        · exact goY _ σ1 g3 g2 g1
    · rename_i tp l ng e
      rw [e] at hv
      obtain ⟨q, hb, hl⟩ := hv
      refine wpIn_cond_split (t := q ^^ ng) (by rw [eval_act1]; exact hb) (fun ht => ?_) (fun ht => ?_)
      · split at g1
        · rename_i ha hbn _
          cases ng with
          | true =>
            rw [Bool.xor_true] at ht
            simp only [cond_true] at g1
            exact goX ha _ g3 g2 (nilb_cons g1)
          | false =>
            rw [Bool.xor_false] at ht
            simp only [cond_false] at g1
            exact goX ha _ g3 g2 (nilb_nil (hl ht) g1)
        · cases g1
      · split at g1
        · rename_i ha hbn _
          cases ng with
          | true =>
            rw [Bool.xor_true] at ht
            simp only [cond_true] at g1
            exact goY hbn _ g3 g2 (nilb_nil (hl (by simpa using ht)) g1)
          | false =>
            rw [Bool.xor_false] at ht
            simp only [cond_false] at g1
            exact goY hbn _ g3 g2 (nilb_cons g1)
        · cases g1
    · cases g1
  | .block id b => fun R E fr hrd h σ k r m K ρ w Q hh hr hQ => by
    have blk : ∀ {R : Type} {k : Exit → Hn P → Zt → Option R} {r : R} {Q : Exit → Act → World → Prop} {fr : Frz} {σ : Zt}, (∀ e h' σ' m' K' ρ' w', Rel E fr σ' m' K' ρ' w' → Same σ σ' → k e h' σ' = some r → Q e (act1 n ρ') w') →
        ∀ e h' σ' m' K' ρ' w', Rel E fr σ' m' K' ρ' w' → Same σ σ' → onBlk id k e h' σ' = some r → Exit.inBlock id Q e (act1 n ρ') w' := by
      intro R k r Q fr σ hQ e h' σ' m' K' ρ' w' h1 h2 h3
      cases e with
      | exit i =>
        change (bif Nat.beq i id then k .normal h' σ' else k (.exit i) h' σ') = some r at h3
        show if i = id then _ else _
        cases hb : Nat.beq i id with
        | true =>
          rw [hb] at h3
          rw [if_pos (Nat.eq_of_beq_eq_true hb)]
          exact hQ _ h' σ' m' K' ρ' w' h1 h2 h3
        | false =>
          rw [hb] at h3
          rw [if_neg (fun e => by rw [e, Nat.beq_refl] at hb; cases hb)]
          exact hQ _ h' σ' m' K' ρ' w' h1 h2 h3
      | normal => exact hQ _ h' σ' m' K' ρ' w' h1 h2 h3
      | goto l => exact hQ _ h' σ' m' K' ρ' w' h1 h2 h3
      | ret => exact hQ _ h' σ' m' K' ρ' w' h1 h2 h3
      | panic i => exact hQ _ h' σ' m' K' ρ' w' h1 h2 h3
      | outgrown => exact hQ _ h' σ' m' K' ρ' w' h1 h2 h3
    have fb : Fok P n (.block id b) (fun h σ R k => exec J n b h σ (onBlk id k)) := fun R E fr hrd h σ k r m K ρ w Q hh hr hQ => by
      refine wpIn_block (exec_ok hJ b R E fr hrd h σ _ r m K ρ w _ hh hr ?_)
      intro e h' σ' m' K' ρ' w' h1 h2 h3
      cases e with
      | exit i =>
        change (bif Nat.beq i id then k .normal h' σ' else k (.exit i) h' σ') = some r at h3
        show if i = id then _ else _
        cases hb : Nat.beq i id with
        | true =>
          rw [hb] at h3
          rw [if_pos (Nat.eq_of_beq_eq_true hb)]
          exact hQ _ h' σ' m' K' ρ' w' h1 h2 h3
        | false =>
          rw [hb] at h3
          rw [if_neg (fun e => by rw [e, Nat.beq_refl] at hb; cases hb)]
          exact hQ _ h' σ' m' K' ρ' w' h1 h2 h3
      | normal => exact hQ _ h' σ' m' K' ρ' w' h1 h2 h3
      | goto l => exact hQ _ h' σ' m' K' ρ' w' h1 h2 h3
      | ret => exact hQ _ h' σ' m' K' ρ' w' h1 h2 h3
      | panic i => exact hQ _ h' σ' m' K' ρ' w' h1 h2 h3
      | outgrown => exact hQ _ h' σ' m' K' ρ' w' h1 h2 h3
    have plain : ∀ h0, exec J n b h0 σ (onBlk id k) = some r → (Code.block id b).wpIn (wideR E.rd) 0 P Q (act1 n ρ) w := fun h0 hh => fb R E fr hrd h0 σ k r m K ρ w Q hh hr hQ
    cases h with
    | jn mk s act ha hb =>
      have hh : (match Zt.mcs mk σ with | some σ => joinN (fun h σ R k => exec J n b h σ (onBlk id k)) s act (s.sl.map (·.1) ++ writes b) ha hb σ (k .normal) | none => none) = some r := hh
      split at hh
      · rename_i σ1 hm
        obtain ⟨m1, k1, k2⟩ := mcs_ok hm hr
        exact joinN_ok fb hrd hh k2 (fun h' σ' m' K' ρ' w' h1 h2 h3 => hQ _ h' σ' m' K' ρ' w' h1 (k1.trans h2) h3)
      · cases hh
    | jx mk s act ha hb =>
      have hh : (match Zt.mcs mk σ with | some σ => joinX (fun h σ R k => exec J n b h σ (onBlk id k)) s act (s.sl.map (·.1) ++ writes b) ha hb σ k | none => none) = some r := hh
      split at hh
      · rename_i σ1 hm
        obtain ⟨m1, k1, k2⟩ := mcs_ok hm hr
        exact joinX_ok fb hrd hh k2 (fun e h' σ' m' K' ρ' w' q1 q2 q3 => hQ e h' σ' m' K' ρ' w' q1 (k1.trans q2) q3)
      · cases hh
    | pl h => exact plain _ hh
    | nil => exact plain _ hh
    | two _ _ _ => exact plain _ hh
    | tw _ _ _ => exact plain _ hh
    | sq _ _ _ _ _ => exact plain _ hh
    | sx _ _ _ _ _ => exact plain _ hh
    | lp _ _ => exact plain _ hh
    | un _ _ => exact plain _ hh
    | per _ _ _ => exact plain _ hh
    | perb _ _ _ _ => exact plain _ hh
    | mc _ _ _ _ => exact plain _ hh
    | ms _ _ => exact plain _ hh
    | wt _ _ => exact plain _ hh
    | cl _ _ _ => exact plain _ hh
    | c2 _ _ _ _ => exact plain _ hh
    | gp _ _ => exact plain _ hh
    | gj _ _ _ _ _ => exact plain _ hh
    | mix _ _ _ _ _ => exact plain _ hh
    | opn _ _ _ => exact plain _ hh
    | opb _ _ _ => exact plain _ hh
    | cls _ _ _ => exact plain _ hh
    | opp _ _ _ _ => exact plain _ hh
    | ot _ _ => exact plain _ hh
    | cm _ _ _ _ => exact plain _ hh
    | cm2 _ _ _ _ _ => exact plain _ hh
    | tr _ _ _ _ _ => exact plain _ hh
    | yl _ _ => exact plain _ hh
    | rg _ _ => exact plain _ hh
  | .loop b => fun R E fr hrd h σ k r m K ρ w Q hh hr hQ => by
    obtain ⟨h1, σ1, m1, K1, g1, g2, g3⟩ := prep_ok h (show prep h σ (fun h σ => match h with
      | .un m r => unroll (fun h σ k => exec J n b h σ k) k m r σ
      | .lp s ha => lpRun (fun h σ R k => exec J n b h σ k) s (s.sl.map (·.1) ++ writes b) ha σ k
      | _ => none) = some r from hh) hr
    have hQ' : ∀ e h' σ' m' K' ρ' w', Rel E fr σ' m' K' ρ' w' → Same σ1 σ' → k e h' σ' = some r → Q e (act1 n ρ') w' := fun e h'' σ'' m'' K'' ρ'' w'' p1 p2 p3 => hQ e h'' σ'' m'' K'' ρ'' w'' p1 (g2.trans p2) p3
    split at g1
    · exact wpIn_loop_rounds _ (unroll_ok (exec_ok hJ b) hrd hQ' _ g1 g3 Same.rfl')
    · exact lpRun_ok (exec_ok hJ b) hrd g1 g3 hQ'
    · cases g1
  | .rangeFunc g ps ao bo => fun R E fr hrd h σ k r m K ρ w Q hh hr hQ => by
    obtain ⟨h1, σ1, m1, K1, g1, g2, g3⟩ := prep_ok h (show prep h σ (fun h σ => rgRun J n g ps ao bo h σ k) = some r from hh) hr
    exact rgRun_ok hJ hrd g1 g3 (fun e h'' σ'' m'' K'' ρ'' w'' p1 p2 p3 => hQ e h'' σ'' m'' K'' ρ'' w'' p1 (g2.trans p2) p3)
  | .goto l => fun R E fr hrd h σ k r m K ρ w Q hh hr hQ => by cases hh
  | .refuse s => fun R E fr hrd h σ k r m K ρ w Q hh hr hQ => by cases hh
theorem execN_ok : ∀ d : Nat, JOk (execN (P := P) d)
  | 0 => fun n c R E fr hrd h σ k r m K ρ w Q hh hr hQ => by cases hh
  | d + 1 => fun n c => exec_ok (execN_ok d) c
end
end Go.Proofs.Ytfdkbceponodmaa
namespace Go.Proofs.Ytfdkbceponodmaa
open Go.RowKit
set_option linter.unusedVariables false
set_option linter.unusedSimpArgs false
set_option linter.unnecessarySimpa false
set_option linter.unusedSectionVars false
variable [BldA]
/-! ### The end of a function. -/
def resS (P : Program) (n : Nat) (σ : Zt) : List ResultVar → Option (List SV)
  | [] => some []
  | .tmp t :: r => (match resS P n σ r with | some vs => some (σ.ev n (.tmp t) :: vs) | none => none)
  | .cell a ty :: r => (match σ.ev n (.tmp a) with
    | .ptr i o => (match findR (HA.blkR i) (σ.H ++ σ.Hf) with
      | some q => (match ldv P ty q.cs o, resS P n σ r with | some v, some vs => some (v :: vs) | _, _ => none)
      | none => none)
    | _ => none)
def resV : List SV → SV
  | [v] => v
  | vs => .tup vs
def finO (σ : Zt) (rs : List SV) (o : Sh) : Option (TL o.ts) := bif (match rs, o.sl with | [], [] => true | _ :: _, [p] => Nat.beq p.1 0 | _, _ => false) then (match o.get (fun _ => resV rs) σ.H with | some g => TL.of o.ts g.ds | none => none) else none
def finD {P : Program} (σ : Zt) (rs : List SV) : (os : List Sh) → Hn P → Option (OutT os)
  | [a], _ => finO σ rs a
  | [a, b], h => (match h with | .pl _ => (finO σ rs b).map Sum.inr | _ => (finO σ rs a).map Sum.inl)
  | _, _ => none
def finF {P : Program} (n : Nat) (fn : Func) (os : List Sh) (h : Hn P) (σ : Zt) : Option (OutT os) := prep h σ fun h σ => match resS P n σ fn.results.toList with | some rs => finD σ rs os h | none => none
def fin {P : Program} (n : Nat) (fn : Func) (os : List Sh) (e : Exit) (h : Hn P) (σ : Zt) : Option (OutT os) := match e with
  | .normal => finF n fn os h σ
  | .ret => finF n fn os h σ
  | _ => none
/-- What a function computes, out of its code. -/
noncomputable def runF {P : Program} (n : Nat) (fn : Func) (c : Code) (inn : Sh) (os : List Sh) (h : Hn P) (x : TL inn.ts) : Option (OutT os) := match inn.un (TL.list inn.ts x) 0 with
  | some (vs, u) => prep h ⟨fun _ => .any, vs, u.H, [], u.nx, false⟩ fun h σ => exec (execN 4) n c h σ (fin n fn os)
  | none => none
section
variable {P : Program} {E : En} {n : Nat} {m : List M} {K : Hp} {fr : Frz} {σ : Zt} {ρ : Sl1} {w : World}
theorem resS_ok (hr : Rel E fr σ m K ρ w) : ∀ {l : List ResultVar} {rs : List SV}, resS P n σ l = some rs → ∃ us : List Value, SV.relL m K rs us ∧ l.length = us.length ∧ ∀ (j : Nat) (r : ResultVar) (v : Value), l[j]? = some r → us[j]? = some v → RvOk P n (Hold E K (σ.atoms fr m)) ρ r v
  | [], rs, h => by cases h; exact ⟨[], rfl, rfl, fun j r v h => by simp at h⟩
  | .tmp t :: l, rs, h => by
    unfold resS at h
    split at h
    · rename_i vs hvs
      cases h
      obtain ⟨us, h1, h2, h3⟩ := resS_ok hr hvs
      refine ⟨ev n ρ (.tmp t) :: us, ⟨_, us, rfl, hr.toPur.ev n (.tmp t), h1⟩, by simp [h2], fun j r v hj hv => ?_⟩
      cases j with
      | zero => simp at hj hv; subst hj hv; rfl
      | succ j => exact h3 j r v (by simpa using hj) (by simpa using hv)
    · cases h
  | .cell a ty :: l, rs, h => by
    unfold resS at h
    split at h
    · rename_i i o e
      split at h
      · rename_i q hq
        split at h
        · rename_i v vs hv hvs
          cases h
          obtain ⟨us, h1, h2, h3⟩ := resS_ok hr hvs
          obtain ⟨x, hx, hmem⟩ := findR_spec hq
          obtain rfl := blkR_eq hx
          obtain ⟨b, ws, g1, g2, g3⟩ := hr.cls.blk hmem
          obtain ⟨u, g4, g5⟩ := ldv_ok (P := P) (o0 := 0) hv g2 (fun j u hu => by rw [Nat.zero_add]; exact g3 j u hu)
          rw [Nat.zero_add] at g4
          have hev := hr.toPur.ev n (.tmp a)
          rw [e] at hev
          obtain ⟨b', q1, q2⟩ := hev
          rw [g1] at q1; cases q1
          refine ⟨u :: us, ⟨_, us, rfl, g5, h1⟩, by simp [h2], fun j r v hj hv => ?_⟩
          cases j with
          | zero => simp at hj hv; subst hj hv; exact ⟨b, o, q2, g4⟩
          | succ j => exact h3 j r v (by simpa using hj) (by simpa using hv)
        · cases h
      · cases h
    · cases h
theorem mapM_run {C : World → Prop} {w : World} (hw : C w) : ∀ {l : List ResultVar} {us : List Value}, l.length = us.length → (∀ (j : Nat) (r : ResultVar) (v : Value), l[j]? = some r → us[j]? = some v → RvOk P n C ρ r v) → (l.mapM (rvS (frm n ρ))).run P w = .ok us w
  | [], us, h, _ => by
    obtain rfl : us = [] := List.length_eq_zero_iff.1 h.symm
    simp
  | r :: l, us, h, hr => by
    cases us with
    | nil => cases h
    | cons u us =>
      have h1 := rv_run (hr 0 r u rfl rfl) hw
      have h2 := mapM_run hw (l := l) (us := us) (by simpa using h) (fun j r v hj hv => hr (j + 1) r v (by simpa using hj) (by simpa using hv))
      simp [List.mapM_cons, h1, h2]
/-- What a function hands back. -/
def tupV : List Value → Value
  | [v] => v
  | vs => .tuple vs.toArray
theorem res_run {C : World → Prop} {w : World} (hw : C w) {fn : Func} {us : List Value} (hl : fn.results.toList.length = us.length) (h : ∀ (j : Nat) (r : ResultVar) (v : Value), fn.results.toList[j]? = some r → us[j]? = some v → RvOk P n C ρ r v) : (results fn (frm n ρ)).run P w = .ok (tupV us) w := by
  have h1 := mapM_run hw hl h
  rw [results_rvS]
  simp only [Array.mapM_eq_mapM_toList]
  simp only [Sem.run_bind, Sem.run_map, h1, Result.andThen_ok, Sem.run_pure]
  match us with
  | [] => rfl
  | [u] => rfl
  | u :: v :: r =>
    rw [dif_neg (by simp)]
    rfl
theorem resV_rel {rs : List SV} {us : List Value} (h : SV.relL m K rs us) (hne : rs ≠ []) : SV.rel m K (resV rs) (tupV us) := by
  match rs, us, h with
  | [], _, _ => exact absurd rfl hne
  | [v], us, h =>
    obtain ⟨u, q, rfl, h1, h2⟩ := relL_cons h
    obtain rfl := relL_nil h2
    exact h1
  | v :: v2 :: r, us, h =>
    obtain ⟨u, q, rfl, h1, h2⟩ := relL_cons h
    obtain ⟨u2, q2, rfl, h3, h4⟩ := relL_cons h2
    exact ⟨_, rfl, u, _, rfl, h1, u2, q2, rfl, h3, h4⟩
theorem finO_ok {rs : List SV} {us : List Value} {o : Sh} {x : TL o.ts} {K0 : Hp} {m0 : List M} (h : finO σ rs o = some x) (hr : Rel E fr σ m K ρ w) (hrel : SV.relL m K rs us) (hm : m0 <+: m) (ho : oldOk o.bl m0.length = true) (hF : σ.Hf = []) :
    ∃ vs' u' m', o.un (TL.list o.ts x) m0.length = some (vs', u') ∧ m0 <+: m' ∧ m'.length = u'.nx ∧ (∀ a ∈ u'.H, HA.ok m' K a) ∧ resR m' K vs' (tupV us) ∧ Sep E K (u'.H.map (HA.conc m') ++ fr.F) w := by
  unfold finO at h
  replace h := bift h; obtain ⟨hs, h⟩ := h
  split at h
  · rename_i g hg
    obtain ⟨vs, u, ms, e1, e2, e3, e4, e5, e6, e7, e8⟩ := Sh.get_un hg hr.okH hm ho
    rw [TL.of_list h]
    refine ⟨vs, u, m0 ++ ms, e1, pre_app _ _, e2, e4, ?_, ?_⟩
    · split at hs
      · rename_i hsl
        rw [hsl] at e3
        obtain rfl : vs = [] := e3
        obtain rfl := relL_nil hrel
        rfl
      · rename_i v r p hsl
        rw [hsl] at e3
        obtain ⟨sv, q, rfl, g1, g2⟩ := e3
        obtain rfl : q = [] := g2
        exact g1 _ (resV_rel hrel (by simp))
      · cases hs
    · have := e6 E _ w hr.toSep
      have h2 : σ.fz fr = fr.F := by unfold Zt.fz; rw [hF]; rfl
      rw [h2] at this
      have h3 : Sep E K (g.H.map (HA.conc m) ++ (u.H.map (HA.conc (m0 ++ ms)) ++ fr.F)) w := Sep.perm (perm3 _ _ _) this
      exact Sep.drops h3
  · cases h
theorem finD_ok {rs : List SV} {us : List Value} {m0 : List M} (hr : Rel E fr σ m K ρ w) (hrel : SV.relL m K rs us) (hm : m0 <+: m) (hF : σ.Hf = []) : ∀ {os : List Sh} {h0 : Hn P} {r : OutT os}, (∀ o ∈ os, oldOk o.bl m0.length = true) → finD σ rs os h0 = some r →
    ∃ vs' u' m', (outSh os r).1.un (outSh os r).2 m0.length = some (vs', u') ∧ m0 <+: m' ∧ m'.length = u'.nx ∧ (∀ a ∈ u'.H, HA.ok m' K a) ∧ resR m' K vs' (tupV us) ∧ Sep E K (u'.H.map (HA.conc m') ++ fr.F) w
  | [], h0, r, _, h => Empty.elim r
  | [a], h0, r, ho, h => finO_ok (K0 := K) (show finO σ rs a = some r from h) hr hrel hm (ho a (by simp)) hF
  | [a, b], h0, r, ho, h => by
    have key : (finO σ rs b).map Sum.inr = some r ∨ (finO σ rs a).map Sum.inl = some r := by
      cases h0 <;> first | exact .inl h | exact .inr h
    clear h
    rcases key with h | h
    · rw [Option.map_eq_some_iff] at h
      obtain ⟨x, h, rfl⟩ := h
      exact finO_ok (K0 := K) h hr hrel hm (ho b (by simp)) hF
    · rw [Option.map_eq_some_iff] at h
      obtain ⟨x, h, rfl⟩ := h
      exact finO_ok (K0 := K) h hr hrel hm (ho a (by simp)) hF
  | a :: b :: c :: os, h0, r, _, h => by cases h
/-- Slots and arguments, one by one. -/
theorem args_look : ∀ {sl : List (Nat × Kd)} {vs : List (Nat × SV)} {us : List Value} {j N : Nat}, slN j sl N = true → vs.map (·.1) = sl.map (·.1) → slR m K vs us → ∀ i sv, look vs i = some sv → ∃ k u, i = j + k ∧ us[k]? = some u ∧ SV.rel m K sv u
  | [], vs, us, j, N, h1, h2, h3, i, sv, hl => by
    have : vs = [] := by cases vs with | nil => rfl | cons a b => cases h2
    subst this; cases hl
  | p :: sl, vs, us, j, N, h1, h2, h3, i, sv, hl => by
    cases vs with
    | nil => cases h2
    | cons q vs =>
      simp only [List.map_cons, List.cons.injEq] at h2
      simp only [slN, Bool.and_eq_true] at h1
      have hj := Nat.eq_of_beq_eq_true h1.1
      obtain ⟨u, r, rfl, g1, g2⟩ := h3
      change (bif Nat.beq q.1 i then some q.2 else look vs i) = some sv at hl
      cases hb : Nat.beq q.1 i with
      | true =>
        rw [hb] at hl; cases hl
        have := Nat.eq_of_beq_eq_true hb
        exact ⟨0, u, by rw [← this, h2.1, hj]; rfl, rfl, g1⟩
      | false =>
        rw [hb] at hl
        obtain ⟨k, u', e1, e2, e3⟩ := args_look h1.2 h2.2 g2 i sv hl
        exact ⟨k + 1, u', by omega, by simpa using e2, e3⟩
theorem unS_keys {bi : List Nat} : ∀ {sl : List (Nat × Kd)} {u u' : Un} {vs : List (Nat × SV)}, unS bi sl u = some (vs, u') → vs.map (·.1) = sl.map (·.1)
  | [], u, u', vs, h => by cases h; rfl
  | p :: sl, u, u', vs, h => by
    unfold unS at h
    split at h
    · split at h
      · rename_i h2
        cases h
        simp [unS_keys h2]
      · cases h
    · cases h
theorem un_keys {s : Sh} {ds : List Dat} {nx : Nat} {vs : List (Nat × SV)} {u : Un} (h : s.un ds nx = some (vs, u)) : vs.map (·.1) = s.sl.map (·.1) := by
  unfold Sh.un at h
  replace h := (bift h).2
  split at h
  split at h
  · rename_i h1
    split at h
    · cases h; exact unS_keys h1
    · cases h
  · cases h
theorem slR_len : ∀ {vs : List (Nat × SV)} {us : List Value}, slR m K vs us → us.length = vs.length
  | [], us, h => by obtain rfl : us = [] := h; rfl
  | p :: vs, us, ⟨u, r, e, _, h⟩ => by subst e; simp [slR_len h]
end
section
variable {P : Program} {E : En} {n : Nat} {m : List M} {K : Hp} {fr : Frz} {σ : Zt} {ρ : Sl1} {w : World}
theorem resS_kq {b : Bool} : ∀ l : List ResultVar, resS P n ⟨σ.base, σ.top, σ.H, σ.Hf, σ.nx, b⟩ l = resS P n σ l
  | [] => rfl
  | .tmp t :: r => by unfold resS; rw [resS_kq r]; rfl
  | .cell a ty :: r => by unfold resS; rw [resS_kq r]; rfl
theorem finD_kq {b : Bool} {rs : List SV} : ∀ {os : List Sh} {h : Hn P}, finD ⟨σ.base, σ.top, σ.H, σ.Hf, σ.nx, b⟩ rs os h = finD σ rs os h
  | [], h => rfl
  | [a], h => rfl
  | [a, b], h => by cases h <;> rfl
  | a :: b :: c :: os, h => rfl
end
section
variable {P : Program} {n : Nat}
/-- A function answers what is computed of its code. -/
theorem fn_ok {s : Spec} {fn : Func} {c : Code} (hf : P.funcs[s.f]? = some fn) (hb : fn.body = some c) (hn : fn.ntmps = n) (h : Hn P) (hc : (slN 0 s.inn.sl s.inn.sl.length && Nat.ble s.inn.sl.length n) = true) (hold : ∀ ds vs u, s.inn.un ds 0 = some (vs, u) → ∀ o ∈ s.outs, oldOk o.bl u.nx = true)
    (hex : ∀ (x : TL s.inn.ts) r, s.fn x = some r → runF n fn c s.inn s.outs h x = some r) : SpecOk P s := by
  intro x r hx vs u hu m K args hgk hm hok hsl E w F hs
  rw [Bool.and_eq_true] at hc
  obtain ⟨hc1, hc2⟩ := hc
  have hkeys := un_keys hu
  have hlen : args.toArray.size ≤ n := by
    have h1 := slR_len hsl
    have h2 : vs.length = s.inn.sl.length := by have := congrArg List.length hkeys; simpa using this
    simp only [List.size_toArray]
    have := Nat.le_of_ble_eq_true hc2
    omega
  refine callsIn_wide.1 (callsIn_of_wp_marks (F := Fence.wide) (n := 0) hf hb trivial ?_)
  rw [hn, frm_args hlen]
  have hrun := hex x r hx
  unfold runF at hrun
  rw [hu] at hrun
  simp only at hrun
  have hrel : Rel E.out0 ⟨m, K, args1 args.toArray, fun _ => false, F, K⟩ ⟨fun _ => .any, vs, u.H, [], u.nx, false⟩ m K (args1 args.toArray) w := by
    refine ⟨⟨List.prefix_refl m, Hp.le_refl K, hm, fun e => (by cases e), fun i => trivial, fun i e => rfl, fun i _ => .inr rfl, fun i sv hi => ?_, hok, fun a ha => by simp at ha, MOk.nil hgk (Hp.le_refl K)⟩, ?_⟩
    · obtain ⟨k, v, e1, e2, e3⟩ := args_look hc1 hkeys hsl i sv hi
      have : args1 args.toArray i = v := by
        show args0 args.toArray i = v
        unfold args0
        rw [e1, Nat.zero_add]
        simp [e2]
      rw [this]; exact e3
    · exact hs.out0
  obtain ⟨hp, σp, mp, Kp, p1, p2, p3⟩ := prep_ok h hrun hrel
  refine exec_ok (execN_ok 4) c (OutT s.outs) E.out0 ⟨m, K, args1 args.toArray, fun _ => false, F, K⟩ (fun l e => by cases e) hp σp (fin n fn s.outs) r mp Kp _ w _ p1 p3 (fun e h' σ' m' K' ρ' w' h1 h2 h3 => ?_)
  have fini : finF n fn s.outs h' σ' = some r → LeavesInM Fence.wide 0 P fn (act1 n ρ').tmps (fun e w' => ∃ v K' L', e = .returned v ∧ (∃ vs' u' m', (outSh s.outs r).1.un (outSh s.outs r).2 u.nx = some (vs', u') ∧ m <+: m' ∧ m'.length = u'.nx ∧ (∀ a ∈ u'.H, HA.ok m' K' a) ∧ resR m' K' vs' v ∧ L' = u'.H.map (HA.conc m')) ∧ K.le K' ∧ Sep E K' (L' ++ F) w') (act1 n ρ').defers .returning w' := fun h3 => by
    unfold finF at h3
    obtain ⟨h'', σ2, m2, K2, g1, g2, g3⟩ := prep_ok h' h3 h1
    split at g1
    · rename_i rs hrs
      refine marks_leave ρ'.ds g3.mks g3.toSep (fun K3 w3 c1 c2 c3 => ?_)
      have g4 := g3.unmark c1 c2 c2 c3
      rw [← resS_kq (b := false)] at hrs
      rw [← finD_kq (b := false)] at g1
      obtain ⟨us, q1, q2, q3⟩ := resS_ok g4 hrs
      refine ⟨tupV us, res_run (ρ := (⟨ρ'.f, []⟩ : Sl1)) g4.hold q2 q3, ?_⟩
      obtain ⟨vs', u', m'', z1, z2, z3, z4, z5, z6⟩ := finD_ok (m0 := m) g4 q1 g4.hm (((p2.trans h2).trans g2).2) (fun o ho => by rw [hm]; exact hold _ _ _ hu o ho) g1
      rw [hm] at z1
      exact ⟨_, K3, _, rfl, ⟨vs', u', m'', z1, z2, z3, z4, z5, rfl⟩, g4.hK, z6.back⟩
    · cases g1
  cases e with
  | normal => exact fini h3
  | ret => exact fini h3
  | _ => cases h3
end
end Go.Proofs.Ytfdkbceponodmaa
namespace Go.Proofs.Ytfdkbceponodmaa
open Go.RowKit
set_option linter.unusedVariables false
set_option linter.unusedSimpArgs false
set_option linter.unnecessarySimpa false
set_option linter.unusedSectionVars false
variable [BldA]
mutual
theorem un_nx {bi : List Nat} : ∀ (k : Kd) {u u' : Un} {v : SV}, Kd.un bi k u = some (v, u') → u.nx ≤ u'.nx
  | .any, u, u', v, h => by cases h; exact Nat.le_refl _
  | .dat t, u, u', v, h => by unfold Kd.un at h; split at h <;> cases h; exact Nat.le_refl _
  | .nilp, u, u', v, h => by cases h; exact Nat.le_refl _
  | .nils, u, u', v, h => by cases h; exact Nat.le_refl _
  | .nilf, u, u', v, h => by cases h; exact Nat.le_refl _
  | .ptr j o, u, u', v, h => by unfold Kd.un at h; split at h <;> cases h; exact Nat.le_refl _
  | .own e t, u, u', v, h => by unfold Kd.un at h; split at h <;> cases h; exact Nat.le_add_right _ _
  | .al j, u, u', v, h => by unfold Kd.un at h; split at h <;> cases h; exact Nat.le_refl _
  | .fsl j m, u, u', v, h => by unfold Kd.un at h; split at h <;> cases h; exact Nat.le_refl _
  | .agg ks, u, u', v, h => by
    unfold Kd.un at h; split at h
    · cases h; exact unL_nx ks (by assumption)
    · cases h
  | .tup ks, u, u', v, h => by
    unfold Kd.un at h; split at h
    · cases h; exact unL_nx ks (by assumption)
    · cases h
  | .fn f ks, u, u', v, h => by
    unfold Kd.un at h; split at h
    · cases h; exact unL_nx ks (by assumption)
    · cases h
  | .lit w, u, u', v, h => by cases h; exact Nat.le_refl _
  | .od o, u, u', v, h => by
    unfold Kd.un at h
    replace h := (bift h).2
    split at h
    · split at h
      · cases h; exact Nat.le_add_right _ _
      · cases h
    · cases h
  | .rp j, u, u', v, h => by unfold Kd.un at h; split at h <;> cases h; exact Nat.le_refl _
  | .is j k, u, u', v, h => by
    unfold Kd.un at h; split at h
    · split at h
      · cases h; exact un_nx k (by assumption)
      · cases h
    · cases h
theorem unL_nx {bi : List Nat} : ∀ (ks : List Kd) {u u' : Un} {vs : List SV}, Kd.unL bi ks u = some (vs, u') → u.nx ≤ u'.nx
  | [], u, u', vs, h => by cases h; exact Nat.le_refl _
  | k :: ks, u, u', vs, h => by
    unfold Kd.unL at h; split at h
    · rename_i h1
      split at h
      · rename_i h2; cases h; exact Nat.le_trans (un_nx k h1) (unL_nx ks h2)
      · cases h
    · cases h
end
theorem unS_nx {bi : List Nat} : ∀ (sl : List (Nat × Kd)) {u u' : Un} {vs : List (Nat × SV)}, unS bi sl u = some (vs, u') → u.nx ≤ u'.nx
  | [], u, u', vs, h => by cases h; exact Nat.le_refl _
  | p :: sl, u, u', vs, h => by
    unfold unS at h; split at h
    · rename_i h1
      split at h
      · rename_i h2; cases h; exact Nat.le_trans (un_nx p.2 h1) (unS_nx sl h2)
      · cases h
    · cases h
theorem unB_nx {bi : List Nat} : ∀ (bl : List Bk) (is : List Nat) {u u' : Un}, unB bi bl is u = some u' → u.nx ≤ u'.nx
  | [], [], u, u', h => by cases h; exact Nat.le_refl _
  | [], i :: is, u, u', h => by cases h
  | b :: bl, [], u, u', h => by cases h
  | b :: bl, i :: is, u, u', h => by
    unfold unB at h; split at h
    · rename_i u1 h1
      refine Nat.le_trans ?_ (unB_nx bl is h)
      unfold unB1 at h1
      cases hn : b.nu with
      | true => rw [hn] at h1; cases h1; exact Nat.le_refl _
      | false =>
        rw [hn] at h1; simp only [cond_false] at h1
        cases hlp : b.lp with
        | true => rw [hlp] at h1; simp only [cond_true] at h1; cases h1; exact Nat.le_refl _
        | false =>
        rw [hlp] at h1; simp only [cond_false] at h1
        cases hr : b.rw with
        | some o =>
          rw [hr] at h1
          dsimp only at h1
          split at h1
          · split at h1
            · cases h1; exact Nat.le_succ _
            · cases h1
          · cases h1
        | none =>
        rw [hr] at h1
        dsimp only at h1
        cases hb : b.bu with
        | true =>
          rw [hb] at h1; simp only [cond_true] at h1
          split at h1 <;> cases h1
          exact Nat.le_refl _
        | false =>
          rw [hb] at h1; simp only [cond_false] at h1
          split at h1
          · rename_i h2
            cases h1
            exact Nat.le_trans (unL_nx b.ks h2) (Nat.le_succ _)
          · cases h1
    · cases h
theorem idsB_nx : ∀ (bl : List Bk) (nx : Nat), allOld bl = true → (idsB bl nx).2 = nx + bl.length
  | [], nx, _ => rfl
  | b :: bl, nx, h => by
    simp only [allOld, Bool.and_eq_true] at h
    cases hb : b.old with
    | some i => rw [hb] at h; cases h.1
    | none =>
      simp only [idsB, hb, List.length_cons]
      rw [idsB_nx bl (nx + 1) h.2]
      omega
theorem sh_nx {s : Sh} {ds : List Dat} {vs : List (Nat × SV)} {u : Un} (h : s.un ds 0 = some (vs, u)) (ho : allOld s.bl = true) : s.bl.length ≤ u.nx := by
  unfold Sh.un at h
  replace h := (bift h).2
  have hn := idsB_nx s.bl 0 ho
  split at h
  rename_i bi nx he
  rw [he] at hn
  simp only [Nat.zero_add] at hn
  split at h
  · rename_i h1
    split at h
    · rename_i h2
      cases h
      have := unS_nx s.sl h1
      have := unB_nx s.bl bi h2
      simp only at *
      omega
    · cases h
  · cases h
theorem oldOk_le : ∀ (bl : List Bk) {a b : Nat}, oldOk bl a = true → a ≤ b → oldOk bl b = true
  | [], a, b, h, hab => rfl
  | x :: bl, a, b, h, hab => by
    simp only [oldOk, Bool.and_eq_true] at h ⊢
    refine ⟨?_, oldOk_le bl h.2 hab⟩
    cases ho : x.old with
    | none => rfl
    | some i =>
      have h1 := h.1
      rw [ho] at h1
      simp only [Nat.blt_eq] at h1 ⊢
      omega
def bodyOf (fn : Func) : Code := match fn.body with | some c => c | none => .skip
/-- What is asked of a specification beforehand. -/
def specOk (s : Spec) (fn : Func) : Bool := fn.body.isSome && (slN 0 s.inn.sl s.inn.sl.length && Nat.ble s.inn.sl.length fn.ntmps) && (allOld s.inn.bl && s.outs.all fun o => oldOk o.bl s.inn.bl.length)
/-- A function answers what is computed of its code. -/
theorem fn_is {P : Program} {s : Spec} {fn : Func} (hf : P.funcs[s.f]? = some fn) (h : Hn P) (hc : specOk s fn = true) (hex : (fun x => runF fn.ntmps fn (bodyOf fn) s.inn s.outs h x) = s.fn) : SpecOk P s := by
  unfold specOk at hc
  simp only [Bool.and_eq_true] at hc
  obtain ⟨⟨h1, h2, h2'⟩, h3, h4⟩ := hc
  have hb : fn.body = some (bodyOf fn) := by
    unfold bodyOf
    cases hbd : fn.body with
    | none => rw [hbd] at h1; cases h1
    | some c => rfl
  refine fn_ok hf hb rfl h (by rw [h2, h2']; rfl) (fun ds vs u hu o ho => oldOk_le o.bl (List.all_eq_true.1 h4 o ho) (sh_nx hu h3)) (fun x r hx => ?_)
  rw [← hx]
  exact congrFun hex x
end Go.Proofs.Ytfdkbceponodmaa
namespace Go.Proofs.Ytfdkbceponodmaa
open Go.RowKit
set_option linter.unusedVariables false
set_option linter.unusedSimpArgs false
set_option linter.unnecessarySimpa false
set_option linter.unusedSectionVars false
/-- What answers true for all that is known of its arguments does so for the caller. -/
theorem walkX [BldA] {P : Program} {s : Spec} {W : World} (hs : SpecOk P s) {x : TL s.inn.ts} {r : OutT s.outs} (hr : s.fn x = some r) (hgk : BldA.gk (Hp.of W)) {vs : List (Nat × SV)} (hun : s.inn.un (TL.list _ x) 0 = some (vs, ⟨[], 0, [], []⟩))
    (hout : (outSh s.outs r).1.un (outSh s.outs r).2 0 = some ([(0, .bool true)], ⟨[], 0, [], []⟩)) {args : List Value} (hsl : slR [] (Hp.of W) vs args) :
    Calls P s.f args.toArray W fun e W' => e = .returned (.bool true) ∧ Below W.heap.size W W' := by
  have h := hs x r hr vs _ hun [] (Hp.of W) args hgk rfl (fun a ha => by cases ha) hsl (En.of W) W [] (Sep.start W)
  refine h.mono fun e W' h => ?_
  obtain ⟨v, K', L', rfl, ⟨vs', u', m', h1, _, _, _, h2, _⟩, h3, h4⟩ := h
  have h1 := h1.symm.trans hout
  cases h1
  obtain rfl : v = .bool true := h2
  exact ⟨rfl, h4.below h3⟩
end Go.Proofs.Ytfdkbceponodmaa
namespace Go.Proofs
open Go.Shelf
def Try.lays128_ren : Go.Shelf.Ren := ⟨fun | 128 => 47 | n => n, fun | 51 => 70 | 3 => 3 | 4 => 4 | 46 => 57 | 5 => 5 | 9 => 9 | n => n, fun | n => n⟩
theorem Try.lays128 : Go.Proofs.Lays.n128 Try.prog Try.lays128_ren := {
  mixed := by kernel_rfl
  f128 := Try.func47.trans (congrArg some (by kernel_rfl))
  t3 := Try.underlying3
  a3 := Try.isAgg3
  z3 := Try.sizeOf3
  v3 := Try.zeroValue3
  t4 := Try.underlying4
  a4 := Try.isAgg4
  z4 := Try.sizeOf4
  v4 := Try.zeroValue4
  t5 := Try.underlying5
  a5 := Try.isAgg5
  z5 := Try.sizeOf5
  v5 := Try.zeroValue5
  t9 := Try.underlying9
  a9 := Try.isAgg9
  z9 := Try.sizeOf9
  v9 := Try.zeroValue9
  t46 := Try.underlying57
  a46 := Try.isAgg57
  z46 := Try.sizeOf57
  v46 := Try.zeroValue57
  t51 := Try.underlying70
  a51 := Try.isAgg70
  z51 := Try.sizeOf70
  v51 := Try.zeroValue70 }
/-- bits.Len32: "Len32 returns the minimum number of bits required to represent x; the result is 0 for x == 0.": IT RETURNS 'Lib.bitLen x'; the world is as it was. ('h0', 'h1': x is a uint32.) (LAID: no walk: one application.) -/
theorem Try.bits_Len32 (x : Int) (w : World) (h0 : 0 ≤ x) (h1 : x ≤ 4294967295) :
    Calls Try.prog 47 #[.int .u32 x] w fun e w' => e = .returned (.int .i64 (Lib.bitLen x.toNat)) ∧ w' = w := Any.bits_Len32 Try.lays128 x w h0 h1
def Try.lays125_ren : Go.Shelf.Ren := ⟨fun | 125 => 32 | 128 => 47 | 129 => 48 | n => n, fun | 46 => 57 | 3 => 3 | 51 => 70 | 53 => 41 | 4 => 4 | 5 => 5 | 9 => 9 | n => n, fun | n => n⟩
theorem Try.lays125 : Go.Proofs.Lays.n125 Try.prog Try.lays125_ren := {
  mixed := by kernel_rfl
  f125 := Try.func32.trans (congrArg some (by kernel_rfl))
  f128 := Try.func47.trans (congrArg some (by kernel_rfl))
  f129 := Try.func48.trans (congrArg some (by kernel_rfl))
  t3 := Try.underlying3
  a3 := Try.isAgg3
  z3 := Try.sizeOf3
  v3 := Try.zeroValue3
  t4 := Try.underlying4
  a4 := Try.isAgg4
  z4 := Try.sizeOf4
  v4 := Try.zeroValue4
  t5 := Try.underlying5
  a5 := Try.isAgg5
  z5 := Try.sizeOf5
  v5 := Try.zeroValue5
  t9 := Try.underlying9
  a9 := Try.isAgg9
  z9 := Try.sizeOf9
  v9 := Try.zeroValue9
  t46 := Try.underlying57
  a46 := Try.isAgg57
  z46 := Try.sizeOf57
  v46 := Try.zeroValue57
  t51 := Try.underlying70
  a51 := Try.isAgg70
  z51 := Try.sizeOf70
  v51 := Try.zeroValue70
  t53 := Try.underlying41
  a53 := Try.isAgg41
  z53 := Try.sizeOf41
  v53 := Try.zeroValue41 }
/-- bits.Len: "Len returns the minimum number of bits required to represent x; the result is 0 for x == 0.": IT RETURNS 'Lib.bitLen x'; the world is as it was. (A uint has 64 bits in the model.) ITS CALLEE bits.Len64 IS MET BY ITS OWN CONTRACT OFF THE SHELF (lay that first). (LAID: no walk: one application.) -/
theorem Try.bits_Len (x : Int) (w : World) (h0 : 0 ≤ x) (h1 : x ≤ 18446744073709551615) :
    Calls Try.prog 32 #[.int .u64 x] w fun e w' => e = .returned (.int .i64 (Lib.bitLen x.toNat)) ∧ w' = w := Any.bits_Len Try.lays125 x w h0 h1
def Try.lays215_ren : Go.Shelf.Ren := ⟨fun | 215 => 56 | n => n, fun | 3 => 3 | 4 => 4 | n => n, fun | n => n⟩
theorem Try.lays215 : Go.Proofs.Lays.n215 Try.prog Try.lays215_ren := {
  mixed := by kernel_rfl
  f215 := Try.func56.trans (congrArg some (by kernel_rfl))
  t3 := Try.underlying3
  a3 := Try.isAgg3
  z3 := Try.sizeOf3
  v3 := Try.zeroValue3
  t4 := Try.underlying4
  a4 := Try.isAgg4
  z4 := Try.sizeOf4
  v4 := Try.zeroValue4 }
open Go.RowKit in
/-- cmp.isNaN at int: 'x != x': false. (LAID: no walk: one application.) -/
theorem Try.cmp_isNaN_int (x : Int) (w : World) :
    Calls Try.prog 56 #[.int .i64 x] w fun e w' => e = .returned (.bool false) ∧ w' = w := Any.cmp_isNaN_int Try.lays215 x w
def Try.lays129_ren : Go.Shelf.Ren := ⟨fun | 129 => 48 | n => n, fun | 53 => 41 | 3 => 3 | 4 => 4 | 46 => 57 | 5 => 5 | 9 => 9 | n => n, fun | n => n⟩
theorem Try.lays129 : Go.Proofs.Lays.n129 Try.prog Try.lays129_ren := {
  mixed := by kernel_rfl
  f129 := Try.func48.trans (congrArg some (by kernel_rfl))
  t3 := Try.underlying3
  a3 := Try.isAgg3
  z3 := Try.sizeOf3
  v3 := Try.zeroValue3
  t4 := Try.underlying4
  a4 := Try.isAgg4
  z4 := Try.sizeOf4
  v4 := Try.zeroValue4
  t5 := Try.underlying5
  a5 := Try.isAgg5
  z5 := Try.sizeOf5
  v5 := Try.zeroValue5
  t9 := Try.underlying9
  a9 := Try.isAgg9
  z9 := Try.sizeOf9
  v9 := Try.zeroValue9
  t46 := Try.underlying57
  a46 := Try.isAgg57
  z46 := Try.sizeOf57
  v46 := Try.zeroValue57
  t53 := Try.underlying41
  a53 := Try.isAgg41
  z53 := Try.sizeOf41
  v53 := Try.zeroValue41 }
/-- bits.Len64: "Len64 returns the minimum number of bits required to represent x; the result is 0 for x == 0.": IT RETURNS 'Lib.bitLen x'; the world is as it was. ('h0', 'h1': x is a uint64.) (LAID: no walk: one application.) -/
theorem Try.bits_Len64 (x : Int) (w : World) (h0 : 0 ≤ x) (h1 : x ≤ 18446744073709551615) :
    Calls Try.prog 48 #[.int .u64 x] w fun e w' => e = .returned (.int .i64 (Lib.bitLen x.toNat)) ∧ w' = w := Any.bits_Len64 Try.lays129 x w h0 h1
def Try.lays189_ren : Go.Shelf.Ren := ⟨fun | 189 => 22 | 125 => 32 | 257 => 31 | 128 => 47 | 129 => 48 | 294 => 38 | 295 => 39 | 296 => 40 | 297 => 41 | 298 => 42 | 299 => 43 | 216 => 44 | 300 => 45 | 301 => 46 | 328 => 51 | 329 => 52 | 330 => 53 | 331 => 54 | 332 => 55 | 215 => 56 | 343 => 58 | n => n, fun | 28 => 22 | 3 => 3 | 46 => 57 | 0 => 0 | 51 => 70 | 53 => 41 | 4 => 4 | 183 => 63 | 182 => 62 | 131 => 52 | 5 => 5 | 9 => 9 | 218 => 71 | 222 => 75 | 228 => 77 | 229 => 78 | n => n, fun | n => n⟩
theorem Try.lays189 : Go.Proofs.Lays.n189 Try.prog Try.lays189_ren := {
  mixed := by kernel_rfl
  f125 := Try.func32.trans (congrArg some (by kernel_rfl))
  f128 := Try.func47.trans (congrArg some (by kernel_rfl))
  f129 := Try.func48.trans (congrArg some (by kernel_rfl))
  f189 := Try.func22.trans (congrArg some (by kernel_rfl))
  f215 := Try.func56.trans (congrArg some (by kernel_rfl))
  f216 := Try.func44.trans (congrArg some (by kernel_rfl))
  f257 := Try.func31.trans (congrArg some (by kernel_rfl))
  f294 := Try.func38.trans (congrArg some (by kernel_rfl))
  f295 := Try.func39.trans (congrArg some (by kernel_rfl))
  f296 := Try.func40.trans (congrArg some (by kernel_rfl))
  f297 := Try.func41.trans (congrArg some (by kernel_rfl))
  f298 := Try.func42.trans (congrArg some (by kernel_rfl))
  f299 := Try.func43.trans (congrArg some (by kernel_rfl))
  f300 := Try.func45.trans (congrArg some (by kernel_rfl))
  f301 := Try.func46.trans (congrArg some (by kernel_rfl))
  f328 := Try.func51.trans (congrArg some (by kernel_rfl))
  f329 := Try.func52.trans (congrArg some (by kernel_rfl))
  f330 := Try.func53.trans (congrArg some (by kernel_rfl))
  f331 := Try.func54.trans (congrArg some (by kernel_rfl))
  f332 := Try.func55.trans (congrArg some (by kernel_rfl))
  f343 := Try.func58.trans (congrArg some (by kernel_rfl))
  t0 := Try.underlying0
  a0 := Try.isAgg0
  z0 := Try.sizeOf0
  v0 := Try.zeroValue0
  t3 := Try.underlying3
  a3 := Try.isAgg3
  z3 := Try.sizeOf3
  v3 := Try.zeroValue3
  t4 := Try.underlying4
  a4 := Try.isAgg4
  z4 := Try.sizeOf4
  v4 := Try.zeroValue4
  t5 := Try.underlying5
  a5 := Try.isAgg5
  z5 := Try.sizeOf5
  v5 := Try.zeroValue5
  t9 := Try.underlying9
  a9 := Try.isAgg9
  z9 := Try.sizeOf9
  v9 := Try.zeroValue9
  t28 := Try.underlying22
  a28 := Try.isAgg22
  z28 := Try.sizeOf22
  v28 := Try.zeroValue22
  t46 := Try.underlying57
  a46 := Try.isAgg57
  z46 := Try.sizeOf57
  v46 := Try.zeroValue57
  t51 := Try.underlying70
  a51 := Try.isAgg70
  z51 := Try.sizeOf70
  v51 := Try.zeroValue70
  t53 := Try.underlying41
  a53 := Try.isAgg41
  z53 := Try.sizeOf41
  v53 := Try.zeroValue41
  t131 := Try.underlying52
  a131 := Try.isAgg52
  z131 := Try.sizeOf52
  v131 := Try.zeroValue52
  t182 := Try.underlying62
  a182 := Try.isAgg62
  z182 := Try.sizeOf62
  v182 := Try.zeroValue62
  t183 := Try.underlying63
  a183 := Try.isAgg63
  z183 := Try.sizeOf63
  v183 := Try.zeroValue63
  t218 := Try.underlying71
  a218 := Try.isAgg71
  z218 := Try.sizeOf71
  v218 := Try.zeroValue71
  t222 := Try.underlying75
  a222 := Try.isAgg75
  z222 := Try.sizeOf75
  v222 := Try.zeroValue75
  t228 := Try.underlying77
  a228 := Try.isAgg77
  z228 := Try.sizeOf77
  v228 := Try.zeroValue77
  t229 := Try.underlying78
  a229 := Try.isAgg78
  z229 := Try.sizeOf78
  v229 := Try.zeroValue78 }
open Go.Sort Go.RowKit in
theorem Try.slices_Sort_int (blk off cap : Nat) (zs : List Int) (w : World) (hH : Holds (Value.int .i64) w blk off zs.toArray) (hblk : blk < w.heap.size) (hsz : zs.length < 4611686018427387904) :
    Calls Try.prog 22 #[.slice (some ⟨blk, off, none⟩) zs.length cap] w fun e w' =>
      e = .returned (.tuple #[]) ∧ ∃ n os, w' = grow (putRow (Value.int .i64) (Sort.ahead w n) blk off (zs.mergeSort fun x y => decide (x ≤ y)).toArray) os := Any.slices_Sort_int Try.lays189 blk off cap zs w hH hblk hsz
def Try.lays112_ren : Go.Shelf.Ren := ⟨fun | 112 => 57 | n => n, fun | 28 => 22 | 3 => 3 | 4 => 4 | 0 => 0 | n => n, fun | n => n⟩
theorem Try.lays112 : Go.Proofs.Lays.n112 Try.prog Try.lays112_ren := {
  mixed := by kernel_rfl
  f112 := Try.func57.trans (congrArg some (by kernel_rfl))
  t0 := Try.underlying0
  a0 := Try.isAgg0
  z0 := Try.sizeOf0
  v0 := Try.zeroValue0
  t3 := Try.underlying3
  a3 := Try.isAgg3
  z3 := Try.sizeOf3
  v3 := Try.zeroValue3
  t4 := Try.underlying4
  a4 := Try.isAgg4
  z4 := Try.sizeOf4
  v4 := Try.zeroValue4
  t28 := Try.underlying22
  a28 := Try.isAgg22
  z28 := Try.sizeOf22
  v28 := Try.zeroValue22 }
open Go.RowKit Go.Lib Go.Sort in
/-- slices.Reverse at []int, over an array: Go's loop from the two ends inward is walked; it makes 'Sort.reverseLoop 0 (len - 1)', which is 'Array.reverse' (Derived/Lib/SlicesMore.lean). (LAID: no walk: one application.) -/
theorem Try.slices_Reverse_int_arr (blk off cap : Nat) (d : Array Int) (w : World) (hH : Holds encI w blk off d) (hsz : d.size ≤ 9223372036854775807) :
    Calls Try.prog 57 #[.slice (some ⟨blk, off, none⟩) d.size cap] w fun e w' => e = .returned (.tuple #[]) ∧ ∃ n, w' = putRow encI (Sort.ahead w n) blk off d.reverse := Any.slices_Reverse_int_arr Try.lays112 blk off cap d w hH hsz
open Go.RowKit Go.Lib Go.Sort in
/-- slices.Reverse at []int: "Reverse reverses the elements of the slice in place.": THE SLICE's CELLS HOLD 'zs.reverse' BEHIND THE CALL; all else is as it was, but for the count of draws (the exchange 's[i], s[j] = s[j], s[i]' draws its order, once a round). IN THE WORDS OF slices.Sort's CONTRACT: 'Holds': the cells hold zs and none is frozen; 'putRow': the world with those cells holding another array. A slice of length 0 that is not nil is among them ('zs = []'); nil: '.._nil'. (LAID: no walk: one application.) -/
theorem Try.slices_Reverse_int (blk off cap : Nat) (zs : List Int) (w : World) (hH : Holds (Value.int .i64) w blk off zs.toArray) (hsz : zs.length ≤ 9223372036854775807) :
    Calls Try.prog 57 #[.slice (some ⟨blk, off, none⟩) zs.length cap] w fun e w' => e = .returned (.tuple #[]) ∧ ∃ n, w' = putRow (Value.int .i64) (Sort.ahead w n) blk off zs.reverse.toArray := Any.slices_Reverse_int Try.lays112 blk off cap zs w hH hsz
open Go.RowKit Go.Lib Go.Sort in
/-- The same at a slice of length 0, a nil one too: nothing is read, nothing written, nothing drawn. (LAID: no walk: one application.) -/
theorem Try.slices_Reverse_int_empty (a : Option Addr) (cap : Nat) (w : World) :
    Calls Try.prog 57 #[.slice a 0 cap] w fun e w' => e = .returned (.tuple #[]) ∧ w' = w := Any.slices_Reverse_int_empty Try.lays112 a cap w
def Try.laysNm220_ren : Go.Shelf.Ren := ⟨fun | 20 => 23 | n => n, fun | 22 => 22 | 3 => 3 | 4 => 4 | 0 => 0 | n => n, fun | n => n⟩
theorem Try.laysNm220 : Go.Proofs.Lays2.n20 Try.prog Try.laysNm220_ren := {
  mixed := by kernel_rfl
  f20 := Try.func23.trans (congrArg some (by kernel_rfl))
  t0 := Try.underlying0
  a0 := Try.isAgg0
  z0 := Try.sizeOf0
  v0 := Try.zeroValue0
  t3 := Try.underlying3
  a3 := Try.isAgg3
  z3 := Try.sizeOf3
  v3 := Try.zeroValue3
  t4 := Try.underlying4
  a4 := Try.isAgg4
  z4 := Try.sizeOf4
  v4 := Try.zeroValue4
  t22 := Try.underlying22
  a22 := Try.isAgg22
  z22 := Try.sizeOf22
  v22 := Try.zeroValue22
  i3 := by kernel_rfl }
open Go.RowKit Go.Lib Go.Sort in
/-- slices.Compact at []int, over an array: the library's two loops are walked. (LAID: no walk: one application.) -/
theorem Try.slices_Compact_int_arr (blk off cap : Nat) (d : Array Int) (w : World) (hH : Holds encI w blk off d) (hsz : d.size ≤ 9223372036854775807) (hcap : d.size ≤ cap) :
    Calls Try.prog 23 #[.slice (some ⟨blk, off, none⟩) d.size cap] w fun e w' => e = .returned (.slice (some ⟨blk, off, none⟩) (compactUpTo d d.size).length cap) ∧ ∃ q, w' = putRow encI (Sort.ahead w q) blk off (compactUpTo d d.size ++ List.replicate (d.size - (compactUpTo d d.size).length) 0).toArray := Any.slices_Compact_int_arr Try.laysNm220 blk off cap d w hH hsz hcap
open Go.RowKit Go.Lib Go.Sort in
/-- slices.Compact at []int: "Compact replaces consecutive runs of equal elements with a single copy. This is like the uniq command found on Unix. Compact modifies the contents of the slice s and returns the modified slice, which may have a smaller length. Compact zeroes the elements between the new length and the original length. The result preserves the nilness of s.": IT RETURNS THE SLICE CUT TO 'Lib.compact zs'; ITS CELLS HOLD 'Lib.compact zs', THEN ZERO VALUES up to the old length; all else is as it was, but for the count of draws. IN THE WORDS OF slices.Sort's CONTRACT ('Holds', 'putRow'): so the everyday 'slices.Sort(xs); xs = slices.Compact(xs)' goes from the one contract to the other. It asks 'zs.length ≤ cap' (every slice's: the reslicing 's[:k]' looks at it). Length 0, nil: '.._empty'. (LAID: no walk: one application.) -/
theorem Try.slices_Compact_int (blk off cap : Nat) (zs : List Int) (w : World) (hH : Holds (Value.int .i64) w blk off zs.toArray) (hsz : zs.length ≤ 9223372036854775807) (hcap : zs.length ≤ cap) :
    Calls Try.prog 23 #[.slice (some ⟨blk, off, none⟩) zs.length cap] w fun e w' => e = .returned (.slice (some ⟨blk, off, none⟩) (Lib.compact zs).length cap) ∧ ∃ q, w' = putRow (Value.int .i64) (Sort.ahead w q) blk off (Lib.compact zs ++ List.replicate (zs.length - (Lib.compact zs).length) 0).toArray := Any.slices_Compact_int Try.laysNm220 blk off cap zs w hH hsz hcap
open Go.RowKit Go.Lib Go.Sort in
/-- The same at a slice of length 0, a nil one too: it comes back as it is. (LAID: no walk: one application.) -/
theorem Try.slices_Compact_int_empty (a : Option Addr) (cap : Nat) (w : World) :
    Calls Try.prog 23 #[.slice a 0 cap] w fun e w' => e = .returned (.slice a 0 cap) ∧ w' = w := Any.slices_Compact_int_empty Try.laysNm220 a cap w
def Try.laysNm237_ren : Go.Shelf.Ren := ⟨fun | 37 => 56 | n => n, fun | 3 => 3 | 4 => 4 | n => n, fun | n => n⟩
theorem Try.laysNm237 : Go.Proofs.Lays2.n37 Try.prog Try.laysNm237_ren := {
  mixed := by kernel_rfl
  f37 := Try.func56.trans (congrArg some (by kernel_rfl))
  t3 := Try.underlying3
  a3 := Try.isAgg3
  z3 := Try.sizeOf3
  v3 := Try.zeroValue3
  t4 := Try.underlying4
  a4 := Try.isAgg4
  z4 := Try.sizeOf4
  v4 := Try.zeroValue4 }
open Go.RowKit Go.Lib in
/-- cmp.isNaN[int]: 'x != x': false. (LAID: no walk: one application.) -/
theorem Try.cmp_isNaN_int2 (x : Int) (w : World) :
    Calls Try.prog 56 #[.int .i64 x] w fun e w' => e = .returned (.bool false) ∧ w' = w := Any.cmp_isNaN_int2 Try.laysNm237 x w
def Try.laysNm232_ren : Go.Shelf.Ren := ⟨fun | 32 => 50 | n => n, fun | 3 => 3 | 4 => 4 | n => n, fun | n => n⟩
theorem Try.laysNm232 : Go.Proofs.Lays2.n32 Try.prog Try.laysNm232_ren := {
  mixed := by kernel_rfl
  f32 := Try.func50.trans (congrArg some (by kernel_rfl))
  t3 := Try.underlying3
  a3 := Try.isAgg3
  z3 := Try.sizeOf3
  v3 := Try.zeroValue3
  t4 := Try.underlying4
  a4 := Try.isAgg4
  z4 := Try.sizeOf4
  v4 := Try.zeroValue4 }
open Go.RowKit Go.Lib in
/-- slices.isNaN[int]: 'x != x': false. (LAID: no walk: one application.) -/
theorem Try.slices_isNaN_int2 (x : Int) (w : World) :
    Calls Try.prog 50 #[.int .i64 x] w fun e w' => e = .returned (.bool false) ∧ w' = w := Any.slices_isNaN_int2 Try.laysNm232 x w
def Try.laysNm231_ren : Go.Shelf.Ren := ⟨fun | 31 => 44 | 37 => 56 | n => n, fun | 3 => 3 | 4 => 4 | n => n, fun | n => n⟩
theorem Try.laysNm231 : Go.Proofs.Lays2.n31 Try.prog Try.laysNm231_ren := {
  mixed := by kernel_rfl
  f31 := Try.func44.trans (congrArg some (by kernel_rfl))
  f37 := Try.func56.trans (congrArg some (by kernel_rfl))
  t3 := Try.underlying3
  a3 := Try.isAgg3
  z3 := Try.sizeOf3
  v3 := Try.zeroValue3
  t4 := Try.underlying4
  a4 := Try.isAgg4
  z4 := Try.sizeOf4
  v4 := Try.zeroValue4 }
open Go.RowKit Go.Lib in
/-- cmp.Less[int]: "Less reports whether x is less than y.": 'x < y'; the world is as it was. (LAID: no walk: one application.) -/
theorem Try.cmp_Less_int2 (x y : Int) (w : World) :
    Calls Try.prog 44 #[.int .i64 x, .int .i64 y] w fun e w' => e = .returned (.bool (decide (x < y))) ∧ w' = w := Any.cmp_Less_int2 Try.laysNm231 x y w
def Try.laysNm225_ren : Go.Shelf.Ren := ⟨fun | 25 => 36 | 31 => 44 | 32 => 50 | 37 => 56 | n => n, fun | 22 => 22 | 3 => 3 | 4 => 4 | 40 => 57 | 0 => 0 | n => n, fun | n => n⟩
theorem Try.laysNm225 : Go.Proofs.Lays2.n25 Try.prog Try.laysNm225_ren := {
  mixed := by kernel_rfl
  f25 := Try.func36.trans (congrArg some (by kernel_rfl))
  f31 := Try.func44.trans (congrArg some (by kernel_rfl))
  f32 := Try.func50.trans (congrArg some (by kernel_rfl))
  f37 := Try.func56.trans (congrArg some (by kernel_rfl))
  t0 := Try.underlying0
  a0 := Try.isAgg0
  z0 := Try.sizeOf0
  v0 := Try.zeroValue0
  t3 := Try.underlying3
  a3 := Try.isAgg3
  z3 := Try.sizeOf3
  v3 := Try.zeroValue3
  t4 := Try.underlying4
  a4 := Try.isAgg4
  z4 := Try.sizeOf4
  v4 := Try.zeroValue4
  t22 := Try.underlying22
  a22 := Try.isAgg22
  z22 := Try.sizeOf22
  v22 := Try.zeroValue22
  t40 := Try.underlying57
  a40 := Try.isAgg57
  z40 := Try.sizeOf57
  v40 := Try.zeroValue57 }
open Go.RowKit Go.Lib in
/-- slices.BinarySearch at []int: "BinarySearch searches for target in a sorted slice and returns the earliest position where target is found, or the position where target would appear in the sort order; it also returns a bool saying whether the target is really found in the slice. The slice must be sorted in increasing order.": OF A SORTED SLICE IT RETURNS how many elements are less than the target, and whether the target is among the elements; the world is as it was but for the count of draws. 'zs': what the cells behind the slice's address hold; 'zs.take n': its elements. (Of a slice that is not sorted: no contract here.) (LAID: no walk: one application.) -/
theorem Try.slices_BinarySearch_int (b off n c : Nat) (zs : List Int) (x : Int) (w : World) (hz : n ≤ zs.length) (hbig : n < 4611686018427387904) (hc : ∀ j, j < zs.length → w.cell? ⟨b, off + j, none⟩ = some (.int .i64 (zs.getD j 0))) (hs : (zs.take n).Pairwise (· ≤ ·)) :
    Calls Try.prog 36 #[.slice (some ⟨b, off, none⟩) n c, .int .i64 x] w fun e w' => e = .returned (.tuple #[.int .i64 ((zs.take n).countP (· < x) : Nat), .bool ((zs.take n).contains x)]) ∧ ∃ q, w' = w.drewN q := Any.slices_BinarySearch_int Try.laysNm225 b off n c zs x w hz hbig hc hs
open Go.RowKit Go.Lib Go.Sort in
/-- slices.Reverse at []int, of an argument: the n cells hold the elements in reverse. (LAID: no walk: one application.) -/
theorem Try.slices_Reverse_int_cells (b off n c : Nat) (zs : List Int) (w : World) (hz : n ≤ zs.length) (hbig : n ≤ 9223372036854775807) (hc : ∀ j, j < zs.length → w.cell? ⟨b, off + j, none⟩ = some (.int .i64 (zs.getD j 0))) (hf : ∀ j, j < n → w.frozen? ⟨b, off + j, none⟩ = false) :
    Calls Try.prog 57 #[.slice (some ⟨b, off, none⟩) n c] w fun e w' => e = .returned (.tuple #[]) ∧ ∃ q, w' = (w.drewN q).setCells b off ((zs.take n).reverse.map (Value.int .i64)) := Any.slices_Reverse_int_cells Try.lays112 b off n c zs w hz hbig hc hf
open Go.RowKit Go.Lib Go.Sort in
/-- slices.Compact at []int, of an argument: the slice cut to 'Lib.compact (elements)'; the n cells hold that, then zeros. (LAID: no walk: one application.) -/
theorem Try.slices_Compact_int_cells (b off n c : Nat) (zs : List Int) (w : World) (hz : n ≤ zs.length) (hbig : n ≤ 9223372036854775807) (hcap : n ≤ c) (hc : ∀ j, j < zs.length → w.cell? ⟨b, off + j, none⟩ = some (.int .i64 (zs.getD j 0))) (hf : ∀ j, j < n → w.frozen? ⟨b, off + j, none⟩ = false) :
    Calls Try.prog 23 #[.slice (some ⟨b, off, none⟩) n c] w fun e w' => e = .returned (.slice (some ⟨b, off, none⟩) (Lib.compact (zs.take n)).length c) ∧ ∃ q, w' = (w.drewN q).setCells b off ((Lib.compact (zs.take n) ++ List.replicate (n - (Lib.compact (zs.take n)).length) 0).map (Value.int .i64)) := Any.slices_Compact_int_cells Try.laysNm220 b off n c zs w hz hbig hcap hc hf
open Go.RowKit Go.Sort in
/-- .. and plain. (LAID: no walk: one application.) -/
theorem Try.slices_Sort_int_none (p : Option Addr) (cap : Nat) (w : World) :
    Calls Try.prog 22 #[.slice p 0 cap] w fun e w' => e = .returned (.tuple #[]) ∧ w' = w := Any.slices_Sort_int_none Try.lays189 p cap w
open Go.RowKit Go.Lib in
/-- slices.BinarySearch at []int of no element: position 0, not found; the world is as it was. (LAID: no walk: one application.) -/
theorem Try.slices_BinarySearch_int_empty (a : Option Addr) (c : Nat) (x : Int) (w : World) :
    Calls Try.prog 36 #[.slice a 0 c, .int .i64 x] w fun e w' => e = .returned (.tuple #[.int .i64 0, .bool false]) ∧ w' = w := Any.slices_BinarySearch_int_empty Try.laysNm225 a c x w
end Go.Proofs
namespace Go.Proofs.Ytfdkbceponodmaa
open Go.RowKit
set_option linter.unusedVariables false
def srt (xs : List Int) : Option (List Int) := if xs.length ≤ 1073741824 then some (xs.mergeSort fun x y => decide (x ≤ y)) else none
theorem srt_some {xs r : List Int} (h : srt xs = some r) : xs.length ≤ 1073741824 ∧ xs.mergeSort (fun x y => decide (x ≤ y)) = r := by
  unfold srt at h; split at h
  · rename_i hh; cases h; exact ⟨hh, rfl⟩
  · cases h
theorem els_ints (K : Hp) : ∀ xs : List Int, Els K (.int .i64) (xs.map (Value.int .i64)) xs
  | [] => rfl
  | x :: xs => ⟨[.int .i64 x], _, rfl, rfl, els_ints K xs⟩
theorem els_ints_eq {K : Hp} : ∀ {xs : List Int} {cs : List Value}, Els K (.int .i64) cs xs → cs = xs.map (Value.int .i64)
  | [], cs, h => h
  | x :: xs, cs, h => by
    obtain ⟨es, r, rfl, h1, h2⟩ := h
    obtain rfl : es = [.int .i64 x] := h1
    rw [els_ints_eq h2]; rfl
theorem slices_Sort_ok {K : Hp} {ad : Option Addr} {m cap : Nat} {xs r : List Int} (h : srt xs = some r) :
    Tr Try.prog 22 #[.slice ad m cap] K [Row Hp.nil 3 (.int .i64) (.slice ad m cap) xs] (fun v K' L' => (∃ (l : List Int), l = r ∧ v = .tuple #[] ∧ L' = [Row Hp.nil 3 (.int .i64) (.slice ad m cap) l]) ∧ K = K') := by
  obtain ⟨hl, rfl⟩ := srt_some h
  refine Tr.k (fun E w F hs => ?_)
  have hs' := hs
  obtain ⟨h0, ⟨cs, h1, h2⟩, hd, hs2⟩ := hs
  have hle : h0.le (Hp.of w) := fun n o e => hs2.sub n o (Hp.join_right e (hd n o e))
  obtain rfl := els_ints_eq h1
  have h2' := h2
  obtain ⟨h3, h4⟩ := h2
  rcases h4 with ⟨h5, h6, _⟩ | ⟨g, cp, cur, h5, rfl, h6, h7, h8, h9⟩
  · cases h5
    obtain rfl : xs = [] := List.length_eq_zero_iff.1 h6
    refine (Try.slices_Sort_int_none none 0 w).mono ?_
    rintro e w' ⟨rfl, rfl⟩
    exact ⟨_, K, _, rfl, ⟨_, rfl, rfl, rfl⟩, Hp.le_refl K, by simpa using hs'⟩
  · cases h5
    have hb := hle g _ (one_of g _)
    have ht : cur.toList.take xs.length = xs.map (Value.int .i64) := by simpa [Tp.size] using h9
    refine (Try.slices_Sort_int g 0 cap xs w (holds_of_blockI hb ht) (lt_of_block hb) (by omega)).mono ?_
    rintro e w' ⟨rfl, n, os, rfl⟩
    have hlen : (xs.mergeSort fun x y => decide (x ≤ y)).length = xs.length := List.length_mergeSort xs
    have ho := ownsRow_sortedI (n := n) (os := os) (base := 0) (cap := cap) hlen (Nat.zero_le g) hb h6 h7 (by simpa [Tp.size] using h8)
    refine ⟨_, K, [Row Hp.nil 3 (.int .i64) (.slice (some ⟨g, 0, none⟩) xs.length cap) (xs.mergeSort fun x y => decide (x ≤ y))], rfl, ⟨_, rfl, rfl, rfl⟩, Hp.le_refl K, ?_⟩
    exact hs'.grown hlen.symm (by simpa [hlen, Tp.size] using ho) (els_ints _ _) (grownBy_sortedI _) (.inl rfl)
def cmpt (xs : List Int) : Option (List Int) := some (Lib.compact xs)
theorem slices_Compact_ok {K : Hp} {ad : Option Addr} {m cap : Nat} {xs r : List Int} (h : cmpt xs = some r) :
    Tr Try.prog 23 #[.slice ad m cap] K [Row Hp.nil 3 (.int .i64) (.slice ad m cap) xs] (fun v K' L' => (∃ (l : List Int) (ad1 : Option Addr) (cp1 : Nat), l = r ∧ v = .slice ad1 l.length cp1 ∧ L' = [Row Hp.nil 3 (.int .i64) (.slice ad1 l.length cp1) l]) ∧ K = K') := by
  cases h
  refine Tr.k (fun E w F hs => ?_)
  have hs' := hs
  obtain ⟨h0, ⟨cs, h1, h2⟩, hd, hs2⟩ := hs
  have hle : h0.le (Hp.of w) := fun n o e => hs2.sub n o (Hp.join_right e (hd n o e))
  obtain rfl := els_ints_eq h1
  obtain ⟨h3, h4⟩ := h2
  rcases h4 with ⟨h5, h6, _⟩ | ⟨g, cp, cur, h5, rfl, h6, h7, h8, h9⟩
  · cases h5
    obtain rfl : xs = [] := List.length_eq_zero_iff.1 h6
    refine (Try.slices_Compact_int_empty none 0 w).mono ?_
    rintro e w' ⟨rfl, rfl⟩
    exact ⟨_, K, _, rfl, ⟨_, none, 0, rfl, rfl, rfl⟩, Hp.le_refl K, hs'⟩
  · cases h5
    have hb := hle g _ (one_of g _)
    have ht : cur.toList.take xs.length = xs.map (Value.int .i64) := by simpa [Tp.size] using h9
    have hcl : (Lib.compact xs).length ≤ xs.length := Lib.compact_length_le xs
    refine (Try.slices_Compact_int g 0 cap xs w (holds_of_blockI hb ht) (by unfold maxLen at h7; omega) h6).mono ?_
    rintro e w' ⟨rfl, q, rfl⟩
    have hlen : (Lib.compact xs ++ List.replicate (xs.length - (Lib.compact xs).length) (0 : Int)).length = xs.length := by simp; omega
    have ho := ownsRow_sortedI (n := q) (os := #[]) (base := 0) (cap := cap) hlen (Nat.zero_le g) hb h6 h7 (by simpa [Tp.size] using h8)
    have hg := grownBy_sortedI (w := w) (g := g) (n := q) (os := #[]) (Lib.compact xs ++ List.replicate (xs.length - (Lib.compact xs).length) (0 : Int)).toArray
    rw [show ∀ W : World, Sort.grow W #[] = W from fun W => by simp [Sort.grow]] at ho hg
    refine ⟨_, K, [Row Hp.nil 3 (.int .i64) (.slice (some ⟨g, 0, none⟩) (Lib.compact xs).length cap) (Lib.compact xs)], rfl, ⟨_, _, _, rfl, rfl, rfl⟩, Hp.le_refl K, ?_⟩
    refine hs'.grown rfl ?_ (els_ints _ _) hg (.inl rfl)
    obtain ⟨o1, o2⟩ := ho
    refine ⟨by simp [Tp.size], ?_⟩
    rcases o2 with ⟨o2, _⟩ | ⟨g', cp', cur', o2, o3, o4, o5, o6, o7, o8⟩
    · cases o2
    · simp only [Value.slice.injEq, Option.some.injEq, Addr.mk.injEq, and_true] at o2
      obtain ⟨rfl, _, rfl⟩ := o2
      refine .inr ⟨g, cap, cur', rfl, Nat.zero_le _, o4, by omega, o6, by simpa [Tp.size] using o7, ?_⟩
      have : cur'.toList.take (Lib.compact xs).length = (cur'.toList.take xs.length).take (Lib.compact xs).length := by rw [List.take_take, Nat.min_eq_left hcl]
      simp only [Nat.mul_one] at o8
      have hsz : (Tp.int IntKind.i64).size = 1 := rfl
      rw [hsz, Nat.mul_one, this, o8, List.map_append, List.take_append_of_le_length (by simp), List.take_of_length_le (by simp)]
end Go.Proofs.Ytfdkbceponodmaa
namespace Go.Proofs.Ytfdkbceponodmaa
open Go.RowKit
set_option linter.unusedVariables false
set_option linter.unnecessarySimpa false
set_option linter.unusedSectionVars false
set_option linter.unusedSimpArgs false
variable [BldA]
/-- What is asked of one row: its value, what it holds. -/
theorem row_pre {m : List M} {K : Hp} {x : List Int} {e : TypeId} {args : List Value} {E : En} {w : World} {F : List Atom} (hm : m.length = 2) (hH : HA.ok m K (.row 0 1 e (.int .i64) x x.length)) (hsl : slR m K [(0, .own 0)] args) (hs : Sep E K ([HA.row 0 1 e (.int .i64) x x.length].map (HA.conc m) ++ F) w) :
    ∃ ad cap, args = [.slice ad x.length cap] ∧ m[0]? = some (.val (.slice ad x.length cap)) ∧ Sep E K (Row Hp.nil e (.int .i64) (.slice ad x.length cap) x :: F) w := by
  obtain ⟨ad, cap, cs, e0, e1, hE, _, h1, h2, h3⟩ := hH
  obtain ⟨u, r, rfl, ⟨e2, e3⟩, rfl⟩ := hsl
  rw [e0] at e2
  cases e2
  refine ⟨ad, cap, rfl, e0, ?_⟩
  have hs' : Sep E K (HA.conc m (.row 0 1 e (.int .i64) x x.length) :: F) w := hs
  simp only [HA.conc, e0, e1] at hs'
  exact hs'.mono (fun h k => ⟨cs, Els.flat rfl hE, k⟩)
/-- What is known of a row behind the call. -/
theorem row_post {K : Hp} {e : TypeId} {ad : Option Addr} {n cap : Nat} {l : List Int} {E : En} {w : World} {F : List Atom} (hs : Sep E K ([Row Hp.nil e (.int .i64) (.slice ad n cap) l] ++ F) w) :
    n = l.length ∧ l.length ≤ cap ∧ cap ≤ maxLen ∧ (l ≠ [] → ∃ g, ad = some ⟨g, 0, none⟩) ∧ ∃ cs, Els K (.int .i64) cs l ∧ Sep E K (Rw e 1 (.slice ad l.length cap) l.length cs :: F) w := by
  have hs : Sep E K (Row Hp.nil e (.int .i64) (.slice ad n cap) l :: F) w := hs
  obtain ⟨ad', cap', h1, h2, h3, h4⟩ := hs.fact (fun h k => Row.form h k)
  cases h1
  obtain ⟨h0, ⟨cs, hE, hR⟩, hd, hs2⟩ := hs
  exact ⟨rfl, h2, h3, h4, cs, Els.flat rfl hE, h0, hR, hd, hs2⟩
noncomputable def sp_Sort : Spec := ⟨22, ⟨[(0, .rp 0)], [⟨none, 0, [], false, false, some (.row 3 (.dat (.int .i64))), false⟩]⟩, [⟨[], [⟨some 0, 0, [], false, false, some (.row 3 (.dat (.int .i64))), false⟩]⟩], fun x => srt x⟩
theorem Sort_is : SpecOk Try.prog sp_Sort := by
  intro x r hr vs u hu m K args hgk hm hH hsl E w F hs
  have hu' : sp_Sort.inn.un (TL.list _ x) 0 = some ([(0, .own 0)], ⟨[], 2, [.row 0 1 3 (.int .i64) x (List.length (α := Int) x)], []⟩) := rfl
  rw [hu'] at hu
  cases hu
  replace hm : m.length = 2 := hm
  obtain ⟨ad, cap, rfl, e0, hs'⟩ := row_pre hm (hH _ (by simp)) hsl hs
  refine (slices_Sort_ok (K := K) hr E w F hs').mono ?_
  rintro e w' ⟨v, K', L', rfl, ⟨⟨l, rfl, rfl, rfl⟩, rfl⟩, h1, h2⟩
  obtain ⟨g1, g2, g3, g4, cs, g5, g6⟩ := row_post h2
  have hm0 : (m ++ [M.cont (.int .i64) l cs])[0]? = some (.val (.slice ad (List.length (α := Int) l) cap)) := by
    rw [List.getElem?_append_left (by omega), e0, g1]
  have hm1 : (m ++ [M.cont (.int .i64) l cs])[2]? = some (.cont (.int .i64) l cs) := by
    rw [List.getElem?_append_right (by omega), hm]; rfl
  refine ⟨_, K, _, rfl, ⟨[], ⟨[], 3, [.row 0 2 3 (.int .i64) l (List.length (α := Int) l)], []⟩, m ++ [.cont (.int .i64) l cs], rfl, List.prefix_append _ _, by simp [hm], ?_, rfl, rfl⟩, h1, ?_⟩
  · intro a ha
    simp only [List.mem_singleton] at ha
    subst ha
    exact ⟨ad, cap, cs, hm0, hm1, g5, rfl, g2, g3, g4⟩
  · show Sep E K (HA.conc _ (.row 0 2 3 (.int .i64) l (List.length (α := Int) l)) :: F) w'
    simp only [HA.conc, hm0, hm1]
    exact g6
noncomputable def ok_Sort : OkSpec Try.prog := ⟨sp_Sort, Sort_is, Try.call22⟩
noncomputable def sp_Compact : Spec := ⟨23, ⟨[(0, .own 3 (.int .i64))], []⟩, [⟨[(0, .own 3 (.int .i64))], []⟩], fun x => cmpt x⟩
theorem Compact_is : SpecOk Try.prog sp_Compact := by
  intro x r hr vs u hu m K args hgk hm hH hsl E w F hs
  have hu' : sp_Compact.inn.un (TL.list _ x) 0 = some ([(0, .own 0)], ⟨[], 2, [.row 0 1 3 (.int .i64) x (List.length (α := Int) x)], [0]⟩) := rfl
  rw [hu'] at hu
  cases hu
  replace hm : m.length = 2 := hm
  obtain ⟨ad, cap, rfl, e0, hs'⟩ := row_pre hm (hH _ (by simp)) hsl hs
  refine (slices_Compact_ok (K := K) hr E w F hs').mono ?_
  rintro e w' ⟨v, K', L', rfl, ⟨⟨l, ad1, cp1, rfl, rfl, rfl⟩, rfl⟩, h1, h2⟩
  obtain ⟨_, g2, g3, g4, cs, g5, g6⟩ := row_post h2
  have hm0 : (m ++ [M.val (.slice ad1 (List.length (α := Int) l) cp1), M.cont (.int .i64) l cs])[2]? = some (.val (.slice ad1 (List.length (α := Int) l) cp1)) := by
    rw [List.getElem?_append_right (by omega), hm]; rfl
  have hm1 : (m ++ [M.val (.slice ad1 (List.length (α := Int) l) cp1), M.cont (.int .i64) l cs])[3]? = some (.cont (.int .i64) l cs) := by
    rw [List.getElem?_append_right (by omega), hm]; rfl
  refine ⟨_, K, _, rfl, ⟨[(0, .own 2)], ⟨[], 4, [.row 2 3 3 (.int .i64) l (List.length (α := Int) l)], [2]⟩, m ++ [M.val (.slice ad1 (List.length (α := Int) l) cp1), M.cont (.int .i64) l cs], rfl, List.prefix_append _ _, by simp [hm], ?_, ⟨hm0, rfl⟩, rfl⟩, h1, ?_⟩
  · intro a ha
    simp only [List.mem_singleton] at ha
    subst ha
    exact ⟨ad1, cp1, cs, hm0, hm1, g5, rfl, g2, g3, g4⟩
  · show Sep E K (HA.conc _ (.row 2 3 3 (.int .i64) l (List.length (α := Int) l)) :: F) w'
    simp only [HA.conc, hm0, hm1]
    exact g6
noncomputable def ok_Compact : OkSpec Try.prog := ⟨sp_Compact, Compact_is, Try.call23⟩
end Go.Proofs.Ytfdkbceponodmaa
namespace Go.Proofs
open Go.Shelf
def Try.lays221_ren : Go.Shelf.Ren := ⟨fun | 21 => 25 | 27 => 34 | 28 => 35 | 35 => 49 | 39 => 57 | n => n, fun | 22 => 22 | 3 => 3 | 4 => 4 | 0 => 0 | n => n, fun | n => n⟩
theorem Try.lays221 : Go.Proofs.Lays2.n21 Try.prog Try.lays221_ren := {
  mixed := by kernel_rfl
  f21 := Try.func25.trans (congrArg some (by kernel_rfl))
  f27 := Try.func34.trans (congrArg some (by kernel_rfl))
  f28 := Try.func35.trans (congrArg some (by kernel_rfl))
  f35 := Try.func49.trans (congrArg some (by kernel_rfl))
  f39 := Try.func57.trans (congrArg some (by kernel_rfl))
  t0 := Try.underlying0
  a0 := Try.isAgg0
  z0 := Try.sizeOf0
  v0 := Try.zeroValue0
  t3 := Try.underlying3
  a3 := Try.isAgg3
  z3 := Try.sizeOf3
  v3 := Try.zeroValue3
  t4 := Try.underlying4
  a4 := Try.isAgg4
  z4 := Try.sizeOf4
  v4 := Try.zeroValue4
  t22 := Try.underlying22
  a22 := Try.isAgg22
  z22 := Try.sizeOf22
  v22 := Try.zeroValue22
  i3 := by kernel_rfl }
end Go.Proofs
namespace Go.Proofs.Ytfdkbceponodmaa
open Go.RowKit
set_option linter.unusedVariables false
set_option linter.unnecessarySimpa false
set_option linter.unusedSectionVars false
set_option linter.unusedSimpArgs false
/-! ### Cells laid over a row. -/
theorem heap_setCells_at {g : Nat} {t : TypeId} : ∀ (vs : List Value) (o : Nat) (w : World) (cur : Array Value), w.heap[g]? = some (.cells cur t (0, 0)) → o + vs.length ≤ cur.size →
    ∃ cur' : Array Value, (w.setCells g o vs).heap[g]? = some (.cells cur' t (0, 0)) ∧ cur'.toList = cur.toList.take o ++ vs ++ cur.toList.drop (o + vs.length)
  | [], o, w, cur, h, hl => ⟨cur, h, by simp⟩
  | v :: vs, o, w, cur, h, hl => by
    simp only [List.length_cons] at hl
    have h1 := block_setCell h o v
    obtain ⟨cur', h2, h3⟩ := heap_setCells_at vs (o + 1) (w.setCell ⟨g, o, none⟩ v) _ h1 (by simp; omega)
    refine ⟨cur', h2, ?_⟩
    have ho : o < cur.toList.length := by simp; omega
    rw [h3, Array.toList_setIfInBounds]
    have e1 : (cur.toList.set o v).take (o + 1) = cur.toList.take o ++ [v] := by
      rw [List.take_succ_eq_append_getElem (by simpa using ho), List.take_set_of_le (Nat.le_refl o)]
      simp
    have e2 : (cur.toList.set o v).drop (o + 1 + vs.length) = cur.toList.drop (o + (v :: vs).length) := by
      rw [List.drop_set_of_lt (by omega), List.length_cons]
      congr 1
      omega
    rw [e1, e2]
    simp
theorem Fr.setCells {S : List Nat} {a : World} (g : Nat) (hg : g ∈ S ∨ a.heap.size ≤ g) : ∀ (vs : List Value) (o : Nat) (w : World), Fr S a w → Fr S a (w.setCells g o vs)
  | [], _, _, h => h
  | v :: vs, o, w, h => Fr.setCells g hg vs (o + 1) _ (h.setCell _ hg v)
section
variable {E : En} {L : List Atom} {K : Hp} {w : World}
/-- A held row turned into another one, at its place or at a new one. -/
theorem Sep.rowAt {S : List Nat} {e : TypeId} {t : Tp} {v : Value} {xs zs : List t.den} {K0 K1 : Hp} {w' : World} {cs' : List Value} {g cap m : Nat} {cur : Array Value} (hs : Sep E K (Row K0 e t v xs :: L) w)
    (f : Fr S w w') (hS : ∀ x, x ∈ S → v.ownBlock = some x) (hb : w'.heap[g]? = some (.cells cur e (0, 0))) (hg : v.ownBlock = some g ∨ w.heap.size ≤ g) (hm : m = zs.length) (hz : Els K1 t cs' zs) (hl : cs'.length = m * t.size)
    (hc1 : m ≤ cap) (hc2 : cap ≤ maxLen) (hc3 : cur.size = cap * t.size) (ht : cur.toList.take (m * t.size) = cs') : Sep E K (Row K1 e t (.slice (some ⟨g, 0, none⟩) m cap) zs :: L) w' := by
  subst hm
  refine Sep.turn hs (En.of_fr f) (fun h h2 hle => ?_)
  have hbl : ∀ n, h n = none ↔ v.ownBlock ≠ some n := fun n => by
    obtain ⟨cs, _, h3⟩ := h2
    exact h3.block n
  refine ⟨one g (.cells cur e (0, 0)), ⟨cs', hz, hl, .inr ⟨g, cap, cur, rfl, rfl, hc1, hc2, hc3, ht⟩⟩, fun n o e' => ?_, fun n o e' hn => ?_⟩
  · obtain ⟨rfl, rfl⟩ := one_some e'
    refine ⟨hb, fun hn => ?_⟩
    rcases hg with hg | hg
    · exact absurd hg ((hbl n).1 hn)
    · exact Array.getElem?_eq_none hg
  · rw [f.block n (lt_of_block e') (fun hm => (hbl n).1 hn (hS n hm))]
    exact e'
end
/-! ### Insert. -/
def insF (xs : List Int) (i : Int) (vs : List Int) : Option (List Int) := if 0 ≤ i ∧ i ≤ (xs.length : Nat) ∧ vs ≠ [] ∧ xs.length + vs.length ≤ 1073741824 then some (xs.take i.toNat ++ vs ++ xs.drop i.toNat) else none
def Ins (i : Nat) (cs vs : List Value) (l : List Value) : Prop := l = cs.take i ++ vs ++ cs.drop i
theorem one_int {cs : List Value} {xs : List Int} (h : cs = xs.map (Value.int .i64)) : ∀ v ∈ cs, v.oneCell' = true := fun v hv => by
  subst h
  obtain ⟨x, _, rfl⟩ := List.mem_map.1 hv
  rfl
theorem cell_of_row {w : World} {g : Nat} {t : TypeId} {cur : Array Value} (h : w.heap[g]? = some (.cells cur t (0, 0))) (j : Nat) : w.cell? ⟨g, j, none⟩ = cur[j]? := by
  simp [World.cell?, h]
theorem froz_of_row {w : World} {g : Nat} {t : TypeId} {cur : Array Value} (h : w.heap[g]? = some (.cells cur t (0, 0))) (j : Nat) : w.frozen? ⟨g, j, none⟩ = false := by
  simp [World.frozen?, h]
theorem shape_of_row {w : World} {g : Nat} {t : TypeId} {cur : Array Value} (h : w.heap[g]? = some (.cells cur t (0, 0))) : w.shape? g = some (t, cur.size) := by
  simp [World.shape?, h]
theorem cur_at {cur : Array Value} {cs : List Value} {n : Nat} (h : cur.toList.take n = cs) : ∀ (j : Nat) (v : Value), cs[j]? = some v → cur[j]? = some v := fun j v hj => by
  subst h
  rw [List.getElem?_take] at hj
  split at hj
  · simpa using hj
  · cases hj
/-- What an insertion leaves in a row. -/
theorem ins_cur {cur c1 c2 : List Value} {cs vs : List Value} {i n : Nat} (hn : cs.length = n) (hi : i ≤ n) (hc : cur.take n = cs) (h1 : c1 = cur.take (i + vs.length) ++ cs.drop i ++ cur.drop (i + vs.length + (cs.drop i).length)) (hsz : n + vs.length ≤ cur.length)
    (h2 : c2 = c1.take i ++ vs ++ c1.drop (i + vs.length)) : c2.take (n + vs.length) = cs.take i ++ vs ++ cs.drop i := by
  have e1 : c1.take i = cs.take i := by
    rw [h1, List.append_assoc, List.take_append_of_le_length (by simp; omega), List.take_take, Nat.min_eq_left (by omega), ← hc, List.take_take, Nat.min_eq_left hi]
  have e2 : c1.drop (i + vs.length) = cs.drop i ++ cur.drop (i + vs.length + (cs.drop i).length) := by
    rw [h1, List.append_assoc, List.drop_append_of_le_length (by simp; omega)]
    rw [List.drop_eq_nil_of_le (by simp; omega)]
    rfl
  rw [h2, e1, e2, ← List.append_assoc]
  refine List.take_left' ?_
  simp
  omega
theorem size_zc {l : List Value} {n : Nat} : (l.toArray ++ Builtin.zeroCells (Value.int .i64 0).cells n).size = l.length + n := by
  simp [Builtin.zeroCells, Value.cells]
section
variable {K : Hp} {E : En} {F : List Atom} {w : World}
/-- The two rows that are handed over: where they lie. -/
theorem two_rows {e : TypeId} {v1 v2 : Value} {xs vs : List Int} (hv : vs ≠ []) (hs : Sep E K (Row Hp.nil e (.int .i64) v1 xs :: Row Hp.nil e (.int .i64) v2 vs :: F) w) :
    (∃ (b c2 : Nat) (cur2 : Array Value), v2 = .slice (some ⟨b, 0, none⟩) vs.length c2 ∧ w.heap[b]? = some (.cells cur2 e (0, 0)) ∧ vs.length ≤ cur2.size ∧ (∀ (j : Nat) (u : Value), (vs.map (Value.int .i64))[j]? = some u → w.cell? ⟨b, 0 + j, none⟩ = some u) ∧
      ((v1 = .slice none 0 0 ∧ xs = []) ∨ ∃ (g c1 : Nat) (cur : Array Value), v1 = .slice (some ⟨g, 0, none⟩) xs.length c1 ∧ w.heap[g]? = some (.cells cur e (0, 0)) ∧ b ≠ g ∧ xs.length ≤ c1 ∧ c1 ≤ maxLen ∧ cur.size = c1 ∧ cur.toList.take xs.length = xs.map (Value.int .i64))) := by
  have hle2 := hs.swap.sub
  obtain ⟨h1, ⟨csA, eA, rA⟩, hd1, h2, ⟨csB, eB, rB⟩, hd2, hs2⟩ := hs
  obtain rfl := els_ints_eq eA
  obtain rfl := els_ints_eq eB
  have hh2 : h2.le (Hp.of w) := fun n o q => hs2.sub n o (Hp.join_right q (hd2 n o q))
  have hh1 : h1.le (Hp.of w) := fun n o q => hs2.sub n o (by
    have := Hp.join_right q (hd1 n o q)
    unfold Hp.join at this ⊢
    rw [this]; rfl)
  obtain ⟨_, rB⟩ := rB
  rcases rB with ⟨_, rB, _⟩ | ⟨b, c2, cur2, rfl, rfl, b1, b2, b3, b4⟩
  · exact absurd (List.length_eq_zero_iff.1 rB) hv
  · have hb := hh2 b _ (by simp [one] : one b (.cells cur2 e (0, 0)) b = some (.cells cur2 e (0, 0)))
    simp only [Tp.size, Nat.mul_one] at b3 b4
    refine ⟨b, c2, cur2, rfl, hb, by omega, fun j u hj => by rw [Nat.zero_add, cell_of_row hb]; exact cur_at b4 j u hj, ?_⟩
    obtain ⟨_, rA⟩ := rA
    rcases rA with ⟨rfl, rA, _⟩ | ⟨g, c1, cur, rfl, rfl, a1, a2, a3, a4⟩
    · have hx := List.length_eq_zero_iff.1 rA
      subst hx
      exact .inl ⟨rfl, rfl⟩
    · have hg := hh1 g _ (by simp [one] : one g (.cells cur e (0, 0)) g = some (.cells cur e (0, 0)))
      simp only [Tp.size, Nat.mul_one] at a3 a4
      refine .inr ⟨g, c1, cur, rfl, hg, fun e' => ?_, a1, a2, a3, a4⟩
      subst e'
      have := (Hp.join_none (hd2 b (.cells cur2 e (0, 0)) (by simp [one]))).2
      simp [one] at this
end
theorem slices_Insert_ok {K : Hp} {v1 v2 : Value} {i : Int} {xs vs r : List Int} (h : insF xs i vs = some r) :
    Tr Try.prog 25 #[v1, .int .i64 i, v2] K [Row Hp.nil 3 (.int .i64) v1 xs, Row Hp.nil 3 (.int .i64) v2 vs] (fun v K' L' => (∃ (l : List Int) (ad1 : Option Addr) (cp1 : Nat), l = r ∧ v = .slice ad1 l.length cp1 ∧ L' = [Row Hp.nil 3 (.int .i64) (.slice ad1 l.length cp1) l]) ∧ K = K') := by
  unfold insF at h
  split at h
  case isFalse => cases h
  rename_i hh
  obtain ⟨q1, q2, q3, q4⟩ := hh
  cases h
  obtain ⟨k, rfl⟩ := Int.eq_ofNat_of_zero_le q1
  have hk : k ≤ xs.length := by omega
  rw [Int.toNat_natCast]
  refine Tr.k (fun E w F hs => ?_)
  obtain ⟨b, c2, cur2, rfl, hb, hb2, hvs, hv1⟩ := two_rows q3 hs
  have hm : 0 < vs.length := by
    rcases Nat.eq_zero_or_pos vs.length with h | h
    · exact absurd (List.length_eq_zero_iff.1 h) q3
    · exact h
  have hs1 : Sep E K (Row Hp.nil 3 (.int .i64) v1 xs :: F) w := hs.swap.drop
  have hlr : (xs.take k ++ vs ++ xs.drop k).length = xs.length + vs.length := by simp; omega
  have hmap : ∀ n, (xs.map (Value.int .i64)).take n = (xs.take n).map (Value.int .i64) ∧ (xs.map (Value.int .i64)).drop n = (xs.drop n).map (Value.int .i64) := fun n => ⟨by rw [List.map_take], by rw [List.map_drop]⟩
  have fin : ∀ {S : List Nat} {w' : World} {g cap : Nat} {cur : Array Value} (f : Fr S w w') (hS : ∀ x, x ∈ S → v1.ownBlock = some x) (hb : w'.heap[g]? = some (.cells cur 3 (0, 0))) (hg : v1.ownBlock = some g ∨ w.heap.size ≤ g)
      (hc1 : xs.length + vs.length ≤ cap) (hc2 : cap ≤ maxLen) (hc3 : cur.size = cap) (ht : cur.toList.take (xs.length + vs.length) = (xs.take k ++ vs ++ xs.drop k).map (Value.int .i64)),
      ∃ v K' L', Ending.returned (.slice (some ⟨g, 0, none⟩) (xs.length + vs.length) cap) = .returned v ∧ (∃ (l : List Int) (ad1 : Option Addr) (cp1 : Nat), l = xs.take k ++ vs ++ xs.drop k ∧ v = .slice ad1 l.length cp1 ∧ L' = [Row Hp.nil 3 (.int .i64) (.slice ad1 l.length cp1) l]) ∧ K.le K' ∧ Sep E K' (L' ++ F) w' := by
    intro S w' g cap cur f hS hb hg hc1 hc2 hc3 ht
    refine ⟨_, K, _, rfl, ⟨xs.take k ++ vs ++ xs.drop k, _, cap, rfl, by rw [hlr], rfl⟩, Hp.le_refl K, ?_⟩
    exact Sep.rowAt (t := .int .i64) hs1 f hS hb hg rfl (els_ints _ _) (by simp [Tp.size]) (by rw [hlr]; exact hc1) hc2 (by simpa [Tp.size] using hc3) (by rw [hlr]; simpa [Tp.size] using ht)
  have hvo : ∀ u ∈ vs.map (Value.int .i64), u.oneCell' = true := one_int rfl
  have hxo : ∀ u ∈ xs.map (Value.int .i64), u.oneCell' = true := one_int rfl
  rcases hv1 with ⟨rfl, rfl⟩ | ⟨g, c1, cur, rfl, hg, hne, a1, a2, a3, a4⟩
  · -- a nil slice
    obtain rfl : k = 0 := by simpa using hk
    refine (Any2.slices_Insert_int_end_grow Try.lays221 none 0 0 b 0 vs.length c2 [] (vs.map (Value.int .i64)) w hm (Nat.le_refl _) (by omega) (by simp at q4 ⊢; omega) rfl (by simp) (fun _ => rfl) (fun a h => by cases h) hvs hvo).mono ?_
    rintro e w' ⟨rfl, rfl⟩
    rw [show Try.lays221_ren.t 3 = 3 from rfl]
    have hcap := grownCap_le_maxLen w (0 + vs.length) 0 3 (by unfold maxLen; simp at q4 ⊢; omega)
    have hge := grownCap_ge w (0 + vs.length) 0 3
    simp only [List.length_nil] at fin
    refine fin (S := []) ((Fr.refl [] w).drew.alloc _) (fun x hx => by cases hx) (alloc_new w.drew _) (.inr (Nat.le_refl _)) hge hcap ?_ ?_
    · rw [size_zc]
      simp
      simp at hge
      omega
    · simp
  · have hcs : ∀ (j : Nat) (u : Value), (xs.map (Value.int .i64))[j]? = some u → w.cell? ⟨g, 0 + j, none⟩ = some u := fun j u hj => by rw [Nat.zero_add, cell_of_row hg]; exact cur_at a4 j u hj
    have hlx : (xs.map (Value.int .i64)).length = xs.length := List.length_map _
    have hlv : (vs.map (Value.int .i64)).length = vs.length := List.length_map _
    have hres : (xs.take k ++ vs ++ xs.drop k).map (Value.int .i64) = (xs.map (Value.int .i64)).take k ++ vs.map (Value.int .i64) ++ (xs.map (Value.int .i64)).drop k := by
      rw [(hmap k).1, (hmap k).2, List.map_append, List.map_append]
    have hc63 : c1 ≤ 9223372036854775807 := by unfold maxLen at a2; omega
    have hsp : ∀ j, j < c1 → (w.cell? ⟨g, j, none⟩).isSome = true := fun j hj => by
      rw [cell_of_row hg, Array.getElem?_eq_getElem (by omega)]; rfl
    have hF : ∀ {w1 : World}, Fr [g] w w1 → ∀ x, x ∈ [g] → (Value.slice (some ⟨g, 0, none⟩) xs.length c1).ownBlock = some x := fun _ x hx => by
      simp at hx
      subst hx
      rfl
    by_cases hroom : xs.length + vs.length ≤ c1
    · by_cases hkn : k < xs.length
      · -- in place
        refine (Any2.slices_Insert_int_shift Try.lays221 g 0 xs.length c1 k b 0 vs.length c2 (xs.map (Value.int .i64)) (vs.map (Value.int .i64)) w hkn hm hroom hc63 hne hlx hlv hcs (fun j hj => by rw [Nat.zero_add]; exact hsp j (by omega)) (fun j hj => froz_of_row hg _) hvs hxo hvo _ _ _ _ (shape_of_row hb) (shape_of_row hg) (by omega) (froz_of_row hb _) (froz_of_row hb _)).mono ?_
        rintro e w' ⟨rfl, rfl⟩
        obtain ⟨cu1, d1, d2⟩ := heap_setCells_at ((xs.map (Value.int .i64)).drop k) (0 + (k + vs.length)) w.drew cur hg (by simp; omega)
        obtain ⟨cu2, d3, d4⟩ := heap_setCells_at (vs.map (Value.int .i64)) (0 + k) _ cu1 d1 (by
          have := congrArg List.length d2
          simp at this
          simp
          omega)
        have hfr : Fr [g] w ((w.drew.setCells g (0 + (k + vs.length)) ((xs.map (Value.int .i64)).drop k)).setCells g (0 + k) (vs.map (Value.int .i64))) :=
          Fr.setCells g (.inl (by simp)) _ _ _ (Fr.setCells g (.inl (by simp)) _ _ _ (Fr.refl [g] w).drew)
        have hz1 : cu1.size = c1 := by
          have := congrArg List.length d2
          simp at this
          omega
        have hz2 : cu2.size = c1 := by
          have := congrArg List.length d4
          simp at this
          omega
        refine fin hfr (hF hfr) d3 (.inl rfl) hroom a2 hz2 ?_
        rw [hres]
        have := ins_cur (cur := cur.toList) (c1 := cu1.toList) (c2 := cu2.toList) (cs := xs.map (Value.int .i64)) (vs := vs.map (Value.int .i64)) (i := k) hlx hk a4 (by rw [d2, Nat.zero_add, hlv]) (by simp; omega) (by rw [d4, Nat.zero_add])
        rw [hlv] at this
        exact this
      · -- at the end, room
        obtain rfl : k = xs.length := by omega
        refine (Any2.slices_Insert_int_end_room Try.lays221 g 0 xs.length c1 b 0 vs.length c2 (vs.map (Value.int .i64)) w hm hroom hc63 hlv (fun j hj => by rw [Nat.zero_add]; exact hsp _ (by omega)) (fun j hj => froz_of_row hg _) hvs hvo).mono ?_
        rintro e w' ⟨rfl, rfl⟩
        obtain ⟨cu2, d3, d4⟩ := heap_setCells_at (vs.map (Value.int .i64)) (0 + xs.length) w cur hg (by simp; omega)
        have hfr : Fr [g] w (w.setCells g (0 + xs.length) (vs.map (Value.int .i64))) := Fr.setCells g (.inl (by simp)) _ _ _ (Fr.refl [g] w)
        have hz2 : cu2.size = c1 := by
          have := congrArg List.length d4
          simp at this
          omega
        refine fin hfr (hF hfr) d3 (.inl rfl) hroom a2 hz2 ?_
        have e1 : (xs.map (Value.int .i64)).take xs.length = xs.map (Value.int .i64) := List.take_of_length_le (by simp)
        have e2 : (xs.map (Value.int .i64)).drop xs.length = [] := List.drop_eq_nil_of_le (by simp)
        rw [hres, d4, Nat.zero_add, a4, e1, e2, List.append_nil]
        exact List.take_left' (by simp)
    · by_cases hkn : k < xs.length
      · -- a new row, in the midst
        refine (Any2.slices_Insert_int_grow Try.lays221 g 0 xs.length c1 k b 0 vs.length c2 (xs.map (Value.int .i64)) (vs.map (Value.int .i64)) w hkn hm a1 (by omega) (by omega) hlx hlv hcs hvs hxo hvo).mono ?_
        rintro e w' ⟨rfl, rfl⟩
        rw [show Try.lays221_ren.t 3 = 3 from rfl]
        have hcap := grownCap_le_maxLen w (xs.length + vs.length) c1 3 (by unfold maxLen; omega)
        have hge := grownCap_ge w (xs.length + vs.length) c1 3
        have hrow : ∀ G : Nat, xs.length + vs.length ≤ G → ∃ ROW : Array Value, ((((xs.map (Value.int .i64)).take k).toArray ++ Builtin.zeroCells (Value.int .i64 0).cells (xs.length + vs.length - k) ++ Builtin.zeroCells (Value.int .i64 0).cells (G - (xs.length + vs.length)))) = ROW ∧ ROW.size = G ∧ ROW.toList.take k = (xs.map (Value.int .i64)).take k := fun G hG => by
          refine ⟨_, rfl, ?_, ?_⟩
          · rw [Array.size_append, size_zc]
            simp [Builtin.zeroCells, Value.cells]
            omega
          · simp
            rw [List.take_append_of_le_length (by simp; omega)]
            rw [List.take_of_length_le (by simp; omega)]
        obtain ⟨ROW, hR, hR2, hR3⟩ := hrow _ hge
        rw [hR]
        have hR4 : ROW.toList.length = ROW.size := by simp
        obtain ⟨cu1, d1, d2⟩ := heap_setCells_at (vs.map (Value.int .i64)) k (w.alloc (.cells ROW 3)).drew ROW (alloc_new w _) (by rw [hlv, hR2]; omega)
        have hz1 : cu1.size = ROW.size := by
          have := congrArg List.length d2
          simp at this
          omega
        obtain ⟨cu2, d3, d4⟩ := heap_setCells_at ((xs.map (Value.int .i64)).drop k) (k + vs.length) ((w.alloc (.cells ROW 3)).drew.setCells w.heap.size k (vs.map (Value.int .i64))).drew cu1 d1 (by
          simp
          omega)
        have hz2 : cu2.size = ROW.size := by
          have := congrArg List.length d4
          simp at this
          omega
        have hfr : Fr [] w ((((w.alloc (.cells ROW 3)).drew.setCells w.heap.size k (vs.map (Value.int .i64))).drew).setCells w.heap.size (k + vs.length) ((xs.map (Value.int .i64)).drop k)) :=
          Fr.setCells _ (.inr (Nat.le_refl _)) _ _ _ (Fr.setCells _ (.inr (Nat.le_refl _)) _ _ _ ((Fr.refl [] w).alloc _).drew).drew
        refine fin hfr (fun x hx => by cases hx) d3 (.inr (Nat.le_refl _)) hge hcap (hz2.trans hR2) ?_
        rw [hres, d4, d2, hR3]
        have e2 : ∀ R : List Value, ((xs.map (Value.int .i64)).take k ++ vs.map (Value.int .i64) ++ R).take (k + vs.length) = (xs.map (Value.int .i64)).take k ++ vs.map (Value.int .i64) := fun R => List.take_left' (by simp; omega)
        rw [e2]
        exact List.take_left' (by simp; omega)
      · -- a new row, at the end
        obtain rfl : k = xs.length := by omega
        refine (Any2.slices_Insert_int_end_grow Try.lays221 (some ⟨g, 0, none⟩) xs.length c1 b 0 vs.length c2 (xs.map (Value.int .i64)) (vs.map (Value.int .i64)) w hm a1 (by omega) (by omega) hlx hlv (fun h => by cases h) (fun a h j u hj => by
          cases h
          rw [Addr.add_lit]
          exact hcs j u hj) hvs hvo).mono ?_
        rintro e w' ⟨rfl, rfl⟩
        rw [show Try.lays221_ren.t 3 = 3 from rfl]
        have hcap := grownCap_le_maxLen w (xs.length + vs.length) c1 3 (by unfold maxLen; omega)
        have hge := grownCap_ge w (xs.length + vs.length) c1 3
        refine fin (S := []) ((Fr.refl [] w).drew.alloc _) (fun x hx => by cases hx) (alloc_new w.drew _) (.inr (Nat.le_refl _)) hge hcap ?_ ?_
        · rw [size_zc, List.length_append, hlx, hlv]
          omega
        · have e1 : (xs.map (Value.int .i64)).take xs.length = xs.map (Value.int .i64) := List.take_of_length_le (by simp)
          have e2 : (xs.map (Value.int .i64)).drop xs.length = [] := List.drop_eq_nil_of_le (by simp)
          rw [hres, e1, e2, List.append_nil, Array.toList_append]
          exact List.take_left' (by simp)
noncomputable def sp_Insert : Spec := ⟨25, ⟨[(0, .own 3 (.int .i64)), (1, .dat (.int .i64)), (2, .own 3 (.int .i64))], []⟩, [⟨[(0, .own 3 (.int .i64))], []⟩], fun x => insF x.1 x.2.1 x.2.2⟩
theorem Insert_is [BldA] : SpecOk Try.prog sp_Insert := by
  intro x r hr vv u hu m K args hgk hm hH hsl E w F hs
  have hu' : sp_Insert.inn.un (TL.list _ x) 0 = some ([(0, .own 0), (1, .int .i64 x.2.1), (2, .own 2)], ⟨[], 4, [.row 2 3 3 (.int .i64) x.2.2 (List.length (α := Int) x.2.2), .row 0 1 3 (.int .i64) x.1 (List.length (α := Int) x.1)], [0, 2]⟩) := rfl
  rw [hu'] at hu
  cases hu
  replace hm : m.length = 4 := hm
  obtain ⟨v1, u1, rfl, ⟨e1, _⟩, v2, u2, rfl, rfl, v3, u3, rfl, ⟨e3, _⟩, rfl⟩ := hsl
  obtain ⟨ad, cap, cs, g0, g1, hE, _, g2, g3, g4⟩ := hH (.row 0 1 3 (.int .i64) x.1 (List.length (α := Int) x.1)) (by simp)
  obtain ⟨ad', cap', cs', g0', g1', hE', _, g2', g3', g4'⟩ := hH (.row 2 3 3 (.int .i64) x.2.2 (List.length (α := Int) x.2.2)) (by simp)
  rw [g0] at e1
  cases e1
  rw [g0'] at e3
  cases e3
  have hs' : Sep E K (HA.conc m (.row 2 3 3 (.int .i64) x.2.2 (List.length (α := Int) x.2.2)) :: HA.conc m (.row 0 1 3 (.int .i64) x.1 (List.length (α := Int) x.1)) :: F) w := hs
  simp only [HA.conc, g0, g1, g0', g1'] at hs'
  have hs2 : Sep E K (Row Hp.nil 3 (.int .i64) (.slice ad (List.length (α := Int) x.1) cap) x.1 :: Row Hp.nil 3 (.int .i64) (.slice ad' (List.length (α := Int) x.2.2) cap') x.2.2 :: F) w :=
    (((hs'.mono (fun h k => (⟨cs', Els.flat rfl hE', k⟩ : Row Hp.nil 3 (.int .i64) (.slice ad' (List.length (α := Int) x.2.2) cap') x.2.2 h))).swap).mono (fun h k => ⟨cs, Els.flat rfl hE, k⟩))
  refine (slices_Insert_ok (K := K) hr E w F hs2).mono ?_
  rintro e w' ⟨v, K', L', rfl, ⟨⟨l, ad1, cp1, rfl, rfl, rfl⟩, rfl⟩, h1, h2⟩
  obtain ⟨_, b2, b3, b4, cs, b5, b6⟩ := row_post h2
  have hm0 : (m ++ [M.val (.slice ad1 (List.length (α := Int) l) cp1), M.cont (.int .i64) l cs])[4]? = some (.val (.slice ad1 (List.length (α := Int) l) cp1)) := by
    rw [List.getElem?_append_right (by omega), hm]; rfl
  have hm1 : (m ++ [M.val (.slice ad1 (List.length (α := Int) l) cp1), M.cont (.int .i64) l cs])[5]? = some (.cont (.int .i64) l cs) := by
    rw [List.getElem?_append_right (by omega), hm]; rfl
  refine ⟨_, K, _, rfl, ⟨[(0, .own 4)], ⟨[], 6, [.row 4 5 3 (.int .i64) l (List.length (α := Int) l)], [4]⟩, m ++ [M.val (.slice ad1 (List.length (α := Int) l) cp1), M.cont (.int .i64) l cs], rfl, List.prefix_append _ _, by simp [hm], ?_, ⟨hm0, rfl⟩, rfl⟩, h1, ?_⟩
  · intro a ha
    simp only [List.mem_singleton] at ha
    subst ha
    exact ⟨ad1, cp1, cs, hm0, hm1, b5, rfl, b2, b3, b4⟩
  · show Sep E K (HA.conc _ (.row 4 5 3 (.int .i64) l (List.length (α := Int) l)) :: F) w'
    simp only [HA.conc, hm0, hm1]
    exact b6
noncomputable def ok_Insert [BldA] : OkSpec Try.prog := ⟨sp_Insert, Insert_is, Try.call25⟩
end Go.Proofs.Ytfdkbceponodmaa
namespace Go.Proofs.Ytfdkbceponodmaa
open Go.RowKit
set_option linter.unusedVariables false
set_option maxRecDepth 100000
set_option maxHeartbeats 4000000
instance nob : BldA := ⟨1000000000, fun b _ => Cl b 1000000000 [.pointer none, .slice none 0 0], fun h => h, fun _ => True, fun _ _ => trivial⟩

noncomputable def fn_sparse_mayBe (xa : Int) : Option Bool :=
  some ((decide (0 ≤ xa)) && (decide (xa ≤ 2147483647)))
noncomputable def h_sparse_mayBe : Hn Try.prog := .gp 2 (.nil)
noncomputable def sp_sparse_mayBe : Spec := ⟨21, ⟨[(0, .dat (.int .i64))], []⟩, [⟨[(0, .dat .bool)], []⟩], fun x => fn_sparse_mayBe x⟩
theorem sparse_mayBe_is : SpecOk Try.prog sp_sparse_mayBe := fn_is Try.func21 h_sparse_mayBe (by kernel_rfl) (by kernel_rfl)
noncomputable def ok_sparse_mayBe : OkSpec Try.prog := ⟨sp_sparse_mayBe, sparse_mayBe_is, Try.call21⟩
noncomputable def fn_sparse_Of_l1 (xa : (List Int)) : (Int × (List Int)) → Option ((Int × (List Int)) ⊕ (List Int)) := fun ((i358, l359) : (Int × (List Int))) => cond (decide (i358 < (((xa.length : Nat) : Int)))) ((getI xa i358).bind fun x399 => (fn_sparse_mayBe x399).bind fun t410 => cond (t410) ((app l359 ([x399] : List Int)).bind fun z418 => some (.inl ((IntKind.wrap .i64 (i358 + 1), z418)))) (some (.inl ((IntKind.wrap .i64 (i358 + 1), l359))))) (some (.inr (l359)))
noncomputable def fn_sparse_Of (xa : (List Int)) : Option (List Int) :=
  (loop (fn_sparse_Of_l1 xa) (0, []) : Option (List Int)).bind fun l319 => (srt l319).bind fun l424 => (cmpt l424).bind fun l425 => some (l425)
noncomputable def h_sparse_Of : Hn Try.prog := .jn [] ⟨[], [⟨(some 0), 38, [.own 3 (.int .i64)], false, false, none, false⟩]⟩ [0] (.lp ⟨[(10, .dat (.int .i64))], [⟨(some 0), 38, [.own 3 (.int .i64)], false, false, none, false⟩]⟩ (.tw 11 (.cl ok_sparse_mayBe [] (.tw 15 (.nil) (.nil))) (.nil))) (.cl ok_Sort [] (.cl ok_Compact [] (.nil)))
noncomputable def sp_sparse_Of : Spec := ⟨12, ⟨[(0, .dat (.sl (.int .i64)))], []⟩, [⟨[(0, .ptr 0 0)], [⟨none, 38, [.own 3 (.int .i64)], false, false, none, false⟩]⟩], fun x => fn_sparse_Of x⟩
theorem sparse_Of_is : SpecOk Try.prog sp_sparse_Of := fn_is Try.func12 h_sparse_Of (by kernel_rfl) (by kernel_rfl)
noncomputable def ok_sparse_Of : OkSpec Try.prog := ⟨sp_sparse_Of, sparse_Of_is, Try.call12⟩

noncomputable def fn_mixed_New (xa : Int) : Option ((Int ⊕ (Int × (Option (List Int))))) :=
  cond (decide (xa < 0)) (some (.inl 2)) (cond (decide (1048576 < xa)) (some (.inl 5)) ((fn_sparse_Of ([])).bind fun l25 => some (.inr (0, some l25))))
noncomputable def h_mixed_New : Hn Try.prog := .tw 5 (.nil) (.tw 7 (.nil) (.cl ok_sparse_Of [] (.pl (.nil))))
noncomputable def sp_mixed_New : Spec := ⟨5, ⟨[(0, .is 0 (.dat (.int .i64)))], [⟨none, 0, [], false, true, none, false⟩]⟩, [⟨[(0, .tup [.nilp, .dat (.int .i64)])], []⟩, ⟨[(0, .tup [.ptr 0 0, .dat (.int .i64)])], [⟨none, 36, [.is 1 (.any), .od (.box 38 (.one (.row 3 (.dat (.int .i64))))), .nilp], false, false, none, false⟩, ⟨(some 0), 0, [], false, true, none, false⟩]⟩], fun x => fn_mixed_New x⟩
theorem mixed_New_is : SpecOk Try.prog sp_mixed_New := fn_is Try.func5 h_mixed_New (by kernel_rfl) (by kernel_rfl)
noncomputable def ok_mixed_New : OkSpec Try.prog := ⟨sp_mixed_New, mixed_New_is, Try.call5⟩

noncomputable def fn_mixed_New_c100  : Option ((Int ⊕ (Int × (Option (List Int))))) :=
  cond (decide (100 < 0)) (some (.inl 2)) (cond (decide (1048576 < 100)) (some (.inl 5)) ((fn_sparse_Of ([])).bind fun l25 => some (.inr (0, some l25))))
noncomputable def h_mixed_New_c100 : Hn Try.prog := .tw 5 (.nil) (.tw 7 (.nil) (.cl ok_sparse_Of [] (.pl (.nil))))
noncomputable def sp_mixed_New_c100 : Spec := ⟨5, ⟨[(0, .lit (.int .i64 100))], []⟩, [⟨[(0, .tup [.nilp, .dat (.int .i64)])], []⟩, ⟨[(0, .tup [.ptr 0 0, .dat (.int .i64)])], [⟨none, 36, [.lit (.int .i64 100), .od (.box 38 (.one (.row 3 (.dat (.int .i64))))), .nilp], false, false, none, false⟩]⟩], fun x => fn_mixed_New_c100⟩
theorem mixed_New_c100_is : SpecOk Try.prog sp_mixed_New_c100 := fn_is Try.func5 h_mixed_New_c100 (by kernel_rfl) (by kernel_rfl)
noncomputable def ok_mixed_New_c100 : OkSpec Try.prog := ⟨sp_mixed_New_c100, mixed_New_c100_is, Try.call5⟩

noncomputable def fn_mixed_Set_Size (xa : (Option (Int × (Option (List Int)) × (Option (Int × (List Int)))))) : Option Int :=
  cond (xa.isNone) (some (0)) ((xa : Option (Int × (Option (List Int)) × (Option (Int × (List Int))))).bind fun y11 => some (y11.1))
noncomputable def h_mixed_Set_Size : Hn Try.prog := .tw 4 (.nil) (.nil)
noncomputable def sp_mixed_Set_Size : Spec := ⟨13, ⟨[(0, .dat (.ptr (.cons (.int .i64) (.cons (.ptr (.one (.sl (.int .i64)))) (.one (.ptr (.cons (.int .i64) (.one (.sl (.int .u64))))))))))], []⟩, [⟨[(0, .dat (.int .i64))], []⟩], fun x => fn_mixed_Set_Size x⟩
theorem mixed_Set_Size_is : SpecOk Try.prog sp_mixed_Set_Size := fn_is Try.func13 h_mixed_Set_Size (by kernel_rfl) (by kernel_rfl)
noncomputable def ok_mixed_Set_Size : OkSpec Try.prog := ⟨sp_mixed_Set_Size, mixed_Set_Size_is, Try.call13⟩

noncomputable def fn_mixed_Set_Dense (xa : (Option (Int × (Option (List Int)) × (Option (Int × (List Int)))))) : Option Bool :=
  (cond (!xa.isNone) ((xa : Option (Int × (Option (List Int)) × (Option (Int × (List Int))))).bind fun y36 => some (!y36.2.2.isNone)) (some (false))).bind fun t34 => some (t34)
noncomputable def h_mixed_Set_Dense : Hn Try.prog := .gj 5 ⟨[(11, .dat .bool)], []⟩ [] (.two 5 (.nil) (.nil)) (.nil)
noncomputable def sp_mixed_Set_Dense : Spec := ⟨11, ⟨[(0, .dat (.ptr (.cons (.int .i64) (.cons (.ptr (.one (.sl (.int .i64)))) (.one (.ptr (.cons (.int .i64) (.one (.sl (.int .u64))))))))))], []⟩, [⟨[(0, .dat .bool)], []⟩], fun x => fn_mixed_Set_Dense x⟩
theorem mixed_Set_Dense_is : SpecOk Try.prog sp_mixed_Set_Dense := fn_is Try.func11 h_mixed_Set_Dense (by kernel_rfl) (by kernel_rfl)
noncomputable def ok_mixed_Set_Dense : OkSpec Try.prog := ⟨sp_mixed_Set_Dense, mixed_Set_Dense_is, Try.call11⟩

noncomputable def fn_mixed_Set_Add_zi (xb : Int) : Option Bool :=
  (cond (decide (xb < 0)) (some (true)) ((fn_mixed_Set_Size ((none : (Option (Int × (Option (List Int)) × (Option (Int × (List Int)))))))).bind fun i36 => some (decide (i36 ≤ xb)))).bind fun t32 => cond (t32) (some (false)) ((fn_mixed_Set_Dense ((none : (Option (Int × (Option (List Int)) × (Option (Int × (List Int)))))))).bind fun t43 => cond (t43) (none) (none))
noncomputable def h_mixed_Set_Add_zi : Hn Try.prog := .gj 4 ⟨[(13, .dat .bool)], []⟩ [] (.two 8 (.nil) (.cl ok_mixed_Set_Size [] (.nil))) (.tw 13 (.nil) (.cl ok_mixed_Set_Dense [] (.tw 15 (.nil) (.nil))))
noncomputable def sp_mixed_Set_Add_zi : Spec := ⟨6, ⟨[(0, .nilp), (1, .dat (.int .i64))], []⟩, [⟨[(0, .dat .bool)], []⟩], fun x => fn_mixed_Set_Add_zi x⟩
theorem mixed_Set_Add_zi_is : SpecOk Try.prog sp_mixed_Set_Add_zi := fn_is Try.func6 h_mixed_Set_Add_zi (by kernel_rfl) (by kernel_rfl)
noncomputable def ok_mixed_Set_Add_zi : OkSpec Try.prog := ⟨sp_mixed_Set_Add_zi, mixed_Set_Add_zi_is, Try.call6⟩
noncomputable def fn_mixed_Set_Fill_zii_l1 (xc : Int) : Int → Option (Int ⊕ Unit) := fun (i144 : Int) => (fn_mixed_Set_Size ((none : (Option (Int × (Option (List Int)) × (Option (Int × (List Int)))))))).bind fun i162 => cond (decide (i144 < (if i162 < xc then i162 else xc))) ((fn_mixed_Set_Add_zi i144).bind fun t169 => some (.inl (IntKind.wrap .i64 (i144 + 1)))) (some (.inr ((()))))
noncomputable def fn_mixed_Set_Fill_zii (xb : Int) (xc : Int) : Option Unit :=
  (loop (fn_mixed_Set_Fill_zii_l1 xc) (if xb < 0 then 0 else xb) : Option Unit).bind fun () => some (())
noncomputable def h_mixed_Set_Fill_zii : Hn Try.prog := .jn [] ⟨[], []⟩ [] (.lp ⟨[(6, .dat (.int .i64))], []⟩ (.cl ok_mixed_Set_Size [] (.tw 14 (.cl ok_mixed_Set_Add_zi [] (.nil)) (.nil)))) (.nil)
noncomputable def sp_mixed_Set_Fill_zii : Spec := ⟨9, ⟨[(0, .nilp), (1, .dat (.int .i64)), (2, .dat (.int .i64))], []⟩, [⟨[], []⟩], fun x => fn_mixed_Set_Fill_zii x.1 x.2⟩
theorem mixed_Set_Fill_zii_is : SpecOk Try.prog sp_mixed_Set_Fill_zii := fn_is Try.func9 h_mixed_Set_Fill_zii (by kernel_rfl) (by kernel_rfl)
noncomputable def ok_mixed_Set_Fill_zii : OkSpec Try.prog := ⟨sp_mixed_Set_Fill_zii, mixed_Set_Fill_zii_is, Try.call9⟩

noncomputable def fn_math_bits_OnesCount64 (xa : Int) : Option Int :=
  some (IntKind.wrap .i64 ((BitVec.ofInt (IntKind.bits .i64) (IntKind.wrap .i64 (IntKind.wrap .u64 ((IntKind.wrap .u64 ((IntKind.wrap .u64 ((IntKind.wrap .u64 ((BitVec.ofInt (IntKind.bits .u64) (IntKind.wrap .u64 ((Int.fdiv (IntKind.wrap .u64 ((IntKind.wrap .u64 ((BitVec.ofInt (IntKind.bits .u64) (Int.fdiv (IntKind.wrap .u64 ((IntKind.wrap .u64 ((BitVec.ofInt (IntKind.bits .u64) (Int.fdiv xa (2 ^ (min (Int.toNat 1) (IntKind.bits .u64)))) &&& BitVec.ofInt (IntKind.bits .u64) 6148914691236517205).toNat : Int)) + (IntKind.wrap .u64 ((BitVec.ofInt (IntKind.bits .u64) xa &&& BitVec.ofInt (IntKind.bits .u64) 6148914691236517205).toNat : Int)))) (2 ^ (min (Int.toNat 2) (IntKind.bits .u64)))) &&& BitVec.ofInt (IntKind.bits .u64) 3689348814741910323).toNat : Int)) + (IntKind.wrap .u64 ((BitVec.ofInt (IntKind.bits .u64) (IntKind.wrap .u64 ((IntKind.wrap .u64 ((BitVec.ofInt (IntKind.bits .u64) (Int.fdiv xa (2 ^ (min (Int.toNat 1) (IntKind.bits .u64)))) &&& BitVec.ofInt (IntKind.bits .u64) 6148914691236517205).toNat : Int)) + (IntKind.wrap .u64 ((BitVec.ofInt (IntKind.bits .u64) xa &&& BitVec.ofInt (IntKind.bits .u64) 6148914691236517205).toNat : Int)))) &&& BitVec.ofInt (IntKind.bits .u64) 3689348814741910323).toNat : Int)))) (2 ^ (min (Int.toNat 4) (IntKind.bits .u64)))) + (IntKind.wrap .u64 ((IntKind.wrap .u64 ((BitVec.ofInt (IntKind.bits .u64) (Int.fdiv (IntKind.wrap .u64 ((IntKind.wrap .u64 ((BitVec.ofInt (IntKind.bits .u64) (Int.fdiv xa (2 ^ (min (Int.toNat 1) (IntKind.bits .u64)))) &&& BitVec.ofInt (IntKind.bits .u64) 6148914691236517205).toNat : Int)) + (IntKind.wrap .u64 ((BitVec.ofInt (IntKind.bits .u64) xa &&& BitVec.ofInt (IntKind.bits .u64) 6148914691236517205).toNat : Int)))) (2 ^ (min (Int.toNat 2) (IntKind.bits .u64)))) &&& BitVec.ofInt (IntKind.bits .u64) 3689348814741910323).toNat : Int)) + (IntKind.wrap .u64 ((BitVec.ofInt (IntKind.bits .u64) (IntKind.wrap .u64 ((IntKind.wrap .u64 ((BitVec.ofInt (IntKind.bits .u64) (Int.fdiv xa (2 ^ (min (Int.toNat 1) (IntKind.bits .u64)))) &&& BitVec.ofInt (IntKind.bits .u64) 6148914691236517205).toNat : Int)) + (IntKind.wrap .u64 ((BitVec.ofInt (IntKind.bits .u64) xa &&& BitVec.ofInt (IntKind.bits .u64) 6148914691236517205).toNat : Int)))) &&& BitVec.ofInt (IntKind.bits .u64) 3689348814741910323).toNat : Int)))))) &&& BitVec.ofInt (IntKind.bits .u64) 1085102592571150095).toNat : Int)) + (Int.fdiv (IntKind.wrap .u64 ((BitVec.ofInt (IntKind.bits .u64) (IntKind.wrap .u64 ((Int.fdiv (IntKind.wrap .u64 ((IntKind.wrap .u64 ((BitVec.ofInt (IntKind.bits .u64) (Int.fdiv (IntKind.wrap .u64 ((IntKind.wrap .u64 ((BitVec.ofInt (IntKind.bits .u64) (Int.fdiv xa (2 ^ (min (Int.toNat 1) (IntKind.bits .u64)))) &&& BitVec.ofInt (IntKind.bits .u64) 6148914691236517205).toNat : Int)) + (IntKind.wrap .u64 ((BitVec.ofInt (IntKind.bits .u64) xa &&& BitVec.ofInt (IntKind.bits .u64) 6148914691236517205).toNat : Int)))) (2 ^ (min (Int.toNat 2) (IntKind.bits .u64)))) &&& BitVec.ofInt (IntKind.bits .u64) 3689348814741910323).toNat : Int)) + (IntKind.wrap .u64 ((BitVec.ofInt (IntKind.bits .u64) (IntKind.wrap .u64 ((IntKind.wrap .u64 ((BitVec.ofInt (IntKind.bits .u64) (Int.fdiv xa (2 ^ (min (Int.toNat 1) (IntKind.bits .u64)))) &&& BitVec.ofInt (IntKind.bits .u64) 6148914691236517205).toNat : Int)) + (IntKind.wrap .u64 ((BitVec.ofInt (IntKind.bits .u64) xa &&& BitVec.ofInt (IntKind.bits .u64) 6148914691236517205).toNat : Int)))) &&& BitVec.ofInt (IntKind.bits .u64) 3689348814741910323).toNat : Int)))) (2 ^ (min (Int.toNat 4) (IntKind.bits .u64)))) + (IntKind.wrap .u64 ((IntKind.wrap .u64 ((BitVec.ofInt (IntKind.bits .u64) (Int.fdiv (IntKind.wrap .u64 ((IntKind.wrap .u64 ((BitVec.ofInt (IntKind.bits .u64) (Int.fdiv xa (2 ^ (min (Int.toNat 1) (IntKind.bits .u64)))) &&& BitVec.ofInt (IntKind.bits .u64) 6148914691236517205).toNat : Int)) + (IntKind.wrap .u64 ((BitVec.ofInt (IntKind.bits .u64) xa &&& BitVec.ofInt (IntKind.bits .u64) 6148914691236517205).toNat : Int)))) (2 ^ (min (Int.toNat 2) (IntKind.bits .u64)))) &&& BitVec.ofInt (IntKind.bits .u64) 3689348814741910323).toNat : Int)) + (IntKind.wrap .u64 ((BitVec.ofInt (IntKind.bits .u64) (IntKind.wrap .u64 ((IntKind.wrap .u64 ((BitVec.ofInt (IntKind.bits .u64) (Int.fdiv xa (2 ^ (min (Int.toNat 1) (IntKind.bits .u64)))) &&& BitVec.ofInt (IntKind.bits .u64) 6148914691236517205).toNat : Int)) + (IntKind.wrap .u64 ((BitVec.ofInt (IntKind.bits .u64) xa &&& BitVec.ofInt (IntKind.bits .u64) 6148914691236517205).toNat : Int)))) &&& BitVec.ofInt (IntKind.bits .u64) 3689348814741910323).toNat : Int)))))) &&& BitVec.ofInt (IntKind.bits .u64) 1085102592571150095).toNat : Int)) (2 ^ (min (Int.toNat 8) (IntKind.bits .u64)))))) + (Int.fdiv (IntKind.wrap .u64 ((IntKind.wrap .u64 ((BitVec.ofInt (IntKind.bits .u64) (IntKind.wrap .u64 ((Int.fdiv (IntKind.wrap .u64 ((IntKind.wrap .u64 ((BitVec.ofInt (IntKind.bits .u64) (Int.fdiv (IntKind.wrap .u64 ((IntKind.wrap .u64 ((BitVec.ofInt (IntKind.bits .u64) (Int.fdiv xa (2 ^ (min (Int.toNat 1) (IntKind.bits .u64)))) &&& BitVec.ofInt (IntKind.bits .u64) 6148914691236517205).toNat : Int)) + (IntKind.wrap .u64 ((BitVec.ofInt (IntKind.bits .u64) xa &&& BitVec.ofInt (IntKind.bits .u64) 6148914691236517205).toNat : Int)))) (2 ^ (min (Int.toNat 2) (IntKind.bits .u64)))) &&& BitVec.ofInt (IntKind.bits .u64) 3689348814741910323).toNat : Int)) + (IntKind.wrap .u64 ((BitVec.ofInt (IntKind.bits .u64) (IntKind.wrap .u64 ((IntKind.wrap .u64 ((BitVec.ofInt (IntKind.bits .u64) (Int.fdiv xa (2 ^ (min (Int.toNat 1) (IntKind.bits .u64)))) &&& BitVec.ofInt (IntKind.bits .u64) 6148914691236517205).toNat : Int)) + (IntKind.wrap .u64 ((BitVec.ofInt (IntKind.bits .u64) xa &&& BitVec.ofInt (IntKind.bits .u64) 6148914691236517205).toNat : Int)))) &&& BitVec.ofInt (IntKind.bits .u64) 3689348814741910323).toNat : Int)))) (2 ^ (min (Int.toNat 4) (IntKind.bits .u64)))) + (IntKind.wrap .u64 ((IntKind.wrap .u64 ((BitVec.ofInt (IntKind.bits .u64) (Int.fdiv (IntKind.wrap .u64 ((IntKind.wrap .u64 ((BitVec.ofInt (IntKind.bits .u64) (Int.fdiv xa (2 ^ (min (Int.toNat 1) (IntKind.bits .u64)))) &&& BitVec.ofInt (IntKind.bits .u64) 6148914691236517205).toNat : Int)) + (IntKind.wrap .u64 ((BitVec.ofInt (IntKind.bits .u64) xa &&& BitVec.ofInt (IntKind.bits .u64) 6148914691236517205).toNat : Int)))) (2 ^ (min (Int.toNat 2) (IntKind.bits .u64)))) &&& BitVec.ofInt (IntKind.bits .u64) 3689348814741910323).toNat : Int)) + (IntKind.wrap .u64 ((BitVec.ofInt (IntKind.bits .u64) (IntKind.wrap .u64 ((IntKind.wrap .u64 ((BitVec.ofInt (IntKind.bits .u64) (Int.fdiv xa (2 ^ (min (Int.toNat 1) (IntKind.bits .u64)))) &&& BitVec.ofInt (IntKind.bits .u64) 6148914691236517205).toNat : Int)) + (IntKind.wrap .u64 ((BitVec.ofInt (IntKind.bits .u64) xa &&& BitVec.ofInt (IntKind.bits .u64) 6148914691236517205).toNat : Int)))) &&& BitVec.ofInt (IntKind.bits .u64) 3689348814741910323).toNat : Int)))))) &&& BitVec.ofInt (IntKind.bits .u64) 1085102592571150095).toNat : Int)) + (Int.fdiv (IntKind.wrap .u64 ((BitVec.ofInt (IntKind.bits .u64) (IntKind.wrap .u64 ((Int.fdiv (IntKind.wrap .u64 ((IntKind.wrap .u64 ((BitVec.ofInt (IntKind.bits .u64) (Int.fdiv (IntKind.wrap .u64 ((IntKind.wrap .u64 ((BitVec.ofInt (IntKind.bits .u64) (Int.fdiv xa (2 ^ (min (Int.toNat 1) (IntKind.bits .u64)))) &&& BitVec.ofInt (IntKind.bits .u64) 6148914691236517205).toNat : Int)) + (IntKind.wrap .u64 ((BitVec.ofInt (IntKind.bits .u64) xa &&& BitVec.ofInt (IntKind.bits .u64) 6148914691236517205).toNat : Int)))) (2 ^ (min (Int.toNat 2) (IntKind.bits .u64)))) &&& BitVec.ofInt (IntKind.bits .u64) 3689348814741910323).toNat : Int)) + (IntKind.wrap .u64 ((BitVec.ofInt (IntKind.bits .u64) (IntKind.wrap .u64 ((IntKind.wrap .u64 ((BitVec.ofInt (IntKind.bits .u64) (Int.fdiv xa (2 ^ (min (Int.toNat 1) (IntKind.bits .u64)))) &&& BitVec.ofInt (IntKind.bits .u64) 6148914691236517205).toNat : Int)) + (IntKind.wrap .u64 ((BitVec.ofInt (IntKind.bits .u64) xa &&& BitVec.ofInt (IntKind.bits .u64) 6148914691236517205).toNat : Int)))) &&& BitVec.ofInt (IntKind.bits .u64) 3689348814741910323).toNat : Int)))) (2 ^ (min (Int.toNat 4) (IntKind.bits .u64)))) + (IntKind.wrap .u64 ((IntKind.wrap .u64 ((BitVec.ofInt (IntKind.bits .u64) (Int.fdiv (IntKind.wrap .u64 ((IntKind.wrap .u64 ((BitVec.ofInt (IntKind.bits .u64) (Int.fdiv xa (2 ^ (min (Int.toNat 1) (IntKind.bits .u64)))) &&& BitVec.ofInt (IntKind.bits .u64) 6148914691236517205).toNat : Int)) + (IntKind.wrap .u64 ((BitVec.ofInt (IntKind.bits .u64) xa &&& BitVec.ofInt (IntKind.bits .u64) 6148914691236517205).toNat : Int)))) (2 ^ (min (Int.toNat 2) (IntKind.bits .u64)))) &&& BitVec.ofInt (IntKind.bits .u64) 3689348814741910323).toNat : Int)) + (IntKind.wrap .u64 ((BitVec.ofInt (IntKind.bits .u64) (IntKind.wrap .u64 ((IntKind.wrap .u64 ((BitVec.ofInt (IntKind.bits .u64) (Int.fdiv xa (2 ^ (min (Int.toNat 1) (IntKind.bits .u64)))) &&& BitVec.ofInt (IntKind.bits .u64) 6148914691236517205).toNat : Int)) + (IntKind.wrap .u64 ((BitVec.ofInt (IntKind.bits .u64) xa &&& BitVec.ofInt (IntKind.bits .u64) 6148914691236517205).toNat : Int)))) &&& BitVec.ofInt (IntKind.bits .u64) 3689348814741910323).toNat : Int)))))) &&& BitVec.ofInt (IntKind.bits .u64) 1085102592571150095).toNat : Int)) (2 ^ (min (Int.toNat 8) (IntKind.bits .u64)))))) (2 ^ (min (Int.toNat 16) (IntKind.bits .u64)))))) + (Int.fdiv (IntKind.wrap .u64 ((IntKind.wrap .u64 ((IntKind.wrap .u64 ((BitVec.ofInt (IntKind.bits .u64) (IntKind.wrap .u64 ((Int.fdiv (IntKind.wrap .u64 ((IntKind.wrap .u64 ((BitVec.ofInt (IntKind.bits .u64) (Int.fdiv (IntKind.wrap .u64 ((IntKind.wrap .u64 ((BitVec.ofInt (IntKind.bits .u64) (Int.fdiv xa (2 ^ (min (Int.toNat 1) (IntKind.bits .u64)))) &&& BitVec.ofInt (IntKind.bits .u64) 6148914691236517205).toNat : Int)) + (IntKind.wrap .u64 ((BitVec.ofInt (IntKind.bits .u64) xa &&& BitVec.ofInt (IntKind.bits .u64) 6148914691236517205).toNat : Int)))) (2 ^ (min (Int.toNat 2) (IntKind.bits .u64)))) &&& BitVec.ofInt (IntKind.bits .u64) 3689348814741910323).toNat : Int)) + (IntKind.wrap .u64 ((BitVec.ofInt (IntKind.bits .u64) (IntKind.wrap .u64 ((IntKind.wrap .u64 ((BitVec.ofInt (IntKind.bits .u64) (Int.fdiv xa (2 ^ (min (Int.toNat 1) (IntKind.bits .u64)))) &&& BitVec.ofInt (IntKind.bits .u64) 6148914691236517205).toNat : Int)) + (IntKind.wrap .u64 ((BitVec.ofInt (IntKind.bits .u64) xa &&& BitVec.ofInt (IntKind.bits .u64) 6148914691236517205).toNat : Int)))) &&& BitVec.ofInt (IntKind.bits .u64) 3689348814741910323).toNat : Int)))) (2 ^ (min (Int.toNat 4) (IntKind.bits .u64)))) + (IntKind.wrap .u64 ((IntKind.wrap .u64 ((BitVec.ofInt (IntKind.bits .u64) (Int.fdiv (IntKind.wrap .u64 ((IntKind.wrap .u64 ((BitVec.ofInt (IntKind.bits .u64) (Int.fdiv xa (2 ^ (min (Int.toNat 1) (IntKind.bits .u64)))) &&& BitVec.ofInt (IntKind.bits .u64) 6148914691236517205).toNat : Int)) + (IntKind.wrap .u64 ((BitVec.ofInt (IntKind.bits .u64) xa &&& BitVec.ofInt (IntKind.bits .u64) 6148914691236517205).toNat : Int)))) (2 ^ (min (Int.toNat 2) (IntKind.bits .u64)))) &&& BitVec.ofInt (IntKind.bits .u64) 3689348814741910323).toNat : Int)) + (IntKind.wrap .u64 ((BitVec.ofInt (IntKind.bits .u64) (IntKind.wrap .u64 ((IntKind.wrap .u64 ((BitVec.ofInt (IntKind.bits .u64) (Int.fdiv xa (2 ^ (min (Int.toNat 1) (IntKind.bits .u64)))) &&& BitVec.ofInt (IntKind.bits .u64) 6148914691236517205).toNat : Int)) + (IntKind.wrap .u64 ((BitVec.ofInt (IntKind.bits .u64) xa &&& BitVec.ofInt (IntKind.bits .u64) 6148914691236517205).toNat : Int)))) &&& BitVec.ofInt (IntKind.bits .u64) 3689348814741910323).toNat : Int)))))) &&& BitVec.ofInt (IntKind.bits .u64) 1085102592571150095).toNat : Int)) + (Int.fdiv (IntKind.wrap .u64 ((BitVec.ofInt (IntKind.bits .u64) (IntKind.wrap .u64 ((Int.fdiv (IntKind.wrap .u64 ((IntKind.wrap .u64 ((BitVec.ofInt (IntKind.bits .u64) (Int.fdiv (IntKind.wrap .u64 ((IntKind.wrap .u64 ((BitVec.ofInt (IntKind.bits .u64) (Int.fdiv xa (2 ^ (min (Int.toNat 1) (IntKind.bits .u64)))) &&& BitVec.ofInt (IntKind.bits .u64) 6148914691236517205).toNat : Int)) + (IntKind.wrap .u64 ((BitVec.ofInt (IntKind.bits .u64) xa &&& BitVec.ofInt (IntKind.bits .u64) 6148914691236517205).toNat : Int)))) (2 ^ (min (Int.toNat 2) (IntKind.bits .u64)))) &&& BitVec.ofInt (IntKind.bits .u64) 3689348814741910323).toNat : Int)) + (IntKind.wrap .u64 ((BitVec.ofInt (IntKind.bits .u64) (IntKind.wrap .u64 ((IntKind.wrap .u64 ((BitVec.ofInt (IntKind.bits .u64) (Int.fdiv xa (2 ^ (min (Int.toNat 1) (IntKind.bits .u64)))) &&& BitVec.ofInt (IntKind.bits .u64) 6148914691236517205).toNat : Int)) + (IntKind.wrap .u64 ((BitVec.ofInt (IntKind.bits .u64) xa &&& BitVec.ofInt (IntKind.bits .u64) 6148914691236517205).toNat : Int)))) &&& BitVec.ofInt (IntKind.bits .u64) 3689348814741910323).toNat : Int)))) (2 ^ (min (Int.toNat 4) (IntKind.bits .u64)))) + (IntKind.wrap .u64 ((IntKind.wrap .u64 ((BitVec.ofInt (IntKind.bits .u64) (Int.fdiv (IntKind.wrap .u64 ((IntKind.wrap .u64 ((BitVec.ofInt (IntKind.bits .u64) (Int.fdiv xa (2 ^ (min (Int.toNat 1) (IntKind.bits .u64)))) &&& BitVec.ofInt (IntKind.bits .u64) 6148914691236517205).toNat : Int)) + (IntKind.wrap .u64 ((BitVec.ofInt (IntKind.bits .u64) xa &&& BitVec.ofInt (IntKind.bits .u64) 6148914691236517205).toNat : Int)))) (2 ^ (min (Int.toNat 2) (IntKind.bits .u64)))) &&& BitVec.ofInt (IntKind.bits .u64) 3689348814741910323).toNat : Int)) + (IntKind.wrap .u64 ((BitVec.ofInt (IntKind.bits .u64) (IntKind.wrap .u64 ((IntKind.wrap .u64 ((BitVec.ofInt (IntKind.bits .u64) (Int.fdiv xa (2 ^ (min (Int.toNat 1) (IntKind.bits .u64)))) &&& BitVec.ofInt (IntKind.bits .u64) 6148914691236517205).toNat : Int)) + (IntKind.wrap .u64 ((BitVec.ofInt (IntKind.bits .u64) xa &&& BitVec.ofInt (IntKind.bits .u64) 6148914691236517205).toNat : Int)))) &&& BitVec.ofInt (IntKind.bits .u64) 3689348814741910323).toNat : Int)))))) &&& BitVec.ofInt (IntKind.bits .u64) 1085102592571150095).toNat : Int)) (2 ^ (min (Int.toNat 8) (IntKind.bits .u64)))))) + (Int.fdiv (IntKind.wrap .u64 ((IntKind.wrap .u64 ((BitVec.ofInt (IntKind.bits .u64) (IntKind.wrap .u64 ((Int.fdiv (IntKind.wrap .u64 ((IntKind.wrap .u64 ((BitVec.ofInt (IntKind.bits .u64) (Int.fdiv (IntKind.wrap .u64 ((IntKind.wrap .u64 ((BitVec.ofInt (IntKind.bits .u64) (Int.fdiv xa (2 ^ (min (Int.toNat 1) (IntKind.bits .u64)))) &&& BitVec.ofInt (IntKind.bits .u64) 6148914691236517205).toNat : Int)) + (IntKind.wrap .u64 ((BitVec.ofInt (IntKind.bits .u64) xa &&& BitVec.ofInt (IntKind.bits .u64) 6148914691236517205).toNat : Int)))) (2 ^ (min (Int.toNat 2) (IntKind.bits .u64)))) &&& BitVec.ofInt (IntKind.bits .u64) 3689348814741910323).toNat : Int)) + (IntKind.wrap .u64 ((BitVec.ofInt (IntKind.bits .u64) (IntKind.wrap .u64 ((IntKind.wrap .u64 ((BitVec.ofInt (IntKind.bits .u64) (Int.fdiv xa (2 ^ (min (Int.toNat 1) (IntKind.bits .u64)))) &&& BitVec.ofInt (IntKind.bits .u64) 6148914691236517205).toNat : Int)) + (IntKind.wrap .u64 ((BitVec.ofInt (IntKind.bits .u64) xa &&& BitVec.ofInt (IntKind.bits .u64) 6148914691236517205).toNat : Int)))) &&& BitVec.ofInt (IntKind.bits .u64) 3689348814741910323).toNat : Int)))) (2 ^ (min (Int.toNat 4) (IntKind.bits .u64)))) + (IntKind.wrap .u64 ((IntKind.wrap .u64 ((BitVec.ofInt (IntKind.bits .u64) (Int.fdiv (IntKind.wrap .u64 ((IntKind.wrap .u64 ((BitVec.ofInt (IntKind.bits .u64) (Int.fdiv xa (2 ^ (min (Int.toNat 1) (IntKind.bits .u64)))) &&& BitVec.ofInt (IntKind.bits .u64) 6148914691236517205).toNat : Int)) + (IntKind.wrap .u64 ((BitVec.ofInt (IntKind.bits .u64) xa &&& BitVec.ofInt (IntKind.bits .u64) 6148914691236517205).toNat : Int)))) (2 ^ (min (Int.toNat 2) (IntKind.bits .u64)))) &&& BitVec.ofInt (IntKind.bits .u64) 3689348814741910323).toNat : Int)) + (IntKind.wrap .u64 ((BitVec.ofInt (IntKind.bits .u64) (IntKind.wrap .u64 ((IntKind.wrap .u64 ((BitVec.ofInt (IntKind.bits .u64) (Int.fdiv xa (2 ^ (min (Int.toNat 1) (IntKind.bits .u64)))) &&& BitVec.ofInt (IntKind.bits .u64) 6148914691236517205).toNat : Int)) + (IntKind.wrap .u64 ((BitVec.ofInt (IntKind.bits .u64) xa &&& BitVec.ofInt (IntKind.bits .u64) 6148914691236517205).toNat : Int)))) &&& BitVec.ofInt (IntKind.bits .u64) 3689348814741910323).toNat : Int)))))) &&& BitVec.ofInt (IntKind.bits .u64) 1085102592571150095).toNat : Int)) + (Int.fdiv (IntKind.wrap .u64 ((BitVec.ofInt (IntKind.bits .u64) (IntKind.wrap .u64 ((Int.fdiv (IntKind.wrap .u64 ((IntKind.wrap .u64 ((BitVec.ofInt (IntKind.bits .u64) (Int.fdiv (IntKind.wrap .u64 ((IntKind.wrap .u64 ((BitVec.ofInt (IntKind.bits .u64) (Int.fdiv xa (2 ^ (min (Int.toNat 1) (IntKind.bits .u64)))) &&& BitVec.ofInt (IntKind.bits .u64) 6148914691236517205).toNat : Int)) + (IntKind.wrap .u64 ((BitVec.ofInt (IntKind.bits .u64) xa &&& BitVec.ofInt (IntKind.bits .u64) 6148914691236517205).toNat : Int)))) (2 ^ (min (Int.toNat 2) (IntKind.bits .u64)))) &&& BitVec.ofInt (IntKind.bits .u64) 3689348814741910323).toNat : Int)) + (IntKind.wrap .u64 ((BitVec.ofInt (IntKind.bits .u64) (IntKind.wrap .u64 ((IntKind.wrap .u64 ((BitVec.ofInt (IntKind.bits .u64) (Int.fdiv xa (2 ^ (min (Int.toNat 1) (IntKind.bits .u64)))) &&& BitVec.ofInt (IntKind.bits .u64) 6148914691236517205).toNat : Int)) + (IntKind.wrap .u64 ((BitVec.ofInt (IntKind.bits .u64) xa &&& BitVec.ofInt (IntKind.bits .u64) 6148914691236517205).toNat : Int)))) &&& BitVec.ofInt (IntKind.bits .u64) 3689348814741910323).toNat : Int)))) (2 ^ (min (Int.toNat 4) (IntKind.bits .u64)))) + (IntKind.wrap .u64 ((IntKind.wrap .u64 ((BitVec.ofInt (IntKind.bits .u64) (Int.fdiv (IntKind.wrap .u64 ((IntKind.wrap .u64 ((BitVec.ofInt (IntKind.bits .u64) (Int.fdiv xa (2 ^ (min (Int.toNat 1) (IntKind.bits .u64)))) &&& BitVec.ofInt (IntKind.bits .u64) 6148914691236517205).toNat : Int)) + (IntKind.wrap .u64 ((BitVec.ofInt (IntKind.bits .u64) xa &&& BitVec.ofInt (IntKind.bits .u64) 6148914691236517205).toNat : Int)))) (2 ^ (min (Int.toNat 2) (IntKind.bits .u64)))) &&& BitVec.ofInt (IntKind.bits .u64) 3689348814741910323).toNat : Int)) + (IntKind.wrap .u64 ((BitVec.ofInt (IntKind.bits .u64) (IntKind.wrap .u64 ((IntKind.wrap .u64 ((BitVec.ofInt (IntKind.bits .u64) (Int.fdiv xa (2 ^ (min (Int.toNat 1) (IntKind.bits .u64)))) &&& BitVec.ofInt (IntKind.bits .u64) 6148914691236517205).toNat : Int)) + (IntKind.wrap .u64 ((BitVec.ofInt (IntKind.bits .u64) xa &&& BitVec.ofInt (IntKind.bits .u64) 6148914691236517205).toNat : Int)))) &&& BitVec.ofInt (IntKind.bits .u64) 3689348814741910323).toNat : Int)))))) &&& BitVec.ofInt (IntKind.bits .u64) 1085102592571150095).toNat : Int)) (2 ^ (min (Int.toNat 8) (IntKind.bits .u64)))))) (2 ^ (min (Int.toNat 16) (IntKind.bits .u64)))))) (2 ^ (min (Int.toNat 32) (IntKind.bits .u64))))))) &&& BitVec.ofInt (IntKind.bits .i64) 127).toNat : Int))
noncomputable def h_math_bits_OnesCount64 : Hn Try.prog := .nil
noncomputable def sp_math_bits_OnesCount64 : Spec := ⟨30, ⟨[(0, .dat (.int .u64))], []⟩, [⟨[(0, .dat (.int .i64))], []⟩], fun x => fn_math_bits_OnesCount64 x⟩
theorem math_bits_OnesCount64_is : SpecOk Try.prog sp_math_bits_OnesCount64 := fn_is Try.func30 h_math_bits_OnesCount64 (by kernel_rfl) (by kernel_rfl)
noncomputable def ok_math_bits_OnesCount64 : OkSpec Try.prog := ⟨sp_math_bits_OnesCount64, math_bits_OnesCount64_is, Try.call30⟩
noncomputable def fn_dense_Set_Count_l1 (y125 : (Int × (List Int))) : (Int × Int) → Option ((Int × Int) ⊕ Int) := fun ((i209, i210) : (Int × Int)) => cond (decide (i210 < (((y125.2.length : Nat) : Int)))) ((getI y125.2 i210).bind fun x231 => (fn_math_bits_OnesCount64 x231).bind fun i242 => some (.inl ((IntKind.wrap .i64 (i209 + i242), IntKind.wrap .i64 (i210 + 1))))) (some (.inr (i209)))
noncomputable def fn_dense_Set_Count (xa : (Option (Int × (List Int)))) : Option Int :=
  cond (xa.isNone) (some (0)) ((xa : Option (Int × (List Int))).bind fun y125 => (loop (fn_dense_Set_Count_l1 y125) (0, 0) : Option Int).bind fun i190 => some (i190))
noncomputable def h_dense_Set_Count : Hn Try.prog := .tw 7 (.nil) (.jn [] ⟨[(3, .dat (.int .i64))], []⟩ [] (.lp ⟨[(3, .dat (.int .i64)), (13, .dat (.int .i64))], []⟩ (.tw 14 (.cl ok_math_bits_OnesCount64 [] (.nil)) (.nil))) (.nil))
noncomputable def sp_dense_Set_Count : Spec := ⟨20, ⟨[(0, .dat (.ptr (.cons (.int .i64) (.one (.sl (.int .u64))))))], []⟩, [⟨[(0, .dat (.int .i64))], []⟩], fun x => fn_dense_Set_Count x⟩
theorem dense_Set_Count_is : SpecOk Try.prog sp_dense_Set_Count := fn_is Try.func20 h_dense_Set_Count (by kernel_rfl) (by kernel_rfl)
noncomputable def ok_dense_Set_Count : OkSpec Try.prog := ⟨sp_dense_Set_Count, dense_Set_Count_is, Try.call20⟩

noncomputable def fn_sparse_Set_Len (xa : (Option (List Int))) : Option Int :=
  cond (xa.isNone) (some (0)) ((xa : Option (List Int)).bind fun y14 => some (((y14.length : Nat) : Int)))
noncomputable def h_sparse_Set_Len : Hn Try.prog := .tw 4 (.nil) (.nil)
noncomputable def sp_sparse_Set_Len : Spec := ⟨16, ⟨[(0, .dat (.ptr (.one (.sl (.int .i64)))))], []⟩, [⟨[(0, .dat (.int .i64))], []⟩], fun x => fn_sparse_Set_Len x⟩
theorem sparse_Set_Len_is : SpecOk Try.prog sp_sparse_Set_Len := fn_is Try.func16 h_sparse_Set_Len (by kernel_rfl) (by kernel_rfl)
noncomputable def ok_sparse_Set_Len : OkSpec Try.prog := ⟨sp_sparse_Set_Len, sparse_Set_Len_is, Try.call16⟩

noncomputable def fn_mixed_Set_Len (xa : (Option (Int × (Option (List Int)) × (Option (Int × (List Int)))))) : Option Int :=
  (fn_mixed_Set_Dense xa).bind fun t43 => cond (t43) ((xa : Option (Int × (Option (List Int)) × (Option (Int × (List Int))))).bind fun y48 => (fn_dense_Set_Count y48.2.2).bind fun i59 => some (i59)) (cond (xa.isNone) (some (0)) ((xa : Option (Int × (Option (List Int)) × (Option (Int × (List Int))))).bind fun y64 => (fn_sparse_Set_Len y64.2.1).bind fun i75 => some (i75)))
noncomputable def h_mixed_Set_Len : Hn Try.prog := .cl ok_mixed_Set_Dense [] (.tw 4 (.cl ok_dense_Set_Count [] (.nil)) (.tw 11 (.nil) (.cl ok_sparse_Set_Len [] (.nil))))
noncomputable def sp_mixed_Set_Len : Spec := ⟨8, ⟨[(0, .dat (.ptr (.cons (.int .i64) (.cons (.ptr (.one (.sl (.int .i64)))) (.one (.ptr (.cons (.int .i64) (.one (.sl (.int .u64))))))))))], []⟩, [⟨[(0, .dat (.int .i64))], []⟩], fun x => fn_mixed_Set_Len x⟩
theorem mixed_Set_Len_is : SpecOk Try.prog sp_mixed_Set_Len := fn_is Try.func8 h_mixed_Set_Len (by kernel_rfl) (by kernel_rfl)
noncomputable def ok_mixed_Set_Len : OkSpec Try.prog := ⟨sp_mixed_Set_Len, mixed_Set_Len_is, Try.call8⟩

noncomputable def fn_mixed_Set_Words (xa : (Option (Int × (Option (List Int)) × (Option (Int × (List Int)))))) : Option Int :=
  (fn_mixed_Set_Dense xa).bind fun t24 => cond (t24) ((xa : Option (Int × (Option (List Int)) × (Option (Int × (List Int))))).bind fun y29 => some (IntKind.wrap .i64 (Int.tdiv (IntKind.wrap .i64 (y29.1 + 63)) 64))) ((fn_mixed_Set_Len xa).bind fun i37 => some (i37))
noncomputable def h_mixed_Set_Words : Hn Try.prog := .cl ok_mixed_Set_Dense [] (.tw 4 (.nil) (.cl ok_mixed_Set_Len [] (.nil)))
noncomputable def sp_mixed_Set_Words : Spec := ⟨10, ⟨[(0, .dat (.ptr (.cons (.int .i64) (.cons (.ptr (.one (.sl (.int .i64)))) (.one (.ptr (.cons (.int .i64) (.one (.sl (.int .u64))))))))))], []⟩, [⟨[(0, .dat (.int .i64))], []⟩], fun x => fn_mixed_Set_Words x⟩
theorem mixed_Set_Words_is : SpecOk Try.prog sp_mixed_Set_Words := fn_is Try.func10 h_mixed_Set_Words (by kernel_rfl) (by kernel_rfl)
noncomputable def ok_mixed_Set_Words : OkSpec Try.prog := ⟨sp_mixed_Set_Words, mixed_Set_Words_is, Try.call10⟩

noncomputable def fn_dense_Set_Size (xa : (Option (Int × (List Int)))) : Option Int :=
  cond (xa.isNone) (some (0)) ((xa : Option (Int × (List Int))).bind fun y11 => some (y11.1))
noncomputable def h_dense_Set_Size : Hn Try.prog := .tw 4 (.nil) (.nil)
noncomputable def sp_dense_Set_Size : Spec := ⟨33, ⟨[(0, .dat (.ptr (.cons (.int .i64) (.one (.sl (.int .u64))))))], []⟩, [⟨[(0, .dat (.int .i64))], []⟩], fun x => fn_dense_Set_Size x⟩
theorem dense_Set_Size_is : SpecOk Try.prog sp_dense_Set_Size := fn_is Try.func33 h_dense_Set_Size (by kernel_rfl) (by kernel_rfl)
noncomputable def ok_dense_Set_Size : OkSpec Try.prog := ⟨sp_dense_Set_Size, dense_Set_Size_is, Try.call33⟩

noncomputable def fn_dense_Set_mayHave (xa : (Option (Int × (List Int)))) (xb : Int) : Option Bool :=
  (cond (decide (0 ≤ xb)) ((fn_dense_Set_Size xa).bind fun i28 => some (decide (xb < i28))) (some (false))).bind fun t24 => some (t24)
noncomputable def h_dense_Set_mayHave : Hn Try.prog := .gj 4 ⟨[(12, .dat .bool)], []⟩ [] (.two 7 (.cl ok_dense_Set_Size [] (.nil)) (.nil)) (.nil)
noncomputable def sp_dense_Set_mayHave : Spec := ⟨24, ⟨[(0, .dat (.ptr (.cons (.int .i64) (.one (.sl (.int .u64)))))), (1, .dat (.int .i64))], []⟩, [⟨[(0, .dat .bool)], []⟩], fun x => fn_dense_Set_mayHave x.1 x.2⟩
theorem dense_Set_mayHave_is : SpecOk Try.prog sp_dense_Set_mayHave := fn_is Try.func24 h_dense_Set_mayHave (by kernel_rfl) (by kernel_rfl)
noncomputable def ok_dense_Set_mayHave : OkSpec Try.prog := ⟨sp_dense_Set_mayHave, dense_Set_mayHave_is, Try.call24⟩

noncomputable def fn_dense_Set_Has (xa : (Option (Int × (List Int)))) (xb : Int) : Option Bool :=
  (fn_dense_Set_mayHave xa xb).bind fun t200 => cond (t200) ((xa : Option (Int × (List Int))).bind fun y205 => (getI y205.2 (IntKind.wrap .i64 (Int.tdiv xb 64))).bind fun x215 => (ge0 (Int.tmod xb 64)).bind fun u224 => some (!decide ((IntKind.wrap .u64 ((BitVec.ofInt (IntKind.bits .u64) x215 &&& BitVec.ofInt (IntKind.bits .u64) (IntKind.wrap .u64 (1 * 2 ^ (min (Int.toNat (Int.tmod xb 64)) (IntKind.bits .u64))))).toNat : Int)) = 0))) (some (false))
noncomputable def h_dense_Set_Has : Hn Try.prog := .mix [([0, 1], 2)] [3, 4, 5, 6, 7, 8, 9, 10, 11, 12, 13, 14, 15, 16, 17, 18] [] [] (.cl ok_dense_Set_mayHave [] (.two 8 (.nil) (.nil)))
noncomputable def sp_dense_Set_Has : Spec := ⟨18, ⟨[(0, .dat (.ptr (.cons (.int .i64) (.one (.sl (.int .u64)))))), (1, .dat (.int .i64))], []⟩, [⟨[(0, .dat .bool)], []⟩], fun x => fn_dense_Set_Has x.1 x.2⟩
theorem dense_Set_Has_is : SpecOk Try.prog sp_dense_Set_Has := fn_is Try.func18 h_dense_Set_Has (by kernel_rfl) (by kernel_rfl)
noncomputable def ok_dense_Set_Has : OkSpec Try.prog := ⟨sp_dense_Set_Has, dense_Set_Has_is, Try.call18⟩

noncomputable def fn_dense_Set_Add_p0i_ir (xb : Int) (qa0 : Int) (qa1 : (List Int)) : Option ((Bool × (List Int))) :=
  (fn_dense_Set_mayHave (some (qa0, qa1)) xb).bind fun t100 => (cond (!t100) (some (true)) ((fn_dense_Set_Has (some (qa0, qa1)) xb).bind fun t115 => some (t115))).bind fun t111 => cond (t111) (some ((false, qa1))) ((getI qa1 (IntKind.wrap .i64 (Int.tdiv xb 64))).bind fun x168 => (ge0 (Int.tmod xb 64)).bind fun u175 => (getI qa1 (IntKind.wrap .i64 (Int.tdiv xb 64))).bind fun x177 => (some (qa1.set (IntKind.wrap .i64 (Int.tdiv xb 64)).toNat (IntKind.wrap .u64 ((BitVec.ofInt (IntKind.bits .u64) x168 ||| BitVec.ofInt (IntKind.bits .u64) (IntKind.wrap .u64 (1 * 2 ^ (min (Int.toNat (Int.tmod xb 64)) (IntKind.bits .u64))))).toNat : Int)))).bind fun z184 => some ((true, z184)))
noncomputable def h_dense_Set_Add_p0i_ir : Hn Try.prog := .cl ok_dense_Set_mayHave [2, 0] (.gj 3 ⟨[(13, .dat .bool)], []⟩ [] (.two 9 (.nil) (.cl ok_dense_Set_Has [2, 0] (.nil))) (.tw 13 (.nil) (.mix [] [0, 1, 2, 3, 4, 5, 6, 7, 8, 9, 10, 11, 12] [13] [] (.nil))))
noncomputable def sp_dense_Set_Add_p0i_ir : Spec := ⟨14, ⟨[(0, .ptr 0 0), (1, .dat (.int .i64))], [⟨none, 44, [.is 1 (.dat (.int .i64)), .own 41 (.int .u64)], false, false, none, false⟩, ⟨none, 0, [], false, true, none, false⟩]⟩, [⟨[(0, .dat .bool)], [⟨(some 0), 44, [.is 1 (.any), .own 41 (.int .u64)], false, false, none, false⟩, ⟨(some 1), 0, [], false, true, none, false⟩]⟩], fun x => fn_dense_Set_Add_p0i_ir x.1 x.2.1 x.2.2⟩
theorem dense_Set_Add_p0i_ir_is : SpecOk Try.prog sp_dense_Set_Add_p0i_ir := fn_is Try.func14 h_dense_Set_Add_p0i_ir (by kernel_rfl) (by kernel_rfl)
noncomputable def ok_dense_Set_Add_p0i_ir : OkSpec Try.prog := ⟨sp_dense_Set_Add_p0i_ir, dense_Set_Add_p0i_ir_is, Try.call14⟩

noncomputable def fn_cmp_isNaN_int (xa : Int) : Option Bool :=
  some (!decide (xa = xa))
noncomputable def h_cmp_isNaN_int : Hn Try.prog := .nil
noncomputable def sp_cmp_isNaN_int : Spec := ⟨56, ⟨[(0, .dat (.int .i64))], []⟩, [⟨[(0, .dat .bool)], []⟩], fun x => fn_cmp_isNaN_int x⟩
theorem cmp_isNaN_int_is : SpecOk Try.prog sp_cmp_isNaN_int := fn_is Try.func56 h_cmp_isNaN_int (by kernel_rfl) (by kernel_rfl)
noncomputable def ok_cmp_isNaN_int : OkSpec Try.prog := ⟨sp_cmp_isNaN_int, cmp_isNaN_int_is, Try.call56⟩

noncomputable def fn_cmp_Less_int (xa : Int) (xb : Int) : Option Bool :=
  (fn_cmp_isNaN_int xa).bind fun t27 => (cond (t27) ((fn_cmp_isNaN_int xb).bind fun t42 => some (!t42)) (some (false))).bind fun t38 => some (t38 || (decide (xa < xb)))
noncomputable def h_cmp_Less_int : Hn Try.prog := .cl ok_cmp_isNaN_int [] (.gj 3 ⟨[(11, .dat .bool)], []⟩ [] (.two 7 (.cl ok_cmp_isNaN_int [] (.nil)) (.nil)) (.wt 12 (.gp 3 (.nil))))
noncomputable def sp_cmp_Less_int : Spec := ⟨44, ⟨[(0, .dat (.int .i64)), (1, .dat (.int .i64))], []⟩, [⟨[(0, .dat .bool)], []⟩], fun x => fn_cmp_Less_int x.1 x.2⟩
theorem cmp_Less_int_is : SpecOk Try.prog sp_cmp_Less_int := fn_is Try.func44 h_cmp_Less_int (by kernel_rfl) (by kernel_rfl)
noncomputable def ok_cmp_Less_int : OkSpec Try.prog := ⟨sp_cmp_Less_int, cmp_Less_int_is, Try.call44⟩

noncomputable def fn_slices_isNaN_int (xa : Int) : Option Bool :=
  some (!decide (xa = xa))
noncomputable def h_slices_isNaN_int : Hn Try.prog := .nil
noncomputable def sp_slices_isNaN_int : Spec := ⟨50, ⟨[(0, .dat (.int .i64))], []⟩, [⟨[(0, .dat .bool)], []⟩], fun x => fn_slices_isNaN_int x⟩
theorem slices_isNaN_int_is : SpecOk Try.prog sp_slices_isNaN_int := fn_is Try.func50 h_slices_isNaN_int (by kernel_rfl) (by kernel_rfl)
noncomputable def ok_slices_isNaN_int : OkSpec Try.prog := ⟨sp_slices_isNaN_int, slices_isNaN_int_is, Try.call50⟩
noncomputable def fn_slices_BinarySearch_int_int_l1 (xa : (List Int)) (xb : Int) : (Int × Int) → Option ((Int × Int) ⊕ Int) := fun ((i345, i346) : (Int × Int)) => cond (decide (i345 < i346)) ((getI xa (IntKind.wrap .i64 (Int.fdiv (IntKind.wrap .u64 (IntKind.wrap .i64 (i345 + i346))) (2 ^ (min (Int.toNat 1) (IntKind.bits .u64)))))).bind fun x368 => (fn_cmp_Less_int x368 xb).bind fun t379 => cond (t379) (some (.inl ((IntKind.wrap .i64 ((IntKind.wrap .i64 (Int.fdiv (IntKind.wrap .u64 (IntKind.wrap .i64 (i345 + i346))) (2 ^ (min (Int.toNat 1) (IntKind.bits .u64))))) + 1), i346)))) (some (.inl ((i345, IntKind.wrap .i64 (Int.fdiv (IntKind.wrap .u64 (IntKind.wrap .i64 (i345 + i346))) (2 ^ (min (Int.toNat 1) (IntKind.bits .u64))))))))) (some (.inr (i345)))
noncomputable def fn_slices_BinarySearch_int_int (xa : (List Int)) (xb : Int) : Option (Int × Bool) :=
  (loop (fn_slices_BinarySearch_int_int_l1 xa xb) ((0, ((xa.length : Nat) : Int))) : Option Int).bind fun i325 => (cond (decide (i325 < (((xa.length : Nat) : Int)))) ((getI xa i325).bind fun x459 => (cond (decide (x459 = xb)) (some (true)) ((getI xa i325).bind fun x501 => (fn_slices_isNaN_int x501).bind fun t512 => (cond (t512) ((fn_slices_isNaN_int xb).bind fun t527 => some (t527)) (some (false))).bind fun t523 => some (t523))).bind fun t499 => some (t499)) (some (false))).bind fun t457 => some ((i325, t457))
noncomputable def h_slices_BinarySearch_int_int : Hn Try.prog := .jn [] ⟨[(7, .dat (.int .i64))], []⟩ [] (.lp ⟨[(7, .dat (.int .i64)), (8, .dat (.int .i64))], []⟩ (.tw 15 (.cl ok_cmp_Less_int [] (.tw 27 (.nil) (.nil))) (.nil))) (.gj 17 ⟨[(53, .dat .bool)], []⟩ [] (.two 35 (.wt 42 (.gj 9 ⟨[(52, .dat .bool)], []⟩ [] (.two 42 (.nil) (.cl ok_slices_isNaN_int [] (.wt 48 (.gj 2 ⟨[(51, .dat .bool)], []⟩ [] (.two 48 (.cl ok_slices_isNaN_int [] (.nil)) (.nil)) (.nil))))) (.nil))) (.nil)) (.nil))
noncomputable def sp_slices_BinarySearch_int_int : Spec := ⟨36, ⟨[(0, .dat (.sl (.int .i64))), (1, .dat (.int .i64))], []⟩, [⟨[(0, .tup [.dat (.int .i64), .dat .bool])], []⟩], fun x => fn_slices_BinarySearch_int_int x.1 x.2⟩
theorem slices_BinarySearch_int_int_is : SpecOk Try.prog sp_slices_BinarySearch_int_int := fn_is Try.func36 h_slices_BinarySearch_int_int (by kernel_rfl) (by kernel_rfl)
noncomputable def ok_slices_BinarySearch_int_int : OkSpec Try.prog := ⟨sp_slices_BinarySearch_int_int, slices_BinarySearch_int_int_is, Try.call36⟩

noncomputable def fn_sparse_Set_Rank (xa : (Option (List Int))) (xb : Int) : Option Int :=
  cond (xa.isNone) (some (0)) ((xa : Option (List Int)).bind fun y21 => (fn_slices_BinarySearch_int_int y21 xb).bind fun (i33, t34) => some (i33))
noncomputable def h_sparse_Set_Rank : Hn Try.prog := .tw 8 (.nil) (.cl ok_slices_BinarySearch_int_int [] (.nil))
noncomputable def sp_sparse_Set_Rank : Spec := ⟨26, ⟨[(0, .dat (.ptr (.one (.sl (.int .i64))))), (1, .dat (.int .i64))], []⟩, [⟨[(0, .dat (.int .i64))], []⟩], fun x => fn_sparse_Set_Rank x.1 x.2⟩
theorem sparse_Set_Rank_is : SpecOk Try.prog sp_sparse_Set_Rank := fn_is Try.func26 h_sparse_Set_Rank (by kernel_rfl) (by kernel_rfl)
noncomputable def ok_sparse_Set_Rank : OkSpec Try.prog := ⟨sp_sparse_Set_Rank, sparse_Set_Rank_is, Try.call26⟩

noncomputable def fn_sparse_Set_At (xa : (Option (List Int))) (xb : Int) : Option (Int × Bool) :=
  (cond (decide (xb < 0)) (some (true)) ((fn_sparse_Set_Len xa).bind fun i49 => some (decide (i49 ≤ xb)))).bind fun t45 => cond (t45) (some ((0, false))) ((xa : Option (List Int)).bind fun y54 => (getI y54 xb).bind fun x64 => some ((x64, true)))
noncomputable def h_sparse_Set_At : Hn Try.prog := .gj 4 ⟨[(13, .dat .bool)], []⟩ [] (.two 8 (.nil) (.cl ok_sparse_Set_Len [] (.nil))) (.tw 13 (.nil) (.nil))
noncomputable def sp_sparse_Set_At : Spec := ⟨29, ⟨[(0, .dat (.ptr (.one (.sl (.int .i64))))), (1, .dat (.int .i64))], []⟩, [⟨[(0, .tup [.dat (.int .i64), .dat .bool])], []⟩], fun x => fn_sparse_Set_At x.1 x.2⟩
theorem sparse_Set_At_is : SpecOk Try.prog sp_sparse_Set_At := fn_is Try.func29 h_sparse_Set_At (by kernel_rfl) (by kernel_rfl)
noncomputable def ok_sparse_Set_At : OkSpec Try.prog := ⟨sp_sparse_Set_At, sparse_Set_At_is, Try.call29⟩

noncomputable def fn_sparse_Set_Has (xa : (Option (List Int))) (xb : Int) : Option Bool :=
  (fn_sparse_Set_Rank xa xb).bind fun i19 => (fn_sparse_Set_At xa i19).bind fun (i25, t26) => some (t26 && (decide (i25 = xb)))
noncomputable def h_sparse_Set_Has : Hn Try.prog := .cl ok_sparse_Set_Rank [] (.cl ok_sparse_Set_At [] (.gp 3 (.nil)))
noncomputable def sp_sparse_Set_Has : Spec := ⟨19, ⟨[(0, .dat (.ptr (.one (.sl (.int .i64))))), (1, .dat (.int .i64))], []⟩, [⟨[(0, .dat .bool)], []⟩], fun x => fn_sparse_Set_Has x.1 x.2⟩
theorem sparse_Set_Has_is : SpecOk Try.prog sp_sparse_Set_Has := fn_is Try.func19 h_sparse_Set_Has (by kernel_rfl) (by kernel_rfl)
noncomputable def ok_sparse_Set_Has : OkSpec Try.prog := ⟨sp_sparse_Set_Has, sparse_Set_Has_is, Try.call19⟩

noncomputable def fn_sparse_Set_Add_p0i_r (xb : Int) (qa0 : (List Int)) : Option ((Bool × (List Int))) :=
  (fn_sparse_mayBe xb).bind fun t380 => (cond (!t380) (some (true)) ((fn_sparse_Set_Has (some qa0) xb).bind fun t395 => some (t395))).bind fun t391 => cond (t391) (some ((false, qa0))) (((((fn_sparse_Set_Rank (some qa0) xb).bind fun i644 => (insF qa0 i644 ([xb] : List Int)).bind fun l651 => some (l651)).bind fun x668 => ((fn_sparse_Set_Rank (some qa0) xb).bind fun i660 => (insF qa0 i660 ([xb] : List Int)).bind fun l664 => some (l664)).bind fun y669 => agr x668 y669 (some x668)).bind fun x719 => (((fn_sparse_Set_Rank (some qa0) xb).bind fun i672 => ((insF qa0 i672 ([xb] : List Int)).bind fun l679 => some (l679)).bind fun x690 => ((insF qa0 i672 ([xb] : List Int)).bind fun l686 => some (l686)).bind fun y691 => agr x690 y691 (some x690)).bind fun x717 => (((fn_sparse_Set_Rank (some qa0) xb).bind fun i697 => (insF qa0 i697 ([xb] : List Int)).bind fun l701 => some (l701)).bind fun x715 => ((fn_sparse_Set_Rank (some qa0) xb).bind fun i707 => (insF qa0 i707 ([xb] : List Int)).bind fun l711 => some (l711)).bind fun y716 => agr x715 y716 (some x715)).bind fun y718 => agr x717 y718 (some x717)).bind fun y720 => agr x719 y720 (some x719) : Option (List Int)).bind fun l558 => some ((true, l558)))
noncomputable def h_sparse_Set_Add_p0i_r : Hn Try.prog := .cl ok_sparse_mayBe [] (.wt 12 (.gj 3 ⟨[(16, .dat .bool)], []⟩ [] (.two 12 (.nil) (.cl ok_sparse_Set_Has [1, 0] (.nil))) (.tw 16 (.nil) (.tr (.still [0, 1, 2, 3, 5, 6, 8] (.alt 4 (.alt 7 (.alt 9 (.alt 10 (.still [11, 12] (.alt 13 (.leaf []) .done)) .done) .done) (.alt 9 (.alt 7 (.alt 10 (.still [11, 12] (.alt 13 (.leaf []) .done)) .done) .done) .done)) (.alt 7 (.alt 4 (.alt 9 (.alt 10 (.still [11, 12] (.alt 13 (.leaf []) .done)) .done) .done) (.alt 9 (.alt 4 (.alt 10 (.still [11, 12] (.alt 13 (.leaf []) .done)) .done) .done) .done)) (.alt 9 (.alt 4 (.alt 7 (.alt 10 (.still [11, 12] (.alt 13 (.leaf []) .done)) .done) .done) (.alt 7 (.alt 4 (.alt 10 (.still [11, 12] (.alt 13 (.leaf []) .done)) .done) .done) .done)) .done)))) ⟨[], [⟨(some 0), 38, [.own 3 (.int .i64)], false, false, none, false⟩]⟩ [1, 0] (.two 0 (.two 0 (.cl ok_sparse_Set_Rank [1, 0] (.cl ok_Insert [] (.nil))) (.cl ok_sparse_Set_Rank [1, 0] (.cl ok_Insert [] (.nil)))) (.two 0 (.cl ok_sparse_Set_Rank [1, 0] (.two 0 (.cl ok_Insert [] (.nil)) (.cl ok_Insert [] (.nil)))) (.two 0 (.cl ok_sparse_Set_Rank [1, 0] (.cl ok_Insert [] (.nil))) (.cl ok_sparse_Set_Rank [1, 0] (.cl ok_Insert [] (.nil)))))) (.nil)))))
noncomputable def sp_sparse_Set_Add_p0i_r : Spec := ⟨15, ⟨[(0, .ptr 0 0), (1, .dat (.int .i64))], [⟨none, 38, [.own 3 (.int .i64)], false, false, none, false⟩]⟩, [⟨[(0, .dat .bool)], [⟨(some 0), 38, [.own 3 (.int .i64)], false, false, none, false⟩]⟩], fun x => fn_sparse_Set_Add_p0i_r x.1 x.2⟩
theorem sparse_Set_Add_p0i_r_is : SpecOk Try.prog sp_sparse_Set_Add_p0i_r := fn_is Try.func15 h_sparse_Set_Add_p0i_r (by kernel_rfl) (by kernel_rfl)
noncomputable def ok_sparse_Set_Add_p0i_r : OkSpec Try.prog := ⟨sp_sparse_Set_Add_p0i_r, sparse_Set_Add_p0i_r_is, Try.call15⟩

noncomputable def fn_dense_New (xa : Int) : Option ((Int ⊕ (Int × (List Int)))) :=
  cond (decide (xa < 0)) (some (.inl 2)) (cond (decide (1048576 < xa)) (some (.inl 5)) ((mk (IntKind.wrap .i64 (Int.tdiv (IntKind.wrap .i64 ((IntKind.wrap .i64 (xa + 64)) - 1)) 64)) (IntKind.wrap .i64 (Int.tdiv (IntKind.wrap .i64 ((IntKind.wrap .i64 (xa + 64)) - 1)) 64)) 0 : Option (List Int)).bind fun z19 => some (.inr (0, z19))))
noncomputable def h_dense_New : Hn Try.prog := .tw 5 (.nil) (.tw 7 (.nil) (.pl (.pl (.nil))))
noncomputable def sp_dense_New : Spec := ⟨27, ⟨[(0, .is 0 (.dat (.int .i64)))], [⟨none, 0, [], false, true, none, false⟩]⟩, [⟨[(0, .tup [.nilp, .dat (.int .i64)])], []⟩, ⟨[(0, .tup [.ptr 0 0, .dat (.int .i64)])], [⟨none, 44, [.is 1 (.any), .own 41 (.int .u64)], false, false, none, false⟩, ⟨(some 0), 0, [], false, true, none, false⟩]⟩], fun x => fn_dense_New x⟩
theorem dense_New_is : SpecOk Try.prog sp_dense_New := fn_is Try.func27 h_dense_New (by kernel_rfl) (by kernel_rfl)
noncomputable def ok_dense_New : OkSpec Try.prog := ⟨sp_dense_New, dense_New_is, Try.call27⟩

noncomputable def fn_sparse_Set_All_p0_r (qa0 : (List Int)) : Option (List Int) :=
  some (qa0)
noncomputable def h_sparse_Set_All_p0_r : Hn Try.prog := .nil
noncomputable def sp_sparse_Set_All_p0_r : Spec := ⟨28, ⟨[(0, .ptr 0 0)], [⟨none, 38, [.own 3 (.int .i64)], false, false, none, false⟩]⟩, [⟨[(0, .fn 37 [.ptr 1 0])], [⟨(some 0), 38, [.own 3 (.int .i64)], false, false, none, false⟩, ⟨none, 32, [.ptr 0 0], false, false, none, false⟩]⟩], fun x => fn_sparse_Set_All_p0_r x⟩
theorem sparse_Set_All_p0_r_is : SpecOk Try.prog sp_sparse_Set_All_p0_r := fn_is Try.func28 h_sparse_Set_All_p0_r (by kernel_rfl) (by kernel_rfl)
noncomputable def ok_sparse_Set_All_p0_r : OkSpec Try.prog := ⟨sp_sparse_Set_All_p0_r, sparse_Set_All_p0_r_is, Try.call28⟩

noncomputable def fn_dense_Set_Add_zi (xb : Int) : Option Bool :=
  (fn_dense_Set_mayHave ((none : (Option (Int × (List Int))))) xb).bind fun t26 => (cond (!t26) (some (true)) ((fn_dense_Set_Has ((none : (Option (Int × (List Int))))) xb).bind fun t41 => some (t41))).bind fun t37 => cond (t37) (some (false)) (none)
noncomputable def h_dense_Set_Add_zi : Hn Try.prog := .cl ok_dense_Set_mayHave [] (.gj 3 ⟨[(13, .dat .bool)], []⟩ [] (.two 9 (.nil) (.cl ok_dense_Set_Has [] (.nil))) (.tw 13 (.nil) (.mix [] [0, 1, 2, 3, 4, 5, 6, 7, 8, 9, 10, 11, 12] [13] [] (.nil))))
noncomputable def sp_dense_Set_Add_zi : Spec := ⟨14, ⟨[(0, .nilp), (1, .dat (.int .i64))], []⟩, [⟨[(0, .dat .bool)], []⟩], fun x => fn_dense_Set_Add_zi x⟩
theorem dense_Set_Add_zi_is : SpecOk Try.prog sp_dense_Set_Add_zi := fn_is Try.func14 h_dense_Set_Add_zi (by kernel_rfl) (by kernel_rfl)
noncomputable def ok_dense_Set_Add_zi : OkSpec Try.prog := ⟨sp_dense_Set_Add_zi, dense_Set_Add_zi_is, Try.call14⟩
noncomputable def fn_mixed_Set_thicken_p0_iodod_l1 (l1134 : (List Int)) : (Int × Bool) → Option ((Int × Bool) ⊕ Unit) := fun ((i1404, t1405) : (Int × Bool)) => cond (t1405) ((fn_dense_Set_Add_zi i1404).bind fun t1471 => (fn_sparse_Set_Rank (some l1134) (IntKind.wrap .i64 (i1404 + 1))).bind fun i1516 => (fn_sparse_Set_At (some l1134) i1516).bind fun (i1522, t1523) => some (.inl (i1522, t1523))) (some (.inr ((()))))
noncomputable def fn_mixed_Set_thicken_p0_iodod_l2 (qa0 : Int) (l1561 : (List Int)) : (Int × Bool × (List Int)) → Option ((Int × Bool × (List Int)) ⊕ (List Int)) := fun ((i1880, t1881, l1882) : (Int × Bool × (List Int))) => cond (t1881) ((fn_dense_Set_Add_p0i_ir i1880 qa0 l1882).bind fun (t1963, l1964) => (fn_sparse_Set_Rank (some l1561) (IntKind.wrap .i64 (i1880 + 1))).bind fun i2014 => (fn_sparse_Set_At (some l1561) i2014).bind fun (i2020, t2021) => some (.inl (i2020, t2021, l1964))) (some (.inr (l1882)))
noncomputable def fn_mixed_Set_thicken_p0_iodod (qa0 : Int) (qa1 : (Option (List Int))) (qa2 : (Option (Int × (List Int)))) : Option ((Option (Int × (List Int)))) :=
  (fn_dense_New qa0).bind fun o => match o with | .inl i1106 => (qa1).bind fun y1127 => (fn_sparse_Set_All_p0_r y1127).bind fun l1134 => (fn_sparse_Set_At (some l1134) 0).bind fun (i1154, t1155) => (loop (fn_mixed_Set_thicken_p0_iodod_l1 l1134) (i1154, t1155) : Option Unit).bind fun () => some (none) | .inr (i1527, l1528) => (qa1).bind fun y1554 => (fn_sparse_Set_All_p0_r y1554).bind fun l1561 => (fn_sparse_Set_At (some l1561) 0).bind fun (i1581, t1582) => (loop (fn_mixed_Set_thicken_p0_iodod_l2 qa0 l1561) (i1581, t1582, l1528) : Option (List Int)).bind fun l1803 => some (some (qa0, l1803))
noncomputable def h_mixed_Set_thicken_p0_iodod : Hn Try.prog := .mix [([0, 1, 2, 3], 4), ([], 5), ([6, 7, 8, 9, 10], 11)] [] [] [0] (.c2 ok_dense_New [] (.opb 2 3 (.cl ok_sparse_Set_All_p0_r [] (.rg ⟨37, _, Try.func37, Try.call37⟩ (.cl ok_sparse_Set_At [17, 2] (.jn [] ⟨[], [⟨(some 21), 0, [], false, false, none, true⟩]⟩ [21, 4] (.lp ⟨[(3, .dat (.int .i64)), (4, .dat .bool)], [⟨(some 21), 0, [], false, false, none, true⟩]⟩ (.tw 10 (.yl 2 (.cl ok_dense_Set_Add_zi [] (.mix [([0, 1, 2, 3], 4), ([], 5)] [6, 7, 8, 9, 10] [] [] (.cl ok_sparse_Set_Rank [17, 2] (.cl ok_sparse_Set_At [17, 2] (.nil)))))) (.nil))) (.nil)))))) (.opb 2 3 (.cl ok_sparse_Set_All_p0_r [] (.rg ⟨37, _, Try.func37, Try.call37⟩ (.cl ok_sparse_Set_At [21, 2] (.jn [] ⟨[], [⟨(some 25), 0, [], false, false, none, true⟩, ⟨(some 9), 44, [.is 2 (.any), .own 41 (.int .u64)], false, false, none, false⟩, ⟨(some 1), 0, [], false, true, none, false⟩]⟩ [25, 10, 9, 4] (.lp ⟨[(3, .dat (.int .i64)), (4, .dat .bool)], [⟨(some 25), 0, [], false, false, none, true⟩, ⟨(some 9), 44, [.is 2 (.any), .own 41 (.int .u64)], false, false, none, false⟩, ⟨(some 1), 0, [], false, true, none, false⟩]⟩ (.tw 10 (.yl 2 (.cl ok_dense_Set_Add_p0i_ir [] (.mix [([0, 1, 2, 3], 4), ([], 5)] [6, 7, 8, 9, 10] [] [] (.cl ok_sparse_Set_Rank [21, 2] (.cl ok_sparse_Set_At [21, 2] (.nil)))))) (.nil))) (.nil)))))))
noncomputable def sp_mixed_Set_thicken_p0_iodod : Spec := ⟨17, ⟨[(0, .ptr 0 0)], [⟨none, 36, [.is 1 (.dat (.int .i64)), .od (.box 38 (.one (.row 3 (.dat (.int .i64))))), .od (.box 44 (.cons (.dat (.int .i64)) (.one (.row 41 (.dat (.int .u64))))))], false, false, none, false⟩, ⟨none, 0, [], false, true, none, false⟩]⟩, [⟨[], [⟨(some 0), 36, [.is 1 (.any), .nilp, .od (.box 44 (.cons (.dat (.int .i64)) (.one (.row 41 (.dat (.int .u64))))))], false, false, none, false⟩, ⟨(some 1), 0, [], false, true, none, false⟩]⟩], fun x => fn_mixed_Set_thicken_p0_iodod x.1 x.2.1 x.2.2⟩
theorem mixed_Set_thicken_p0_iodod_is : SpecOk Try.prog sp_mixed_Set_thicken_p0_iodod := fn_is Try.func17 h_mixed_Set_thicken_p0_iodod (by kernel_rfl) (by kernel_rfl)
noncomputable def ok_mixed_Set_thicken_p0_iodod : OkSpec Try.prog := ⟨sp_mixed_Set_thicken_p0_iodod, mixed_Set_thicken_p0_iodod_is, Try.call17⟩

noncomputable def fn_mixed_Set_Add_p0i_iodod (xb : Int) (qa0 : Int) (qa1 : (Option (List Int))) (qa2 : (Option (Int × (List Int)))) : Option ((Bool × (Option (List Int)) × (Option (Int × (List Int))))) :=
  (cond (decide (xb < 0)) (some (true)) ((fn_mixed_Set_Size (some (qa0, qa1, qa2))).bind fun i173 => some (decide (i173 ≤ xb)))).bind fun t169 => cond (t169) (some ((false, qa1, qa2))) ((fn_mixed_Set_Dense (some (qa0, qa1, qa2))).bind fun t186 => cond (t186) ((qa2).bind fun y208 => (fn_dense_Set_Add_p0i_ir xb y208.1 y208.2).bind fun (t215, l216) => some ((t215, qa1, some (y208.1, l216)))) ((qa1).bind fun y242 => (fn_sparse_Set_Add_p0i_r xb y242).bind fun (t249, l250) => (fn_sparse_Set_Len (some l250)).bind fun i267 => cond (decide (8 < i267)) ((fn_mixed_Set_thicken_p0_iodod qa0 (some l250) qa2).bind fun l283 => some ((t249, none, l283))) (some ((t249, some l250, qa2)))))
noncomputable def h_mixed_Set_Add_p0i_iodod : Hn Try.prog := .gj 4 ⟨[(13, .dat .bool)], []⟩ [] (.two 8 (.nil) (.cl ok_mixed_Set_Size [2, 4, 0] (.nil))) (.tw 13 (.nil) (.cl ok_mixed_Set_Dense [2, 4, 0] (.tw 15 (.opb 4 5 (.wt 20 (.mc 4 0 7 (.cl ok_dense_Set_Add_p0i_ir [] (.nil))))) (.opb 2 3 (.cl ok_sparse_Set_Add_p0i_r [] (.cl ok_sparse_Set_Len [13, 2] (.tw 33 (.cl ok_mixed_Set_thicken_p0_iodod [] (.nil)) (.nil))))))))
noncomputable def sp_mixed_Set_Add_p0i_iodod : Spec := ⟨6, ⟨[(0, .ptr 0 0), (1, .dat (.int .i64))], [⟨none, 36, [.is 1 (.dat (.int .i64)), .od (.box 38 (.one (.row 3 (.dat (.int .i64))))), .od (.box 44 (.cons (.dat (.int .i64)) (.one (.row 41 (.dat (.int .u64))))))], false, false, none, false⟩, ⟨none, 0, [], false, true, none, false⟩]⟩, [⟨[(0, .dat .bool)], [⟨(some 0), 36, [.is 1 (.any), .od (.box 38 (.one (.row 3 (.dat (.int .i64))))), .od (.box 44 (.cons (.dat (.int .i64)) (.one (.row 41 (.dat (.int .u64))))))], false, false, none, false⟩, ⟨(some 1), 0, [], false, true, none, false⟩]⟩], fun x => fn_mixed_Set_Add_p0i_iodod x.1 x.2.1 x.2.2.1 x.2.2.2⟩
theorem mixed_Set_Add_p0i_iodod_is : SpecOk Try.prog sp_mixed_Set_Add_p0i_iodod := fn_is Try.func6 h_mixed_Set_Add_p0i_iodod (by kernel_rfl) (by kernel_rfl)
noncomputable def ok_mixed_Set_Add_p0i_iodod : OkSpec Try.prog := ⟨sp_mixed_Set_Add_p0i_iodod, mixed_Set_Add_p0i_iodod_is, Try.call6⟩
noncomputable def fn_mixed_Set_Fill_p0ii_iodod_l1 (xc : Int) (qa0 : Int) : (Int × (Option (List Int)) × (Option (Int × (List Int)))) → Option ((Int × (Option (List Int)) × (Option (Int × (List Int)))) ⊕ ((Option (List Int)) × (Option (Int × (List Int))))) := fun ((i396, l397, l399) : (Int × (Option (List Int)) × (Option (Int × (List Int))))) => (fn_mixed_Set_Size (some (qa0, l397, l399))).bind fun i448 => cond (decide (i396 < (if i448 < xc then i448 else xc))) ((fn_mixed_Set_Add_p0i_iodod i396 qa0 l397 l399).bind fun (t465, l466, l467) => some (.inl ((IntKind.wrap .i64 (i396 + 1), l466, l467)))) (some (.inr (((l397, l399)))))
noncomputable def fn_mixed_Set_Fill_p0ii_iodod (xb : Int) (xc : Int) (qa0 : Int) (qa1 : (Option (List Int))) (qa2 : (Option (Int × (List Int)))) : Option (((Option (List Int)) × (Option (Int × (List Int))))) :=
  (loop (fn_mixed_Set_Fill_p0ii_iodod_l1 xc qa0) (if xb < 0 then 0 else xb, qa1, qa2) : Option (((Option (List Int)) × (Option (Int × (List Int)))))).bind fun (l354, l356) => some ((l354, l356))
noncomputable def h_mixed_Set_Fill_p0ii_iodod : Hn Try.prog := .jn [] ⟨[], [⟨(some 0), 36, [.is 1 (.any), .od (.box 38 (.one (.row 3 (.dat (.int .i64))))), .od (.box 44 (.cons (.dat (.int .i64)) (.one (.row 41 (.dat (.int .u64))))))], false, false, none, false⟩, ⟨(some 1), 0, [], false, true, none, false⟩]⟩ [0, 2, 4] (.lp ⟨[(6, .dat (.int .i64))], [⟨(some 0), 36, [.is 1 (.any), .od (.box 38 (.one (.row 3 (.dat (.int .i64))))), .od (.box 44 (.cons (.dat (.int .i64)) (.one (.row 41 (.dat (.int .u64))))))], false, false, none, false⟩, ⟨(some 1), 0, [], false, true, none, false⟩]⟩ (.cl ok_mixed_Set_Size [7, 9, 0] (.tw 14 (.cl ok_mixed_Set_Add_p0i_iodod [] (.nil)) (.nil)))) (.nil)
noncomputable def sp_mixed_Set_Fill_p0ii_iodod : Spec := ⟨9, ⟨[(0, .ptr 0 0), (1, .dat (.int .i64)), (2, .dat (.int .i64))], [⟨none, 36, [.is 1 (.dat (.int .i64)), .od (.box 38 (.one (.row 3 (.dat (.int .i64))))), .od (.box 44 (.cons (.dat (.int .i64)) (.one (.row 41 (.dat (.int .u64))))))], false, false, none, false⟩, ⟨none, 0, [], false, true, none, false⟩]⟩, [⟨[], [⟨(some 0), 36, [.is 1 (.any), .od (.box 38 (.one (.row 3 (.dat (.int .i64))))), .od (.box 44 (.cons (.dat (.int .i64)) (.one (.row 41 (.dat (.int .u64))))))], false, false, none, false⟩, ⟨(some 1), 0, [], false, true, none, false⟩]⟩], fun x => fn_mixed_Set_Fill_p0ii_iodod x.1 x.2.1 x.2.2.1 x.2.2.2.1 x.2.2.2.2⟩
theorem mixed_Set_Fill_p0ii_iodod_is : SpecOk Try.prog sp_mixed_Set_Fill_p0ii_iodod := fn_is Try.func9 h_mixed_Set_Fill_p0ii_iodod (by kernel_rfl) (by kernel_rfl)
noncomputable def ok_mixed_Set_Fill_p0ii_iodod : OkSpec Try.prog := ⟨sp_mixed_Set_Fill_p0ii_iodod, mixed_Set_Fill_p0ii_iodod_is, Try.call9⟩

noncomputable def fn_law05_awake  : Option Bool :=
  (fn_mixed_New_c100).bind fun o => match o with | .inl i231 => (fn_mixed_Set_Fill_zii 0 8).bind fun _ => (fn_mixed_Set_Dense ((none : (Option (Int × (Option (List Int)) × (Option (Int × (List Int)))))))).bind fun t242 => (fn_mixed_Set_Add_zi 8).bind fun t248 => (cond (((decide (i231 = 0)) && (!t242)) && t248) ((fn_mixed_Set_Dense ((none : (Option (Int × (Option (List Int)) × (Option (Int × (List Int)))))))).bind fun t267 => some (t267)) (some (false))).bind fun t263 => (cond (t263) ((fn_mixed_Set_Words ((none : (Option (Int × (Option (List Int)) × (Option (Int × (List Int)))))))).bind fun i282 => some (decide (i282 = 2))) (some (false))).bind fun t278 => (cond (t278) ((fn_mixed_Set_Len ((none : (Option (Int × (Option (List Int)) × (Option (Int × (List Int)))))))).bind fun i297 => some (decide (i297 = 9))) (some (false))).bind fun t293 => some (t293) | .inr (i301, l302) => (fn_mixed_Set_Fill_p0ii_iodod 0 8 100 l302 none).bind fun (l319, l320) => (fn_mixed_Set_Dense (some (100, l319, l320))).bind fun t334 => (fn_mixed_Set_Add_p0i_iodod 8 100 l319 l320).bind fun (t350, l351, l352) => (cond (((decide (i301 = 0)) && (!t334)) && t350) ((fn_mixed_Set_Dense (some (100, l351, l352))).bind fun t422 => some (t422)) (some (false))).bind fun t418 => (cond (t418) ((fn_mixed_Set_Words (some (100, l351, l352))).bind fun i437 => some (decide (i437 = 2))) (some (false))).bind fun t433 => (cond (t433) ((fn_mixed_Set_Len (some (100, l351, l352))).bind fun i452 => some (decide (i452 = 9))) (some (false))).bind fun t448 => some (t448)
noncomputable def h_law05_awake : Hn Try.prog := .c2 ok_mixed_New_c100 [] (.cl ok_mixed_Set_Fill_zii [] (.cl ok_mixed_Set_Dense [] (.cl ok_mixed_Set_Add_zi [] (.gp 2 (.wt 21 (.gp 1 (.wt 24 (.gj 2 ⟨[(27, .dat .bool)], []⟩ [] (.two 24 (.cl ok_mixed_Set_Dense [] (.nil)) (.nil)) (.wt 28 (.gj 3 ⟨[(32, .dat .bool)], []⟩ [] (.two 28 (.cl ok_mixed_Set_Words [] (.nil)) (.nil)) (.wt 33 (.gj 3 ⟨[(37, .dat .bool)], []⟩ [] (.two 33 (.cl ok_mixed_Set_Len [] (.nil)) (.nil)) (.nil))))))))))))) (.mc 0 0 3 (.cl ok_mixed_Set_Fill_p0ii_iodod [] (.cl ok_mixed_Set_Dense [10, 12, 0] (.cl ok_mixed_Set_Add_p0i_iodod [] (.gp 2 (.wt 21 (.gp 1 (.wt 24 (.gj 2 ⟨[(27, .dat .bool)], []⟩ [] (.two 24 (.cl ok_mixed_Set_Dense [20, 22, 0] (.nil)) (.nil)) (.wt 28 (.gj 3 ⟨[(32, .dat .bool)], []⟩ [] (.two 28 (.cl ok_mixed_Set_Words [20, 22, 0] (.nil)) (.nil)) (.wt 33 (.gj 3 ⟨[(37, .dat .bool)], []⟩ [] (.two 33 (.cl ok_mixed_Set_Len [20, 22, 0] (.nil)) (.nil)) (.nil))))))))))))))
noncomputable def sp_law05_awake : Spec := ⟨4, ⟨[], []⟩, [⟨[(0, .dat .bool)], []⟩], fun x => fn_law05_awake⟩
theorem law05_awake_is : SpecOk Try.prog sp_law05_awake := fn_is Try.func4 h_law05_awake (by kernel_rfl) (by kernel_rfl)
noncomputable def ok_law05_awake : OkSpec Try.prog := ⟨sp_law05_awake, law05_awake_is, Try.call4⟩

noncomputable def fn_mixed_Set_Has (xa : (Option (Int × (Option (List Int)) × (Option (Int × (List Int)))))) (xb : Int) : Option Bool :=
  (fn_mixed_Set_Dense xa).bind fun t60 => cond (t60) ((xa : Option (Int × (Option (List Int)) × (Option (Int × (List Int))))).bind fun y65 => (fn_dense_Set_Has y65.2.2 xb).bind fun t76 => some (t76)) ((cond (!xa.isNone) ((xa : Option (Int × (Option (List Int)) × (Option (Int × (List Int))))).bind fun y98 => (fn_sparse_Set_Has y98.2.1 xb).bind fun t109 => some (t109)) (some (false))).bind fun t96 => some (t96))
noncomputable def h_mixed_Set_Has : Hn Try.prog := .cl ok_mixed_Set_Dense [] (.tw 6 (.cl ok_dense_Set_Has [] (.nil)) (.gj 6 ⟨[(22, .dat .bool)], []⟩ [] (.two 15 (.cl ok_sparse_Set_Has [] (.nil)) (.nil)) (.nil)))
noncomputable def sp_mixed_Set_Has : Spec := ⟨7, ⟨[(0, .dat (.ptr (.cons (.int .i64) (.cons (.ptr (.one (.sl (.int .i64)))) (.one (.ptr (.cons (.int .i64) (.one (.sl (.int .u64)))))))))), (1, .dat (.int .i64))], []⟩, [⟨[(0, .dat .bool)], []⟩], fun x => fn_mixed_Set_Has x.1 x.2⟩
theorem mixed_Set_Has_is : SpecOk Try.prog sp_mixed_Set_Has := fn_is Try.func7 h_mixed_Set_Has (by kernel_rfl) (by kernel_rfl)
noncomputable def ok_mixed_Set_Has : OkSpec Try.prog := ⟨sp_mixed_Set_Has, mixed_Set_Has_is, Try.call7⟩
noncomputable def fn_law05_MixedFills_l1 (xa : Int) (xb : (List Int)) : (Int × (Option (List Int)) × (Option (Int × (List Int)))) → Option ((Int × (Option (List Int)) × (Option (Int × (List Int)))) ⊕ ((Option (List Int)) × (Option (Int × (List Int))))) := fun ((i774, l775, l777) : (Int × (Option (List Int)) × (Option (Int × (List Int))))) => cond (decide (i774 < (((xb.length : Nat) : Int)))) ((getI xb i774).bind fun x844 => (fn_mixed_Set_Add_p0i_iodod x844 xa l775 l777).bind fun (t855, l856, l857) => some (.inl ((IntKind.wrap .i64 (i774 + 1), l856, l857)))) (some (.inr (((l775, l777)))))
noncomputable def fn_law05_MixedFills (xa : Int) (xb : (List Int)) (xc : Int) (xd : Int) (xe : Int) : Option Bool :=
  cond (((decide (40 < (((xb.length : Nat) : Int)))) || (decide (xa < 0))) || (decide (200 < xa))) ((fn_law05_awake).bind fun t575 => some (t575)) ((fn_mixed_New xa).bind fun o => match o with | .inl i581 => some (false) | .inr (i585, l586) => cond (!decide (i585 = 0)) (some (false)) ((loop (fn_law05_MixedFills_l1 xa xb) (0, l586, none) : Option (((Option (List Int)) × (Option (Int × (List Int)))))).bind fun (l726, l728) => (fn_mixed_Set_Has (some (xa, l726, l728)) xe).bind fun t871 => (fn_mixed_Set_Len (some (xa, l726, l728))).bind fun i883 => (fn_mixed_Set_Fill_p0ii_iodod xc xd xa l726 l728).bind fun (l898, l899) => (fn_mixed_Set_Has (some (xa, l898, l899)) xe).bind fun t994 => (cond (!(t994 == (t871 || ((((decide (xc ≤ xe)) && (decide (xe < xd))) && (decide (0 ≤ xe))) && (decide (xe < xa)))))) (some (true)) ((fn_mixed_Set_Len (some (xa, l898, l899))).bind fun i1012 => some (decide (i1012 < i883)))).bind fun t1008 => (cond (t1008) (some (true)) ((fn_mixed_Set_Words (some (xa, l898, l899))).bind fun i1042 => (cond (decide ((IntKind.wrap .i64 (Int.tdiv (IntKind.wrap .i64 (xa + 63)) 64)) < i1042)) ((fn_mixed_Set_Words (some (xa, l898, l899))).bind fun i1057 => some (decide (8 < i1057))) (some (false))).bind fun t1053 => some (t1053))).bind fun t1038 => cond (t1038) (some (false)) ((fn_mixed_Set_Len (some (xa, l898, l899))).bind fun i1070 => (fn_mixed_Set_Fill_p0ii_iodod xc xd xa l898 l899).bind fun (l1085, l1086) => (fn_mixed_Set_Len (some (xa, l1085, l1086))).bind fun i1115 => (cond (decide (i1115 = i1070)) ((fn_law05_awake).bind fun t1130 => some (t1130)) (some (false))).bind fun t1126 => some (t1126))))
noncomputable def h_law05_MixedFills : Hn Try.prog := .gp 2 (.wt 25 (.gp 2 (.tw 28 (.cl ok_law05_awake [] (.nil)) (.ms 31 (.c2 ok_mixed_New [] (.nil) (.tw 40 (.nil) (.jn [] ⟨[], [⟨(some 1), 36, [.is 1 (.any), .od (.box 38 (.one (.row 3 (.dat (.int .i64))))), .od (.box 44 (.cons (.dat (.int .i64)) (.one (.row 41 (.dat (.int .u64))))))], false, false, none, false⟩, ⟨(some 0), 0, [], false, true, none, false⟩]⟩ [1, 2] (.lp ⟨[(13, .dat (.int .i64))], [⟨(some 1), 36, [.is 1 (.any), .od (.box 38 (.one (.row 3 (.dat (.int .i64))))), .od (.box 44 (.cons (.dat (.int .i64)) (.one (.row 41 (.dat (.int .u64))))))], false, false, none, false⟩, ⟨(some 0), 0, [], false, true, none, false⟩]⟩ (.tw 44 (.cl ok_mixed_Set_Add_p0i_iodod [] (.nil)) (.nil))) (.cl ok_mixed_Set_Has [5, 7, 1] (.cl ok_mixed_Set_Len [5, 7, 1] (.cl ok_mixed_Set_Fill_p0ii_iodod [] (.gp 3 (.wt 70 (.gp 2 (.wt 74 (.gp 3 (.cl ok_mixed_Set_Has [15, 17, 1] (.gp 1 (.wt 87 (.gj 4 ⟨[(92, .dat .bool)], []⟩ [] (.two 87 (.nil) (.cl ok_mixed_Set_Len [15, 17, 1] (.nil))) (.wt 93 (.gj 11 ⟨[(105, .dat .bool)], []⟩ [] (.two 93 (.nil) (.cl ok_mixed_Set_Words [15, 17, 1] (.wt 100 (.gj 3 ⟨[(104, .dat .bool)], []⟩ [] (.two 100 (.cl ok_mixed_Set_Words [15, 17, 1] (.nil)) (.nil)) (.nil))))) (.tw 105 (.nil) (.cl ok_mixed_Set_Len [15, 17, 1] (.cl ok_mixed_Set_Fill_p0ii_iodod [] (.cl ok_mixed_Set_Len [25, 27, 1] (.gj 1 ⟨[(118, .dat .bool)], []⟩ [] (.two 116 (.cl ok_law05_awake [] (.nil)) (.nil)) (.nil)))))))))))))))))))))))))))
noncomputable def sp_law05_MixedFills : Spec := ⟨3, ⟨[(0, .dat (.int .i64)), (1, .dat (.sl (.int .i64))), (2, .dat (.int .i64)), (3, .dat (.int .i64)), (4, .dat (.int .i64))], []⟩, [⟨[(0, .dat .bool)], []⟩], fun x => fn_law05_MixedFills x.1 x.2.1 x.2.2.1 x.2.2.2.1 x.2.2.2.2⟩
theorem law05_MixedFills_is : SpecOk Try.prog sp_law05_MixedFills := fn_is Try.func3 h_law05_MixedFills (by kernel_rfl) (by kernel_rfl)
noncomputable def ok_law05_MixedFills : OkSpec Try.prog := ⟨sp_law05_MixedFills, law05_MixedFills_is, Try.call3⟩
end Go.Proofs.Ytfdkbceponodmaa
namespace Go.Proofs.Ytfdkbceponodmaa
set_option linter.unusedVariables false
section
variable {σ β : Type} {body : σ → Option (σ ⊕ β)}
theorem loop_nat (st : Nat → σ) (n : Nat) {b : β} (h : ∀ k, k < n → body (st k) = some (.inl (st (k + 1)))) (he : body (st n) = some (.inr b)) : loop body (st 0) = some b := by
  have : ∀ m k, k + m = n → loop body (st k) = some b := by
    intro m
    induction m with
    | zero => intro k hk; have : k = n := by omega
              subst this; exact loop_end he
    | succ m ih => intro k hk; rw [loop_next (h k (by omega))]; exact ih (k + 1) (by omega)
  exact this n 0 (by omega)
theorem least (p : Nat → Prop) : ∀ n, (∃ k, k < n ∧ p k ∧ ∀ j, j < k → ¬ p j) ∨ ∀ j, j < n → ¬ p j
  | 0 => .inr (fun j hj => by omega)
  | n + 1 => by
    rcases least p n with ⟨k, h1, h2, h3⟩ | h
    · exact .inl ⟨k, by omega, h2, h3⟩
    · by_cases hp : p n
      · exact .inl ⟨n, by omega, hp, h⟩
      · exact .inr (fun j hj => if e : j = n then e ▸ hp else h j (by omega))
theorem loop_find (p : Nat → Prop) (st : Nat → σ) (n : Nat) (hit : Nat → β) (e : β) (hgo : ∀ k, k < n → ¬ p k → body (st k) = some (.inl (st (k + 1)))) (hhit : ∀ k, k < n → p k → body (st k) = some (.inr (hit k))) (hend : body (st n) = some (.inr e)) :
    (∃ k, k < n ∧ p k ∧ (∀ j, j < k → ¬ p j) ∧ loop body (st 0) = some (hit k)) ∨ ((∀ j, j < n → ¬ p j) ∧ loop body (st 0) = some e) := by
  rcases least p n with ⟨k, h1, h2, h3⟩ | h
  · exact .inl ⟨k, h1, h2, h3, loop_nat st k (fun j hj => hgo j (by omega) (h3 j hj)) (hhit k h1 h2)⟩
  · exact .inr ⟨h, loop_nat st n (fun k hk => hgo k hk (h k hk)) hend⟩
open Classical in
theorem loop_any (p : Nat → Prop) (st : Nat → σ) (n : Nat) (b e : β) (hgo : ∀ k, k < n → ¬ p k → body (st k) = some (.inl (st (k + 1)))) (hhit : ∀ k, k < n → p k → body (st k) = some (.inr b)) (hend : body (st n) = some (.inr e)) :
    loop body (st 0) = some (if ∃ k, k < n ∧ p k then b else e) := by
  rcases loop_find p st n (fun _ => b) e hgo hhit hend with ⟨k, h1, h2, h3, h4⟩ | ⟨h1, h2⟩
  · rw [if_pos ⟨k, h1, h2⟩]; exact h4
  · rw [if_neg (fun ⟨k, h3, h4⟩ => h1 k h3 h4)]; exact h2
end
theorem w64 {x : Int} (h1 : -9223372036854775808 ≤ x) (h2 : x ≤ 9223372036854775807) : IntKind.wrap .i64 x = x := by
  rw [IntWalk.i64_left, IntWalk.wrap64_in _ ⟨h1, h2⟩]
theorem w64s {k n : Nat} (h : k < n) (hn : n ≤ 9223372036854775807) : IntKind.wrap .i64 ((k : Int) + 1) = ((k + 1 : Nat) : Int) := by
  rw [w64 (by omega) (by omega)]; rfl
theorem ne_list {α : Type} {xs ys : List α} (h : xs.length = ys.length) : (∃ k, k < xs.length ∧ xs[k]? ≠ ys[k]?) ↔ xs ≠ ys := by
  constructor
  · rintro ⟨k, _, h2⟩ rfl; exact h2 rfl
  · intro hne
    rcases least (fun k => xs[k]? ≠ ys[k]?) xs.length with ⟨k, h1, h2, _⟩ | h'
    · exact ⟨k, h1, h2⟩
    · exfalso; apply hne
      apply List.ext_getElem? 
      intro k
      by_cases hk : k < xs.length
      · exact Classical.byContradiction (fun hc => h' k hk hc)
      · rw [List.getElem?_eq_none (by omega), List.getElem?_eq_none (by omega)]
theorem getN {α : Type} {l : List α} {k : Nat} (h : k < l.length) : getI l (k : Int) = some l[k] := getI_eq rfl h
theorem any_ex {α : Type} {t : α → Bool} {l : List α} : l.any t = true ↔ ∃ k, k < l.length ∧ (l[k]?.map t) = some true := by
  rw [List.any_eq_true]
  constructor
  · rintro ⟨x, hx, h⟩
    obtain ⟨k, hk, rfl⟩ := List.getElem_of_mem hx
    exact ⟨k, hk, by simp [hk, h]⟩
  · rintro ⟨k, hk, h⟩
    exact ⟨l[k], List.getElem_mem hk, by simpa [hk] using h⟩
/-- A list searched. -/
theorem loop_one {α β : Type} (xa : List α) (t : α → Bool) (hit e : β) (hn : xa.length ≤ 9223372036854775807) :
    loop (fun (i : Int) => (cond (decide (i < ((xa.length : Nat) : Int))) ((getI xa i).bind fun x => cond (t x) (some (.inr hit)) (some (.inl (IntKind.wrap .i64 (i + 1))))) (some (.inr e)) : Option (Int ⊕ β))) 0 = some (if xa.any t then hit else e) := by
  classical
  have h := loop_any (body := fun (i : Int) => (cond (decide (i < ((xa.length : Nat) : Int))) ((getI xa i).bind fun x => cond (t x) (some (.inr hit)) (some (.inl (IntKind.wrap .i64 (i + 1))))) (some (.inr e)) : Option (Int ⊕ β)))
    (fun k => (xa[k]?.map t) = some true) (fun k : Nat => (k : Int)) xa.length hit e ?_ ?_ ?_
  · refine h.trans ?_
    by_cases hh : xa.any t = true
    · rw [if_pos (any_ex.1 hh), if_pos hh]
    · rw [if_neg (fun h => hh (any_ex.2 h)), if_neg hh]
  · intro k hk hp
    simp [hk] at hp
    simp [hk, getN hk, hp, w64s hk hn]
  · intro k hk hp
    simp [hk] at hp
    simp [hk, getN hk, hp]
  · simp
/-- Two lists searched, hand in hand. -/
theorem loop_two {α γ β : Type} (xa : List α) (xb : List γ) (t : α → γ → Bool) (hit e : β) (hl : xa.length = xb.length) (hn : xa.length ≤ 9223372036854775807) :
    loop (fun (i : Int) => (cond (decide (i < ((xa.length : Nat) : Int))) ((getI xa i).bind fun x => (getI xb i).bind fun y => cond (t x y) (some (.inr hit)) (some (.inl (IntKind.wrap .i64 (i + 1))))) (some (.inr e)) : Option (Int ⊕ β))) 0 = some (if (xa.zip xb).any (fun p => t p.1 p.2) then hit else e) := by
  classical
  have hz : (xa.zip xb).length = xa.length := by simp [hl]
  have h := loop_any (body := fun (i : Int) => (cond (decide (i < ((xa.length : Nat) : Int))) ((getI xa i).bind fun x => (getI xb i).bind fun y => cond (t x y) (some (.inr hit)) (some (.inl (IntKind.wrap .i64 (i + 1))))) (some (.inr e)) : Option (Int ⊕ β)))
    (fun k => ((xa.zip xb)[k]?.map fun p => t p.1 p.2) = some true) (fun k : Nat => (k : Int)) xa.length hit e ?_ ?_ ?_
  · refine h.trans ?_
    have ha := any_ex (t := fun p : α × γ => t p.1 p.2) (l := xa.zip xb)
    rw [hz] at ha
    by_cases hh : (xa.zip xb).any (fun p => t p.1 p.2) = true
    · rw [if_pos (ha.1 hh), if_pos hh]
    · rw [if_neg (fun h => hh (ha.2 h)), if_neg hh]
  · intro k hk hp
    have hk2 : k < xb.length := by omega
    have hk3 : k < (xa.zip xb).length := by omega
    have hz3 : (xa.zip xb)[k]? = some (xa[k], xb[k]) := by rw [List.getElem?_eq_getElem hk3, List.getElem_zip]
    rw [hz3] at hp
    simp at hp
    simp [hk, getN hk, getN hk2, hp, w64s hk hn]
  · intro k hk hp
    have hk2 : k < xb.length := by omega
    have hk3 : k < (xa.zip xb).length := by omega
    have hz3 : (xa.zip xb)[k]? = some (xa[k], xb[k]) := by rw [List.getElem?_eq_getElem hk3, List.getElem_zip]
    rw [hz3] at hp
    simp at hp
    simp [hk, getN hk, getN hk2, hp]
  · simp
theorem zip_any_ne {α : Type} [DecidableEq α] {xs ys : List α} (h : xs.length = ys.length) : (xs.zip ys).any (fun p => !decide (p.1 = p.2)) = !decide (xs = ys) := by
  induction xs generalizing ys with
  | nil => cases ys with
    | nil => rfl
    | cons => cases h
  | cons x xs ih => cases ys with
    | nil => cases h
    | cons y ys =>
      simp only [List.zip_cons_cons, List.any_cons, ih (by simpa using h), List.cons.injEq]
      by_cases h1 : x = y <;> simp [h1]
/-- A list searched for a place. -/
theorem loop_idx {α γ : Type} (xa : List α) (t : α → γ → Bool) (q : γ) (hn : xa.length ≤ 9223372036854775807) :
    ∃ r, loop (fun ((i, c) : Int × γ) => (cond (decide (i < ((xa.length : Nat) : Int))) ((getI xa i).bind fun x => cond (t x c) (some (.inr (.inr (i, c)))) (some (.inl (IntKind.wrap .i64 (i + 1), c)))) (some (.inr (.inl c))) : Option ((Int × γ) ⊕ (γ ⊕ (Int × γ))))) (0, q) = some r ∧ ((r = .inl q ∧ xa.any (t · q) = false) ∨ ∃ k : Nat, r = .inr ((k : Int), q) ∧ xa.any (t · q) = true) := by
  have h := loop_find (body := fun ((i, c) : Int × γ) => (cond (decide (i < ((xa.length : Nat) : Int))) ((getI xa i).bind fun x => cond (t x c) (some (.inr (.inr (i, c)))) (some (.inl (IntKind.wrap .i64 (i + 1), c)))) (some (.inr (.inl c))) : Option ((Int × γ) ⊕ (γ ⊕ (Int × γ)))))
    (fun k => (xa[k]?.map (t · q)) = some true) (fun k : Nat => ((k : Int), q)) xa.length (fun k => .inr ((k : Int), q)) (.inl q) ?_ ?_ ?_
  · rcases h with ⟨k, h1, h2, _, h3⟩ | ⟨h1, h2⟩
    · exact ⟨_, h3, .inr ⟨k, rfl, any_ex.2 ⟨k, h1, h2⟩⟩⟩
    · refine ⟨_, h2, .inl ⟨rfl, ?_⟩⟩
      cases hh : xa.any (t · q) with
      | false => rfl
      | true => obtain ⟨k, h3, h4⟩ := any_ex.1 hh; exact absurd h4 (h1 k h3)
  · intro k hk hp
    simp [hk] at hp
    simp [hk, getN hk, hp, w64s hk hn]
  · intro k hk hp
    simp [hk] at hp
    simp [hk, getN hk, hp]
  · simp
/-- A list gone through, with something carried along. -/
theorem loop_fold {α γ : Type} (xa : List α) (f : γ → α → γ) (c0 : γ) (hn : xa.length ≤ 9223372036854775807) {body : γ × Int → Option ((γ × Int) ⊕ γ)}
    (hb : ∀ k x, xa[k]? = some x → body ((xa.take k).foldl f c0, (k : Int)) = some (.inl (f ((xa.take k).foldl f c0) x, IntKind.wrap .i64 ((k : Int) + 1)))) (he : body (xa.foldl f c0, (xa.length : Int)) = some (.inr (xa.foldl f c0))) : loop body (c0, 0) = some (xa.foldl f c0) := by
  have h := loop_nat (body := body) (fun k : Nat => ((xa.take k).foldl f c0, (k : Int))) xa.length (b := xa.foldl f c0) ?_ ?_
  · simpa using h
  · intro k hk
    rw [hb k xa[k] (by simp [hk]), w64s hk hn]
    congr 3
    rw [List.take_succ_eq_append_getElem hk, List.foldl_append]; rfl
  · simpa using he
theorem foldl_snoc {α γ : Type} (g : α → γ) (xa : List α) (c : List γ) : xa.foldl (fun c x => c ++ [g x]) c = c ++ xa.map g := by
  induction xa generalizing c with
  | nil => simp
  | cons x xa ih => simp [ih]
/-- A list built by going through another. -/
theorem loop_map {α γ : Type} (xa : List α) (g : α → γ) (c0 : List γ) (hn : c0.length + xa.length ≤ 1073741824) {body : List γ × Int → Option ((List γ × Int) ⊕ List γ)}
    (hb : ∀ (c : List γ) (i : Int), body (c, i) = cond (decide (i < ((xa.length : Nat) : Int))) ((getI xa i).bind fun x => (app c [g x]).bind fun z => some (.inl (z, IntKind.wrap .i64 (i + 1)))) (some (.inr c))) : loop body (c0, 0) = some (c0 ++ xa.map g) := by
  rw [← foldl_snoc]
  refine loop_fold xa (fun c x => c ++ [g x]) c0 (by omega) (fun k x hx => ?_) ?_
  · have hk := (List.getElem?_eq_some_iff.1 hx).1
    rw [hb, foldl_snoc]
    have hx' : xa[k] = x := by rw [List.getElem?_eq_getElem hk] at hx; exact Option.some.inj hx
    have ha := app_eq (a := c0 ++ (xa.take k).map g) (b := [g x]) (by simp; omega)
    simp only [Option.bind_some, getN hk, hx', ha, Int.ofNat_lt.2 hk, decide_true, cond_true]
  · rw [hb]; simp
end Go.Proofs.Ytfdkbceponodmaa
namespace Go.Proofs.Ytfdkbceponodmaa
open Go.RowKit
set_option linter.unusedVariables false
set_option linter.unusedSimpArgs false
set_option linter.unnecessarySimpa false
/-! ### Bits of a word. -/
theorem ofInt_nat (x : Nat) : BitVec.ofInt 64 (x : Int) = BitVec.ofNat 64 x := by simp
theorem wrapU (x : Nat) (h : x < 18446744073709551616) : IntKind.wrap .u64 (x : Int) = (x : Int) := by
  rw [IntKind.wrap_u64]
  omega
theorem pow_lt64 {k : Nat} (hk : k < 64) : 2 ^ k < 18446744073709551616 := Nat.pow_lt_pow_right (by decide) hk
theorem one_pow {k : Nat} (hk : k < 64) : IntKind.wrap .u64 (1 * 2 ^ (min k (IntKind.bits .u64))) = ((2 ^ k : Nat) : Int) := by
  have h1 : min k (IntKind.bits .u64) = k := Nat.min_eq_left (Nat.le_of_lt hk)
  rw [h1, Int.one_mul]
  have := wrapU (2 ^ k) (pow_lt64 hk)
  rw [← this]
  congr 1
theorem andU (x y : Nat) (hx : x < 18446744073709551616) (hy : y < 18446744073709551616) : IntKind.wrap .u64 ((BitVec.ofInt (IntKind.bits .u64) (x : Int) &&& BitVec.ofInt (IntKind.bits .u64) (y : Int)).toNat : Int) = ((x &&& y : Nat) : Int) := by
  show IntKind.wrap .u64 ((BitVec.ofInt 64 (x : Int) &&& BitVec.ofInt 64 (y : Int)).toNat : Int) = _
  rw [ofInt_nat, ofInt_nat, BitVec.toNat_and, BitVec.toNat_ofNat, BitVec.toNat_ofNat, Nat.mod_eq_of_lt hx, Nat.mod_eq_of_lt hy]
  exact wrapU _ (Nat.and_lt_two_pow (n := 64) _ hy)
theorem orU (x y : Nat) (hx : x < 18446744073709551616) (hy : y < 18446744073709551616) : IntKind.wrap .u64 ((BitVec.ofInt (IntKind.bits .u64) (x : Int) ||| BitVec.ofInt (IntKind.bits .u64) (y : Int)).toNat : Int) = ((x ||| y : Nat) : Int) := by
  show IntKind.wrap .u64 ((BitVec.ofInt 64 (x : Int) ||| BitVec.ofInt 64 (y : Int)).toNat : Int) = _
  rw [ofInt_nat, ofInt_nat, BitVec.toNat_or, BitVec.toNat_ofNat, BitVec.toNat_ofNat, Nat.mod_eq_of_lt hx, Nat.mod_eq_of_lt hy]
  exact wrapU _ (Nat.or_lt_two_pow (n := 64) hx hy)
/-- One bit, looked at. -/
theorem and_bit (x k : Nat) : (x &&& 2 ^ k = 0) ↔ x.testBit k = false := by
  constructor
  · intro h
    have := congrArg (fun n => n.testBit k) h
    simpa [Nat.testBit_and, Nat.testBit_two_pow_self] using this
  · intro h
    apply Nat.eq_of_testBit_eq
    intro i
    rw [Nat.testBit_and, Nat.testBit_two_pow, Nat.zero_testBit]
    by_cases hi : k = i
    · subst hi; simp [h]
    · simp [hi]
theorem or_bit (x k i : Nat) : (x ||| 2 ^ k).testBit i = (x.testBit i || decide (k = i)) := by
  rw [Nat.testBit_or, Nat.testBit_two_pow]
/-- A word of a set. -/
def Wd (w : Int) : Prop := 0 ≤ w ∧ w < 18446744073709551616
/-- Is it a member? -/
def mem (l : List Int) (i : Nat) : Bool := match l[i / 64]? with | some w => w.toNat.testBit (i % 64) | none => false
/-- A set of size n in words. -/
structure Ds (n : Nat) (l : List Int) : Prop where
  hn : n ≤ 1048576
  len : l.length = (n + 63) / 64
  wd : ∀ w ∈ l, Wd w
  top : ∀ i, n ≤ i → mem l i = false
theorem mayHave_some {n : Nat} {l : List Int} (i : Int) : fn_dense_Set_mayHave (some ((n : Int), l)) i = some (decide (0 ≤ i ∧ i < n)) := by
  unfold fn_dense_Set_mayHave
  rw [show fn_dense_Set_Size (some ((n : Int), l)) = some (n : Int) from rfl]
  by_cases h : 0 ≤ i
  · simp [h]
  · simp [h]
theorem Ds.word {n : Nat} {l : List Int} (h : Ds n l) {k : Nat} (hk : k < n) : ∃ x : Nat, l[k / 64]? = some (x : Int) ∧ x < 18446744073709551616 := by
  have hl : k / 64 < l.length := by rw [h.len]; omega
  refine ⟨(l[k / 64]).toNat, ?_, ?_⟩
  · rw [List.getElem?_eq_getElem hl, Int.toNat_of_nonneg (h.wd _ (List.getElem_mem hl)).1]
  · have := h.wd _ (List.getElem_mem hl)
    unfold Wd at this
    omega
theorem mem_of {l : List Int} {k x : Nat} (h : l[k / 64]? = some (x : Int)) : mem l k = x.testBit (k % 64) := by
  unfold mem
  rw [h]
  simp
/-- Has. -/
theorem Has_some {n : Nat} {l : List Int} (h : Ds n l) (i : Int) : fn_dense_Set_Has (some ((n : Int), l)) i = some (decide (0 ≤ i ∧ i < n) && mem l i.toNat) := by
  unfold fn_dense_Set_Has
  rw [mayHave_some]
  by_cases hi : 0 ≤ i ∧ i < n
  · obtain ⟨k, rfl⟩ := Int.eq_ofNat_of_zero_le hi.1
    have hk : k < n := by omega
    have hn := h.hn
    obtain ⟨x, hx, hx2⟩ := h.word hk
    have e1 : IntKind.wrap .i64 (Int.tdiv (k : Int) 64) = ((k / 64 : Nat) : Int) := by
      rw [show Int.tdiv (k : Int) 64 = ((k / 64 : Nat) : Int) from rfl]
      exact w64 (by omega) (by omega)
    have e2 : Int.tmod (k : Int) 64 = ((k % 64 : Nat) : Int) := rfl
    have g : getI l ((k / 64 : Nat) : Int) = some (x : Int) := by
      unfold getI
      rw [if_pos (Int.natCast_nonneg _), Int.toNat_natCast]
      exact hx
    have hd : decide (0 ≤ (k : Int) ∧ (k : Int) < n) = true := by simpa using hk
    rw [hd, e1, e2]
    simp only [Option.bind_some, cond_true, g, ge0_eq (Int.natCast_nonneg _), Int.toNat_natCast, Bool.true_and]
    have E : IntKind.wrap .u64 ((BitVec.ofInt (IntKind.bits .u64) (x : Int) &&& BitVec.ofInt (IntKind.bits .u64) (IntKind.wrap .u64 (1 * 2 ^ (min (k % 64) (IntKind.bits .u64))))).toNat : Int) = ((x &&& 2 ^ (k % 64) : Nat) : Int) := by
      rw [one_pow (Nat.mod_lt k (by decide))]
      exact andU x _ hx2 (pow_lt64 (Nat.mod_lt k (by decide)))
    simp only [E, mem_of hx]
    have hb := and_bit x (k % 64)
    cases ht : x.testBit (k % 64) with
    | false => simp [hb.2 ht]
    | true =>
      have : ¬ (x &&& 2 ^ (k % 64) = 0) := fun e => by rw [hb.1 e] at ht; cases ht
      have h2 : ¬ (((x &&& 2 ^ (k % 64) : Nat) : Int) = 0) := by omega
      rw [decide_eq_false h2]
      rfl
  · rw [decide_eq_false hi]
    rfl
theorem mem_set {l : List Int} {q x y : Nat} (hq : l[q]? = some (x : Int)) (j : Nat) : mem (l.set q (y : Int)) j = if j / 64 = q then y.testBit (j % 64) else mem l j := by
  unfold mem
  rw [List.getElem?_set]
  have hlt : q < l.length := (List.getElem?_eq_some_iff.1 hq).1
  by_cases hj : j / 64 = q
  · rw [if_pos hj.symm, if_pos hj, ← hj] 
    simp [hj, hlt]
  · rw [if_neg (fun e => hj e.symm), if_neg hj]
/-- Add. -/
theorem Add_some {n : Nat} {l : List Int} (h : Ds n l) (i : Int) : ∃ l', fn_dense_Set_Add_p0i_ir i n l = some (decide (0 ≤ i ∧ i < n) && !mem l i.toNat, l') ∧ Ds n l' ∧ ∀ j, mem l' j = (mem l j || decide ((0 ≤ i ∧ i < n) ∧ i.toNat = j)) := by
  unfold fn_dense_Set_Add_p0i_ir
  rw [mayHave_some, Has_some h]
  by_cases hi : 0 ≤ i ∧ i < n
  · rw [decide_eq_true hi]
    cases hm : mem l i.toNat with
    | true => exact ⟨l, rfl, h, fun j => by
        by_cases hj : i.toNat = j
        · subst hj; simp [hm]
        · simp [hj]⟩
    | false =>
      obtain ⟨k, rfl⟩ := Int.eq_ofNat_of_zero_le hi.1
      have hk : k < n := by omega
      have hn := h.hn
      obtain ⟨x, hx, hx2⟩ := h.word hk
      have e1 : IntKind.wrap .i64 (Int.tdiv (k : Int) 64) = ((k / 64 : Nat) : Int) := by
        rw [show Int.tdiv (k : Int) 64 = ((k / 64 : Nat) : Int) from rfl]
        exact w64 (by omega) (by omega)
      have e2 : Int.tmod (k : Int) 64 = ((k % 64 : Nat) : Int) := rfl
      have g : getI l ((k / 64 : Nat) : Int) = some (x : Int) := by
        unfold getI
        rw [if_pos (Int.natCast_nonneg _), Int.toNat_natCast]
        exact hx
      have E : IntKind.wrap .u64 ((BitVec.ofInt (IntKind.bits .u64) (x : Int) ||| BitVec.ofInt (IntKind.bits .u64) (IntKind.wrap .u64 (1 * 2 ^ (min (k % 64) (IntKind.bits .u64))))).toNat : Int) = ((x ||| 2 ^ (k % 64) : Nat) : Int) := by
        rw [one_pow (Nat.mod_lt k (by decide))]
        exact orU x _ hx2 (pow_lt64 (Nat.mod_lt k (by decide)))
      have hlt : k / 64 < l.length := (List.getElem?_eq_some_iff.1 hx).1
      have hmem : ∀ j, mem (l.set (k / 64) ((x ||| 2 ^ (k % 64) : Nat) : Int)) j = (mem l j || decide (((0 : Int) ≤ (k : Int) ∧ (k : Int) < n) ∧ k = j)) := fun j => by
        rw [mem_set hx]
        by_cases hj : j / 64 = k / 64
        · rw [if_pos hj, or_bit, mem_of (by rw [hj]; exact hx)]
          have : (k % 64 = j % 64) ↔ k = j := by omega
          simp [this, hk]
        · rw [if_neg hj]
          have : ¬ k = j := fun e => hj (by rw [e])
          simp [this]
      refine ⟨l.set (k / 64) ((x ||| 2 ^ (k % 64) : Nat) : Int), ?_, ⟨hn, by rw [List.length_set]; exact h.len, fun w hw => ?_, fun j hj => ?_⟩, hmem⟩
      · rw [e1, e2]
        simp only [Option.bind_some, cond_true, cond_false, g, ge0_eq (Int.natCast_nonneg _), Int.toNat_natCast, Bool.true_and, Bool.not_true, Bool.not_false, E]
      · rcases List.mem_or_eq_of_mem_set hw with hw | rfl
        · exact h.wd w hw
        · have := Nat.or_lt_two_pow (n := 64) hx2 (pow_lt64 (Nat.mod_lt k (by decide)))
          unfold Wd
          omega
      · rw [hmem, h.top j hj]
        have : ¬ k = j := by omega
        simp [this]
  · rw [decide_eq_false hi]
    exact ⟨l, rfl, h, fun j => by simp [hi]⟩
/-- Bits from r on. -/
theorem from_bit (x r j : Nat) : (x / 2 ^ r * 2 ^ r).testBit j = (decide (r ≤ j) && x.testBit j) := by
  rw [Nat.testBit_mul_two_pow]
  by_cases h : r ≤ j
  · rw [Nat.testBit_div_two_pow, Nat.sub_add_cancel h]
  · simp [h]
theorem from_word (x r : Nat) (hx : x < 18446744073709551616) (hr : r < 64) : IntKind.wrap .u64 ((Int.fdiv (x : Int) (2 ^ (min r (IntKind.bits .u64)))) * 2 ^ (min r (IntKind.bits .u64))) = ((x / 2 ^ r * 2 ^ r : Nat) : Int) := by
  have h1 : min r (IntKind.bits .u64) = r := Nat.min_eq_left (Nat.le_of_lt hr)
  have hp : ((2 : Int) ^ r) = ((2 ^ r : Nat) : Int) := by simp
  have h2 : Int.fdiv (x : Int) ((2 ^ r : Nat) : Int) = ((x / 2 ^ r : Nat) : Int) := by
    rw [Int.fdiv_eq_ediv_of_nonneg _ (Int.natCast_nonneg _)]
    rfl
  rw [h1, hp, h2, ← Int.natCast_mul]
  exact wrapU _ (Nat.lt_of_le_of_lt (Nat.div_mul_le_self x (2 ^ r)) hx)
/-- One bit, taken away. -/
theorem andn_bit (x k : Nat) (hx : x < 18446744073709551616) (hk : k < 64) : ∃ y : Nat, IntKind.wrap .u64 ((BitVec.ofInt (IntKind.bits .u64) (x : Int) &&& ~~~BitVec.ofInt (IntKind.bits .u64) (IntKind.wrap .u64 (1 * 2 ^ (min k (IntKind.bits .u64))))).toNat : Int) = (y : Int) ∧ y < 18446744073709551616 ∧ ∀ j, y.testBit j = (x.testBit j && !decide (k = j)) := by
  rw [one_pow hk]
  refine ⟨(BitVec.ofNat 64 x &&& ~~~BitVec.ofNat 64 (2 ^ k)).toNat, ?_, BitVec.isLt _, fun j => ?_⟩
  · show IntKind.wrap .u64 ((BitVec.ofInt 64 (x : Int) &&& ~~~BitVec.ofInt 64 ((2 ^ k : Nat) : Int)).toNat : Int) = _
    rw [ofInt_nat, ofInt_nat]
    exact wrapU _ (BitVec.isLt _)
  · rw [BitVec.testBit_toNat, BitVec.getLsbD_and, BitVec.getLsbD_not, BitVec.getLsbD_ofNat, BitVec.getLsbD_ofNat, Nat.testBit_two_pow]
    by_cases hj : j < 64
    · simp [hj]
    · have : x.testBit j = false := Nat.testBit_lt_two_pow (Nat.lt_of_lt_of_le hx (show 2 ^ 64 ≤ 2 ^ j from Nat.pow_le_pow_right (by decide) (by omega)))
      simp [hj, this]
theorem mem_zero {l : List Int} {j : Nat} (h : ∀ w, l[j / 64]? = some w → w = 0) : mem l j = false := by
  unfold mem
  cases hl : l[j / 64]? with
  | none => rfl
  | some w => rw [h w hl]; simp
theorem mem_rep (m j : Nat) : mem (List.replicate m 0) j = false := mem_zero (fun w hw => by
  rw [List.getElem?_replicate] at hw
  split at hw
  · exact (Option.some.inj hw).symm
  · cases hw)
theorem Ds_new {n : Nat} (h : n ≤ 1048576) : Ds n (List.replicate ((n + 63) / 64) 0) :=
  ⟨h, List.length_replicate, fun w hw => by
    obtain ⟨_, rfl⟩ := List.mem_replicate.1 hw
    exact ⟨Int.le_refl _, by decide⟩, fun j _ => mem_rep _ j⟩
/-- New. -/
theorem New_some (n : Int) : fn_dense_New n = if n < 0 then some (.inl 2) else if 1048576 < n then some (.inl 5) else some (.inr (0, List.replicate ((n.toNat + 63) / 64) 0)) := by
  unfold fn_dense_New
  by_cases h1 : n < 0
  · simp [h1]
  · by_cases h2 : 1048576 < n
    · simp [h1, h2]
    · obtain ⟨k, rfl⟩ := Int.eq_ofNat_of_zero_le (by omega : 0 ≤ n)
      have e : IntKind.wrap .i64 (Int.tdiv (IntKind.wrap .i64 (IntKind.wrap .i64 ((k : Int) + 64) - 1)) 64) = (((k + 63) / 64 : Nat) : Int) := by
        rw [w64 (x := (k : Int) + 64) (by omega) (by omega), w64 (x := (k : Int) + 64 - 1) (by omega) (by omega), show (k : Int) + 64 - 1 = ((k + 63 : Nat) : Int) by omega]
        rw [show Int.tdiv ((k + 63 : Nat) : Int) 64 = (((k + 63) / 64 : Nat) : Int) from rfl]
        exact w64 (by omega) (by omega)
      rw [e]
      have hm : (mk ((((k + 63) / 64 : Nat) : Int)) ((((k + 63) / 64 : Nat) : Int)) (0 : Int)) = some (List.replicate ((k + 63) / 64) 0) := by
        unfold mk
        rw [if_pos (by constructor <;> omega), Int.toNat_natCast]
      rw [hm]
      simp [h1, h2]
/-! ### The members, rising. -/
def mems (n : Nat) (l : List Int) : List Nat := (List.range n).filter (mem l)
def liN (L : List Nat) : List Int := L.map Int.ofNat
theorem filter_gap {p : Nat → Bool} {c : Nat} : ∀ (d : Nat), (∀ j, c ≤ j → j < c + d → p j = false) → (List.range (c + d)).filter p = (List.range c).filter p
  | 0, _ => rfl
  | d + 1, h => by
    rw [← Nat.add_assoc, List.range_succ, List.filter_append, filter_gap d (fun j h1 h2 => h j h1 (by omega))]
    simp [h (c + d) (by omega) (by omega)]
theorem filter_len (p : Nat → Bool) (c : Nat) : ((List.range c).filter p).length ≤ c := by
  have := List.length_filter_le p (List.range c)
  simpa using this
theorem Has_nat {n : Nat} {l : List Int} (h : Ds n l) (k : Nat) : fn_dense_Set_Has (some ((n : Int), l)) (k : Int) = some (mem l k) := by
  rw [Has_some h, Int.toNat_natCast]
  cases hm : mem l k with
  | false => simp
  | true =>
    have : k < n := by
      rcases Nat.lt_or_ge k n with h1 | h1
      · exact h1
      · rw [h.top k h1] at hm; cases hm
    simp [this]
end Go.Proofs.Ytfdkbceponodmaa
namespace Go.Proofs.Ytfdkbceponodmaa
set_option linter.unusedVariables false
theorem bind_of {α β : Type} {m : Option α} {f : α → Option β} {y : β} {Q : α → Prop} (h : ∃ r, m = some r ∧ Q r) (k : ∀ r, Q r → f r = some y) : m.bind f = some y := by
  obtain ⟨r, rfl, h2⟩ := h; exact k r h2
theorem bind_ex {α β : Type} {m : Option α} {f : α → Option β} {Q : α → Prop} {R : β → Prop} (h : ∃ r, m = some r ∧ Q r) (k : ∀ r, Q r → ∃ y, f r = some y ∧ R y) : ∃ y, m.bind f = some y ∧ R y := by
  obtain ⟨r, rfl, h2⟩ := h; exact k r h2
theorem getZ {α : Type} {l : List α} {i : Int} (h0 : 0 ≤ i) (h1 : i < (l.length : Nat)) : getI l i = some (l[i.toNat]'(by omega)) := by
  unfold getI; rw [if_pos h0]; simp
theorem getN1 {α : Type} {l : List α} {k : Nat} (h : k + 1 < l.length) : getI l ((k : Int) + 1) = some l[k + 1] := getI_eq rfl h
theorem dlt {k n : Nat} (h : k < n) : decide ((k : Int) < (n : Int)) = true := by simp; omega
theorem dge {k n : Nat} (h : ¬ k < n) : decide ((k : Int) < (n : Int)) = false := by simp; omega
theorem beq_dec {α : Type} [DecidableEq α] (a b : α) : (a == b) = decide (a = b) := Bool.beq_eq_decide_eq a b
section
variable {α β γ σ : Type}
/-- Counted from 0 to n, with a way out. -/
theorem loop_stop {body : σ → Option (σ ⊕ β)} (n : Nat) (st : Nat → σ) (stop : Nat → Option β) (e : β) (h : ∀ k, k < n → body (st k) = some (match stop k with | none => .inl (st (k + 1)) | some b => .inr b)) (he : body (st n) = some (.inr e)) :
    loop body (st 0) = some (((List.range n).findSome? stop).getD e) := by
  rcases loop_find (fun k => (stop k).isSome = true) st n (fun k => (stop k).getD e) e (fun k hk hp => by
      rw [h k hk]; cases hs : stop k with
      | none => rfl
      | some b => simp [hs] at hp) (fun k hk hp => by
      rw [h k hk]; cases hs : stop k with
      | none => simp [hs] at hp
      | some b => rfl) he with ⟨k, h1, h2, h3, h4⟩ | ⟨h1, h2⟩
  · rw [h4]
    obtain ⟨b, hb⟩ := Option.isSome_iff_exists.1 h2
    have : (List.range n).findSome? stop = some b := by
      rw [List.findSome?_eq_some_iff]
      refine ⟨List.range k, k, (List.range' (k + 1) (n - k - 1)), ?_, hb, fun a ha => ?_⟩
      · rw [List.range_eq_range', List.range_eq_range', ← List.range'_succ (s := k) (n := n - k - 1)]
        rw [show n - k - 1 + 1 = n - k by omega]
        have := List.range'_append_1 (s := 0) (m := k) (n := n - k)
        rw [Nat.zero_add, show k + (n - k) = n by omega] at this
        exact this.symm
      · have := h3 a (List.mem_range.1 ha)
        cases hs : stop a with
        | none => rfl
        | some b => simp [hs] at this
    rw [this, hb]
  · rw [h2]
    have : (List.range n).findSome? stop = none := by
      rw [List.findSome?_eq_none_iff]
      intro a ha
      have := h1 a (List.mem_range.1 ha)
      cases hs : stop a with
      | none => rfl
      | some b => simp [hs] at this
    rw [this]; rfl
/-- A list searched: where the first hit lies. -/
theorem loop_search {body : Int → Option (Int ⊕ β)} (xa : List α) (t : α → Bool) (hit : Nat → β) (e : β) (hb : ∀ (k : Nat) (h : k < xa.length), body (k : Int) = some (if t xa[k] then .inr (hit k) else .inl ((k + 1 : Nat) : Int))) (he : body (xa.length : Int) = some (.inr e)) :
    loop body 0 = some (match xa.findIdx? t with | some k => hit k | none => e) := by
  rcases loop_find (fun k => ∃ h : k < xa.length, t xa[k] = true) (fun k : Nat => (k : Int)) xa.length hit e (fun k hk hp => by
      rw [hb k hk, if_neg (fun h => hp ⟨hk, h⟩)]) (fun k hk ⟨_, hp⟩ => by rw [hb k hk, if_pos hp]) he with ⟨k, h1, ⟨_, h2⟩, h3, h4⟩ | ⟨h1, h2⟩
  · rw [show ((0 : Int)) = ((0 : Nat) : Int) from rfl, h4]
    have : xa.findIdx? t = some k := by
      rw [List.findIdx?_eq_some_iff_getElem]
      exact ⟨h1, h2, fun j hj => fun hc => h3 j hj ⟨by omega, by simpa using hc⟩⟩
    rw [this]
  · rw [show ((0 : Int)) = ((0 : Nat) : Int) from rfl, h2]
    have : xa.findIdx? t = none := by
      rw [List.findIdx?_eq_none_iff]
      intro x hx
      obtain ⟨k, hk, rfl⟩ := List.getElem_of_mem hx
      cases hc : t xa[k] with
      | false => rfl
      | true => exact absurd ⟨hk, hc⟩ (h1 k hk)
    rw [this]
theorem loop_some {body : Int → Option (Int ⊕ β)} (xa : List α) (t : α → Bool) (hit e : β) (hb : ∀ (k : Nat) (h : k < xa.length), body (k : Int) = some (if t xa[k] then .inr hit else .inl ((k + 1 : Nat) : Int))) (he : body (xa.length : Int) = some (.inr e)) :
    loop body 0 = some (if xa.any t then hit else e) := by
  rw [loop_search xa t (fun _ => hit) e hb he]
  cases h : xa.findIdx? t with
  | none =>
    have : xa.any t = false := by
      rw [List.any_eq_false]; intro x hx; have := List.findIdx?_eq_none_iff.1 h x hx; simp [this]
    rw [this]; rfl
  | some k =>
    obtain ⟨hk, h1, _⟩ := List.findIdx?_eq_some_iff_getElem.1 h
    have : xa.any t = true := List.any_eq_true.2 ⟨_, List.getElem_mem hk, h1⟩
    rw [this]; rfl
/-- A list gone through, with what is carried along. -/
theorem loop_carry {δ : Type} {body : (γ × Int) → Option ((γ × Int) ⊕ δ)} (xa : List α) (acc : Nat → γ) (out : δ) (hb : ∀ (k : Nat) (h : k < xa.length), body (acc k, (k : Int)) = some (.inl (acc (k + 1), ((k + 1 : Nat) : Int)))) (he : body (acc xa.length, (xa.length : Int)) = some (.inr out)) :
    loop body (acc 0, 0) = some out := loop_nat (fun k => (acc k, (k : Int))) xa.length hb he
/-- Two lists held against each other, place by place. -/
theorem loop_alike [DecidableEq α] {body : Int → Option (Int ⊕ β)} (xa xb : List α) (hit e : β) (hl : xa.length = xb.length) (hb : ∀ (k : Nat) (h : k < xa.length), body (k : Int) = some (if xa[k] = (xb[k]'(by omega)) then .inl ((k + 1 : Nat) : Int) else .inr hit)) (he : body (xa.length : Int) = some (.inr e)) :
    loop body 0 = some (if xa = xb then e else hit) := by
  rw [loop_search (List.range xa.length) (fun k => decide (xa[k]? ≠ xb[k]?)) (fun _ => hit) e (fun k h => by
      simp at h
      rw [hb k h]
      have h2 : k < xb.length := by omega
      by_cases hq : xa[k] = xb[k] <;> simp [h, h2, hq]) (by simpa using he)]
  by_cases hq : xa = xb
  · subst hq
    have : (List.range xa.length).findIdx? (fun k => decide (xa[k]? ≠ xa[k]?)) = none := by rw [List.findIdx?_eq_none_iff]; simp
    rw [this]; simp
  · cases h : (List.range xa.length).findIdx? (fun k => decide (xa[k]? ≠ xb[k]?)) with
    | some k => simp [hq]
    | none =>
      exfalso; apply hq
      rw [List.findIdx?_eq_none_iff] at h
      apply List.ext_getElem?
      intro k
      by_cases hk : k < xa.length
      · simpa using h k (List.mem_range.2 hk)
      · rw [List.getElem?_eq_none (by omega), List.getElem?_eq_none (by omega)]
theorem take_snoc {l : List α} {k : Nat} (h : k < l.length) : l.take (k + 1) = l.take k ++ [l[k]] := List.take_succ_eq_append_getElem h
theorem dlen {a b : Nat} (h : a = b) : (!decide ((a : Int) = (b : Int))) = false := by simp [h]
theorem dlen' {a b : Nat} (h : ¬ a = b) : (!decide ((a : Int) = (b : Int))) = true := by simp; omega
end
theorem ok64 {x : Int} (h : Tp.Ok (.int .i64) x) : -9223372036854775808 ≤ x ∧ x ≤ 9223372036854775807 := by
  have h' : (Lit.int .i64 x).wf = true := h
  simp only [Lit.wf, IntKind.min, IntKind.max, IntKind.signed, IntKind.bits, Bool.and_eq_true, decide_eq_true_eq] at h'
  simp at h'; omega
theorem sub1 {α : Type} {l : List α} (h : 1 ≤ l.length) : subL l 1 ((l.length : Nat) : Int) = some (l.drop 1) := by
  rw [subL_eq (by omega) (by omega) (by omega)]; simp
end Go.Proofs.Ytfdkbceponodmaa
namespace Go.Proofs.Ytfdkbceponodmaa
open Go.RowKit
set_option linter.unusedVariables false
set_option linter.unusedSimpArgs false
set_option linter.unnecessarySimpa false
def pc : Nat → Nat → Nat
  | 0, _ => 0
  | n + 1, x => (x % 2) + pc n (x / 2)
theorem land_split (a b y M : Nat) (ha : a < 256) (hb : b < 256) : (a + 256 * y) &&& (b + 256 * M) = (a &&& b) + 256 * (y &&& M) := by
  have h1 : a &&& b < 256 := Nat.and_lt_two_pow (n := 8) a hb
  apply Nat.eq_of_testBit_eq
  intro i
  have e : ∀ (u v : Nat), u < 256 → (u + 256 * v).testBit i = if i < 8 then u.testBit i else v.testBit (i - 8) := fun u v hu => by
    rw [Nat.add_comm, show 256 * v = 2 ^ 8 * v from rfl, Nat.testBit_two_pow_mul_add v (show u < 2 ^ 8 from hu)]
  rw [Nat.testBit_and, e a y ha, e b M hb, e _ _ h1]
  split <;> simp [Nat.testBit_and]
def bts : Nat → List Nat → Nat
  | 0, _ => 0
  | _ + 1, [] => 0
  | n + 1, p :: l => p + 256 * bts n l
theorem eachByte (P : Nat → Bool) (h : (List.range 256).all P = true) {a : Nat} (ha : a < 256) : P a = true := List.all_eq_true.1 h a (List.mem_range.2 ha)
def s1 (M x : Nat) : Nat := ((x / 2) &&& M) + (x &&& M)
def s2 (M x : Nat) : Nat := ((x / 4) &&& M) + (x &&& M)
def s3 (M x : Nat) : Nat := (x / 16 + x) &&& M
theorem s1_split (a y M : Nat) (ha : a < 256) : s1 (85 + 256 * M) (a + 256 * y) = s1 85 a + 256 * s1 M y := by
  unfold s1
  have h2 : (a + 256 * y) / 2 = (a / 2 + 128 * (y % 2)) + 256 * (y / 2) := by omega
  have h3 : (a / 2 + 128 * (y % 2)) &&& 85 = (a / 2) &&& 85 := by
    have h4 : y % 2 = 0 ∨ y % 2 = 1 := by omega
    rcases h4 with h4 | h4
    · rw [h4]; rfl
    · rw [h4]
      have := eachByte (fun a => decide (((a / 2 + 128 * 1) &&& 85) = ((a / 2) &&& 85))) (by decide +kernel) ha
      exact of_decide_eq_true this
  rw [land_split a 85 y M ha (by decide), h2, land_split _ 85 _ M (by omega) (by decide), h3]
  omega
theorem s1_low {a : Nat} (ha : a < 256) : s1 85 a < 256 := by
  have := eachByte (fun a => decide (s1 85 a < 256)) (by decide +kernel) ha
  exact of_decide_eq_true this
theorem s2_split (a y M : Nat) (ha : a < 256) : s2 (51 + 256 * M) (a + 256 * y) = s2 51 a + 256 * s2 M y := by
  unfold s2
  have h2 : (a + 256 * y) / 4 = (a / 4 + 64 * (y % 4)) + 256 * (y / 4) := by omega
  have h3 : (a / 4 + 64 * (y % 4)) &&& 51 = (a / 4) &&& 51 := by
    have h4 : y % 4 = 0 ∨ y % 4 = 1 ∨ y % 4 = 2 ∨ y % 4 = 3 := by omega
    have := eachByte (fun a => decide (((a / 4 + 64 * 1) &&& 51) = ((a / 4) &&& 51) ∧ ((a / 4 + 64 * 2) &&& 51) = ((a / 4) &&& 51) ∧ ((a / 4 + 64 * 3) &&& 51) = ((a / 4) &&& 51))) (by decide +kernel) ha
    have := of_decide_eq_true this
    rcases h4 with h4 | h4 | h4 | h4 <;> rw [h4]
    · rfl
    · exact this.1
    · exact this.2.1
    · exact this.2.2
  rw [land_split a 51 y M ha (by decide), h2, land_split _ 51 _ M (by omega) (by decide), h3]
  omega
theorem s2_low {a : Nat} (ha : a < 256) : s2 51 a < 256 := by
  have := eachByte (fun a => decide (s2 51 a < 256)) (by decide +kernel) ha
  exact of_decide_eq_true this
/-- what the first three steps make of a byte -/
theorem byte_pc {a : Nat} (ha : a < 256) : ((s2 51 (s1 85 a)) / 16 + (s2 51 (s1 85 a)) % 16) = pc 8 a ∧ (s2 51 (s1 85 a)) % 16 ≤ 4 ∧ (s2 51 (s1 85 a)) / 16 ≤ 4 ∧ s2 51 (s1 85 a) < 256 ∧ pc 8 a ≤ 8 := by
  have := eachByte (fun a => decide (((s2 51 (s1 85 a)) / 16 + (s2 51 (s1 85 a)) % 16) = pc 8 a ∧ (s2 51 (s1 85 a)) % 16 ≤ 4 ∧ (s2 51 (s1 85 a)) / 16 ≤ 4 ∧ s2 51 (s1 85 a) < 256 ∧ pc 8 a ≤ 8)) (by decide +kernel) ha
  exact of_decide_eq_true this
/-- the third step, of bytes whose halves are small -/
theorem s3_split (a y M : Nat) (ha : a < 256) (h1 : a % 16 ≤ 4) (h2 : a / 16 ≤ 4) (h3 : y % 16 ≤ 4) : s3 (15 + 256 * M) (a + 256 * y) = (a / 16 + a % 16) + 256 * s3 M y := by
  unfold s3
  have e : (a + 256 * y) / 16 + (a + 256 * y) = (a / 16 + a % 16 + 16 * (a / 16 + y % 16)) + 256 * (y / 16 + y) := by omega
  rw [e, land_split _ 15 _ M (by omega) (by decide)]
  have : (a / 16 + a % 16 + 16 * (a / 16 + y % 16)) &&& 15 = a / 16 + a % 16 := by
    rw [show (15 : Nat) = 2 ^ 4 - 1 from rfl, Nat.and_two_pow_sub_one_eq_mod]
    omega
  rw [this]
theorem pc_add : ∀ (n m x : Nat), pc (n + m) x = pc n x + pc m (x / 2 ^ n)
  | 0, m, x => by simp [pc]
  | n + 1, m, x => by
    rw [show n + 1 + m = (n + m) + 1 by omega, show pc ((n + m) + 1) x = x % 2 + pc (n + m) (x / 2) from rfl, show pc (n + 1) x = x % 2 + pc n (x / 2) from rfl]
    rw [pc_add n m, Nat.div_div_eq_div_mul, Nat.pow_succ, Nat.mul_comm 2]
    omega
theorem pc_mod (a y : Nat) (ha : a < 256) : pc 8 (a + 256 * y) = pc 8 a := by
  unfold pc pc pc pc pc pc pc pc pc
  omega
def masks : Nat → Nat → Nat
  | _, 0 => 0
  | b, n + 1 => b + 256 * masks b n
def pcs : Nat → Nat → Nat
  | 0, _ => 0
  | n + 1, x => pc 8 (x % 256) + 256 * pcs n (x / 256)
/-- All three steps: each byte its count. -/
theorem three (n : Nat) : ∀ x, x < 256 ^ n → s3 (masks 15 n) (s2 (masks 51 n) (s1 (masks 85 n) x)) = pcs n x ∧ (s2 (masks 51 n) (s1 (masks 85 n) x)) % 16 ≤ 4 := by
  induction n with
  | zero => intro x hx; have : x = 0 := by simp at hx; omega
            subst this; decide
  | succ n ih =>
    intro x hx
    have hx2 : x / 256 < 256 ^ n := by
      rw [Nat.pow_succ] at hx
      exact Nat.div_lt_of_lt_mul (by rw [Nat.mul_comm]; exact hx)
    obtain ⟨i1, i2⟩ := ih _ hx2
    have ha : x % 256 < 256 := Nat.mod_lt _ (by decide)
    obtain ⟨b1, b2, b3, b4, b5⟩ := byte_pc ha
    have e : x = x % 256 + 256 * (x / 256) := by omega
    unfold masks
    have e1 : s1 (85 + 256 * masks 85 n) x = s1 85 (x % 256) + 256 * s1 (masks 85 n) (x / 256) := by
      conv => lhs; rw [e]
      exact s1_split _ _ _ ha
    rw [e1, s2_split _ _ _ (s1_low ha), s3_split _ _ _ b4 b2 b3 i2, i1, b1]
    refine ⟨rfl, ?_⟩
    omega
theorem three64 (x : Nat) (hx : x < 18446744073709551616) : s3 1085102592571150095 (s2 3689348814741910323 (s1 6148914691236517205 x)) = pcs 8 x :=
  (three 8 x hx).1
theorem last4 (x : Nat) : ∃ p0 p1 p2 p3 p4 p5 p6 p7 : Nat, pcs 8 x = p0 + 256 * (p1 + 256 * (p2 + 256 * (p3 + 256 * (p4 + 256 * (p5 + 256 * (p6 + 256 * (p7 + 256 * 0))))))) ∧ pc 64 x = p0 + p1 + p2 + p3 + p4 + p5 + p6 + p7 ∧ p0 ≤ 8 ∧ p1 ≤ 8 ∧ p2 ≤ 8 ∧ p3 ≤ 8 ∧ p4 ≤ 8 ∧ p5 ≤ 8 ∧ p6 ≤ 8 ∧ p7 ≤ 8 := by
  have h : ∀ y, pc 8 (y % 256) ≤ 8 := fun y => (byte_pc (Nat.mod_lt y (by decide))).2.2.2.2
  have g : ∀ m y, pc (8 + m) y = pc 8 (y % 256) + pc m (y / 256) := fun m y => by
    rw [pc_add 8 m]
    congr 1
    conv => lhs; rw [show y = y % 256 + 256 * (y / 256) by omega]
    exact pc_mod _ _ (Nat.mod_lt _ (by decide))
  refine ⟨_, _, _, _, _, _, _, _, rfl, ?_, h _, h _, h _, h _, h _, h _, h _, h _⟩
  rw [show (64 : Nat) = 8 + (8 + (8 + (8 + (8 + (8 + (8 + (8 + 0))))))) from rfl, g, g, g, g, g, g, g, g]
  simp only [pc]
  omega
theorem dv {k L R x : Nat} (hk : 0 < k) (h : x = L + k * R) (hL : L < k) : x / k = R := by
  rw [h, Nat.add_mul_div_left _ _ hk, Nat.div_eq_of_lt hL, Nat.zero_add]
theorem sum4 {y z u v s : Nat} {p0 p1 p2 p3 p4 p5 p6 p7 : Nat} (hy : y = p0 + 256 * (p1 + 256 * (p2 + 256 * (p3 + 256 * (p4 + 256 * (p5 + 256 * (p6 + 256 * (p7 + 256 * 0)))))))) (hs : s = p0 + p1 + p2 + p3 + p4 + p5 + p6 + p7) (h0 : p0 ≤ 8) (h1 : p1 ≤ 8) (h2 : p2 ≤ 8) (h3 : p3 ≤ 8) (h4 : p4 ≤ 8) (h5 : p5 ≤ 8) (h6 : p6 ≤ 8) (h7 : p7 ≤ 8)
    (hz : z = y + y / 256) (hu : u = z + z / 65536) (hv : v = u + u / 4294967296) : v % 128 = s ∧ v < 9223372036854775808 := by
  have e1 : y / 256 = p1 + 256 * (p2 + 256 * (p3 + 256 * (p4 + 256 * (p5 + 256 * (p6 + 256 * p7))))) := dv (L := p0) (by decide) (by rw [hy]; rfl) (by omega)
  rw [e1, hy] at hz
  have e2 : z / 65536 = (p2 + p3) + 256 * ((p3 + p4) + 256 * ((p4 + p5) + 256 * ((p5 + p6) + 256 * ((p6 + p7) + 256 * p7)))) := dv (L := (p0 + p1) + 256 * (p1 + p2)) (by decide) (by rw [hz]; clear hz hu hv hy e1; omega) (by clear hz hu hv hy e1; omega)
  rw [e2, hz] at hu
  clear e1 e2 hz hy
  have e3 : u / 4294967296 = (p4 + p5 + p6 + p7) + 256 * ((p5 + p6 + p7) + 256 * ((p6 + p7) + 256 * p7)) := dv (L := (p0 + p1 + p2 + p3) + 256 * ((p1 + p2 + p3 + p4) + 256 * ((p2 + p3 + p4 + p5) + 256 * (p3 + p4 + p5 + p6)))) (by decide) (by rw [hu]; clear hu hv; omega) (by clear hu hv; omega)
  rw [e3, hu] at hv
  clear e3 hu
  refine ⟨?_, by omega⟩
  have : v = s + 128 * (2 * ((p1+p2+p3+p4 + (p5+p6+p7)) + 256 * ((p2+p3+p4+p5 + (p6+p7)) + 256 * ((p3+p4+p5+p6 + p7) + 256 * ((p4+p5+p6+p7) + 256 * ((p5+p6+p7) + 256 * ((p6+p7) + 256 * p7))))))) := by rw [hv, hs]; clear hv hs; omega
  rw [this, Nat.add_mul_mod_self_left]
  exact Nat.mod_eq_of_lt (by omega)

/-! ### OnesCount64. -/
def ocA (x m : Int) : Int := IntKind.wrap .u64 ((BitVec.ofInt (IntKind.bits .u64) x &&& BitVec.ofInt (IntKind.bits .u64) m).toNat : Int)
def ocS (x : Int) (k : Nat) : Int := Int.fdiv x (2 ^ (min k (IntKind.bits .u64)))
def oc1 (x : Int) : Int := IntKind.wrap .u64 (ocA (ocS x 1) 6148914691236517205 + ocA x 6148914691236517205)
def oc2 (x : Int) : Int := IntKind.wrap .u64 (ocA (ocS x 2) 3689348814741910323 + ocA x 3689348814741910323)
def oc3 (x : Int) : Int := ocA (IntKind.wrap .u64 (ocS x 4 + x)) 1085102592571150095
def oc4 (x : Int) : Int := IntKind.wrap .u64 (x + ocS x 8)
def oc5 (x : Int) : Int := IntKind.wrap .u64 (x + ocS x 16)
def oc6 (x : Int) : Int := IntKind.wrap .u64 (x + ocS x 32)
theorem Ones_form (x : Int) : fn_math_bits_OnesCount64 x = some (IntKind.wrap .i64 ((BitVec.ofInt (IntKind.bits .i64) (IntKind.wrap .i64 (oc6 (oc5 (oc4 (oc3 (oc2 (oc1 x))))))) &&& BitVec.ofInt (IntKind.bits .i64) 127).toNat : Int)) := rfl
theorem ocA_eq (x m : Nat) (M : Int) (hM : M = (m : Int)) (hx : x < 18446744073709551616) (hm : m < 18446744073709551616) : ocA (x : Int) M = ((x &&& m : Nat) : Int) := by
  rw [hM]
  exact andU x m hx hm
theorem ocS_eq (x k : Nat) (hk : k < 64) : ocS (x : Int) k = ((x / 2 ^ k : Nat) : Int) := by
  unfold ocS
  have h1 : min k (IntKind.bits .u64) = k := Nat.min_eq_left (Nat.le_of_lt hk)
  have hp : ((2 : Int) ^ k) = ((2 ^ k : Nat) : Int) := by simp
  rw [h1, hp, Int.fdiv_eq_ediv_of_nonneg _ (Int.natCast_nonneg _)]
  rfl
theorem and_le (x m : Nat) : x &&& m ≤ m := Nat.and_le_right
theorem oc1_eq (x : Nat) (hx : x < 18446744073709551616) : oc1 (x : Int) = ((s1 6148914691236517205 x : Nat) : Int) := by
  unfold oc1 s1
  rw [ocS_eq x 1 (by decide), ocA_eq (x / 2 ^ 1) 6148914691236517205 6148914691236517205 rfl (by omega) (by decide), ocA_eq x 6148914691236517205 6148914691236517205 rfl hx (by decide), ← Int.natCast_add]
  have b1 := and_le (x / 2 ^ 1) 6148914691236517205
  have b2 := and_le x 6148914691236517205
  exact wrapU _ (by omega)
theorem oc2_eq (x : Nat) (hx : x < 18446744073709551616) : oc2 (x : Int) = ((s2 3689348814741910323 x : Nat) : Int) := by
  unfold oc2 s2
  rw [ocS_eq x 2 (by decide), ocA_eq (x / 2 ^ 2) 3689348814741910323 3689348814741910323 rfl (by omega) (by decide), ocA_eq x 3689348814741910323 3689348814741910323 rfl hx (by decide), ← Int.natCast_add]
  have b1 := and_le (x / 2 ^ 2) 3689348814741910323
  have b2 := and_le x 3689348814741910323
  exact wrapU _ (by omega)
theorem oc3_eq (z : Nat) (hz : z ≤ 7378697629483820646) : oc3 (z : Int) = ((s3 1085102592571150095 z : Nat) : Int) := by
  unfold oc3 s3
  rw [ocS_eq z 4 (by decide), ← Int.natCast_add, wrapU _ (by omega), ocA_eq _ 1085102592571150095 1085102592571150095 rfl (by omega) (by decide)]
theorem s1_lt (x : Nat) : s1 6148914691236517205 x < 18446744073709551616 := by
  have b1 := and_le (x / 2) 6148914691236517205
  have b2 := and_le x 6148914691236517205
  unfold s1; omega
theorem s2_lt (x : Nat) : s2 3689348814741910323 x ≤ 7378697629483820646 := by
  have b1 := and_le (x / 4) 3689348814741910323
  have b2 := and_le x 3689348814741910323
  unfold s2; omega
theorem oc4_eq (w : Nat) (h : w + w / 256 < 18446744073709551616) : oc4 (w : Int) = ((w + w / 256 : Nat) : Int) := by
  unfold oc4
  rw [ocS_eq w 8 (by decide), ← Int.natCast_add]
  exact wrapU _ h
theorem oc5_eq (w : Nat) (h : w + w / 65536 < 18446744073709551616) : oc5 (w : Int) = ((w + w / 65536 : Nat) : Int) := by
  unfold oc5
  rw [ocS_eq w 16 (by decide), ← Int.natCast_add]
  exact wrapU _ h
theorem oc6_eq (w : Nat) (h : w + w / 4294967296 < 18446744073709551616) : oc6 (w : Int) = ((w + w / 4294967296 : Nat) : Int) := by
  unfold oc6
  rw [ocS_eq w 32 (by decide), ← Int.natCast_add]
  exact wrapU _ h
theorem oc7_eq (v : Nat) (h : v < 9223372036854775808) : IntKind.wrap .i64 ((BitVec.ofInt (IntKind.bits .i64) (IntKind.wrap .i64 (v : Int)) &&& BitVec.ofInt (IntKind.bits .i64) 127).toNat : Int) = ((v % 128 : Nat) : Int) := by
  rw [w64 (x := (v : Int)) (by omega) (by omega)]
  show IntKind.wrap .i64 ((BitVec.ofInt 64 (v : Int) &&& BitVec.ofInt 64 ((127 : Nat) : Int)).toNat : Int) = _
  rw [ofInt_nat, ofInt_nat, BitVec.toNat_and, BitVec.toNat_ofNat, BitVec.toNat_ofNat, Nat.mod_eq_of_lt (by omega), Nat.mod_eq_of_lt (by decide), show (127 : Nat) = 2 ^ 7 - 1 from rfl, Nat.and_two_pow_sub_one_eq_mod]
  exact w64 (by omega) (by omega)
theorem Ones_sum (w s : Nat) (h : ∃ p0 p1 p2 p3 p4 p5 p6 p7 : Nat, w = p0 + 256 * (p1 + 256 * (p2 + 256 * (p3 + 256 * (p4 + 256 * (p5 + 256 * (p6 + 256 * (p7 + 256 * 0))))))) ∧ s = p0 + p1 + p2 + p3 + p4 + p5 + p6 + p7 ∧ p0 ≤ 8 ∧ p1 ≤ 8 ∧ p2 ≤ 8 ∧ p3 ≤ 8 ∧ p4 ≤ 8 ∧ p5 ≤ 8 ∧ p6 ≤ 8 ∧ p7 ≤ 8) :
    IntKind.wrap .i64 ((BitVec.ofInt (IntKind.bits .i64) (IntKind.wrap .i64 (oc6 (oc5 (oc4 (w : Int))))) &&& BitVec.ofInt (IntKind.bits .i64) 127).toNat : Int) = ((s : Nat) : Int) := by
  obtain ⟨p0, p1, p2, p3, p4, p5, p6, p7, q, qs, c0, c1, c2, c3, c4, c5, c6, c7⟩ := h
  obtain ⟨r1, r2⟩ := sum4 q qs c0 c1 c2 c3 c4 c5 c6 c7 rfl rfl rfl
  clear q qs c0 c1 c2 c3 c4 c5 c6 c7
  generalize h1 : w + w / 256 = w1 at *
  generalize h2 : w1 + w1 / 65536 = w2 at *
  generalize h3 : w2 + w2 / 4294967296 = w3 at *
  rw [oc4_eq w (by omega), h1, oc5_eq w1 (by omega), h2, oc6_eq w2 (by omega), h3, oc7_eq w3 r2, r1]
theorem Ones_eq (x : Nat) (hx : x < 18446744073709551616) : fn_math_bits_OnesCount64 (x : Int) = some ((pc 64 x : Nat) : Int) := by
  rw [Ones_form, oc1_eq x hx, oc2_eq _ (s1_lt x), oc3_eq _ (s2_lt _), three64 x hx]
  exact congrArg some (Ones_sum _ _ (last4 x))
/-- Bits counted one by one. -/
theorem pc_filter : ∀ (n x : Nat), pc n x = ((List.range n).filter (fun i => x.testBit i)).length
  | 0, _ => rfl
  | n + 1, x => by
    have e : (fun i => x.testBit i) ∘ Nat.succ = fun i => (x / 2).testBit i := funext fun i => by
      show x.testBit (i + 1) = _
      rw [Nat.testBit_succ]
    rw [show pc (n + 1) x = x % 2 + pc n (x / 2) from rfl, pc_filter n (x / 2), List.range_succ_eq_map, List.filter_cons, List.filter_map, e]
    have h0 : x.testBit 0 = decide (x % 2 = 1) := Nat.testBit_zero x
    rw [h0]
    by_cases h : x % 2 = 1
    · rw [if_pos (decide_eq_true h), List.length_cons, List.length_map, h]
      omega
    · rw [if_neg (by simpa using h), List.length_map]
      omega
def wsum (l : List Int) : Nat := (l.map fun w => pc 64 w.toNat).sum
theorem mem_cons (w : Int) (l : List Int) (i : Nat) : mem (w :: l) i = if i < 64 then w.toNat.testBit i else mem l (i - 64) := by
  unfold mem
  by_cases h : i < 64
  · rw [if_pos h, Nat.div_eq_of_lt h, Nat.mod_eq_of_lt h]
    rfl
  · rw [if_neg h, show i / 64 = (i - 64) / 64 + 1 by omega, show i % 64 = (i - 64) % 64 by omega]
    rfl
theorem wsum_eq : ∀ l : List Int, ((List.range (64 * l.length)).filter (mem l)).length = wsum l
  | [] => rfl
  | w :: l => by
    rw [show 64 * (w :: l).length = 64 + 64 * l.length by simp; omega, List.range_add, List.filter_append, List.length_append, List.filter_map, List.length_map]
    have e1 : (List.range 64).filter (mem (w :: l)) = (List.range 64).filter (fun i => w.toNat.testBit i) := List.filter_congr fun i hi => by
      rw [mem_cons, if_pos (List.mem_range.1 hi)]
    have e2 : (mem (w :: l)) ∘ (64 + ·) = mem l := funext fun i => by
      show mem (w :: l) (64 + i) = _
      rw [mem_cons, if_neg (by omega), Nat.add_sub_cancel_left]
    rw [e1, e2, wsum_eq l, ← pc_filter]
    simp [wsum]
theorem mems_len {n : Nat} {l : List Int} (h : Ds n l) : (mems n l).length = wsum l := by
  have hl := h.len
  rw [← wsum_eq]
  have := filter_gap (p := mem l) (c := n) (64 * l.length - n) (fun j h1 _ => h.top j h1)
  rw [show n + (64 * l.length - n) = 64 * l.length by omega] at this
  rw [this]
  rfl
theorem pc_le (n x : Nat) : pc n x ≤ n := by
  rw [pc_filter]; exact filter_len _ _
theorem wsum_snoc {l : List Int} {k : Nat} (hk : k < l.length) : wsum (l.take (k + 1)) = wsum (l.take k) + pc 64 (l[k]).toNat := by
  unfold wsum
  rw [take_snoc hk, List.map_append, List.sum_append]
  simp
/-- Count. -/
theorem Count_some {n : Nat} {l : List Int} (h : Ds n l) : fn_dense_Set_Count (some ((n : Int), l)) = some (((mems n l).length : Nat) : Int) := by
  have hn := h.hn
  have hl := h.len
  have hb : ∀ k, k ≤ l.length → wsum (l.take k) ≤ 64 * k := fun k => by
    induction k with
    | zero => intro _; simp [wsum]
    | succ k ih =>
      intro hk
      have := ih (by omega)
      have h2 := pc_le 64 (l[k]).toNat
      rw [wsum_snoc (by omega : k < l.length)]
      omega
  unfold fn_dense_Set_Count
  have hlp : loop (fn_dense_Set_Count_l1 ((n : Int), l)) ((0 : Int), (0 : Int)) = some ((wsum l : Nat) : Int) := by
    have := loop_nat (body := fn_dense_Set_Count_l1 ((n : Int), l)) (fun k : Nat => (((wsum (l.take k) : Nat) : Int), (k : Int))) l.length (b := ((wsum l : Nat) : Int)) ?_ ?_
    · exact this
    · intro k hk
      unfold fn_dense_Set_Count_l1
      have hw := h.wd _ (List.getElem_mem hk)
      unfold Wd at hw
      obtain ⟨x, hx⟩ := Int.eq_ofNat_of_zero_le hw.1
      have ho := Ones_eq x (by omega)
      rw [← hx] at ho
      have hp : l[k].toNat = x := by omega
      have h1 := hb k (by omega)
      have h2 := hb (k + 1) (by omega)
      have e : wsum (l.take (k + 1)) = wsum (l.take k) + pc 64 x := by
        rw [wsum_snoc hk, hp]
      simp only [dlt hk, cond_true, getN hk, ho, Option.bind_some]
      rw [w64s hk (by omega), e, w64 (by omega) (by omega), ← Int.natCast_add]
    · unfold fn_dense_Set_Count_l1
      simp
  simp only [Option.isNone_some, cond_false, Option.bind_some]
  rw [hlp, mems_len h]
  rfl
end Go.Proofs.Ytfdkbceponodmaa
namespace Go.Proofs.Ytfdkbceponodmaa
set_option linter.unusedVariables false
theorem strict_eq : ∀ {xs ys : List Int}, xs.Pairwise (· < ·) → ys.Pairwise (· < ·) → (∀ a, a ∈ xs ↔ a ∈ ys) → xs = ys
  | [], [], _, _, _ => rfl
  | [], y :: ys, _, _, h => by have := (h y).2 (by simp); simp at this
  | x :: xs, [], _, _, h => by have := (h x).1 (by simp); simp at this
  | x :: xs, y :: ys, hx, hy, h => by
    obtain ⟨hx1, hx2⟩ := List.pairwise_cons.1 hx
    obtain ⟨hy1, hy2⟩ := List.pairwise_cons.1 hy
    have e : x = y := by
      have h1 := (h x).1 (by simp)
      have h2 := (h y).2 (by simp)
      rcases List.mem_cons.1 h1 with h1 | h1
      · exact h1
      · rcases List.mem_cons.1 h2 with h2 | h2
        · exact h2.symm
        · have := hy1 x h1; have := hx1 y h2; omega
    subst e
    rw [strict_eq hx2 hy2 (fun a => ?_)]
    constructor
    · intro ha
      rcases List.mem_cons.1 ((h a).1 (by simp [ha])) with e | e
      · subst e; have := hx1 a ha; omega
      · exact e
    · intro ha
      rcases List.mem_cons.1 ((h a).2 (by simp [ha])) with e | e
      · subst e; have := hy1 a ha; omega
      · exact e
theorem compactUpTo_sorted {zs : List Int} (hs : zs.Pairwise (· ≤ ·)) : ∀ m, m ≤ zs.length → (Lib.compactUpTo zs.toArray m).Pairwise (· < ·) ∧ ∀ a, a ∈ Lib.compactUpTo zs.toArray m ↔ a ∈ zs.take m
  | 0, _ => by simp [Lib.compactUpTo]
  | m + 1, h => by
    obtain ⟨h1, h2⟩ := compactUpTo_sorted hs m (by omega)
    have hm : m < zs.length := by omega
    have e : zs.toArray[m]! = zs[m] := by simp [getElem!_pos, hm]
    rw [Lib.compactUpTo_succ, e]
    have htk : zs.take (m + 1) = zs.take m ++ [zs[m]] := List.take_succ_eq_append_getElem hm
    have hle : ∀ a ∈ zs.take m, a ≤ zs[m] := by
      intro a ha
      have := hs.sublist (List.take_sublist (m + 1) zs)
      rw [htk] at this
      exact (List.pairwise_append.1 this).2.2 a ha _ (by simp)
    rw [htk]
    cases hk : Lib.keeps zs.toArray m with
    | false =>
      simp only [Bool.false_eq_true, if_false, List.append_nil]
      refine ⟨h1, fun a => ?_⟩
      rw [h2, List.mem_append]
      have hm0 : m ≠ 0 := by rintro rfl; simp [Lib.keeps] at hk
      have he : zs.toArray[m]! = zs.toArray[m - 1]! := by
        simp [Lib.keeps, hm0] at hk; simpa using hk
      have hp : m - 1 < zs.length := by omega
      have e2 : zs.toArray[m - 1]! = zs[m - 1] := by simp [getElem!_pos, hp]
      rw [e, e2] at he
      constructor
      · exact .inl
      · rintro (h | h)
        · exact h
        · simp at h; rw [h, he]
          exact List.mem_take_iff_getElem.2 ⟨m - 1, by omega, rfl⟩
    | true =>
      simp only [if_true]
      refine ⟨List.pairwise_append.2 ⟨h1, by simp, fun a ha b hb => ?_⟩, fun a => by rw [List.mem_append, List.mem_append, h2]⟩
      simp at hb; subst hb
      have ha' := (h2 a).1 ha
      have hle' := hle a ha'
      rcases Int.lt_or_eq_of_le hle' with h | h
      · exact h
      · exfalso
        obtain ⟨j, hj, rfl⟩ := List.mem_take_iff_getElem.1 ha'
        have hm0 : m ≠ 0 := by omega
        have hp : m - 1 < zs.length := by omega
        have e2 : zs.toArray[m - 1]! = zs[m - 1] := by simp [getElem!_pos, hp]
        simp only [Lib.keeps, e, e2] at hk
        simp [hm0] at hk
        have a1 : zs[j] ≤ zs[m - 1] := by
          rcases Nat.lt_or_ge j (m - 1) with q | q
          · exact List.pairwise_iff_getElem.1 hs j (m - 1) _ _ q
          · have : j = m - 1 := by omega
            subst this; exact Int.le_refl _
        have a2 : zs[m - 1] ≤ zs[m] := List.pairwise_iff_getElem.1 hs (m - 1) m _ _ (by omega)
        omega
theorem compact_sorted {zs : List Int} (hs : zs.Pairwise (· ≤ ·)) : (Lib.compact zs).Pairwise (· < ·) ∧ ∀ a, a ∈ Lib.compact zs ↔ a ∈ zs := by
  have := compactUpTo_sorted hs zs.length (Nat.le_refl _)
  rw [List.take_length] at this
  exact this
end Go.Proofs.Ytfdkbceponodmaa
namespace Go.Proofs.Ytfdkbceponodmaa
set_option linter.unusedVariables false
set_option linter.unusedSimpArgs false
set_option linter.unnecessarySimpa false
def ins (i : Int) : List Int → List Int
  | [] => [i]
  | x :: l => if i < x then i :: x :: l else x :: ins i l
theorem ins_mem (i a : Int) : ∀ l, a ∈ ins i l ↔ a = i ∨ a ∈ l
  | [] => by simp [ins]
  | x :: l => by
    unfold ins
    split
    · simp
    · rw [List.mem_cons, ins_mem i a l, List.mem_cons]
      constructor
      · rintro (h | h | h) <;> simp [h]
      · rintro (h | h | h) <;> simp [h]
theorem ins_rs (i : Int) : ∀ l : List Int, l.Pairwise (· < ·) → i ∉ l → (ins i l).Pairwise (· < ·)
  | [], _, _ => by simp [ins]
  | x :: l, h, hi => by
    obtain ⟨h1, h2⟩ := List.pairwise_cons.1 h
    have hx : i ≠ x := fun e => hi (by simp [e])
    unfold ins
    split
    · rename_i hlt
      refine List.pairwise_cons.2 ⟨fun a ha => ?_, h⟩
      rcases List.mem_cons.1 ha with rfl | ha
      · exact hlt
      · have := h1 a ha; omega
    · refine List.pairwise_cons.2 ⟨fun a ha => ?_, ins_rs i l h2 (fun hm => hi (by simp [hm]))⟩
      rcases (ins_mem i a l).1 ha with rfl | ha
      · omega
      · exact h1 a ha
theorem ins_len (i : Int) : ∀ l : List Int, (ins i l).length = l.length + 1
  | [] => rfl
  | x :: l => by unfold ins; split <;> simp [ins_len i l]
theorem ins_cons (i x : Int) (l : List Int) : ins i (x :: l) = if i < x then i :: x :: l else x :: ins i l := rfl
def rHas (L : List Int) (i : Int) : Bool := decide (i ∈ L)
def rAdd (s : Int) (L : List Int) (i : Int) : List Int := if (0 ≤ i ∧ i < s) ∧ i ∉ L then ins i L else L
def rAddOk (s : Int) (L : List Int) (i : Int) : Bool := decide ((0 ≤ i ∧ i < s) ∧ i ∉ L)
def rDel (L : List Int) (i : Int) : List Int := L.filter (fun x => !decide (x = i))
def rOr (s : Int) (L : List Int) : List Int → List Int × Bool
  | [] => (L, false)
  | x :: l => ((rOr s (rAdd s L x) l).1, rAddOk s L x || (rOr s (rAdd s L x) l).2)
theorem rAdd_len (s : Int) (L : List Int) (i : Int) : (rAdd s L i).length ≤ L.length + 1 := by
  unfold rAdd
  split
  · rw [ins_len]; exact Nat.le_refl _
  · omega
theorem rOr_len (s : Int) : ∀ (l L : List Int), (rOr s L l).1.length ≤ L.length + l.length
  | [], _ => Nat.le_refl _
  | x :: l, L => by
    have h1 := rOr_len s l (rAdd s L x)
    have h2 := rAdd_len s L x
    unfold rOr
    simp only [List.length_cons]
    omega
theorem rOr_snoc (s : Int) (x : Int) : ∀ (l L : List Int), rOr s L (l ++ [x]) = (rAdd s (rOr s L l).1 x, (rOr s L l).2 || rAddOk s (rOr s L l).1 x)
  | [], L => by simp [rOr]
  | y :: l, L => by
    rw [List.cons_append]
    unfold rOr
    rw [rOr_snoc s x l]
    simp [Bool.or_assoc]
theorem rDel_len {L : List Int} (i : Int) : decide ((rDel L i).length < L.length) = decide (i ∈ L) := by
  unfold rDel
  rw [Bool.eq_iff_iff, decide_eq_true_eq, decide_eq_true_eq, List.length_filter_lt_length_iff_exists]
  simp
theorem find_of {i r : Int} : ∀ {L : List Int}, L.Pairwise (· < ·) → ((r = -1 ∧ ∀ x ∈ L, ¬ i ≤ x) ∨ (r ∈ L ∧ i ≤ r ∧ ∀ x ∈ L, i ≤ x → r ≤ x)) → (L.find? (fun x => decide (i ≤ x))).getD (-1) = r
  | [], _, h => by
    rcases h with h | h
    · simp [h.1]
    · simp at h
  | x :: L, hs, h => by
    obtain ⟨h1, h2⟩ := List.pairwise_cons.1 hs
    by_cases hx : i ≤ x
    · rcases h with h | h
      · exact absurd hx (h.2 x (by simp))
      · rw [List.find?_cons_of_pos (by simpa using hx)]
        have := h.2.2 x (by simp) hx
        rcases List.mem_cons.1 h.1 with rfl | h3
        · rfl
        · have := h1 r h3; omega
    · rw [List.find?_cons_of_neg (by simpa using hx)]
      refine find_of h2 ?_
      rcases h with h | h
      · exact .inl ⟨h.1, fun y hy => h.2 y (by simp [hy])⟩
      · refine .inr ⟨?_, h.2.1, fun y hy => h.2.2 y (by simp [hy])⟩
        rcases List.mem_cons.1 h.1 with rfl | h3
        · exact absurd h.2.1 hx
        · exact h3
theorem rAdd_rs {s : Int} {L : List Int} (h : L.Pairwise (· < ·)) (i : Int) : (rAdd s L i).Pairwise (· < ·) := by
  unfold rAdd
  split
  · rename_i h4; exact ins_rs _ _ h h4.2
  · exact h
theorem rAdd_mem {s : Int} {L : List Int} (i x : Int) : x ∈ rAdd s L i ↔ x ∈ L ∨ (x = i ∧ 0 ≤ i ∧ i < s) := by
  unfold rAdd
  split
  · rename_i h4
    rw [ins_mem]
    constructor
    · rintro (h | h)
      · exact .inr ⟨h, h4.1⟩
      · exact .inl h
    · rintro (h | h)
      · exact .inr h
      · exact .inl h.1
  · rename_i h4
    constructor
    · exact .inl
    · rintro (h | ⟨rfl, h⟩)
      · exact h
      · refine Classical.byContradiction fun h5 => h4 ⟨h, h5⟩
theorem rOr_rs (s : Int) : ∀ (l L : List Int), L.Pairwise (· < ·) → (rOr s L l).1.Pairwise (· < ·)
  | [], _, h => h
  | x :: l, L, h => rOr_rs s l _ (rAdd_rs h x)
theorem rOr_mem (s : Int) (x : Int) : ∀ (l L : List Int), x ∈ (rOr s L l).1 ↔ x ∈ L ∨ (x ∈ l ∧ 0 ≤ x ∧ x < s)
  | [], L => by simp [rOr]
  | y :: l, L => by
    unfold rOr
    dsimp only
    rw [rOr_mem s x l, rAdd_mem, List.mem_cons]
    constructor
    · rintro ((h | ⟨h, h2⟩) | ⟨h, h2⟩)
      · exact .inl h
      · subst h; exact .inr ⟨.inl rfl, h2⟩
      · exact .inr ⟨.inr h, h2⟩
    · rintro (h | ⟨h | h, h2⟩)
      · exact .inl (.inl h)
      · subst h; exact .inl (.inr ⟨rfl, h2⟩)
      · exact .inr ⟨h, h2⟩
theorem rOr_ok (s : Int) : ∀ (l L : List Int), (rOr s L l).2 = true ↔ ∃ x ∈ l, (0 ≤ x ∧ x < s) ∧ x ∉ L
  | [], L => by simp [rOr]
  | y :: l, L => by
    unfold rOr
    dsimp only
    rw [Bool.or_eq_true, rOr_ok s l]
    unfold rAddOk
    rw [decide_eq_true_eq]
    constructor
    · rintro (h | ⟨x, h1, h2, h3⟩)
      · exact ⟨y, by simp, h⟩
      · exact ⟨x, by simp [h1], h2, fun h => h3 ((rAdd_mem _ _).2 (.inl h))⟩
    · rintro ⟨x, h1, h2, h3⟩
      by_cases hy : (0 ≤ y ∧ y < s) ∧ y ∉ L
      · exact .inl hy
      · rcases List.mem_cons.1 h1 with rfl | h1
        · exact absurd ⟨h2, h3⟩ hy
        · refine .inr ⟨x, h1, h2, fun h => ?_⟩
          rcases (rAdd_mem _ _).1 h with h | ⟨rfl, h⟩
          · exact h3 h
          · exact hy ⟨h, h3⟩
theorem sub_len {A B : List Int} (hA : A.Pairwise (· < ·)) (hB : B.Pairwise (· < ·)) (h : ∀ x ∈ A, x ∈ B) : A.length ≤ B.length := by
  have e : B.filter (fun x => decide (x ∈ A)) = A := by
    refine strict_eq (List.Pairwise.filter _ hB) hA fun x => ?_
    rw [List.mem_filter, decide_eq_true_eq]
    exact ⟨fun h => h.2, fun hx => ⟨h x hx, hx⟩⟩
  rw [← e]
  exact List.length_filter_le _ _
theorem ins_last {x : Int} : ∀ {A : List Int}, (∀ y ∈ A, y < x) → ins x A = A ++ [x]
  | [], _ => rfl
  | a :: A, h => by
    have := h a (by simp)
    rw [ins_cons, if_neg (by omega), ins_last (fun y hy => h y (by simp [hy]))]
    rfl
end Go.Proofs.Ytfdkbceponodmaa
namespace Go.Proofs.Ytfdkbceponodmaa
open Go.RowKit
set_option linter.unusedVariables false
set_option linter.unusedSimpArgs false
set_option linter.unnecessarySimpa false
end Go.Proofs.Ytfdkbceponodmaa
namespace Go.Proofs.Ytfdkbceponodmaa
open Go.RowKit
set_option linter.unusedVariables false
set_option linter.unusedSimpArgs false
set_option linter.unnecessarySimpa false
/-! ### Words and lists hold the same members. -/
structure Rp (n : Nat) (l : List Int) (L : List Int) : Prop where
  ds : Ds n l
  rs : L.Pairwise (· < ·)
  mm : ∀ x : Int, x ∈ L ↔ 0 ≤ x ∧ mem l x.toNat = true
theorem liN_mem (M : List Nat) (x : Int) : x ∈ liN M ↔ 0 ≤ x ∧ x.toNat ∈ M := by
  unfold liN
  rw [List.mem_map]
  constructor
  · rintro ⟨a, ha, rfl⟩
    exact ⟨Int.natCast_nonneg _, by simpa using ha⟩
  · rintro ⟨h1, h2⟩
    exact ⟨x.toNat, h2, Int.toNat_of_nonneg h1⟩
theorem lt_of_mem {n : Nat} {l : List Int} (h : Ds n l) {k : Nat} (hk : mem l k = true) : k < n := by
  rcases Nat.lt_or_ge k n with h1 | h1
  · exact h1
  · rw [h.top k h1] at hk; cases hk
theorem mems_mem {n : Nat} {l : List Int} (h : Ds n l) (k : Nat) : k ∈ mems n l ↔ mem l k = true := by
  unfold mems
  rw [List.mem_filter, List.mem_range]
  exact ⟨fun h => h.2, fun hk => ⟨lt_of_mem h hk, hk⟩⟩
theorem liN_rs (n : Nat) (l : List Int) : (liN (mems n l)).Pairwise (· < ·) := by
  unfold liN mems
  rw [List.pairwise_map]
  refine List.Pairwise.imp (fun h => ?_) (List.Pairwise.filter (mem l) (List.pairwise_lt_range (n := n)))
  exact Int.ofNat_lt.2 h
theorem Rp.eq {n : Nat} {l L : List Int} (h : Rp n l L) : liN (mems n l) = L :=
  strict_eq (liN_rs n l) h.rs (fun x => by rw [liN_mem, mems_mem h.ds, h.mm])
theorem Rp.len {n : Nat} {l L : List Int} (h : Rp n l L) : (mems n l).length = L.length := by
  rw [← h.eq]; simp [liN]
theorem Rp.le {n : Nat} {l L : List Int} (h : Rp n l L) : L.length ≤ n := by
  rw [← h.len]; exact filter_len _ _
theorem Rp_new {n : Nat} (h : n ≤ 1048576) : Rp n (List.replicate ((n + 63) / 64) 0) [] :=
  ⟨Ds_new h, List.Pairwise.nil, fun x => by simp [mem_rep]⟩
theorem Rp.has {n : Nat} {l L : List Int} (h : Rp n l L) (i : Int) : fn_dense_Set_Has (some ((n : Int), l)) i = some (rHas L i) := by
  rw [Has_some h.ds]
  congr 1
  unfold rHas
  rw [Bool.eq_iff_iff, Bool.and_eq_true, decide_eq_true_eq, decide_eq_true_eq, h.mm]
  constructor
  · exact fun h => ⟨h.1.1, h.2⟩
  · intro h2
    have := lt_of_mem h.ds h2.2
    exact ⟨⟨h2.1, by omega⟩, h2.2⟩
theorem Rp.add {n : Nat} {l L : List Int} (h : Rp n l L) (i : Int) : ∃ l', fn_dense_Set_Add_p0i_ir i n l = some (rAddOk n L i, l') ∧ Rp n l' (rAdd n L i) := by
  obtain ⟨l', h1, h2, h3⟩ := Add_some h.ds i
  have hm := h.mm i
  have e : (decide (0 ≤ i ∧ i < n) && !mem l i.toNat) = rAddOk n L i := by
    unfold rAddOk
    rw [Bool.eq_iff_iff, Bool.and_eq_true, decide_eq_true_eq, decide_eq_true_eq, hm]
    constructor
    · rintro ⟨h5, h6⟩
      exact ⟨h5, fun h7 => by rw [h7.2] at h6; cases h6⟩
    · rintro ⟨h5, h6⟩
      refine ⟨h5, ?_⟩
      cases h7 : mem l i.toNat with
      | false => rfl
      | true => exact absurd ⟨h5.1, h7⟩ h6
  refine ⟨l', by rw [h1, e], h2, ?_, fun x => ?_⟩
  · unfold rAdd
    split
    · rename_i h4
      exact ins_rs _ _ h.rs h4.2
    · exact h.rs
  · rw [h3]
    unfold rAdd
    split
    · rename_i h4
      rw [ins_mem, h.mm, Bool.or_eq_true, decide_eq_true_eq]
      constructor
      · rintro (rfl | h5)
        · exact ⟨h4.1.1, .inr ⟨h4.1, rfl⟩⟩
        · exact ⟨h5.1, .inl h5.2⟩
      · rintro ⟨h5, h6 | h6⟩
        · exact .inr ⟨h5, h6⟩
        · exact .inl (by omega)
    · rename_i h4
      rw [h.mm, Bool.or_eq_true, decide_eq_true_eq]
      constructor
      · exact fun h5 => ⟨h5.1, .inl h5.2⟩
      · rintro ⟨h5, h6 | h6⟩
        · exact ⟨h5, h6⟩
        · have hx : x = i := by omega
          subst hx
          refine ⟨h5, ?_⟩
          cases h7 : mem l x.toNat with
          | true => rfl
          | false => exact absurd ⟨h6.1, fun h8 => by rw [(hm.1 h8).2] at h7; cases h7⟩ h4
theorem Rp.count {n : Nat} {l L : List Int} (h : Rp n l L) : fn_dense_Set_Count (some ((n : Int), l)) = some ((L.length : Nat) : Int) := by
  rw [Count_some h.ds, h.len]
end Go.Proofs.Ytfdkbceponodmaa

/- A part of the proof: what lies ahead of the law. Nothing is claimed here. -/
import Derived.Test.YtfdkbceponodmaaDoorZ3
import Derived.RangeFuncRecord
import Derived.Shelf.Small.Bits
import Derived.Shelf.Small.Wraps
import Derived.Shelf.Strconv.Itoa0
import Derived.Shelf.Sort.Plain
import Derived.Shelf.Slices.Reverse
import Derived.Ground.Names2Prog
import Derived.Shelf.Slices.CompactI
import Derived.Shelf.Slices.SearchI
import Derived.Shelf.Slices.Cells
import Derived.Shelf.Slices.In.SortNone
import Derived.Shelf.Slices.Empties
import Derived.Test.YtfdkbceponodmaaDoorProg
import Derived.Sort.OwnSortedInts
import Derived.Shelf.Spec.SlicesInsert
import Derived.Shelf.Spec.SlicesInsertGrow
import Derived.Shelf.Slices.Delete
import Derived.Shelf.Spec.TrailingZeros
import Derived.Test.YtfdkbceponodmaaDoorRows
namespace Go.Proofs.YtfdkbceponodmaaDoor
open Go.RowKit
set_option linter.unusedVariables false
set_option linter.unusedSimpArgs false
set_option linter.unnecessarySimpa false
set_option linter.unusedSectionVars false
variable [BldA]
/-! ### Marks at the end of a function. -/
def Hp.del (K : Hp) (D : Nat) : Hp := fun n => if n = D then none else K n
theorem Hp.cle_del {K : Hp} {D : Nat} {x : Option (List Deferred)} (h : K D = some (.deferred x)) : K.cle (K.del D) := fun g o v e => by
  unfold cellK Hp.del at *
  by_cases hg : g = D
  · subst hg; rw [h] at e; cases e
  · rw [if_neg hg]; exact e
section
variable {P : Program} {E : En} {n : Nat} {m : List M} {K : Hp} {fr : Frz} {σ : Zt} {ρ : Sl1} {w : World}
theorem Rel.unmark (hr : Rel E fr σ m K ρ w) {K2 : Hp} {w2 : World} (hc : K.cle K2) (hk : fr.K.le K2) (h0 : fr.k0.le K2) (hs : Sep E K2 (σ.atoms fr m) w2) : Rel E fr ⟨σ.base, σ.top, σ.H, σ.Hf, σ.nx, false⟩ m K2 ⟨ρ.f, []⟩ w2 where
  hm := hr.hm
  hK := hk
  nx := hr.nx
  kq := fun e => (by cases e)
  base := hr.base
  dead := hr.dead
  old := hr.old
  top := fun i sv hi => SV.monoC (fun _ _ h => h) hc sv (hr.top i sv hi)
  okH := fun a ha => HA.ok_monoC (fun _ _ h => h) hc (hr.okH a ha)
  okF := hr.okF
  mks := MOk.nil hr.mks.1.1 h0
  sep := hs
theorem marks_leave {fn : Func} {tmps : Array Value} {R : Ending → World → Prop} {L : List Atom} {k0 : Hp} : ∀ (ds : List Deferred) {K : Hp} {w : World}, MOk k0 K ds → Sep E K L w →
    (∀ K2 w2, K.cle K2 → k0.le K2 → Sep E K2 L w2 → ∃ v, (results fn tmps).run P w2 = .ok v w2 ∧ R (.returned v) w2) → LeavesInM Fence.wide 0 P fn tmps R ds .returning w
  | [], K, w, hm, hs, h => h K w (Hp.cle_refl K) hm.1.2 hs
  | d :: ds, K, w, hm, hs, h => by
    obtain ⟨D, rfl, hD, h0⟩ := hm.2.1 d (by simp)
    have hw : w.heap[D]? = some (.deferred (some [])) := hs.sub D _ hD
    have hnd := List.nodup_cons.1 hm.2.2
    refine ⟨by simp, .inl ⟨D, w.putObj D (.deferred none), rfl, run_takeDeferred hw, ?_⟩⟩
    have other : ∀ (k : Nat) (o : Obj), k ≠ D → w.heap[k]? = some o → (w.putObj D (.deferred none)).heap[k]? = some o := fun k o hne e => by rw [World.putObj_heap_other hne]; exact e
    have hs1 : Sep E (K.del D) L (w.putObj D (.deferred none)) := by
      refine Sep.move (w := w) (w' := w.putObj D (.deferred none)) (fun e => e) hs (fun k o e => ?_) (fun k o e e1 => ?_)
      · unfold Hp.del at e
        split at e
        · cases e
        · rename_i hne; exact other k o hne (hs.sub k o e)
      · have hne : k ≠ D := fun e2 => by rw [e2, hD] at e1; cases e1
        exact ⟨by unfold Hp.del; rw [if_neg hne]; exact e1, other k o hne e⟩
    refine marks_leave ds ⟨⟨hm.1.1, fun k o e => ?_⟩, fun d' hd' => ?_, hnd.2⟩ hs1 (fun K2 w2 c1 c2 c3 => h K2 w2 ((Hp.cle_del hD).trans c1) c2 c3)
    · unfold Hp.del
      rw [if_neg (fun e2 => by rw [e2, h0] at e; cases e)]
      exact hm.1.2 k o e
    · obtain ⟨D', rfl, h1, h2⟩ := hm.2.1 d' (List.mem_cons_of_mem _ hd')
      refine ⟨D', rfl, ?_, h2⟩
      unfold Hp.del
      rw [if_neg (fun e => hnd.1 (by rw [← e]; exact hd'))]
      exact h1
end
/-! ### Records of loops. -/
section
variable {P : Program} {E : En} {K : Hp} {L : List Atom} {w : World}
theorem LpA.at {l : Nat} {r : Loop} (h : Sep E K (LpA l r :: L) w) : w.heap[l]? = some (.loop r) := by
  obtain ⟨h1, rfl, hd, hs⟩ := h
  exact hs.sub l _ (Hp.join_right (one_of l _) (hd l _ (one_of l _)))
theorem LpA.put {l : Nat} {r r' : Loop} (h : Sep E K (LpA l r :: L) w) : Sep E K (LpA l r' :: L) (w.putObj l (.loop r')) := by
  have hw := LpA.at h
  have hlt := (Array.getElem?_eq_some_iff.1 hw).1
  refine Sep.turn h (fun e => e) (fun h1 hA hle => ?_)
  obtain rfl := hA
  refine ⟨one l (.loop r'), rfl, fun n o e => ?_, fun n o e e1 => ?_⟩
  · obtain ⟨rfl, rfl⟩ := one_some e
    exact ⟨World.putObj_heap_same hlt, fun e2 => by rw [one_of] at e2; cases e2⟩
  · have hne : n ≠ l := fun e2 => by subst e2; rw [one_of] at e1; cases e1
    rw [World.putObj_heap_other hne]; exact e
theorem enter_inner {l₀ : Nat} {r₀ : Loop} (h : w.heap[l₀]? = some (.loop r₀)) (fn : FuncId) (tmps : Array Value) (ps : Array Tmp) (assign body : Code) :
    (Instr.enterLoop fn tmps ps assign body (some l₀)).run P w =
      .ok (w.heap.size, []) (w.alloc (.loop { state := .ready, pending := none, fn, tmps, params := ps, assign, body, defers := r₀.defers })) := by
  unfold Instr.enterLoop
  simp only [Sem.run_bind, run_getLoop h, run_newObj_alloc, Result.andThen, Sem.run_pure]
/-- A new block of whatever kind. -/
theorem Sep.allocO (h : Sep E K L w) (o : Obj) : Sep E K ((fun hh => hh = one w.heap.size o) :: L) (w.alloc o) :=
  Sep.turn h.emp (fun e => e) (fun h0 ha _ => by
    unfold _root_.Go.Proofs.YtfdkbceponodmaaDoor.emp at ha; subst ha
    refine ⟨one w.heap.size o, rfl, fun n x e => ?_, fun n x e _ => ?_⟩
    · obtain ⟨rfl, rfl⟩ := one_some e
      exact ⟨World.alloc_heap_new w _, fun _ => Array.getElem?_eq_none (Nat.le_refl _)⟩
    · rw [Below.heap_alloc _ _ _ (lt_of_block e)]; exact e)
theorem Sep.known {o : Obj} {b : Nat} (h : Sep E K ((fun hh => hh = one b o) :: L) w) : Sep E (K.join (one b o)) L w ∧ K b = none := by
  obtain ⟨h1, rfl, hd, hs⟩ := h
  exact ⟨hs, hd b _ (one_of b o)⟩
end
/-! ### A round. -/
def busyR (r : Loop) : Loop := { r with state := .busy, pending := none }
/-- What a frame stands within. -/
def RdOk (E : En) (fr : Frz) : Prop := ∀ l, E.rd = some l → ∃ r, LpA l r ∈ fr.F
section
variable {R : Type} {P : Program} {E : En} {n : Nat} {m m' : List M} {K K' : Hp} {fr : Frz} {σ σ' : Zt} {ρ ρ' : Sl1} {w w' : World}
/-- What a piece of code does, run at states. -/
def Fok (P : Program) (n : Nat) (c : Code) (f : Hn P → Zt → (R : Type) → (Exit → Hn P → Zt → Option R) → Option R) : Prop :=
  ∀ (R : Type) (E : En) (fr : Frz), RdOk E fr → ∀ (h : Hn P) (σ : Zt) (k : Exit → Hn P → Zt → Option R) (r : R) (m : List M) (K : Hp) (ρ : Sl1) (w : World) (Q : Exit → Act → World → Prop), f h σ R k = some r → Rel E fr σ m K ρ w →
    (∀ e h' σ' m' K' ρ' w', Rel E fr σ' m' K' ρ' w' → Same σ σ' → k e h' σ' = some r → Q e (act1 n ρ') w') → c.wpIn (wideR E.rd) 0 P Q (act1 n ρ) w
def JOk (J : Rn P) : Prop := ∀ n c, Fok P n c (fun h σ R k => J n c R h σ k)
def setV : List Nat → List Value → Sl0 → Sl0
  | p :: ps, x :: xs, f => setV ps xs (upd f p x)
  | _, _, f => f
theorem frm_set {ρ : Sl0} {p : Nat} {v : Value} : (frm n ρ).setIfInBounds p v = frm n (upd ρ p v) := by
  have h := congrArg Act.tmps (Go.Proofs.YtfdkbceponodmaaDoor.put_act n ρ p v)
  unfold act Act.put at h
  exact h
theorem frm_foldl : ∀ (ps : List Nat) (xs : List Value) (ρ : Sl0), (ps.zip xs).foldl (fun t (q : Nat × Value) => t.setIfInBounds q.1 q.2) (frm n ρ) = frm n (setV ps xs ρ)
  | [], xs, ρ => rfl
  | p :: ps, [], ρ => rfl
  | p :: ps, x :: xs, ρ => by
    show (ps.zip xs).foldl _ ((frm n ρ).setIfInBounds p x) = _
    rw [frm_set]
    exact frm_foldl ps xs (upd ρ p x)
theorem setPs_rel : ∀ (ps : List Nat) {xs : List SV} {us : List Value} {f : Nat → SV} {ρ : Sl0}, SV.relL m K xs us → (∀ i, SV.rel m K (f i) (ρ i)) → ∀ i, SV.rel m K (setPs ps xs f i) (setV ps us ρ i)
  | [], xs, us, f, ρ, h, hf, i => hf i
  | p :: ps, [], us, f, ρ, h, hf, i => by
    obtain rfl := relL_nil h
    exact hf i
  | p :: ps, x :: xs, us, f, ρ, h, hf, i => by
    obtain ⟨u, r, rfl, h1, h2⟩ := relL_cons h
    refine setPs_rel ps (us := r) (ρ := upd ρ p u) h2 (fun j => ?_) i
    show SV.rel m K (bif Nat.beq j p then x else f j) (bif Nat.beq j p then u else ρ j)
    cases Nat.beq j p with
    | true => exact h1
    | false => exact hf j
theorem relL_len2 : ∀ {xs : List SV} {us : List Value}, SV.relL m K xs us → us.length = xs.length
  | [], us, h => by obtain rfl := relL_nil h; rfl
  | x :: xs, us, h => by
    obtain ⟨u, r, rfl, h1, h2⟩ := relL_cons h
    simp [relL_len2 h2]
theorem yldRun_ok {J : Rn P} (hJ : JOk J) {c : SV} {xs : List SV} {h : Hn P} {k : Hn P → Zt → Bool → Option R} {r : R} (hh : yldRun J σ c xs h k = some r) (hr : Rel E fr σ m K ρ w) {us : List Value} {v : Value} (hv : SV.rel m K c v) (hxs : SV.relL m K xs us) {X : Ending → World → Prop}
    (hX : ∀ h' σ' m' K' w' b, Rel E fr σ' m' K' ρ w' → Same σ σ' → k h' σ' b = some r → X (.returned (.bool b)) w') :
    ∃ l, v = .func (.yield l) #[] #[] ∧ ∃ fn tmps ao bo, (Instr.yield l us.toArray).run P w = .ok (.round l fn tmps ao bo) w ∧ RoundIn (wideR E.rd) 0 P l fn tmps ao bo w X := by
  unfold yldRun at hh
  split at hh
  · rename_i i n0 vs0 ps ao bo
    obtain ⟨l, rr, ρ0, rfl, hm, ht, hp, ha, hb, hvs⟩ := hv
    replace hh := bift hh; obtain ⟨hlen, hh⟩ := hh
    have hlen := Nat.eq_of_beq_eq_true hlen
    split at hh
    · rename_i H hq
      obtain ⟨a, ha', hmem, hperm⟩ := pick_spec hq
      obtain rfl := lpR_eq ha'
      have hsub : ∀ a ∈ H, a ∈ σ.H := fun a ha => hperm.symm.subset (List.mem_cons_of_mem _ ha)
      -- the record, ahead
      have hs0 : Sep E K (LpA l (LSt.ready.cr rr) :: (H.map (HA.conc m) ++ σ.fz fr)) w := by
        have := Sep.perm ((hperm.map (HA.conc m)).append_right (σ.fz fr)) hr.toSep
        simpa only [List.map_cons, HA.conc, hm, List.cons_append] using this
      have hw := LpA.at hs0
      have hy := run_yield (P := P) (args := us.toArray) hw (by
        show us.toArray.size = rr.params.size
        rw [hp, List.size_toArray, relL_len2 hxs, hlen])
      refine ⟨l, rfl, _, _, _, _, hy, roundIn_of_wpIn trivial ?_⟩
      have htm : (((LSt.ready.cr rr).params.zip us.toArray).foldl (fun tmps (t, a) => tmps.setIfInBounds t a) (LSt.ready.cr rr).tmps) = frm n0 (setV ps.toList us ρ0) := by
        show ((rr.params.zip us.toArray).foldl _ rr.tmps) = _
        rw [hp, ht, ← Array.foldl_toList, Array.toList_zip]
        exact frm_foldl ps.toList us ρ0
      rw [htm]
      show rr.assign.wpIn (wideR (some l)) 0 P _ (act1 n0 ⟨setV ps.toList us ρ0, []⟩) w
      rw [ha]
      have hE : ∀ (L : List Atom) (K : Hp) (w : World), Sep E K L w → Sep { E with rd := some l } K L w := fun L K w => Sep.rd (E := E) (E' := { E with rd := some l }) (fun w h => h)
      have hE' : ∀ (L : List Atom) (K : Hp) (w : World), Sep { E with rd := some l } K L w → Sep E K L w := fun L K w => Sep.rd (E := { E with rd := some l }) (E' := E) (fun w h => h)
      have mid : ∀ (A B C : List Atom) (x : Atom), (A ++ (B ++ x :: C)).Perm (x :: (A ++ (B ++ C))) := fun A B C x => by
        rw [← List.append_assoc, ← List.append_assoc]; exact List.perm_middle
      have hrel : Rel { E with rd := some l } ⟨m, K, ⟨setV ps.toList us ρ0, []⟩, fun _ => false, LpA l (LSt.ready.cr rr) :: fr.F, K⟩ ⟨setPs ps.toList xs vs0, [], H, σ.Hf, σ.nx, false⟩ m K ⟨setV ps.toList us ρ0, []⟩ w := by
        refine ⟨⟨List.prefix_refl m, Hp.le_refl K, hr.nx, fun e => (by cases e), fun i => setPs_rel ps.toList hxs hvs i, fun i e => (by cases e), fun i _ => .inr rfl, fun i sv e => (by cases e), fun a ha => hr.okH a (hsub a ha), fun a ha => hr.toPur.all a (List.mem_append_right _ ha), MOk.nil hr.mks.gk (Hp.le_refl K)⟩, ?_⟩
        show Sep _ K (H.map (HA.conc m) ++ (σ.Hf.map (HA.conc m) ++ (LpA l (LSt.ready.cr rr) :: fr.F))) w
        refine hE _ _ _ (Sep.perm (mid _ _ _ _).symm ?_)
        rw [hr.toPur.fz']
        exact hs0
      refine hJ n0 ao _ { E with rd := some l } ⟨m, K, ⟨setV ps.toList us ρ0, []⟩, fun _ => false, LpA l (LSt.ready.cr rr) :: fr.F, K⟩ (by intro l2 e; cases e; exact ⟨_, List.mem_cons_self⟩) h _ _ r m K _ w _ hh hrel (fun e h' σ1 m1 K1 ρ1 w1 h1 h2 h3 => ?_)
      cases e with
      | normal =>
        have hs1 : Sep E K1 (LpA l (LSt.ready.cr rr) :: (σ1.H.map (HA.conc m1) ++ (σ1.Hf.map (HA.conc m) ++ fr.F))) w1 := Sep.perm (mid _ _ _ _) (hE' _ _ _ h1.sep)
        have hw1 := LpA.at hs1
        refine ⟨w1.putObj l (.loop (busyR rr)), run_beginRound hw1 rfl, ?_⟩
        have hs2 := LpA.put (r' := (busyR rr)) hs1
        have hrel2 : Rel { E with rd := some l } ⟨m, K, ⟨setV ps.toList us ρ0, []⟩, fun _ => false, LpA l (busyR rr) :: fr.F, K⟩ σ1 m1 K1 ρ1 (w1.putObj l (.loop (busyR rr))) :=
          ⟨⟨h1.hm, h1.hK, h1.nx, h1.kq, h1.base, h1.dead, h1.old, h1.top, h1.okH, h1.okF, h1.mks⟩, hE _ _ _ (Sep.perm (mid _ _ _ _).symm hs2)⟩
        show (LSt.ready.cr rr).body.wpIn (wideR (some l)) 0 P _ (act1 n0 ρ1) _
        rw [show (LSt.ready.cr rr).body = bo from hb]
        refine hJ n0 bo _ { E with rd := some l } ⟨m, K, ⟨setV ps.toList us ρ0, []⟩, fun _ => false, LpA l (busyR rr) :: fr.F, K⟩ (by intro l2 e; cases e; exact ⟨_, List.mem_cons_self⟩) h' σ1 _ r m1 K1 ρ1 _ _ h3 hrel2 (fun e2 h'' σ2 m2 K2 ρ2 w2 g1 g2 g3 => ?_)
        have hs3 : Sep E K2 (LpA l (busyR rr) :: (σ2.H.map (HA.conc m2) ++ (σ2.Hf.map (HA.conc m) ++ fr.F))) w2 := Sep.perm (mid _ _ _ _) (hE' _ _ _ g1.sep)
        have hw3 := LpA.at hs3
        have back : ∀ (s : LSt) (b : Bool) (jump : Option Code), exLst e2 = some (b, s) → b = jump.isNone → s.cr rr = { busyR rr with state := if jump.isNone then .ready else .done, pending := jump } →
            ∃ v w', (Instr.endRound l jump).run P w2 = .ok v w' ∧ X (.returned v) w' := fun s b jump e1 e2 e3 => by
          subst e2
          rw [e1] at g3
          simp only at g3
          refine ⟨_, _, run_endRound jump hw3, ?_⟩
          refine hX h'' ⟨σ.base, σ.top, .lp i s :: σ2.H, σ.Hf, σ2.nx, false⟩ m2 K2 _ _ ?_ ⟨rfl, rfl⟩ g3
          have hm2 : m <+: m2 := g1.hm
          have hK2 : K.le K2 := g1.hK
          have hm2' : ∀ (i : Nat) (x : M), m[i]? = some x → m2[i]? = some x := fun _ _ k => pre_get hm2 k
          refine ⟨⟨hr.hm.trans hm2, hr.hK.trans hK2, g1.nx, fun e => (by cases e), hr.base, hr.dead, hr.old, fun i sv hi => SV.mono hm2' hK2 sv (hr.top i sv hi), fun a ha => ?_, hr.okF, hr.mks.mono hK2⟩, ?_⟩
          · rcases List.mem_cons.1 ha with rfl | ha
            · exact ⟨l, rr, hm2' _ _ hm⟩
            · exact g1.okH a ha
          · have := LpA.put (r' := s.cr rr) hs3
            have hHf : σ2.Hf = σ.Hf := (h2.trans g2).2
            rw [hHf, hr.toPur.fz'] at this
            show Sep E K2 ((HA.lp i s :: σ2.H).map (HA.conc m2) ++ (σ.Hf.map (HA.conc fr.m) ++ fr.F)) _
            simp only [List.map_cons, HA.conc, hm2' _ _ hm, List.cons_append]
            rw [e3] at this ⊢
            exact this
        cases e2 with
        | normal => exact back .ready true none rfl rfl rfl
        | ret => exact back .ret false (some .ret) rfl rfl rfl
        | exit id => exact back (.exit id) false (some (.exit id)) rfl rfl rfl
        | goto t => cases g3
        | panic ch => cases g3
        | outgrown => cases g3
      | exit id => cases h3
      | goto t => cases h3
      | ret => cases h3
      | panic ch => cases h3
      | outgrown => cases h3
    · cases hh
  · cases hh
/-- Another post where an operation leaves. -/
theorem wpIn_post {F : Fence} {N : Nat} {o : Oper} {a : Act} {w : World} {X : Act → World → Prop} {Q Q' : Exit → Act → World → Prop} (hq : ∀ e a w, Q e a w → e ≠ .normal → Q' e a w) (hh : o.wpIn F N P a w X Q) : o.wpIn F N P a w X Q' := by
  unfold Oper.wpIn at *
  refine ⟨hh.1, ?_⟩
  have hh := hh.2
  have lo : LetsOut Q → LetsOut Q' := fun ⟨a, w, h⟩ => ⟨a, w, hq _ _ _ h nofun⟩
  generalize (o.semAt F.round a.eval).run P w = r at *
  cases r with
  | ok x w' =>
    cases x <;> simp only [Oper.uponIn] at hh ⊢ <;>
      first
        | exact hh
        | exact ⟨hh.1, CallsIn.mono hh.2 (fun e w'' he => by cases e <;> first | exact he | exact hq _ _ _ he nofun | exact lo he)⟩
        | exact ⟨hh.1, RowsIn.mono hh.2 (fun _ _ he => he)⟩
        | exact ⟨hh.1, RoundIn.mono hh.2 (fun e w'' he => by cases e <;> first | exact he | exact hq _ _ _ he nofun | exact lo he)⟩
        | exact hh.elim
  | halt x w' => cases x <;> simp only [Oper.uponIn] at hh ⊢ <;> first | exact hq _ _ _ hh nofun | exact lo hh | exact hh
/-- A list of plain operations ahead of others. -/
theorem wpListIn_app {r : Option Nat} {ops : Array Oper} {Q : Exit → Act → World → Prop} {rest : List Oper} : ∀ {l : List Oper} {a : Act} {w : World}, l.all nodf = true → wpLs P ops (fun e a w => e = .normal ∧ wpListIn (wideR r) 0 P ops Q rest a w) l a w → wpListIn (wideR r) 0 P ops Q (l ++ rest) a w
  | [], a, w, _, h => h.2
  | o :: l, a, w, hd, h => by
    simp only [List.all_cons, Bool.and_eq_true] at hd
    unfold wpLs at h
    rw [List.cons_append]
    unfold wpListIn
    split
    · rename_i hw; rw [if_pos hw] at h
      exact wpIn_post (fun e a w h hne => absurd h.1 hne) (Oper.wpIn_mono (fun a w h => wpListIn_app hd.2 h) (wpIn_of_wp hd.1 h))
    · rename_i hw; rw [if_neg hw] at h
      exact ⟨fun _ _ => trivial, wpListIn_app hd.2 h⟩
theorem relL_map {f : Operand → SV} {g : Operand → Value} (hf : ∀ x, SV.rel m K (f x) (g x)) : ∀ l : List Operand, SV.relL m K (l.map f) (l.map g)
  | [] => rfl
  | x :: l => ⟨_, _, rfl, hf x, relL_map hf l⟩
theorem yop_ok {J : Rn P} (hJ : JOk J) {o : Oper} {h : Hn P} {k : Hn P → Zt → Option R} {r : R} {ops : Array Oper} {rest : List Oper} {Q : Exit → Act → World → Prop} (hh : yop J n o h σ k = some r) (hr : Rel E fr σ m K ρ w)
    (hk : ∀ h' σ' m' K' ρ' w', Rel E fr σ' m' K' ρ' w' → Same σ σ' → k h' σ' = some r → wpListIn (wideR E.rd) 0 P ops Q rest (act1 n ρ') w') : wpListIn (wideR E.rd) 0 P ops Q (o :: rest) (act1 n ρ) w := by
  unfold yop at hh
  split at hh
  · rename_i d c args ats t pos af
    obtain ⟨l, hv, fn, tmps, ao, bo, hy, hround⟩ := yldRun_ok hJ hh hr (hr.toPur.ev n c) (relL_map (fun x => hr.toPur.evr n x) args.toList)
      (X := fun e w'' => match e with
        | .returned v => wpListIn (wideR E.rd) 0 P ops Q rest ((act1 n ρ).put (some d) v) w''
        | .panicked chain => Q (.panic chain) (act1 n ρ) w''
        | .outgrown => LetsOut Q)
      (fun h' σ' m' K' w' b h1 h2 h3 => by
        show wpListIn _ _ _ _ _ _ ((act1 n ρ).put (some d) (.bool b)) _
        rw [put_act1]
        exact hk h' _ m' K' _ w' (h1.set (d := d) (sv := .bool b) (v := .bool b) rfl) h2 h3)
    unfold wpListIn
    rw [if_pos (by simp [Region.wanted])]
    refine ⟨fun _ _ => trivial, ?_⟩
    rw [semR rfl, eval_act1]
    have hrun : (execOp (Go.Proofs.YtfdkbceponodmaaDoor.ev n ρ.f) ⟨some d, .call ⟨.value c, args, ats⟩, t, pos, af, none⟩).run P w = .ok (.round l fn tmps ao bo) w := by
      have e : (args.toList.map (Go.Proofs.YtfdkbceponodmaaDoor.ev n ρ.f)).toArray = args.map (Go.Proofs.YtfdkbceponodmaaDoor.ev n ρ.f) := Array.ext' (by rw [Array.toList_map])
      rw [e] at hy
      have hv' : Go.Proofs.YtfdkbceponodmaaDoor.ev n ρ.f c = .func (.yield l) #[] #[] := hv
      simp [execOp, resolve, Deferred.ofValue, hv', invoke, hy]
    rw [hrun, Oper.uponIn_round]
    refine ⟨fun hh => (by cases (show false = true from hh)), hround.mono (fun e w'' he => ?_)⟩
    cases e <;> exact he
  · cases hh
theorem slA_look : ∀ {vs : List SV} {us : List Value} {j i : Nat} {sv : SV}, SV.relL m K vs us → look (slA j vs) i = some sv → ∃ k u, i = j + k ∧ us[k]? = some u ∧ SV.rel m K sv u
  | [], us, j, i, sv, h, hl => by cases hl
  | v :: vs, us, j, i, sv, h, hl => by
    obtain ⟨u, q, rfl, h1, h2⟩ := relL_cons h
    change (bif Nat.beq j i then some v else look (slA (j + 1) vs) i) = some sv at hl
    cases hb : Nat.beq j i with
    | true =>
      rw [hb] at hl
      cases hl
      exact ⟨0, u, (Nat.eq_of_beq_eq_true hb).symm, rfl, h1⟩
    | false =>
      rw [hb] at hl
      obtain ⟨k, u', e1, e2, e3⟩ := slA_look (j := j + 1) h2 hl
      exact ⟨k + 1, u', by omega, by simpa using e2, e3⟩
theorem res_none {fn : Func} {tmps : Array Value} (h : fn.results.isEmpty = true) : ∃ v, (results fn tmps).run P w = .ok v w := by
  have h' : fn.results = #[] := by simpa using h
  refine ⟨.tuple #[], ?_⟩
  unfold results
  simp [h']
theorem rg_core {J : Rn P} (hJ : JOk J) {ps : Array Nat} {ao bo : Code} {h0 : Hn P} {k : Exit → Hn P → Zt → Option R} {r : R} {Q : Exit → Act → World → Prop} {q : ItFn P} {c : Code} (hc : q.fn.body = some c) {cs : List SV} {us : List Value} (hus : SV.relL m K cs us)
    (hres : q.fn.results.isEmpty = true) (hlen : cs.length + 1 ≤ q.fn.ntmps)
    (hh : J q.fn.ntmps c R h0 ⟨fun _ => .any, slA 0 (.yld σ.nx n σ.get ps ao bo :: cs), .lp σ.nx .ready :: σ.H, σ.Hf, σ.nx + 1, false⟩ (fun e h σ' =>
          bif exOver e then (match pick (HA.lpR σ.nx) σ'.H with
            | some (s, H) => LSt.go s k h ⟨σ.base, σ.top, H, σ.Hf, σ'.nx, false⟩
            | none => none) else none) = some r)
    (hr : Rel E fr σ m K ρ w) {l : Nat} {mark : List Deferred} {K1 : Hp} {w1 : World} {fn1 : FuncId} {D : Nat}
    (hs1 : Sep E K1 (LpA l { state := .ready, pending := none, fn := fn1, tmps := frm n ρ.f, params := ps, assign := ao, body := bo, defers := D } :: σ.atoms fr m) w1) (hK1 : K.le K1) (hm1 : MOk fr.k0 K1 (mark ++ ρ.ds))
    (hQ : ∀ e h' σ' m' K' ρ' w', Rel E fr σ' m' K' ρ' w' → Same σ σ' → k e h' σ' = some r → Q e (act1 n ρ') w') :
    CallsIn (wideR E.rd) 0 P q.f (#[.func (.yield l) #[] #[]] ++ us.toArray) w1 (rangePost (wideR E.rd) 0 P l Q { act1 n ρ with defers := mark ++ (act1 n ρ).defers }) := by
  obtain ⟨r1, hr1⟩ : ∃ r1 : Loop, r1 = { state := .ready, pending := none, fn := fn1, tmps := frm n ρ.f, params := ps, assign := ao, body := bo, defers := D } := ⟨_, rfl⟩
  rw [← hr1] at hs1
  obtain ⟨args, hargs⟩ : ∃ args : Array Value, args = (Value.func (.yield l) #[] #[] :: us).toArray := ⟨_, rfl⟩
  have hargs' : (#[.func (.yield l) #[] #[]] ++ us.toArray : Array Value) = args := by rw [hargs]; exact Array.ext' (by simp)
  rw [hargs']
  have hp := pre_app m [M.loop l r1]
  have hmm : ∀ (i : Nat) (x : M), m[i]? = some x → (m ++ [M.loop l r1])[i]? = some x := fun _ _ k => pre_get hp k
  have hgn : (m ++ [M.loop l r1])[σ.nx]? = some (.loop l r1) := get_new0 hr.nx
  have hsz : args.size ≤ q.fn.ntmps := by
    rw [hargs, List.size_toArray, List.length_cons, relL_len2 hus]
    exact hlen
  have hall : SV.relL (m ++ [M.loop l r1]) K1 (.yld σ.nx n σ.get ps ao bo :: cs) (Value.func (.yield l) #[] #[] :: us) :=
    ⟨_, _, rfl, ⟨l, r1, ρ.f, rfl, hgn, by rw [hr1], by rw [hr1], by rw [hr1], by rw [hr1], fun j => SV.mono hmm hK1 _ (hr.toPur.get j)⟩, SV.monoL hmm hK1 _ hus⟩
  have hrel : Rel E.out0 ⟨m ++ [M.loop l r1], K1, args1 args, fun _ => false, fr.F, K1⟩ ⟨fun _ => .any, slA 0 (.yld σ.nx n σ.get ps ao bo :: cs), .lp σ.nx .ready :: σ.H, σ.Hf, σ.nx + 1, false⟩ (m ++ [M.loop l r1]) K1 (args1 args) w1 := by
    refine ⟨⟨List.prefix_refl _, Hp.le_refl K1, by simp [hr.nx], fun e => (by cases e), fun i => trivial, fun i e => (by cases e), fun i _ => .inr rfl, fun i sv hi => ?_, fun a ha => ?_, fun a ha => HA.ok_mono hmm hK1 (hr.toPur.all a (List.mem_append_right _ ha)), MOk.nil hm1.gk (Hp.le_refl K1)⟩, ?_⟩
    · obtain ⟨j, u, e1, e2, e3⟩ := slA_look hall hi
      have : args1 args i = u := by
        show args0 args i = u
        unfold args0
        rw [e1, Nat.zero_add, hargs]
        simp [e2]
      rw [this]; exact e3
    · rcases List.mem_cons.1 ha with rfl | ha
      · exact ⟨l, r1, hgn⟩
      · exact HA.ok_mono hmm hK1 (hr.okH a ha)
    · show Sep E.out0 K1 ((HA.lp σ.nx .ready :: σ.H).map (HA.conc (m ++ [M.loop l r1])) ++ (σ.Hf.map (HA.conc (m ++ [M.loop l r1])) ++ fr.F)) w1
      have e1 : σ.H.map (HA.conc (m ++ [M.loop l r1])) = σ.H.map (HA.conc m) := map_conc_mono (K := K) hmm hr.okH
      have e2 : σ.Hf.map (HA.conc (m ++ [M.loop l r1])) = σ.Hf.map (HA.conc fr.m) := (map_conc_mono (K := K) hmm (fun a ha => hr.toPur.all a (List.mem_append_right _ ha))).trans hr.toPur.fz'
      rw [List.map_cons, e1, e2]
      have e3 : HA.conc (m ++ [M.loop l r1]) (.lp σ.nx .ready) = LpA l r1 := by
        simp only [HA.conc, hgn]
        rw [hr1]; rfl
      rw [e3]
      exact hs1.out0
  have key : CallsIn Fence.wide 0 P q.f args w1 (rangePost (wideR E.rd) 0 P l Q { act1 n ρ with defers := mark ++ (act1 n ρ).defers }) := by
    refine callsIn_of_wp_marks (F := Fence.wide) (n := 0) q.at_ hc trivial ?_
    rw [frm_args hsz]
    refine hJ q.fn.ntmps c R E.out0 ⟨m ++ [M.loop l r1], K1, args1 args, fun _ => false, fr.F, K1⟩ (fun l2 e => by cases e) h0 _ _ r _ K1 (args1 args) w1 _ hh hrel (fun e h' σ' m' K' ρ' w' h1 h2 h3 => ?_)
    replace h3 := bift h3; obtain ⟨hov, h3⟩ := h3
    have fini : LeavesInM Fence.wide 0 P q.fn (act1 q.fn.ntmps ρ').tmps (rangePost (wideR E.rd) 0 P l Q { act1 n ρ with defers := mark ++ (act1 n ρ).defers }) ρ'.ds .returning w' := by
      split at h3
      · rename_i s H hq
        obtain ⟨a, ha', hmem, hperm⟩ := pick_spec hq
        obtain rfl := lpR_eq ha'
        have hsub : ∀ a ∈ H, a ∈ σ'.H := fun a ha => hperm.symm.subset (List.mem_cons_of_mem _ ha)
        refine marks_leave ρ'.ds h1.mks h1.toSep (fun K2 w2 c1 c2 c3 => ?_)
        obtain ⟨v, hv⟩ := res_none (P := P) (w := w2) (tmps := (act1 q.fn.ntmps ρ').tmps) hres
        refine ⟨v, hv, ?_⟩
        have g := h1.unmark c1 c2 c2 c3
        have hmp : m ++ [M.loop l r1] <+: m' := g.hm
        have hgn' : m'[σ.nx]? = some (.loop l r1) := pre_get hmp hgn
        have hm2 : m <+: m' := hp.trans hmp
        have hm2' : ∀ (i : Nat) (x : M), m[i]? = some x → m'[i]? = some x := fun _ _ k => pre_get hm2 k
        have e2 : σ'.Hf.map (HA.conc (m ++ [M.loop l r1])) = σ.Hf.map (HA.conc fr.m) := by
          rw [h2.2]
          exact (map_conc_mono (K := K) hmm (fun a ha => hr.toPur.all a (List.mem_append_right _ ha))).trans hr.toPur.fz'
        have hs3 : Sep E K2 (LpA l (s.cr r1) :: (H.map (HA.conc m') ++ (σ.Hf.map (HA.conc fr.m) ++ fr.F))) w2 := by
          have := Sep.perm ((hperm.map (HA.conc m')).append_right (σ'.Hf.map (HA.conc (m ++ [M.loop l r1])) ++ fr.F)) c3.back
          rw [e2] at this
          simpa only [List.map_cons, HA.conc, hgn', List.cons_append] using this
        have hnb : (s.cr r1).state ≠ .busy := by cases s <;> simp [LSt.cr]
        refine ⟨_, _, run_endLoop (LpA.at hs3) hnb, ?_⟩
        have hs4 := (LpA.put (r' := { s.cr r1 with state := .exhausted }) hs3).drop
        have hKK : K.le K2 := hK1.trans c2
        have hrel4 : Rel E fr ⟨σ.base, σ.top, H, σ.Hf, σ'.nx, false⟩ m' K2 ⟨ρ.f, mark ++ ρ.ds⟩ (w2.putObj l (.loop { s.cr r1 with state := .exhausted })) :=
          ⟨⟨hr.hm.trans hm2, hr.hK.trans hKK, g.nx, fun e => (by cases e), hr.base, hr.dead, hr.old, fun i sv hi => SV.mono hm2' hKK sv (hr.top i sv hi), fun a ha => g.okH a (hsub a ha), hr.okF, hm1.mono c2⟩, hs4⟩
        cases s with
        | ready => exact hQ .normal h' _ m' K2 ⟨ρ.f, mark ++ ρ.ds⟩ _ hrel4 ⟨rfl, rfl⟩ h3
        | ret => exact wpIn_ret (hQ .ret h' _ m' K2 ⟨ρ.f, mark ++ ρ.ds⟩ _ hrel4 ⟨rfl, rfl⟩ h3)
        | exit id => exact wpIn_exit (hQ (.exit id) h' _ m' K2 ⟨ρ.f, mark ++ ρ.ds⟩ _ hrel4 ⟨rfl, rfl⟩ h3)
      · cases h3
    cases e with
    | normal => exact fini
    | ret => exact fini
    | exit id => cases hov
    | goto t => cases hov
    | panic ch => cases hov
    | outgrown => cases hov
  exact key
theorem rgRun_ok {J : Rn P} (hJ : JOk J) (hrd : RdOk E fr) {g : Operand} {ps : Array Nat} {ao bo : Code} {h : Hn P} {k : Exit → Hn P → Zt → Option R} {r : R} {Q : Exit → Act → World → Prop} (hh : rgRun J n g ps ao bo h σ k = some r) (hr : Rel E fr σ m K ρ w)
    (hQ : ∀ e h' σ' m' K' ρ' w', Rel E fr σ' m' K' ρ' w' → Same σ σ' → k e h' σ' = some r → Q e (act1 n ρ') w') : (Code.rangeFunc g ps ao bo).wpIn (wideR E.rd) 0 P Q (act1 n ρ) w := by
  unfold rgRun at hh
  split at hh
  · rename_i q h0
    split at hh
    · rename_i f cs e
      split at hh
      · rename_i c hc
        replace hh := bift hh; obtain ⟨hb, hh⟩ := hh
        simp only [Bool.and_eq_true] at hb
        obtain ⟨hb1, hb2, hb3⟩ := hb
        obtain rfl := Nat.eq_of_beq_eq_true hb1
        have hv := hr.toPur.ev n g
        rw [e] at hv
        obtain ⟨us, hv, hus⟩ := hv
        refine wpIn_rangeFunc (fun fn hfn => ?_)
        have tail : ∀ {l : Nat} {mark : List Deferred} {K1 : Hp} {w1 : World} {D : Nat}, (Instr.enterLoop fn (act1 n ρ).tmps ps ao bo E.rd).run P w = .ok (l, mark) w1 →
            Sep E K1 (LpA l { state := .ready, pending := none, fn := fn, tmps := frm n ρ.f, params := ps, assign := ao, body := bo, defers := D } :: σ.atoms fr m) w1 → K.le K1 → MOk fr.k0 K1 (mark ++ ρ.ds) →
            ∃ (l : Nat) (mark : List Deferred) (w₁ : World) (d : Deferred) (w₁' : World) (f : FuncId) (args : Array Value) (w₂ : World),
              (Instr.enterLoop fn (act1 n ρ).tmps ps ao bo (wideR E.rd).round).run P w = .ok (l, mark) w₁ ∧
              (resolve (act1 n ρ).eval (rangeCall g l) 0).run P w₁ = .ok d w₁' ∧
              (∀ f', Target.leads P w₁' d.target d.args = some f' → (wideR E.rd).fn f') ∧
              (invoke d.target d.args).run P w₁' = .ok (.enter f args) w₂ ∧
              ((wideR E.rd).depth.isSome = true → 1 ≤ 0) ∧
              CallsIn (wideR E.rd) (0 - 1) P f args w₂ (rangePost (wideR E.rd) 0 P l Q { act1 n ρ with defers := mark ++ (act1 n ρ).defers }) := fun {l mark K1 w1 D} he hs1 hK1 hm1 => by
          refine ⟨l, mark, w1, { target := .fn (.func q.f) us.toArray, args := #[.func (.yield l) #[] #[]] }, w1, q.f, #[.func (.yield l) #[] #[]] ++ us.toArray, w1, he, ?_, fun _ _ => trivial, ?_, fun hh => (by cases (show false = true from hh)), ?_⟩
          · have hv' : Go.Proofs.YtfdkbceponodmaaDoor.ev n ρ.f g = .func (.func q.f) #[] us.toArray := hv
            rw [eval_act1]
            have hc2 : Go.Proofs.YtfdkbceponodmaaDoor.ev n ρ.f (.const (.func (.yield l) #[] #[])) = .func (.yield l) #[] #[] := rfl
            simp [resolve, Deferred.ofValue, hv', hc2]
          · exact q.ent _ _
          · exact rg_core hJ hc hus hb2 (Nat.le_of_ble_eq_true hb3) hh hr hs1 hK1 hm1 hQ
        cases hE : E.rd with
        | none =>
          rw [hE] at tail
          obtain ⟨s1, hD⟩ := (hr.toSep.allocO (.deferred (some []))).known
          have s2 := s1.allocO (.loop { state := .ready, pending := none, fn := fn, tmps := frm n ρ.f, params := ps, assign := ao, body := bo, defers := w.heap.size })
          rw [World.size_alloc] at s2
          refine tail (run_enterLoop_outer fn _ ps ao bo) s2 (Hp.le_join _ _) ⟨⟨hr.mks.1.1, hr.mks.1.2.trans (Hp.le_join _ _)⟩, fun d hd => ?_, ?_⟩
          · rcases List.mem_append.1 hd with hd | hd
            · simp only [List.mem_singleton] at hd
              subst hd
              refine ⟨w.heap.size, rfl, Hp.join_right (one_of _ _) hD, ?_⟩
              cases hk0 : fr.k0 w.heap.size with
              | none => rfl
              | some x => rw [hr.mks.1.2 _ _ hk0] at hD; cases hD
            · obtain ⟨D', e1, e2, e3⟩ := hr.mks.2.1 d hd
              exact ⟨D', e1, Hp.le_join _ _ _ _ e2, e3⟩
          · refine List.nodup_cons.2 ⟨fun hd => ?_, hr.mks.2.2⟩
            obtain ⟨D', e1, e2, e3⟩ := hr.mks.2.1 _ hd
            simp only [Deferred.mk.injEq, Target.collected.injEq, and_true] at e1
            rw [← e1, hD] at e2
            cases e2
        | some l0 =>
          rw [hE] at tail
          obtain ⟨r0, hmem⟩ := hrd l0 hE
          have hw0 : w.heap[l0]? = some (.loop r0) := by
            obtain ⟨i, hi⟩ := List.getElem?_of_mem (show LpA l0 r0 ∈ σ.atoms fr m from List.mem_append_right _ (List.mem_append_right _ hmem))
            exact LpA.at (Sep.front i hi hr.toSep)
          exact tail (enter_inner hw0 fn _ ps ao bo) (hr.toSep.allocO _) (Hp.le_refl K) (by simpa using hr.mks)
      · cases hh
    · cases hh
  · cases hh
end
end Go.Proofs.YtfdkbceponodmaaDoor
namespace Go.Proofs.YtfdkbceponodmaaDoor
open Go.RowKit
set_option linter.unusedVariables false
set_option linter.unusedSimpArgs false
set_option linter.unnecessarySimpa false
set_option linter.unusedSectionVars false
variable [BldA]
section
variable {R : Type} {P : Program} {E : En} {n : Nat} {m m' : List M} {K K' : Hp} {fr : Frz} {σ σ' : Zt} {ρ ρ' : Sl1} {w w' : World}
theorem joinN_ok {c : Code} {f : Hn P → Zt → (R : Type) → (Exit → Hn P → Zt → Option R) → Option R} (hf : Fok P n c f) (hrd : RdOk E fr) {s : Sh} {act W : List Nat} {a b : Hn P} {k : Hn P → Zt → Option R} {r : R} {Q : Exit → Act → World → Prop} (h : joinN f s act W a b σ k = some r) (hr : Rel E fr σ m K ρ w)
    (hQ : ∀ h' σ' m' K' ρ' w', Rel E fr σ' m' K' ρ' w' → Same σ σ' → k h' σ' = some r → Q .normal (Go.Proofs.YtfdkbceponodmaaDoor.act1 n ρ') w') : c.wpIn (wideR E.rd) 0 P Q (Go.Proofs.YtfdkbceponodmaaDoor.act1 n ρ) w := by
  unfold joinN at h
  obtain ⟨x, hx, h⟩ := ob h
  refine hf _ E ⟨m, K, ρ, fun _ => false, fr.F, fr.k0⟩ hrd a (σ.frz act) _ x m K ρ w Q hx (hr.frz act) (fun e h' σ' m' K' ρ' w' h1 h2 h3 => ?_)
  cases e with
  | normal =>
    obtain ⟨h'', σ2, m2, K2, g1, g2, g3⟩ := prep_ok h' h3 h1
    have hi : Inn σ fr ⟨m, K, ρ, fun _ => false, fr.F, fr.k0⟩ m K ρ (minus σ.H act) σ2 W := ⟨rfl, rfl, rfl, rfl, rfl, (g2.2.trans h2.2), minus_sub, fun _ _ => rfl⟩
    obtain ⟨σ3, m3, q1, q2, q3⟩ := lay_ok hr hi g3 g1 h
    exact hQ b σ3 m3 K2 ρ' w' q3 q2 q1
  | _ => cases h3
theorem joinX_ok {c : Code} {f : Hn P → Zt → (R : Type) → (Exit → Hn P → Zt → Option R) → Option R} (hf : Fok P n c f) (hrd : RdOk E fr) {s : Sh} {act W : List Nat} {a b : Hn P} {k : Exit → Hn P → Zt → Option R} {r : R} {Q : Exit → Act → World → Prop} (h : joinX f s act W a b σ k = some r) (hr : Rel E fr σ m K ρ w)
    (hQ : ∀ e h' σ' m' K' ρ' w', Rel E fr σ' m' K' ρ' w' → Same σ σ' → k e h' σ' = some r → Q e (Go.Proofs.YtfdkbceponodmaaDoor.act1 n ρ') w') : c.wpIn (wideR E.rd) 0 P Q (Go.Proofs.YtfdkbceponodmaaDoor.act1 n ρ) w := by
  unfold joinX at h
  obtain ⟨o, ho, h⟩ := ob h
  refine hf _ E ⟨m, K, ρ, fun _ => false, fr.F, fr.k0⟩ hrd a (σ.frz act) _ o m K ρ w Q ho (hr.frz act) (fun e h' σ' m' K' ρ' w' h1 h2 h3 => ?_)
  have other : (k e h' (σ.thaw σ' (minus σ.H act) [])).map Sum.inr = some o → Q e (Go.Proofs.YtfdkbceponodmaaDoor.act1 n ρ') w' := fun h3 => by
    rw [Option.map_eq_some_iff] at h3
    obtain ⟨r', h4, rfl⟩ := h3
    cases h
    have hi : Inn σ fr ⟨m, K, ρ, fun _ => false, fr.F, fr.k0⟩ m K ρ (minus σ.H act) σ' [] := ⟨rfl, rfl, rfl, rfl, rfl, h2.2, minus_sub, fun _ _ => rfl⟩
    obtain ⟨q1, q2⟩ := thaw_ok hr hi h1
    exact hQ e h' _ m' K' ρ' w' q2 q1 h4
  cases e with
  | normal =>
    obtain ⟨h'', σ2, m2, K2, g1, g2, g3⟩ := prep_ok h' h3 h1
    rw [Option.map_eq_some_iff] at g1
    obtain ⟨x, g1, rfl⟩ := g1
    have hi : Inn σ fr ⟨m, K, ρ, fun _ => false, fr.F, fr.k0⟩ m K ρ (minus σ.H act) σ2 W := ⟨rfl, rfl, rfl, rfl, rfl, (g2.2.trans h2.2), minus_sub, fun _ _ => rfl⟩
    obtain ⟨σ3, m3, q1, q2, q3⟩ := lay_ok hr hi g3 g1 h
    exact hQ .normal b σ3 m3 K2 ρ' w' q3 q2 q1
  | _ => exact other h3
/-- The head of a loop's round. -/
theorem head_ok {s : Sh} {W : List Nat} {rest : List HA} {x : TL s.ts} (hr : Rel E fr σ m K ρ w) {g : Gt} {f : Nat → SV} {H : List HA} {us : List Atom}
    (hg : s.get f H = some g) (hx : TL.of s.ts g.ds = some x) (hok : ∀ a ∈ H, HA.ok m' K' a) (hf : ∀ i, SV.rel m' K' (f i) (ρ' i)) (hmm : m <+: m') (hKK : K.le K') (hrest : ∀ a ∈ rest, a ∈ σ.H) (hs : Sep E K' (H.map (HA.conc m') ++ (us ++ (rest.map (HA.conc m) ++ σ.fz fr))) w')
    (hds : MOk fr.k0 K' ρ'.ds) (hold : ∀ i, i ∉ W → ρ' i = ρ i) {vs : List (Nat × SV)} {u : Un} (hu : s.un (TL.list s.ts x) σ.nx = some (vs, u)) :
    ∃ m'', Rel E ⟨m, K, ρ, fun i => W.contains i, fr.F, fr.k0⟩ ⟨fun i => bif W.contains i then .any else σ.get i, subT (fillF σ) vs, u.H.map (HA.sub (fillF σ)), rest ++ σ.Hf, u.nx, false⟩ m'' K' ρ' w' := by
  rw [TL.of_list hx] at hu
  have hoo : oldOk s.bl m.length = true := by
    unfold Sh.un at hu
    rw [hr.nx]
    cases ho : oldOk s.bl σ.nx with
    | true => rfl
    | false => rw [ho] at hu; cases hu
  obtain ⟨vs', u', ms, e1, e2, e3, e4, e5, e6, e7, e8⟩ := Sh.get_un hg hok hmm hoo
  rw [hr.nx, hu] at e1
  cases e1
  have hp' := pre_app m ms
  refine ⟨m ++ ms, Rel.subs (σ := ⟨fun i => bif W.contains i then .any else σ.get i, vs, u.H, rest ++ σ.Hf, u.nx, false⟩) (fillF_rel hr.toPur (m' := m ++ ms) (fun _ _ k => pre_get hp' k) hKK) ⟨⟨pre_app m ms, hKK, e2, fun e => (by cases e), fun i => ?_, fun i hi => ?_, fun i hi => ?_, fun i sv hi => slC_look e3 hi _ (hf i), e4, fun a ha => ?_, hds⟩, ?_⟩⟩
  · show SV.rel m K (bif W.contains i then .any else σ.get i) (ρ i)
    cases W.contains i with
    | true => exact trivial
    | false => exact hr.toPur.get i
  · show (bif W.contains i then SV.any else σ.get i) = .any
    have hi : W.contains i = true := hi
    rw [hi]; rfl
  · by_cases hW : i ∈ W
    · exact .inl (by simpa using hW)
    · exact .inr (hold i hW)
  · refine hr.toPur.all a ?_
    rcases List.mem_append.1 ha with ha | ha
    · exact List.mem_append_left _ (hrest a ha)
    · exact List.mem_append_right _ ha
  · have s1 := e6 E _ w' hs
    have s2 : Sep E K' ((g.H.map (HA.conc m') ++ us) ++ (u.H.map (HA.conc (m ++ ms)) ++ (rest.map (HA.conc m) ++ σ.fz fr))) w' := Sep.perm (by
      rw [List.append_assoc]
      refine (perm3 _ _ _).trans (List.Perm.append_left _ (perm3 _ _ _)) ) s1
    show Sep E K' (u.H.map (HA.conc (m ++ ms)) ++ ((rest ++ σ.Hf).map (HA.conc m) ++ fr.F)) w'
    rw [List.map_append, hr.toPur.fz', List.append_assoc]
    exact Sep.drops s2
theorem get_oldOk {s : Sh} {ds : List Dat} {nx : Nat} {o : List (Nat × SV) × Un} (h : s.un ds nx = some o) : oldOk s.bl nx = true := by
  unfold Sh.un at h
  cases ho : oldOk s.bl nx with
  | true => rfl
  | false => rw [ho] at h; cases h
theorem lpRun_ok {c : Code} {f : Hn P → Zt → (R : Type) → (Exit → Hn P → Zt → Option R) → Option R} (hf : Fok P n c f) (hrd : RdOk E fr) {s : Sh} {W : List Nat} {a : Hn P} {k : Exit → Hn P → Zt → Option R} {r : R} {Q : Exit → Act → World → Prop} (h : lpRun f s W a σ k = some r) (hr : Rel E fr σ m K ρ w)
    (hQ : ∀ e h' σ' m' K' ρ' w', Rel E fr σ' m' K' ρ' w' → Same σ σ' → k e h' σ' = some r → Q e (Go.Proofs.YtfdkbceponodmaaDoor.act1 n ρ') w') : (Code.loop c).wpIn (wideR E.rd) 0 P Q (Go.Proofs.YtfdkbceponodmaaDoor.act1 n ρ) w := by
  unfold lpRun at h
  split at h
  · rename_i g hg
    split at h
    · rename_i x0 hx0
      obtain ⟨N, hN⟩ := loop_iter h
      refine wpIn_loop_rounds N ?_
      -- a round's head
      have round : ∀ (N : Nat) (x : TL s.ts) (m1 : List M) (K1 : Hp) (ρ1 : Sl1) (w1 : World) (vs : List (Nat × SV)) (u : Un), iter (lpRound f s W g a σ k) N x = some r → s.un (TL.list s.ts x) σ.nx = some (vs, u) →
          Rel E ⟨m, K, ρ, fun i => W.contains i, fr.F, fr.k0⟩ ⟨fun i => bif W.contains i then .any else σ.get i, subT (fillF σ) vs, u.H.map (HA.sub (fillF σ)), g.H ++ σ.Hf, u.nx, false⟩ m1 K1 ρ1 w1 → Code.roundsIn (wideR E.rd) 0 P c Q N (Go.Proofs.YtfdkbceponodmaaDoor.act1 n ρ1) w1 := by
        intro N
        induction N with
        | zero => intro x m1 K1 ρ1 w1 vs u hi; cases hi
        | succ N ih =>
          intro x m1 K1 ρ1 w1 vs u hi hu hrel
          unfold iter at hi
          obtain ⟨o, ho, hi⟩ := ob hi
          rw [roundsIn_succ]
          unfold lpRound at ho
          rw [hu] at ho
          simp only at ho
          have hgsub : ∀ a ∈ g.H, a ∈ σ.H := by
            obtain ⟨_, _, _, _, _, _, _, e5, _⟩ := Sh.get_un (m := m) (K := K) hg hr.okH (List.prefix_refl m) (by rw [hr.nx]; exact get_oldOk hu)
            exact e5
          refine hf _ E ⟨m, K, ρ, fun i => W.contains i, fr.F, fr.k0⟩ hrd a _ _ o m1 K1 ρ1 w1 _ ho hrel (fun e h' σ' m' K' ρ' w' h1 h2 h3 => ?_)
          have other : e ≠ .normal → (k e h' (σ.thaw σ' g.H W)).map Sum.inr = some o → Q e (Go.Proofs.YtfdkbceponodmaaDoor.act1 n ρ') w' := fun _ h3 => by
            rw [Option.map_eq_some_iff] at h3
            obtain ⟨r', h4, rfl⟩ := h3
            cases hi
            have hii : Inn σ fr ⟨m, K, ρ, fun i => W.contains i, fr.F, fr.k0⟩ m K ρ g.H σ' W := ⟨rfl, rfl, rfl, rfl, rfl, h2.2, hgsub, fun i hi => by simpa using hi⟩
            obtain ⟨q1, q2⟩ := thaw_ok hr hii h1
            exact hQ e h' _ m' K' ρ' w' q2 q1 h4
          cases e with
          | normal =>
            obtain ⟨h'', σ2, m2, K2, g1, g2, g3⟩ := prep_ok h' h3 h1
            rw [Option.map_eq_some_iff] at g1
            obtain ⟨x', g1, rfl⟩ := g1
            have hsame := h2.trans g2
            unfold Zt.pack at g1
            replace g1 := bift g1; obtain ⟨hk, g1⟩ := g1
            split at g1
            · rename_i g' hg'
              cases hu' : s.un (TL.list s.ts x') σ.nx with
              | none =>
                -- the next round would not run
                cases N with
                | zero => cases hi
                | succ N =>
                  unfold iter at hi
                  obtain ⟨o2, ho2, _⟩ := ob hi
                  unfold lpRound at ho2
                  rw [hu'] at ho2
                  cases ho2
              | some q =>
                obtain ⟨vs', u'⟩ := q
                have hii : Inn σ fr ⟨m, K, ρ, fun i => W.contains i, fr.F, fr.k0⟩ m K ρ g.H σ2 W := ⟨rfl, rfl, rfl, rfl, rfl, hsame.2, hgsub, fun i hi => by simpa using hi⟩
                obtain ⟨m'', hrel'⟩ := head_ok (W := W) (rest := g.H) (us := []) hr hg' g1 g3.okH g3.toPur.get g3.hm g3.hK hgsub (by rw [List.nil_append]; exact hii.sep hr g3) g3.mks (fun i hi => by
                  have := g3.old i (keysIn_spec hk hi)
                  rcases this with h4 | h4
                  · exact absurd (by simpa using h4) hi
                  · exact h4) hu'
                exact ih x' m'' K2 ρ' w' vs' u' hi hu' hrel'
            · cases g1
          | exit i => exact other nofun h3
          | goto l => exact other nofun h3
          | ret => exact other nofun h3
          | panic c => exact other nofun h3
          | outgrown => exact other nofun h3
      cases hu : s.un (TL.list s.ts x0) σ.nx with
      | none =>
        cases N with
        | zero => cases hN
        | succ N =>
          unfold iter at hN
          obtain ⟨o2, ho2, _⟩ := ob hN
          unfold lpRound at ho2
          rw [hu] at ho2
          cases ho2
      | some q =>
        obtain ⟨vs, u⟩ := q
        have hu2 := hu
        rw [TL.of_list hx0] at hu2
        obtain ⟨vs', u', ms, e1, e2, e3, e4, e5, e6, e7, e8⟩ := Sh.get_un (m := m) (K := K) hg hr.okH (List.prefix_refl m) (by rw [hr.nx]; exact get_oldOk hu2)
        rw [hr.nx, hu2] at e1
        cases e1
        have hp' := pre_app m ms
        refine round N x0 (m ++ ms) K ρ w vs u hN hu (Rel.subs (σ := ⟨fun i => bif W.contains i then .any else σ.get i, vs, u.H, g.H ++ σ.Hf, u.nx, false⟩) (fillF_rel hr.toPur (m' := m ++ ms) (fun _ _ k => pre_get hp' k) (Hp.le_refl K)) ⟨⟨pre_app m ms, Hp.le_refl K, e2, fun e => (by cases e), fun i => ?_, fun i hi => ?_, fun i hi => .inr rfl, fun i sv hi => slC_look e3 hi _ (hr.toPur.get i), e4, fun a ha => ?_, hr.mks⟩, ?_⟩)
        · show SV.rel m K (bif W.contains i then .any else σ.get i) (ρ i)
          cases W.contains i with
          | true => exact trivial
          | false => exact hr.toPur.get i
        · show (bif W.contains i then SV.any else σ.get i) = .any
          have hi : W.contains i = true := hi
          rw [hi]; rfl
        · refine hr.toPur.all a ?_
          rcases List.mem_append.1 ha with ha | ha
          · exact List.mem_append_left _ (e5 a ha)
          · exact List.mem_append_right _ ha
        · have s1 := e6 E _ w hr.toSep
          show Sep E K (u.H.map (HA.conc (m ++ ms)) ++ ((g.H ++ σ.Hf).map (HA.conc m) ++ fr.F)) w
          rw [List.map_append, hr.toPur.fz', List.append_assoc]
          exact s1
    · cases h
  · cases h
theorem unroll_ok {c : Code} {f : Hn P → Zt → (R : Type) → (Exit → Hn P → Zt → Option R) → Option R} (hf : Fok P n c f) (hrd : RdOk E fr) {k : Exit → Hn P → Zt → Option R} {r : R} {Q : Exit → Act → World → Prop}
    (hQ : ∀ e h' σ' m' K' ρ' w', Rel E fr σ' m' K' ρ' w' → Same σ σ' → k e h' σ' = some r → Q e (Go.Proofs.YtfdkbceponodmaaDoor.act1 n ρ') w') : ∀ (N : Nat) {h : Hn P} {σ1 : Zt} {m : List M} {K : Hp} {ρ : Sl1} {w : World}, unroll (fun h σ k => f h σ _ k) k N h σ1 = some r → Rel E fr σ1 m K ρ w → Same σ σ1 → Code.roundsIn (wideR E.rd) 0 P c Q N (Go.Proofs.YtfdkbceponodmaaDoor.act1 n ρ) w
  | 0, h, σ1, m, K, ρ, w, hh, hr, hs => by cases hh
  | N + 1, h, σ1, m, K, ρ, w, hh, hr, hs => by
    rw [roundsIn_succ]
    unfold unroll at hh
    refine hf _ E fr hrd h σ1 _ r m K ρ w _ hh hr (fun e h' σ' m' K' ρ' w' h1 h2 h3 => ?_)
    cases e with
    | normal => exact unroll_ok hf hrd hQ N h3 h1 (hs.trans h2)
    | exit i => exact hQ _ h' σ' m' K' ρ' w' h1 (hs.trans h2) h3
    | goto i => exact hQ _ h' σ' m' K' ρ' w' h1 (hs.trans h2) h3
    | ret => exact hQ _ h' σ' m' K' ρ' w' h1 (hs.trans h2) h3
    | panic i => exact hQ _ h' σ' m' K' ρ' w' h1 (hs.trans h2) h3
    | outgrown => exact hQ _ h' σ' m' K' ρ' w' h1 (hs.trans h2) h3
theorem onNorm_ok {y : Code} {k : Exit → Hn P → Zt → Option R} {f : Hn P → Zt → Option R} {r : R} {Q : Exit → Act → World → Prop} {σ0 : Zt} (hf : ∀ h' σ' m' K' ρ' w', Rel E fr σ' m' K' ρ' w' → Same σ0 σ' → f h' σ' = some r → y.wpIn (wideR E.rd) 0 P Q (Go.Proofs.YtfdkbceponodmaaDoor.act1 n ρ') w')
    (hQ : ∀ e h' σ' m' K' ρ' w', Rel E fr σ' m' K' ρ' w' → Same σ0 σ' → k e h' σ' = some r → Q e (Go.Proofs.YtfdkbceponodmaaDoor.act1 n ρ') w') : ∀ e h' σ' m' K' ρ' w', Rel E fr σ' m' K' ρ' w' → Same σ0 σ' → onNorm k f e h' σ' = some r → Exit.then (y.wpIn (wideR E.rd) 0 P Q) Q e (Go.Proofs.YtfdkbceponodmaaDoor.act1 n ρ') w' := by
  intro e h' σ' m' K' ρ' w' h1 h2 h3
  cases e with
  | normal => exact hf h' σ' m' K' ρ' w' h1 h2 h3
  | exit i => exact hQ _ h' σ' m' K' ρ' w' h1 h2 h3
  | goto i => exact hQ _ h' σ' m' K' ρ' w' h1 h2 h3
  | ret => exact hQ _ h' σ' m' K' ρ' w' h1 h2 h3
  | panic i => exact hQ _ h' σ' m' K' ρ' w' h1 h2 h3
  | outgrown => exact hQ _ h' σ' m' K' ρ' w' h1 h2 h3
theorem Sep.at_out {L : List Atom} {E : En} {K : Hp} {w : World} (h : Sep E K L w) : Sep E K L w := h
/-- Code run at a state does what is computed. -/
theorem exec_ok {J : Rn P} (hJ : JOk J) : ∀ (c : Code), Fok P n c (fun h σ R k => exec J n c h σ k)
  | .skip => fun R E fr hrd h σ k r m K ρ w Q hh hr hQ => wpIn_skip (hQ _ h σ m K ρ w hr Same.rfl' hh)
  | .ret => fun R E fr hrd h σ k r m K ρ w Q hh hr hQ => wpIn_ret (hQ _ h σ m K ρ w hr Same.rfl' hh)
  | .exit id => fun R E fr hrd h σ k r m K ρ w Q hh hr hQ => wpIn_exit (hQ _ h σ m K ρ w hr Same.rfl' hh)
  | .label l => fun R E fr hrd h σ k r m K ρ w Q hh hr hQ => wpIn_label (hQ _ h σ m K ρ w hr Same.rfl' hh)
  | .scope b => fun R E fr hrd h σ k r m K ρ w Q hh hr hQ => by
    refine wpIn_scope_straight (exec_ok hJ b R E fr hrd h σ _ r m K ρ w _ (show exec J n b h σ (onScope k) = some r from hh) hr (fun e h' σ' m' K' ρ' w' h1 h2 h3 => ?_))
    cases e with
    | goto l => cases h3
    | normal => exact hQ _ h' σ' m' K' ρ' w' h1 h2 h3
    | exit i => exact hQ _ h' σ' m' K' ρ' w' h1 h2 h3
    | ret => exact hQ _ h' σ' m' K' ρ' w' h1 h2 h3
    | panic i => exact hQ _ h' σ' m' K' ρ' w' h1 h2 h3
    | outgrown => exact hQ _ h' σ' m' K' ρ' w' h1 h2 h3
  | .region id ops draw => fun R E fr hrd h σ k r m K ρ w Q hh hr hQ => by
    change (bif !ops.toList.all nodf then none else bif draw then prep h σ fun h σ => preO n ops.toList h σ fun h σ => (match h with | .mix plan fin tail act r => mixS n ops plan fin tail act r σ (k .normal) | .tr t s act a b => trS n ops t s act a b σ (k .normal) | _ => none) else prep h σ fun h σ => yreg J n ops h σ (k .normal)) = some r at hh
    replace hh := biff hh; obtain ⟨hn, hh⟩ := hh
    have hn : ops.toList.all nodf = true := by simpa using hn
    cases draw with
    | false =>
      simp only [cond_false] at hh
      obtain ⟨h1, σ1, m1, K1, hh, g1, hr⟩ := prep_ok h hh hr
      replace hQ : ∀ e h' σ' m' K' ρ' w', Rel E fr σ' m' K' ρ' w' → Same σ1 σ' → k e h' σ' = some r → Q e (act1 n ρ') w' := fun e h' σ' m' K' ρ' w' q1 q2 q3 => hQ e h' σ' m' K' ρ' w' q1 (g1.trans q2) q3
      clear g1
      unfold yreg at hh
      split at hh
      · rename_i q h2
        have key : wpListIn (wideR E.rd) 0 P ops Q (ops.toList.take q ++ ops.toList.drop q) (act1 n ρ) w := by
          have hn1 : (ops.toList.take q).all nodf = true := List.all_eq_true.2 (fun x hx => List.all_eq_true.1 hn x (List.mem_of_mem_take hx))
          have hn2 : (ops.toList.drop q).all nodf = true := List.all_eq_true.2 (fun x hx => List.all_eq_true.1 hn x (List.mem_of_mem_drop hx))
          refine wpListIn_app hn1 ?_
          have := runL_ok (ops := ops) (Q := fun e a w => e = .normal ∧ wpListIn (wideR E.rd) 0 P ops Q (ops.toList.drop q) a w) (ops.toList.take q) 0 hh hr (fun h' σ' m' K' ρ' w' h1 h2 h3 => ?_)
          · simpa using this
          · refine ⟨rfl, ?_⟩
            split at h3
            · rename_i o rest hd
              rw [hd] at hn2 ⊢
              simp only [List.all_cons, Bool.and_eq_true] at hn2
              refine yop_ok hJ h3 h1 (fun h'' σ'' m'' K'' ρ'' w'' g1 g2 g3 => ?_)
              have := runL_ok (ops := ops) (Q := Q) rest 0 g3 g1 (fun h3 σ3 m3 K3 ρ3 w3 b1 b2 b3 => hQ _ h3 σ3 m3 K3 ρ3 w3 b1 ((h2.trans g2).trans b2) b3)
              exact wpListIn_of hn2.2 (by simpa using this)
            · cases h3
        rw [List.take_append_drop] at key
        have := wpIn_region_lit (id := id) (l := ops.toList) (by simpa using key)
        simpa using this
      · have := wpIn_region_lit (id := id) (wpListIn_of (r := E.rd) (n := 0) hn (runL_ok (Q := Q) (ops := ops.toList.toArray) ops.toList 0 (by simpa using hh) hr (fun h' σ' m' K' ρ' w' h1 h2 h3 => hQ _ h' σ' m' K' ρ' w' h1 h2 h3)))
        simpa using this
    | true =>
      simp only [cond_true] at hh
      obtain ⟨h1, σ1, m1, K1, hh, g1, hr⟩ := prep_ok h hh hr
      obtain ⟨h2, σ2, m2, hh, g2, hr⟩ := preO_ok h1 hh hr
      replace hQ : ∀ e h' σ' m' K' ρ' w', Rel E fr σ' m' K' ρ' w' → Same σ2 σ' → k e h' σ' = some r → Q e (act1 n ρ') w' := fun e h' σ' m' K' ρ' w' q1 q2 q3 => hQ e h' σ' m' K' ρ' w' q1 ((g1.trans g2).trans q2) q3
      clear g1 g2
      generalize K1 = K at hr
      generalize m2 = m at hr
      generalize σ2 = σ at hr hh hQ
      split at hh
      · rename_i plan fin tail act' h0
        unfold mixS at hh
        replace hh := bif_and hh; obtain ⟨hm, hB, hh⟩ := hh
        have hB' : mixB .any ops.toList.toArray plan fin tail = true := by simpa using hB
        have hfr := (hr.frz act').drew
        have hplan : ∀ s i, (s, i) ∈ plan → i < ops.toList.length := by
          intro s i hi
          have h0 := hB
          unfold mixB at h0
          simp only [Bool.and_eq_true] at h0
          obtain ⟨_, h1⟩ := h0
          split at h1
          · rename_i l1 hl1
            simpa using mixPlan_lt plan _ _ hl1 s i hi
          · cases h1
        have key := runM_ok (l := ops.toList) (Q := Q) plan hh hfr rfl hplan (fun h' σ' m' K' ρ' w' h1 h2 h3 => by
          have hi : Inn σ fr ⟨m, K, ρ, fun _ => false, fr.F, fr.k0⟩ m K ρ (minus σ.H act') σ' [] := ⟨rfl, rfl, rfl, rfl, rfl, h2.2, minus_sub, fun _ _ => rfl⟩
          obtain ⟨z1, z2⟩ := thaw_ok hr hi h1
          have := runL_ok (ops := ops.toList.toArray) (Q := Q) (picks ops.toList tail) 0 (by simpa using h3) z2 (fun h'' σ'' m'' K'' ρ'' w'' b1 b2 b3 => hQ .normal h'' σ'' m'' K'' ρ'' w'' b1 (z1.trans b2) b3)
          rwa [List.drop_zero] at this)
        have := wp_region_mix (id := id) (Q := Q) plan fin tail hm hB' _ hfr.cfz rfl rfl rfl key hn (r := E.rd) (n := 0)
        simpa using this
      · rename_i t s act' a b
        unfold trS at hh
        replace hh := bif_and hh; obtain ⟨hm, hB, hh⟩ := hh
        obtain ⟨x, hx, hh⟩ := ob hh
        have hfr := (hr.frz act').drew
        have key := runT_ok (l := ops.toList) (F := fun a' w' => wpLs P ops.toList.toArray Q (picks ops.toList []) a' w') t hx hfr rfl (fun h' σ' m' K' ρ' w' h1 h2 h3 => by
          obtain ⟨h'', σ2, m2, K2, g1, g2, g3⟩ := prep_ok h' h3 h1
          have hi : Inn σ fr ⟨m, K, ρ, fun _ => false, fr.F, fr.k0⟩ m K ρ (minus σ.H act') σ2 (s.sl.map (·.1) ++ dsts ops.toList) := ⟨rfl, rfl, rfl, rfl, rfl, (g2.2.trans h2.2), minus_sub, fun _ _ => rfl⟩
          obtain ⟨σ3, m3, q1, q2, q3⟩ := lay_ok hr hi g3 g1 hh
          exact hQ .normal b σ3 m3 K2 ρ' w' q3 q2 q1)
        have := wp_region_tree (id := id) (Q := Q) t [] hm hB _ hfr.cfz rfl key hn (r := E.rd) (n := 0)
        simpa using this
      · cases hh
  | .seq a b => fun R E fr hrd h σ k r m K ρ w Q hh hr hQ => by
    have plain : ∀ h0, exec J n a h0 σ (onNorm k (fun h σ => exec J n b h σ k)) = some r → (Code.seq a b).wpIn (wideR E.rd) 0 P Q (act1 n ρ) w := fun h0 hh =>
      wpIn_seq (exec_ok hJ a R E fr hrd h0 σ _ r m K ρ w _ hh hr (onNorm_ok (σ0 := σ) (fun h' σ' m' K' ρ' w' h1 h2 h3 => exec_ok hJ b R E fr hrd h' σ' k r m' K' ρ' w' Q h3 h1 (fun e h'' σ'' m'' K'' ρ'' w'' q1 q2 q3 => hQ e h'' σ'' m'' K'' ρ'' w'' q1 (h2.trans q2) q3)) hQ))
    cases h with
    | sq mk s act ha hb =>
      have hh : (match Zt.mcs mk σ with | some σ => joinN (fun h σ R k => exec J n a h σ k) s act (s.sl.map (·.1) ++ writes a) ha hb σ (fun h σ => exec J n b h σ k) | none => none) = some r := hh
      split at hh
      · rename_i σ1 hm
        obtain ⟨m1, k1, k2⟩ := mcs_ok hm hr
        refine wpIn_seq (joinN_ok (exec_ok hJ a) hrd hh k2 (fun h' σ' m' K' ρ' w' h1 h2 h3 => ?_))
        exact exec_ok hJ b R E fr hrd h' σ' k r m' K' ρ' w' Q h3 h1 (fun e h'' σ'' m'' K'' ρ'' w'' q1 q2 q3 => hQ e h'' σ'' m'' K'' ρ'' w'' q1 ((k1.trans h2).trans q2) q3)
      · cases hh
    | sx mk s act ha hb =>
      have hh : (match Zt.mcs mk σ with | some σ => joinX (fun h σ R k => exec J n a h σ k) s act (s.sl.map (·.1) ++ writes a) ha hb σ (onNorm k (fun h σ => exec J n b h σ k)) | none => none) = some r := hh
      split at hh
      · rename_i σ1 hm
        obtain ⟨m1, k1, k2⟩ := mcs_ok hm hr
        refine wpIn_seq (joinX_ok (exec_ok hJ a) hrd hh k2 ?_)
        exact onNorm_ok (σ0 := σ1) (fun h' σ' m' K' ρ' w' h1 h2 h3 => exec_ok hJ b R E fr hrd h' σ' k r m' K' ρ' w' Q h3 h1 (fun e h'' σ'' m'' K'' ρ'' w'' q1 q2 q3 => hQ e h'' σ'' m'' K'' ρ'' w'' q1 ((k1.trans h2).trans q2) q3)) (fun e h' σ' m' K' ρ' w' q1 q2 q3 => hQ e h' σ' m' K' ρ' w' q1 (k1.trans q2) q3)
      · cases hh
    | pl h => exact plain h hh
    | nil => exact plain _ hh
    | two _ _ _ => exact plain _ hh
    | tw _ _ _ => exact plain _ hh
    | jn _ _ _ _ _ => exact plain _ hh
    | jx _ _ _ _ _ => exact plain _ hh
    | lp _ _ => exact plain _ hh
    | un _ _ => exact plain _ hh
    | per _ _ _ => exact plain _ hh
    | perb _ _ _ _ => exact plain _ hh
    | mc _ _ _ _ => exact plain _ hh
    | ms _ _ => exact plain _ hh
    | wt _ _ => exact plain _ hh
    | cl _ _ _ => exact plain _ hh
    | c2 _ _ _ _ => exact plain _ hh
    | gp _ _ => exact plain _ hh
    | gj _ _ _ _ _ => exact plain _ hh
    | mix _ _ _ _ _ => exact plain _ hh
    | opn _ _ _ => exact plain _ hh
    | opb _ _ _ => exact plain _ hh
    | cls _ _ _ => exact plain _ hh
    | opp _ _ _ _ => exact plain _ hh
    | ot _ _ => exact plain _ hh
    | cm _ _ _ _ => exact plain _ hh
    | cm2 _ _ _ _ _ => exact plain _ hh
    | tr _ _ _ _ _ => exact plain _ hh
    | yl _ _ => exact plain _ hh
    | rg _ _ => exact plain _ hh
  | .cond c x y => fun R E fr hrd h σ k r m K ρ w Q hh hr hQ => by
    obtain ⟨h1, σ1, m1, K1, g1, g2, g3⟩ := prep_ok h (show prep h σ (fun h σ => condS c (σ.evr n c) h σ (fun h σ => exec J n x h σ k) (fun h σ => exec J n y h σ k)) = some r from hh) hr
    have hv := g3.toPur.evr n c
    have goX : ∀ h2 σ2, Rel E fr σ2 m1 K1 ρ w → Same σ σ2 → exec J n x h2 σ2 k = some r → x.wpIn (wideR E.rd) 0 P Q (act1 n ρ) w := fun h2 σ2 q1 q2 q3 =>
      exec_ok hJ x R E fr hrd h2 σ2 k r m1 K1 ρ w Q q3 q1 (fun e h'' σ'' m'' K'' ρ'' w'' p1 p2 p3 => hQ e h'' σ'' m'' K'' ρ'' w'' p1 (q2.trans p2) p3)
    have goY : ∀ h2 σ2, Rel E fr σ2 m1 K1 ρ w → Same σ σ2 → exec J n y h2 σ2 k = some r → y.wpIn (wideR E.rd) 0 P Q (act1 n ρ) w := fun h2 σ2 q1 q2 q3 =>
      exec_ok hJ y R E fr hrd h2 σ2 k r m1 K1 ρ w Q q3 q1 (fun e h'' σ'' m'' K'' ρ'' w'' p1 p2 p3 => hQ e h'' σ'' m'' K'' ρ'' w'' p1 (q2.trans p2) p3)
    have slot : ∀ (d : Nat) (sv : SV), c = .tmp d → σ1.evr n c = sv → sv ≠ .any → σ1.get d = sv := fun d sv hc he hne => by
      subst hc
      cases hh : Nat.blt d n with
      | false =>
        have : σ1.evr n (.tmp d) = .any := by show (bif Nat.blt d n then σ1.get d else .any) = _; rw [hh]; rfl
        rw [this] at he; exact absurd he.symm hne
      | true =>
        have : σ1.evr n (.tmp d) = σ1.get d := by show (bif Nat.blt d n then σ1.get d else .any) = _; rw [hh]; rfl
        rw [← this]; exact he
    unfold condS at g1
    split at g1
    · rename_i jm w0 e
      rw [e] at hv
      obtain ⟨hj, hv⟩ := hv
      split at g1
      · rename_i t
        have hb : ev n ρ c = .bool t := hv
        rw [hb] at hj
        refine wpIn_cond_split (t := t) (by rw [eval_act1]; exact hb) (fun ht => ?_) (fun ht => ?_)
        · subst ht
          split at g1
          · exact goX _ _ (g3.fix (v := .bool true) hj rfl) (g2.trans ⟨rfl, rfl⟩) g1
          · exact goX _ σ1 g3 g2 g1
          · exact goX _ σ1 g3 g2 g1
        · subst ht
          split at g1
          · exact goY _ _ (g3.fix (v := .bool false) hj rfl) (g2.trans ⟨rfl, rfl⟩) g1
          · exact goY _ σ1 g3 g2 g1
          · exact goY _ σ1 g3 g2 g1
      · cases g1
    · rename_i t e
      rw [e] at hv
      have hb : ev n ρ c = .bool t := hv
      refine wpIn_cond_split (t := t) (by rw [eval_act1]; exact hb) (fun ht => ?_) (fun ht => ?_)
      · subst ht
        split at g1
        · rename_i ha hbn d _
          have hg := slot d _ rfl e nofun
          exact goX ha _ (g3.ref (fun _ _ u hu => by rw [hg] at hu; exact hu) (by rw [hg]; nofun)) (g2.trans ⟨rfl, ref_H.2⟩) g1
        · exact goX _ σ1 g3 g2 g1
        · exact goX _ σ1 g3 g2 g1
      · subst ht
        split at g1
        · rename_i ha hbn d _
          have hg := slot d _ rfl e nofun
          exact goY hbn _ (g3.ref (fun _ _ u hu => by rw [hg] at hu; exact hu) (by rw [hg]; nofun)) (g2.trans ⟨rfl, ref_H.2⟩) g1
        · exact goY _ σ1 g3 g2 g1
        · exact goY _ σ1 g3 g2 g1
    · rename_i tp l ng e
      rw [e] at hv
      obtain ⟨q, hb, hl⟩ := hv
      refine wpIn_cond_split (t := q ^^ ng) (by rw [eval_act1]; exact hb) (fun ht => ?_) (fun ht => ?_)
      · split at g1
        · rename_i ha hbn _
          cases ng with
          | true =>
            rw [Bool.xor_true] at ht
            simp only [cond_true] at g1
            exact goX ha _ g3 g2 (nilb_cons g1)
          | false =>
            rw [Bool.xor_false] at ht
            simp only [cond_false] at g1
            exact goX ha _ g3 g2 (nilb_nil (hl ht) g1)
        · cases g1
      · split at g1
        · rename_i ha hbn _
          cases ng with
          | true =>
            rw [Bool.xor_true] at ht
            simp only [cond_true] at g1
            exact goY hbn _ g3 g2 (nilb_nil (hl (by simpa using ht)) g1)
          | false =>
            rw [Bool.xor_false] at ht
            simp only [cond_false] at g1
            exact goY hbn _ g3 g2 (nilb_cons g1)
        · cases g1
    · cases g1
  | .block id b => fun R E fr hrd h σ k r m K ρ w Q hh hr hQ => by
    have blk : ∀ {R : Type} {k : Exit → Hn P → Zt → Option R} {r : R} {Q : Exit → Act → World → Prop} {fr : Frz} {σ : Zt}, (∀ e h' σ' m' K' ρ' w', Rel E fr σ' m' K' ρ' w' → Same σ σ' → k e h' σ' = some r → Q e (act1 n ρ') w') →
        ∀ e h' σ' m' K' ρ' w', Rel E fr σ' m' K' ρ' w' → Same σ σ' → onBlk id k e h' σ' = some r → Exit.inBlock id Q e (act1 n ρ') w' := by
      intro R k r Q fr σ hQ e h' σ' m' K' ρ' w' h1 h2 h3
      cases e with
      | exit i =>
        change (bif Nat.beq i id then k .normal h' σ' else k (.exit i) h' σ') = some r at h3
        show if i = id then _ else _
        cases hb : Nat.beq i id with
        | true =>
          rw [hb] at h3
          rw [if_pos (Nat.eq_of_beq_eq_true hb)]
          exact hQ _ h' σ' m' K' ρ' w' h1 h2 h3
        | false =>
          rw [hb] at h3
          rw [if_neg (fun e => by rw [e, Nat.beq_refl] at hb; cases hb)]
          exact hQ _ h' σ' m' K' ρ' w' h1 h2 h3
      | normal => exact hQ _ h' σ' m' K' ρ' w' h1 h2 h3
      | goto l => exact hQ _ h' σ' m' K' ρ' w' h1 h2 h3
      | ret => exact hQ _ h' σ' m' K' ρ' w' h1 h2 h3
      | panic i => exact hQ _ h' σ' m' K' ρ' w' h1 h2 h3
      | outgrown => exact hQ _ h' σ' m' K' ρ' w' h1 h2 h3
    have fb : Fok P n (.block id b) (fun h σ R k => exec J n b h σ (onBlk id k)) := fun R E fr hrd h σ k r m K ρ w Q hh hr hQ => by
      refine wpIn_block (exec_ok hJ b R E fr hrd h σ _ r m K ρ w _ hh hr ?_)
      intro e h' σ' m' K' ρ' w' h1 h2 h3
      cases e with
      | exit i =>
        change (bif Nat.beq i id then k .normal h' σ' else k (.exit i) h' σ') = some r at h3
        show if i = id then _ else _
        cases hb : Nat.beq i id with
        | true =>
          rw [hb] at h3
          rw [if_pos (Nat.eq_of_beq_eq_true hb)]
          exact hQ _ h' σ' m' K' ρ' w' h1 h2 h3
        | false =>
          rw [hb] at h3
          rw [if_neg (fun e => by rw [e, Nat.beq_refl] at hb; cases hb)]
          exact hQ _ h' σ' m' K' ρ' w' h1 h2 h3
      | normal => exact hQ _ h' σ' m' K' ρ' w' h1 h2 h3
      | goto l => exact hQ _ h' σ' m' K' ρ' w' h1 h2 h3
      | ret => exact hQ _ h' σ' m' K' ρ' w' h1 h2 h3
      | panic i => exact hQ _ h' σ' m' K' ρ' w' h1 h2 h3
      | outgrown => exact hQ _ h' σ' m' K' ρ' w' h1 h2 h3
    have plain : ∀ h0, exec J n b h0 σ (onBlk id k) = some r → (Code.block id b).wpIn (wideR E.rd) 0 P Q (act1 n ρ) w := fun h0 hh => fb R E fr hrd h0 σ k r m K ρ w Q hh hr hQ
    cases h with
    | jn mk s act ha hb =>
      have hh : (match Zt.mcs mk σ with | some σ => joinN (fun h σ R k => exec J n b h σ (onBlk id k)) s act (s.sl.map (·.1) ++ writes b) ha hb σ (k .normal) | none => none) = some r := hh
      split at hh
      · rename_i σ1 hm
        obtain ⟨m1, k1, k2⟩ := mcs_ok hm hr
        exact joinN_ok fb hrd hh k2 (fun h' σ' m' K' ρ' w' h1 h2 h3 => hQ _ h' σ' m' K' ρ' w' h1 (k1.trans h2) h3)
      · cases hh
    | jx mk s act ha hb =>
      have hh : (match Zt.mcs mk σ with | some σ => joinX (fun h σ R k => exec J n b h σ (onBlk id k)) s act (s.sl.map (·.1) ++ writes b) ha hb σ k | none => none) = some r := hh
      split at hh
      · rename_i σ1 hm
        obtain ⟨m1, k1, k2⟩ := mcs_ok hm hr
        exact joinX_ok fb hrd hh k2 (fun e h' σ' m' K' ρ' w' q1 q2 q3 => hQ e h' σ' m' K' ρ' w' q1 (k1.trans q2) q3)
      · cases hh
    | pl h => exact plain _ hh
    | nil => exact plain _ hh
    | two _ _ _ => exact plain _ hh
    | tw _ _ _ => exact plain _ hh
    | sq _ _ _ _ _ => exact plain _ hh
    | sx _ _ _ _ _ => exact plain _ hh
    | lp _ _ => exact plain _ hh
    | un _ _ => exact plain _ hh
    | per _ _ _ => exact plain _ hh
    | perb _ _ _ _ => exact plain _ hh
    | mc _ _ _ _ => exact plain _ hh
    | ms _ _ => exact plain _ hh
    | wt _ _ => exact plain _ hh
    | cl _ _ _ => exact plain _ hh
    | c2 _ _ _ _ => exact plain _ hh
    | gp _ _ => exact plain _ hh
    | gj _ _ _ _ _ => exact plain _ hh
    | mix _ _ _ _ _ => exact plain _ hh
    | opn _ _ _ => exact plain _ hh
    | opb _ _ _ => exact plain _ hh
    | cls _ _ _ => exact plain _ hh
    | opp _ _ _ _ => exact plain _ hh
    | ot _ _ => exact plain _ hh
    | cm _ _ _ _ => exact plain _ hh
    | cm2 _ _ _ _ _ => exact plain _ hh
    | tr _ _ _ _ _ => exact plain _ hh
    | yl _ _ => exact plain _ hh
    | rg _ _ => exact plain _ hh
  | .loop b => fun R E fr hrd h σ k r m K ρ w Q hh hr hQ => by
    obtain ⟨h1, σ1, m1, K1, g1, g2, g3⟩ := prep_ok h (show prep h σ (fun h σ => match h with
      | .un m r => unroll (fun h σ k => exec J n b h σ k) k m r σ
      | .lp s ha => lpRun (fun h σ R k => exec J n b h σ k) s (s.sl.map (·.1) ++ writes b) ha σ k
      | _ => none) = some r from hh) hr
    have hQ' : ∀ e h' σ' m' K' ρ' w', Rel E fr σ' m' K' ρ' w' → Same σ1 σ' → k e h' σ' = some r → Q e (act1 n ρ') w' := fun e h'' σ'' m'' K'' ρ'' w'' p1 p2 p3 => hQ e h'' σ'' m'' K'' ρ'' w'' p1 (g2.trans p2) p3
    split at g1
    · exact wpIn_loop_rounds _ (unroll_ok (exec_ok hJ b) hrd hQ' _ g1 g3 Same.rfl')
    · exact lpRun_ok (exec_ok hJ b) hrd g1 g3 hQ'
    · cases g1
  | .rangeFunc g ps ao bo => fun R E fr hrd h σ k r m K ρ w Q hh hr hQ => by
    obtain ⟨h1, σ1, m1, K1, g1, g2, g3⟩ := prep_ok h (show prep h σ (fun h σ => rgRun J n g ps ao bo h σ k) = some r from hh) hr
    exact rgRun_ok hJ hrd g1 g3 (fun e h'' σ'' m'' K'' ρ'' w'' p1 p2 p3 => hQ e h'' σ'' m'' K'' ρ'' w'' p1 (g2.trans p2) p3)
  | .goto l => fun R E fr hrd h σ k r m K ρ w Q hh hr hQ => by cases hh
  | .refuse s => fun R E fr hrd h σ k r m K ρ w Q hh hr hQ => by cases hh
theorem execN_ok : ∀ d : Nat, JOk (execN (P := P) d)
  | 0 => fun n c R E fr hrd h σ k r m K ρ w Q hh hr hQ => by cases hh
  | d + 1 => fun n c => exec_ok (execN_ok d) c
end
end Go.Proofs.YtfdkbceponodmaaDoor
namespace Go.Proofs.YtfdkbceponodmaaDoor
open Go.RowKit
set_option linter.unusedVariables false
set_option linter.unusedSimpArgs false
set_option linter.unnecessarySimpa false
set_option linter.unusedSectionVars false
variable [BldA]
/-! ### The end of a function. -/
def resS (P : Program) (n : Nat) (σ : Zt) : List ResultVar → Option (List SV)
  | [] => some []
  | .tmp t :: r => (match resS P n σ r with | some vs => some (σ.ev n (.tmp t) :: vs) | none => none)
  | .cell a ty :: r => (match σ.ev n (.tmp a) with
    | .ptr i o => (match findR (HA.blkR i) (σ.H ++ σ.Hf) with
      | some q => (match ldv P ty q.cs o, resS P n σ r with | some v, some vs => some (v :: vs) | _, _ => none)
      | none => none)
    | _ => none)
def resV : List SV → SV
  | [v] => v
  | vs => .tup vs
def finO (σ : Zt) (rs : List SV) (o : Sh) : Option (TL o.ts) := bif (match rs, o.sl with | [], [] => true | _ :: _, [p] => Nat.beq p.1 0 | _, _ => false) then (match o.get (fun _ => resV rs) σ.H with | some g => TL.of o.ts g.ds | none => none) else none
def finD {P : Program} (σ : Zt) (rs : List SV) : (os : List Sh) → Hn P → Option (OutT os)
  | [a], _ => finO σ rs a
  | [a, b], h => (match h with | .pl _ => (finO σ rs b).map Sum.inr | _ => (finO σ rs a).map Sum.inl)
  | _, _ => none
def finF {P : Program} (n : Nat) (fn : Func) (os : List Sh) (h : Hn P) (σ : Zt) : Option (OutT os) := prep h σ fun h σ => match resS P n σ fn.results.toList with | some rs => finD σ rs os h | none => none
def fin {P : Program} (n : Nat) (fn : Func) (os : List Sh) (e : Exit) (h : Hn P) (σ : Zt) : Option (OutT os) := match e with
  | .normal => finF n fn os h σ
  | .ret => finF n fn os h σ
  | _ => none
/-- What a function computes, out of its code. -/
noncomputable def runF {P : Program} (n : Nat) (fn : Func) (c : Code) (inn : Sh) (os : List Sh) (h : Hn P) (x : TL inn.ts) : Option (OutT os) := match inn.un (TL.list inn.ts x) 0 with
  | some (vs, u) => prep h ⟨fun _ => .any, vs, u.H, [], u.nx, false⟩ fun h σ => exec (execN 4) n c h σ (fin n fn os)
  | none => none
section
variable {P : Program} {E : En} {n : Nat} {m : List M} {K : Hp} {fr : Frz} {σ : Zt} {ρ : Sl1} {w : World}
theorem resS_ok (hr : Rel E fr σ m K ρ w) : ∀ {l : List ResultVar} {rs : List SV}, resS P n σ l = some rs → ∃ us : List Value, SV.relL m K rs us ∧ l.length = us.length ∧ ∀ (j : Nat) (r : ResultVar) (v : Value), l[j]? = some r → us[j]? = some v → RvOk P n (Hold E K (σ.atoms fr m)) ρ r v
  | [], rs, h => by cases h; exact ⟨[], rfl, rfl, fun j r v h => by simp at h⟩
  | .tmp t :: l, rs, h => by
    unfold resS at h
    split at h
    · rename_i vs hvs
      cases h
      obtain ⟨us, h1, h2, h3⟩ := resS_ok hr hvs
      refine ⟨ev n ρ (.tmp t) :: us, ⟨_, us, rfl, hr.toPur.ev n (.tmp t), h1⟩, by simp [h2], fun j r v hj hv => ?_⟩
      cases j with
      | zero => simp at hj hv; subst hj hv; rfl
      | succ j => exact h3 j r v (by simpa using hj) (by simpa using hv)
    · cases h
  | .cell a ty :: l, rs, h => by
    unfold resS at h
    split at h
    · rename_i i o e
      split at h
      · rename_i q hq
        split at h
        · rename_i v vs hv hvs
          cases h
          obtain ⟨us, h1, h2, h3⟩ := resS_ok hr hvs
          obtain ⟨x, hx, hmem⟩ := findR_spec hq
          obtain rfl := blkR_eq hx
          obtain ⟨b, ws, g1, g2, g3⟩ := hr.cls.blk hmem
          obtain ⟨u, g4, g5⟩ := ldv_ok (P := P) (o0 := 0) hv g2 (fun j u hu => by rw [Nat.zero_add]; exact g3 j u hu)
          rw [Nat.zero_add] at g4
          have hev := hr.toPur.ev n (.tmp a)
          rw [e] at hev
          obtain ⟨b', q1, q2⟩ := hev
          rw [g1] at q1; cases q1
          refine ⟨u :: us, ⟨_, us, rfl, g5, h1⟩, by simp [h2], fun j r v hj hv => ?_⟩
          cases j with
          | zero => simp at hj hv; subst hj hv; exact ⟨b, o, q2, g4⟩
          | succ j => exact h3 j r v (by simpa using hj) (by simpa using hv)
        · cases h
      · cases h
    · cases h
theorem mapM_run {C : World → Prop} {w : World} (hw : C w) : ∀ {l : List ResultVar} {us : List Value}, l.length = us.length → (∀ (j : Nat) (r : ResultVar) (v : Value), l[j]? = some r → us[j]? = some v → RvOk P n C ρ r v) → (l.mapM (rvS (frm n ρ))).run P w = .ok us w
  | [], us, h, _ => by
    obtain rfl : us = [] := List.length_eq_zero_iff.1 h.symm
    simp
  | r :: l, us, h, hr => by
    cases us with
    | nil => cases h
    | cons u us =>
      have h1 := rv_run (hr 0 r u rfl rfl) hw
      have h2 := mapM_run hw (l := l) (us := us) (by simpa using h) (fun j r v hj hv => hr (j + 1) r v (by simpa using hj) (by simpa using hv))
      simp [List.mapM_cons, h1, h2]
/-- What a function hands back. -/
def tupV : List Value → Value
  | [v] => v
  | vs => .tuple vs.toArray
theorem res_run {C : World → Prop} {w : World} (hw : C w) {fn : Func} {us : List Value} (hl : fn.results.toList.length = us.length) (h : ∀ (j : Nat) (r : ResultVar) (v : Value), fn.results.toList[j]? = some r → us[j]? = some v → RvOk P n C ρ r v) : (results fn (frm n ρ)).run P w = .ok (tupV us) w := by
  have h1 := mapM_run hw hl h
  rw [results_rvS]
  simp only [Array.mapM_eq_mapM_toList]
  simp only [Sem.run_bind, Sem.run_map, h1, Result.andThen_ok, Sem.run_pure]
  match us with
  | [] => rfl
  | [u] => rfl
  | u :: v :: r =>
    rw [dif_neg (by simp)]
    rfl
theorem resV_rel {rs : List SV} {us : List Value} (h : SV.relL m K rs us) (hne : rs ≠ []) : SV.rel m K (resV rs) (tupV us) := by
  match rs, us, h with
  | [], _, _ => exact absurd rfl hne
  | [v], us, h =>
    obtain ⟨u, q, rfl, h1, h2⟩ := relL_cons h
    obtain rfl := relL_nil h2
    exact h1
  | v :: v2 :: r, us, h =>
    obtain ⟨u, q, rfl, h1, h2⟩ := relL_cons h
    obtain ⟨u2, q2, rfl, h3, h4⟩ := relL_cons h2
    exact ⟨_, rfl, u, _, rfl, h1, u2, q2, rfl, h3, h4⟩
theorem finO_ok {rs : List SV} {us : List Value} {o : Sh} {x : TL o.ts} {K0 : Hp} {m0 : List M} (h : finO σ rs o = some x) (hr : Rel E fr σ m K ρ w) (hrel : SV.relL m K rs us) (hm : m0 <+: m) (ho : oldOk o.bl m0.length = true) (hF : σ.Hf = []) :
    ∃ vs' u' m', o.un (TL.list o.ts x) m0.length = some (vs', u') ∧ m0 <+: m' ∧ m'.length = u'.nx ∧ (∀ a ∈ u'.H, HA.ok m' K a) ∧ resR m' K vs' (tupV us) ∧ Sep E K (u'.H.map (HA.conc m') ++ fr.F) w := by
  unfold finO at h
  replace h := bift h; obtain ⟨hs, h⟩ := h
  split at h
  · rename_i g hg
    obtain ⟨vs, u, ms, e1, e2, e3, e4, e5, e6, e7, e8⟩ := Sh.get_un hg hr.okH hm ho
    rw [TL.of_list h]
    refine ⟨vs, u, m0 ++ ms, e1, pre_app _ _, e2, e4, ?_, ?_⟩
    · split at hs
      · rename_i hsl
        rw [hsl] at e3
        obtain rfl : vs = [] := e3
        obtain rfl := relL_nil hrel
        rfl
      · rename_i v r p hsl
        rw [hsl] at e3
        obtain ⟨sv, q, rfl, g1, g2⟩ := e3
        obtain rfl : q = [] := g2
        exact g1 _ (resV_rel hrel (by simp))
      · cases hs
    · have := e6 E _ w hr.toSep
      have h2 : σ.fz fr = fr.F := by unfold Zt.fz; rw [hF]; rfl
      rw [h2] at this
      have h3 : Sep E K (g.H.map (HA.conc m) ++ (u.H.map (HA.conc (m0 ++ ms)) ++ fr.F)) w := Sep.perm (perm3 _ _ _) this
      exact Sep.drops h3
  · cases h
theorem finD_ok {rs : List SV} {us : List Value} {m0 : List M} (hr : Rel E fr σ m K ρ w) (hrel : SV.relL m K rs us) (hm : m0 <+: m) (hF : σ.Hf = []) : ∀ {os : List Sh} {h0 : Hn P} {r : OutT os}, (∀ o ∈ os, oldOk o.bl m0.length = true) → finD σ rs os h0 = some r →
    ∃ vs' u' m', (outSh os r).1.un (outSh os r).2 m0.length = some (vs', u') ∧ m0 <+: m' ∧ m'.length = u'.nx ∧ (∀ a ∈ u'.H, HA.ok m' K a) ∧ resR m' K vs' (tupV us) ∧ Sep E K (u'.H.map (HA.conc m') ++ fr.F) w
  | [], h0, r, _, h => Empty.elim r
  | [a], h0, r, ho, h => finO_ok (K0 := K) (show finO σ rs a = some r from h) hr hrel hm (ho a (by simp)) hF
  | [a, b], h0, r, ho, h => by
    have key : (finO σ rs b).map Sum.inr = some r ∨ (finO σ rs a).map Sum.inl = some r := by
      cases h0 <;> first | exact .inl h | exact .inr h
    clear h
    rcases key with h | h
    · rw [Option.map_eq_some_iff] at h
      obtain ⟨x, h, rfl⟩ := h
      exact finO_ok (K0 := K) h hr hrel hm (ho b (by simp)) hF
    · rw [Option.map_eq_some_iff] at h
      obtain ⟨x, h, rfl⟩ := h
      exact finO_ok (K0 := K) h hr hrel hm (ho a (by simp)) hF
  | a :: b :: c :: os, h0, r, _, h => by cases h
/-- Slots and arguments, one by one. -/
theorem args_look : ∀ {sl : List (Nat × Kd)} {vs : List (Nat × SV)} {us : List Value} {j N : Nat}, slN j sl N = true → vs.map (·.1) = sl.map (·.1) → slR m K vs us → ∀ i sv, look vs i = some sv → ∃ k u, i = j + k ∧ us[k]? = some u ∧ SV.rel m K sv u
  | [], vs, us, j, N, h1, h2, h3, i, sv, hl => by
    have : vs = [] := by cases vs with | nil => rfl | cons a b => cases h2
    subst this; cases hl
  | p :: sl, vs, us, j, N, h1, h2, h3, i, sv, hl => by
    cases vs with
    | nil => cases h2
    | cons q vs =>
      simp only [List.map_cons, List.cons.injEq] at h2
      simp only [slN, Bool.and_eq_true] at h1
      have hj := Nat.eq_of_beq_eq_true h1.1
      obtain ⟨u, r, rfl, g1, g2⟩ := h3
      change (bif Nat.beq q.1 i then some q.2 else look vs i) = some sv at hl
      cases hb : Nat.beq q.1 i with
      | true =>
        rw [hb] at hl; cases hl
        have := Nat.eq_of_beq_eq_true hb
        exact ⟨0, u, by rw [← this, h2.1, hj]; rfl, rfl, g1⟩
      | false =>
        rw [hb] at hl
        obtain ⟨k, u', e1, e2, e3⟩ := args_look h1.2 h2.2 g2 i sv hl
        exact ⟨k + 1, u', by omega, by simpa using e2, e3⟩
theorem unS_keys {bi : List Nat} : ∀ {sl : List (Nat × Kd)} {u u' : Un} {vs : List (Nat × SV)}, unS bi sl u = some (vs, u') → vs.map (·.1) = sl.map (·.1)
  | [], u, u', vs, h => by cases h; rfl
  | p :: sl, u, u', vs, h => by
    unfold unS at h
    split at h
    · split at h
      · rename_i h2
        cases h
        simp [unS_keys h2]
      · cases h
    · cases h
theorem un_keys {s : Sh} {ds : List Dat} {nx : Nat} {vs : List (Nat × SV)} {u : Un} (h : s.un ds nx = some (vs, u)) : vs.map (·.1) = s.sl.map (·.1) := by
  unfold Sh.un at h
  replace h := (bift h).2
  split at h
  split at h
  · rename_i h1
    split at h
    · cases h; exact unS_keys h1
    · cases h
  · cases h
theorem slR_len : ∀ {vs : List (Nat × SV)} {us : List Value}, slR m K vs us → us.length = vs.length
  | [], us, h => by obtain rfl : us = [] := h; rfl
  | p :: vs, us, ⟨u, r, e, _, h⟩ => by subst e; simp [slR_len h]
end
section
variable {P : Program} {E : En} {n : Nat} {m : List M} {K : Hp} {fr : Frz} {σ : Zt} {ρ : Sl1} {w : World}
theorem resS_kq {b : Bool} : ∀ l : List ResultVar, resS P n ⟨σ.base, σ.top, σ.H, σ.Hf, σ.nx, b⟩ l = resS P n σ l
  | [] => rfl
  | .tmp t :: r => by unfold resS; rw [resS_kq r]; rfl
  | .cell a ty :: r => by unfold resS; rw [resS_kq r]; rfl
theorem finD_kq {b : Bool} {rs : List SV} : ∀ {os : List Sh} {h : Hn P}, finD ⟨σ.base, σ.top, σ.H, σ.Hf, σ.nx, b⟩ rs os h = finD σ rs os h
  | [], h => rfl
  | [a], h => rfl
  | [a, b], h => by cases h <;> rfl
  | a :: b :: c :: os, h => rfl
end
section
variable {P : Program} {n : Nat}
/-- A function answers what is computed of its code. -/
theorem fn_ok {s : Spec} {fn : Func} {c : Code} (hf : P.funcs[s.f]? = some fn) (hb : fn.body = some c) (hn : fn.ntmps = n) (h : Hn P) (hc : (slN 0 s.inn.sl s.inn.sl.length && Nat.ble s.inn.sl.length n) = true) (hold : ∀ ds vs u, s.inn.un ds 0 = some (vs, u) → ∀ o ∈ s.outs, oldOk o.bl u.nx = true)
    (hex : ∀ (x : TL s.inn.ts) r, s.fn x = some r → runF n fn c s.inn s.outs h x = some r) : SpecOk P s := by
  intro x r hx vs u hu m K args hgk hm hok hsl E w F hs
  rw [Bool.and_eq_true] at hc
  obtain ⟨hc1, hc2⟩ := hc
  have hkeys := un_keys hu
  have hlen : args.toArray.size ≤ n := by
    have h1 := slR_len hsl
    have h2 : vs.length = s.inn.sl.length := by have := congrArg List.length hkeys; simpa using this
    simp only [List.size_toArray]
    have := Nat.le_of_ble_eq_true hc2
    omega
  refine callsIn_wide.1 (callsIn_of_wp_marks (F := Fence.wide) (n := 0) hf hb trivial ?_)
  rw [hn, frm_args hlen]
  have hrun := hex x r hx
  unfold runF at hrun
  rw [hu] at hrun
  simp only at hrun
  have hrel : Rel E.out0 ⟨m, K, args1 args.toArray, fun _ => false, F, K⟩ ⟨fun _ => .any, vs, u.H, [], u.nx, false⟩ m K (args1 args.toArray) w := by
    refine ⟨⟨List.prefix_refl m, Hp.le_refl K, hm, fun e => (by cases e), fun i => trivial, fun i e => rfl, fun i _ => .inr rfl, fun i sv hi => ?_, hok, fun a ha => by simp at ha, MOk.nil hgk (Hp.le_refl K)⟩, ?_⟩
    · obtain ⟨k, v, e1, e2, e3⟩ := args_look hc1 hkeys hsl i sv hi
      have : args1 args.toArray i = v := by
        show args0 args.toArray i = v
        unfold args0
        rw [e1, Nat.zero_add]
        simp [e2]
      rw [this]; exact e3
    · exact hs.out0
  obtain ⟨hp, σp, mp, Kp, p1, p2, p3⟩ := prep_ok h hrun hrel
  refine exec_ok (execN_ok 4) c (OutT s.outs) E.out0 ⟨m, K, args1 args.toArray, fun _ => false, F, K⟩ (fun l e => by cases e) hp σp (fin n fn s.outs) r mp Kp _ w _ p1 p3 (fun e h' σ' m' K' ρ' w' h1 h2 h3 => ?_)
  have fini : finF n fn s.outs h' σ' = some r → LeavesInM Fence.wide 0 P fn (act1 n ρ').tmps (fun e w' => ∃ v K' L', e = .returned v ∧ (∃ vs' u' m', (outSh s.outs r).1.un (outSh s.outs r).2 u.nx = some (vs', u') ∧ m <+: m' ∧ m'.length = u'.nx ∧ (∀ a ∈ u'.H, HA.ok m' K' a) ∧ resR m' K' vs' v ∧ L' = u'.H.map (HA.conc m')) ∧ K.le K' ∧ Sep E K' (L' ++ F) w') (act1 n ρ').defers .returning w' := fun h3 => by
    unfold finF at h3
    obtain ⟨h'', σ2, m2, K2, g1, g2, g3⟩ := prep_ok h' h3 h1
    split at g1
    · rename_i rs hrs
      refine marks_leave ρ'.ds g3.mks g3.toSep (fun K3 w3 c1 c2 c3 => ?_)
      have g4 := g3.unmark c1 c2 c2 c3
      rw [← resS_kq (b := false)] at hrs
      rw [← finD_kq (b := false)] at g1
      obtain ⟨us, q1, q2, q3⟩ := resS_ok g4 hrs
      refine ⟨tupV us, res_run (ρ := (⟨ρ'.f, []⟩ : Sl1)) g4.hold q2 q3, ?_⟩
      obtain ⟨vs', u', m'', z1, z2, z3, z4, z5, z6⟩ := finD_ok (m0 := m) g4 q1 g4.hm (((p2.trans h2).trans g2).2) (fun o ho => by rw [hm]; exact hold _ _ _ hu o ho) g1
      rw [hm] at z1
      exact ⟨_, K3, _, rfl, ⟨vs', u', m'', z1, z2, z3, z4, z5, rfl⟩, g4.hK, z6.back⟩
    · cases g1
  cases e with
  | normal => exact fini h3
  | ret => exact fini h3
  | _ => cases h3
end
end Go.Proofs.YtfdkbceponodmaaDoor
namespace Go.Proofs.YtfdkbceponodmaaDoor
open Go.RowKit
set_option linter.unusedVariables false
set_option linter.unusedSimpArgs false
set_option linter.unnecessarySimpa false
set_option linter.unusedSectionVars false
variable [BldA]
mutual
theorem un_nx {bi : List Nat} : ∀ (k : Kd) {u u' : Un} {v : SV}, Kd.un bi k u = some (v, u') → u.nx ≤ u'.nx
  | .any, u, u', v, h => by cases h; exact Nat.le_refl _
  | .dat t, u, u', v, h => by unfold Kd.un at h; split at h <;> cases h; exact Nat.le_refl _
  | .nilp, u, u', v, h => by cases h; exact Nat.le_refl _
  | .nils, u, u', v, h => by cases h; exact Nat.le_refl _
  | .nilf, u, u', v, h => by cases h; exact Nat.le_refl _
  | .ptr j o, u, u', v, h => by unfold Kd.un at h; split at h <;> cases h; exact Nat.le_refl _
  | .own e t, u, u', v, h => by unfold Kd.un at h; split at h <;> cases h; exact Nat.le_add_right _ _
  | .al j, u, u', v, h => by unfold Kd.un at h; split at h <;> cases h; exact Nat.le_refl _
  | .fsl j m, u, u', v, h => by unfold Kd.un at h; split at h <;> cases h; exact Nat.le_refl _
  | .agg ks, u, u', v, h => by
    unfold Kd.un at h; split at h
    · cases h; exact unL_nx ks (by assumption)
    · cases h
  | .tup ks, u, u', v, h => by
    unfold Kd.un at h; split at h
    · cases h; exact unL_nx ks (by assumption)
    · cases h
  | .fn f ks, u, u', v, h => by
    unfold Kd.un at h; split at h
    · cases h; exact unL_nx ks (by assumption)
    · cases h
  | .lit w, u, u', v, h => by cases h; exact Nat.le_refl _
  | .od o, u, u', v, h => by
    unfold Kd.un at h
    replace h := (bift h).2
    split at h
    · split at h
      · cases h; exact Nat.le_add_right _ _
      · cases h
    · cases h
  | .rp j, u, u', v, h => by unfold Kd.un at h; split at h <;> cases h; exact Nat.le_refl _
  | .is j k, u, u', v, h => by
    unfold Kd.un at h; split at h
    · split at h
      · cases h; exact un_nx k (by assumption)
      · cases h
    · cases h
theorem unL_nx {bi : List Nat} : ∀ (ks : List Kd) {u u' : Un} {vs : List SV}, Kd.unL bi ks u = some (vs, u') → u.nx ≤ u'.nx
  | [], u, u', vs, h => by cases h; exact Nat.le_refl _
  | k :: ks, u, u', vs, h => by
    unfold Kd.unL at h; split at h
    · rename_i h1
      split at h
      · rename_i h2; cases h; exact Nat.le_trans (un_nx k h1) (unL_nx ks h2)
      · cases h
    · cases h
end
theorem unS_nx {bi : List Nat} : ∀ (sl : List (Nat × Kd)) {u u' : Un} {vs : List (Nat × SV)}, unS bi sl u = some (vs, u') → u.nx ≤ u'.nx
  | [], u, u', vs, h => by cases h; exact Nat.le_refl _
  | p :: sl, u, u', vs, h => by
    unfold unS at h; split at h
    · rename_i h1
      split at h
      · rename_i h2; cases h; exact Nat.le_trans (un_nx p.2 h1) (unS_nx sl h2)
      · cases h
    · cases h
theorem unB_nx {bi : List Nat} : ∀ (bl : List Bk) (is : List Nat) {u u' : Un}, unB bi bl is u = some u' → u.nx ≤ u'.nx
  | [], [], u, u', h => by cases h; exact Nat.le_refl _
  | [], i :: is, u, u', h => by cases h
  | b :: bl, [], u, u', h => by cases h
  | b :: bl, i :: is, u, u', h => by
    unfold unB at h; split at h
    · rename_i u1 h1
      refine Nat.le_trans ?_ (unB_nx bl is h)
      unfold unB1 at h1
      cases hn : b.nu with
      | true => rw [hn] at h1; cases h1; exact Nat.le_refl _
      | false =>
        rw [hn] at h1; simp only [cond_false] at h1
        cases hlp : b.lp with
        | true => rw [hlp] at h1; simp only [cond_true] at h1; cases h1; exact Nat.le_refl _
        | false =>
        rw [hlp] at h1; simp only [cond_false] at h1
        cases hr : b.rw with
        | some o =>
          rw [hr] at h1
          dsimp only at h1
          split at h1
          · split at h1
            · cases h1; exact Nat.le_succ _
            · cases h1
          · cases h1
        | none =>
        rw [hr] at h1
        dsimp only at h1
        cases hb : b.bu with
        | true =>
          rw [hb] at h1; simp only [cond_true] at h1
          split at h1 <;> cases h1
          exact Nat.le_refl _
        | false =>
          rw [hb] at h1; simp only [cond_false] at h1
          split at h1
          · rename_i h2
            cases h1
            exact Nat.le_trans (unL_nx b.ks h2) (Nat.le_succ _)
          · cases h1
    · cases h
theorem idsB_nx : ∀ (bl : List Bk) (nx : Nat), allOld bl = true → (idsB bl nx).2 = nx + bl.length
  | [], nx, _ => rfl
  | b :: bl, nx, h => by
    simp only [allOld, Bool.and_eq_true] at h
    cases hb : b.old with
    | some i => rw [hb] at h; cases h.1
    | none =>
      simp only [idsB, hb, List.length_cons]
      rw [idsB_nx bl (nx + 1) h.2]
      omega
theorem sh_nx {s : Sh} {ds : List Dat} {vs : List (Nat × SV)} {u : Un} (h : s.un ds 0 = some (vs, u)) (ho : allOld s.bl = true) : s.bl.length ≤ u.nx := by
  unfold Sh.un at h
  replace h := (bift h).2
  have hn := idsB_nx s.bl 0 ho
  split at h
  rename_i bi nx he
  rw [he] at hn
  simp only [Nat.zero_add] at hn
  split at h
  · rename_i h1
    split at h
    · rename_i h2
      cases h
      have := unS_nx s.sl h1
      have := unB_nx s.bl bi h2
      simp only at *
      omega
    · cases h
  · cases h
theorem oldOk_le : ∀ (bl : List Bk) {a b : Nat}, oldOk bl a = true → a ≤ b → oldOk bl b = true
  | [], a, b, h, hab => rfl
  | x :: bl, a, b, h, hab => by
    simp only [oldOk, Bool.and_eq_true] at h ⊢
    refine ⟨?_, oldOk_le bl h.2 hab⟩
    cases ho : x.old with
    | none => rfl
    | some i =>
      have h1 := h.1
      rw [ho] at h1
      simp only [Nat.blt_eq] at h1 ⊢
      omega
def bodyOf (fn : Func) : Code := match fn.body with | some c => c | none => .skip
/-- What is asked of a specification beforehand. -/
def specOk (s : Spec) (fn : Func) : Bool := fn.body.isSome && (slN 0 s.inn.sl s.inn.sl.length && Nat.ble s.inn.sl.length fn.ntmps) && (allOld s.inn.bl && s.outs.all fun o => oldOk o.bl s.inn.bl.length)
/-- A function answers what is computed of its code. -/
theorem fn_is {P : Program} {s : Spec} {fn : Func} (hf : P.funcs[s.f]? = some fn) (h : Hn P) (hc : specOk s fn = true) (hex : (fun x => runF fn.ntmps fn (bodyOf fn) s.inn s.outs h x) = s.fn) : SpecOk P s := by
  unfold specOk at hc
  simp only [Bool.and_eq_true] at hc
  obtain ⟨⟨h1, h2, h2'⟩, h3, h4⟩ := hc
  have hb : fn.body = some (bodyOf fn) := by
    unfold bodyOf
    cases hbd : fn.body with
    | none => rw [hbd] at h1; cases h1
    | some c => rfl
  refine fn_ok hf hb rfl h (by rw [h2, h2']; rfl) (fun ds vs u hu o ho => oldOk_le o.bl (List.all_eq_true.1 h4 o ho) (sh_nx hu h3)) (fun x r hx => ?_)
  rw [← hx]
  exact congrFun hex x
end Go.Proofs.YtfdkbceponodmaaDoor
namespace Go.Proofs.YtfdkbceponodmaaDoor
open Go.RowKit
set_option linter.unusedVariables false
set_option linter.unusedSimpArgs false
set_option linter.unnecessarySimpa false
set_option linter.unusedSectionVars false
/-- What answers true for all that is known of its arguments does so for the caller. -/
theorem walkX [BldA] {P : Program} {s : Spec} {W : World} (hs : SpecOk P s) {x : TL s.inn.ts} {r : OutT s.outs} (hr : s.fn x = some r) (hgk : BldA.gk (Hp.of W)) {vs : List (Nat × SV)} (hun : s.inn.un (TL.list _ x) 0 = some (vs, ⟨[], 0, [], []⟩))
    (hout : (outSh s.outs r).1.un (outSh s.outs r).2 0 = some ([(0, .bool true)], ⟨[], 0, [], []⟩)) {args : List Value} (hsl : slR [] (Hp.of W) vs args) :
    Calls P s.f args.toArray W fun e W' => e = .returned (.bool true) ∧ Below W.heap.size W W' := by
  have h := hs x r hr vs _ hun [] (Hp.of W) args hgk rfl (fun a ha => by cases ha) hsl (En.of W) W [] (Sep.start W)
  refine h.mono fun e W' h => ?_
  obtain ⟨v, K', L', rfl, ⟨vs', u', m', h1, _, _, _, h2, _⟩, h3, h4⟩ := h
  have h1 := h1.symm.trans hout
  cases h1
  obtain rfl : v = .bool true := h2
  exact ⟨rfl, h4.below h3⟩
end Go.Proofs.YtfdkbceponodmaaDoor
namespace Go.Proofs
open Go.Shelf
def Tryd.lays128_ren : Go.Shelf.Ren := ⟨fun | 128 => 70 | n => n, fun | 51 => 94 | 3 => 3 | 4 => 4 | 46 => 78 | 5 => 5 | 9 => 9 | n => n, fun | n => n⟩
theorem Tryd.lays128 : Go.Proofs.Lays.n128 Tryd.prog Tryd.lays128_ren := {
  mixed := by kernel_rfl
  f128 := Tryd.func70.trans (congrArg some (by kernel_rfl))
  t3 := Tryd.underlying3
  a3 := Tryd.isAgg3
  z3 := Tryd.sizeOf3
  v3 := Tryd.zeroValue3
  t4 := Tryd.underlying4
  a4 := Tryd.isAgg4
  z4 := Tryd.sizeOf4
  v4 := Tryd.zeroValue4
  t5 := Tryd.underlying5
  a5 := Tryd.isAgg5
  z5 := Tryd.sizeOf5
  v5 := Tryd.zeroValue5
  t9 := Tryd.underlying9
  a9 := Tryd.isAgg9
  z9 := Tryd.sizeOf9
  v9 := Tryd.zeroValue9
  t46 := Tryd.underlying78
  a46 := Tryd.isAgg78
  z46 := Tryd.sizeOf78
  v46 := Tryd.zeroValue78
  t51 := Tryd.underlying94
  a51 := Tryd.isAgg94
  z51 := Tryd.sizeOf94
  v51 := Tryd.zeroValue94 }
/-- bits.Len32: "Len32 returns the minimum number of bits required to represent x; the result is 0 for x == 0.": IT RETURNS 'Lib.bitLen x'; the world is as it was. ('h0', 'h1': x is a uint32.) (LAID: no walk: one application.) -/
theorem Tryd.bits_Len32 (x : Int) (w : World) (h0 : 0 ≤ x) (h1 : x ≤ 4294967295) :
    Calls Tryd.prog 70 #[.int .u32 x] w fun e w' => e = .returned (.int .i64 (Lib.bitLen x.toNat)) ∧ w' = w := Any.bits_Len32 Tryd.lays128 x w h0 h1
def Tryd.lays125_ren : Go.Shelf.Ren := ⟨fun | 125 => 56 | 128 => 70 | 129 => 71 | n => n, fun | 46 => 78 | 3 => 3 | 51 => 94 | 53 => 63 | 4 => 4 | 5 => 5 | 9 => 9 | n => n, fun | n => n⟩
theorem Tryd.lays125 : Go.Proofs.Lays.n125 Tryd.prog Tryd.lays125_ren := {
  mixed := by kernel_rfl
  f125 := Tryd.func56.trans (congrArg some (by kernel_rfl))
  f128 := Tryd.func70.trans (congrArg some (by kernel_rfl))
  f129 := Tryd.func71.trans (congrArg some (by kernel_rfl))
  t3 := Tryd.underlying3
  a3 := Tryd.isAgg3
  z3 := Tryd.sizeOf3
  v3 := Tryd.zeroValue3
  t4 := Tryd.underlying4
  a4 := Tryd.isAgg4
  z4 := Tryd.sizeOf4
  v4 := Tryd.zeroValue4
  t5 := Tryd.underlying5
  a5 := Tryd.isAgg5
  z5 := Tryd.sizeOf5
  v5 := Tryd.zeroValue5
  t9 := Tryd.underlying9
  a9 := Tryd.isAgg9
  z9 := Tryd.sizeOf9
  v9 := Tryd.zeroValue9
  t46 := Tryd.underlying78
  a46 := Tryd.isAgg78
  z46 := Tryd.sizeOf78
  v46 := Tryd.zeroValue78
  t51 := Tryd.underlying94
  a51 := Tryd.isAgg94
  z51 := Tryd.sizeOf94
  v51 := Tryd.zeroValue94
  t53 := Tryd.underlying63
  a53 := Tryd.isAgg63
  z53 := Tryd.sizeOf63
  v53 := Tryd.zeroValue63 }
/-- bits.Len: "Len returns the minimum number of bits required to represent x; the result is 0 for x == 0.": IT RETURNS 'Lib.bitLen x'; the world is as it was. (A uint has 64 bits in the model.) ITS CALLEE bits.Len64 IS MET BY ITS OWN CONTRACT OFF THE SHELF (lay that first). (LAID: no walk: one application.) -/
theorem Tryd.bits_Len (x : Int) (w : World) (h0 : 0 ≤ x) (h1 : x ≤ 18446744073709551615) :
    Calls Tryd.prog 56 #[.int .u64 x] w fun e w' => e = .returned (.int .i64 (Lib.bitLen x.toNat)) ∧ w' = w := Any.bits_Len Tryd.lays125 x w h0 h1
def Tryd.lays215_ren : Go.Shelf.Ren := ⟨fun | 215 => 79 | n => n, fun | 3 => 3 | 4 => 4 | n => n, fun | n => n⟩
theorem Tryd.lays215 : Go.Proofs.Lays.n215 Tryd.prog Tryd.lays215_ren := {
  mixed := by kernel_rfl
  f215 := Tryd.func79.trans (congrArg some (by kernel_rfl))
  t3 := Tryd.underlying3
  a3 := Tryd.isAgg3
  z3 := Tryd.sizeOf3
  v3 := Tryd.zeroValue3
  t4 := Tryd.underlying4
  a4 := Tryd.isAgg4
  z4 := Tryd.sizeOf4
  v4 := Tryd.zeroValue4 }
open Go.RowKit in
/-- cmp.isNaN at int: 'x != x': false. (LAID: no walk: one application.) -/
theorem Tryd.cmp_isNaN_int (x : Int) (w : World) :
    Calls Tryd.prog 79 #[.int .i64 x] w fun e w' => e = .returned (.bool false) ∧ w' = w := Any.cmp_isNaN_int Tryd.lays215 x w
def Tryd.lays129_ren : Go.Shelf.Ren := ⟨fun | 129 => 71 | n => n, fun | 53 => 63 | 3 => 3 | 4 => 4 | 46 => 78 | 5 => 5 | 9 => 9 | n => n, fun | n => n⟩
theorem Tryd.lays129 : Go.Proofs.Lays.n129 Tryd.prog Tryd.lays129_ren := {
  mixed := by kernel_rfl
  f129 := Tryd.func71.trans (congrArg some (by kernel_rfl))
  t3 := Tryd.underlying3
  a3 := Tryd.isAgg3
  z3 := Tryd.sizeOf3
  v3 := Tryd.zeroValue3
  t4 := Tryd.underlying4
  a4 := Tryd.isAgg4
  z4 := Tryd.sizeOf4
  v4 := Tryd.zeroValue4
  t5 := Tryd.underlying5
  a5 := Tryd.isAgg5
  z5 := Tryd.sizeOf5
  v5 := Tryd.zeroValue5
  t9 := Tryd.underlying9
  a9 := Tryd.isAgg9
  z9 := Tryd.sizeOf9
  v9 := Tryd.zeroValue9
  t46 := Tryd.underlying78
  a46 := Tryd.isAgg78
  z46 := Tryd.sizeOf78
  v46 := Tryd.zeroValue78
  t53 := Tryd.underlying63
  a53 := Tryd.isAgg63
  z53 := Tryd.sizeOf63
  v53 := Tryd.zeroValue63 }
/-- bits.Len64: "Len64 returns the minimum number of bits required to represent x; the result is 0 for x == 0.": IT RETURNS 'Lib.bitLen x'; the world is as it was. ('h0', 'h1': x is a uint64.) (LAID: no walk: one application.) -/
theorem Tryd.bits_Len64 (x : Int) (w : World) (h0 : 0 ≤ x) (h1 : x ≤ 18446744073709551615) :
    Calls Tryd.prog 71 #[.int .u64 x] w fun e w' => e = .returned (.int .i64 (Lib.bitLen x.toNat)) ∧ w' = w := Any.bits_Len64 Tryd.lays129 x w h0 h1
def Tryd.lays189_ren : Go.Shelf.Ren := ⟨fun | 189 => 42 | 125 => 56 | 257 => 55 | 128 => 70 | 129 => 71 | 294 => 61 | 295 => 62 | 296 => 63 | 297 => 64 | 298 => 65 | 299 => 66 | 216 => 67 | 300 => 68 | 301 => 69 | 328 => 74 | 329 => 75 | 330 => 76 | 331 => 77 | 332 => 78 | 215 => 79 | 343 => 81 | n => n, fun | 28 => 28 | 3 => 3 | 46 => 78 | 0 => 0 | 51 => 94 | 53 => 63 | 4 => 4 | 183 => 87 | 182 => 86 | 131 => 79 | 5 => 5 | 9 => 9 | 218 => 96 | 222 => 100 | 228 => 102 | 229 => 103 | n => n, fun | n => n⟩
theorem Tryd.lays189 : Go.Proofs.Lays.n189 Tryd.prog Tryd.lays189_ren := {
  mixed := by kernel_rfl
  f125 := Tryd.func56.trans (congrArg some (by kernel_rfl))
  f128 := Tryd.func70.trans (congrArg some (by kernel_rfl))
  f129 := Tryd.func71.trans (congrArg some (by kernel_rfl))
  f189 := Tryd.func42.trans (congrArg some (by kernel_rfl))
  f215 := Tryd.func79.trans (congrArg some (by kernel_rfl))
  f216 := Tryd.func67.trans (congrArg some (by kernel_rfl))
  f257 := Tryd.func55.trans (congrArg some (by kernel_rfl))
  f294 := Tryd.func61.trans (congrArg some (by kernel_rfl))
  f295 := Tryd.func62.trans (congrArg some (by kernel_rfl))
  f296 := Tryd.func63.trans (congrArg some (by kernel_rfl))
  f297 := Tryd.func64.trans (congrArg some (by kernel_rfl))
  f298 := Tryd.func65.trans (congrArg some (by kernel_rfl))
  f299 := Tryd.func66.trans (congrArg some (by kernel_rfl))
  f300 := Tryd.func68.trans (congrArg some (by kernel_rfl))
  f301 := Tryd.func69.trans (congrArg some (by kernel_rfl))
  f328 := Tryd.func74.trans (congrArg some (by kernel_rfl))
  f329 := Tryd.func75.trans (congrArg some (by kernel_rfl))
  f330 := Tryd.func76.trans (congrArg some (by kernel_rfl))
  f331 := Tryd.func77.trans (congrArg some (by kernel_rfl))
  f332 := Tryd.func78.trans (congrArg some (by kernel_rfl))
  f343 := Tryd.func81.trans (congrArg some (by kernel_rfl))
  t0 := Tryd.underlying0
  a0 := Tryd.isAgg0
  z0 := Tryd.sizeOf0
  v0 := Tryd.zeroValue0
  t3 := Tryd.underlying3
  a3 := Tryd.isAgg3
  z3 := Tryd.sizeOf3
  v3 := Tryd.zeroValue3
  t4 := Tryd.underlying4
  a4 := Tryd.isAgg4
  z4 := Tryd.sizeOf4
  v4 := Tryd.zeroValue4
  t5 := Tryd.underlying5
  a5 := Tryd.isAgg5
  z5 := Tryd.sizeOf5
  v5 := Tryd.zeroValue5
  t9 := Tryd.underlying9
  a9 := Tryd.isAgg9
  z9 := Tryd.sizeOf9
  v9 := Tryd.zeroValue9
  t28 := Tryd.underlying28
  a28 := Tryd.isAgg28
  z28 := Tryd.sizeOf28
  v28 := Tryd.zeroValue28
  t46 := Tryd.underlying78
  a46 := Tryd.isAgg78
  z46 := Tryd.sizeOf78
  v46 := Tryd.zeroValue78
  t51 := Tryd.underlying94
  a51 := Tryd.isAgg94
  z51 := Tryd.sizeOf94
  v51 := Tryd.zeroValue94
  t53 := Tryd.underlying63
  a53 := Tryd.isAgg63
  z53 := Tryd.sizeOf63
  v53 := Tryd.zeroValue63
  t131 := Tryd.underlying79
  a131 := Tryd.isAgg79
  z131 := Tryd.sizeOf79
  v131 := Tryd.zeroValue79
  t182 := Tryd.underlying86
  a182 := Tryd.isAgg86
  z182 := Tryd.sizeOf86
  v182 := Tryd.zeroValue86
  t183 := Tryd.underlying87
  a183 := Tryd.isAgg87
  z183 := Tryd.sizeOf87
  v183 := Tryd.zeroValue87
  t218 := Tryd.underlying96
  a218 := Tryd.isAgg96
  z218 := Tryd.sizeOf96
  v218 := Tryd.zeroValue96
  t222 := Tryd.underlying100
  a222 := Tryd.isAgg100
  z222 := Tryd.sizeOf100
  v222 := Tryd.zeroValue100
  t228 := Tryd.underlying102
  a228 := Tryd.isAgg102
  z228 := Tryd.sizeOf102
  v228 := Tryd.zeroValue102
  t229 := Tryd.underlying103
  a229 := Tryd.isAgg103
  z229 := Tryd.sizeOf103
  v229 := Tryd.zeroValue103 }
open Go.Sort Go.RowKit in
theorem Tryd.slices_Sort_int (blk off cap : Nat) (zs : List Int) (w : World) (hH : Holds (Value.int .i64) w blk off zs.toArray) (hblk : blk < w.heap.size) (hsz : zs.length < 4611686018427387904) :
    Calls Tryd.prog 42 #[.slice (some ⟨blk, off, none⟩) zs.length cap] w fun e w' =>
      e = .returned (.tuple #[]) ∧ ∃ n os, w' = grow (putRow (Value.int .i64) (Sort.ahead w n) blk off (zs.mergeSort fun x y => decide (x ≤ y)).toArray) os := Any.slices_Sort_int Tryd.lays189 blk off cap zs w hH hblk hsz
def Tryd.lays112_ren : Go.Shelf.Ren := ⟨fun | 112 => 80 | n => n, fun | 28 => 28 | 3 => 3 | 4 => 4 | 0 => 0 | n => n, fun | n => n⟩
theorem Tryd.lays112 : Go.Proofs.Lays.n112 Tryd.prog Tryd.lays112_ren := {
  mixed := by kernel_rfl
  f112 := Tryd.func80.trans (congrArg some (by kernel_rfl))
  t0 := Tryd.underlying0
  a0 := Tryd.isAgg0
  z0 := Tryd.sizeOf0
  v0 := Tryd.zeroValue0
  t3 := Tryd.underlying3
  a3 := Tryd.isAgg3
  z3 := Tryd.sizeOf3
  v3 := Tryd.zeroValue3
  t4 := Tryd.underlying4
  a4 := Tryd.isAgg4
  z4 := Tryd.sizeOf4
  v4 := Tryd.zeroValue4
  t28 := Tryd.underlying28
  a28 := Tryd.isAgg28
  z28 := Tryd.sizeOf28
  v28 := Tryd.zeroValue28 }
open Go.RowKit Go.Lib Go.Sort in
/-- slices.Reverse at []int, over an array: Go's loop from the two ends inward is walked; it makes 'Sort.reverseLoop 0 (len - 1)', which is 'Array.reverse' (Derived/Lib/SlicesMore.lean). (LAID: no walk: one application.) -/
theorem Tryd.slices_Reverse_int_arr (blk off cap : Nat) (d : Array Int) (w : World) (hH : Holds encI w blk off d) (hsz : d.size ≤ 9223372036854775807) :
    Calls Tryd.prog 80 #[.slice (some ⟨blk, off, none⟩) d.size cap] w fun e w' => e = .returned (.tuple #[]) ∧ ∃ n, w' = putRow encI (Sort.ahead w n) blk off d.reverse := Any.slices_Reverse_int_arr Tryd.lays112 blk off cap d w hH hsz
open Go.RowKit Go.Lib Go.Sort in
/-- slices.Reverse at []int: "Reverse reverses the elements of the slice in place.": THE SLICE's CELLS HOLD 'zs.reverse' BEHIND THE CALL; all else is as it was, but for the count of draws (the exchange 's[i], s[j] = s[j], s[i]' draws its order, once a round). IN THE WORDS OF slices.Sort's CONTRACT: 'Holds': the cells hold zs and none is frozen; 'putRow': the world with those cells holding another array. A slice of length 0 that is not nil is among them ('zs = []'); nil: '.._nil'. (LAID: no walk: one application.) -/
theorem Tryd.slices_Reverse_int (blk off cap : Nat) (zs : List Int) (w : World) (hH : Holds (Value.int .i64) w blk off zs.toArray) (hsz : zs.length ≤ 9223372036854775807) :
    Calls Tryd.prog 80 #[.slice (some ⟨blk, off, none⟩) zs.length cap] w fun e w' => e = .returned (.tuple #[]) ∧ ∃ n, w' = putRow (Value.int .i64) (Sort.ahead w n) blk off zs.reverse.toArray := Any.slices_Reverse_int Tryd.lays112 blk off cap zs w hH hsz
open Go.RowKit Go.Lib Go.Sort in
/-- The same at a slice of length 0, a nil one too: nothing is read, nothing written, nothing drawn. (LAID: no walk: one application.) -/
theorem Tryd.slices_Reverse_int_empty (a : Option Addr) (cap : Nat) (w : World) :
    Calls Tryd.prog 80 #[.slice a 0 cap] w fun e w' => e = .returned (.tuple #[]) ∧ w' = w := Any.slices_Reverse_int_empty Tryd.lays112 a cap w
def Tryd.laysNm220_ren : Go.Shelf.Ren := ⟨fun | 20 => 43 | n => n, fun | 22 => 28 | 3 => 3 | 4 => 4 | 0 => 0 | n => n, fun | n => n⟩
theorem Tryd.laysNm220 : Go.Proofs.Lays2.n20 Tryd.prog Tryd.laysNm220_ren := {
  mixed := by kernel_rfl
  f20 := Tryd.func43.trans (congrArg some (by kernel_rfl))
  t0 := Tryd.underlying0
  a0 := Tryd.isAgg0
  z0 := Tryd.sizeOf0
  v0 := Tryd.zeroValue0
  t3 := Tryd.underlying3
  a3 := Tryd.isAgg3
  z3 := Tryd.sizeOf3
  v3 := Tryd.zeroValue3
  t4 := Tryd.underlying4
  a4 := Tryd.isAgg4
  z4 := Tryd.sizeOf4
  v4 := Tryd.zeroValue4
  t22 := Tryd.underlying28
  a22 := Tryd.isAgg28
  z22 := Tryd.sizeOf28
  v22 := Tryd.zeroValue28
  i3 := by kernel_rfl }
open Go.RowKit Go.Lib Go.Sort in
/-- slices.Compact at []int, over an array: the library's two loops are walked. (LAID: no walk: one application.) -/
theorem Tryd.slices_Compact_int_arr (blk off cap : Nat) (d : Array Int) (w : World) (hH : Holds encI w blk off d) (hsz : d.size ≤ 9223372036854775807) (hcap : d.size ≤ cap) :
    Calls Tryd.prog 43 #[.slice (some ⟨blk, off, none⟩) d.size cap] w fun e w' => e = .returned (.slice (some ⟨blk, off, none⟩) (compactUpTo d d.size).length cap) ∧ ∃ q, w' = putRow encI (Sort.ahead w q) blk off (compactUpTo d d.size ++ List.replicate (d.size - (compactUpTo d d.size).length) 0).toArray := Any.slices_Compact_int_arr Tryd.laysNm220 blk off cap d w hH hsz hcap
open Go.RowKit Go.Lib Go.Sort in
/-- slices.Compact at []int: "Compact replaces consecutive runs of equal elements with a single copy. This is like the uniq command found on Unix. Compact modifies the contents of the slice s and returns the modified slice, which may have a smaller length. Compact zeroes the elements between the new length and the original length. The result preserves the nilness of s.": IT RETURNS THE SLICE CUT TO 'Lib.compact zs'; ITS CELLS HOLD 'Lib.compact zs', THEN ZERO VALUES up to the old length; all else is as it was, but for the count of draws. IN THE WORDS OF slices.Sort's CONTRACT ('Holds', 'putRow'): so the everyday 'slices.Sort(xs); xs = slices.Compact(xs)' goes from the one contract to the other. It asks 'zs.length ≤ cap' (every slice's: the reslicing 's[:k]' looks at it). Length 0, nil: '.._empty'. (LAID: no walk: one application.) -/
theorem Tryd.slices_Compact_int (blk off cap : Nat) (zs : List Int) (w : World) (hH : Holds (Value.int .i64) w blk off zs.toArray) (hsz : zs.length ≤ 9223372036854775807) (hcap : zs.length ≤ cap) :
    Calls Tryd.prog 43 #[.slice (some ⟨blk, off, none⟩) zs.length cap] w fun e w' => e = .returned (.slice (some ⟨blk, off, none⟩) (Lib.compact zs).length cap) ∧ ∃ q, w' = putRow (Value.int .i64) (Sort.ahead w q) blk off (Lib.compact zs ++ List.replicate (zs.length - (Lib.compact zs).length) 0).toArray := Any.slices_Compact_int Tryd.laysNm220 blk off cap zs w hH hsz hcap
open Go.RowKit Go.Lib Go.Sort in
/-- The same at a slice of length 0, a nil one too: it comes back as it is. (LAID: no walk: one application.) -/
theorem Tryd.slices_Compact_int_empty (a : Option Addr) (cap : Nat) (w : World) :
    Calls Tryd.prog 43 #[.slice a 0 cap] w fun e w' => e = .returned (.slice a 0 cap) ∧ w' = w := Any.slices_Compact_int_empty Tryd.laysNm220 a cap w
def Tryd.laysNm237_ren : Go.Shelf.Ren := ⟨fun | 37 => 79 | n => n, fun | 3 => 3 | 4 => 4 | n => n, fun | n => n⟩
theorem Tryd.laysNm237 : Go.Proofs.Lays2.n37 Tryd.prog Tryd.laysNm237_ren := {
  mixed := by kernel_rfl
  f37 := Tryd.func79.trans (congrArg some (by kernel_rfl))
  t3 := Tryd.underlying3
  a3 := Tryd.isAgg3
  z3 := Tryd.sizeOf3
  v3 := Tryd.zeroValue3
  t4 := Tryd.underlying4
  a4 := Tryd.isAgg4
  z4 := Tryd.sizeOf4
  v4 := Tryd.zeroValue4 }
open Go.RowKit Go.Lib in
/-- cmp.isNaN[int]: 'x != x': false. (LAID: no walk: one application.) -/
theorem Tryd.cmp_isNaN_int2 (x : Int) (w : World) :
    Calls Tryd.prog 79 #[.int .i64 x] w fun e w' => e = .returned (.bool false) ∧ w' = w := Any.cmp_isNaN_int2 Tryd.laysNm237 x w
def Tryd.laysNm232_ren : Go.Shelf.Ren := ⟨fun | 32 => 73 | n => n, fun | 3 => 3 | 4 => 4 | n => n, fun | n => n⟩
theorem Tryd.laysNm232 : Go.Proofs.Lays2.n32 Tryd.prog Tryd.laysNm232_ren := {
  mixed := by kernel_rfl
  f32 := Tryd.func73.trans (congrArg some (by kernel_rfl))
  t3 := Tryd.underlying3
  a3 := Tryd.isAgg3
  z3 := Tryd.sizeOf3
  v3 := Tryd.zeroValue3
  t4 := Tryd.underlying4
  a4 := Tryd.isAgg4
  z4 := Tryd.sizeOf4
  v4 := Tryd.zeroValue4 }
open Go.RowKit Go.Lib in
/-- slices.isNaN[int]: 'x != x': false. (LAID: no walk: one application.) -/
theorem Tryd.slices_isNaN_int2 (x : Int) (w : World) :
    Calls Tryd.prog 73 #[.int .i64 x] w fun e w' => e = .returned (.bool false) ∧ w' = w := Any.slices_isNaN_int2 Tryd.laysNm232 x w
def Tryd.laysNm231_ren : Go.Shelf.Ren := ⟨fun | 31 => 67 | 37 => 79 | n => n, fun | 3 => 3 | 4 => 4 | n => n, fun | n => n⟩
theorem Tryd.laysNm231 : Go.Proofs.Lays2.n31 Tryd.prog Tryd.laysNm231_ren := {
  mixed := by kernel_rfl
  f31 := Tryd.func67.trans (congrArg some (by kernel_rfl))
  f37 := Tryd.func79.trans (congrArg some (by kernel_rfl))
  t3 := Tryd.underlying3
  a3 := Tryd.isAgg3
  z3 := Tryd.sizeOf3
  v3 := Tryd.zeroValue3
  t4 := Tryd.underlying4
  a4 := Tryd.isAgg4
  z4 := Tryd.sizeOf4
  v4 := Tryd.zeroValue4 }
open Go.RowKit Go.Lib in
/-- cmp.Less[int]: "Less reports whether x is less than y.": 'x < y'; the world is as it was. (LAID: no walk: one application.) -/
theorem Tryd.cmp_Less_int2 (x y : Int) (w : World) :
    Calls Tryd.prog 67 #[.int .i64 x, .int .i64 y] w fun e w' => e = .returned (.bool (decide (x < y))) ∧ w' = w := Any.cmp_Less_int2 Tryd.laysNm231 x y w
def Tryd.laysNm225_ren : Go.Shelf.Ren := ⟨fun | 25 => 59 | 31 => 67 | 32 => 73 | 37 => 79 | n => n, fun | 22 => 28 | 3 => 3 | 4 => 4 | 40 => 78 | 0 => 0 | n => n, fun | n => n⟩
theorem Tryd.laysNm225 : Go.Proofs.Lays2.n25 Tryd.prog Tryd.laysNm225_ren := {
  mixed := by kernel_rfl
  f25 := Tryd.func59.trans (congrArg some (by kernel_rfl))
  f31 := Tryd.func67.trans (congrArg some (by kernel_rfl))
  f32 := Tryd.func73.trans (congrArg some (by kernel_rfl))
  f37 := Tryd.func79.trans (congrArg some (by kernel_rfl))
  t0 := Tryd.underlying0
  a0 := Tryd.isAgg0
  z0 := Tryd.sizeOf0
  v0 := Tryd.zeroValue0
  t3 := Tryd.underlying3
  a3 := Tryd.isAgg3
  z3 := Tryd.sizeOf3
  v3 := Tryd.zeroValue3
  t4 := Tryd.underlying4
  a4 := Tryd.isAgg4
  z4 := Tryd.sizeOf4
  v4 := Tryd.zeroValue4
  t22 := Tryd.underlying28
  a22 := Tryd.isAgg28
  z22 := Tryd.sizeOf28
  v22 := Tryd.zeroValue28
  t40 := Tryd.underlying78
  a40 := Tryd.isAgg78
  z40 := Tryd.sizeOf78
  v40 := Tryd.zeroValue78 }
open Go.RowKit Go.Lib in
/-- slices.BinarySearch at []int: "BinarySearch searches for target in a sorted slice and returns the earliest position where target is found, or the position where target would appear in the sort order; it also returns a bool saying whether the target is really found in the slice. The slice must be sorted in increasing order.": OF A SORTED SLICE IT RETURNS how many elements are less than the target, and whether the target is among the elements; the world is as it was but for the count of draws. 'zs': what the cells behind the slice's address hold; 'zs.take n': its elements. (Of a slice that is not sorted: no contract here.) (LAID: no walk: one application.) -/
theorem Tryd.slices_BinarySearch_int (b off n c : Nat) (zs : List Int) (x : Int) (w : World) (hz : n ≤ zs.length) (hbig : n < 4611686018427387904) (hc : ∀ j, j < zs.length → w.cell? ⟨b, off + j, none⟩ = some (.int .i64 (zs.getD j 0))) (hs : (zs.take n).Pairwise (· ≤ ·)) :
    Calls Tryd.prog 59 #[.slice (some ⟨b, off, none⟩) n c, .int .i64 x] w fun e w' => e = .returned (.tuple #[.int .i64 ((zs.take n).countP (· < x) : Nat), .bool ((zs.take n).contains x)]) ∧ ∃ q, w' = w.drewN q := Any.slices_BinarySearch_int Tryd.laysNm225 b off n c zs x w hz hbig hc hs
open Go.RowKit Go.Lib Go.Sort in
/-- slices.Reverse at []int, of an argument: the n cells hold the elements in reverse. (LAID: no walk: one application.) -/
theorem Tryd.slices_Reverse_int_cells (b off n c : Nat) (zs : List Int) (w : World) (hz : n ≤ zs.length) (hbig : n ≤ 9223372036854775807) (hc : ∀ j, j < zs.length → w.cell? ⟨b, off + j, none⟩ = some (.int .i64 (zs.getD j 0))) (hf : ∀ j, j < n → w.frozen? ⟨b, off + j, none⟩ = false) :
    Calls Tryd.prog 80 #[.slice (some ⟨b, off, none⟩) n c] w fun e w' => e = .returned (.tuple #[]) ∧ ∃ q, w' = (w.drewN q).setCells b off ((zs.take n).reverse.map (Value.int .i64)) := Any.slices_Reverse_int_cells Tryd.lays112 b off n c zs w hz hbig hc hf
open Go.RowKit Go.Lib Go.Sort in
/-- slices.Compact at []int, of an argument: the slice cut to 'Lib.compact (elements)'; the n cells hold that, then zeros. (LAID: no walk: one application.) -/
theorem Tryd.slices_Compact_int_cells (b off n c : Nat) (zs : List Int) (w : World) (hz : n ≤ zs.length) (hbig : n ≤ 9223372036854775807) (hcap : n ≤ c) (hc : ∀ j, j < zs.length → w.cell? ⟨b, off + j, none⟩ = some (.int .i64 (zs.getD j 0))) (hf : ∀ j, j < n → w.frozen? ⟨b, off + j, none⟩ = false) :
    Calls Tryd.prog 43 #[.slice (some ⟨b, off, none⟩) n c] w fun e w' => e = .returned (.slice (some ⟨b, off, none⟩) (Lib.compact (zs.take n)).length c) ∧ ∃ q, w' = (w.drewN q).setCells b off ((Lib.compact (zs.take n) ++ List.replicate (n - (Lib.compact (zs.take n)).length) 0).map (Value.int .i64)) := Any.slices_Compact_int_cells Tryd.laysNm220 b off n c zs w hz hbig hcap hc hf
open Go.RowKit Go.Sort in
/-- .. and plain. (LAID: no walk: one application.) -/
theorem Tryd.slices_Sort_int_none (p : Option Addr) (cap : Nat) (w : World) :
    Calls Tryd.prog 42 #[.slice p 0 cap] w fun e w' => e = .returned (.tuple #[]) ∧ w' = w := Any.slices_Sort_int_none Tryd.lays189 p cap w
open Go.RowKit Go.Lib in
/-- slices.BinarySearch at []int of no element: position 0, not found; the world is as it was. (LAID: no walk: one application.) -/
theorem Tryd.slices_BinarySearch_int_empty (a : Option Addr) (c : Nat) (x : Int) (w : World) :
    Calls Tryd.prog 59 #[.slice a 0 c, .int .i64 x] w fun e w' => e = .returned (.tuple #[.int .i64 0, .bool false]) ∧ w' = w := Any.slices_BinarySearch_int_empty Tryd.laysNm225 a c x w
end Go.Proofs
namespace Go.Proofs.YtfdkbceponodmaaDoor
open Go.RowKit
set_option linter.unusedVariables false
def srt (xs : List Int) : Option (List Int) := if xs.length ≤ 1073741824 then some (xs.mergeSort fun x y => decide (x ≤ y)) else none
theorem srt_some {xs r : List Int} (h : srt xs = some r) : xs.length ≤ 1073741824 ∧ xs.mergeSort (fun x y => decide (x ≤ y)) = r := by
  unfold srt at h; split at h
  · rename_i hh; cases h; exact ⟨hh, rfl⟩
  · cases h
theorem els_ints (K : Hp) : ∀ xs : List Int, Els K (.int .i64) (xs.map (Value.int .i64)) xs
  | [] => rfl
  | x :: xs => ⟨[.int .i64 x], _, rfl, rfl, els_ints K xs⟩
theorem els_ints_eq {K : Hp} : ∀ {xs : List Int} {cs : List Value}, Els K (.int .i64) cs xs → cs = xs.map (Value.int .i64)
  | [], cs, h => h
  | x :: xs, cs, h => by
    obtain ⟨es, r, rfl, h1, h2⟩ := h
    obtain rfl : es = [.int .i64 x] := h1
    rw [els_ints_eq h2]; rfl
theorem slices_Sort_ok {K : Hp} {ad : Option Addr} {m cap : Nat} {xs r : List Int} (h : srt xs = some r) :
    Tr Tryd.prog 42 #[.slice ad m cap] K [Row Hp.nil 3 (.int .i64) (.slice ad m cap) xs] (fun v K' L' => (∃ (l : List Int), l = r ∧ v = .tuple #[] ∧ L' = [Row Hp.nil 3 (.int .i64) (.slice ad m cap) l]) ∧ K = K') := by
  obtain ⟨hl, rfl⟩ := srt_some h
  refine Tr.k (fun E w F hs => ?_)
  have hs' := hs
  obtain ⟨h0, ⟨cs, h1, h2⟩, hd, hs2⟩ := hs
  have hle : h0.le (Hp.of w) := fun n o e => hs2.sub n o (Hp.join_right e (hd n o e))
  obtain rfl := els_ints_eq h1
  have h2' := h2
  obtain ⟨h3, h4⟩ := h2
  rcases h4 with ⟨h5, h6, _⟩ | ⟨g, cp, cur, h5, rfl, h6, h7, h8, h9⟩
  · cases h5
    obtain rfl : xs = [] := List.length_eq_zero_iff.1 h6
    refine (Tryd.slices_Sort_int_none none 0 w).mono ?_
    rintro e w' ⟨rfl, rfl⟩
    exact ⟨_, K, _, rfl, ⟨_, rfl, rfl, rfl⟩, Hp.le_refl K, by simpa using hs'⟩
  · cases h5
    have hb := hle g _ (one_of g _)
    have ht : cur.toList.take xs.length = xs.map (Value.int .i64) := by simpa [Tp.size] using h9
    refine (Tryd.slices_Sort_int g 0 cap xs w (holds_of_blockI hb ht) (lt_of_block hb) (by omega)).mono ?_
    rintro e w' ⟨rfl, n, os, rfl⟩
    have hlen : (xs.mergeSort fun x y => decide (x ≤ y)).length = xs.length := List.length_mergeSort xs
    have ho := ownsRow_sortedI (n := n) (os := os) (base := 0) (cap := cap) hlen (Nat.zero_le g) hb h6 h7 (by simpa [Tp.size] using h8)
    refine ⟨_, K, [Row Hp.nil 3 (.int .i64) (.slice (some ⟨g, 0, none⟩) xs.length cap) (xs.mergeSort fun x y => decide (x ≤ y))], rfl, ⟨_, rfl, rfl, rfl⟩, Hp.le_refl K, ?_⟩
    exact hs'.grown hlen.symm (by simpa [hlen, Tp.size] using ho) (els_ints _ _) (grownBy_sortedI _) (.inl rfl)
def cmpt (xs : List Int) : Option (List Int) := some (Lib.compact xs)
theorem slices_Compact_ok {K : Hp} {ad : Option Addr} {m cap : Nat} {xs r : List Int} (h : cmpt xs = some r) :
    Tr Tryd.prog 43 #[.slice ad m cap] K [Row Hp.nil 3 (.int .i64) (.slice ad m cap) xs] (fun v K' L' => (∃ (l : List Int) (ad1 : Option Addr) (cp1 : Nat), l = r ∧ v = .slice ad1 l.length cp1 ∧ L' = [Row Hp.nil 3 (.int .i64) (.slice ad1 l.length cp1) l]) ∧ K = K') := by
  cases h
  refine Tr.k (fun E w F hs => ?_)
  have hs' := hs
  obtain ⟨h0, ⟨cs, h1, h2⟩, hd, hs2⟩ := hs
  have hle : h0.le (Hp.of w) := fun n o e => hs2.sub n o (Hp.join_right e (hd n o e))
  obtain rfl := els_ints_eq h1
  obtain ⟨h3, h4⟩ := h2
  rcases h4 with ⟨h5, h6, _⟩ | ⟨g, cp, cur, h5, rfl, h6, h7, h8, h9⟩
  · cases h5
    obtain rfl : xs = [] := List.length_eq_zero_iff.1 h6
    refine (Tryd.slices_Compact_int_empty none 0 w).mono ?_
    rintro e w' ⟨rfl, rfl⟩
    exact ⟨_, K, _, rfl, ⟨_, none, 0, rfl, rfl, rfl⟩, Hp.le_refl K, hs'⟩
  · cases h5
    have hb := hle g _ (one_of g _)
    have ht : cur.toList.take xs.length = xs.map (Value.int .i64) := by simpa [Tp.size] using h9
    have hcl : (Lib.compact xs).length ≤ xs.length := Lib.compact_length_le xs
    refine (Tryd.slices_Compact_int g 0 cap xs w (holds_of_blockI hb ht) (by unfold maxLen at h7; omega) h6).mono ?_
    rintro e w' ⟨rfl, q, rfl⟩
    have hlen : (Lib.compact xs ++ List.replicate (xs.length - (Lib.compact xs).length) (0 : Int)).length = xs.length := by simp; omega
    have ho := ownsRow_sortedI (n := q) (os := #[]) (base := 0) (cap := cap) hlen (Nat.zero_le g) hb h6 h7 (by simpa [Tp.size] using h8)
    have hg := grownBy_sortedI (w := w) (g := g) (n := q) (os := #[]) (Lib.compact xs ++ List.replicate (xs.length - (Lib.compact xs).length) (0 : Int)).toArray
    rw [show ∀ W : World, Sort.grow W #[] = W from fun W => by simp [Sort.grow]] at ho hg
    refine ⟨_, K, [Row Hp.nil 3 (.int .i64) (.slice (some ⟨g, 0, none⟩) (Lib.compact xs).length cap) (Lib.compact xs)], rfl, ⟨_, _, _, rfl, rfl, rfl⟩, Hp.le_refl K, ?_⟩
    refine hs'.grown rfl ?_ (els_ints _ _) hg (.inl rfl)
    obtain ⟨o1, o2⟩ := ho
    refine ⟨by simp [Tp.size], ?_⟩
    rcases o2 with ⟨o2, _⟩ | ⟨g', cp', cur', o2, o3, o4, o5, o6, o7, o8⟩
    · cases o2
    · simp only [Value.slice.injEq, Option.some.injEq, Addr.mk.injEq, and_true] at o2
      obtain ⟨rfl, _, rfl⟩ := o2
      refine .inr ⟨g, cap, cur', rfl, Nat.zero_le _, o4, by omega, o6, by simpa [Tp.size] using o7, ?_⟩
      have : cur'.toList.take (Lib.compact xs).length = (cur'.toList.take xs.length).take (Lib.compact xs).length := by rw [List.take_take, Nat.min_eq_left hcl]
      simp only [Nat.mul_one] at o8
      have hsz : (Tp.int IntKind.i64).size = 1 := rfl
      rw [hsz, Nat.mul_one, this, o8, List.map_append, List.take_append_of_le_length (by simp), List.take_of_length_le (by simp)]
end Go.Proofs.YtfdkbceponodmaaDoor
namespace Go.Proofs.YtfdkbceponodmaaDoor
open Go.RowKit
set_option linter.unusedVariables false
set_option linter.unnecessarySimpa false
set_option linter.unusedSectionVars false
set_option linter.unusedSimpArgs false
variable [BldA]
/-- What is asked of one row: its value, what it holds. -/
theorem row_pre {m : List M} {K : Hp} {x : List Int} {e : TypeId} {args : List Value} {E : En} {w : World} {F : List Atom} (hm : m.length = 2) (hH : HA.ok m K (.row 0 1 e (.int .i64) x x.length)) (hsl : slR m K [(0, .own 0)] args) (hs : Sep E K ([HA.row 0 1 e (.int .i64) x x.length].map (HA.conc m) ++ F) w) :
    ∃ ad cap, args = [.slice ad x.length cap] ∧ m[0]? = some (.val (.slice ad x.length cap)) ∧ Sep E K (Row Hp.nil e (.int .i64) (.slice ad x.length cap) x :: F) w := by
  obtain ⟨ad, cap, cs, e0, e1, hE, _, h1, h2, h3⟩ := hH
  obtain ⟨u, r, rfl, ⟨e2, e3⟩, rfl⟩ := hsl
  rw [e0] at e2
  cases e2
  refine ⟨ad, cap, rfl, e0, ?_⟩
  have hs' : Sep E K (HA.conc m (.row 0 1 e (.int .i64) x x.length) :: F) w := hs
  simp only [HA.conc, e0, e1] at hs'
  exact hs'.mono (fun h k => ⟨cs, Els.flat rfl hE, k⟩)
/-- What is known of a row behind the call. -/
theorem row_post {K : Hp} {e : TypeId} {ad : Option Addr} {n cap : Nat} {l : List Int} {E : En} {w : World} {F : List Atom} (hs : Sep E K ([Row Hp.nil e (.int .i64) (.slice ad n cap) l] ++ F) w) :
    n = l.length ∧ l.length ≤ cap ∧ cap ≤ maxLen ∧ (l ≠ [] → ∃ g, ad = some ⟨g, 0, none⟩) ∧ ∃ cs, Els K (.int .i64) cs l ∧ Sep E K (Rw e 1 (.slice ad l.length cap) l.length cs :: F) w := by
  have hs : Sep E K (Row Hp.nil e (.int .i64) (.slice ad n cap) l :: F) w := hs
  obtain ⟨ad', cap', h1, h2, h3, h4⟩ := hs.fact (fun h k => Row.form h k)
  cases h1
  obtain ⟨h0, ⟨cs, hE, hR⟩, hd, hs2⟩ := hs
  exact ⟨rfl, h2, h3, h4, cs, Els.flat rfl hE, h0, hR, hd, hs2⟩
noncomputable def sp_Sort : Spec := ⟨42, ⟨[(0, .rp 0)], [⟨none, 0, [], false, false, some (.row 3 (.dat (.int .i64))), false⟩]⟩, [⟨[], [⟨some 0, 0, [], false, false, some (.row 3 (.dat (.int .i64))), false⟩]⟩], fun x => srt x⟩
theorem Sort_is : SpecOk Tryd.prog sp_Sort := by
  intro x r hr vs u hu m K args hgk hm hH hsl E w F hs
  have hu' : sp_Sort.inn.un (TL.list _ x) 0 = some ([(0, .own 0)], ⟨[], 2, [.row 0 1 3 (.int .i64) x (List.length (α := Int) x)], []⟩) := rfl
  rw [hu'] at hu
  cases hu
  replace hm : m.length = 2 := hm
  obtain ⟨ad, cap, rfl, e0, hs'⟩ := row_pre hm (hH _ (by simp)) hsl hs
  refine (slices_Sort_ok (K := K) hr E w F hs').mono ?_
  rintro e w' ⟨v, K', L', rfl, ⟨⟨l, rfl, rfl, rfl⟩, rfl⟩, h1, h2⟩
  obtain ⟨g1, g2, g3, g4, cs, g5, g6⟩ := row_post h2
  have hm0 : (m ++ [M.cont (.int .i64) l cs])[0]? = some (.val (.slice ad (List.length (α := Int) l) cap)) := by
    rw [List.getElem?_append_left (by omega), e0, g1]
  have hm1 : (m ++ [M.cont (.int .i64) l cs])[2]? = some (.cont (.int .i64) l cs) := by
    rw [List.getElem?_append_right (by omega), hm]; rfl
  refine ⟨_, K, _, rfl, ⟨[], ⟨[], 3, [.row 0 2 3 (.int .i64) l (List.length (α := Int) l)], []⟩, m ++ [.cont (.int .i64) l cs], rfl, List.prefix_append _ _, by simp [hm], ?_, rfl, rfl⟩, h1, ?_⟩
  · intro a ha
    simp only [List.mem_singleton] at ha
    subst ha
    exact ⟨ad, cap, cs, hm0, hm1, g5, rfl, g2, g3, g4⟩
  · show Sep E K (HA.conc _ (.row 0 2 3 (.int .i64) l (List.length (α := Int) l)) :: F) w'
    simp only [HA.conc, hm0, hm1]
    exact g6
noncomputable def ok_Sort : OkSpec Tryd.prog := ⟨sp_Sort, Sort_is, Tryd.call42⟩
noncomputable def sp_Compact : Spec := ⟨43, ⟨[(0, .own 3 (.int .i64))], []⟩, [⟨[(0, .own 3 (.int .i64))], []⟩], fun x => cmpt x⟩
theorem Compact_is : SpecOk Tryd.prog sp_Compact := by
  intro x r hr vs u hu m K args hgk hm hH hsl E w F hs
  have hu' : sp_Compact.inn.un (TL.list _ x) 0 = some ([(0, .own 0)], ⟨[], 2, [.row 0 1 3 (.int .i64) x (List.length (α := Int) x)], [0]⟩) := rfl
  rw [hu'] at hu
  cases hu
  replace hm : m.length = 2 := hm
  obtain ⟨ad, cap, rfl, e0, hs'⟩ := row_pre hm (hH _ (by simp)) hsl hs
  refine (slices_Compact_ok (K := K) hr E w F hs').mono ?_
  rintro e w' ⟨v, K', L', rfl, ⟨⟨l, ad1, cp1, rfl, rfl, rfl⟩, rfl⟩, h1, h2⟩
  obtain ⟨_, g2, g3, g4, cs, g5, g6⟩ := row_post h2
  have hm0 : (m ++ [M.val (.slice ad1 (List.length (α := Int) l) cp1), M.cont (.int .i64) l cs])[2]? = some (.val (.slice ad1 (List.length (α := Int) l) cp1)) := by
    rw [List.getElem?_append_right (by omega), hm]; rfl
  have hm1 : (m ++ [M.val (.slice ad1 (List.length (α := Int) l) cp1), M.cont (.int .i64) l cs])[3]? = some (.cont (.int .i64) l cs) := by
    rw [List.getElem?_append_right (by omega), hm]; rfl
  refine ⟨_, K, _, rfl, ⟨[(0, .own 2)], ⟨[], 4, [.row 2 3 3 (.int .i64) l (List.length (α := Int) l)], [2]⟩, m ++ [M.val (.slice ad1 (List.length (α := Int) l) cp1), M.cont (.int .i64) l cs], rfl, List.prefix_append _ _, by simp [hm], ?_, ⟨hm0, rfl⟩, rfl⟩, h1, ?_⟩
  · intro a ha
    simp only [List.mem_singleton] at ha
    subst ha
    exact ⟨ad1, cp1, cs, hm0, hm1, g5, rfl, g2, g3, g4⟩
  · show Sep E K (HA.conc _ (.row 2 3 3 (.int .i64) l (List.length (α := Int) l)) :: F) w'
    simp only [HA.conc, hm0, hm1]
    exact g6
noncomputable def ok_Compact : OkSpec Tryd.prog := ⟨sp_Compact, Compact_is, Tryd.call43⟩
end Go.Proofs.YtfdkbceponodmaaDoor
namespace Go.Proofs
open Go.Shelf
def Tryd.lays221_ren : Go.Shelf.Ren := ⟨fun | 21 => 46 | 27 => 57 | 28 => 58 | 35 => 72 | 39 => 80 | n => n, fun | 22 => 28 | 3 => 3 | 4 => 4 | 0 => 0 | n => n, fun | n => n⟩
theorem Tryd.lays221 : Go.Proofs.Lays2.n21 Tryd.prog Tryd.lays221_ren := {
  mixed := by kernel_rfl
  f21 := Tryd.func46.trans (congrArg some (by kernel_rfl))
  f27 := Tryd.func57.trans (congrArg some (by kernel_rfl))
  f28 := Tryd.func58.trans (congrArg some (by kernel_rfl))
  f35 := Tryd.func72.trans (congrArg some (by kernel_rfl))
  f39 := Tryd.func80.trans (congrArg some (by kernel_rfl))
  t0 := Tryd.underlying0
  a0 := Tryd.isAgg0
  z0 := Tryd.sizeOf0
  v0 := Tryd.zeroValue0
  t3 := Tryd.underlying3
  a3 := Tryd.isAgg3
  z3 := Tryd.sizeOf3
  v3 := Tryd.zeroValue3
  t4 := Tryd.underlying4
  a4 := Tryd.isAgg4
  z4 := Tryd.sizeOf4
  v4 := Tryd.zeroValue4
  t22 := Tryd.underlying28
  a22 := Tryd.isAgg28
  z22 := Tryd.sizeOf28
  v22 := Tryd.zeroValue28
  i3 := by kernel_rfl }
end Go.Proofs
namespace Go.Proofs.YtfdkbceponodmaaDoor
open Go.RowKit
set_option linter.unusedVariables false
set_option linter.unnecessarySimpa false
set_option linter.unusedSectionVars false
set_option linter.unusedSimpArgs false
/-! ### Cells laid over a row. -/
theorem heap_setCells_at {g : Nat} {t : TypeId} : ∀ (vs : List Value) (o : Nat) (w : World) (cur : Array Value), w.heap[g]? = some (.cells cur t (0, 0)) → o + vs.length ≤ cur.size →
    ∃ cur' : Array Value, (w.setCells g o vs).heap[g]? = some (.cells cur' t (0, 0)) ∧ cur'.toList = cur.toList.take o ++ vs ++ cur.toList.drop (o + vs.length)
  | [], o, w, cur, h, hl => ⟨cur, h, by simp⟩
  | v :: vs, o, w, cur, h, hl => by
    simp only [List.length_cons] at hl
    have h1 := block_setCell h o v
    obtain ⟨cur', h2, h3⟩ := heap_setCells_at vs (o + 1) (w.setCell ⟨g, o, none⟩ v) _ h1 (by simp; omega)
    refine ⟨cur', h2, ?_⟩
    have ho : o < cur.toList.length := by simp; omega
    rw [h3, Array.toList_setIfInBounds]
    have e1 : (cur.toList.set o v).take (o + 1) = cur.toList.take o ++ [v] := by
      rw [List.take_succ_eq_append_getElem (by simpa using ho), List.take_set_of_le (Nat.le_refl o)]
      simp
    have e2 : (cur.toList.set o v).drop (o + 1 + vs.length) = cur.toList.drop (o + (v :: vs).length) := by
      rw [List.drop_set_of_lt (by omega), List.length_cons]
      congr 1
      omega
    rw [e1, e2]
    simp
theorem Fr.setCells {S : List Nat} {a : World} (g : Nat) (hg : g ∈ S ∨ a.heap.size ≤ g) : ∀ (vs : List Value) (o : Nat) (w : World), Fr S a w → Fr S a (w.setCells g o vs)
  | [], _, _, h => h
  | v :: vs, o, w, h => Fr.setCells g hg vs (o + 1) _ (h.setCell _ hg v)
section
variable {E : En} {L : List Atom} {K : Hp} {w : World}
/-- A held row turned into another one, at its place or at a new one. -/
theorem Sep.rowAt {S : List Nat} {e : TypeId} {t : Tp} {v : Value} {xs zs : List t.den} {K0 K1 : Hp} {w' : World} {cs' : List Value} {g cap m : Nat} {cur : Array Value} (hs : Sep E K (Row K0 e t v xs :: L) w)
    (f : Fr S w w') (hS : ∀ x, x ∈ S → v.ownBlock = some x) (hb : w'.heap[g]? = some (.cells cur e (0, 0))) (hg : v.ownBlock = some g ∨ w.heap.size ≤ g) (hm : m = zs.length) (hz : Els K1 t cs' zs) (hl : cs'.length = m * t.size)
    (hc1 : m ≤ cap) (hc2 : cap ≤ maxLen) (hc3 : cur.size = cap * t.size) (ht : cur.toList.take (m * t.size) = cs') : Sep E K (Row K1 e t (.slice (some ⟨g, 0, none⟩) m cap) zs :: L) w' := by
  subst hm
  refine Sep.turn hs (En.of_fr f) (fun h h2 hle => ?_)
  have hbl : ∀ n, h n = none ↔ v.ownBlock ≠ some n := fun n => by
    obtain ⟨cs, _, h3⟩ := h2
    exact h3.block n
  refine ⟨one g (.cells cur e (0, 0)), ⟨cs', hz, hl, .inr ⟨g, cap, cur, rfl, rfl, hc1, hc2, hc3, ht⟩⟩, fun n o e' => ?_, fun n o e' hn => ?_⟩
  · obtain ⟨rfl, rfl⟩ := one_some e'
    refine ⟨hb, fun hn => ?_⟩
    rcases hg with hg | hg
    · exact absurd hg ((hbl n).1 hn)
    · exact Array.getElem?_eq_none hg
  · rw [f.block n (lt_of_block e') (fun hm => (hbl n).1 hn (hS n hm))]
    exact e'
end
/-! ### Insert. -/
def insF (xs : List Int) (i : Int) (vs : List Int) : Option (List Int) := if 0 ≤ i ∧ i ≤ (xs.length : Nat) ∧ vs ≠ [] ∧ xs.length + vs.length ≤ 1073741824 then some (xs.take i.toNat ++ vs ++ xs.drop i.toNat) else none
def Ins (i : Nat) (cs vs : List Value) (l : List Value) : Prop := l = cs.take i ++ vs ++ cs.drop i
theorem one_int {cs : List Value} {xs : List Int} (h : cs = xs.map (Value.int .i64)) : ∀ v ∈ cs, v.oneCell' = true := fun v hv => by
  subst h
  obtain ⟨x, _, rfl⟩ := List.mem_map.1 hv
  rfl
theorem cell_of_row {w : World} {g : Nat} {t : TypeId} {cur : Array Value} (h : w.heap[g]? = some (.cells cur t (0, 0))) (j : Nat) : w.cell? ⟨g, j, none⟩ = cur[j]? := by
  simp [World.cell?, h]
theorem froz_of_row {w : World} {g : Nat} {t : TypeId} {cur : Array Value} (h : w.heap[g]? = some (.cells cur t (0, 0))) (j : Nat) : w.frozen? ⟨g, j, none⟩ = false := by
  simp [World.frozen?, h]
theorem shape_of_row {w : World} {g : Nat} {t : TypeId} {cur : Array Value} (h : w.heap[g]? = some (.cells cur t (0, 0))) : w.shape? g = some (t, cur.size) := by
  simp [World.shape?, h]
theorem cur_at {cur : Array Value} {cs : List Value} {n : Nat} (h : cur.toList.take n = cs) : ∀ (j : Nat) (v : Value), cs[j]? = some v → cur[j]? = some v := fun j v hj => by
  subst h
  rw [List.getElem?_take] at hj
  split at hj
  · simpa using hj
  · cases hj
/-- What an insertion leaves in a row. -/
theorem ins_cur {cur c1 c2 : List Value} {cs vs : List Value} {i n : Nat} (hn : cs.length = n) (hi : i ≤ n) (hc : cur.take n = cs) (h1 : c1 = cur.take (i + vs.length) ++ cs.drop i ++ cur.drop (i + vs.length + (cs.drop i).length)) (hsz : n + vs.length ≤ cur.length)
    (h2 : c2 = c1.take i ++ vs ++ c1.drop (i + vs.length)) : c2.take (n + vs.length) = cs.take i ++ vs ++ cs.drop i := by
  have e1 : c1.take i = cs.take i := by
    rw [h1, List.append_assoc, List.take_append_of_le_length (by simp; omega), List.take_take, Nat.min_eq_left (by omega), ← hc, List.take_take, Nat.min_eq_left hi]
  have e2 : c1.drop (i + vs.length) = cs.drop i ++ cur.drop (i + vs.length + (cs.drop i).length) := by
    rw [h1, List.append_assoc, List.drop_append_of_le_length (by simp; omega)]
    rw [List.drop_eq_nil_of_le (by simp; omega)]
    rfl
  rw [h2, e1, e2, ← List.append_assoc]
  refine List.take_left' ?_
  simp
  omega
theorem size_zc {l : List Value} {n : Nat} : (l.toArray ++ Builtin.zeroCells (Value.int .i64 0).cells n).size = l.length + n := by
  simp [Builtin.zeroCells, Value.cells]
section
variable {K : Hp} {E : En} {F : List Atom} {w : World}
/-- The two rows that are handed over: where they lie. -/
theorem two_rows {e : TypeId} {v1 v2 : Value} {xs vs : List Int} (hv : vs ≠ []) (hs : Sep E K (Row Hp.nil e (.int .i64) v1 xs :: Row Hp.nil e (.int .i64) v2 vs :: F) w) :
    (∃ (b c2 : Nat) (cur2 : Array Value), v2 = .slice (some ⟨b, 0, none⟩) vs.length c2 ∧ w.heap[b]? = some (.cells cur2 e (0, 0)) ∧ vs.length ≤ cur2.size ∧ (∀ (j : Nat) (u : Value), (vs.map (Value.int .i64))[j]? = some u → w.cell? ⟨b, 0 + j, none⟩ = some u) ∧
      ((v1 = .slice none 0 0 ∧ xs = []) ∨ ∃ (g c1 : Nat) (cur : Array Value), v1 = .slice (some ⟨g, 0, none⟩) xs.length c1 ∧ w.heap[g]? = some (.cells cur e (0, 0)) ∧ b ≠ g ∧ xs.length ≤ c1 ∧ c1 ≤ maxLen ∧ cur.size = c1 ∧ cur.toList.take xs.length = xs.map (Value.int .i64))) := by
  have hle2 := hs.swap.sub
  obtain ⟨h1, ⟨csA, eA, rA⟩, hd1, h2, ⟨csB, eB, rB⟩, hd2, hs2⟩ := hs
  obtain rfl := els_ints_eq eA
  obtain rfl := els_ints_eq eB
  have hh2 : h2.le (Hp.of w) := fun n o q => hs2.sub n o (Hp.join_right q (hd2 n o q))
  have hh1 : h1.le (Hp.of w) := fun n o q => hs2.sub n o (by
    have := Hp.join_right q (hd1 n o q)
    unfold Hp.join at this ⊢
    rw [this]; rfl)
  obtain ⟨_, rB⟩ := rB
  rcases rB with ⟨_, rB, _⟩ | ⟨b, c2, cur2, rfl, rfl, b1, b2, b3, b4⟩
  · exact absurd (List.length_eq_zero_iff.1 rB) hv
  · have hb := hh2 b _ (by simp [one] : one b (.cells cur2 e (0, 0)) b = some (.cells cur2 e (0, 0)))
    simp only [Tp.size, Nat.mul_one] at b3 b4
    refine ⟨b, c2, cur2, rfl, hb, by omega, fun j u hj => by rw [Nat.zero_add, cell_of_row hb]; exact cur_at b4 j u hj, ?_⟩
    obtain ⟨_, rA⟩ := rA
    rcases rA with ⟨rfl, rA, _⟩ | ⟨g, c1, cur, rfl, rfl, a1, a2, a3, a4⟩
    · have hx := List.length_eq_zero_iff.1 rA
      subst hx
      exact .inl ⟨rfl, rfl⟩
    · have hg := hh1 g _ (by simp [one] : one g (.cells cur e (0, 0)) g = some (.cells cur e (0, 0)))
      simp only [Tp.size, Nat.mul_one] at a3 a4
      refine .inr ⟨g, c1, cur, rfl, hg, fun e' => ?_, a1, a2, a3, a4⟩
      subst e'
      have := (Hp.join_none (hd2 b (.cells cur2 e (0, 0)) (by simp [one]))).2
      simp [one] at this
end
theorem slices_Insert_ok {K : Hp} {v1 v2 : Value} {i : Int} {xs vs r : List Int} (h : insF xs i vs = some r) :
    Tr Tryd.prog 46 #[v1, .int .i64 i, v2] K [Row Hp.nil 3 (.int .i64) v1 xs, Row Hp.nil 3 (.int .i64) v2 vs] (fun v K' L' => (∃ (l : List Int) (ad1 : Option Addr) (cp1 : Nat), l = r ∧ v = .slice ad1 l.length cp1 ∧ L' = [Row Hp.nil 3 (.int .i64) (.slice ad1 l.length cp1) l]) ∧ K = K') := by
  unfold insF at h
  split at h
  case isFalse => cases h
  rename_i hh
  obtain ⟨q1, q2, q3, q4⟩ := hh
  cases h
  obtain ⟨k, rfl⟩ := Int.eq_ofNat_of_zero_le q1
  have hk : k ≤ xs.length := by omega
  rw [Int.toNat_natCast]
  refine Tr.k (fun E w F hs => ?_)
  obtain ⟨b, c2, cur2, rfl, hb, hb2, hvs, hv1⟩ := two_rows q3 hs
  have hm : 0 < vs.length := by
    rcases Nat.eq_zero_or_pos vs.length with h | h
    · exact absurd (List.length_eq_zero_iff.1 h) q3
    · exact h
  have hs1 : Sep E K (Row Hp.nil 3 (.int .i64) v1 xs :: F) w := hs.swap.drop
  have hlr : (xs.take k ++ vs ++ xs.drop k).length = xs.length + vs.length := by simp; omega
  have hmap : ∀ n, (xs.map (Value.int .i64)).take n = (xs.take n).map (Value.int .i64) ∧ (xs.map (Value.int .i64)).drop n = (xs.drop n).map (Value.int .i64) := fun n => ⟨by rw [List.map_take], by rw [List.map_drop]⟩
  have fin : ∀ {S : List Nat} {w' : World} {g cap : Nat} {cur : Array Value} (f : Fr S w w') (hS : ∀ x, x ∈ S → v1.ownBlock = some x) (hb : w'.heap[g]? = some (.cells cur 3 (0, 0))) (hg : v1.ownBlock = some g ∨ w.heap.size ≤ g)
      (hc1 : xs.length + vs.length ≤ cap) (hc2 : cap ≤ maxLen) (hc3 : cur.size = cap) (ht : cur.toList.take (xs.length + vs.length) = (xs.take k ++ vs ++ xs.drop k).map (Value.int .i64)),
      ∃ v K' L', Ending.returned (.slice (some ⟨g, 0, none⟩) (xs.length + vs.length) cap) = .returned v ∧ (∃ (l : List Int) (ad1 : Option Addr) (cp1 : Nat), l = xs.take k ++ vs ++ xs.drop k ∧ v = .slice ad1 l.length cp1 ∧ L' = [Row Hp.nil 3 (.int .i64) (.slice ad1 l.length cp1) l]) ∧ K.le K' ∧ Sep E K' (L' ++ F) w' := by
    intro S w' g cap cur f hS hb hg hc1 hc2 hc3 ht
    refine ⟨_, K, _, rfl, ⟨xs.take k ++ vs ++ xs.drop k, _, cap, rfl, by rw [hlr], rfl⟩, Hp.le_refl K, ?_⟩
    exact Sep.rowAt (t := .int .i64) hs1 f hS hb hg rfl (els_ints _ _) (by simp [Tp.size]) (by rw [hlr]; exact hc1) hc2 (by simpa [Tp.size] using hc3) (by rw [hlr]; simpa [Tp.size] using ht)
  have hvo : ∀ u ∈ vs.map (Value.int .i64), u.oneCell' = true := one_int rfl
  have hxo : ∀ u ∈ xs.map (Value.int .i64), u.oneCell' = true := one_int rfl
  rcases hv1 with ⟨rfl, rfl⟩ | ⟨g, c1, cur, rfl, hg, hne, a1, a2, a3, a4⟩
  · -- a nil slice
    obtain rfl : k = 0 := by simpa using hk
    refine (Any2.slices_Insert_int_end_grow Tryd.lays221 none 0 0 b 0 vs.length c2 [] (vs.map (Value.int .i64)) w hm (Nat.le_refl _) (by omega) (by simp at q4 ⊢; omega) rfl (by simp) (fun _ => rfl) (fun a h => by cases h) hvs hvo).mono ?_
    rintro e w' ⟨rfl, rfl⟩
    rw [show Tryd.lays221_ren.t 3 = 3 from rfl]
    have hcap := grownCap_le_maxLen w (0 + vs.length) 0 3 (by unfold maxLen; simp at q4 ⊢; omega)
    have hge := grownCap_ge w (0 + vs.length) 0 3
    simp only [List.length_nil] at fin
    refine fin (S := []) ((Fr.refl [] w).drew.alloc _) (fun x hx => by cases hx) (alloc_new w.drew _) (.inr (Nat.le_refl _)) hge hcap ?_ ?_
    · rw [size_zc]
      simp
      simp at hge
      omega
    · simp
  · have hcs : ∀ (j : Nat) (u : Value), (xs.map (Value.int .i64))[j]? = some u → w.cell? ⟨g, 0 + j, none⟩ = some u := fun j u hj => by rw [Nat.zero_add, cell_of_row hg]; exact cur_at a4 j u hj
    have hlx : (xs.map (Value.int .i64)).length = xs.length := List.length_map _
    have hlv : (vs.map (Value.int .i64)).length = vs.length := List.length_map _
    have hres : (xs.take k ++ vs ++ xs.drop k).map (Value.int .i64) = (xs.map (Value.int .i64)).take k ++ vs.map (Value.int .i64) ++ (xs.map (Value.int .i64)).drop k := by
      rw [(hmap k).1, (hmap k).2, List.map_append, List.map_append]
    have hc63 : c1 ≤ 9223372036854775807 := by unfold maxLen at a2; omega
    have hsp : ∀ j, j < c1 → (w.cell? ⟨g, j, none⟩).isSome = true := fun j hj => by
      rw [cell_of_row hg, Array.getElem?_eq_getElem (by omega)]; rfl
    have hF : ∀ {w1 : World}, Fr [g] w w1 → ∀ x, x ∈ [g] → (Value.slice (some ⟨g, 0, none⟩) xs.length c1).ownBlock = some x := fun _ x hx => by
      simp at hx
      subst hx
      rfl
    by_cases hroom : xs.length + vs.length ≤ c1
    · by_cases hkn : k < xs.length
      · -- in place
        refine (Any2.slices_Insert_int_shift Tryd.lays221 g 0 xs.length c1 k b 0 vs.length c2 (xs.map (Value.int .i64)) (vs.map (Value.int .i64)) w hkn hm hroom hc63 hne hlx hlv hcs (fun j hj => by rw [Nat.zero_add]; exact hsp j (by omega)) (fun j hj => froz_of_row hg _) hvs hxo hvo _ _ _ _ (shape_of_row hb) (shape_of_row hg) (by omega) (froz_of_row hb _) (froz_of_row hb _)).mono ?_
        rintro e w' ⟨rfl, rfl⟩
        obtain ⟨cu1, d1, d2⟩ := heap_setCells_at ((xs.map (Value.int .i64)).drop k) (0 + (k + vs.length)) w.drew cur hg (by simp; omega)
        obtain ⟨cu2, d3, d4⟩ := heap_setCells_at (vs.map (Value.int .i64)) (0 + k) _ cu1 d1 (by
          have := congrArg List.length d2
          simp at this
          simp
          omega)
        have hfr : Fr [g] w ((w.drew.setCells g (0 + (k + vs.length)) ((xs.map (Value.int .i64)).drop k)).setCells g (0 + k) (vs.map (Value.int .i64))) :=
          Fr.setCells g (.inl (by simp)) _ _ _ (Fr.setCells g (.inl (by simp)) _ _ _ (Fr.refl [g] w).drew)
        have hz1 : cu1.size = c1 := by
          have := congrArg List.length d2
          simp at this
          omega
        have hz2 : cu2.size = c1 := by
          have := congrArg List.length d4
          simp at this
          omega
        refine fin hfr (hF hfr) d3 (.inl rfl) hroom a2 hz2 ?_
        rw [hres]
        have := ins_cur (cur := cur.toList) (c1 := cu1.toList) (c2 := cu2.toList) (cs := xs.map (Value.int .i64)) (vs := vs.map (Value.int .i64)) (i := k) hlx hk a4 (by rw [d2, Nat.zero_add, hlv]) (by simp; omega) (by rw [d4, Nat.zero_add])
        rw [hlv] at this
        exact this
      · -- at the end, room
        obtain rfl : k = xs.length := by omega
        refine (Any2.slices_Insert_int_end_room Tryd.lays221 g 0 xs.length c1 b 0 vs.length c2 (vs.map (Value.int .i64)) w hm hroom hc63 hlv (fun j hj => by rw [Nat.zero_add]; exact hsp _ (by omega)) (fun j hj => froz_of_row hg _) hvs hvo).mono ?_
        rintro e w' ⟨rfl, rfl⟩
        obtain ⟨cu2, d3, d4⟩ := heap_setCells_at (vs.map (Value.int .i64)) (0 + xs.length) w cur hg (by simp; omega)
        have hfr : Fr [g] w (w.setCells g (0 + xs.length) (vs.map (Value.int .i64))) := Fr.setCells g (.inl (by simp)) _ _ _ (Fr.refl [g] w)
        have hz2 : cu2.size = c1 := by
          have := congrArg List.length d4
          simp at this
          omega
        refine fin hfr (hF hfr) d3 (.inl rfl) hroom a2 hz2 ?_
        have e1 : (xs.map (Value.int .i64)).take xs.length = xs.map (Value.int .i64) := List.take_of_length_le (by simp)
        have e2 : (xs.map (Value.int .i64)).drop xs.length = [] := List.drop_eq_nil_of_le (by simp)
        rw [hres, d4, Nat.zero_add, a4, e1, e2, List.append_nil]
        exact List.take_left' (by simp)
    · by_cases hkn : k < xs.length
      · -- a new row, in the midst
        refine (Any2.slices_Insert_int_grow Tryd.lays221 g 0 xs.length c1 k b 0 vs.length c2 (xs.map (Value.int .i64)) (vs.map (Value.int .i64)) w hkn hm a1 (by omega) (by omega) hlx hlv hcs hvs hxo hvo).mono ?_
        rintro e w' ⟨rfl, rfl⟩
        rw [show Tryd.lays221_ren.t 3 = 3 from rfl]
        have hcap := grownCap_le_maxLen w (xs.length + vs.length) c1 3 (by unfold maxLen; omega)
        have hge := grownCap_ge w (xs.length + vs.length) c1 3
        have hrow : ∀ G : Nat, xs.length + vs.length ≤ G → ∃ ROW : Array Value, ((((xs.map (Value.int .i64)).take k).toArray ++ Builtin.zeroCells (Value.int .i64 0).cells (xs.length + vs.length - k) ++ Builtin.zeroCells (Value.int .i64 0).cells (G - (xs.length + vs.length)))) = ROW ∧ ROW.size = G ∧ ROW.toList.take k = (xs.map (Value.int .i64)).take k := fun G hG => by
          refine ⟨_, rfl, ?_, ?_⟩
          · rw [Array.size_append, size_zc]
            simp [Builtin.zeroCells, Value.cells]
            omega
          · simp
            rw [List.take_append_of_le_length (by simp; omega)]
            rw [List.take_of_length_le (by simp; omega)]
        obtain ⟨ROW, hR, hR2, hR3⟩ := hrow _ hge
        rw [hR]
        have hR4 : ROW.toList.length = ROW.size := by simp
        obtain ⟨cu1, d1, d2⟩ := heap_setCells_at (vs.map (Value.int .i64)) k (w.alloc (.cells ROW 3)).drew ROW (alloc_new w _) (by rw [hlv, hR2]; omega)
        have hz1 : cu1.size = ROW.size := by
          have := congrArg List.length d2
          simp at this
          omega
        obtain ⟨cu2, d3, d4⟩ := heap_setCells_at ((xs.map (Value.int .i64)).drop k) (k + vs.length) ((w.alloc (.cells ROW 3)).drew.setCells w.heap.size k (vs.map (Value.int .i64))).drew cu1 d1 (by
          simp
          omega)
        have hz2 : cu2.size = ROW.size := by
          have := congrArg List.length d4
          simp at this
          omega
        have hfr : Fr [] w ((((w.alloc (.cells ROW 3)).drew.setCells w.heap.size k (vs.map (Value.int .i64))).drew).setCells w.heap.size (k + vs.length) ((xs.map (Value.int .i64)).drop k)) :=
          Fr.setCells _ (.inr (Nat.le_refl _)) _ _ _ (Fr.setCells _ (.inr (Nat.le_refl _)) _ _ _ ((Fr.refl [] w).alloc _).drew).drew
        refine fin hfr (fun x hx => by cases hx) d3 (.inr (Nat.le_refl _)) hge hcap (hz2.trans hR2) ?_
        rw [hres, d4, d2, hR3]
        have e2 : ∀ R : List Value, ((xs.map (Value.int .i64)).take k ++ vs.map (Value.int .i64) ++ R).take (k + vs.length) = (xs.map (Value.int .i64)).take k ++ vs.map (Value.int .i64) := fun R => List.take_left' (by simp; omega)
        rw [e2]
        exact List.take_left' (by simp; omega)
      · -- a new row, at the end
        obtain rfl : k = xs.length := by omega
        refine (Any2.slices_Insert_int_end_grow Tryd.lays221 (some ⟨g, 0, none⟩) xs.length c1 b 0 vs.length c2 (xs.map (Value.int .i64)) (vs.map (Value.int .i64)) w hm a1 (by omega) (by omega) hlx hlv (fun h => by cases h) (fun a h j u hj => by
          cases h
          rw [Addr.add_lit]
          exact hcs j u hj) hvs hvo).mono ?_
        rintro e w' ⟨rfl, rfl⟩
        rw [show Tryd.lays221_ren.t 3 = 3 from rfl]
        have hcap := grownCap_le_maxLen w (xs.length + vs.length) c1 3 (by unfold maxLen; omega)
        have hge := grownCap_ge w (xs.length + vs.length) c1 3
        refine fin (S := []) ((Fr.refl [] w).drew.alloc _) (fun x hx => by cases hx) (alloc_new w.drew _) (.inr (Nat.le_refl _)) hge hcap ?_ ?_
        · rw [size_zc, List.length_append, hlx, hlv]
          omega
        · have e1 : (xs.map (Value.int .i64)).take xs.length = xs.map (Value.int .i64) := List.take_of_length_le (by simp)
          have e2 : (xs.map (Value.int .i64)).drop xs.length = [] := List.drop_eq_nil_of_le (by simp)
          rw [hres, e1, e2, List.append_nil, Array.toList_append]
          exact List.take_left' (by simp)
noncomputable def sp_Insert : Spec := ⟨46, ⟨[(0, .own 3 (.int .i64)), (1, .dat (.int .i64)), (2, .own 3 (.int .i64))], []⟩, [⟨[(0, .own 3 (.int .i64))], []⟩], fun x => insF x.1 x.2.1 x.2.2⟩
theorem Insert_is [BldA] : SpecOk Tryd.prog sp_Insert := by
  intro x r hr vv u hu m K args hgk hm hH hsl E w F hs
  have hu' : sp_Insert.inn.un (TL.list _ x) 0 = some ([(0, .own 0), (1, .int .i64 x.2.1), (2, .own 2)], ⟨[], 4, [.row 2 3 3 (.int .i64) x.2.2 (List.length (α := Int) x.2.2), .row 0 1 3 (.int .i64) x.1 (List.length (α := Int) x.1)], [0, 2]⟩) := rfl
  rw [hu'] at hu
  cases hu
  replace hm : m.length = 4 := hm
  obtain ⟨v1, u1, rfl, ⟨e1, _⟩, v2, u2, rfl, rfl, v3, u3, rfl, ⟨e3, _⟩, rfl⟩ := hsl
  obtain ⟨ad, cap, cs, g0, g1, hE, _, g2, g3, g4⟩ := hH (.row 0 1 3 (.int .i64) x.1 (List.length (α := Int) x.1)) (by simp)
  obtain ⟨ad', cap', cs', g0', g1', hE', _, g2', g3', g4'⟩ := hH (.row 2 3 3 (.int .i64) x.2.2 (List.length (α := Int) x.2.2)) (by simp)
  rw [g0] at e1
  cases e1
  rw [g0'] at e3
  cases e3
  have hs' : Sep E K (HA.conc m (.row 2 3 3 (.int .i64) x.2.2 (List.length (α := Int) x.2.2)) :: HA.conc m (.row 0 1 3 (.int .i64) x.1 (List.length (α := Int) x.1)) :: F) w := hs
  simp only [HA.conc, g0, g1, g0', g1'] at hs'
  have hs2 : Sep E K (Row Hp.nil 3 (.int .i64) (.slice ad (List.length (α := Int) x.1) cap) x.1 :: Row Hp.nil 3 (.int .i64) (.slice ad' (List.length (α := Int) x.2.2) cap') x.2.2 :: F) w :=
    (((hs'.mono (fun h k => (⟨cs', Els.flat rfl hE', k⟩ : Row Hp.nil 3 (.int .i64) (.slice ad' (List.length (α := Int) x.2.2) cap') x.2.2 h))).swap).mono (fun h k => ⟨cs, Els.flat rfl hE, k⟩))
  refine (slices_Insert_ok (K := K) hr E w F hs2).mono ?_
  rintro e w' ⟨v, K', L', rfl, ⟨⟨l, ad1, cp1, rfl, rfl, rfl⟩, rfl⟩, h1, h2⟩
  obtain ⟨_, b2, b3, b4, cs, b5, b6⟩ := row_post h2
  have hm0 : (m ++ [M.val (.slice ad1 (List.length (α := Int) l) cp1), M.cont (.int .i64) l cs])[4]? = some (.val (.slice ad1 (List.length (α := Int) l) cp1)) := by
    rw [List.getElem?_append_right (by omega), hm]; rfl
  have hm1 : (m ++ [M.val (.slice ad1 (List.length (α := Int) l) cp1), M.cont (.int .i64) l cs])[5]? = some (.cont (.int .i64) l cs) := by
    rw [List.getElem?_append_right (by omega), hm]; rfl
  refine ⟨_, K, _, rfl, ⟨[(0, .own 4)], ⟨[], 6, [.row 4 5 3 (.int .i64) l (List.length (α := Int) l)], [4]⟩, m ++ [M.val (.slice ad1 (List.length (α := Int) l) cp1), M.cont (.int .i64) l cs], rfl, List.prefix_append _ _, by simp [hm], ?_, ⟨hm0, rfl⟩, rfl⟩, h1, ?_⟩
  · intro a ha
    simp only [List.mem_singleton] at ha
    subst ha
    exact ⟨ad1, cp1, cs, hm0, hm1, b5, rfl, b2, b3, b4⟩
  · show Sep E K (HA.conc _ (.row 4 5 3 (.int .i64) l (List.length (α := Int) l)) :: F) w'
    simp only [HA.conc, hm0, hm1]
    exact b6
noncomputable def ok_Insert [BldA] : OkSpec Tryd.prog := ⟨sp_Insert, Insert_is, Tryd.call46⟩
end Go.Proofs.YtfdkbceponodmaaDoor
namespace Go.Proofs
open Go.Shelf
def Tryd.lays29_ren : Go.Shelf.Ren := ⟨fun | 29 => 60 | n => n, fun | 22 => 63 | 3 => 3 | 4 => 4 | 25 => 78 | 54 => 95 | 0 => 0 | 5 => 5 | n => n, fun | 1 => 0 | n => n⟩
theorem Tryd.lays29 : Go.Proofs.Lays7.n29 Tryd.prog Tryd.lays29_ren := {
  mixed := by kernel_rfl
  f29 := Tryd.func60.trans (congrArg some (by kernel_rfl))
  t0 := Tryd.underlying0
  a0 := Tryd.isAgg0
  z0 := Tryd.sizeOf0
  v0 := Tryd.zeroValue0
  i0 := by kernel_rfl
  t3 := Tryd.underlying3
  a3 := Tryd.isAgg3
  z3 := Tryd.sizeOf3
  v3 := Tryd.zeroValue3
  i3 := by kernel_rfl
  t4 := Tryd.underlying4
  a4 := Tryd.isAgg4
  z4 := Tryd.sizeOf4
  v4 := Tryd.zeroValue4
  i4 := by kernel_rfl
  t5 := Tryd.underlying5
  a5 := Tryd.isAgg5
  z5 := Tryd.sizeOf5
  v5 := Tryd.zeroValue5
  i5 := by kernel_rfl
  t22 := Tryd.underlying63
  a22 := Tryd.isAgg63
  z22 := Tryd.sizeOf63
  v22 := Tryd.zeroValue63
  i22 := by kernel_rfl
  t25 := Tryd.underlying78
  a25 := Tryd.isAgg78
  z25 := Tryd.sizeOf78
  v25 := Tryd.zeroValue78
  i25 := by kernel_rfl
  t54 := Tryd.underlying95
  a54 := Tryd.isAgg95
  z54 := Tryd.sizeOf95
  g1 := by kernel_rfl }
end Go.Proofs
namespace Go.Proofs.YtfdkbceponodmaaDoor
open Go.RowKit
set_option linter.unusedVariables false
set_option linter.unnecessarySimpa false
set_option linter.unusedSectionVars false
set_option linter.unusedSimpArgs false
def tzF (x : Int) : Option Int := if 0 ≤ x ∧ x < 18446744073709551616 then some ((Lib.ctz 64 x.toNat : Nat) : Int) else none
/-- The library's table lies there. -/
def tzGk (K : Hp) : Prop := ∀ j, j < 64 → cellK K 0 j = some (.int .u8 ((Lib.deBruijn64tab.getD j 0 : Nat) : Int))
theorem tzGk.mono {K K' : Hp} (h : K.cle K') (g : tzGk K) : tzGk K' := fun j hj => h _ _ _ (g j hj)
def sp_TZ : Spec := ⟨60, ⟨[(0, .dat (.int .u64))], []⟩, [⟨[(0, .dat (.int .i64))], []⟩], tzF⟩
theorem TZ_is [BldA] (hg : ∀ K, BldA.gk K → tzGk K) : SpecOk Tryd.prog sp_TZ := by
  intro x r hr vs u hu m K args hgk hm hH hsl E w F hs
  have hu' : sp_TZ.inn.un (TL.list _ x) 0 = some ([(0, .int .u64 x)], ⟨[], 0, [], []⟩) := rfl
  rw [hu'] at hu
  cases hu
  obtain ⟨v, q, rfl, h1, rfl⟩ := hsl
  obtain rfl : v = .int .u64 x := h1
  replace hr : tzF x = some r := hr
  unfold tzF at hr
  split at hr
  · rename_i hx
    cases hr
    have hxe : ((x.toNat : Nat) : Int) = x := Int.toNat_of_nonneg hx.1
    have hc := Any7.bits_TrailingZeros64 Tryd.lays29 x.toNat (by omega) w (fun _ j hj => cellK_world hs.sub (hg K hgk j hj))
    rw [hxe] at hc
    refine Calls.mono (show Calls Tryd.prog 60 #[.int .u64 x] w _ from hc) ?_
    rintro e w' ⟨rfl, rfl⟩
    exact ⟨_, K, [], rfl, ⟨[(0, .int .i64 _)], ⟨[], 0, [], []⟩, m, rfl, List.prefix_rfl, hm, fun a h => (by cases h), rfl, rfl⟩, Hp.le_refl K, hs⟩
  · cases hr
end Go.Proofs.YtfdkbceponodmaaDoor
namespace Go.Proofs.YtfdkbceponodmaaDoor
open Go.RowKit
set_option linter.unusedVariables false
set_option maxRecDepth 100000
set_option maxHeartbeats 4000000
instance nob : BldA := ⟨1000000000, fun b _ => Cl b 1000000000 [.pointer none, .slice none 0 0], fun h => h, tzGk, tzGk.mono⟩
noncomputable def ok_TZ : OkSpec Tryd.prog := ⟨sp_TZ, TZ_is (fun _ h => h), Tryd.call60⟩

noncomputable def fn_sparse_mayBe (xa : Int) : Option Bool :=
  some ((decide (0 ≤ xa)) && (decide (xa ≤ 2147483647)))
noncomputable def h_sparse_mayBe : Hn Tryd.prog := .gp 2 (.nil)
noncomputable def sp_sparse_mayBe : Spec := ⟨41, ⟨[(0, .dat (.int .i64))], []⟩, [⟨[(0, .dat .bool)], []⟩], fun x => fn_sparse_mayBe x⟩
theorem sparse_mayBe_is : SpecOk Tryd.prog sp_sparse_mayBe := fn_is Tryd.func41 h_sparse_mayBe (by kernel_rfl) (by kernel_rfl)
noncomputable def ok_sparse_mayBe : OkSpec Tryd.prog := ⟨sp_sparse_mayBe, sparse_mayBe_is, Tryd.call41⟩
noncomputable def fn_sparse_Of_l1 (xa : (List Int)) : (Int × (List Int)) → Option ((Int × (List Int)) ⊕ (List Int)) := fun ((i358, l359) : (Int × (List Int))) => cond (decide (i358 < (((xa.length : Nat) : Int)))) ((getI xa i358).bind fun x399 => (fn_sparse_mayBe x399).bind fun t410 => cond (t410) ((app l359 ([x399] : List Int)).bind fun z418 => some (.inl ((IntKind.wrap .i64 (i358 + 1), z418)))) (some (.inl ((IntKind.wrap .i64 (i358 + 1), l359))))) (some (.inr (l359)))
noncomputable def fn_sparse_Of (xa : (List Int)) : Option (List Int) :=
  (loop (fn_sparse_Of_l1 xa) (0, []) : Option (List Int)).bind fun l319 => (srt l319).bind fun l424 => (cmpt l424).bind fun l425 => some (l425)
noncomputable def h_sparse_Of : Hn Tryd.prog := .jn [] ⟨[], [⟨(some 0), 70, [.own 3 (.int .i64)], false, false, none, false⟩]⟩ [0] (.lp ⟨[(10, .dat (.int .i64))], [⟨(some 0), 70, [.own 3 (.int .i64)], false, false, none, false⟩]⟩ (.tw 11 (.cl ok_sparse_mayBe [] (.tw 15 (.nil) (.nil))) (.nil))) (.cl ok_Sort [] (.cl ok_Compact [] (.nil)))
noncomputable def sp_sparse_Of : Spec := ⟨25, ⟨[(0, .dat (.sl (.int .i64)))], []⟩, [⟨[(0, .ptr 0 0)], [⟨none, 70, [.own 3 (.int .i64)], false, false, none, false⟩]⟩], fun x => fn_sparse_Of x⟩
theorem sparse_Of_is : SpecOk Tryd.prog sp_sparse_Of := fn_is Tryd.func25 h_sparse_Of (by kernel_rfl) (by kernel_rfl)
noncomputable def ok_sparse_Of : OkSpec Tryd.prog := ⟨sp_sparse_Of, sparse_Of_is, Tryd.call25⟩

noncomputable def fn_mixed_New (xa : Int) : Option ((Int ⊕ (Int × (Option (List Int))))) :=
  cond (decide (xa < 0)) (some (.inl 2)) (cond (decide (1048576 < xa)) (some (.inl 5)) ((fn_sparse_Of ([])).bind fun l25 => some (.inr (0, some l25))))
noncomputable def h_mixed_New : Hn Tryd.prog := .tw 5 (.nil) (.tw 7 (.nil) (.cl ok_sparse_Of [] (.pl (.nil))))
noncomputable def sp_mixed_New : Spec := ⟨6, ⟨[(0, .is 0 (.dat (.int .i64)))], [⟨none, 0, [], false, true, none, false⟩]⟩, [⟨[(0, .tup [.nilp, .dat (.int .i64)])], []⟩, ⟨[(0, .tup [.ptr 0 0, .dat (.int .i64)])], [⟨none, 53, [.is 1 (.any), .od (.box 70 (.one (.row 3 (.dat (.int .i64))))), .nilp], false, false, none, false⟩, ⟨(some 0), 0, [], false, true, none, false⟩]⟩], fun x => fn_mixed_New x⟩
theorem mixed_New_is : SpecOk Tryd.prog sp_mixed_New := fn_is Tryd.func6 h_mixed_New (by kernel_rfl) (by kernel_rfl)
noncomputable def ok_mixed_New : OkSpec Tryd.prog := ⟨sp_mixed_New, mixed_New_is, Tryd.call6⟩

noncomputable def fn_mixed_New_c100  : Option ((Int ⊕ (Int × (Option (List Int))))) :=
  cond (decide (100 < 0)) (some (.inl 2)) (cond (decide (1048576 < 100)) (some (.inl 5)) ((fn_sparse_Of ([])).bind fun l25 => some (.inr (0, some l25))))
noncomputable def h_mixed_New_c100 : Hn Tryd.prog := .tw 5 (.nil) (.tw 7 (.nil) (.cl ok_sparse_Of [] (.pl (.nil))))
noncomputable def sp_mixed_New_c100 : Spec := ⟨6, ⟨[(0, .lit (.int .i64 100))], []⟩, [⟨[(0, .tup [.nilp, .dat (.int .i64)])], []⟩, ⟨[(0, .tup [.ptr 0 0, .dat (.int .i64)])], [⟨none, 53, [.lit (.int .i64 100), .od (.box 70 (.one (.row 3 (.dat (.int .i64))))), .nilp], false, false, none, false⟩]⟩], fun x => fn_mixed_New_c100⟩
theorem mixed_New_c100_is : SpecOk Tryd.prog sp_mixed_New_c100 := fn_is Tryd.func6 h_mixed_New_c100 (by kernel_rfl) (by kernel_rfl)
noncomputable def ok_mixed_New_c100 : OkSpec Tryd.prog := ⟨sp_mixed_New_c100, mixed_New_c100_is, Tryd.call6⟩

noncomputable def fn_mixed_Set_Size (xa : (Option (Int × (Option (List Int)) × (Option (Int × (List Int)))))) : Option Int :=
  cond (xa.isNone) (some (0)) ((xa : Option (Int × (Option (List Int)) × (Option (Int × (List Int))))).bind fun y11 => some (y11.1))
noncomputable def h_mixed_Set_Size : Hn Tryd.prog := .tw 4 (.nil) (.nil)
noncomputable def sp_mixed_Set_Size : Spec := ⟨21, ⟨[(0, .dat (.ptr (.cons (.int .i64) (.cons (.ptr (.one (.sl (.int .i64)))) (.one (.ptr (.cons (.int .i64) (.one (.sl (.int .u64))))))))))], []⟩, [⟨[(0, .dat (.int .i64))], []⟩], fun x => fn_mixed_Set_Size x⟩
theorem mixed_Set_Size_is : SpecOk Tryd.prog sp_mixed_Set_Size := fn_is Tryd.func21 h_mixed_Set_Size (by kernel_rfl) (by kernel_rfl)
noncomputable def ok_mixed_Set_Size : OkSpec Tryd.prog := ⟨sp_mixed_Set_Size, mixed_Set_Size_is, Tryd.call21⟩

noncomputable def fn_mixed_Set_Dense (xa : (Option (Int × (Option (List Int)) × (Option (Int × (List Int)))))) : Option Bool :=
  (cond (!xa.isNone) ((xa : Option (Int × (Option (List Int)) × (Option (Int × (List Int))))).bind fun y36 => some (!y36.2.2.isNone)) (some (false))).bind fun t34 => some (t34)
noncomputable def h_mixed_Set_Dense : Hn Tryd.prog := .gj 5 ⟨[(11, .dat .bool)], []⟩ [] (.two 5 (.nil) (.nil)) (.nil)
noncomputable def sp_mixed_Set_Dense : Spec := ⟨23, ⟨[(0, .dat (.ptr (.cons (.int .i64) (.cons (.ptr (.one (.sl (.int .i64)))) (.one (.ptr (.cons (.int .i64) (.one (.sl (.int .u64))))))))))], []⟩, [⟨[(0, .dat .bool)], []⟩], fun x => fn_mixed_Set_Dense x⟩
theorem mixed_Set_Dense_is : SpecOk Tryd.prog sp_mixed_Set_Dense := fn_is Tryd.func23 h_mixed_Set_Dense (by kernel_rfl) (by kernel_rfl)
noncomputable def ok_mixed_Set_Dense : OkSpec Tryd.prog := ⟨sp_mixed_Set_Dense, mixed_Set_Dense_is, Tryd.call23⟩

noncomputable def fn_mixed_Set_Add_zi (xb : Int) : Option Bool :=
  (cond (decide (xb < 0)) (some (true)) ((fn_mixed_Set_Size ((none : (Option (Int × (Option (List Int)) × (Option (Int × (List Int)))))))).bind fun i36 => some (decide (i36 ≤ xb)))).bind fun t32 => cond (t32) (some (false)) ((fn_mixed_Set_Dense ((none : (Option (Int × (Option (List Int)) × (Option (Int × (List Int)))))))).bind fun t43 => cond (t43) (none) (none))
noncomputable def h_mixed_Set_Add_zi : Hn Tryd.prog := .gj 4 ⟨[(13, .dat .bool)], []⟩ [] (.two 8 (.nil) (.cl ok_mixed_Set_Size [] (.nil))) (.tw 13 (.nil) (.cl ok_mixed_Set_Dense [] (.tw 15 (.nil) (.nil))))
noncomputable def sp_mixed_Set_Add_zi : Spec := ⟨11, ⟨[(0, .nilp), (1, .dat (.int .i64))], []⟩, [⟨[(0, .dat .bool)], []⟩], fun x => fn_mixed_Set_Add_zi x⟩
theorem mixed_Set_Add_zi_is : SpecOk Tryd.prog sp_mixed_Set_Add_zi := fn_is Tryd.func11 h_mixed_Set_Add_zi (by kernel_rfl) (by kernel_rfl)
noncomputable def ok_mixed_Set_Add_zi : OkSpec Tryd.prog := ⟨sp_mixed_Set_Add_zi, mixed_Set_Add_zi_is, Tryd.call11⟩
noncomputable def fn_mixed_Set_Fill_zii_l1 (xc : Int) : Int → Option (Int ⊕ Unit) := fun (i144 : Int) => (fn_mixed_Set_Size ((none : (Option (Int × (Option (List Int)) × (Option (Int × (List Int)))))))).bind fun i162 => cond (decide (i144 < (if i162 < xc then i162 else xc))) ((fn_mixed_Set_Add_zi i144).bind fun t169 => some (.inl (IntKind.wrap .i64 (i144 + 1)))) (some (.inr ((()))))
noncomputable def fn_mixed_Set_Fill_zii (xb : Int) (xc : Int) : Option Unit :=
  (loop (fn_mixed_Set_Fill_zii_l1 xc) (if xb < 0 then 0 else xb) : Option Unit).bind fun () => some (())
noncomputable def h_mixed_Set_Fill_zii : Hn Tryd.prog := .jn [] ⟨[], []⟩ [] (.lp ⟨[(6, .dat (.int .i64))], []⟩ (.cl ok_mixed_Set_Size [] (.tw 14 (.cl ok_mixed_Set_Add_zi [] (.nil)) (.nil)))) (.nil)
noncomputable def sp_mixed_Set_Fill_zii : Spec := ⟨17, ⟨[(0, .nilp), (1, .dat (.int .i64)), (2, .dat (.int .i64))], []⟩, [⟨[], []⟩], fun x => fn_mixed_Set_Fill_zii x.1 x.2⟩
theorem mixed_Set_Fill_zii_is : SpecOk Tryd.prog sp_mixed_Set_Fill_zii := fn_is Tryd.func17 h_mixed_Set_Fill_zii (by kernel_rfl) (by kernel_rfl)
noncomputable def ok_mixed_Set_Fill_zii : OkSpec Tryd.prog := ⟨sp_mixed_Set_Fill_zii, mixed_Set_Fill_zii_is, Tryd.call17⟩

noncomputable def fn_math_bits_OnesCount64 (xa : Int) : Option Int :=
  some (IntKind.wrap .i64 ((BitVec.ofInt (IntKind.bits .i64) (IntKind.wrap .i64 (IntKind.wrap .u64 ((IntKind.wrap .u64 ((IntKind.wrap .u64 ((IntKind.wrap .u64 ((BitVec.ofInt (IntKind.bits .u64) (IntKind.wrap .u64 ((Int.fdiv (IntKind.wrap .u64 ((IntKind.wrap .u64 ((BitVec.ofInt (IntKind.bits .u64) (Int.fdiv (IntKind.wrap .u64 ((IntKind.wrap .u64 ((BitVec.ofInt (IntKind.bits .u64) (Int.fdiv xa (2 ^ (min (Int.toNat 1) (IntKind.bits .u64)))) &&& BitVec.ofInt (IntKind.bits .u64) 6148914691236517205).toNat : Int)) + (IntKind.wrap .u64 ((BitVec.ofInt (IntKind.bits .u64) xa &&& BitVec.ofInt (IntKind.bits .u64) 6148914691236517205).toNat : Int)))) (2 ^ (min (Int.toNat 2) (IntKind.bits .u64)))) &&& BitVec.ofInt (IntKind.bits .u64) 3689348814741910323).toNat : Int)) + (IntKind.wrap .u64 ((BitVec.ofInt (IntKind.bits .u64) (IntKind.wrap .u64 ((IntKind.wrap .u64 ((BitVec.ofInt (IntKind.bits .u64) (Int.fdiv xa (2 ^ (min (Int.toNat 1) (IntKind.bits .u64)))) &&& BitVec.ofInt (IntKind.bits .u64) 6148914691236517205).toNat : Int)) + (IntKind.wrap .u64 ((BitVec.ofInt (IntKind.bits .u64) xa &&& BitVec.ofInt (IntKind.bits .u64) 6148914691236517205).toNat : Int)))) &&& BitVec.ofInt (IntKind.bits .u64) 3689348814741910323).toNat : Int)))) (2 ^ (min (Int.toNat 4) (IntKind.bits .u64)))) + (IntKind.wrap .u64 ((IntKind.wrap .u64 ((BitVec.ofInt (IntKind.bits .u64) (Int.fdiv (IntKind.wrap .u64 ((IntKind.wrap .u64 ((BitVec.ofInt (IntKind.bits .u64) (Int.fdiv xa (2 ^ (min (Int.toNat 1) (IntKind.bits .u64)))) &&& BitVec.ofInt (IntKind.bits .u64) 6148914691236517205).toNat : Int)) + (IntKind.wrap .u64 ((BitVec.ofInt (IntKind.bits .u64) xa &&& BitVec.ofInt (IntKind.bits .u64) 6148914691236517205).toNat : Int)))) (2 ^ (min (Int.toNat 2) (IntKind.bits .u64)))) &&& BitVec.ofInt (IntKind.bits .u64) 3689348814741910323).toNat : Int)) + (IntKind.wrap .u64 ((BitVec.ofInt (IntKind.bits .u64) (IntKind.wrap .u64 ((IntKind.wrap .u64 ((BitVec.ofInt (IntKind.bits .u64) (Int.fdiv xa (2 ^ (min (Int.toNat 1) (IntKind.bits .u64)))) &&& BitVec.ofInt (IntKind.bits .u64) 6148914691236517205).toNat : Int)) + (IntKind.wrap .u64 ((BitVec.ofInt (IntKind.bits .u64) xa &&& BitVec.ofInt (IntKind.bits .u64) 6148914691236517205).toNat : Int)))) &&& BitVec.ofInt (IntKind.bits .u64) 3689348814741910323).toNat : Int)))))) &&& BitVec.ofInt (IntKind.bits .u64) 1085102592571150095).toNat : Int)) + (Int.fdiv (IntKind.wrap .u64 ((BitVec.ofInt (IntKind.bits .u64) (IntKind.wrap .u64 ((Int.fdiv (IntKind.wrap .u64 ((IntKind.wrap .u64 ((BitVec.ofInt (IntKind.bits .u64) (Int.fdiv (IntKind.wrap .u64 ((IntKind.wrap .u64 ((BitVec.ofInt (IntKind.bits .u64) (Int.fdiv xa (2 ^ (min (Int.toNat 1) (IntKind.bits .u64)))) &&& BitVec.ofInt (IntKind.bits .u64) 6148914691236517205).toNat : Int)) + (IntKind.wrap .u64 ((BitVec.ofInt (IntKind.bits .u64) xa &&& BitVec.ofInt (IntKind.bits .u64) 6148914691236517205).toNat : Int)))) (2 ^ (min (Int.toNat 2) (IntKind.bits .u64)))) &&& BitVec.ofInt (IntKind.bits .u64) 3689348814741910323).toNat : Int)) + (IntKind.wrap .u64 ((BitVec.ofInt (IntKind.bits .u64) (IntKind.wrap .u64 ((IntKind.wrap .u64 ((BitVec.ofInt (IntKind.bits .u64) (Int.fdiv xa (2 ^ (min (Int.toNat 1) (IntKind.bits .u64)))) &&& BitVec.ofInt (IntKind.bits .u64) 6148914691236517205).toNat : Int)) + (IntKind.wrap .u64 ((BitVec.ofInt (IntKind.bits .u64) xa &&& BitVec.ofInt (IntKind.bits .u64) 6148914691236517205).toNat : Int)))) &&& BitVec.ofInt (IntKind.bits .u64) 3689348814741910323).toNat : Int)))) (2 ^ (min (Int.toNat 4) (IntKind.bits .u64)))) + (IntKind.wrap .u64 ((IntKind.wrap .u64 ((BitVec.ofInt (IntKind.bits .u64) (Int.fdiv (IntKind.wrap .u64 ((IntKind.wrap .u64 ((BitVec.ofInt (IntKind.bits .u64) (Int.fdiv xa (2 ^ (min (Int.toNat 1) (IntKind.bits .u64)))) &&& BitVec.ofInt (IntKind.bits .u64) 6148914691236517205).toNat : Int)) + (IntKind.wrap .u64 ((BitVec.ofInt (IntKind.bits .u64) xa &&& BitVec.ofInt (IntKind.bits .u64) 6148914691236517205).toNat : Int)))) (2 ^ (min (Int.toNat 2) (IntKind.bits .u64)))) &&& BitVec.ofInt (IntKind.bits .u64) 3689348814741910323).toNat : Int)) + (IntKind.wrap .u64 ((BitVec.ofInt (IntKind.bits .u64) (IntKind.wrap .u64 ((IntKind.wrap .u64 ((BitVec.ofInt (IntKind.bits .u64) (Int.fdiv xa (2 ^ (min (Int.toNat 1) (IntKind.bits .u64)))) &&& BitVec.ofInt (IntKind.bits .u64) 6148914691236517205).toNat : Int)) + (IntKind.wrap .u64 ((BitVec.ofInt (IntKind.bits .u64) xa &&& BitVec.ofInt (IntKind.bits .u64) 6148914691236517205).toNat : Int)))) &&& BitVec.ofInt (IntKind.bits .u64) 3689348814741910323).toNat : Int)))))) &&& BitVec.ofInt (IntKind.bits .u64) 1085102592571150095).toNat : Int)) (2 ^ (min (Int.toNat 8) (IntKind.bits .u64)))))) + (Int.fdiv (IntKind.wrap .u64 ((IntKind.wrap .u64 ((BitVec.ofInt (IntKind.bits .u64) (IntKind.wrap .u64 ((Int.fdiv (IntKind.wrap .u64 ((IntKind.wrap .u64 ((BitVec.ofInt (IntKind.bits .u64) (Int.fdiv (IntKind.wrap .u64 ((IntKind.wrap .u64 ((BitVec.ofInt (IntKind.bits .u64) (Int.fdiv xa (2 ^ (min (Int.toNat 1) (IntKind.bits .u64)))) &&& BitVec.ofInt (IntKind.bits .u64) 6148914691236517205).toNat : Int)) + (IntKind.wrap .u64 ((BitVec.ofInt (IntKind.bits .u64) xa &&& BitVec.ofInt (IntKind.bits .u64) 6148914691236517205).toNat : Int)))) (2 ^ (min (Int.toNat 2) (IntKind.bits .u64)))) &&& BitVec.ofInt (IntKind.bits .u64) 3689348814741910323).toNat : Int)) + (IntKind.wrap .u64 ((BitVec.ofInt (IntKind.bits .u64) (IntKind.wrap .u64 ((IntKind.wrap .u64 ((BitVec.ofInt (IntKind.bits .u64) (Int.fdiv xa (2 ^ (min (Int.toNat 1) (IntKind.bits .u64)))) &&& BitVec.ofInt (IntKind.bits .u64) 6148914691236517205).toNat : Int)) + (IntKind.wrap .u64 ((BitVec.ofInt (IntKind.bits .u64) xa &&& BitVec.ofInt (IntKind.bits .u64) 6148914691236517205).toNat : Int)))) &&& BitVec.ofInt (IntKind.bits .u64) 3689348814741910323).toNat : Int)))) (2 ^ (min (Int.toNat 4) (IntKind.bits .u64)))) + (IntKind.wrap .u64 ((IntKind.wrap .u64 ((BitVec.ofInt (IntKind.bits .u64) (Int.fdiv (IntKind.wrap .u64 ((IntKind.wrap .u64 ((BitVec.ofInt (IntKind.bits .u64) (Int.fdiv xa (2 ^ (min (Int.toNat 1) (IntKind.bits .u64)))) &&& BitVec.ofInt (IntKind.bits .u64) 6148914691236517205).toNat : Int)) + (IntKind.wrap .u64 ((BitVec.ofInt (IntKind.bits .u64) xa &&& BitVec.ofInt (IntKind.bits .u64) 6148914691236517205).toNat : Int)))) (2 ^ (min (Int.toNat 2) (IntKind.bits .u64)))) &&& BitVec.ofInt (IntKind.bits .u64) 3689348814741910323).toNat : Int)) + (IntKind.wrap .u64 ((BitVec.ofInt (IntKind.bits .u64) (IntKind.wrap .u64 ((IntKind.wrap .u64 ((BitVec.ofInt (IntKind.bits .u64) (Int.fdiv xa (2 ^ (min (Int.toNat 1) (IntKind.bits .u64)))) &&& BitVec.ofInt (IntKind.bits .u64) 6148914691236517205).toNat : Int)) + (IntKind.wrap .u64 ((BitVec.ofInt (IntKind.bits .u64) xa &&& BitVec.ofInt (IntKind.bits .u64) 6148914691236517205).toNat : Int)))) &&& BitVec.ofInt (IntKind.bits .u64) 3689348814741910323).toNat : Int)))))) &&& BitVec.ofInt (IntKind.bits .u64) 1085102592571150095).toNat : Int)) + (Int.fdiv (IntKind.wrap .u64 ((BitVec.ofInt (IntKind.bits .u64) (IntKind.wrap .u64 ((Int.fdiv (IntKind.wrap .u64 ((IntKind.wrap .u64 ((BitVec.ofInt (IntKind.bits .u64) (Int.fdiv (IntKind.wrap .u64 ((IntKind.wrap .u64 ((BitVec.ofInt (IntKind.bits .u64) (Int.fdiv xa (2 ^ (min (Int.toNat 1) (IntKind.bits .u64)))) &&& BitVec.ofInt (IntKind.bits .u64) 6148914691236517205).toNat : Int)) + (IntKind.wrap .u64 ((BitVec.ofInt (IntKind.bits .u64) xa &&& BitVec.ofInt (IntKind.bits .u64) 6148914691236517205).toNat : Int)))) (2 ^ (min (Int.toNat 2) (IntKind.bits .u64)))) &&& BitVec.ofInt (IntKind.bits .u64) 3689348814741910323).toNat : Int)) + (IntKind.wrap .u64 ((BitVec.ofInt (IntKind.bits .u64) (IntKind.wrap .u64 ((IntKind.wrap .u64 ((BitVec.ofInt (IntKind.bits .u64) (Int.fdiv xa (2 ^ (min (Int.toNat 1) (IntKind.bits .u64)))) &&& BitVec.ofInt (IntKind.bits .u64) 6148914691236517205).toNat : Int)) + (IntKind.wrap .u64 ((BitVec.ofInt (IntKind.bits .u64) xa &&& BitVec.ofInt (IntKind.bits .u64) 6148914691236517205).toNat : Int)))) &&& BitVec.ofInt (IntKind.bits .u64) 3689348814741910323).toNat : Int)))) (2 ^ (min (Int.toNat 4) (IntKind.bits .u64)))) + (IntKind.wrap .u64 ((IntKind.wrap .u64 ((BitVec.ofInt (IntKind.bits .u64) (Int.fdiv (IntKind.wrap .u64 ((IntKind.wrap .u64 ((BitVec.ofInt (IntKind.bits .u64) (Int.fdiv xa (2 ^ (min (Int.toNat 1) (IntKind.bits .u64)))) &&& BitVec.ofInt (IntKind.bits .u64) 6148914691236517205).toNat : Int)) + (IntKind.wrap .u64 ((BitVec.ofInt (IntKind.bits .u64) xa &&& BitVec.ofInt (IntKind.bits .u64) 6148914691236517205).toNat : Int)))) (2 ^ (min (Int.toNat 2) (IntKind.bits .u64)))) &&& BitVec.ofInt (IntKind.bits .u64) 3689348814741910323).toNat : Int)) + (IntKind.wrap .u64 ((BitVec.ofInt (IntKind.bits .u64) (IntKind.wrap .u64 ((IntKind.wrap .u64 ((BitVec.ofInt (IntKind.bits .u64) (Int.fdiv xa (2 ^ (min (Int.toNat 1) (IntKind.bits .u64)))) &&& BitVec.ofInt (IntKind.bits .u64) 6148914691236517205).toNat : Int)) + (IntKind.wrap .u64 ((BitVec.ofInt (IntKind.bits .u64) xa &&& BitVec.ofInt (IntKind.bits .u64) 6148914691236517205).toNat : Int)))) &&& BitVec.ofInt (IntKind.bits .u64) 3689348814741910323).toNat : Int)))))) &&& BitVec.ofInt (IntKind.bits .u64) 1085102592571150095).toNat : Int)) (2 ^ (min (Int.toNat 8) (IntKind.bits .u64)))))) (2 ^ (min (Int.toNat 16) (IntKind.bits .u64)))))) + (Int.fdiv (IntKind.wrap .u64 ((IntKind.wrap .u64 ((IntKind.wrap .u64 ((BitVec.ofInt (IntKind.bits .u64) (IntKind.wrap .u64 ((Int.fdiv (IntKind.wrap .u64 ((IntKind.wrap .u64 ((BitVec.ofInt (IntKind.bits .u64) (Int.fdiv (IntKind.wrap .u64 ((IntKind.wrap .u64 ((BitVec.ofInt (IntKind.bits .u64) (Int.fdiv xa (2 ^ (min (Int.toNat 1) (IntKind.bits .u64)))) &&& BitVec.ofInt (IntKind.bits .u64) 6148914691236517205).toNat : Int)) + (IntKind.wrap .u64 ((BitVec.ofInt (IntKind.bits .u64) xa &&& BitVec.ofInt (IntKind.bits .u64) 6148914691236517205).toNat : Int)))) (2 ^ (min (Int.toNat 2) (IntKind.bits .u64)))) &&& BitVec.ofInt (IntKind.bits .u64) 3689348814741910323).toNat : Int)) + (IntKind.wrap .u64 ((BitVec.ofInt (IntKind.bits .u64) (IntKind.wrap .u64 ((IntKind.wrap .u64 ((BitVec.ofInt (IntKind.bits .u64) (Int.fdiv xa (2 ^ (min (Int.toNat 1) (IntKind.bits .u64)))) &&& BitVec.ofInt (IntKind.bits .u64) 6148914691236517205).toNat : Int)) + (IntKind.wrap .u64 ((BitVec.ofInt (IntKind.bits .u64) xa &&& BitVec.ofInt (IntKind.bits .u64) 6148914691236517205).toNat : Int)))) &&& BitVec.ofInt (IntKind.bits .u64) 3689348814741910323).toNat : Int)))) (2 ^ (min (Int.toNat 4) (IntKind.bits .u64)))) + (IntKind.wrap .u64 ((IntKind.wrap .u64 ((BitVec.ofInt (IntKind.bits .u64) (Int.fdiv (IntKind.wrap .u64 ((IntKind.wrap .u64 ((BitVec.ofInt (IntKind.bits .u64) (Int.fdiv xa (2 ^ (min (Int.toNat 1) (IntKind.bits .u64)))) &&& BitVec.ofInt (IntKind.bits .u64) 6148914691236517205).toNat : Int)) + (IntKind.wrap .u64 ((BitVec.ofInt (IntKind.bits .u64) xa &&& BitVec.ofInt (IntKind.bits .u64) 6148914691236517205).toNat : Int)))) (2 ^ (min (Int.toNat 2) (IntKind.bits .u64)))) &&& BitVec.ofInt (IntKind.bits .u64) 3689348814741910323).toNat : Int)) + (IntKind.wrap .u64 ((BitVec.ofInt (IntKind.bits .u64) (IntKind.wrap .u64 ((IntKind.wrap .u64 ((BitVec.ofInt (IntKind.bits .u64) (Int.fdiv xa (2 ^ (min (Int.toNat 1) (IntKind.bits .u64)))) &&& BitVec.ofInt (IntKind.bits .u64) 6148914691236517205).toNat : Int)) + (IntKind.wrap .u64 ((BitVec.ofInt (IntKind.bits .u64) xa &&& BitVec.ofInt (IntKind.bits .u64) 6148914691236517205).toNat : Int)))) &&& BitVec.ofInt (IntKind.bits .u64) 3689348814741910323).toNat : Int)))))) &&& BitVec.ofInt (IntKind.bits .u64) 1085102592571150095).toNat : Int)) + (Int.fdiv (IntKind.wrap .u64 ((BitVec.ofInt (IntKind.bits .u64) (IntKind.wrap .u64 ((Int.fdiv (IntKind.wrap .u64 ((IntKind.wrap .u64 ((BitVec.ofInt (IntKind.bits .u64) (Int.fdiv (IntKind.wrap .u64 ((IntKind.wrap .u64 ((BitVec.ofInt (IntKind.bits .u64) (Int.fdiv xa (2 ^ (min (Int.toNat 1) (IntKind.bits .u64)))) &&& BitVec.ofInt (IntKind.bits .u64) 6148914691236517205).toNat : Int)) + (IntKind.wrap .u64 ((BitVec.ofInt (IntKind.bits .u64) xa &&& BitVec.ofInt (IntKind.bits .u64) 6148914691236517205).toNat : Int)))) (2 ^ (min (Int.toNat 2) (IntKind.bits .u64)))) &&& BitVec.ofInt (IntKind.bits .u64) 3689348814741910323).toNat : Int)) + (IntKind.wrap .u64 ((BitVec.ofInt (IntKind.bits .u64) (IntKind.wrap .u64 ((IntKind.wrap .u64 ((BitVec.ofInt (IntKind.bits .u64) (Int.fdiv xa (2 ^ (min (Int.toNat 1) (IntKind.bits .u64)))) &&& BitVec.ofInt (IntKind.bits .u64) 6148914691236517205).toNat : Int)) + (IntKind.wrap .u64 ((BitVec.ofInt (IntKind.bits .u64) xa &&& BitVec.ofInt (IntKind.bits .u64) 6148914691236517205).toNat : Int)))) &&& BitVec.ofInt (IntKind.bits .u64) 3689348814741910323).toNat : Int)))) (2 ^ (min (Int.toNat 4) (IntKind.bits .u64)))) + (IntKind.wrap .u64 ((IntKind.wrap .u64 ((BitVec.ofInt (IntKind.bits .u64) (Int.fdiv (IntKind.wrap .u64 ((IntKind.wrap .u64 ((BitVec.ofInt (IntKind.bits .u64) (Int.fdiv xa (2 ^ (min (Int.toNat 1) (IntKind.bits .u64)))) &&& BitVec.ofInt (IntKind.bits .u64) 6148914691236517205).toNat : Int)) + (IntKind.wrap .u64 ((BitVec.ofInt (IntKind.bits .u64) xa &&& BitVec.ofInt (IntKind.bits .u64) 6148914691236517205).toNat : Int)))) (2 ^ (min (Int.toNat 2) (IntKind.bits .u64)))) &&& BitVec.ofInt (IntKind.bits .u64) 3689348814741910323).toNat : Int)) + (IntKind.wrap .u64 ((BitVec.ofInt (IntKind.bits .u64) (IntKind.wrap .u64 ((IntKind.wrap .u64 ((BitVec.ofInt (IntKind.bits .u64) (Int.fdiv xa (2 ^ (min (Int.toNat 1) (IntKind.bits .u64)))) &&& BitVec.ofInt (IntKind.bits .u64) 6148914691236517205).toNat : Int)) + (IntKind.wrap .u64 ((BitVec.ofInt (IntKind.bits .u64) xa &&& BitVec.ofInt (IntKind.bits .u64) 6148914691236517205).toNat : Int)))) &&& BitVec.ofInt (IntKind.bits .u64) 3689348814741910323).toNat : Int)))))) &&& BitVec.ofInt (IntKind.bits .u64) 1085102592571150095).toNat : Int)) (2 ^ (min (Int.toNat 8) (IntKind.bits .u64)))))) + (Int.fdiv (IntKind.wrap .u64 ((IntKind.wrap .u64 ((BitVec.ofInt (IntKind.bits .u64) (IntKind.wrap .u64 ((Int.fdiv (IntKind.wrap .u64 ((IntKind.wrap .u64 ((BitVec.ofInt (IntKind.bits .u64) (Int.fdiv (IntKind.wrap .u64 ((IntKind.wrap .u64 ((BitVec.ofInt (IntKind.bits .u64) (Int.fdiv xa (2 ^ (min (Int.toNat 1) (IntKind.bits .u64)))) &&& BitVec.ofInt (IntKind.bits .u64) 6148914691236517205).toNat : Int)) + (IntKind.wrap .u64 ((BitVec.ofInt (IntKind.bits .u64) xa &&& BitVec.ofInt (IntKind.bits .u64) 6148914691236517205).toNat : Int)))) (2 ^ (min (Int.toNat 2) (IntKind.bits .u64)))) &&& BitVec.ofInt (IntKind.bits .u64) 3689348814741910323).toNat : Int)) + (IntKind.wrap .u64 ((BitVec.ofInt (IntKind.bits .u64) (IntKind.wrap .u64 ((IntKind.wrap .u64 ((BitVec.ofInt (IntKind.bits .u64) (Int.fdiv xa (2 ^ (min (Int.toNat 1) (IntKind.bits .u64)))) &&& BitVec.ofInt (IntKind.bits .u64) 6148914691236517205).toNat : Int)) + (IntKind.wrap .u64 ((BitVec.ofInt (IntKind.bits .u64) xa &&& BitVec.ofInt (IntKind.bits .u64) 6148914691236517205).toNat : Int)))) &&& BitVec.ofInt (IntKind.bits .u64) 3689348814741910323).toNat : Int)))) (2 ^ (min (Int.toNat 4) (IntKind.bits .u64)))) + (IntKind.wrap .u64 ((IntKind.wrap .u64 ((BitVec.ofInt (IntKind.bits .u64) (Int.fdiv (IntKind.wrap .u64 ((IntKind.wrap .u64 ((BitVec.ofInt (IntKind.bits .u64) (Int.fdiv xa (2 ^ (min (Int.toNat 1) (IntKind.bits .u64)))) &&& BitVec.ofInt (IntKind.bits .u64) 6148914691236517205).toNat : Int)) + (IntKind.wrap .u64 ((BitVec.ofInt (IntKind.bits .u64) xa &&& BitVec.ofInt (IntKind.bits .u64) 6148914691236517205).toNat : Int)))) (2 ^ (min (Int.toNat 2) (IntKind.bits .u64)))) &&& BitVec.ofInt (IntKind.bits .u64) 3689348814741910323).toNat : Int)) + (IntKind.wrap .u64 ((BitVec.ofInt (IntKind.bits .u64) (IntKind.wrap .u64 ((IntKind.wrap .u64 ((BitVec.ofInt (IntKind.bits .u64) (Int.fdiv xa (2 ^ (min (Int.toNat 1) (IntKind.bits .u64)))) &&& BitVec.ofInt (IntKind.bits .u64) 6148914691236517205).toNat : Int)) + (IntKind.wrap .u64 ((BitVec.ofInt (IntKind.bits .u64) xa &&& BitVec.ofInt (IntKind.bits .u64) 6148914691236517205).toNat : Int)))) &&& BitVec.ofInt (IntKind.bits .u64) 3689348814741910323).toNat : Int)))))) &&& BitVec.ofInt (IntKind.bits .u64) 1085102592571150095).toNat : Int)) + (Int.fdiv (IntKind.wrap .u64 ((BitVec.ofInt (IntKind.bits .u64) (IntKind.wrap .u64 ((Int.fdiv (IntKind.wrap .u64 ((IntKind.wrap .u64 ((BitVec.ofInt (IntKind.bits .u64) (Int.fdiv (IntKind.wrap .u64 ((IntKind.wrap .u64 ((BitVec.ofInt (IntKind.bits .u64) (Int.fdiv xa (2 ^ (min (Int.toNat 1) (IntKind.bits .u64)))) &&& BitVec.ofInt (IntKind.bits .u64) 6148914691236517205).toNat : Int)) + (IntKind.wrap .u64 ((BitVec.ofInt (IntKind.bits .u64) xa &&& BitVec.ofInt (IntKind.bits .u64) 6148914691236517205).toNat : Int)))) (2 ^ (min (Int.toNat 2) (IntKind.bits .u64)))) &&& BitVec.ofInt (IntKind.bits .u64) 3689348814741910323).toNat : Int)) + (IntKind.wrap .u64 ((BitVec.ofInt (IntKind.bits .u64) (IntKind.wrap .u64 ((IntKind.wrap .u64 ((BitVec.ofInt (IntKind.bits .u64) (Int.fdiv xa (2 ^ (min (Int.toNat 1) (IntKind.bits .u64)))) &&& BitVec.ofInt (IntKind.bits .u64) 6148914691236517205).toNat : Int)) + (IntKind.wrap .u64 ((BitVec.ofInt (IntKind.bits .u64) xa &&& BitVec.ofInt (IntKind.bits .u64) 6148914691236517205).toNat : Int)))) &&& BitVec.ofInt (IntKind.bits .u64) 3689348814741910323).toNat : Int)))) (2 ^ (min (Int.toNat 4) (IntKind.bits .u64)))) + (IntKind.wrap .u64 ((IntKind.wrap .u64 ((BitVec.ofInt (IntKind.bits .u64) (Int.fdiv (IntKind.wrap .u64 ((IntKind.wrap .u64 ((BitVec.ofInt (IntKind.bits .u64) (Int.fdiv xa (2 ^ (min (Int.toNat 1) (IntKind.bits .u64)))) &&& BitVec.ofInt (IntKind.bits .u64) 6148914691236517205).toNat : Int)) + (IntKind.wrap .u64 ((BitVec.ofInt (IntKind.bits .u64) xa &&& BitVec.ofInt (IntKind.bits .u64) 6148914691236517205).toNat : Int)))) (2 ^ (min (Int.toNat 2) (IntKind.bits .u64)))) &&& BitVec.ofInt (IntKind.bits .u64) 3689348814741910323).toNat : Int)) + (IntKind.wrap .u64 ((BitVec.ofInt (IntKind.bits .u64) (IntKind.wrap .u64 ((IntKind.wrap .u64 ((BitVec.ofInt (IntKind.bits .u64) (Int.fdiv xa (2 ^ (min (Int.toNat 1) (IntKind.bits .u64)))) &&& BitVec.ofInt (IntKind.bits .u64) 6148914691236517205).toNat : Int)) + (IntKind.wrap .u64 ((BitVec.ofInt (IntKind.bits .u64) xa &&& BitVec.ofInt (IntKind.bits .u64) 6148914691236517205).toNat : Int)))) &&& BitVec.ofInt (IntKind.bits .u64) 3689348814741910323).toNat : Int)))))) &&& BitVec.ofInt (IntKind.bits .u64) 1085102592571150095).toNat : Int)) (2 ^ (min (Int.toNat 8) (IntKind.bits .u64)))))) (2 ^ (min (Int.toNat 16) (IntKind.bits .u64)))))) (2 ^ (min (Int.toNat 32) (IntKind.bits .u64))))))) &&& BitVec.ofInt (IntKind.bits .i64) 127).toNat : Int))
noncomputable def h_math_bits_OnesCount64 : Hn Tryd.prog := .nil
noncomputable def sp_math_bits_OnesCount64 : Spec := ⟨35, ⟨[(0, .dat (.int .u64))], []⟩, [⟨[(0, .dat (.int .i64))], []⟩], fun x => fn_math_bits_OnesCount64 x⟩
theorem math_bits_OnesCount64_is : SpecOk Tryd.prog sp_math_bits_OnesCount64 := fn_is Tryd.func35 h_math_bits_OnesCount64 (by kernel_rfl) (by kernel_rfl)
noncomputable def ok_math_bits_OnesCount64 : OkSpec Tryd.prog := ⟨sp_math_bits_OnesCount64, math_bits_OnesCount64_is, Tryd.call35⟩
noncomputable def fn_dense_Set_Count_l1 (y125 : (Int × (List Int))) : (Int × Int) → Option ((Int × Int) ⊕ Int) := fun ((i209, i210) : (Int × Int)) => cond (decide (i210 < (((y125.2.length : Nat) : Int)))) ((getI y125.2 i210).bind fun x231 => (fn_math_bits_OnesCount64 x231).bind fun i242 => some (.inl ((IntKind.wrap .i64 (i209 + i242), IntKind.wrap .i64 (i210 + 1))))) (some (.inr (i209)))
noncomputable def fn_dense_Set_Count (xa : (Option (Int × (List Int)))) : Option Int :=
  cond (xa.isNone) (some (0)) ((xa : Option (Int × (List Int))).bind fun y125 => (loop (fn_dense_Set_Count_l1 y125) (0, 0) : Option Int).bind fun i190 => some (i190))
noncomputable def h_dense_Set_Count : Hn Tryd.prog := .tw 7 (.nil) (.jn [] ⟨[(3, .dat (.int .i64))], []⟩ [] (.lp ⟨[(3, .dat (.int .i64)), (13, .dat (.int .i64))], []⟩ (.tw 14 (.cl ok_math_bits_OnesCount64 [] (.nil)) (.nil))) (.nil))
noncomputable def sp_dense_Set_Count : Spec := ⟨14, ⟨[(0, .dat (.ptr (.cons (.int .i64) (.one (.sl (.int .u64))))))], []⟩, [⟨[(0, .dat (.int .i64))], []⟩], fun x => fn_dense_Set_Count x⟩
theorem dense_Set_Count_is : SpecOk Tryd.prog sp_dense_Set_Count := fn_is Tryd.func14 h_dense_Set_Count (by kernel_rfl) (by kernel_rfl)
noncomputable def ok_dense_Set_Count : OkSpec Tryd.prog := ⟨sp_dense_Set_Count, dense_Set_Count_is, Tryd.call14⟩

noncomputable def fn_sparse_Set_Len (xa : (Option (List Int))) : Option Int :=
  cond (xa.isNone) (some (0)) ((xa : Option (List Int)).bind fun y14 => some (((y14.length : Nat) : Int)))
noncomputable def h_sparse_Set_Len : Hn Tryd.prog := .tw 4 (.nil) (.nil)
noncomputable def sp_sparse_Set_Len : Spec := ⟨32, ⟨[(0, .dat (.ptr (.one (.sl (.int .i64)))))], []⟩, [⟨[(0, .dat (.int .i64))], []⟩], fun x => fn_sparse_Set_Len x⟩
theorem sparse_Set_Len_is : SpecOk Tryd.prog sp_sparse_Set_Len := fn_is Tryd.func32 h_sparse_Set_Len (by kernel_rfl) (by kernel_rfl)
noncomputable def ok_sparse_Set_Len : OkSpec Tryd.prog := ⟨sp_sparse_Set_Len, sparse_Set_Len_is, Tryd.call32⟩

noncomputable def fn_mixed_Set_Len (xa : (Option (Int × (Option (List Int)) × (Option (Int × (List Int)))))) : Option Int :=
  (fn_mixed_Set_Dense xa).bind fun t43 => cond (t43) ((xa : Option (Int × (Option (List Int)) × (Option (Int × (List Int))))).bind fun y48 => (fn_dense_Set_Count y48.2.2).bind fun i59 => some (i59)) (cond (xa.isNone) (some (0)) ((xa : Option (Int × (Option (List Int)) × (Option (Int × (List Int))))).bind fun y64 => (fn_sparse_Set_Len y64.2.1).bind fun i75 => some (i75)))
noncomputable def h_mixed_Set_Len : Hn Tryd.prog := .cl ok_mixed_Set_Dense [] (.tw 4 (.cl ok_dense_Set_Count [] (.nil)) (.tw 11 (.nil) (.cl ok_sparse_Set_Len [] (.nil))))
noncomputable def sp_mixed_Set_Len : Spec := ⟨13, ⟨[(0, .dat (.ptr (.cons (.int .i64) (.cons (.ptr (.one (.sl (.int .i64)))) (.one (.ptr (.cons (.int .i64) (.one (.sl (.int .u64))))))))))], []⟩, [⟨[(0, .dat (.int .i64))], []⟩], fun x => fn_mixed_Set_Len x⟩
theorem mixed_Set_Len_is : SpecOk Tryd.prog sp_mixed_Set_Len := fn_is Tryd.func13 h_mixed_Set_Len (by kernel_rfl) (by kernel_rfl)
noncomputable def ok_mixed_Set_Len : OkSpec Tryd.prog := ⟨sp_mixed_Set_Len, mixed_Set_Len_is, Tryd.call13⟩

noncomputable def fn_mixed_Set_Words (xa : (Option (Int × (Option (List Int)) × (Option (Int × (List Int)))))) : Option Int :=
  (fn_mixed_Set_Dense xa).bind fun t24 => cond (t24) ((xa : Option (Int × (Option (List Int)) × (Option (Int × (List Int))))).bind fun y29 => some (IntKind.wrap .i64 (Int.tdiv (IntKind.wrap .i64 (y29.1 + 63)) 64))) ((fn_mixed_Set_Len xa).bind fun i37 => some (i37))
noncomputable def h_mixed_Set_Words : Hn Tryd.prog := .cl ok_mixed_Set_Dense [] (.tw 4 (.nil) (.cl ok_mixed_Set_Len [] (.nil)))
noncomputable def sp_mixed_Set_Words : Spec := ⟨24, ⟨[(0, .dat (.ptr (.cons (.int .i64) (.cons (.ptr (.one (.sl (.int .i64)))) (.one (.ptr (.cons (.int .i64) (.one (.sl (.int .u64))))))))))], []⟩, [⟨[(0, .dat (.int .i64))], []⟩], fun x => fn_mixed_Set_Words x⟩
theorem mixed_Set_Words_is : SpecOk Tryd.prog sp_mixed_Set_Words := fn_is Tryd.func24 h_mixed_Set_Words (by kernel_rfl) (by kernel_rfl)
noncomputable def ok_mixed_Set_Words : OkSpec Tryd.prog := ⟨sp_mixed_Set_Words, mixed_Set_Words_is, Tryd.call24⟩

noncomputable def fn_dense_Set_Size (xa : (Option (Int × (List Int)))) : Option Int :=
  cond (xa.isNone) (some (0)) ((xa : Option (Int × (List Int))).bind fun y11 => some (y11.1))
noncomputable def h_dense_Set_Size : Hn Tryd.prog := .tw 4 (.nil) (.nil)
noncomputable def sp_dense_Set_Size : Spec := ⟨48, ⟨[(0, .dat (.ptr (.cons (.int .i64) (.one (.sl (.int .u64))))))], []⟩, [⟨[(0, .dat (.int .i64))], []⟩], fun x => fn_dense_Set_Size x⟩
theorem dense_Set_Size_is : SpecOk Tryd.prog sp_dense_Set_Size := fn_is Tryd.func48 h_dense_Set_Size (by kernel_rfl) (by kernel_rfl)
noncomputable def ok_dense_Set_Size : OkSpec Tryd.prog := ⟨sp_dense_Set_Size, dense_Set_Size_is, Tryd.call48⟩

noncomputable def fn_dense_Set_mayHave (xa : (Option (Int × (List Int)))) (xb : Int) : Option Bool :=
  (cond (decide (0 ≤ xb)) ((fn_dense_Set_Size xa).bind fun i28 => some (decide (xb < i28))) (some (false))).bind fun t24 => some (t24)
noncomputable def h_dense_Set_mayHave : Hn Tryd.prog := .gj 4 ⟨[(12, .dat .bool)], []⟩ [] (.two 7 (.cl ok_dense_Set_Size [] (.nil)) (.nil)) (.nil)
noncomputable def sp_dense_Set_mayHave : Spec := ⟨34, ⟨[(0, .dat (.ptr (.cons (.int .i64) (.one (.sl (.int .u64)))))), (1, .dat (.int .i64))], []⟩, [⟨[(0, .dat .bool)], []⟩], fun x => fn_dense_Set_mayHave x.1 x.2⟩
theorem dense_Set_mayHave_is : SpecOk Tryd.prog sp_dense_Set_mayHave := fn_is Tryd.func34 h_dense_Set_mayHave (by kernel_rfl) (by kernel_rfl)
noncomputable def ok_dense_Set_mayHave : OkSpec Tryd.prog := ⟨sp_dense_Set_mayHave, dense_Set_mayHave_is, Tryd.call34⟩

noncomputable def fn_dense_Set_Has (xa : (Option (Int × (List Int)))) (xb : Int) : Option Bool :=
  (fn_dense_Set_mayHave xa xb).bind fun t200 => cond (t200) ((xa : Option (Int × (List Int))).bind fun y205 => (getI y205.2 (IntKind.wrap .i64 (Int.tdiv xb 64))).bind fun x215 => (ge0 (Int.tmod xb 64)).bind fun u224 => some (!decide ((IntKind.wrap .u64 ((BitVec.ofInt (IntKind.bits .u64) x215 &&& BitVec.ofInt (IntKind.bits .u64) (IntKind.wrap .u64 (1 * 2 ^ (min (Int.toNat (Int.tmod xb 64)) (IntKind.bits .u64))))).toNat : Int)) = 0))) (some (false))
noncomputable def h_dense_Set_Has : Hn Tryd.prog := .mix [([0, 1], 2)] [3, 4, 5, 6, 7, 8, 9, 10, 11, 12, 13, 14, 15, 16, 17, 18] [] [] (.cl ok_dense_Set_mayHave [] (.two 8 (.nil) (.nil)))
noncomputable def sp_dense_Set_Has : Spec := ⟨16, ⟨[(0, .dat (.ptr (.cons (.int .i64) (.one (.sl (.int .u64)))))), (1, .dat (.int .i64))], []⟩, [⟨[(0, .dat .bool)], []⟩], fun x => fn_dense_Set_Has x.1 x.2⟩
theorem dense_Set_Has_is : SpecOk Tryd.prog sp_dense_Set_Has := fn_is Tryd.func16 h_dense_Set_Has (by kernel_rfl) (by kernel_rfl)
noncomputable def ok_dense_Set_Has : OkSpec Tryd.prog := ⟨sp_dense_Set_Has, dense_Set_Has_is, Tryd.call16⟩

noncomputable def fn_dense_Set_Add_p0i_ir (xb : Int) (qa0 : Int) (qa1 : (List Int)) : Option ((Bool × (List Int))) :=
  (fn_dense_Set_mayHave (some (qa0, qa1)) xb).bind fun t100 => (cond (!t100) (some (true)) ((fn_dense_Set_Has (some (qa0, qa1)) xb).bind fun t115 => some (t115))).bind fun t111 => cond (t111) (some ((false, qa1))) ((getI qa1 (IntKind.wrap .i64 (Int.tdiv xb 64))).bind fun x168 => (ge0 (Int.tmod xb 64)).bind fun u175 => (getI qa1 (IntKind.wrap .i64 (Int.tdiv xb 64))).bind fun x177 => (some (qa1.set (IntKind.wrap .i64 (Int.tdiv xb 64)).toNat (IntKind.wrap .u64 ((BitVec.ofInt (IntKind.bits .u64) x168 ||| BitVec.ofInt (IntKind.bits .u64) (IntKind.wrap .u64 (1 * 2 ^ (min (Int.toNat (Int.tmod xb 64)) (IntKind.bits .u64))))).toNat : Int)))).bind fun z184 => some ((true, z184)))
noncomputable def h_dense_Set_Add_p0i_ir : Hn Tryd.prog := .cl ok_dense_Set_mayHave [2, 0] (.gj 3 ⟨[(13, .dat .bool)], []⟩ [] (.two 9 (.nil) (.cl ok_dense_Set_Has [2, 0] (.nil))) (.tw 13 (.nil) (.mix [] [0, 1, 2, 3, 4, 5, 6, 7, 8, 9, 10, 11, 12] [13] [] (.nil))))
noncomputable def sp_dense_Set_Add_p0i_ir : Spec := ⟨12, ⟨[(0, .ptr 0 0), (1, .dat (.int .i64))], [⟨none, 62, [.is 1 (.dat (.int .i64)), .own 63 (.int .u64)], false, false, none, false⟩, ⟨none, 0, [], false, true, none, false⟩]⟩, [⟨[(0, .dat .bool)], [⟨(some 0), 62, [.is 1 (.any), .own 63 (.int .u64)], false, false, none, false⟩, ⟨(some 1), 0, [], false, true, none, false⟩]⟩], fun x => fn_dense_Set_Add_p0i_ir x.1 x.2.1 x.2.2⟩
theorem dense_Set_Add_p0i_ir_is : SpecOk Tryd.prog sp_dense_Set_Add_p0i_ir := fn_is Tryd.func12 h_dense_Set_Add_p0i_ir (by kernel_rfl) (by kernel_rfl)
noncomputable def ok_dense_Set_Add_p0i_ir : OkSpec Tryd.prog := ⟨sp_dense_Set_Add_p0i_ir, dense_Set_Add_p0i_ir_is, Tryd.call12⟩

noncomputable def fn_cmp_isNaN_int (xa : Int) : Option Bool :=
  some (!decide (xa = xa))
noncomputable def h_cmp_isNaN_int : Hn Tryd.prog := .nil
noncomputable def sp_cmp_isNaN_int : Spec := ⟨79, ⟨[(0, .dat (.int .i64))], []⟩, [⟨[(0, .dat .bool)], []⟩], fun x => fn_cmp_isNaN_int x⟩
theorem cmp_isNaN_int_is : SpecOk Tryd.prog sp_cmp_isNaN_int := fn_is Tryd.func79 h_cmp_isNaN_int (by kernel_rfl) (by kernel_rfl)
noncomputable def ok_cmp_isNaN_int : OkSpec Tryd.prog := ⟨sp_cmp_isNaN_int, cmp_isNaN_int_is, Tryd.call79⟩

noncomputable def fn_cmp_Less_int (xa : Int) (xb : Int) : Option Bool :=
  (fn_cmp_isNaN_int xa).bind fun t27 => (cond (t27) ((fn_cmp_isNaN_int xb).bind fun t42 => some (!t42)) (some (false))).bind fun t38 => some (t38 || (decide (xa < xb)))
noncomputable def h_cmp_Less_int : Hn Tryd.prog := .cl ok_cmp_isNaN_int [] (.gj 3 ⟨[(11, .dat .bool)], []⟩ [] (.two 7 (.cl ok_cmp_isNaN_int [] (.nil)) (.nil)) (.wt 12 (.gp 3 (.nil))))
noncomputable def sp_cmp_Less_int : Spec := ⟨67, ⟨[(0, .dat (.int .i64)), (1, .dat (.int .i64))], []⟩, [⟨[(0, .dat .bool)], []⟩], fun x => fn_cmp_Less_int x.1 x.2⟩
theorem cmp_Less_int_is : SpecOk Tryd.prog sp_cmp_Less_int := fn_is Tryd.func67 h_cmp_Less_int (by kernel_rfl) (by kernel_rfl)
noncomputable def ok_cmp_Less_int : OkSpec Tryd.prog := ⟨sp_cmp_Less_int, cmp_Less_int_is, Tryd.call67⟩

noncomputable def fn_slices_isNaN_int (xa : Int) : Option Bool :=
  some (!decide (xa = xa))
noncomputable def h_slices_isNaN_int : Hn Tryd.prog := .nil
noncomputable def sp_slices_isNaN_int : Spec := ⟨73, ⟨[(0, .dat (.int .i64))], []⟩, [⟨[(0, .dat .bool)], []⟩], fun x => fn_slices_isNaN_int x⟩
theorem slices_isNaN_int_is : SpecOk Tryd.prog sp_slices_isNaN_int := fn_is Tryd.func73 h_slices_isNaN_int (by kernel_rfl) (by kernel_rfl)
noncomputable def ok_slices_isNaN_int : OkSpec Tryd.prog := ⟨sp_slices_isNaN_int, slices_isNaN_int_is, Tryd.call73⟩
noncomputable def fn_slices_BinarySearch_int_int_l1 (xa : (List Int)) (xb : Int) : (Int × Int) → Option ((Int × Int) ⊕ Int) := fun ((i345, i346) : (Int × Int)) => cond (decide (i345 < i346)) ((getI xa (IntKind.wrap .i64 (Int.fdiv (IntKind.wrap .u64 (IntKind.wrap .i64 (i345 + i346))) (2 ^ (min (Int.toNat 1) (IntKind.bits .u64)))))).bind fun x368 => (fn_cmp_Less_int x368 xb).bind fun t379 => cond (t379) (some (.inl ((IntKind.wrap .i64 ((IntKind.wrap .i64 (Int.fdiv (IntKind.wrap .u64 (IntKind.wrap .i64 (i345 + i346))) (2 ^ (min (Int.toNat 1) (IntKind.bits .u64))))) + 1), i346)))) (some (.inl ((i345, IntKind.wrap .i64 (Int.fdiv (IntKind.wrap .u64 (IntKind.wrap .i64 (i345 + i346))) (2 ^ (min (Int.toNat 1) (IntKind.bits .u64))))))))) (some (.inr (i345)))
noncomputable def fn_slices_BinarySearch_int_int (xa : (List Int)) (xb : Int) : Option (Int × Bool) :=
  (loop (fn_slices_BinarySearch_int_int_l1 xa xb) ((0, ((xa.length : Nat) : Int))) : Option Int).bind fun i325 => (cond (decide (i325 < (((xa.length : Nat) : Int)))) ((getI xa i325).bind fun x459 => (cond (decide (x459 = xb)) (some (true)) ((getI xa i325).bind fun x501 => (fn_slices_isNaN_int x501).bind fun t512 => (cond (t512) ((fn_slices_isNaN_int xb).bind fun t527 => some (t527)) (some (false))).bind fun t523 => some (t523))).bind fun t499 => some (t499)) (some (false))).bind fun t457 => some ((i325, t457))
noncomputable def h_slices_BinarySearch_int_int : Hn Tryd.prog := .jn [] ⟨[(7, .dat (.int .i64))], []⟩ [] (.lp ⟨[(7, .dat (.int .i64)), (8, .dat (.int .i64))], []⟩ (.tw 15 (.cl ok_cmp_Less_int [] (.tw 27 (.nil) (.nil))) (.nil))) (.gj 17 ⟨[(53, .dat .bool)], []⟩ [] (.two 35 (.wt 42 (.gj 9 ⟨[(52, .dat .bool)], []⟩ [] (.two 42 (.nil) (.cl ok_slices_isNaN_int [] (.wt 48 (.gj 2 ⟨[(51, .dat .bool)], []⟩ [] (.two 48 (.cl ok_slices_isNaN_int [] (.nil)) (.nil)) (.nil))))) (.nil))) (.nil)) (.nil))
noncomputable def sp_slices_BinarySearch_int_int : Spec := ⟨59, ⟨[(0, .dat (.sl (.int .i64))), (1, .dat (.int .i64))], []⟩, [⟨[(0, .tup [.dat (.int .i64), .dat .bool])], []⟩], fun x => fn_slices_BinarySearch_int_int x.1 x.2⟩
theorem slices_BinarySearch_int_int_is : SpecOk Tryd.prog sp_slices_BinarySearch_int_int := fn_is Tryd.func59 h_slices_BinarySearch_int_int (by kernel_rfl) (by kernel_rfl)
noncomputable def ok_slices_BinarySearch_int_int : OkSpec Tryd.prog := ⟨sp_slices_BinarySearch_int_int, slices_BinarySearch_int_int_is, Tryd.call59⟩

noncomputable def fn_sparse_Set_Rank (xa : (Option (List Int))) (xb : Int) : Option Int :=
  cond (xa.isNone) (some (0)) ((xa : Option (List Int)).bind fun y21 => (fn_slices_BinarySearch_int_int y21 xb).bind fun (i33, t34) => some (i33))
noncomputable def h_sparse_Set_Rank : Hn Tryd.prog := .tw 8 (.nil) (.cl ok_slices_BinarySearch_int_int [] (.nil))
noncomputable def sp_sparse_Set_Rank : Spec := ⟨47, ⟨[(0, .dat (.ptr (.one (.sl (.int .i64))))), (1, .dat (.int .i64))], []⟩, [⟨[(0, .dat (.int .i64))], []⟩], fun x => fn_sparse_Set_Rank x.1 x.2⟩
theorem sparse_Set_Rank_is : SpecOk Tryd.prog sp_sparse_Set_Rank := fn_is Tryd.func47 h_sparse_Set_Rank (by kernel_rfl) (by kernel_rfl)
noncomputable def ok_sparse_Set_Rank : OkSpec Tryd.prog := ⟨sp_sparse_Set_Rank, sparse_Set_Rank_is, Tryd.call47⟩

noncomputable def fn_sparse_Set_At (xa : (Option (List Int))) (xb : Int) : Option (Int × Bool) :=
  (cond (decide (xb < 0)) (some (true)) ((fn_sparse_Set_Len xa).bind fun i49 => some (decide (i49 ≤ xb)))).bind fun t45 => cond (t45) (some ((0, false))) ((xa : Option (List Int)).bind fun y54 => (getI y54 xb).bind fun x64 => some ((x64, true)))
noncomputable def h_sparse_Set_At : Hn Tryd.prog := .gj 4 ⟨[(13, .dat .bool)], []⟩ [] (.two 8 (.nil) (.cl ok_sparse_Set_Len [] (.nil))) (.tw 13 (.nil) (.nil))
noncomputable def sp_sparse_Set_At : Spec := ⟨49, ⟨[(0, .dat (.ptr (.one (.sl (.int .i64))))), (1, .dat (.int .i64))], []⟩, [⟨[(0, .tup [.dat (.int .i64), .dat .bool])], []⟩], fun x => fn_sparse_Set_At x.1 x.2⟩
theorem sparse_Set_At_is : SpecOk Tryd.prog sp_sparse_Set_At := fn_is Tryd.func49 h_sparse_Set_At (by kernel_rfl) (by kernel_rfl)
noncomputable def ok_sparse_Set_At : OkSpec Tryd.prog := ⟨sp_sparse_Set_At, sparse_Set_At_is, Tryd.call49⟩

noncomputable def fn_sparse_Set_Has (xa : (Option (List Int))) (xb : Int) : Option Bool :=
  (fn_sparse_Set_Rank xa xb).bind fun i19 => (fn_sparse_Set_At xa i19).bind fun (i25, t26) => some (t26 && (decide (i25 = xb)))
noncomputable def h_sparse_Set_Has : Hn Tryd.prog := .cl ok_sparse_Set_Rank [] (.cl ok_sparse_Set_At [] (.gp 3 (.nil)))
noncomputable def sp_sparse_Set_Has : Spec := ⟨36, ⟨[(0, .dat (.ptr (.one (.sl (.int .i64))))), (1, .dat (.int .i64))], []⟩, [⟨[(0, .dat .bool)], []⟩], fun x => fn_sparse_Set_Has x.1 x.2⟩
theorem sparse_Set_Has_is : SpecOk Tryd.prog sp_sparse_Set_Has := fn_is Tryd.func36 h_sparse_Set_Has (by kernel_rfl) (by kernel_rfl)
noncomputable def ok_sparse_Set_Has : OkSpec Tryd.prog := ⟨sp_sparse_Set_Has, sparse_Set_Has_is, Tryd.call36⟩

noncomputable def fn_sparse_Set_Add_p0i_r (xb : Int) (qa0 : (List Int)) : Option ((Bool × (List Int))) :=
  (fn_sparse_mayBe xb).bind fun t380 => (cond (!t380) (some (true)) ((fn_sparse_Set_Has (some qa0) xb).bind fun t395 => some (t395))).bind fun t391 => cond (t391) (some ((false, qa0))) (((((fn_sparse_Set_Rank (some qa0) xb).bind fun i644 => (insF qa0 i644 ([xb] : List Int)).bind fun l651 => some (l651)).bind fun x668 => ((fn_sparse_Set_Rank (some qa0) xb).bind fun i660 => (insF qa0 i660 ([xb] : List Int)).bind fun l664 => some (l664)).bind fun y669 => agr x668 y669 (some x668)).bind fun x719 => (((fn_sparse_Set_Rank (some qa0) xb).bind fun i672 => ((insF qa0 i672 ([xb] : List Int)).bind fun l679 => some (l679)).bind fun x690 => ((insF qa0 i672 ([xb] : List Int)).bind fun l686 => some (l686)).bind fun y691 => agr x690 y691 (some x690)).bind fun x717 => (((fn_sparse_Set_Rank (some qa0) xb).bind fun i697 => (insF qa0 i697 ([xb] : List Int)).bind fun l701 => some (l701)).bind fun x715 => ((fn_sparse_Set_Rank (some qa0) xb).bind fun i707 => (insF qa0 i707 ([xb] : List Int)).bind fun l711 => some (l711)).bind fun y716 => agr x715 y716 (some x715)).bind fun y718 => agr x717 y718 (some x717)).bind fun y720 => agr x719 y720 (some x719) : Option (List Int)).bind fun l558 => some ((true, l558)))
noncomputable def h_sparse_Set_Add_p0i_r : Hn Tryd.prog := .cl ok_sparse_mayBe [] (.wt 12 (.gj 3 ⟨[(16, .dat .bool)], []⟩ [] (.two 12 (.nil) (.cl ok_sparse_Set_Has [1, 0] (.nil))) (.tw 16 (.nil) (.tr (.still [0, 1, 2, 3, 5, 6, 8] (.alt 4 (.alt 7 (.alt 9 (.alt 10 (.still [11, 12] (.alt 13 (.leaf []) .done)) .done) .done) (.alt 9 (.alt 7 (.alt 10 (.still [11, 12] (.alt 13 (.leaf []) .done)) .done) .done) .done)) (.alt 7 (.alt 4 (.alt 9 (.alt 10 (.still [11, 12] (.alt 13 (.leaf []) .done)) .done) .done) (.alt 9 (.alt 4 (.alt 10 (.still [11, 12] (.alt 13 (.leaf []) .done)) .done) .done) .done)) (.alt 9 (.alt 4 (.alt 7 (.alt 10 (.still [11, 12] (.alt 13 (.leaf []) .done)) .done) .done) (.alt 7 (.alt 4 (.alt 10 (.still [11, 12] (.alt 13 (.leaf []) .done)) .done) .done) .done)) .done)))) ⟨[], [⟨(some 0), 70, [.own 3 (.int .i64)], false, false, none, false⟩]⟩ [1, 0] (.two 0 (.two 0 (.cl ok_sparse_Set_Rank [1, 0] (.cl ok_Insert [] (.nil))) (.cl ok_sparse_Set_Rank [1, 0] (.cl ok_Insert [] (.nil)))) (.two 0 (.cl ok_sparse_Set_Rank [1, 0] (.two 0 (.cl ok_Insert [] (.nil)) (.cl ok_Insert [] (.nil)))) (.two 0 (.cl ok_sparse_Set_Rank [1, 0] (.cl ok_Insert [] (.nil))) (.cl ok_sparse_Set_Rank [1, 0] (.cl ok_Insert [] (.nil)))))) (.nil)))))
noncomputable def sp_sparse_Set_Add_p0i_r : Spec := ⟨31, ⟨[(0, .ptr 0 0), (1, .dat (.int .i64))], [⟨none, 70, [.own 3 (.int .i64)], false, false, none, false⟩]⟩, [⟨[(0, .dat .bool)], [⟨(some 0), 70, [.own 3 (.int .i64)], false, false, none, false⟩]⟩], fun x => fn_sparse_Set_Add_p0i_r x.1 x.2⟩
theorem sparse_Set_Add_p0i_r_is : SpecOk Tryd.prog sp_sparse_Set_Add_p0i_r := fn_is Tryd.func31 h_sparse_Set_Add_p0i_r (by kernel_rfl) (by kernel_rfl)
noncomputable def ok_sparse_Set_Add_p0i_r : OkSpec Tryd.prog := ⟨sp_sparse_Set_Add_p0i_r, sparse_Set_Add_p0i_r_is, Tryd.call31⟩

noncomputable def fn_dense_New (xa : Int) : Option ((Int ⊕ (Int × (List Int)))) :=
  cond (decide (xa < 0)) (some (.inl 2)) (cond (decide (1048576 < xa)) (some (.inl 5)) ((mk (IntKind.wrap .i64 (Int.tdiv (IntKind.wrap .i64 ((IntKind.wrap .i64 (xa + 64)) - 1)) 64)) (IntKind.wrap .i64 (Int.tdiv (IntKind.wrap .i64 ((IntKind.wrap .i64 (xa + 64)) - 1)) 64)) 0 : Option (List Int)).bind fun z19 => some (.inr (0, z19))))
noncomputable def h_dense_New : Hn Tryd.prog := .tw 5 (.nil) (.tw 7 (.nil) (.pl (.pl (.nil))))
noncomputable def sp_dense_New : Spec := ⟨10, ⟨[(0, .is 0 (.dat (.int .i64)))], [⟨none, 0, [], false, true, none, false⟩]⟩, [⟨[(0, .tup [.nilp, .dat (.int .i64)])], []⟩, ⟨[(0, .tup [.ptr 0 0, .dat (.int .i64)])], [⟨none, 62, [.is 1 (.any), .own 63 (.int .u64)], false, false, none, false⟩, ⟨(some 0), 0, [], false, true, none, false⟩]⟩], fun x => fn_dense_New x⟩
theorem dense_New_is : SpecOk Tryd.prog sp_dense_New := fn_is Tryd.func10 h_dense_New (by kernel_rfl) (by kernel_rfl)
noncomputable def ok_dense_New : OkSpec Tryd.prog := ⟨sp_dense_New, dense_New_is, Tryd.call10⟩

noncomputable def fn_sparse_Set_All_p0_r (qa0 : (List Int)) : Option (List Int) :=
  some (qa0)
noncomputable def h_sparse_Set_All_p0_r : Hn Tryd.prog := .nil
noncomputable def sp_sparse_Set_All_p0_r : Spec := ⟨40, ⟨[(0, .ptr 0 0)], [⟨none, 70, [.own 3 (.int .i64)], false, false, none, false⟩]⟩, [⟨[(0, .fn 54 [.ptr 1 0])], [⟨(some 0), 70, [.own 3 (.int .i64)], false, false, none, false⟩, ⟨none, 50, [.ptr 0 0], false, false, none, false⟩]⟩], fun x => fn_sparse_Set_All_p0_r x⟩
theorem sparse_Set_All_p0_r_is : SpecOk Tryd.prog sp_sparse_Set_All_p0_r := fn_is Tryd.func40 h_sparse_Set_All_p0_r (by kernel_rfl) (by kernel_rfl)
noncomputable def ok_sparse_Set_All_p0_r : OkSpec Tryd.prog := ⟨sp_sparse_Set_All_p0_r, sparse_Set_All_p0_r_is, Tryd.call40⟩

noncomputable def fn_dense_Set_Add_zi (xb : Int) : Option Bool :=
  (fn_dense_Set_mayHave ((none : (Option (Int × (List Int))))) xb).bind fun t26 => (cond (!t26) (some (true)) ((fn_dense_Set_Has ((none : (Option (Int × (List Int))))) xb).bind fun t41 => some (t41))).bind fun t37 => cond (t37) (some (false)) (none)
noncomputable def h_dense_Set_Add_zi : Hn Tryd.prog := .cl ok_dense_Set_mayHave [] (.gj 3 ⟨[(13, .dat .bool)], []⟩ [] (.two 9 (.nil) (.cl ok_dense_Set_Has [] (.nil))) (.tw 13 (.nil) (.mix [] [0, 1, 2, 3, 4, 5, 6, 7, 8, 9, 10, 11, 12] [13] [] (.nil))))
noncomputable def sp_dense_Set_Add_zi : Spec := ⟨12, ⟨[(0, .nilp), (1, .dat (.int .i64))], []⟩, [⟨[(0, .dat .bool)], []⟩], fun x => fn_dense_Set_Add_zi x⟩
theorem dense_Set_Add_zi_is : SpecOk Tryd.prog sp_dense_Set_Add_zi := fn_is Tryd.func12 h_dense_Set_Add_zi (by kernel_rfl) (by kernel_rfl)
noncomputable def ok_dense_Set_Add_zi : OkSpec Tryd.prog := ⟨sp_dense_Set_Add_zi, dense_Set_Add_zi_is, Tryd.call12⟩
noncomputable def fn_mixed_Set_thicken_p0_iodod_l1 (l1134 : (List Int)) : (Int × Bool) → Option ((Int × Bool) ⊕ Unit) := fun ((i1404, t1405) : (Int × Bool)) => cond (t1405) ((fn_dense_Set_Add_zi i1404).bind fun t1471 => (fn_sparse_Set_Rank (some l1134) (IntKind.wrap .i64 (i1404 + 1))).bind fun i1516 => (fn_sparse_Set_At (some l1134) i1516).bind fun (i1522, t1523) => some (.inl (i1522, t1523))) (some (.inr ((()))))
noncomputable def fn_mixed_Set_thicken_p0_iodod_l2 (qa0 : Int) (l1561 : (List Int)) : (Int × Bool × (List Int)) → Option ((Int × Bool × (List Int)) ⊕ (List Int)) := fun ((i1880, t1881, l1882) : (Int × Bool × (List Int))) => cond (t1881) ((fn_dense_Set_Add_p0i_ir i1880 qa0 l1882).bind fun (t1963, l1964) => (fn_sparse_Set_Rank (some l1561) (IntKind.wrap .i64 (i1880 + 1))).bind fun i2014 => (fn_sparse_Set_At (some l1561) i2014).bind fun (i2020, t2021) => some (.inl (i2020, t2021, l1964))) (some (.inr (l1882)))
noncomputable def fn_mixed_Set_thicken_p0_iodod (qa0 : Int) (qa1 : (Option (List Int))) (qa2 : (Option (Int × (List Int)))) : Option ((Option (Int × (List Int)))) :=
  (fn_dense_New qa0).bind fun o => match o with | .inl i1106 => (qa1).bind fun y1127 => (fn_sparse_Set_All_p0_r y1127).bind fun l1134 => (fn_sparse_Set_At (some l1134) 0).bind fun (i1154, t1155) => (loop (fn_mixed_Set_thicken_p0_iodod_l1 l1134) (i1154, t1155) : Option Unit).bind fun () => some (none) | .inr (i1527, l1528) => (qa1).bind fun y1554 => (fn_sparse_Set_All_p0_r y1554).bind fun l1561 => (fn_sparse_Set_At (some l1561) 0).bind fun (i1581, t1582) => (loop (fn_mixed_Set_thicken_p0_iodod_l2 qa0 l1561) (i1581, t1582, l1528) : Option (List Int)).bind fun l1803 => some (some (qa0, l1803))
noncomputable def h_mixed_Set_thicken_p0_iodod : Hn Tryd.prog := .mix [([0, 1, 2, 3], 4), ([], 5), ([6, 7, 8, 9, 10], 11)] [] [] [0] (.c2 ok_dense_New [] (.wt 17 (.opb 2 3 (.cl ok_sparse_Set_All_p0_r [] (.rg ⟨54, _, Tryd.func54, Tryd.call54⟩ (.cl ok_sparse_Set_At [17, 2] (.jn [] ⟨[], [⟨(some 21), 0, [], false, false, none, true⟩]⟩ [21, 4] (.lp ⟨[(3, .dat (.int .i64)), (4, .dat .bool)], [⟨(some 21), 0, [], false, false, none, true⟩]⟩ (.tw 10 (.yl 2 (.cl ok_dense_Set_Add_zi [] (.mix [([0, 1, 2, 3], 4), ([], 5)] [6, 7, 8, 9, 10] [] [] (.cl ok_sparse_Set_Rank [17, 2] (.cl ok_sparse_Set_At [17, 2] (.nil)))))) (.nil))) (.nil))))))) (.wt 17 (.opb 2 3 (.cl ok_sparse_Set_All_p0_r [] (.rg ⟨54, _, Tryd.func54, Tryd.call54⟩ (.cl ok_sparse_Set_At [21, 2] (.jn [] ⟨[], [⟨(some 25), 0, [], false, false, none, true⟩, ⟨(some 9), 62, [.is 2 (.any), .own 63 (.int .u64)], false, false, none, false⟩, ⟨(some 1), 0, [], false, true, none, false⟩]⟩ [25, 10, 9, 4] (.lp ⟨[(3, .dat (.int .i64)), (4, .dat .bool)], [⟨(some 25), 0, [], false, false, none, true⟩, ⟨(some 9), 62, [.is 2 (.any), .own 63 (.int .u64)], false, false, none, false⟩, ⟨(some 1), 0, [], false, true, none, false⟩]⟩ (.tw 10 (.yl 2 (.cl ok_dense_Set_Add_p0i_ir [] (.mix [([0, 1, 2, 3], 4), ([], 5)] [6, 7, 8, 9, 10] [] [] (.cl ok_sparse_Set_Rank [21, 2] (.cl ok_sparse_Set_At [21, 2] (.nil)))))) (.nil))) (.nil))))))))
noncomputable def sp_mixed_Set_thicken_p0_iodod : Spec := ⟨33, ⟨[(0, .ptr 0 0)], [⟨none, 53, [.is 1 (.dat (.int .i64)), .od (.box 70 (.one (.row 3 (.dat (.int .i64))))), .od (.box 62 (.cons (.dat (.int .i64)) (.one (.row 63 (.dat (.int .u64))))))], false, false, none, false⟩, ⟨none, 0, [], false, true, none, false⟩]⟩, [⟨[], [⟨(some 0), 53, [.is 1 (.any), .nilp, .od (.box 62 (.cons (.dat (.int .i64)) (.one (.row 63 (.dat (.int .u64))))))], false, false, none, false⟩, ⟨(some 1), 0, [], false, true, none, false⟩]⟩], fun x => fn_mixed_Set_thicken_p0_iodod x.1 x.2.1 x.2.2⟩
theorem mixed_Set_thicken_p0_iodod_is : SpecOk Tryd.prog sp_mixed_Set_thicken_p0_iodod := fn_is Tryd.func33 h_mixed_Set_thicken_p0_iodod (by kernel_rfl) (by kernel_rfl)
noncomputable def ok_mixed_Set_thicken_p0_iodod : OkSpec Tryd.prog := ⟨sp_mixed_Set_thicken_p0_iodod, mixed_Set_thicken_p0_iodod_is, Tryd.call33⟩

noncomputable def fn_mixed_Set_Add_p0i_iodod (xb : Int) (qa0 : Int) (qa1 : (Option (List Int))) (qa2 : (Option (Int × (List Int)))) : Option ((Bool × (Option (List Int)) × (Option (Int × (List Int))))) :=
  (cond (decide (xb < 0)) (some (true)) ((fn_mixed_Set_Size (some (qa0, qa1, qa2))).bind fun i173 => some (decide (i173 ≤ xb)))).bind fun t169 => cond (t169) (some ((false, qa1, qa2))) ((fn_mixed_Set_Dense (some (qa0, qa1, qa2))).bind fun t186 => cond (t186) ((qa2).bind fun y208 => (fn_dense_Set_Add_p0i_ir xb y208.1 y208.2).bind fun (t215, l216) => some ((t215, qa1, some (y208.1, l216)))) ((qa1).bind fun y242 => (fn_sparse_Set_Add_p0i_r xb y242).bind fun (t249, l250) => (fn_sparse_Set_Len (some l250)).bind fun i267 => cond (decide (8 < i267)) ((fn_mixed_Set_thicken_p0_iodod qa0 (some l250) qa2).bind fun l283 => some ((t249, none, l283))) (some ((t249, some l250, qa2)))))
noncomputable def h_mixed_Set_Add_p0i_iodod : Hn Tryd.prog := .gj 4 ⟨[(13, .dat .bool)], []⟩ [] (.two 8 (.nil) (.cl ok_mixed_Set_Size [2, 4, 0] (.nil))) (.tw 13 (.nil) (.cl ok_mixed_Set_Dense [2, 4, 0] (.tw 15 (.wt 20 (.opb 4 5 (.wt 20 (.mc 4 0 7 (.cl ok_dense_Set_Add_p0i_ir [] (.nil)))))) (.wt 26 (.opb 2 3 (.cl ok_sparse_Set_Add_p0i_r [] (.cl ok_sparse_Set_Len [13, 2] (.tw 33 (.cl ok_mixed_Set_thicken_p0_iodod [] (.nil)) (.nil)))))))))
noncomputable def sp_mixed_Set_Add_p0i_iodod : Spec := ⟨11, ⟨[(0, .ptr 0 0), (1, .dat (.int .i64))], [⟨none, 53, [.is 1 (.dat (.int .i64)), .od (.box 70 (.one (.row 3 (.dat (.int .i64))))), .od (.box 62 (.cons (.dat (.int .i64)) (.one (.row 63 (.dat (.int .u64))))))], false, false, none, false⟩, ⟨none, 0, [], false, true, none, false⟩]⟩, [⟨[(0, .dat .bool)], [⟨(some 0), 53, [.is 1 (.any), .od (.box 70 (.one (.row 3 (.dat (.int .i64))))), .od (.box 62 (.cons (.dat (.int .i64)) (.one (.row 63 (.dat (.int .u64))))))], false, false, none, false⟩, ⟨(some 1), 0, [], false, true, none, false⟩]⟩], fun x => fn_mixed_Set_Add_p0i_iodod x.1 x.2.1 x.2.2.1 x.2.2.2⟩
theorem mixed_Set_Add_p0i_iodod_is : SpecOk Tryd.prog sp_mixed_Set_Add_p0i_iodod := fn_is Tryd.func11 h_mixed_Set_Add_p0i_iodod (by kernel_rfl) (by kernel_rfl)
noncomputable def ok_mixed_Set_Add_p0i_iodod : OkSpec Tryd.prog := ⟨sp_mixed_Set_Add_p0i_iodod, mixed_Set_Add_p0i_iodod_is, Tryd.call11⟩
noncomputable def fn_mixed_Set_Fill_p0ii_iodod_l1 (xc : Int) (qa0 : Int) : (Int × (Option (List Int)) × (Option (Int × (List Int)))) → Option ((Int × (Option (List Int)) × (Option (Int × (List Int)))) ⊕ ((Option (List Int)) × (Option (Int × (List Int))))) := fun ((i396, l397, l399) : (Int × (Option (List Int)) × (Option (Int × (List Int))))) => (fn_mixed_Set_Size (some (qa0, l397, l399))).bind fun i448 => cond (decide (i396 < (if i448 < xc then i448 else xc))) ((fn_mixed_Set_Add_p0i_iodod i396 qa0 l397 l399).bind fun (t465, l466, l467) => some (.inl ((IntKind.wrap .i64 (i396 + 1), l466, l467)))) (some (.inr (((l397, l399)))))
noncomputable def fn_mixed_Set_Fill_p0ii_iodod (xb : Int) (xc : Int) (qa0 : Int) (qa1 : (Option (List Int))) (qa2 : (Option (Int × (List Int)))) : Option (((Option (List Int)) × (Option (Int × (List Int))))) :=
  (loop (fn_mixed_Set_Fill_p0ii_iodod_l1 xc qa0) (if xb < 0 then 0 else xb, qa1, qa2) : Option (((Option (List Int)) × (Option (Int × (List Int)))))).bind fun (l354, l356) => some ((l354, l356))
noncomputable def h_mixed_Set_Fill_p0ii_iodod : Hn Tryd.prog := .jn [] ⟨[], [⟨(some 0), 53, [.is 1 (.any), .od (.box 70 (.one (.row 3 (.dat (.int .i64))))), .od (.box 62 (.cons (.dat (.int .i64)) (.one (.row 63 (.dat (.int .u64))))))], false, false, none, false⟩, ⟨(some 1), 0, [], false, true, none, false⟩]⟩ [0, 2, 4] (.lp ⟨[(6, .dat (.int .i64))], [⟨(some 0), 53, [.is 1 (.any), .od (.box 70 (.one (.row 3 (.dat (.int .i64))))), .od (.box 62 (.cons (.dat (.int .i64)) (.one (.row 63 (.dat (.int .u64))))))], false, false, none, false⟩, ⟨(some 1), 0, [], false, true, none, false⟩]⟩ (.cl ok_mixed_Set_Size [7, 9, 0] (.tw 14 (.cl ok_mixed_Set_Add_p0i_iodod [] (.nil)) (.nil)))) (.nil)
noncomputable def sp_mixed_Set_Fill_p0ii_iodod : Spec := ⟨17, ⟨[(0, .ptr 0 0), (1, .dat (.int .i64)), (2, .dat (.int .i64))], [⟨none, 53, [.is 1 (.dat (.int .i64)), .od (.box 70 (.one (.row 3 (.dat (.int .i64))))), .od (.box 62 (.cons (.dat (.int .i64)) (.one (.row 63 (.dat (.int .u64))))))], false, false, none, false⟩, ⟨none, 0, [], false, true, none, false⟩]⟩, [⟨[], [⟨(some 0), 53, [.is 1 (.any), .od (.box 70 (.one (.row 3 (.dat (.int .i64))))), .od (.box 62 (.cons (.dat (.int .i64)) (.one (.row 63 (.dat (.int .u64))))))], false, false, none, false⟩, ⟨(some 1), 0, [], false, true, none, false⟩]⟩], fun x => fn_mixed_Set_Fill_p0ii_iodod x.1 x.2.1 x.2.2.1 x.2.2.2.1 x.2.2.2.2⟩
theorem mixed_Set_Fill_p0ii_iodod_is : SpecOk Tryd.prog sp_mixed_Set_Fill_p0ii_iodod := fn_is Tryd.func17 h_mixed_Set_Fill_p0ii_iodod (by kernel_rfl) (by kernel_rfl)
noncomputable def ok_mixed_Set_Fill_p0ii_iodod : OkSpec Tryd.prog := ⟨sp_mixed_Set_Fill_p0ii_iodod, mixed_Set_Fill_p0ii_iodod_is, Tryd.call17⟩

noncomputable def fn_law05_awake  : Option Bool :=
  (fn_mixed_New_c100).bind fun o => match o with | .inl i231 => (fn_mixed_Set_Fill_zii 0 8).bind fun _ => (fn_mixed_Set_Dense ((none : (Option (Int × (Option (List Int)) × (Option (Int × (List Int)))))))).bind fun t242 => (fn_mixed_Set_Add_zi 8).bind fun t248 => (cond (((decide (i231 = 0)) && (!t242)) && t248) ((fn_mixed_Set_Dense ((none : (Option (Int × (Option (List Int)) × (Option (Int × (List Int)))))))).bind fun t267 => some (t267)) (some (false))).bind fun t263 => (cond (t263) ((fn_mixed_Set_Words ((none : (Option (Int × (Option (List Int)) × (Option (Int × (List Int)))))))).bind fun i282 => some (decide (i282 = 2))) (some (false))).bind fun t278 => (cond (t278) ((fn_mixed_Set_Len ((none : (Option (Int × (Option (List Int)) × (Option (Int × (List Int)))))))).bind fun i297 => some (decide (i297 = 9))) (some (false))).bind fun t293 => some (t293) | .inr (i301, l302) => (fn_mixed_Set_Fill_p0ii_iodod 0 8 100 l302 none).bind fun (l319, l320) => (fn_mixed_Set_Dense (some (100, l319, l320))).bind fun t334 => (fn_mixed_Set_Add_p0i_iodod 8 100 l319 l320).bind fun (t350, l351, l352) => (cond (((decide (i301 = 0)) && (!t334)) && t350) ((fn_mixed_Set_Dense (some (100, l351, l352))).bind fun t422 => some (t422)) (some (false))).bind fun t418 => (cond (t418) ((fn_mixed_Set_Words (some (100, l351, l352))).bind fun i437 => some (decide (i437 = 2))) (some (false))).bind fun t433 => (cond (t433) ((fn_mixed_Set_Len (some (100, l351, l352))).bind fun i452 => some (decide (i452 = 9))) (some (false))).bind fun t448 => some (t448)
noncomputable def h_law05_awake : Hn Tryd.prog := .c2 ok_mixed_New_c100 [] (.cl ok_mixed_Set_Fill_zii [] (.cl ok_mixed_Set_Dense [] (.cl ok_mixed_Set_Add_zi [] (.gp 2 (.wt 21 (.gp 1 (.wt 24 (.gj 2 ⟨[(27, .dat .bool)], []⟩ [] (.two 24 (.cl ok_mixed_Set_Dense [] (.nil)) (.nil)) (.wt 28 (.gj 3 ⟨[(32, .dat .bool)], []⟩ [] (.two 28 (.cl ok_mixed_Set_Words [] (.nil)) (.nil)) (.wt 33 (.gj 3 ⟨[(37, .dat .bool)], []⟩ [] (.two 33 (.cl ok_mixed_Set_Len [] (.nil)) (.nil)) (.nil))))))))))))) (.mc 0 0 3 (.cl ok_mixed_Set_Fill_p0ii_iodod [] (.cl ok_mixed_Set_Dense [10, 12, 0] (.cl ok_mixed_Set_Add_p0i_iodod [] (.gp 2 (.wt 21 (.gp 1 (.wt 24 (.gj 2 ⟨[(27, .dat .bool)], []⟩ [] (.two 24 (.cl ok_mixed_Set_Dense [20, 22, 0] (.nil)) (.nil)) (.wt 28 (.gj 3 ⟨[(32, .dat .bool)], []⟩ [] (.two 28 (.cl ok_mixed_Set_Words [20, 22, 0] (.nil)) (.nil)) (.wt 33 (.gj 3 ⟨[(37, .dat .bool)], []⟩ [] (.two 33 (.cl ok_mixed_Set_Len [20, 22, 0] (.nil)) (.nil)) (.nil))))))))))))))
noncomputable def sp_law05_awake : Spec := ⟨5, ⟨[], []⟩, [⟨[(0, .dat .bool)], []⟩], fun x => fn_law05_awake⟩
theorem law05_awake_is : SpecOk Tryd.prog sp_law05_awake := fn_is Tryd.func5 h_law05_awake (by kernel_rfl) (by kernel_rfl)
noncomputable def ok_law05_awake : OkSpec Tryd.prog := ⟨sp_law05_awake, law05_awake_is, Tryd.call5⟩
noncomputable def fn_ref03_Has_l1 (xa : (Int × (List Int))) (xb : Int) : Int → Option (Int ⊕ (Unit ⊕ Bool)) := fun (i127 : Int) => cond (decide (i127 < (((xa.2.length : Nat) : Int)))) ((getI xa.2 i127).bind fun x142 => cond (decide (x142 = xb)) (some (.inr ((.inr (true))))) (some (.inl (IntKind.wrap .i64 (i127 + 1))))) (some (.inr ((.inl ()))))
noncomputable def fn_ref03_Has (xa : (Int × (List Int))) (xb : Int) : Option Bool :=
  (loop (fn_ref03_Has_l1 xa xb) 0 : Option (Unit ⊕ Bool)).bind fun o => match o with | .inr r => some r | .inl () => some (false)
noncomputable def h_ref03_Has : Hn Tryd.prog := .jx [] ⟨[], []⟩ [] (.lp ⟨[(5, .dat (.int .i64))], []⟩ (.tw 10 (.tw 19 (.nil) (.nil)) (.nil))) (.nil)
noncomputable def sp_ref03_Has : Spec := ⟨29, ⟨[(0, .dat (.cons (.int .i64) (.one (.sl (.int .i64))))), (1, .dat (.int .i64))], []⟩, [⟨[(0, .dat .bool)], []⟩], fun x => fn_ref03_Has x.1 x.2⟩
theorem ref03_Has_is : SpecOk Tryd.prog sp_ref03_Has := fn_is Tryd.func29 h_ref03_Has (by kernel_rfl) (by kernel_rfl)
noncomputable def ok_ref03_Has : OkSpec Tryd.prog := ⟨sp_ref03_Has, ref03_Has_is, Tryd.call29⟩
noncomputable def fn_ref03_Add_l1 (xa : (Int × (List Int))) (xb : Int) : ((List Int) × Bool × Int) → Option (((List Int) × Bool × Int) ⊕ ((List Int) × Bool)) := fun ((l2381, t2386, i2387) : ((List Int) × Bool × Int)) => cond (decide (i2387 < (((xa.2.length : Nat) : Int)))) (((cond (!t2386) ((getI xa.2 i2387).bind fun x2595 => some (decide (xb < x2595))) (some (false))).bind fun t2593 => cond (t2593) ((app l2381 ([xb] : List Int)).bind fun z2608 => some ((z2608, true))) (some ((l2381, t2386))) : Option (((List Int) × Bool))).bind fun (l2577, t2582) => (getI xa.2 i2387).bind fun x2614 => (app l2577 ([x2614] : List Int)).bind fun z2626 => some (.inl ((z2626, t2582, IntKind.wrap .i64 (i2387 + 1))))) (some (.inr (((l2381, t2386)))))
noncomputable def fn_ref03_Add (xa : (Int × (List Int))) (xb : Int) : Option ((Int × (List Int) × Bool)) :=
  (cond ((decide (xb < 0)) || (decide (xa.1 ≤ xb))) (some (true)) ((fn_ref03_Has (xa.1, xa.2) xb).bind fun t1352 => some (t1352))).bind fun t1348 => cond (t1348) (some ((xa.1, xa.2, false))) ((loop (fn_ref03_Add_l1 xa xb) ((([] : List Int), false, 0)) : Option (((List Int) × Bool))).bind fun (l2204, t2209) => (cond (!t2209) ((app l2204 ([xb] : List Int)).bind fun z2661 => some (z2661)) (some (l2204)) : Option (List Int)).bind fun l2652 => some ((xa.1, l2652, true)))
noncomputable def h_ref03_Add : Hn Tryd.prog := .gp 4 (.wt 17 (.gj 3 ⟨[(21, .dat .bool)], []⟩ [] (.two 17 (.nil) (.cl ok_ref03_Has [] (.nil))) (.tw 21 (.nil) (.jn [] ⟨[(6, .own 3 (.int .i64)), (7, .dat .bool), (23, .any)], []⟩ [4] (.lp ⟨[(6, .own 3 (.int .i64)), (7, .dat .bool), (8, .dat (.int .i64))], []⟩ (.tw 28 (.pl (.sq [] ⟨[(6, .own 3 (.int .i64)), (7, .dat .bool)], []⟩ [6] (.gj 7 ⟨[(41, .dat .bool)], []⟩ [] (.two 33 (.nil) (.nil)) (.tw 41 (.nil) (.nil))) (.nil))) (.nil))) (.sq [] ⟨[(6, .own 3 (.int .i64))], []⟩ [6] (.tw 55 (.nil) (.nil)) (.per 8 9 (.nil)))))))
noncomputable def sp_ref03_Add : Spec := ⟨44, ⟨[(0, .dat (.cons (.int .i64) (.one (.sl (.int .i64))))), (1, .dat (.int .i64))], []⟩, [⟨[(0, .tup [.agg [.dat (.int .i64), .dat (.sl (.int .i64))], .dat .bool])], []⟩], fun x => fn_ref03_Add x.1 x.2⟩
theorem ref03_Add_is : SpecOk Tryd.prog sp_ref03_Add := fn_is Tryd.func44 h_ref03_Add (by kernel_rfl) (by kernel_rfl)
noncomputable def ok_ref03_Add : OkSpec Tryd.prog := ⟨sp_ref03_Add, ref03_Add_is, Tryd.call44⟩

noncomputable def fn_ref05_add (xa : ((Int × (List Int)) × Bool)) (xb : Int) : Option ((Int × (List Int) × Bool × Bool)) :=
  (fn_ref03_Add (xa.1.1, xa.1.2) xb).bind fun (i28, l29, t30) => some ((i28, l29, xa.2 || (decide (8 < (((l29.length : Nat) : Int)))), t30))
noncomputable def h_ref05_add : Hn Tryd.prog := .cl ok_ref03_Add [] (.gp 4 (.nil))
noncomputable def sp_ref05_add : Spec := ⟨26, ⟨[(0, .dat (.cons (.cons (.int .i64) (.one (.sl (.int .i64)))) (.one .bool))), (1, .dat (.int .i64))], []⟩, [⟨[(0, .tup [.agg [.dat (.int .i64), .dat (.sl (.int .i64)), .dat .bool], .dat .bool])], []⟩], fun x => fn_ref05_add x.1 x.2⟩
theorem ref05_add_is : SpecOk Tryd.prog sp_ref05_add := fn_is Tryd.func26 h_ref05_add (by kernel_rfl) (by kernel_rfl)
noncomputable def ok_ref05_add : OkSpec Tryd.prog := ⟨sp_ref05_add, ref05_add_is, Tryd.call26⟩
noncomputable def fn_ref03_Or_l1 (xb : (Int × (List Int))) : (Bool × Int × Int × (List Int)) → Option ((Bool × Int × Int × (List Int)) ⊕ (Bool × Int × (List Int))) := fun ((t1631, i1632, i1633, l1634) : (Bool × Int × Int × (List Int))) => cond (decide (i1632 < (((xb.2.length : Nat) : Int)))) (((getI xb.2 i1632).bind fun x1915 => ((fn_ref03_Add (i1633, l1634) x1915).bind fun (i1926, l1927, t1928) => some ((t1928, i1926, l1927))).bind fun x1948 => ((fn_ref03_Add (i1633, l1634) x1915).bind fun (i1939, l1940, t1941) => some ((t1941, i1939, l1940))).bind fun y1949 => agr x1948 y1949 (some x1948) : Option ((Bool × Int × (List Int)))).bind fun (t1874, i1875, l1876) => some (.inl ((t1631 || t1874, IntKind.wrap .i64 (i1632 + 1), i1875, l1876)))) (some (.inr (((t1631, i1633, l1634)))))
noncomputable def fn_ref03_Or (xa : (Int × (List Int))) (xb : (Int × (List Int))) : Option ((Int × (List Int) × Bool)) :=
  cond (!decide (xa.1 = xb.1)) (some ((xa.1, xa.2, false))) ((loop (fn_ref03_Or_l1 xb) (false, 0, xa.1, xa.2) : Option ((Bool × Int × (List Int)))).bind fun (t1467, i1468, l1469) => some ((i1468, l1469, t1467)))
noncomputable def h_ref03_Or : Hn Tryd.prog := .tw 14 (.nil) (.jn [] ⟨[(6, .dat .bool)], [⟨(some 0), 30, [.dat (.int .i64), .dat (.sl (.int .i64))], false, false, none, false⟩]⟩ [0] (.lp ⟨[(6, .dat .bool), (7, .dat (.int .i64))], [⟨(some 0), 30, [.dat (.int .i64), .dat (.sl (.int .i64))], false, false, none, false⟩]⟩ (.tw 20 (.tr (.still [0, 1, 2, 3, 4, 5] (.alt 6 (.still [7, 8, 9] (.alt 10 (.alt 11 (.leaf [12]) .done) .done)) (.alt 10 (.alt 6 (.still [7, 8, 9] (.alt 11 (.leaf [12]) .done)) .done) .done))) ⟨[(8, .ptr 0 0), (9, .dat .bool)], [⟨none, 30, [.dat (.int .i64), .dat (.sl (.int .i64))], false, false, none, false⟩]⟩ [] (.two 0 (.cl ok_ref03_Add [] (.nil)) (.cl ok_ref03_Add [] (.nil))) (.gp 1 (.nil))) (.nil))) (.nil))
noncomputable def sp_ref03_Or : Spec := ⟨45, ⟨[(0, .dat (.cons (.int .i64) (.one (.sl (.int .i64))))), (1, .dat (.cons (.int .i64) (.one (.sl (.int .i64)))))], []⟩, [⟨[(0, .tup [.agg [.dat (.int .i64), .dat (.sl (.int .i64))], .dat .bool])], []⟩], fun x => fn_ref03_Or x.1 x.2⟩
theorem ref03_Or_is : SpecOk Tryd.prog sp_ref03_Or := fn_is Tryd.func45 h_ref03_Or (by kernel_rfl) (by kernel_rfl)
noncomputable def ok_ref03_Or : OkSpec Tryd.prog := ⟨sp_ref03_Or, ref03_Or_is, Tryd.call45⟩

noncomputable def fn_ref05_or (xa : ((Int × (List Int)) × Bool)) (xb : ((Int × (List Int)) × Bool)) : Option ((Int × (List Int) × Bool × Bool)) :=
  cond (!decide (xa.1.1 = xb.1.1)) (some ((xa.1.1, xa.1.2, xa.2, false))) ((fn_ref03_Or (xa.1.1, xa.1.2) (xb.1.1, xb.1.2)).bind fun (i36, l37, t38) => some ((i36, l37, (xa.2 || xb.2) || (decide (8 < (((l37.length : Nat) : Int)))), t38)))
noncomputable def h_ref05_or : Hn Tryd.prog := .tw 14 (.nil) (.cl ok_ref03_Or [] (.gp 2 (.wt 31 (.gp 4 (.nil)))))
noncomputable def sp_ref05_or : Spec := ⟨27, ⟨[(0, .dat (.cons (.cons (.int .i64) (.one (.sl (.int .i64)))) (.one .bool))), (1, .dat (.cons (.cons (.int .i64) (.one (.sl (.int .i64)))) (.one .bool)))], []⟩, [⟨[(0, .tup [.agg [.dat (.int .i64), .dat (.sl (.int .i64)), .dat .bool], .dat .bool])], []⟩], fun x => fn_ref05_or x.1 x.2⟩
theorem ref05_or_is : SpecOk Tryd.prog sp_ref05_or := fn_is Tryd.func27 h_ref05_or (by kernel_rfl) (by kernel_rfl)
noncomputable def ok_ref05_or : OkSpec Tryd.prog := ⟨sp_ref05_or, ref05_or_is, Tryd.call27⟩
noncomputable def fn_ref05_fill_l1 (xb : Int) (xc : Int) : (Int × Int × (List Int) × Bool) → Option ((Int × Int × (List Int) × Bool) ⊕ (Int × (List Int) × Bool)) := fun ((i290, i291, l292, t296) : (Int × Int × (List Int) × Bool)) => cond (decide (i290 < i291)) (cond ((decide (xb ≤ i290)) && (decide (i290 < xc))) ((fn_ref05_add (((i291, l292), t296)) i290).bind fun (i332, l333, t334, t335) => some (.inl ((IntKind.wrap .i64 (i290 + 1), i332, l333, t334)))) (some (.inl ((IntKind.wrap .i64 (i290 + 1), i291, l292, t296))))) (some (.inr (((i291, l292, t296)))))
noncomputable def fn_ref05_fill (xa : ((Int × (List Int)) × Bool)) (xb : Int) (xc : Int) : Option ((Int × (List Int) × Bool)) :=
  (loop (fn_ref05_fill_l1 xb xc) (0, xa.1.1, xa.1.2, xa.2) : Option ((Int × (List Int) × Bool))).bind fun (i258, l259, t263) => some ((i258, l259, t263))
noncomputable def h_ref05_fill : Hn Tryd.prog := .jn [] ⟨[], [⟨(some 0), 32, [.dat (.int .i64), .dat (.sl (.int .i64)), .dat .bool], false, false, none, false⟩]⟩ [0] (.lp ⟨[(7, .dat (.int .i64))], [⟨(some 0), 32, [.dat (.int .i64), .dat (.sl (.int .i64)), .dat .bool], false, false, none, false⟩]⟩ (.tw 14 (.gp 3 (.tw 24 (.cl ok_ref05_add [] (.nil)) (.nil))) (.nil))) (.nil)
noncomputable def sp_ref05_fill : Spec := ⟨28, ⟨[(0, .dat (.cons (.cons (.int .i64) (.one (.sl (.int .i64)))) (.one .bool))), (1, .dat (.int .i64)), (2, .dat (.int .i64))], []⟩, [⟨[(0, .agg [.dat (.int .i64), .dat (.sl (.int .i64)), .dat .bool])], []⟩], fun x => fn_ref05_fill x.1 x.2.1 x.2.2⟩
theorem ref05_fill_is : SpecOk Tryd.prog sp_ref05_fill := fn_is Tryd.func28 h_ref05_fill (by kernel_rfl) (by kernel_rfl)
noncomputable def ok_ref05_fill : OkSpec Tryd.prog := ⟨sp_ref05_fill, ref05_fill_is, Tryd.call28⟩

noncomputable def fn_ref05_Do (xa : ((Int × (List Int)) × Bool)) (xb : ((Int × (List Int)) × Bool)) (xc : (Int × Int × Int)) : Option ((Int × (List Int) × Bool × Int × (List Int) × Bool × Bool)) :=
  (cond (decide (xc.1 = 0)) ((fn_ref05_add (((xa.1.1, xa.1.2), xa.2)) xc.2.1).bind fun (i284, l285, t286, t287) => some ((t287, i284, l285, t286, xb.1.1, xb.1.2, xb.2))) (cond (decide (xc.1 = 1)) ((fn_ref05_add (((xb.1.1, xb.1.2), xb.2)) xc.2.1).bind fun (i297, l298, t299, t300) => some ((t300, xa.1.1, xa.1.2, xa.2, i297, l298, t299))) (cond (decide (xc.1 = 2)) ((fn_ref05_or (((xa.1.1, xa.1.2), xa.2)) (((xb.1.1, xb.1.2), xb.2))).bind fun (i310, l311, t312, t313) => some ((t313, i310, l311, t312, xb.1.1, xb.1.2, xb.2))) (cond (decide (xc.1 = 3)) ((fn_ref05_or (((xb.1.1, xb.1.2), xb.2)) (((xa.1.1, xa.1.2), xa.2))).bind fun (i323, l324, t325, t326) => some ((t326, xa.1.1, xa.1.2, xa.2, i323, l324, t325))) (cond (decide (xc.1 = 4)) ((fn_ref05_fill (((xa.1.1, xa.1.2), xa.2)) xc.2.1 xc.2.2).bind fun (i336, l337, t338) => some ((false, i336, l337, t338, xb.1.1, xb.1.2, xb.2))) (cond (decide (xc.1 = 5)) ((fn_ref05_fill (((xb.1.1, xb.1.2), xb.2)) xc.2.1 xc.2.2).bind fun (i348, l349, t350) => some ((false, xa.1.1, xa.1.2, xa.2, i348, l349, t350))) (some ((false, xa.1.1, xa.1.2, xa.2, xb.1.1, xb.1.2, xb.2)))))))) : Option ((Bool × Int × (List Int) × Bool × Int × (List Int) × Bool))).bind fun (t268, i269, l270, t274, i275, l276, t280) => some ((i269, l270, t274, i275, l276, t280, t268))
noncomputable def h_ref05_Do : Hn Tryd.prog := .pl (.pl (.sq [] ⟨[(9, .dat .bool)], [⟨(some 0), 32, [.dat (.int .i64), .dat (.sl (.int .i64)), .dat .bool], false, false, none, false⟩, ⟨(some 2), 32, [.dat (.int .i64), .dat (.sl (.int .i64)), .dat .bool], false, false, none, false⟩]⟩ [2, 0] (.tw 12 (.cl ok_ref05_add [] (.nil)) (.tw 21 (.cl ok_ref05_add [] (.nil)) (.tw 30 (.cl ok_ref05_or [] (.nil)) (.tw 38 (.cl ok_ref05_or [] (.nil)) (.tw 46 (.cl ok_ref05_fill [] (.nil)) (.tw 54 (.cl ok_ref05_fill [] (.nil)) (.nil))))))) (.mix [([0, 1, 2], 3), ([], 4)] [5] [] [6, 8] (.nil))))
noncomputable def sp_ref05_Do : Spec := ⟨7, ⟨[(0, .dat (.cons (.cons (.int .i64) (.one (.sl (.int .i64)))) (.one .bool))), (1, .dat (.cons (.cons (.int .i64) (.one (.sl (.int .i64)))) (.one .bool))), (2, .dat (.cons (.int .i64) (.cons (.int .i64) (.one (.int .i64)))))], []⟩, [⟨[(0, .tup [.agg [.dat (.int .i64), .dat (.sl (.int .i64)), .dat .bool], .agg [.dat (.int .i64), .dat (.sl (.int .i64)), .dat .bool], .dat .bool])], []⟩], fun x => fn_ref05_Do x.1 x.2.1 x.2.2⟩
theorem ref05_Do_is : SpecOk Tryd.prog sp_ref05_Do := fn_is Tryd.func7 h_ref05_Do (by kernel_rfl) (by kernel_rfl)
noncomputable def ok_ref05_Do : OkSpec Tryd.prog := ⟨sp_ref05_Do, ref05_Do_is, Tryd.call7⟩
noncomputable def fn_dense_Set_Or_p0p1_ir_ir_l1 (qb1 : (List Int)) : (Bool × Int × (List Int)) → Option ((Bool × Int × (List Int)) ⊕ (Bool × (List Int))) := fun ((t913, i914, l915) : (Bool × Int × (List Int))) => cond (decide (i914 < (((qb1.length : Nat) : Int)))) ((getI qb1 i914).bind fun x964 => (getI l915 i914).bind fun x971 => cond (!decide ((IntKind.wrap .u64 ((BitVec.ofInt (IntKind.bits .u64) x964 &&& ~~~BitVec.ofInt (IntKind.bits .u64) x971).toNat : Int)) = 0)) ((getI l915 i914).bind fun x979 => (getI l915 i914).bind fun x986 => (some (l915.set i914.toNat (IntKind.wrap .u64 ((BitVec.ofInt (IntKind.bits .u64) x979 ||| BitVec.ofInt (IntKind.bits .u64) x964).toNat : Int)))).bind fun z993 => some (.inl ((true, IntKind.wrap .i64 (i914 + 1), z993)))) (some (.inl ((t913, IntKind.wrap .i64 (i914 + 1), l915))))) (some (.inr (((t913, l915)))))
noncomputable def fn_dense_Set_Or_p0p1_ir_ir (qa0 : Int) (qa1 : (List Int)) (qb0 : Int) (qb1 : (List Int)) : Option ((Bool × (List Int) × (List Int))) :=
  cond (!decide (qa0 = qb0)) (some ((false, qa1, qb1))) ((loop (fn_dense_Set_Or_p0p1_ir_ir_l1 qb1) (false, 0, qa1) : Option ((Bool × (List Int)))).bind fun (t830, l831) => some ((t830, l831, qb1)))
noncomputable def h_dense_Set_Or_p0p1_ir_ir : Hn Tryd.prog := .mix [] [0, 1, 2, 3, 4, 5, 6, 7, 8, 9, 10, 11, 12, 13, 14, 15, 16] [] [] (.tw 24 (.nil) (.jn [] ⟨[(5, .dat .bool)], [⟨(some 0), 62, [.is 1 (.any), .own 63 (.int .u64)], false, false, none, false⟩, ⟨(some 2), 0, [], false, true, none, false⟩]⟩ [4, 0] (.lp ⟨[(5, .dat .bool), (30, .dat (.int .i64))], [⟨(some 0), 62, [.is 1 (.any), .own 63 (.int .u64)], false, false, none, false⟩, ⟨(some 2), 0, [], false, true, none, false⟩]⟩ (.tw 31 (.tw 44 (.nil) (.nil)) (.nil))) (.nil)))
noncomputable def sp_dense_Set_Or_p0p1_ir_ir : Spec := ⟨39, ⟨[(0, .ptr 0 0), (1, .ptr 1 0)], [⟨none, 62, [.is 2 (.dat (.int .i64)), .own 63 (.int .u64)], false, false, none, false⟩, ⟨none, 62, [.is 3 (.dat (.int .i64)), .own 63 (.int .u64)], false, false, none, false⟩, ⟨none, 0, [], false, true, none, false⟩, ⟨none, 0, [], false, true, none, false⟩]⟩, [⟨[(0, .dat .bool)], [⟨(some 0), 62, [.is 2 (.any), .own 63 (.int .u64)], false, false, none, false⟩, ⟨(some 1), 62, [.is 3 (.any), .own 63 (.int .u64)], false, false, none, false⟩, ⟨(some 2), 0, [], false, true, none, false⟩, ⟨(some 3), 0, [], false, true, none, false⟩]⟩], fun x => fn_dense_Set_Or_p0p1_ir_ir x.1 x.2.1 x.2.2.1 x.2.2.2⟩
theorem dense_Set_Or_p0p1_ir_ir_is : SpecOk Tryd.prog sp_dense_Set_Or_p0p1_ir_ir := fn_is Tryd.func39 h_dense_Set_Or_p0p1_ir_ir (by kernel_rfl) (by kernel_rfl)
noncomputable def ok_dense_Set_Or_p0p1_ir_ir : OkSpec Tryd.prog := ⟨sp_dense_Set_Or_p0p1_ir_ir, dense_Set_Or_p0p1_ir_ir_is, Tryd.call39⟩
noncomputable def fn_mixed_Set_Or_p0p1_iodod_iodod_l1 (qa0 : Int) (l1308 : (List Int)) : (Int × Bool × (Option (List Int)) × (Option (Int × (List Int))) × Bool) → Option ((Int × Bool × (Option (List Int)) × (Option (Int × (List Int))) × Bool) ⊕ ((Option (List Int)) × (Option (Int × (List Int))) × Bool)) := fun ((i1975, t1976, l1977, l1979, t1981) : (Int × Bool × (Option (List Int)) × (Option (Int × (List Int))) × Bool)) => cond (t1976) ((fn_mixed_Set_Add_p0i_iodod i1975 qa0 l1977 l1979).bind fun (t2155, l2156, l2157) => cond (t2155) ((fn_sparse_Set_Rank (some l1308) (IntKind.wrap .i64 (i1975 + 1))).bind fun i2218 => (fn_sparse_Set_At (some l1308) i2218).bind fun (i2224, t2225) => some (.inl (i2224, t2225, l2156, l2157, true))) ((fn_sparse_Set_Rank (some l1308) (IntKind.wrap .i64 (i1975 + 1))).bind fun i2283 => (fn_sparse_Set_At (some l1308) i2283).bind fun (i2289, t2290) => some (.inl (i2289, t2290, l2156, l2157, t1981)))) (some (.inr (((l1977, l1979, t1981)))))
noncomputable def fn_mixed_Set_Or_p0p1_iodod_iodod (qa0 : Int) (qa1 : (Option (List Int))) (qa2 : (Option (Int × (List Int)))) (qb0 : Int) (qb1 : (Option (List Int))) (qb2 : (Option (Int × (List Int)))) : Option ((Bool × (Option (List Int)) × (Option (Int × (List Int))) × (Option (List Int)) × (Option (Int × (List Int))))) :=
  cond (!decide (qa0 = qb0)) (some ((false, qa1, qa2, qb1, qb2))) ((fn_mixed_Set_Dense (some (qb0, qb1, qb2))).bind fun t1163 => cond (t1163) (((fn_mixed_Set_Dense (some (qa0, qa1, qa2))).bind fun t1207 => cond (!t1207) ((fn_mixed_Set_thicken_p0_iodod qa0 qa1 qa2).bind fun l1221 => some ((none, l1221))) (some ((qa1, qa2))) : Option (((Option (List Int)) × (Option (Int × (List Int)))))).bind fun (l1195, l1197) => (l1197).bind fun y1254 => (qb2).bind fun y1259 => (fn_dense_Set_Or_p0p1_ir_ir y1254.1 y1254.2 y1259.1 y1259.2).bind fun (t1266, l1267, l1268) => some ((t1266, l1195, some (y1254.1, l1267), qb1, some (y1259.1, l1268)))) ((qb1).bind fun y1301 => (fn_sparse_Set_All_p0_r y1301).bind fun l1308 => (fn_sparse_Set_At (some l1308) 0).bind fun (i1328, t1329) => (loop (fn_mixed_Set_Or_p0p1_iodod_iodod_l1 qa0 l1308) (i1328, t1329, qa1, qa2, false) : Option (((Option (List Int)) × (Option (Int × (List Int))) × Bool))).bind fun (l1811, l1813, t1815) => some ((t1815, l1811, l1813, some l1308, qb2))))
noncomputable def h_mixed_Set_Or_p0p1_iodod_iodod : Hn Tryd.prog := .mix [] [0, 1, 2, 3, 4, 5, 6, 7, 8, 9, 10, 11, 12, 13, 14, 15, 16] [] [] (.tw 23 (.nil) (.cl ok_mixed_Set_Dense [9, 11, 1] (.tw 25 (.sq [] ⟨[], [⟨(some 0), 53, [.is 1 (.any), .od (.box 70 (.one (.row 3 (.dat (.int .i64))))), .od (.box 62 (.cons (.dat (.int .i64)) (.one (.row 63 (.dat (.int .u64))))))], false, false, none, false⟩, ⟨(some 2), 0, [], false, true, none, false⟩]⟩ [0, 4, 6] (.cl ok_mixed_Set_Dense [4, 6, 0] (.tw 28 (.cl ok_mixed_Set_thicken_p0_iodod [] (.nil)) (.nil))) (.mix [] [0, 1, 2, 3, 4, 5, 6, 7] [8, 9] [] (.wt 38 (.opb 18 19 (.wt 38 (.opb 11 12 (.wt 38 (.mc 18 0 21 (.mc 11 0 24 (.cl ok_dense_Set_Or_p0p1_ir_ir [] (.nil))))))))))) (.wt 43 (.opb 9 10 (.cl ok_sparse_Set_All_p0_r [] (.rg ⟨54, _, Tryd.func54, Tryd.call54⟩ (.cl ok_sparse_Set_At [26, 9] (.jn [] ⟨[], [⟨(some 0), 53, [.is 3 (.any), .od (.box 70 (.one (.row 3 (.dat (.int .i64))))), .od (.box 62 (.cons (.dat (.int .i64)) (.one (.row 63 (.dat (.int .u64))))))], false, false, none, false⟩, ⟨(some 16), 4, [.dat .bool], false, false, none, false⟩, ⟨(some 30), 0, [], false, false, none, true⟩, ⟨(some 2), 0, [], false, true, none, false⟩]⟩ [30, 16, 0, 4, 6] (.lp ⟨[(3, .dat (.int .i64)), (4, .dat .bool)], [⟨(some 0), 53, [.is 3 (.any), .od (.box 70 (.one (.row 3 (.dat (.int .i64))))), .od (.box 62 (.cons (.dat (.int .i64)) (.one (.row 63 (.dat (.int .u64))))))], false, false, none, false⟩, ⟨(some 16), 4, [.dat .bool], false, false, none, false⟩, ⟨(some 30), 0, [], false, false, none, true⟩, ⟨(some 2), 0, [], false, true, none, false⟩]⟩ (.tw 10 (.yl 2 (.cl ok_mixed_Set_Add_p0i_iodod [] (.tw 48 (.mix [([0, 1, 2, 3], 4), ([], 5)] [6, 7, 8, 9, 10] [] [] (.cl ok_sparse_Set_Rank [26, 9] (.cl ok_sparse_Set_At [26, 9] (.nil)))) (.mix [([0, 1, 2, 3], 4), ([], 5)] [6, 7, 8, 9, 10] [] [] (.cl ok_sparse_Set_Rank [26, 9] (.cl ok_sparse_Set_At [26, 9] (.nil))))))) (.nil))) (.nil))))))))))
noncomputable def sp_mixed_Set_Or_p0p1_iodod_iodod : Spec := ⟨22, ⟨[(0, .ptr 0 0), (1, .ptr 1 0)], [⟨none, 53, [.is 2 (.dat (.int .i64)), .od (.box 70 (.one (.row 3 (.dat (.int .i64))))), .od (.box 62 (.cons (.dat (.int .i64)) (.one (.row 63 (.dat (.int .u64))))))], false, false, none, false⟩, ⟨none, 53, [.is 3 (.dat (.int .i64)), .od (.box 70 (.one (.row 3 (.dat (.int .i64))))), .od (.box 62 (.cons (.dat (.int .i64)) (.one (.row 63 (.dat (.int .u64))))))], false, false, none, false⟩, ⟨none, 0, [], false, true, none, false⟩, ⟨none, 0, [], false, true, none, false⟩]⟩, [⟨[(0, .dat .bool)], [⟨(some 0), 53, [.is 2 (.any), .od (.box 70 (.one (.row 3 (.dat (.int .i64))))), .od (.box 62 (.cons (.dat (.int .i64)) (.one (.row 63 (.dat (.int .u64))))))], false, false, none, false⟩, ⟨(some 1), 53, [.is 3 (.any), .od (.box 70 (.one (.row 3 (.dat (.int .i64))))), .od (.box 62 (.cons (.dat (.int .i64)) (.one (.row 63 (.dat (.int .u64))))))], false, false, none, false⟩, ⟨(some 2), 0, [], false, true, none, false⟩, ⟨(some 3), 0, [], false, true, none, false⟩]⟩], fun x => fn_mixed_Set_Or_p0p1_iodod_iodod x.1 x.2.1 x.2.2.1 x.2.2.2.1 x.2.2.2.2.1 x.2.2.2.2.2⟩
theorem mixed_Set_Or_p0p1_iodod_iodod_is : SpecOk Tryd.prog sp_mixed_Set_Or_p0p1_iodod_iodod := fn_is Tryd.func22 h_mixed_Set_Or_p0p1_iodod_iodod (by kernel_rfl) (by kernel_rfl)
noncomputable def ok_mixed_Set_Or_p0p1_iodod_iodod : OkSpec Tryd.prog := ⟨sp_mixed_Set_Or_p0p1_iodod_iodod, mixed_Set_Or_p0p1_iodod_iodod_is, Tryd.call22⟩

noncomputable def fn_law05_does_p0p1a_iodod_iodod (xc : (Int × Int × Int)) (qa0 : Int) (qa1 : (Option (List Int))) (qa2 : (Option (Int × (List Int)))) (qb0 : Int) (qb1 : (Option (List Int))) (qb2 : (Option (Int × (List Int)))) : Option ((Bool × (Option (List Int)) × (Option (Int × (List Int))) × (Option (List Int)) × (Option (Int × (List Int))))) :=
  cond (decide (xc.1 = 0)) ((fn_mixed_Set_Add_p0i_iodod xc.2.1 qa0 qa1 qa2).bind fun (t165, l166, l167) => some ((t165, l166, l167, qb1, qb2))) (cond (decide (xc.1 = 1)) ((fn_mixed_Set_Add_p0i_iodod xc.2.1 qb0 qb1 qb2).bind fun (t186, l187, l188) => some ((t186, qa1, qa2, l187, l188))) (cond (decide (xc.1 = 2)) ((fn_mixed_Set_Or_p0p1_iodod_iodod qa0 qa1 qa2 qb0 qb1 qb2).bind fun (t211, l212, l213, l214, l215) => some ((t211, l212, l213, l214, l215))) (cond (decide (xc.1 = 3)) ((fn_mixed_Set_Or_p0p1_iodod_iodod qb0 qb1 qb2 qa0 qa1 qa2).bind fun (t240, l241, l242, l243, l244) => some ((t240, l243, l244, l241, l242))) (cond (decide (xc.1 = 4)) ((fn_mixed_Set_Fill_p0ii_iodod xc.2.1 xc.2.2 qa0 qa1 qa2).bind fun (l264, l265) => some ((false, l264, l265, qb1, qb2))) (cond (decide (xc.1 = 5)) ((fn_mixed_Set_Fill_p0ii_iodod xc.2.1 xc.2.2 qb0 qb1 qb2).bind fun (l283, l284) => some ((false, qa1, qa2, l283, l284))) (some ((false, qa1, qa2, qb1, qb2))))))))
noncomputable def h_law05_does_p0p1a_iodod_iodod : Hn Tryd.prog := .tw 9 (.cl ok_mixed_Set_Add_p0i_iodod [] (.nil)) (.tw 15 (.cl ok_mixed_Set_Add_p0i_iodod [] (.nil)) (.tw 21 (.cl ok_mixed_Set_Or_p0p1_iodod_iodod [] (.nil)) (.tw 26 (.cl ok_mixed_Set_Or_p0p1_iodod_iodod [] (.nil)) (.tw 31 (.cl ok_mixed_Set_Fill_p0ii_iodod [] (.nil)) (.tw 39 (.cl ok_mixed_Set_Fill_p0ii_iodod [] (.nil)) (.nil))))))
noncomputable def sp_law05_does_p0p1a_iodod_iodod : Spec := ⟨8, ⟨[(0, .ptr 0 0), (1, .ptr 1 0), (2, .dat (.cons (.int .i64) (.cons (.int .i64) (.one (.int .i64)))))], [⟨none, 53, [.is 2 (.dat (.int .i64)), .od (.box 70 (.one (.row 3 (.dat (.int .i64))))), .od (.box 62 (.cons (.dat (.int .i64)) (.one (.row 63 (.dat (.int .u64))))))], false, false, none, false⟩, ⟨none, 53, [.is 3 (.dat (.int .i64)), .od (.box 70 (.one (.row 3 (.dat (.int .i64))))), .od (.box 62 (.cons (.dat (.int .i64)) (.one (.row 63 (.dat (.int .u64))))))], false, false, none, false⟩, ⟨none, 0, [], false, true, none, false⟩, ⟨none, 0, [], false, true, none, false⟩]⟩, [⟨[(0, .dat .bool)], [⟨(some 0), 53, [.is 2 (.any), .od (.box 70 (.one (.row 3 (.dat (.int .i64))))), .od (.box 62 (.cons (.dat (.int .i64)) (.one (.row 63 (.dat (.int .u64))))))], false, false, none, false⟩, ⟨(some 1), 53, [.is 3 (.any), .od (.box 70 (.one (.row 3 (.dat (.int .i64))))), .od (.box 62 (.cons (.dat (.int .i64)) (.one (.row 63 (.dat (.int .u64))))))], false, false, none, false⟩, ⟨(some 2), 0, [], false, true, none, false⟩, ⟨(some 3), 0, [], false, true, none, false⟩]⟩], fun x => fn_law05_does_p0p1a_iodod_iodod x.1 x.2.1 x.2.2.1 x.2.2.2.1 x.2.2.2.2.1 x.2.2.2.2.2.1 x.2.2.2.2.2.2⟩
theorem law05_does_p0p1a_iodod_iodod_is : SpecOk Tryd.prog sp_law05_does_p0p1a_iodod_iodod := fn_is Tryd.func8 h_law05_does_p0p1a_iodod_iodod (by kernel_rfl) (by kernel_rfl)
noncomputable def ok_law05_does_p0p1a_iodod_iodod : OkSpec Tryd.prog := ⟨sp_law05_does_p0p1a_iodod_iodod, law05_does_p0p1a_iodod_iodod_is, Tryd.call8⟩

noncomputable def fn_mixed_Set_Has (xa : (Option (Int × (Option (List Int)) × (Option (Int × (List Int)))))) (xb : Int) : Option Bool :=
  (fn_mixed_Set_Dense xa).bind fun t60 => cond (t60) ((xa : Option (Int × (Option (List Int)) × (Option (Int × (List Int))))).bind fun y65 => (fn_dense_Set_Has y65.2.2 xb).bind fun t76 => some (t76)) ((cond (!xa.isNone) ((xa : Option (Int × (Option (List Int)) × (Option (Int × (List Int))))).bind fun y98 => (fn_sparse_Set_Has y98.2.1 xb).bind fun t109 => some (t109)) (some (false))).bind fun t96 => some (t96))
noncomputable def h_mixed_Set_Has : Hn Tryd.prog := .cl ok_mixed_Set_Dense [] (.tw 6 (.cl ok_dense_Set_Has [] (.nil)) (.gj 6 ⟨[(22, .dat .bool)], []⟩ [] (.two 15 (.cl ok_sparse_Set_Has [] (.nil)) (.nil)) (.nil)))
noncomputable def sp_mixed_Set_Has : Spec := ⟨15, ⟨[(0, .dat (.ptr (.cons (.int .i64) (.cons (.ptr (.one (.sl (.int .i64)))) (.one (.ptr (.cons (.int .i64) (.one (.sl (.int .u64)))))))))), (1, .dat (.int .i64))], []⟩, [⟨[(0, .dat .bool)], []⟩], fun x => fn_mixed_Set_Has x.1 x.2⟩
theorem mixed_Set_Has_is : SpecOk Tryd.prog sp_mixed_Set_Has := fn_is Tryd.func15 h_mixed_Set_Has (by kernel_rfl) (by kernel_rfl)
noncomputable def ok_mixed_Set_Has : OkSpec Tryd.prog := ⟨sp_mixed_Set_Has, mixed_Set_Has_is, Tryd.call15⟩

noncomputable def fn_ref05_Words (xa : ((Int × (List Int)) × Bool)) : Option Int :=
  cond (xa.2) (some (IntKind.wrap .i64 (Int.tdiv (IntKind.wrap .i64 (xa.1.1 + 63)) 64))) (some (((xa.1.2.length : Nat) : Int)))
noncomputable def h_ref05_Words : Hn Tryd.prog := .tw 4 (.nil) (.nil)
noncomputable def sp_ref05_Words : Spec := ⟨30, ⟨[(0, .dat (.cons (.cons (.int .i64) (.one (.sl (.int .i64)))) (.one .bool)))], []⟩, [⟨[(0, .dat (.int .i64))], []⟩], fun x => fn_ref05_Words x⟩
theorem ref05_Words_is : SpecOk Tryd.prog sp_ref05_Words := fn_is Tryd.func30 h_ref05_Words (by kernel_rfl) (by kernel_rfl)
noncomputable def ok_ref05_Words : OkSpec Tryd.prog := ⟨sp_ref05_Words, ref05_Words_is, Tryd.call30⟩

noncomputable def fn_mixed_Set_All_p0_iodod (qa0 : Int) (qa1 : (Option (List Int))) (qa2 : (Option (Int × (List Int)))) : Option (((Option (List Int)) × (Option (Int × (List Int))))) :=
  some ((qa1, qa2))
noncomputable def h_mixed_Set_All_p0_iodod : Hn Tryd.prog := .nil
noncomputable def sp_mixed_Set_All_p0_iodod : Spec := ⟨37, ⟨[(0, .ptr 0 0)], [⟨none, 53, [.is 1 (.dat (.int .i64)), .od (.box 70 (.one (.row 3 (.dat (.int .i64))))), .od (.box 62 (.cons (.dat (.int .i64)) (.one (.row 63 (.dat (.int .u64))))))], false, false, none, false⟩, ⟨none, 0, [], false, true, none, false⟩]⟩, [⟨[(0, .fn 50 [.ptr 1 0])], [⟨(some 0), 53, [.is 2 (.any), .od (.box 70 (.one (.row 3 (.dat (.int .i64))))), .od (.box 62 (.cons (.dat (.int .i64)) (.one (.row 63 (.dat (.int .u64))))))], false, false, none, false⟩, ⟨none, 24, [.ptr 0 0], false, false, none, false⟩, ⟨(some 1), 0, [], false, true, none, false⟩]⟩], fun x => fn_mixed_Set_All_p0_iodod x.1 x.2.1 x.2.2⟩
theorem mixed_Set_All_p0_iodod_is : SpecOk Tryd.prog sp_mixed_Set_All_p0_iodod := fn_is Tryd.func37 h_mixed_Set_All_p0_iodod (by kernel_rfl) (by kernel_rfl)
noncomputable def ok_mixed_Set_All_p0_iodod : OkSpec Tryd.prog := ⟨sp_mixed_Set_All_p0_iodod, mixed_Set_All_p0_iodod_is, Tryd.call37⟩

noncomputable def fn_dense_Set_All_p0_ir (qa0 : Int) (qa1 : (List Int)) : Option (List Int) :=
  some (qa1)
noncomputable def h_dense_Set_All_p0_ir : Hn Tryd.prog := .nil
noncomputable def sp_dense_Set_All_p0_ir : Spec := ⟨38, ⟨[(0, .ptr 0 0)], [⟨none, 62, [.is 1 (.dat (.int .i64)), .own 63 (.int .u64)], false, false, none, false⟩, ⟨none, 0, [], false, true, none, false⟩]⟩, [⟨[(0, .fn 52 [.ptr 1 0])], [⟨(some 0), 62, [.is 2 (.any), .own 63 (.int .u64)], false, false, none, false⟩, ⟨none, 40, [.ptr 0 0], false, false, none, false⟩, ⟨(some 1), 0, [], false, true, none, false⟩]⟩], fun x => fn_dense_Set_All_p0_ir x.1 x.2⟩
theorem dense_Set_All_p0_ir_is : SpecOk Tryd.prog sp_dense_Set_All_p0_ir := fn_is Tryd.func38 h_dense_Set_All_p0_ir (by kernel_rfl) (by kernel_rfl)
noncomputable def ok_dense_Set_All_p0_ir : OkSpec Tryd.prog := ⟨sp_dense_Set_All_p0_ir, dense_Set_All_p0_ir_is, Tryd.call38⟩

noncomputable def fn_mixed_Set_kind_p0_iodod (qa0 : Int) (qa1 : (Option (List Int))) (qa2 : (Option (Int × (List Int)))) : Option ((((Option (List Int)) × Int × (List Int)) ⊕ ((Option (Int × (List Int))) × (List Int)))) :=
  (fn_mixed_Set_Dense (some (qa0, qa1, qa2))).bind fun t109 => cond (t109) ((qa2).bind fun y131 => (fn_dense_Set_All_p0_ir y131.1 y131.2).bind fun l138 => some (.inl (qa1, y131.1, l138))) ((qa1).bind fun y165 => (fn_sparse_Set_All_p0_r y165).bind fun l172 => some (.inr (qa2, l172)))
noncomputable def h_mixed_Set_kind_p0_iodod : Hn Tryd.prog := .cl ok_mixed_Set_Dense [2, 4, 0] (.tw 4 (.wt 8 (.opb 4 5 (.wt 8 (.mc 4 0 7 (.cl ok_dense_Set_All_p0_ir [] (.nil)))))) (.wt 17 (.opb 2 3 (.cl ok_sparse_Set_All_p0_r [] (.pl (.nil))))))
noncomputable def sp_mixed_Set_kind_p0_iodod : Spec := ⟨51, ⟨[(0, .ptr 0 0)], [⟨none, 53, [.is 1 (.dat (.int .i64)), .od (.box 70 (.one (.row 3 (.dat (.int .i64))))), .od (.box 62 (.cons (.dat (.int .i64)) (.one (.row 63 (.dat (.int .u64))))))], false, false, none, false⟩, ⟨none, 0, [], false, true, none, false⟩]⟩, [⟨[(0, .fn 52 [.ptr 1 0])], [⟨(some 0), 53, [.is 3 (.any), .od (.box 70 (.one (.row 3 (.dat (.int .i64))))), .ptr 2 0], false, false, none, false⟩, ⟨none, 40, [.ptr 2 0], false, false, none, false⟩, ⟨none, 62, [.dat (.int .i64), .own 63 (.int .u64)], false, false, none, false⟩, ⟨(some 1), 0, [], false, true, none, false⟩]⟩, ⟨[(0, .fn 54 [.ptr 1 0])], [⟨(some 0), 53, [.is 3 (.any), .ptr 2 0, .od (.box 62 (.cons (.dat (.int .i64)) (.one (.row 63 (.dat (.int .u64))))))], false, false, none, false⟩, ⟨none, 50, [.ptr 2 0], false, false, none, false⟩, ⟨none, 70, [.own 3 (.int .i64)], false, false, none, false⟩, ⟨(some 1), 0, [], false, true, none, false⟩]⟩], fun x => fn_mixed_Set_kind_p0_iodod x.1 x.2.1 x.2.2⟩
theorem mixed_Set_kind_p0_iodod_is : SpecOk Tryd.prog sp_mixed_Set_kind_p0_iodod := fn_is Tryd.func51 h_mixed_Set_kind_p0_iodod (by kernel_rfl) (by kernel_rfl)
noncomputable def ok_mixed_Set_kind_p0_iodod : OkSpec Tryd.prog := ⟨sp_mixed_Set_kind_p0_iodod, mixed_Set_kind_p0_iodod_is, Tryd.call51⟩
noncomputable def fn_dense_Set_Next_l1 (y175 : (Int × (List Int))) : (Int × Int) → Option ((Int × Int) ⊕ ((Int × Int) ⊕ Int)) := fun ((i285, i286) : (Int × Int)) => cond (decide (i286 = 0)) (cond (decide ((IntKind.wrap .i64 (i285 + 1)) = (((y175.2.length : Nat) : Int)))) (some (.inr ((.inr ((-1)))))) ((getI y175.2 (IntKind.wrap .i64 (i285 + 1))).bind fun x319 => some (.inl ((IntKind.wrap .i64 (i285 + 1), x319))))) (some (.inr ((.inl (i285, i286)))))
noncomputable def fn_dense_Set_Next (xa : (Option (Int × (List Int)))) (xb : Int) : Option Int :=
  (fn_dense_Set_mayHave xa (if xb < 0 then 0 else xb)).bind fun t170 => cond (!t170) (some ((-1))) ((xa : Option (Int × (List Int))).bind fun y175 => (getI y175.2 (IntKind.wrap .i64 (Int.tdiv (if xb < 0 then 0 else xb) 64))).bind fun x185 => (ge0 (Int.tmod (if xb < 0 then 0 else xb) 64)).bind fun u194 => (ge0 (Int.tmod (if xb < 0 then 0 else xb) 64)).bind fun u196 => (loop (fn_dense_Set_Next_l1 y175) ((IntKind.wrap .i64 (Int.tdiv (if xb < 0 then 0 else xb) 64), IntKind.wrap .u64 ((Int.fdiv x185 (2 ^ (min (Int.toNat (Int.tmod (if xb < 0 then 0 else xb) 64)) (IntKind.bits .u64)))) * 2 ^ (min (Int.toNat (Int.tmod (if xb < 0 then 0 else xb) 64)) (IntKind.bits .u64))))) : Option ((Int × Int) ⊕ Int)).bind fun o => match o with | .inr r => some r | .inl (i262, i263) => (tzF i263).bind fun i330 => some (IntKind.wrap .i64 ((IntKind.wrap .i64 (i262 * 64)) + i330)))
noncomputable def h_dense_Set_Next : Hn Tryd.prog := .ms 0 (.cl ok_dense_Set_mayHave [] (.tw 12 (.nil) (.jx [] ⟨[(5, .dat (.int .i64)), (6, .dat (.int .u64))], []⟩ [] (.lp ⟨[(5, .dat (.int .i64)), (6, .dat (.int .u64))], []⟩ (.tw 29 (.tw 38 (.nil) (.nil)) (.nil))) (.cl ok_TZ [] (.nil)))))
noncomputable def sp_dense_Set_Next : Spec := ⟨53, ⟨[(0, .dat (.ptr (.cons (.int .i64) (.one (.sl (.int .u64)))))), (1, .dat (.int .i64))], []⟩, [⟨[(0, .dat (.int .i64))], []⟩], fun x => fn_dense_Set_Next x.1 x.2⟩
theorem dense_Set_Next_is : SpecOk Tryd.prog sp_dense_Set_Next := fn_is Tryd.func53 h_dense_Set_Next (by kernel_rfl) (by kernel_rfl)
noncomputable def ok_dense_Set_Next : OkSpec Tryd.prog := ⟨sp_dense_Set_Next, dense_Set_Next_is, Tryd.call53⟩
noncomputable def fn_mixed_Set_List_p0_iodod_l1 (i974 : Int) (l975 : (List Int)) : (Int × (List Int)) → Option ((Int × (List Int)) ⊕ (List Int)) := fun ((i1162, l1163) : (Int × (List Int))) => cond (decide (0 ≤ i1162)) ((app l1163 ([i1162] : List Int)).bind fun z1220 => (fn_dense_Set_Next (some (i974, l975)) (IntKind.wrap .i64 (i1162 + 1))).bind fun i1234 => some (.inl (i1234, z1220))) (some (.inr (l1163)))
noncomputable def fn_mixed_Set_List_p0_iodod_l2 (l1239 : (List Int)) : (Int × Bool × (List Int)) → Option ((Int × Bool × (List Int)) ⊕ (List Int)) := fun ((i1644, t1645, l1646) : (Int × Bool × (List Int))) => cond (t1645) ((app l1646 ([i1644] : List Int)).bind fun z1757 => (fn_sparse_Set_Rank (some l1239) (IntKind.wrap .i64 (i1644 + 1))).bind fun i1817 => (fn_sparse_Set_At (some l1239) i1817).bind fun (i1823, t1824) => some (.inl (i1823, t1824, z1757))) (some (.inr (l1646)))
noncomputable def fn_mixed_Set_List_p0_iodod (qa0 : Int) (qa1 : (Option (List Int))) (qa2 : (Option (Int × (List Int)))) : Option (((List Int) × (Option (List Int)) × (Option (Int × (List Int))))) :=
  (fn_mixed_Set_All_p0_iodod qa0 qa1 qa2).bind fun (l933, l934) => (fn_mixed_Set_kind_p0_iodod qa0 l933 l934).bind fun o => match o with | .inl (l973, i974, l975) => (fn_dense_Set_Next (some (i974, l975)) 0).bind fun i995 => (loop (fn_mixed_Set_List_p0_iodod_l1 i974 l975) (i995, []) : Option (List Int)).bind fun l1116 => some ((l1116, l973, some (i974, l975))) | .inr (l1238, l1239) => (fn_sparse_Set_At (some l1239) 0).bind fun (i1260, t1261) => (loop (fn_mixed_Set_List_p0_iodod_l2 l1239) (i1260, t1261, []) : Option (List Int)).bind fun l1544 => some ((l1544, some l1239, l1238))
noncomputable def h_mixed_Set_List_p0_iodod : Hn Tryd.prog := .cl ok_mixed_Set_All_p0_iodod [] (.rg ⟨50, _, Tryd.func50, Tryd.call50⟩ (.c2 ok_mixed_Set_kind_p0_iodod [] (.rg ⟨52, _, Tryd.func52, Tryd.call52⟩ (.cl ok_dense_Set_Next [35, 30] (.jn [] ⟨[], [⟨(some 7), 28, [.own 3 (.int .i64)], false, false, none, false⟩, ⟨(some 21), 0, [], false, false, none, true⟩, ⟨(some 38), 0, [], false, false, none, true⟩]⟩ [38, 21, 7] (.lp ⟨[(3, .dat (.int .i64))], [⟨(some 7), 28, [.own 3 (.int .i64)], false, false, none, false⟩, ⟨(some 21), 0, [], false, false, none, true⟩, ⟨(some 38), 0, [], false, false, none, true⟩]⟩ (.tw 7 (.yl 2 (.pl (.yl 2 (.cl ok_dense_Set_Next [35, 30] (.nil))))) (.nil))) (.nil)))) (.rg ⟨54, _, Tryd.func54, Tryd.call54⟩ (.cl ok_sparse_Set_At [35, 30] (.jn [] ⟨[], [⟨(some 7), 28, [.own 3 (.int .i64)], false, false, none, false⟩, ⟨(some 21), 0, [], false, false, none, true⟩, ⟨(some 38), 0, [], false, false, none, true⟩]⟩ [38, 21, 7] (.lp ⟨[(3, .dat (.int .i64)), (4, .dat .bool)], [⟨(some 7), 28, [.own 3 (.int .i64)], false, false, none, false⟩, ⟨(some 21), 0, [], false, false, none, true⟩, ⟨(some 38), 0, [], false, false, none, true⟩]⟩ (.tw 10 (.yl 2 (.pl (.yl 2 (.mix [([0, 1, 2, 3], 4), ([], 5)] [6, 7, 8, 9, 10] [] [] (.cl ok_sparse_Set_Rank [35, 30] (.cl ok_sparse_Set_At [35, 30] (.nil))))))) (.nil))) (.nil))))))
noncomputable def sp_mixed_Set_List_p0_iodod : Spec := ⟨19, ⟨[(0, .ptr 0 0)], [⟨none, 53, [.is 1 (.dat (.int .i64)), .od (.box 70 (.one (.row 3 (.dat (.int .i64))))), .od (.box 62 (.cons (.dat (.int .i64)) (.one (.row 63 (.dat (.int .u64))))))], false, false, none, false⟩, ⟨none, 0, [], false, true, none, false⟩]⟩, [⟨[(0, .own 3 (.int .i64))], [⟨(some 0), 53, [.is 1 (.any), .od (.box 70 (.one (.row 3 (.dat (.int .i64))))), .od (.box 62 (.cons (.dat (.int .i64)) (.one (.row 63 (.dat (.int .u64))))))], false, false, none, false⟩, ⟨(some 1), 0, [], false, true, none, false⟩]⟩], fun x => fn_mixed_Set_List_p0_iodod x.1 x.2.1 x.2.2⟩
theorem mixed_Set_List_p0_iodod_is : SpecOk Tryd.prog sp_mixed_Set_List_p0_iodod := fn_is Tryd.func19 h_mixed_Set_List_p0_iodod (by kernel_rfl) (by kernel_rfl)
noncomputable def ok_mixed_Set_List_p0_iodod : OkSpec Tryd.prog := ⟨sp_mixed_Set_List_p0_iodod, mixed_Set_List_p0_iodod_is, Tryd.call19⟩
noncomputable def fn_ref01_Same_l1 (xa : (List Int)) (xb : (List Int)) : Int → Option (Int ⊕ (Unit ⊕ Bool)) := fun (i757 : Int) => cond (decide (i757 < (((xa.length : Nat) : Int)))) ((getI xa i757).bind fun x889 => (getI xb i757).bind fun x898 => cond (!decide (x889 = x898)) (some (.inr ((.inr (false))))) (some (.inl (IntKind.wrap .i64 (i757 + 1))))) (some (.inr ((.inl ()))))
noncomputable def fn_ref01_Same (xa : (List Int)) (xb : (List Int)) : Option Bool :=
  cond (!decide ((((xa.length : Nat) : Int)) = (((xb.length : Nat) : Int)))) (some (false)) ((loop (fn_ref01_Same_l1 xa xb) 0 : Option (Unit ⊕ Bool)).bind fun o => match o with | .inr r => some r | .inl () => some (true))
noncomputable def h_ref01_Same : Hn Tryd.prog := .tw 10 (.nil) (.jx [] ⟨[], []⟩ [] (.lp ⟨[(5, .dat (.int .i64))], []⟩ (.tw 14 (.mix [] [0, 1, 2, 3, 4, 5, 6, 7, 8] [] [] (.tw 25 (.nil) (.nil))) (.nil))) (.nil))
noncomputable def sp_ref01_Same : Spec := ⟨18, ⟨[(0, .dat (.sl (.int .i64))), (1, .dat (.sl (.int .i64)))], []⟩, [⟨[(0, .dat .bool)], []⟩], fun x => fn_ref01_Same x.1 x.2⟩
theorem ref01_Same_is : SpecOk Tryd.prog sp_ref01_Same := fn_is Tryd.func18 h_ref01_Same (by kernel_rfl) (by kernel_rfl)
noncomputable def ok_ref01_Same : OkSpec Tryd.prog := ⟨sp_ref01_Same, ref01_Same_is, Tryd.call18⟩

noncomputable def fn_law05_tells_p0ai_iodod (xb : ((Int × (List Int)) × Bool)) (xc : Int) (qa0 : Int) (qa1 : (Option (List Int))) (qa2 : (Option (Int × (List Int)))) : Option ((Bool × (Option (List Int)) × (Option (Int × (List Int))))) :=
  (fn_mixed_Set_Size (some (qa0, qa1, qa2))).bind fun i588 => cond (decide (i588 = xb.1.1)) ((fn_mixed_Set_Len (some (qa0, qa1, qa2))).bind fun i595 => cond (decide (i595 = (((xb.1.2.length : Nat) : Int)))) ((fn_mixed_Set_Has (some (qa0, qa1, qa2)) xc).bind fun t602 => (fn_ref03_Has (xb.1.1, xb.1.2) xc).bind fun t608 => cond (t602 == t608) ((fn_mixed_Set_Dense (some (qa0, qa1, qa2))).bind fun t615 => cond (t615 == xb.2) ((fn_mixed_Set_Words (some (qa0, qa1, qa2))).bind fun i622 => (fn_ref05_Words (((xb.1.1, xb.1.2), xb.2))).bind fun i628 => cond (decide (i622 = i628)) ((fn_mixed_Set_List_p0_iodod qa0 qa1 qa2).bind fun (l635, l636, l637) => (fn_ref01_Same l635 xb.1.2).bind fun t652 => some ((t652, l636, l637))) (some ((false, qa1, qa2)))) (some ((false, qa1, qa2)))) (some ((false, qa1, qa2)))) (some ((false, qa1, qa2)))) (some ((false, qa1, qa2)))
noncomputable def h_law05_tells_p0ai_iodod : Hn Tryd.prog := .mix [([0, 2, 3, 4], 1), ([5, 6, 7, 9, 10, 11, 12], 8), ([13, 14, 15, 16, 17, 19, 20, 21], 18), ([], 22), ([23, 24, 25, 26, 28, 29], 27), ([30, 31, 32, 33, 35], 34), ([], 36), ([37, 38, 39, 40, 42, 43, 44], 41)] [] [45, 46, 47] [0, 2, 4] (.cl ok_mixed_Set_Size [2, 4, 0] (.two 13 (.cl ok_mixed_Set_Len [2, 4, 0] (.two 22 (.cl ok_mixed_Set_Has [2, 4, 0] (.cl ok_ref03_Has [] (.two 32 (.cl ok_mixed_Set_Dense [2, 4, 0] (.two 39 (.cl ok_mixed_Set_Words [2, 4, 0] (.cl ok_ref05_Words [] (.two 46 (.cl ok_mixed_Set_List_p0_iodod [] (.cl ok_ref01_Same [14] (.nil))) (.nil)))) (.nil))) (.nil)))) (.nil))) (.nil)))
noncomputable def sp_law05_tells_p0ai_iodod : Spec := ⟨9, ⟨[(0, .ptr 0 0), (1, .dat (.cons (.cons (.int .i64) (.one (.sl (.int .i64)))) (.one .bool))), (2, .dat (.int .i64))], [⟨none, 53, [.is 1 (.dat (.int .i64)), .od (.box 70 (.one (.row 3 (.dat (.int .i64))))), .od (.box 62 (.cons (.dat (.int .i64)) (.one (.row 63 (.dat (.int .u64))))))], false, false, none, false⟩, ⟨none, 0, [], false, true, none, false⟩]⟩, [⟨[(0, .dat .bool)], [⟨(some 0), 53, [.is 1 (.any), .od (.box 70 (.one (.row 3 (.dat (.int .i64))))), .od (.box 62 (.cons (.dat (.int .i64)) (.one (.row 63 (.dat (.int .u64))))))], false, false, none, false⟩, ⟨(some 1), 0, [], false, true, none, false⟩]⟩], fun x => fn_law05_tells_p0ai_iodod x.1 x.2.1 x.2.2.1 x.2.2.2.1 x.2.2.2.2⟩
theorem law05_tells_p0ai_iodod_is : SpecOk Tryd.prog sp_law05_tells_p0ai_iodod := fn_is Tryd.func9 h_law05_tells_p0ai_iodod (by kernel_rfl) (by kernel_rfl)
noncomputable def ok_law05_tells_p0ai_iodod : OkSpec Tryd.prog := ⟨sp_law05_tells_p0ai_iodod, law05_tells_p0ai_iodod_is, Tryd.call9⟩
noncomputable def fn_law05_MixedPlays_l1 (xa : Int) (xb : Int) (xc : (List (Int × Int × Int))) (xd : Int) : (Int × (Option (List Int)) × (Option (Int × (List Int))) × (Option (List Int)) × (Option (Int × (List Int))) × Int × (List Int) × Bool × Int × (List Int) × Bool) → Option ((Int × (Option (List Int)) × (Option (Int × (List Int))) × (Option (List Int)) × (Option (Int × (List Int))) × Int × (List Int) × Bool × Int × (List Int) × Bool) ⊕ (Unit ⊕ Bool)) := fun ((i7938, l7939, l7941, l7943, l7945, i7947, l7948, t7952, i7953, l7954, t7958) : (Int × (Option (List Int)) × (Option (Int × (List Int))) × (Option (List Int)) × (Option (Int × (List Int))) × Int × (List Int) × Bool × Int × (List Int) × Bool)) => cond (decide (i7938 < (((xc.length : Nat) : Int)))) (((getI xc i7938).bind fun x9092 => ((fn_ref05_Do (((i7947, l7948), t7952)) (((i7953, l7954), t7958)) (x9092.1, x9092.2.1, x9092.2.2)).bind fun (i9103, l9104, t9105, i9106, l9107, t9108, t9109) => (some ((t9109, i9103, l9104, t9105, i9106, l9107, t9108))).bind fun x9123 => (some ((t9109, i9103, l9104, t9105, i9106, l9107, t9108))).bind fun y9124 => agr x9123 y9124 (some x9123)).bind fun x9209 => ((((fn_ref05_Do (((i7947, l7948), t7952)) (((i7953, l7954), t7958)) (x9092.1, x9092.2.1, x9092.2.2)).bind fun (i9128, l9129, t9130, i9131, l9132, t9133, t9134) => some ((t9134, i9128, l9129, t9130, i9131, l9132, t9133))).bind fun x9164 => ((fn_ref05_Do (((i7947, l7948), t7952)) (((i7953, l7954), t7958)) (x9092.1, x9092.2.1, x9092.2.2)).bind fun (i9148, l9149, t9150, i9151, l9152, t9153, t9154) => some ((t9154, i9148, l9149, t9150, i9151, l9152, t9153))).bind fun y9165 => agr x9164 y9165 (some x9164)).bind fun x9207 => (((fn_ref05_Do (((i7947, l7948), t7952)) (((i7953, l7954), t7958)) (x9092.1, x9092.2.1, x9092.2.2)).bind fun (i9169, l9170, t9171, i9172, l9173, t9174, t9175) => some ((t9175, i9169, l9170, t9171, i9172, l9173, t9174))).bind fun x9205 => ((fn_ref05_Do (((i7947, l7948), t7952)) (((i7953, l7954), t7958)) (x9092.1, x9092.2.1, x9092.2.2)).bind fun (i9189, l9190, t9191, i9192, l9193, t9194, t9195) => some ((t9195, i9189, l9190, t9191, i9192, l9193, t9194))).bind fun y9206 => agr x9205 y9206 (some x9205)).bind fun y9208 => agr x9207 y9208 (some x9207)).bind fun y9210 => agr x9209 y9210 (some x9209) : Option ((Bool × Int × (List Int) × Bool × Int × (List Int) × Bool))).bind fun (t8960, i8961, l8962, t8966, i8967, l8968, t8972) => (getI xc i7938).bind fun x9398 => (fn_law05_does_p0p1a_iodod_iodod (x9398.1, x9398.2.1, x9398.2.2) xa l7939 l7941 xb l7943 l7945).bind fun (t9409, l9410, l9411, l9412, l9413) => cond (!(t9409 == t8960)) (some (.inr ((.inr (false))))) ((fn_law05_tells_p0ai_iodod (((i8961, l8962), t8966)) xd xa l9410 l9411).bind fun (t9424, l9425, l9426) => cond (!t9424) (some (.inr ((.inr (false))))) ((getI xc i7938).bind fun x9433 => (fn_law05_tells_p0ai_iodod (((i8967, l8968), t8972)) x9433.2.1 xb l9412 l9413).bind fun (t9444, l9445, l9446) => cond (!t9444) (some (.inr ((.inr (false))))) (some (.inl ((IntKind.wrap .i64 (i7938 + 1), l9425, l9426, l9445, l9446, i8961, l8962, t8966, i8967, l8968, t8972))))))) (some (.inr ((.inl ()))))
noncomputable def fn_law05_MixedPlays (xa : Int) (xb : Int) (xc : (List (Int × Int × Int))) (xd : Int) : Option Bool :=
  cond ((((decide (30 < (((xc.length : Nat) : Int)))) || ((decide (200 < xa)) && (decide (xa ≤ 1048576)))) || (decide (xb < 0))) || (decide (200 < xb))) ((fn_law05_awake).bind fun t4743 => some (t4743)) ((fn_mixed_New xa).bind fun o => match o with | .inl i4749 => ((fn_mixed_New xb).bind fun o => match o with | .inl i4755 => cond (decide (xa < 0)) ((cond (decide (i4749 = 2)) ((fn_law05_awake).bind fun t4771 => some (t4771)) (some (false))).bind fun t4767 => some (t4767)) (cond (decide (1048576 < xa)) ((cond (decide (i4749 = 5)) ((fn_law05_awake).bind fun t4787 => some (t4787)) (some (false))).bind fun t4783 => some (t4783)) (some (false))) | .inr (i4791, l4792) => cond (decide (xa < 0)) ((cond (decide (i4749 = 2)) ((fn_law05_awake).bind fun t4825 => some (t4825)) (some (false))).bind fun t4821 => some (t4821)) (cond (decide (1048576 < xa)) ((cond (decide (i4749 = 5)) ((fn_law05_awake).bind fun t4856 => some (t4856)) (some (false))).bind fun t4852 => some (t4852)) (some (false)))) | .inr (i4860, l4861) => (fn_mixed_New xb).bind fun o => match o with | .inl i4882 => cond (decide (xa < 0)) (some (false)) (cond (decide (1048576 < xa)) (some (false)) (some (false))) | .inr (i4888, l4889) => cond (decide (xa < 0)) (some (false)) (cond (decide (1048576 < xa)) (some (false)) (cond ((!decide (i4860 = 0)) || (!decide (i4888 = 0))) (some (false)) ((loop (fn_law05_MixedPlays_l1 xa xb xc xd) (0, l4861, none, l4889, none, xa, [], false, xb, [], false) : Option (Unit ⊕ Bool)).bind fun o => match o with | .inr r => some r | .inl () => (fn_law05_awake).bind fun t9456 => some (t9456)))))
noncomputable def h_law05_MixedPlays : Hn Tryd.prog := .gp 6 (.wt 30 (.gp 2 (.wt 34 (.gp 2 (.tw 37 (.cl ok_law05_awake [] (.nil)) (.ms 40 (.c2 ok_mixed_New [] (.ms 45 (.c2 ok_mixed_New [] (.tw 50 (.wt 57 (.gj 1 ⟨[(59, .dat .bool)], []⟩ [] (.two 57 (.cl ok_law05_awake [] (.nil)) (.nil)) (.nil))) (.tw 61 (.wt 68 (.gj 1 ⟨[(70, .dat .bool)], []⟩ [] (.two 68 (.cl ok_law05_awake [] (.nil)) (.nil)) (.nil))) (.nil))) (.tw 50 (.wt 57 (.gj 1 ⟨[(59, .dat .bool)], []⟩ [] (.two 57 (.cl ok_law05_awake [] (.nil)) (.nil)) (.nil))) (.tw 61 (.wt 68 (.gj 1 ⟨[(70, .dat .bool)], []⟩ [] (.two 68 (.cl ok_law05_awake [] (.nil)) (.nil)) (.nil))) (.nil))))) (.ms 45 (.c2 ok_mixed_New [] (.tw 50 (.nil) (.tw 61 (.nil) (.nil))) (.tw 50 (.nil) (.tw 61 (.nil) (.wt 81 (.gp 2 (.tw 84 (.nil) (.jx [] ⟨[], []⟩ [12, 10, 6, 7, 1, 2] (.lp ⟨[(15, .dat (.int .i64))], [⟨(some 1), 53, [.is 4 (.any), .od (.box 70 (.one (.row 3 (.dat (.int .i64))))), .od (.box 62 (.cons (.dat (.int .i64)) (.one (.row 63 (.dat (.int .u64))))))], false, false, none, false⟩, ⟨(some 6), 53, [.is 5 (.any), .od (.box 70 (.one (.row 3 (.dat (.int .i64))))), .od (.box 62 (.cons (.dat (.int .i64)) (.one (.row 63 (.dat (.int .u64))))))], false, false, none, false⟩, ⟨(some 10), 32, [.dat (.int .i64), .dat (.sl (.int .i64)), .dat .bool], false, false, none, false⟩, ⟨(some 12), 32, [.dat (.int .i64), .dat (.sl (.int .i64)), .dat .bool], false, false, none, false⟩, ⟨(some 0), 0, [], false, true, none, false⟩, ⟨(some 5), 0, [], false, true, none, false⟩]⟩ (.tw 94 (.tr (.still [0, 1, 2, 3, 4, 5] (.alt 6 (.still [7, 8, 9, 10] (.alt 11 (.alt 12 (.alt 13 (.alt 14 (.leaf [15]) .done) .done) .done) (.alt 12 (.alt 11 (.alt 13 (.alt 14 (.leaf [15]) .done) .done) .done) .done))) (.alt 11 (.alt 6 (.still [7, 8, 9, 10] (.alt 12 (.alt 13 (.alt 14 (.leaf [15]) .done) .done) .done)) (.alt 12 (.alt 6 (.still [7, 8, 9, 10] (.alt 13 (.alt 14 (.leaf [15]) .done) .done)) .done) .done)) (.alt 12 (.alt 6 (.still [7, 8, 9, 10] (.alt 11 (.alt 13 (.alt 14 (.leaf [15]) .done) .done) .done)) (.alt 11 (.alt 6 (.still [7, 8, 9, 10] (.alt 13 (.alt 14 (.leaf [15]) .done) .done)) .done) .done)) .done)))) ⟨[(16, .ptr 0 0), (17, .ptr 1 0), (18, .dat .bool)], [⟨none, 32, [.dat (.int .i64), .dat (.sl (.int .i64)), .dat .bool], false, false, none, false⟩, ⟨none, 32, [.dat (.int .i64), .dat (.sl (.int .i64)), .dat .bool], false, false, none, false⟩]⟩ [] (.two 0 (.cl ok_ref05_Do [] (.two 0 (.nil) (.nil))) (.two 0 (.two 0 (.cl ok_ref05_Do [] (.nil)) (.cl ok_ref05_Do [] (.nil))) (.two 0 (.cl ok_ref05_Do [] (.nil)) (.cl ok_ref05_Do [] (.nil))))) (.mix [([0, 1, 2, 3, 4, 5, 7], 6), ([8, 9, 10, 11, 12], 13)] [14, 15, 16, 17, 18, 19, 20, 21, 22, 23] [24, 25, 26] [1, 6, 16, 18, 21, 23] (.cl ok_law05_does_p0p1a_iodod_iodod [] (.two 119 (.nil) (.cl ok_law05_tells_p0ai_iodod [] (.two 126 (.nil) (.cl ok_law05_tells_p0ai_iodod [] (.tw 136 (.nil) (.nil))))))))) (.nil))) (.cl ok_law05_awake [] (.nil)))))))))))))))))
noncomputable def sp_law05_MixedPlays : Spec := ⟨3, ⟨[(0, .dat (.int .i64)), (1, .dat (.int .i64)), (2, .dat (.sl (.cons (.int .i64) (.cons (.int .i64) (.one (.int .i64)))))), (3, .dat (.int .i64))], []⟩, [⟨[(0, .dat .bool)], []⟩], fun x => fn_law05_MixedPlays x.1 x.2.1 x.2.2.1 x.2.2.2⟩
theorem law05_MixedPlays_is : SpecOk Tryd.prog sp_law05_MixedPlays := fn_is Tryd.func3 h_law05_MixedPlays (by kernel_rfl) (by kernel_rfl)
noncomputable def ok_law05_MixedPlays : OkSpec Tryd.prog := ⟨sp_law05_MixedPlays, law05_MixedPlays_is, Tryd.call3⟩
noncomputable def fn_dense_Set_List_p0_ir_l1 (qa0 : Int) (l179 : (List Int)) : (Int × (List Int)) → Option ((Int × (List Int)) ⊕ (List Int)) := fun ((i295, l296) : (Int × (List Int))) => cond (decide (0 ≤ i295)) ((app l296 ([i295] : List Int)).bind fun z329 => (fn_dense_Set_Next (some (qa0, l179)) (IntKind.wrap .i64 (i295 + 1))).bind fun i337 => some (.inl (i337, z329))) (some (.inr (l296)))
noncomputable def fn_dense_Set_List_p0_ir (qa0 : Int) (qa1 : (List Int)) : Option (((List Int) × (List Int))) :=
  (fn_dense_Set_All_p0_ir qa0 qa1).bind fun l179 => (fn_dense_Set_Next (some (qa0, l179)) 0).bind fun i192 => (loop (fn_dense_Set_List_p0_ir_l1 qa0 l179) (i192, []) : Option (List Int)).bind fun l266 => some ((l266, l179))
noncomputable def h_dense_Set_List_p0_ir : Hn Tryd.prog := .cl ok_dense_Set_All_p0_ir [] (.rg ⟨52, _, Tryd.func52, Tryd.call52⟩ (.cl ok_dense_Set_Next [11, 0] (.jn [] ⟨[], [⟨(some 5), 28, [.own 3 (.int .i64)], false, false, none, false⟩, ⟨(some 15), 0, [], false, false, none, true⟩]⟩ [15, 5] (.lp ⟨[(3, .dat (.int .i64))], [⟨(some 5), 28, [.own 3 (.int .i64)], false, false, none, false⟩, ⟨(some 15), 0, [], false, false, none, true⟩]⟩ (.tw 7 (.yl 2 (.cl ok_dense_Set_Next [11, 0] (.nil))) (.nil))) (.nil))))
noncomputable def sp_dense_Set_List_p0_ir : Spec := ⟨20, ⟨[(0, .ptr 0 0)], [⟨none, 62, [.is 1 (.dat (.int .i64)), .own 63 (.int .u64)], false, false, none, false⟩, ⟨none, 0, [], false, true, none, false⟩]⟩, [⟨[(0, .own 3 (.int .i64))], [⟨(some 0), 62, [.is 1 (.any), .own 63 (.int .u64)], false, false, none, false⟩, ⟨(some 1), 0, [], false, true, none, false⟩]⟩], fun x => fn_dense_Set_List_p0_ir x.1 x.2⟩
theorem dense_Set_List_p0_ir_is : SpecOk Tryd.prog sp_dense_Set_List_p0_ir := fn_is Tryd.func20 h_dense_Set_List_p0_ir (by kernel_rfl) (by kernel_rfl)
noncomputable def ok_dense_Set_List_p0_ir : OkSpec Tryd.prog := ⟨sp_dense_Set_List_p0_ir, dense_Set_List_p0_ir_is, Tryd.call20⟩

noncomputable def fn_mixed_Set_Or_zp0_iodod (qa0 : Int) (qa1 : (Option (List Int))) (qa2 : (Option (Int × (List Int)))) : Option ((Bool × (Option (List Int)) × (Option (Int × (List Int))))) :=
  some ((false, qa1, qa2))
noncomputable def h_mixed_Set_Or_zp0_iodod : Hn Tryd.prog := .mix [] [0, 1, 2, 3, 4, 5, 6, 7, 8, 9, 10, 11, 12, 13, 14, 15, 16] [] [] (.nil)
noncomputable def sp_mixed_Set_Or_zp0_iodod : Spec := ⟨22, ⟨[(0, .nilp), (1, .ptr 0 0)], [⟨none, 53, [.is 1 (.dat (.int .i64)), .od (.box 70 (.one (.row 3 (.dat (.int .i64))))), .od (.box 62 (.cons (.dat (.int .i64)) (.one (.row 63 (.dat (.int .u64))))))], false, false, none, false⟩, ⟨none, 0, [], false, true, none, false⟩]⟩, [⟨[(0, .dat .bool)], [⟨(some 0), 53, [.is 1 (.any), .od (.box 70 (.one (.row 3 (.dat (.int .i64))))), .od (.box 62 (.cons (.dat (.int .i64)) (.one (.row 63 (.dat (.int .u64))))))], false, false, none, false⟩, ⟨(some 1), 0, [], false, true, none, false⟩]⟩], fun x => fn_mixed_Set_Or_zp0_iodod x.1 x.2.1 x.2.2⟩
theorem mixed_Set_Or_zp0_iodod_is : SpecOk Tryd.prog sp_mixed_Set_Or_zp0_iodod := fn_is Tryd.func22 h_mixed_Set_Or_zp0_iodod (by kernel_rfl) (by kernel_rfl)
noncomputable def ok_mixed_Set_Or_zp0_iodod : OkSpec Tryd.prog := ⟨sp_mixed_Set_Or_zp0_iodod, mixed_Set_Or_zp0_iodod_is, Tryd.call22⟩

noncomputable def fn_mixed_Set_Or_p0z_iodod (qa0 : Int) (qa1 : (Option (List Int))) (qa2 : (Option (Int × (List Int)))) : Option ((Bool × (Option (List Int)) × (Option (Int × (List Int))))) :=
  some ((false, qa1, qa2))
noncomputable def h_mixed_Set_Or_p0z_iodod : Hn Tryd.prog := .mix [] [0, 1, 2, 3, 4, 5, 6, 7, 8, 9, 10, 11, 12, 13, 14, 15, 16] [] [] (.nil)
noncomputable def sp_mixed_Set_Or_p0z_iodod : Spec := ⟨22, ⟨[(0, .ptr 0 0), (1, .nilp)], [⟨none, 53, [.is 1 (.dat (.int .i64)), .od (.box 70 (.one (.row 3 (.dat (.int .i64))))), .od (.box 62 (.cons (.dat (.int .i64)) (.one (.row 63 (.dat (.int .u64))))))], false, false, none, false⟩, ⟨none, 0, [], false, true, none, false⟩]⟩, [⟨[(0, .dat .bool)], [⟨(some 0), 53, [.is 1 (.any), .od (.box 70 (.one (.row 3 (.dat (.int .i64))))), .od (.box 62 (.cons (.dat (.int .i64)) (.one (.row 63 (.dat (.int .u64))))))], false, false, none, false⟩, ⟨(some 1), 0, [], false, true, none, false⟩]⟩], fun x => fn_mixed_Set_Or_p0z_iodod x.1 x.2.1 x.2.2⟩
theorem mixed_Set_Or_p0z_iodod_is : SpecOk Tryd.prog sp_mixed_Set_Or_p0z_iodod := fn_is Tryd.func22 h_mixed_Set_Or_p0z_iodod (by kernel_rfl) (by kernel_rfl)
noncomputable def ok_mixed_Set_Or_p0z_iodod : OkSpec Tryd.prog := ⟨sp_mixed_Set_Or_p0z_iodod, mixed_Set_Or_p0z_iodod_is, Tryd.call22⟩

noncomputable def fn_mixed_Set_All_z  : Option Unit :=
  some (())
noncomputable def h_mixed_Set_All_z : Hn Tryd.prog := .nil
noncomputable def sp_mixed_Set_All_z : Spec := ⟨37, ⟨[(0, .nilp)], []⟩, [⟨[(0, .fn 50 [.ptr 0 0])], [⟨none, 24, [.nilp], false, false, none, false⟩]⟩], fun x => fn_mixed_Set_All_z⟩
theorem mixed_Set_All_z_is : SpecOk Tryd.prog sp_mixed_Set_All_z := fn_is Tryd.func37 h_mixed_Set_All_z (by kernel_rfl) (by kernel_rfl)
noncomputable def ok_mixed_Set_All_z : OkSpec Tryd.prog := ⟨sp_mixed_Set_All_z, mixed_Set_All_z_is, Tryd.call37⟩

noncomputable def fn_mixed_Set_kind_z  : Option (List Int) :=
  (fn_mixed_Set_Dense ((none : (Option (Int × (Option (List Int)) × (Option (Int × (List Int)))))))).bind fun t40 => cond (t40) (none) ((fn_sparse_Of ([])).bind fun l47 => (fn_sparse_Set_All_p0_r l47).bind fun l58 => some (l58))
noncomputable def h_mixed_Set_kind_z : Hn Tryd.prog := .cl ok_mixed_Set_Dense [] (.tw 4 (.nil) (.cl ok_sparse_Of [] (.cl ok_sparse_Set_All_p0_r [] (.nil))))
noncomputable def sp_mixed_Set_kind_z : Spec := ⟨51, ⟨[(0, .nilp)], []⟩, [⟨[(0, .fn 54 [.ptr 0 0])], [⟨none, 50, [.ptr 1 0], false, false, none, false⟩, ⟨none, 70, [.own 3 (.int .i64)], false, false, none, false⟩]⟩], fun x => fn_mixed_Set_kind_z⟩
theorem mixed_Set_kind_z_is : SpecOk Tryd.prog sp_mixed_Set_kind_z := fn_is Tryd.func51 h_mixed_Set_kind_z (by kernel_rfl) (by kernel_rfl)
noncomputable def ok_mixed_Set_kind_z : OkSpec Tryd.prog := ⟨sp_mixed_Set_kind_z, mixed_Set_kind_z_is, Tryd.call51⟩
noncomputable def fn_mixed_Set_List_z_l1 (l473 : (List Int)) : (Int × Bool × (List Int)) → Option ((Int × Bool × (List Int)) ⊕ (List Int)) := fun ((i778, t779, l780) : (Int × Bool × (List Int))) => cond (t779) ((app l780 ([i778] : List Int)).bind fun z860 => (fn_sparse_Set_Rank (some l473) (IntKind.wrap .i64 (i778 + 1))).bind fun i907 => (fn_sparse_Set_At (some l473) i907).bind fun (i913, t914) => some (.inl (i913, t914, z860))) (some (.inr (l780)))
noncomputable def fn_mixed_Set_List_z  : Option (List Int) :=
  (fn_mixed_Set_All_z).bind fun _ => (fn_mixed_Set_kind_z).bind fun l473 => (fn_sparse_Set_At (some l473) 0).bind fun (i486, t487) => (loop (fn_mixed_Set_List_z_l1 l473) (i486, t487, []) : Option (List Int)).bind fun l702 => some (l702)
noncomputable def h_mixed_Set_List_z : Hn Tryd.prog := .cl ok_mixed_Set_All_z [] (.rg ⟨50, _, Tryd.func50, Tryd.call50⟩ (.cl ok_mixed_Set_kind_z [] (.rg ⟨54, _, Tryd.func54, Tryd.call54⟩ (.cl ok_sparse_Set_At [10, 8] (.jn [] ⟨[], [⟨(some 0), 28, [.own 3 (.int .i64)], false, false, none, false⟩, ⟨(some 4), 0, [], false, false, none, true⟩, ⟨(some 13), 0, [], false, false, none, true⟩]⟩ [13, 4, 0] (.lp ⟨[(3, .dat (.int .i64)), (4, .dat .bool)], [⟨(some 0), 28, [.own 3 (.int .i64)], false, false, none, false⟩, ⟨(some 4), 0, [], false, false, none, true⟩, ⟨(some 13), 0, [], false, false, none, true⟩]⟩ (.tw 10 (.yl 2 (.pl (.yl 2 (.mix [([0, 1, 2, 3], 4), ([], 5)] [6, 7, 8, 9, 10] [] [] (.cl ok_sparse_Set_Rank [10, 8] (.cl ok_sparse_Set_At [10, 8] (.nil))))))) (.nil))) (.nil))))))
noncomputable def sp_mixed_Set_List_z : Spec := ⟨19, ⟨[(0, .nilp)], []⟩, [⟨[(0, .own 3 (.int .i64))], []⟩], fun x => fn_mixed_Set_List_z⟩
theorem mixed_Set_List_z_is : SpecOk Tryd.prog sp_mixed_Set_List_z := fn_is Tryd.func19 h_mixed_Set_List_z (by kernel_rfl) (by kernel_rfl)
noncomputable def ok_mixed_Set_List_z : OkSpec Tryd.prog := ⟨sp_mixed_Set_List_z, mixed_Set_List_z_is, Tryd.call19⟩
noncomputable def fn_law05_MixedSame_l1 (xa : Int) (xb : (List Int)) : (Int × (Option (List Int)) × (Option (Int × (List Int))) × (List Int)) → Option ((Int × (Option (List Int)) × (Option (Int × (List Int))) × (List Int)) ⊕ (((Option (List Int)) × (Option (Int × (List Int))) × (List Int)) ⊕ Bool)) := fun ((i4759, l4760, l4762, l4764) : (Int × (Option (List Int)) × (Option (Int × (List Int))) × (List Int))) => cond (decide (i4759 < (((xb.length : Nat) : Int)))) ((getI xb i4759).bind fun x5503 => (getI xb i4759).bind fun x5512 => (fn_mixed_Set_Add_p0i_iodod x5503 xa l4760 l4762).bind fun (t5523, l5524, l5525) => (fn_dense_Set_Add_p0i_ir x5512 xa l4764).bind fun (t5533, l5534) => cond (!(t5523 == t5533)) (some (.inr ((.inr (false))))) ((fn_mixed_Set_Len (some (xa, l5524, l5525))).bind fun i5546 => (fn_dense_Set_Count (some (xa, l5534))).bind fun i5552 => cond (!decide (i5546 = i5552)) (some (.inr ((.inr (false))))) ((getI xb i4759).bind fun x5557 => (getI xb i4759).bind fun x5566 => (fn_mixed_Set_Has (some (xa, l5524, l5525)) x5557).bind fun t5577 => (fn_dense_Set_Has (some (xa, l5534)) x5566).bind fun t5583 => cond (!(t5577 == t5583)) (some (.inr ((.inr (false))))) (some (.inl ((IntKind.wrap .i64 (i4759 + 1), l5524, l5525, l5534))))))) (some (.inr ((.inl (l4760, l4762, l4764)))))
noncomputable def fn_law05_MixedSame (xa : Int) (xb : (List Int)) : Option Bool :=
  cond (((decide (40 < (((xb.length : Nat) : Int)))) || (decide (xa < 0))) || (decide (200 < xa))) ((fn_law05_awake).bind fun t3021 => some (t3021)) ((fn_mixed_New xa).bind fun o => match o with | .inl i3027 => ((fn_dense_New xa).bind fun o => match o with | .inl i3033 => some (false) | .inr (i3037, l3038) => some (false)) | .inr (i3047, l3048) => (fn_dense_New xa).bind fun o => match o with | .inl i3072 => some (false) | .inr (i3076, l3077) => cond ((!decide (i3047 = 0)) || (!decide (i3076 = 0))) (some (false)) ((loop (fn_law05_MixedSame_l1 xa xb) (0, l3048, none, l3077) : Option (((Option (List Int)) × (Option (Int × (List Int))) × (List Int)) ⊕ Bool)).bind fun o => match o with | .inr r => some r | .inl (l4336, l4338, l4340) => (fn_mixed_Set_Fill_zii 0 5).bind fun _ => (fn_mixed_Set_List_p0_iodod xa l4336 l4338).bind fun (l5814, l5815, l5816) => (fn_dense_Set_List_p0_ir xa l4340).bind fun (l5828, l5829) => (fn_ref01_Same l5814 l5828).bind fun t5850 => (cond (t5850) ((fn_mixed_Set_Size ((none : (Option (Int × (Option (List Int)) × (Option (Int × (List Int)))))))).bind fun i5865 => some (decide (i5865 = 0))) (some (false))).bind fun t5861 => (cond (t5861) ((fn_mixed_Set_Add_zi 1).bind fun t5880 => some (!t5880)) (some (false))).bind fun t5876 => cond (t5876) ((fn_mixed_Set_Or_zp0_iodod xa l5815 l5816).bind fun (t5898, l5899, l5900) => cond (!t5898) ((fn_mixed_Set_Or_p0z_iodod xa l5899 l5900).bind fun (t5920, l5921, l5922) => (cond (!t5920) ((fn_mixed_Set_Len ((none : (Option (Int × (Option (List Int)) × (Option (Int × (List Int)))))))).bind fun i5939 => some (decide (i5939 = 0))) (some (false))).bind fun t5935 => (cond (t5935) ((fn_mixed_Set_Dense ((none : (Option (Int × (Option (List Int)) × (Option (Int × (List Int)))))))).bind fun t5954 => some (!t5954)) (some (false))).bind fun t5950 => (cond (t5950) ((fn_mixed_Set_Words ((none : (Option (Int × (Option (List Int)) × (Option (Int × (List Int)))))))).bind fun i5969 => some (decide (i5969 = 0))) (some (false))).bind fun t5965 => (cond (t5965) ((fn_mixed_Set_Has ((none : (Option (Int × (Option (List Int)) × (Option (Int × (List Int))))))) 0).bind fun t5984 => some (!t5984)) (some (false))).bind fun t5980 => (cond (t5980) ((fn_mixed_Set_List_z).bind fun l6003 => some (decide ((((l6003.length : Nat) : Int)) = 0))) (some (false))).bind fun t5999 => (cond (t5999) ((fn_law05_awake).bind fun t6022 => some (t6022)) (some (false))).bind fun t6018 => some (t6018)) (some (false))) (some (false))))
noncomputable def h_law05_MixedSame : Hn Tryd.prog := .gp 2 (.wt 18 (.gp 2 (.tw 21 (.cl ok_law05_awake [] (.nil)) (.ms 24 (.c2 ok_mixed_New [] (.ms 29 (.c2 ok_dense_New [] (.nil) (.nil))) (.ms 29 (.c2 ok_dense_New [] (.nil) (.wt 43 (.gp 2 (.tw 46 (.nil) (.jx [] ⟨[], [⟨(some 1), 53, [.is 2 (.any), .od (.box 70 (.one (.row 3 (.dat (.int .i64))))), .od (.box 62 (.cons (.dat (.int .i64)) (.one (.row 63 (.dat (.int .u64))))))], false, false, none, false⟩, ⟨(some 6), 62, [.is 3 (.any), .own 63 (.int .u64)], false, false, none, false⟩, ⟨(some 0), 0, [], false, true, none, false⟩, ⟨(some 5), 0, [], false, true, none, false⟩]⟩ [7, 6, 1, 2] (.lp ⟨[(9, .dat (.int .i64))], [⟨(some 1), 53, [.is 2 (.any), .od (.box 70 (.one (.row 3 (.dat (.int .i64))))), .od (.box 62 (.cons (.dat (.int .i64)) (.one (.row 63 (.dat (.int .u64))))))], false, false, none, false⟩, ⟨(some 6), 62, [.is 3 (.any), .own 63 (.int .u64)], false, false, none, false⟩, ⟨(some 0), 0, [], false, true, none, false⟩, ⟨(some 5), 0, [], false, true, none, false⟩]⟩ (.tw 50 (.mix [([0, 1, 2, 3, 4, 6, 7, 8, 9, 10], 5), ([], 11), ([12, 13, 14, 16], 15), ([], 17), ([18, 19, 20, 21, 22, 23, 24, 25, 27, 28, 29, 30, 31], 26)] [] [32, 33, 34] [1, 6, 15, 10, 12] (.cl ok_mixed_Set_Add_p0i_iodod [] (.cl ok_dense_Set_Add_p0i_ir [] (.two 66 (.nil) (.cl ok_mixed_Set_Len [23, 25, 1] (.cl ok_dense_Set_Count [31, 6] (.two 73 (.nil) (.cl ok_mixed_Set_Has [23, 25, 1] (.cl ok_dense_Set_Has [31, 6] (.tw 87 (.nil) (.nil))))))))))) (.nil))) (.cl ok_mixed_Set_Fill_zii [] (.cl ok_mixed_Set_List_p0_iodod [] (.cl ok_dense_Set_List_p0_ir [] (.cl ok_ref01_Same [23, 33] (.gj 3 ⟨[(99, .dat .bool)], []⟩ [] (.two 95 (.cl ok_mixed_Set_Size [] (.nil)) (.nil)) (.wt 100 (.gj 3 ⟨[(104, .dat .bool)], []⟩ [] (.two 100 (.cl ok_mixed_Set_Add_zi [] (.nil)) (.nil)) (.two 105 (.cl ok_mixed_Set_Or_zp0_iodod [] (.two 111 (.cl ok_mixed_Set_Or_p0z_iodod [] (.wt 117 (.gj 3 ⟨[(121, .dat .bool)], []⟩ [] (.two 117 (.cl ok_mixed_Set_Len [] (.nil)) (.nil)) (.wt 122 (.gj 3 ⟨[(126, .dat .bool)], []⟩ [] (.two 122 (.cl ok_mixed_Set_Dense [] (.nil)) (.nil)) (.wt 127 (.gj 3 ⟨[(131, .dat .bool)], []⟩ [] (.two 127 (.cl ok_mixed_Set_Words [] (.nil)) (.nil)) (.wt 132 (.gj 3 ⟨[(136, .dat .bool)], []⟩ [] (.two 132 (.cl ok_mixed_Set_Has [] (.nil)) (.nil)) (.wt 137 (.gj 4 ⟨[(142, .dat .bool)], []⟩ [] (.two 137 (.cl ok_mixed_Set_List_z [] (.nil)) (.nil)) (.wt 143 (.gj 1 ⟨[(145, .dat .bool)], []⟩ [] (.two 143 (.cl ok_law05_awake [] (.nil)) (.nil)) (.nil)))))))))))))) (.nil))) (.nil))))))))))))))))))))
noncomputable def sp_law05_MixedSame : Spec := ⟨4, ⟨[(0, .dat (.int .i64)), (1, .dat (.sl (.int .i64)))], []⟩, [⟨[(0, .dat .bool)], []⟩], fun x => fn_law05_MixedSame x.1 x.2⟩
theorem law05_MixedSame_is : SpecOk Tryd.prog sp_law05_MixedSame := fn_is Tryd.func4 h_law05_MixedSame (by kernel_rfl) (by kernel_rfl)
noncomputable def ok_law05_MixedSame : OkSpec Tryd.prog := ⟨sp_law05_MixedSame, law05_MixedSame_is, Tryd.call4⟩
end Go.Proofs.YtfdkbceponodmaaDoor

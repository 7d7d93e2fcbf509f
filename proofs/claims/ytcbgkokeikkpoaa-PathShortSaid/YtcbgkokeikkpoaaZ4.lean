/- A part of the proof: what lies ahead of the law. Nothing is claimed here. -/
import Derived.Test.YtcbgkokeikkpoaaZ3
import Derived.Shelf.Small.Bits
import Derived.Shelf.Small.Wraps
import Derived.Shelf.Strconv.Itoa0
import Derived.Shelf.Sort.Plain
import Derived.Shelf.Bits.Mul64
import Derived.Ground.Names2Prog
import Derived.Shelf.Slices.Clone
import Derived.Shelf.Slices.SearchI
import Derived.Shelf.Slices.In.SortNone
import Derived.Test.YtcbgkokeikkpoaaProg
import Derived.Sort.OwnSortedInts
import Derived.Test.YtcbgkokeikkpoaaRows
import Derived.Lib.RowBridge
namespace Go.Proofs.Ytcbgkokeikkpoaa
open Go.RowKit
set_option linter.unusedVariables false
set_option linter.unusedSimpArgs false
set_option linter.unnecessarySimpa false
set_option linter.unusedSectionVars false
variable [BldA]
/-! ### The end of a function. -/
def resS (P : Program) (n : Nat) (σ : Zt) : List ResultVar → Option (List SV)
  | [] => some []
  | .tmp t :: r => (match resS P n σ r with | some vs => some (σ.ev n (.tmp t) :: vs) | none => none)
  | .cell a ty :: r => (match σ.ev n (.tmp a) with
    | .ptr i o => (match findR (HA.blkR i) (σ.H ++ σ.Hf) with
      | some q => (match ldv P ty q.cs o, resS P n σ r with | some v, some vs => some (v :: vs) | _, _ => none)
      | none => none)
    | _ => none)
def resV : List SV → SV
  | [v] => v
  | vs => .tup vs
def finO (σ : Zt) (rs : List SV) (o : Sh) : Option (TL o.ts) := bif (match rs, o.sl with | [], [] => true | _ :: _, [p] => Nat.beq p.1 0 | _, _ => false) then (match o.get (fun _ => resV rs) σ.H with | some g => TL.of o.ts g.ds | none => none) else none
def finD {P : Program} (σ : Zt) (rs : List SV) : (os : List Sh) → Hn P → Option (OutT os)
  | [a], _ => finO σ rs a
  | [a, b], h => (match h with | .pl _ => (finO σ rs b).map Sum.inr | _ => (finO σ rs a).map Sum.inl)
  | _, _ => none
def finF {P : Program} (n : Nat) (fn : Func) (os : List Sh) (h : Hn P) (σ : Zt) : Option (OutT os) := prep h σ fun h σ => match resS P n σ fn.results.toList with | some rs => finD σ rs os h | none => none
def fin {P : Program} (n : Nat) (fn : Func) (os : List Sh) (e : Exit) (h : Hn P) (σ : Zt) : Option (OutT os) := match e with
  | .normal => finF n fn os h σ
  | .ret => finF n fn os h σ
  | _ => none
/-- What a function computes, out of its code. -/
noncomputable def runF {P : Program} (n : Nat) (fn : Func) (c : Code) (inn : Sh) (os : List Sh) (h : Hn P) (x : TL inn.ts) : Option (OutT os) := match inn.un (TL.list inn.ts x) 0 with
  | some (vs, u) => prep h ⟨fun _ => .any, vs, u.H, [], u.nx, false⟩ fun h σ => exec n c h σ (fin n fn os)
  | none => none
section
variable {P : Program} {E : En} {n : Nat} {m : List M} {K : Hp} {fr : Frz} {σ : Zt} {ρ : Sl0} {w : World}
theorem resS_ok (hr : Rel E fr σ m K ρ w) : ∀ {l : List ResultVar} {rs : List SV}, resS P n σ l = some rs → ∃ us : List Value, SV.relL m K rs us ∧ l.length = us.length ∧ ∀ (j : Nat) (r : ResultVar) (v : Value), l[j]? = some r → us[j]? = some v → RvOk P n (Hold E K (σ.atoms fr m)) ρ r v
  | [], rs, h => by cases h; exact ⟨[], rfl, rfl, fun j r v h => by simp at h⟩
  | .tmp t :: l, rs, h => by
    unfold resS at h
    split at h
    · rename_i vs hvs
      cases h
      obtain ⟨us, h1, h2, h3⟩ := resS_ok hr hvs
      refine ⟨ev n ρ (.tmp t) :: us, ⟨_, us, rfl, hr.toPur.ev n (.tmp t), h1⟩, by simp [h2], fun j r v hj hv => ?_⟩
      cases j with
      | zero => simp at hj hv; subst hj hv; rfl
      | succ j => exact h3 j r v (by simpa using hj) (by simpa using hv)
    · cases h
  | .cell a ty :: l, rs, h => by
    unfold resS at h
    split at h
    · rename_i i o e
      split at h
      · rename_i q hq
        split at h
        · rename_i v vs hv hvs
          cases h
          obtain ⟨us, h1, h2, h3⟩ := resS_ok hr hvs
          obtain ⟨x, hx, hmem⟩ := findR_spec hq
          obtain rfl := blkR_eq hx
          obtain ⟨b, ws, g1, g2, g3⟩ := hr.cls.blk hmem
          obtain ⟨u, g4, g5⟩ := ldv_ok (P := P) (o0 := 0) hv g2 (fun j u hu => by rw [Nat.zero_add]; exact g3 j u hu)
          rw [Nat.zero_add] at g4
          have hev := hr.toPur.ev n (.tmp a)
          rw [e] at hev
          obtain ⟨b', q1, q2⟩ := hev
          rw [g1] at q1; cases q1
          refine ⟨u :: us, ⟨_, us, rfl, g5, h1⟩, by simp [h2], fun j r v hj hv => ?_⟩
          cases j with
          | zero => simp at hj hv; subst hj hv; exact ⟨b, o, q2, g4⟩
          | succ j => exact h3 j r v (by simpa using hj) (by simpa using hv)
        · cases h
      · cases h
    · cases h
theorem mapM_run {C : World → Prop} {w : World} (hw : C w) : ∀ {l : List ResultVar} {us : List Value}, l.length = us.length → (∀ (j : Nat) (r : ResultVar) (v : Value), l[j]? = some r → us[j]? = some v → RvOk P n C ρ r v) → (l.mapM (rvS (frm n ρ))).run P w = .ok us w
  | [], us, h, _ => by
    obtain rfl : us = [] := List.length_eq_zero_iff.1 h.symm
    simp
  | r :: l, us, h, hr => by
    cases us with
    | nil => cases h
    | cons u us =>
      have h1 := rv_run (hr 0 r u rfl rfl) hw
      have h2 := mapM_run hw (l := l) (us := us) (by simpa using h) (fun j r v hj hv => hr (j + 1) r v (by simpa using hj) (by simpa using hv))
      simp [List.mapM_cons, h1, h2]
/-- What a function hands back. -/
def tupV : List Value → Value
  | [v] => v
  | vs => .tuple vs.toArray
theorem res_run {C : World → Prop} {w : World} (hw : C w) {fn : Func} {us : List Value} (hl : fn.results.toList.length = us.length) (h : ∀ (j : Nat) (r : ResultVar) (v : Value), fn.results.toList[j]? = some r → us[j]? = some v → RvOk P n C ρ r v) : (results fn (frm n ρ)).run P w = .ok (tupV us) w := by
  have h1 := mapM_run hw hl h
  rw [results_rvS]
  simp only [Array.mapM_eq_mapM_toList]
  simp only [Sem.run_bind, Sem.run_map, h1, Result.andThen_ok, Sem.run_pure]
  match us with
  | [] => rfl
  | [u] => rfl
  | u :: v :: r =>
    rw [dif_neg (by simp)]
    rfl
theorem resV_rel {rs : List SV} {us : List Value} (h : SV.relL m K rs us) (hne : rs ≠ []) : SV.rel m K (resV rs) (tupV us) := by
  match rs, us, h with
  | [], _, _ => exact absurd rfl hne
  | [v], us, h =>
    obtain ⟨u, q, rfl, h1, h2⟩ := relL_cons h
    obtain rfl := relL_nil h2
    exact h1
  | v :: v2 :: r, us, h =>
    obtain ⟨u, q, rfl, h1, h2⟩ := relL_cons h
    obtain ⟨u2, q2, rfl, h3, h4⟩ := relL_cons h2
    exact ⟨_, rfl, u, _, rfl, h1, u2, q2, rfl, h3, h4⟩
theorem finO_ok {rs : List SV} {us : List Value} {o : Sh} {x : TL o.ts} {K0 : Hp} {m0 : List M} (h : finO σ rs o = some x) (hr : Rel E fr σ m K ρ w) (hrel : SV.relL m K rs us) (hm : m0 <+: m) (ho : oldOk o.bl m0.length = true) (hF : σ.Hf = []) :
    ∃ vs' u' m', o.un (TL.list o.ts x) m0.length = some (vs', u') ∧ m0 <+: m' ∧ m'.length = u'.nx ∧ (∀ a ∈ u'.H, HA.ok m' K a) ∧ resR m' K vs' (tupV us) ∧ Sep E K (u'.H.map (HA.conc m') ++ fr.F) w := by
  unfold finO at h
  replace h := bift h; obtain ⟨hs, h⟩ := h
  split at h
  · rename_i g hg
    obtain ⟨vs, u, ms, e1, e2, e3, e4, e5, e6, e7, e8⟩ := Sh.get_un hg hr.okH hm ho
    rw [TL.of_list h]
    refine ⟨vs, u, m0 ++ ms, e1, pre_app _ _, e2, e4, ?_, ?_⟩
    · split at hs
      · rename_i hsl
        rw [hsl] at e3
        obtain rfl : vs = [] := e3
        obtain rfl := relL_nil hrel
        rfl
      · rename_i v r p hsl
        rw [hsl] at e3
        obtain ⟨sv, q, rfl, g1, g2⟩ := e3
        obtain rfl : q = [] := g2
        exact g1 _ (resV_rel hrel (by simp))
      · cases hs
    · have := e6 E _ w hr.toSep
      have h2 : σ.fz fr = fr.F := by unfold Zt.fz; rw [hF]; rfl
      rw [h2] at this
      have h3 : Sep E K (g.H.map (HA.conc m) ++ (u.H.map (HA.conc (m0 ++ ms)) ++ fr.F)) w := Sep.perm (perm3 _ _ _) this
      exact Sep.drops h3
  · cases h
theorem finD_ok {rs : List SV} {us : List Value} {m0 : List M} (hr : Rel E fr σ m K ρ w) (hrel : SV.relL m K rs us) (hm : m0 <+: m) (hF : σ.Hf = []) : ∀ {os : List Sh} {h0 : Hn P} {r : OutT os}, (∀ o ∈ os, oldOk o.bl m0.length = true) → finD σ rs os h0 = some r →
    ∃ vs' u' m', (outSh os r).1.un (outSh os r).2 m0.length = some (vs', u') ∧ m0 <+: m' ∧ m'.length = u'.nx ∧ (∀ a ∈ u'.H, HA.ok m' K a) ∧ resR m' K vs' (tupV us) ∧ Sep E K (u'.H.map (HA.conc m') ++ fr.F) w
  | [], h0, r, _, h => Empty.elim r
  | [a], h0, r, ho, h => finO_ok (K0 := K) (show finO σ rs a = some r from h) hr hrel hm (ho a (by simp)) hF
  | [a, b], h0, r, ho, h => by
    have key : (finO σ rs b).map Sum.inr = some r ∨ (finO σ rs a).map Sum.inl = some r := by
      cases h0 <;> first | exact .inl h | exact .inr h
    clear h
    rcases key with h | h
    · rw [Option.map_eq_some_iff] at h
      obtain ⟨x, h, rfl⟩ := h
      exact finO_ok (K0 := K) h hr hrel hm (ho b (by simp)) hF
    · rw [Option.map_eq_some_iff] at h
      obtain ⟨x, h, rfl⟩ := h
      exact finO_ok (K0 := K) h hr hrel hm (ho a (by simp)) hF
  | a :: b :: c :: os, h0, r, _, h => by cases h
/-- Slots and arguments, one by one. -/
theorem args_look : ∀ {sl : List (Nat × Kd)} {vs : List (Nat × SV)} {us : List Value} {j N : Nat}, slN j sl N = true → vs.map (·.1) = sl.map (·.1) → slR m K vs us → ∀ i sv, look vs i = some sv → ∃ k u, i = j + k ∧ us[k]? = some u ∧ SV.rel m K sv u
  | [], vs, us, j, N, h1, h2, h3, i, sv, hl => by
    have : vs = [] := by cases vs with | nil => rfl | cons a b => cases h2
    subst this; cases hl
  | p :: sl, vs, us, j, N, h1, h2, h3, i, sv, hl => by
    cases vs with
    | nil => cases h2
    | cons q vs =>
      simp only [List.map_cons, List.cons.injEq] at h2
      simp only [slN, Bool.and_eq_true] at h1
      have hj := Nat.eq_of_beq_eq_true h1.1
      obtain ⟨u, r, rfl, g1, g2⟩ := h3
      change (bif Nat.beq q.1 i then some q.2 else look vs i) = some sv at hl
      cases hb : Nat.beq q.1 i with
      | true =>
        rw [hb] at hl; cases hl
        have := Nat.eq_of_beq_eq_true hb
        exact ⟨0, u, by rw [← this, h2.1, hj]; rfl, rfl, g1⟩
      | false =>
        rw [hb] at hl
        obtain ⟨k, u', e1, e2, e3⟩ := args_look h1.2 h2.2 g2 i sv hl
        exact ⟨k + 1, u', by omega, by simpa using e2, e3⟩
theorem unS_keys {bi : List Nat} : ∀ {sl : List (Nat × Kd)} {u u' : Un} {vs : List (Nat × SV)}, unS bi sl u = some (vs, u') → vs.map (·.1) = sl.map (·.1)
  | [], u, u', vs, h => by cases h; rfl
  | p :: sl, u, u', vs, h => by
    unfold unS at h
    split at h
    · split at h
      · rename_i h2
        cases h
        simp [unS_keys h2]
      · cases h
    · cases h
theorem un_keys {s : Sh} {ds : List Dat} {nx : Nat} {vs : List (Nat × SV)} {u : Un} (h : s.un ds nx = some (vs, u)) : vs.map (·.1) = s.sl.map (·.1) := by
  unfold Sh.un at h
  replace h := (bift h).2
  split at h
  split at h
  · rename_i h1
    split at h
    · cases h; exact unS_keys h1
    · cases h
  · cases h
theorem slR_len : ∀ {vs : List (Nat × SV)} {us : List Value}, slR m K vs us → us.length = vs.length
  | [], us, h => by obtain rfl : us = [] := h; rfl
  | p :: vs, us, ⟨u, r, e, _, h⟩ => by subst e; simp [slR_len h]
end
section
variable {P : Program} {n : Nat}
/-- A function answers what is computed of its code. -/
theorem fn_ok {s : Spec} {fn : Func} {c : Code} (hf : P.funcs[s.f]? = some fn) (hb : fn.body = some c) (hn : fn.ntmps = n) (h : Hn P) (hc : (slN 0 s.inn.sl s.inn.sl.length && Nat.ble s.inn.sl.length n) = true) (hold : ∀ ds vs u, s.inn.un ds 0 = some (vs, u) → ∀ o ∈ s.outs, oldOk o.bl u.nx = true)
    (hex : ∀ (x : TL s.inn.ts) r, s.fn x = some r → runF n fn c s.inn s.outs h x = some r) : SpecOk P s := by
  intro x r hx vs u hu m K args hm hok hsl E w F hs
  rw [Bool.and_eq_true] at hc
  obtain ⟨hc1, hc2⟩ := hc
  have hkeys := un_keys hu
  have hlen : args.toArray.size ≤ n := by
    have h1 := slR_len hsl
    have h2 : vs.length = s.inn.sl.length := by have := congrArg List.length hkeys; simpa using this
    simp only [List.size_toArray]
    have := Nat.le_of_ble_eq_true hc2
    omega
  refine calls_of_wp hf hb ?_
  rw [hn, frm_args hlen]
  have hrun := hex x r hx
  unfold runF at hrun
  rw [hu] at hrun
  simp only at hrun
  have hrel : Rel E.out0 ⟨m, K, args0 args.toArray, fun _ => false, F⟩ ⟨fun _ => .any, vs, u.H, [], u.nx, false⟩ m K (args0 args.toArray) w := by
    refine ⟨⟨List.prefix_refl m, Hp.le_refl K, hm, fun e => (by cases e), fun i => trivial, fun i e => rfl, fun i _ => .inr rfl, fun i sv hi => ?_, hok, fun a ha => by simp at ha⟩, ?_⟩
    · obtain ⟨k, v, e1, e2, e3⟩ := args_look hc1 hkeys hsl i sv hi
      have : args0 args.toArray i = v := by
        unfold args0
        rw [e1, Nat.zero_add]
        simp [e2]
      rw [this]; exact e3
    · exact hs.out0
  obtain ⟨hp, σp, mp, Kp, p1, p2, p3⟩ := prep_ok h hrun hrel
  refine wp_mono (wpIn_wide.1 (exec_ok c (OutT s.outs) E.out0 _ hp σp (fin n fn s.outs) r mp Kp _ w
    (fun e a w' => a.defers = [] ∧ (e = .normal ∨ e = .ret) ∧ ∃ v, (results fn a.tmps).run P w' = .ok v w' ∧ ∃ vs' u' m' K', (outSh s.outs r).1.un (outSh s.outs r).2 u.nx = some (vs', u') ∧ m <+: m' ∧ m'.length = u'.nx ∧ (∀ a ∈ u'.H, HA.ok m' K' a) ∧ resR m' K' vs' v ∧ K.le K' ∧ Sep E.out0 K' (u'.H.map (HA.conc m') ++ F) w')
    p1 p3 (fun e h' σ' m' K' ρ' w' h1 h2 h3 => ?_))) ?_
  · have fini : finF n fn s.outs h' σ' = some r → (act n ρ').defers = [] ∧ ∃ v, (results fn (act n ρ').tmps).run P w' = .ok v w' ∧ ∃ vs' u' m' K', (outSh s.outs r).1.un (outSh s.outs r).2 u.nx = some (vs', u') ∧ m <+: m' ∧ m'.length = u'.nx ∧ (∀ a ∈ u'.H, HA.ok m' K' a) ∧ resR m' K' vs' v ∧ K.le K' ∧ Sep E.out0 K' (u'.H.map (HA.conc m') ++ F) w' := fun h3 => by
      refine ⟨rfl, ?_⟩
      unfold finF at h3
      obtain ⟨h'', σ2, m2, K2, g1, g2, g3⟩ := prep_ok h' h3 h1
      split at g1
      · rename_i rs hrs
        obtain ⟨us, q1, q2, q3⟩ := resS_ok g3 hrs
        refine ⟨tupV us, res_run g3.hold q2 q3, ?_⟩
        obtain ⟨vs', u', m'', z1, z2, z3, z4, z5, z6⟩ := finD_ok (m0 := m) g3 q1 g3.hm (((p2.trans h2).trans g2).2) (fun o ho => by rw [hm]; exact hold _ _ _ hu o ho) g1
        rw [hm] at z1
        exact ⟨vs', u', m'', K2, z1, z2, z3, z4, z5, g3.hK, z6⟩
      · cases g1
    cases e with
    | normal => obtain ⟨a1, a2⟩ := fini h3; exact ⟨a1, .inl rfl, a2⟩
    | ret => obtain ⟨a1, a2⟩ := fini h3; exact ⟨a1, .inr rfl, a2⟩
    | _ => cases h3
  · rintro e a w' ⟨hd, he, v, hv, vs', u', m', K', z1, z2, z3, z4, z5, z6, z7⟩
    rcases he with rfl | rfl
    · exact ⟨hd, v, hv, v, K', _, rfl, ⟨vs', u', m', z1, z2, z3, z4, z5, rfl⟩, z6, z7.back⟩
    · exact ⟨hd, v, hv, v, K', _, rfl, ⟨vs', u', m', z1, z2, z3, z4, z5, rfl⟩, z6, z7.back⟩
end
end Go.Proofs.Ytcbgkokeikkpoaa
namespace Go.Proofs.Ytcbgkokeikkpoaa
open Go.RowKit
set_option linter.unusedVariables false
set_option linter.unusedSimpArgs false
set_option linter.unnecessarySimpa false
set_option linter.unusedSectionVars false
variable [BldA]
mutual
theorem un_nx {bi : List Nat} : ∀ (k : Kd) {u u' : Un} {v : SV}, Kd.un bi k u = some (v, u') → u.nx ≤ u'.nx
  | .any, u, u', v, h => by cases h; exact Nat.le_refl _
  | .dat t, u, u', v, h => by unfold Kd.un at h; split at h <;> cases h; exact Nat.le_refl _
  | .nilp, u, u', v, h => by cases h; exact Nat.le_refl _
  | .nils, u, u', v, h => by cases h; exact Nat.le_refl _
  | .nilf, u, u', v, h => by cases h; exact Nat.le_refl _
  | .ptr j o, u, u', v, h => by unfold Kd.un at h; split at h <;> cases h; exact Nat.le_refl _
  | .own e t, u, u', v, h => by unfold Kd.un at h; split at h <;> cases h; exact Nat.le_add_right _ _
  | .al j, u, u', v, h => by unfold Kd.un at h; split at h <;> cases h; exact Nat.le_refl _
  | .fsl j m, u, u', v, h => by unfold Kd.un at h; split at h <;> cases h; exact Nat.le_refl _
  | .agg ks, u, u', v, h => by
    unfold Kd.un at h; split at h
    · cases h; exact unL_nx ks (by assumption)
    · cases h
  | .tup ks, u, u', v, h => by
    unfold Kd.un at h; split at h
    · cases h; exact unL_nx ks (by assumption)
    · cases h
  | .fn f ks, u, u', v, h => by
    unfold Kd.un at h; split at h
    · cases h; exact unL_nx ks (by assumption)
    · cases h
  | .lit w, u, u', v, h => by cases h; exact Nat.le_refl _
  | .od o, u, u', v, h => by
    unfold Kd.un at h
    replace h := (bift h).2
    split at h
    · split at h
      · cases h; exact Nat.le_add_right _ _
      · cases h
    · cases h
  | .rp j, u, u', v, h => by unfold Kd.un at h; split at h <;> cases h; exact Nat.le_refl _
  | .is j k, u, u', v, h => by
    unfold Kd.un at h; split at h
    · split at h
      · cases h; exact un_nx k (by assumption)
      · cases h
    · cases h
theorem unL_nx {bi : List Nat} : ∀ (ks : List Kd) {u u' : Un} {vs : List SV}, Kd.unL bi ks u = some (vs, u') → u.nx ≤ u'.nx
  | [], u, u', vs, h => by cases h; exact Nat.le_refl _
  | k :: ks, u, u', vs, h => by
    unfold Kd.unL at h; split at h
    · rename_i h1
      split at h
      · rename_i h2; cases h; exact Nat.le_trans (un_nx k h1) (unL_nx ks h2)
      · cases h
    · cases h
end
theorem unS_nx {bi : List Nat} : ∀ (sl : List (Nat × Kd)) {u u' : Un} {vs : List (Nat × SV)}, unS bi sl u = some (vs, u') → u.nx ≤ u'.nx
  | [], u, u', vs, h => by cases h; exact Nat.le_refl _
  | p :: sl, u, u', vs, h => by
    unfold unS at h; split at h
    · rename_i h1
      split at h
      · rename_i h2; cases h; exact Nat.le_trans (un_nx p.2 h1) (unS_nx sl h2)
      · cases h
    · cases h
theorem unB_nx {bi : List Nat} : ∀ (bl : List Bk) (is : List Nat) {u u' : Un}, unB bi bl is u = some u' → u.nx ≤ u'.nx
  | [], [], u, u', h => by cases h; exact Nat.le_refl _
  | [], i :: is, u, u', h => by cases h
  | b :: bl, [], u, u', h => by cases h
  | b :: bl, i :: is, u, u', h => by
    unfold unB at h; split at h
    · rename_i u1 h1
      refine Nat.le_trans ?_ (unB_nx bl is h)
      unfold unB1 at h1
      cases hn : b.nu with
      | true => rw [hn] at h1; cases h1; exact Nat.le_refl _
      | false =>
        rw [hn] at h1; simp only [cond_false] at h1
        cases hr : b.rw with
        | some o =>
          rw [hr] at h1
          dsimp only at h1
          split at h1
          · split at h1
            · cases h1; exact Nat.le_succ _
            · cases h1
          · cases h1
        | none =>
        rw [hr] at h1
        dsimp only at h1
        cases hb : b.bu with
        | true =>
          rw [hb] at h1; simp only [cond_true] at h1
          split at h1 <;> cases h1
          exact Nat.le_refl _
        | false =>
          rw [hb] at h1; simp only [cond_false] at h1
          split at h1
          · rename_i h2
            cases h1
            exact Nat.le_trans (unL_nx b.ks h2) (Nat.le_succ _)
          · cases h1
    · cases h
theorem idsB_nx : ∀ (bl : List Bk) (nx : Nat), allOld bl = true → (idsB bl nx).2 = nx + bl.length
  | [], nx, _ => rfl
  | b :: bl, nx, h => by
    simp only [allOld, Bool.and_eq_true] at h
    cases hb : b.old with
    | some i => rw [hb] at h; cases h.1
    | none =>
      simp only [idsB, hb, List.length_cons]
      rw [idsB_nx bl (nx + 1) h.2]
      omega
theorem sh_nx {s : Sh} {ds : List Dat} {vs : List (Nat × SV)} {u : Un} (h : s.un ds 0 = some (vs, u)) (ho : allOld s.bl = true) : s.bl.length ≤ u.nx := by
  unfold Sh.un at h
  replace h := (bift h).2
  have hn := idsB_nx s.bl 0 ho
  split at h
  rename_i bi nx he
  rw [he] at hn
  simp only [Nat.zero_add] at hn
  split at h
  · rename_i h1
    split at h
    · rename_i h2
      cases h
      have := unS_nx s.sl h1
      have := unB_nx s.bl bi h2
      simp only at *
      omega
    · cases h
  · cases h
theorem oldOk_le : ∀ (bl : List Bk) {a b : Nat}, oldOk bl a = true → a ≤ b → oldOk bl b = true
  | [], a, b, h, hab => rfl
  | x :: bl, a, b, h, hab => by
    simp only [oldOk, Bool.and_eq_true] at h ⊢
    refine ⟨?_, oldOk_le bl h.2 hab⟩
    cases ho : x.old with
    | none => rfl
    | some i =>
      have h1 := h.1
      rw [ho] at h1
      simp only [Nat.blt_eq] at h1 ⊢
      omega
def bodyOf (fn : Func) : Code := match fn.body with | some c => c | none => .skip
/-- What is asked of a specification beforehand. -/
def specOk (s : Spec) (fn : Func) : Bool := fn.body.isSome && (slN 0 s.inn.sl s.inn.sl.length && Nat.ble s.inn.sl.length fn.ntmps) && (allOld s.inn.bl && s.outs.all fun o => oldOk o.bl s.inn.bl.length)
/-- A function answers what is computed of its code. -/
theorem fn_is {P : Program} {s : Spec} {fn : Func} (hf : P.funcs[s.f]? = some fn) (h : Hn P) (hc : specOk s fn = true) (hex : (fun x => runF fn.ntmps fn (bodyOf fn) s.inn s.outs h x) = s.fn) : SpecOk P s := by
  unfold specOk at hc
  simp only [Bool.and_eq_true] at hc
  obtain ⟨⟨h1, h2, h2'⟩, h3, h4⟩ := hc
  have hb : fn.body = some (bodyOf fn) := by
    unfold bodyOf
    cases hbd : fn.body with
    | none => rw [hbd] at h1; cases h1
    | some c => rfl
  refine fn_ok hf hb rfl h (by rw [h2, h2']; rfl) (fun ds vs u hu o ho => oldOk_le o.bl (List.all_eq_true.1 h4 o ho) (sh_nx hu h3)) (fun x r hx => ?_)
  rw [← hx]
  exact congrFun hex x
end Go.Proofs.Ytcbgkokeikkpoaa
namespace Go.Proofs.Ytcbgkokeikkpoaa
open Go.RowKit
set_option linter.unusedVariables false
set_option linter.unusedSimpArgs false
set_option linter.unnecessarySimpa false
set_option linter.unusedSectionVars false
/-- What answers true for all that is known of its arguments does so for the caller. -/
theorem walkX [BldA] {P : Program} {s : Spec} {W : World} (hs : SpecOk P s) {x : TL s.inn.ts} {r : OutT s.outs} (hr : s.fn x = some r) {vs : List (Nat × SV)} (hun : s.inn.un (TL.list _ x) 0 = some (vs, ⟨[], 0, [], []⟩))
    (hout : (outSh s.outs r).1.un (outSh s.outs r).2 0 = some ([(0, .bool true)], ⟨[], 0, [], []⟩)) {args : List Value} (hsl : slR [] (Hp.of W) vs args) :
    Calls P s.f args.toArray W fun e W' => e = .returned (.bool true) ∧ Below W.heap.size W W' := by
  have h := hs x r hr vs _ hun [] (Hp.of W) args rfl (fun a ha => by cases ha) hsl (En.of W) W [] (Sep.start W)
  refine h.mono fun e W' h => ?_
  obtain ⟨v, K', L', rfl, ⟨vs', u', m', h1, _, _, _, h2, _⟩, h3, h4⟩ := h
  have h1 := h1.symm.trans hout
  cases h1
  obtain rfl : v = .bool true := h2
  exact ⟨rfl, h4.below h3⟩
end Go.Proofs.Ytcbgkokeikkpoaa
namespace Go.Proofs
open Go.Shelf
def Try.lays128_ren : Go.Shelf.Ren := ⟨fun | 128 => 64 | n => n, fun | 51 => 84 | 3 => 3 | 4 => 4 | 46 => 78 | 5 => 5 | 9 => 9 | n => n, fun | n => n⟩
theorem Try.lays128 : Go.Proofs.Lays.n128 Try.prog Try.lays128_ren := {
  mixed := by kernel_rfl
  f128 := Try.func64.trans (congrArg some (by kernel_rfl))
  t3 := Try.underlying3
  a3 := Try.isAgg3
  z3 := Try.sizeOf3
  v3 := Try.zeroValue3
  t4 := Try.underlying4
  a4 := Try.isAgg4
  z4 := Try.sizeOf4
  v4 := Try.zeroValue4
  t5 := Try.underlying5
  a5 := Try.isAgg5
  z5 := Try.sizeOf5
  v5 := Try.zeroValue5
  t9 := Try.underlying9
  a9 := Try.isAgg9
  z9 := Try.sizeOf9
  v9 := Try.zeroValue9
  t46 := Try.underlying78
  a46 := Try.isAgg78
  z46 := Try.sizeOf78
  v46 := Try.zeroValue78
  t51 := Try.underlying84
  a51 := Try.isAgg84
  z51 := Try.sizeOf84
  v51 := Try.zeroValue84 }
/-- bits.Len32: "Len32 returns the minimum number of bits required to represent x; the result is 0 for x == 0.": IT RETURNS 'Lib.bitLen x'; the world is as it was. ('h0', 'h1': x is a uint32.) (LAID: no walk: one application.) -/
theorem Try.bits_Len32 (x : Int) (w : World) (h0 : 0 ≤ x) (h1 : x ≤ 4294967295) :
    Calls Try.prog 64 #[.int .u32 x] w fun e w' => e = .returned (.int .i64 (Lib.bitLen x.toNat)) ∧ w' = w := Any.bits_Len32 Try.lays128 x w h0 h1
def Try.lays125_ren : Go.Shelf.Ren := ⟨fun | 125 => 52 | 128 => 64 | 129 => 65 | n => n, fun | 46 => 78 | 3 => 3 | 51 => 84 | 53 => 87 | 4 => 4 | 5 => 5 | 9 => 9 | n => n, fun | n => n⟩
theorem Try.lays125 : Go.Proofs.Lays.n125 Try.prog Try.lays125_ren := {
  mixed := by kernel_rfl
  f125 := Try.func52.trans (congrArg some (by kernel_rfl))
  f128 := Try.func64.trans (congrArg some (by kernel_rfl))
  f129 := Try.func65.trans (congrArg some (by kernel_rfl))
  t3 := Try.underlying3
  a3 := Try.isAgg3
  z3 := Try.sizeOf3
  v3 := Try.zeroValue3
  t4 := Try.underlying4
  a4 := Try.isAgg4
  z4 := Try.sizeOf4
  v4 := Try.zeroValue4
  t5 := Try.underlying5
  a5 := Try.isAgg5
  z5 := Try.sizeOf5
  v5 := Try.zeroValue5
  t9 := Try.underlying9
  a9 := Try.isAgg9
  z9 := Try.sizeOf9
  v9 := Try.zeroValue9
  t46 := Try.underlying78
  a46 := Try.isAgg78
  z46 := Try.sizeOf78
  v46 := Try.zeroValue78
  t51 := Try.underlying84
  a51 := Try.isAgg84
  z51 := Try.sizeOf84
  v51 := Try.zeroValue84
  t53 := Try.underlying87
  a53 := Try.isAgg87
  z53 := Try.sizeOf87
  v53 := Try.zeroValue87 }
/-- bits.Len: "Len returns the minimum number of bits required to represent x; the result is 0 for x == 0.": IT RETURNS 'Lib.bitLen x'; the world is as it was. (A uint has 64 bits in the model.) ITS CALLEE bits.Len64 IS MET BY ITS OWN CONTRACT OFF THE SHELF (lay that first). (LAID: no walk: one application.) -/
theorem Try.bits_Len (x : Int) (w : World) (h0 : 0 ≤ x) (h1 : x ≤ 18446744073709551615) :
    Calls Try.prog 52 #[.int .u64 x] w fun e w' => e = .returned (.int .i64 (Lib.bitLen x.toNat)) ∧ w' = w := Any.bits_Len Try.lays125 x w h0 h1
def Try.lays215_ren : Go.Shelf.Ren := ⟨fun | 215 => 71 | n => n, fun | 3 => 3 | 4 => 4 | n => n, fun | n => n⟩
theorem Try.lays215 : Go.Proofs.Lays.n215 Try.prog Try.lays215_ren := {
  mixed := by kernel_rfl
  f215 := Try.func71.trans (congrArg some (by kernel_rfl))
  t3 := Try.underlying3
  a3 := Try.isAgg3
  z3 := Try.sizeOf3
  v3 := Try.zeroValue3
  t4 := Try.underlying4
  a4 := Try.isAgg4
  z4 := Try.sizeOf4
  v4 := Try.zeroValue4 }
open Go.RowKit in
/-- cmp.isNaN at int: 'x != x': false. (LAID: no walk: one application.) -/
theorem Try.cmp_isNaN_int (x : Int) (w : World) :
    Calls Try.prog 71 #[.int .i64 x] w fun e w' => e = .returned (.bool false) ∧ w' = w := Any.cmp_isNaN_int Try.lays215 x w
def Try.lays129_ren : Go.Shelf.Ren := ⟨fun | 129 => 65 | n => n, fun | 53 => 87 | 3 => 3 | 4 => 4 | 46 => 78 | 5 => 5 | 9 => 9 | n => n, fun | n => n⟩
theorem Try.lays129 : Go.Proofs.Lays.n129 Try.prog Try.lays129_ren := {
  mixed := by kernel_rfl
  f129 := Try.func65.trans (congrArg some (by kernel_rfl))
  t3 := Try.underlying3
  a3 := Try.isAgg3
  z3 := Try.sizeOf3
  v3 := Try.zeroValue3
  t4 := Try.underlying4
  a4 := Try.isAgg4
  z4 := Try.sizeOf4
  v4 := Try.zeroValue4
  t5 := Try.underlying5
  a5 := Try.isAgg5
  z5 := Try.sizeOf5
  v5 := Try.zeroValue5
  t9 := Try.underlying9
  a9 := Try.isAgg9
  z9 := Try.sizeOf9
  v9 := Try.zeroValue9
  t46 := Try.underlying78
  a46 := Try.isAgg78
  z46 := Try.sizeOf78
  v46 := Try.zeroValue78
  t53 := Try.underlying87
  a53 := Try.isAgg87
  z53 := Try.sizeOf87
  v53 := Try.zeroValue87 }
/-- bits.Len64: "Len64 returns the minimum number of bits required to represent x; the result is 0 for x == 0.": IT RETURNS 'Lib.bitLen x'; the world is as it was. ('h0', 'h1': x is a uint64.) (LAID: no walk: one application.) -/
theorem Try.bits_Len64 (x : Int) (w : World) (h0 : 0 ≤ x) (h1 : x ≤ 18446744073709551615) :
    Calls Try.prog 65 #[.int .u64 x] w fun e w' => e = .returned (.int .i64 (Lib.bitLen x.toNat)) ∧ w' = w := Any.bits_Len64 Try.lays129 x w h0 h1
def Try.lays189_ren : Go.Shelf.Ren := ⟨fun | 189 => 41 | 125 => 52 | 257 => 51 | 128 => 64 | 129 => 65 | 294 => 55 | 295 => 56 | 296 => 57 | 297 => 58 | 298 => 59 | 299 => 60 | 216 => 61 | 300 => 62 | 301 => 63 | 328 => 66 | 329 => 67 | 330 => 68 | 331 => 69 | 332 => 70 | 215 => 71 | 343 => 72 | n => n, fun | 28 => 28 | 3 => 3 | 46 => 78 | 0 => 0 | 51 => 84 | 53 => 87 | 4 => 4 | 183 => 92 | 182 => 91 | 131 => 43 | 5 => 5 | 9 => 9 | 218 => 100 | 222 => 104 | 228 => 106 | 229 => 107 | n => n, fun | n => n⟩
theorem Try.lays189 : Go.Proofs.Lays.n189 Try.prog Try.lays189_ren := {
  mixed := by kernel_rfl
  f125 := Try.func52.trans (congrArg some (by kernel_rfl))
  f128 := Try.func64.trans (congrArg some (by kernel_rfl))
  f129 := Try.func65.trans (congrArg some (by kernel_rfl))
  f189 := Try.func41.trans (congrArg some (by kernel_rfl))
  f215 := Try.func71.trans (congrArg some (by kernel_rfl))
  f216 := Try.func61.trans (congrArg some (by kernel_rfl))
  f257 := Try.func51.trans (congrArg some (by kernel_rfl))
  f294 := Try.func55.trans (congrArg some (by kernel_rfl))
  f295 := Try.func56.trans (congrArg some (by kernel_rfl))
  f296 := Try.func57.trans (congrArg some (by kernel_rfl))
  f297 := Try.func58.trans (congrArg some (by kernel_rfl))
  f298 := Try.func59.trans (congrArg some (by kernel_rfl))
  f299 := Try.func60.trans (congrArg some (by kernel_rfl))
  f300 := Try.func62.trans (congrArg some (by kernel_rfl))
  f301 := Try.func63.trans (congrArg some (by kernel_rfl))
  f328 := Try.func66.trans (congrArg some (by kernel_rfl))
  f329 := Try.func67.trans (congrArg some (by kernel_rfl))
  f330 := Try.func68.trans (congrArg some (by kernel_rfl))
  f331 := Try.func69.trans (congrArg some (by kernel_rfl))
  f332 := Try.func70.trans (congrArg some (by kernel_rfl))
  f343 := Try.func72.trans (congrArg some (by kernel_rfl))
  t0 := Try.underlying0
  a0 := Try.isAgg0
  z0 := Try.sizeOf0
  v0 := Try.zeroValue0
  t3 := Try.underlying3
  a3 := Try.isAgg3
  z3 := Try.sizeOf3
  v3 := Try.zeroValue3
  t4 := Try.underlying4
  a4 := Try.isAgg4
  z4 := Try.sizeOf4
  v4 := Try.zeroValue4
  t5 := Try.underlying5
  a5 := Try.isAgg5
  z5 := Try.sizeOf5
  v5 := Try.zeroValue5
  t9 := Try.underlying9
  a9 := Try.isAgg9
  z9 := Try.sizeOf9
  v9 := Try.zeroValue9
  t28 := Try.underlying28
  a28 := Try.isAgg28
  z28 := Try.sizeOf28
  v28 := Try.zeroValue28
  t46 := Try.underlying78
  a46 := Try.isAgg78
  z46 := Try.sizeOf78
  v46 := Try.zeroValue78
  t51 := Try.underlying84
  a51 := Try.isAgg84
  z51 := Try.sizeOf84
  v51 := Try.zeroValue84
  t53 := Try.underlying87
  a53 := Try.isAgg87
  z53 := Try.sizeOf87
  v53 := Try.zeroValue87
  t131 := Try.underlying43
  a131 := Try.isAgg43
  z131 := Try.sizeOf43
  v131 := Try.zeroValue43
  t182 := Try.underlying91
  a182 := Try.isAgg91
  z182 := Try.sizeOf91
  v182 := Try.zeroValue91
  t183 := Try.underlying92
  a183 := Try.isAgg92
  z183 := Try.sizeOf92
  v183 := Try.zeroValue92
  t218 := Try.underlying100
  a218 := Try.isAgg100
  z218 := Try.sizeOf100
  v218 := Try.zeroValue100
  t222 := Try.underlying104
  a222 := Try.isAgg104
  z222 := Try.sizeOf104
  v222 := Try.zeroValue104
  t228 := Try.underlying106
  a228 := Try.isAgg106
  z228 := Try.sizeOf106
  v228 := Try.zeroValue106
  t229 := Try.underlying107
  a229 := Try.isAgg107
  z229 := Try.sizeOf107
  v229 := Try.zeroValue107 }
open Go.Sort Go.RowKit in
theorem Try.slices_Sort_int (blk off cap : Nat) (zs : List Int) (w : World) (hH : Holds (Value.int .i64) w blk off zs.toArray) (hblk : blk < w.heap.size) (hsz : zs.length < 4611686018427387904) :
    Calls Try.prog 41 #[.slice (some ⟨blk, off, none⟩) zs.length cap] w fun e w' =>
      e = .returned (.tuple #[]) ∧ ∃ n os, w' = grow (putRow (Value.int .i64) (Sort.ahead w n) blk off (zs.mergeSort fun x y => decide (x ≤ y)).toArray) os := Any.slices_Sort_int Try.lays189 blk off cap zs w hH hblk hsz
def Try.lays264_ren : Go.Shelf.Ren := ⟨fun | 264 => 54 | n => n, fun | 53 => 87 | 46 => 78 | n => n, fun | n => n⟩
theorem Try.lays264 : Go.Proofs.Lays.n264 Try.prog Try.lays264_ren := {
  mixed := by kernel_rfl
  f264 := Try.func54.trans (congrArg some (by kernel_rfl))
  t46 := Try.underlying78
  a46 := Try.isAgg78
  z46 := Try.sizeOf78
  v46 := Try.zeroValue78
  t53 := Try.underlying87
  a53 := Try.isAgg87
  z53 := Try.sizeOf87
  v53 := Try.zeroValue87 }
open Go.RowKit Go.Lib in
theorem Try.bits_Mul64 (x y : Nat) (hx : x < 18446744073709551616) (hy : y < 18446744073709551616) (w : World) :
    Calls Try.prog 54 #[.int .u64 x, .int .u64 y] w fun e w' => e = .returned (.tuple #[.int .u64 ((x * y / 18446744073709551616 : Nat) : Int), .int .u64 ((x * y % 18446744073709551616 : Nat) : Int)]) ∧ w' = w := Any.bits_Mul64 Try.lays264 x y hx hy w
def Try.lays212_ren : Go.Shelf.Ren := ⟨fun | 212 => 47 | 263 => 53 | 264 => 54 | n => n, fun | 46 => 78 | 51 => 84 | 146 => 85 | 53 => 87 | 148 => 88 | n => n, fun | n => n⟩
theorem Try.lays212 : Go.Proofs.Lays.n212 Try.prog Try.lays212_ren := {
  mixed := by kernel_rfl
  f212 := Try.func47.trans (congrArg some (by kernel_rfl))
  f263 := Try.func53.trans (congrArg some (by kernel_rfl))
  f264 := Try.func54.trans (congrArg some (by kernel_rfl))
  t46 := Try.underlying78
  a46 := Try.isAgg78
  z46 := Try.sizeOf78
  v46 := Try.zeroValue78
  t51 := Try.underlying84
  a51 := Try.isAgg84
  z51 := Try.sizeOf84
  v51 := Try.zeroValue84
  t53 := Try.underlying87
  a53 := Try.isAgg87
  z53 := Try.sizeOf87
  v53 := Try.zeroValue87
  t146 := Try.underlying85
  a146 := Try.isAgg85
  z146 := Try.sizeOf85
  v146 := Try.zeroValue85
  t148 := Try.underlying88
  a148 := Try.isAgg88
  z148 := Try.sizeOf88
  v148 := Try.zeroValue88 }
open Go.RowKit Go.Lib in
/-- math/bits.Mul: "Mul returns the full-width product of x and y": on a machine of 64 bits: Mul64's. (LAID: no walk: one application.) -/
theorem Try.bits_Mul (x y : Nat) (hx : x < 18446744073709551616) (hy : y < 18446744073709551616) (w : World) :
    Calls Try.prog 47 #[.int .u64 x, .int .u64 y] w fun e w' => e = .returned (.tuple #[.int .u64 ((x * y / 18446744073709551616 : Nat) : Int), .int .u64 ((x * y % 18446744073709551616 : Nat) : Int)]) ∧ w' = w := Any.bits_Mul Try.lays212 x y hx hy w
def Try.laysNm215_ren : Go.Shelf.Ren := ⟨fun | 15 => 46 | n => n, fun | 22 => 28 | 3 => 3 | 4 => 4 | n => n, fun | n => n⟩
theorem Try.laysNm215 : Go.Proofs.Lays2.n15 Try.prog Try.laysNm215_ren := {
  mixed := by kernel_rfl
  f15 := Try.func46.trans (congrArg some (by kernel_rfl))
  t3 := Try.underlying3
  a3 := Try.isAgg3
  z3 := Try.sizeOf3
  v3 := Try.zeroValue3
  t4 := Try.underlying4
  a4 := Try.isAgg4
  z4 := Try.sizeOf4
  v4 := Try.zeroValue4
  t22 := Try.underlying28
  a22 := Try.isAgg28
  z22 := Try.sizeOf28
  v22 := Try.zeroValue28
  i3 := by kernel_rfl }
open Go.RowKit Go.Lib in
/-- slices.Clone at []int: "Clone returns a copy of the slice. The elements are copied using assignment, so this is a shallow clone. The result may have additional unused capacity. The result preserves the nilness of s.": OF A SLICE THAT IS NOT nil IT RETURNS A SLICE THAT IS NOT nil, OF THE SAME ELEMENTS, IN MEMORY OF THE CALL's OWN: in the how-to's words (6f): 'w'.ownsRow B e 1 v' n cells': v' begins at the head of a row among the blocks from B on (B: the heap's size at the call), not frozen, whose first cells are the elements · 'Below B w w'': below B all is as it was. The capacity is whatever the run-time gives. 'zs': what the cells behind the slice's address hold; 'zs.take n': its elements. (LAID: no walk: one application.) -/
theorem Try.slices_Clone_int (b off n c : Nat) (zs : List Int) (w : World) (hz : n ≤ zs.length) (hbig : n * 8 ≤ 140737488355328) (hc : ∀ j, j < zs.length → w.cell? ⟨b, off + j, none⟩ = some (.int .i64 (zs.getD j 0))) :
    Calls Try.prog 46 #[.slice (some ⟨b, off, none⟩) n c] w fun e w' => ∃ v', e = .returned v' ∧ w'.ownsRow w.heap.size 3 1 v' n ((zs.take n).map (Value.int .i64)) ∧ v' ≠ .slice none 0 0 ∧ Below w.heap.size w w' := Any.slices_Clone_int Try.laysNm215 b off n c zs w hz hbig hc
open Go.RowKit Go.Lib in
/-- The same at nil: nil comes back; the world is as it was. (LAID: no walk: one application.) -/
theorem Try.slices_Clone_int_nil (n c : Nat) (w : World) :
    Calls Try.prog 46 #[.slice none n c] w fun e w' => e = .returned (.slice none 0 0) ∧ w' = w := Any.slices_Clone_int_nil Try.laysNm215 n c w
open Go.RowKit Go.Lib in
/-- The same at a slice of length 0 that is not nil, WHATEVER ITS ADDRESS (no cell is asked for): a slice that is not nil and owns nothing comes back. (LAID: no walk: one application.) -/
theorem Try.slices_Clone_int_zero (a : Addr) (c : Nat) (w : World) :
    Calls Try.prog 46 #[.slice (some a) 0 c] w fun e w' => ∃ v', e = .returned v' ∧ w'.ownsRow w.heap.size 3 1 v' 0 [] ∧ v' ≠ .slice none 0 0 ∧ Below w.heap.size w w' := Any.slices_Clone_int_zero Try.laysNm215 a c w
def Try.laysNm237_ren : Go.Shelf.Ren := ⟨fun | 37 => 71 | n => n, fun | 3 => 3 | 4 => 4 | n => n, fun | n => n⟩
theorem Try.laysNm237 : Go.Proofs.Lays2.n37 Try.prog Try.laysNm237_ren := {
  mixed := by kernel_rfl
  f37 := Try.func71.trans (congrArg some (by kernel_rfl))
  t3 := Try.underlying3
  a3 := Try.isAgg3
  z3 := Try.sizeOf3
  v3 := Try.zeroValue3
  t4 := Try.underlying4
  a4 := Try.isAgg4
  z4 := Try.sizeOf4
  v4 := Try.zeroValue4 }
open Go.RowKit Go.Lib in
/-- cmp.isNaN[int]: 'x != x': false. (LAID: no walk: one application.) -/
theorem Try.cmp_isNaN_int2 (x : Int) (w : World) :
    Calls Try.prog 71 #[.int .i64 x] w fun e w' => e = .returned (.bool false) ∧ w' = w := Any.cmp_isNaN_int2 Try.laysNm237 x w
def Try.laysNm231_ren : Go.Shelf.Ren := ⟨fun | 31 => 61 | 37 => 71 | n => n, fun | 3 => 3 | 4 => 4 | n => n, fun | n => n⟩
theorem Try.laysNm231 : Go.Proofs.Lays2.n31 Try.prog Try.laysNm231_ren := {
  mixed := by kernel_rfl
  f31 := Try.func61.trans (congrArg some (by kernel_rfl))
  f37 := Try.func71.trans (congrArg some (by kernel_rfl))
  t3 := Try.underlying3
  a3 := Try.isAgg3
  z3 := Try.sizeOf3
  v3 := Try.zeroValue3
  t4 := Try.underlying4
  a4 := Try.isAgg4
  z4 := Try.sizeOf4
  v4 := Try.zeroValue4 }
open Go.RowKit Go.Lib in
/-- cmp.Less[int]: "Less reports whether x is less than y.": 'x < y'; the world is as it was. (LAID: no walk: one application.) -/
theorem Try.cmp_Less_int2 (x y : Int) (w : World) :
    Calls Try.prog 61 #[.int .i64 x, .int .i64 y] w fun e w' => e = .returned (.bool (decide (x < y))) ∧ w' = w := Any.cmp_Less_int2 Try.laysNm231 x y w
open Go.RowKit Go.Sort in
/-- .. and plain. (LAID: no walk: one application.) -/
theorem Try.slices_Sort_int_none (p : Option Addr) (cap : Nat) (w : World) :
    Calls Try.prog 41 #[.slice p 0 cap] w fun e w' => e = .returned (.tuple #[]) ∧ w' = w := Any.slices_Sort_int_none Try.lays189 p cap w
end Go.Proofs
namespace Go.Proofs.Ytcbgkokeikkpoaa
open Go.RowKit
set_option linter.unusedVariables false
def srt (xs : List Int) : Option (List Int) := if xs.length ≤ 1073741824 then some (xs.mergeSort fun x y => decide (x ≤ y)) else none
theorem srt_some {xs r : List Int} (h : srt xs = some r) : xs.length ≤ 1073741824 ∧ xs.mergeSort (fun x y => decide (x ≤ y)) = r := by
  unfold srt at h; split at h
  · rename_i hh; cases h; exact ⟨hh, rfl⟩
  · cases h
theorem els_ints (K : Hp) : ∀ xs : List Int, Els K (.int .i64) (xs.map (Value.int .i64)) xs
  | [] => rfl
  | x :: xs => ⟨[.int .i64 x], _, rfl, rfl, els_ints K xs⟩
theorem els_ints_eq {K : Hp} : ∀ {xs : List Int} {cs : List Value}, Els K (.int .i64) cs xs → cs = xs.map (Value.int .i64)
  | [], cs, h => h
  | x :: xs, cs, h => by
    obtain ⟨es, r, rfl, h1, h2⟩ := h
    obtain rfl : es = [.int .i64 x] := h1
    rw [els_ints_eq h2]; rfl
theorem slices_Sort_ok {K : Hp} {ad : Option Addr} {m cap : Nat} {xs r : List Int} (h : srt xs = some r) :
    Tr Try.prog 41 #[.slice ad m cap] K [Row Hp.nil 3 (.int .i64) (.slice ad m cap) xs] (fun v K' L' => (∃ (l : List Int), l = r ∧ v = .tuple #[] ∧ L' = [Row Hp.nil 3 (.int .i64) (.slice ad m cap) l]) ∧ K = K') := by
  obtain ⟨hl, rfl⟩ := srt_some h
  refine Tr.k (fun E w F hs => ?_)
  have hs' := hs
  obtain ⟨h0, ⟨cs, h1, h2⟩, hd, hs2⟩ := hs
  have hle : h0.le (Hp.of w) := fun n o e => hs2.sub n o (Hp.join_right e (hd n o e))
  obtain rfl := els_ints_eq h1
  have h2' := h2
  obtain ⟨h3, h4⟩ := h2
  rcases h4 with ⟨h5, h6, _⟩ | ⟨g, cp, cur, h5, rfl, h6, h7, h8, h9⟩
  · cases h5
    obtain rfl : xs = [] := List.length_eq_zero_iff.1 h6
    refine (Try.slices_Sort_int_none none 0 w).mono ?_
    rintro e w' ⟨rfl, rfl⟩
    exact ⟨_, K, _, rfl, ⟨_, rfl, rfl, rfl⟩, Hp.le_refl K, by simpa using hs'⟩
  · cases h5
    have hb := hle g _ (one_of g _)
    have ht : cur.toList.take xs.length = xs.map (Value.int .i64) := by simpa [Tp.size] using h9
    refine (Try.slices_Sort_int g 0 cap xs w (holds_of_blockI hb ht) (lt_of_block hb) (by omega)).mono ?_
    rintro e w' ⟨rfl, n, os, rfl⟩
    have hlen : (xs.mergeSort fun x y => decide (x ≤ y)).length = xs.length := List.length_mergeSort xs
    have ho := ownsRow_sortedI (n := n) (os := os) (base := 0) (cap := cap) hlen (Nat.zero_le g) hb h6 h7 (by simpa [Tp.size] using h8)
    refine ⟨_, K, [Row Hp.nil 3 (.int .i64) (.slice (some ⟨g, 0, none⟩) xs.length cap) (xs.mergeSort fun x y => decide (x ≤ y))], rfl, ⟨_, rfl, rfl, rfl⟩, Hp.le_refl K, ?_⟩
    exact hs'.grown hlen.symm (by simpa [hlen, Tp.size] using ho) (els_ints _ _) (grownBy_sortedI _) (.inl rfl)
end Go.Proofs.Ytcbgkokeikkpoaa
namespace Go.Proofs.Ytcbgkokeikkpoaa
open Go.RowKit
set_option linter.unusedVariables false
set_option linter.unnecessarySimpa false
set_option linter.unusedSectionVars false
set_option linter.unusedSimpArgs false
variable [BldA]
/-- What is asked of one row: its value, what it holds. -/
theorem row_pre {m : List M} {K : Hp} {x : List Int} {e : TypeId} {args : List Value} {E : En} {w : World} {F : List Atom} (hm : m.length = 2) (hH : HA.ok m K (.row 0 1 e (.int .i64) x x.length)) (hsl : slR m K [(0, .own 0)] args) (hs : Sep E K ([HA.row 0 1 e (.int .i64) x x.length].map (HA.conc m) ++ F) w) :
    ∃ ad cap, args = [.slice ad x.length cap] ∧ m[0]? = some (.val (.slice ad x.length cap)) ∧ Sep E K (Row Hp.nil e (.int .i64) (.slice ad x.length cap) x :: F) w := by
  obtain ⟨ad, cap, cs, e0, e1, hE, _, h1, h2, h3⟩ := hH
  obtain ⟨u, r, rfl, ⟨e2, e3⟩, rfl⟩ := hsl
  rw [e0] at e2
  cases e2
  refine ⟨ad, cap, rfl, e0, ?_⟩
  have hs' : Sep E K (HA.conc m (.row 0 1 e (.int .i64) x x.length) :: F) w := hs
  simp only [HA.conc, e0, e1] at hs'
  exact hs'.mono (fun h k => ⟨cs, Els.flat rfl hE, k⟩)
/-- What is known of a row behind the call. -/
theorem row_post {K : Hp} {e : TypeId} {ad : Option Addr} {n cap : Nat} {l : List Int} {E : En} {w : World} {F : List Atom} (hs : Sep E K ([Row Hp.nil e (.int .i64) (.slice ad n cap) l] ++ F) w) :
    n = l.length ∧ l.length ≤ cap ∧ cap ≤ maxLen ∧ (l ≠ [] → ∃ g, ad = some ⟨g, 0, none⟩) ∧ ∃ cs, Els K (.int .i64) cs l ∧ Sep E K (Rw e 1 (.slice ad l.length cap) l.length cs :: F) w := by
  have hs : Sep E K (Row Hp.nil e (.int .i64) (.slice ad n cap) l :: F) w := hs
  obtain ⟨ad', cap', h1, h2, h3, h4⟩ := hs.fact (fun h k => Row.form h k)
  cases h1
  obtain ⟨h0, ⟨cs, hE, hR⟩, hd, hs2⟩ := hs
  exact ⟨rfl, h2, h3, h4, cs, Els.flat rfl hE, h0, hR, hd, hs2⟩
noncomputable def sp_Sort : Spec := ⟨41, ⟨[(0, .rp 0)], [⟨none, 0, [], false, false, some (.row 3 (.dat (.int .i64)))⟩]⟩, [⟨[], [⟨some 0, 0, [], false, false, some (.row 3 (.dat (.int .i64)))⟩]⟩], fun x => srt x⟩
theorem Sort_is : SpecOk Try.prog sp_Sort := by
  intro x r hr vs u hu m K args hm hH hsl E w F hs
  have hu' : sp_Sort.inn.un (TL.list _ x) 0 = some ([(0, .own 0)], ⟨[], 2, [.row 0 1 3 (.int .i64) x (List.length (α := Int) x)], []⟩) := rfl
  rw [hu'] at hu
  cases hu
  replace hm : m.length = 2 := hm
  obtain ⟨ad, cap, rfl, e0, hs'⟩ := row_pre hm (hH _ (by simp)) hsl hs
  refine (slices_Sort_ok (K := K) hr E w F hs').mono ?_
  rintro e w' ⟨v, K', L', rfl, ⟨⟨l, rfl, rfl, rfl⟩, rfl⟩, h1, h2⟩
  obtain ⟨g1, g2, g3, g4, cs, g5, g6⟩ := row_post h2
  have hm0 : (m ++ [M.cont (.int .i64) l cs])[0]? = some (.val (.slice ad (List.length (α := Int) l) cap)) := by
    rw [List.getElem?_append_left (by omega), e0, g1]
  have hm1 : (m ++ [M.cont (.int .i64) l cs])[2]? = some (.cont (.int .i64) l cs) := by
    rw [List.getElem?_append_right (by omega), hm]; rfl
  refine ⟨_, K, _, rfl, ⟨[], ⟨[], 3, [.row 0 2 3 (.int .i64) l (List.length (α := Int) l)], []⟩, m ++ [.cont (.int .i64) l cs], rfl, List.prefix_append _ _, by simp [hm], ?_, rfl, rfl⟩, h1, ?_⟩
  · intro a ha
    simp only [List.mem_singleton] at ha
    subst ha
    exact ⟨ad, cap, cs, hm0, hm1, g5, rfl, g2, g3, g4⟩
  · show Sep E K (HA.conc _ (.row 0 2 3 (.int .i64) l (List.length (α := Int) l)) :: F) w'
    simp only [HA.conc, hm0, hm1]
    exact g6
noncomputable def ok_Sort : OkSpec Try.prog := ⟨sp_Sort, Sort_is, Try.call41⟩
end Go.Proofs.Ytcbgkokeikkpoaa
namespace Go.Proofs.Ytcbgkokeikkpoaa
open Go.RowKit
set_option linter.unusedVariables false
set_option maxRecDepth 100000
set_option maxHeartbeats 4000000
instance nob : BldA := ⟨1000000000, fun b _ => Cl b 1000000000 [.pointer none, .slice none 0 0], fun h => h⟩

noncomputable def fn_slices_Clone_graph_Arc_graph_Arc (xa : (List (Int × Int))) : Option ((List (Int × Int))) :=
  nilb xa (some ([])) ((app (([] : List (Int × Int))) xa).bind fun z21 => some (z21))
noncomputable def h_slices_Clone_graph_Arc_graph_Arc : Hn Try.prog := .two 4 (.nil) (.nil)
noncomputable def sp_slices_Clone_graph_Arc_graph_Arc : Spec := ⟨30, ⟨[(0, .dat (.sl (.cons (.int .i64) (.one (.int .i64)))))], []⟩, [⟨[(0, .own 50 (.cons (.int .i64) (.one (.int .i64))))], []⟩], fun x => fn_slices_Clone_graph_Arc_graph_Arc x⟩
theorem slices_Clone_graph_Arc_graph_Arc_is : SpecOk Try.prog sp_slices_Clone_graph_Arc_graph_Arc := fn_is Try.func30 h_slices_Clone_graph_Arc_graph_Arc (by kernel_rfl) (by kernel_rfl)
noncomputable def ok_slices_Clone_graph_Arc_graph_Arc : OkSpec Try.prog := ⟨sp_slices_Clone_graph_Arc_graph_Arc, slices_Clone_graph_Arc_graph_Arc_is, Try.call30⟩

noncomputable def fn_graph_New_1 (xa : (Int × Int)) : Option Int :=
  some (xa.1)
noncomputable def h_graph_New_1 : Hn Try.prog := .nil
noncomputable def sp_graph_New_1 : Spec := ⟨32, ⟨[(0, .dat (.cons (.int .i64) (.one (.int .i64))))], []⟩, [⟨[(0, .dat (.int .i64))], []⟩], fun x => fn_graph_New_1 x⟩
theorem graph_New_1_is : SpecOk Try.prog sp_graph_New_1 := fn_is Try.func32 h_graph_New_1 (by kernel_rfl) (by kernel_rfl)
noncomputable def ok_graph_New_1 : OkSpec Try.prog := ⟨sp_graph_New_1, graph_New_1_is, Try.call32⟩

noncomputable def fn_slices_Clone_int_int (xa : (List Int)) : Option (List Int) :=
  nilb xa (some ([])) ((app ([] : List Int) xa).bind fun z21 => some (z21))
noncomputable def h_slices_Clone_int_int : Hn Try.prog := .two 4 (.nil) (.nil)
noncomputable def sp_slices_Clone_int_int : Spec := ⟨46, ⟨[(0, .dat (.sl (.int .i64)))], []⟩, [⟨[(0, .own 3 (.int .i64))], []⟩], fun x => fn_slices_Clone_int_int x⟩
theorem slices_Clone_int_int_is : SpecOk Try.prog sp_slices_Clone_int_int := fn_is Try.func46 h_slices_Clone_int_int (by kernel_rfl) (by kernel_rfl)
noncomputable def ok_slices_Clone_int_int : OkSpec Try.prog := ⟨sp_slices_Clone_int_int, slices_Clone_int_int_is, Try.call46⟩
noncomputable def fn_graph_indexed_ik_graph_New_1_l1 (xb : (List (Int × Int))) : (Int × (List Int)) → Option ((Int × (List Int)) ⊕ (List Int)) := fun ((i3454, l3455) : (Int × (List Int))) => cond (decide (i3454 < (((xb.length : Nat) : Int)))) ((getI xb i3454).bind fun x3564 => (fn_graph_New_1 (x3564.1, x3564.2)).bind fun i3636 => (getI l3455 (IntKind.wrap .i64 (i3636 + 1))).bind fun x3640 => (getI l3455 (IntKind.wrap .i64 (i3636 + 1))).bind fun x3647 => (some (l3455.set (IntKind.wrap .i64 (i3636 + 1)).toNat (IntKind.wrap .i64 (x3640 + 1)))).bind fun z3654 => some (.inl ((IntKind.wrap .i64 (i3454 + 1), z3654)))) (some (.inr (l3455)))
noncomputable def fn_graph_indexed_ik_graph_New_1_l2 (xa : Int) : (Int × (List Int)) → Option ((Int × (List Int)) ⊕ (List Int)) := fun ((i4049, l4050) : (Int × (List Int))) => cond (decide (i4049 < xa)) ((getI l4050 (IntKind.wrap .i64 (i4049 + 1))).bind fun x4216 => (getI l4050 i4049).bind fun x4223 => (getI l4050 (IntKind.wrap .i64 (i4049 + 1))).bind fun x4230 => (some (l4050.set (IntKind.wrap .i64 (i4049 + 1)).toNat (IntKind.wrap .i64 (x4216 + x4223)))).bind fun z4237 => some (.inl ((IntKind.wrap .i64 (i4049 + 1), z4237)))) (some (.inr (l4050)))
noncomputable def fn_graph_indexed_ik_graph_New_1_l3 (xb : (List (Int × Int))) : ((List Int) × Int × (List Int)) → Option (((List Int) × Int × (List Int)) ⊕ (List Int)) := fun ((l5309, i5314, l5315) : ((List Int) × Int × (List Int))) => cond (decide (i5314 < (((xb.length : Nat) : Int)))) ((getI xb i5314).bind fun x5430 => (fn_graph_New_1 (x5430.1, x5430.2)).bind fun i5442 => (getI l5309 i5442).bind fun x5488 => (getI l5315 x5488).bind fun x5495 => (some (l5315.set x5488.toNat i5314)).bind fun z5502 => (getI l5309 i5442).bind fun x5507 => (getI l5309 i5442).bind fun x5514 => (some (l5309.set i5442.toNat (IntKind.wrap .i64 (x5507 + 1)))).bind fun z5521 => some (.inl ((z5521, IntKind.wrap .i64 (i5314 + 1), z5502)))) (some (.inr (l5315)))
noncomputable def fn_graph_indexed_ik_graph_New_1 (xa : Int) (xb : (List (Int × Int))) : Option (((List Int) × (List Int))) :=
  (((mk (IntKind.wrap .i64 (xa + 1)) (IntKind.wrap .i64 (xa + 1)) 0 : Option (List Int)).bind fun z2975 => ((mk (((xb.length : Nat) : Int)) (((xb.length : Nat) : Int)) 0 : Option (List Int)).bind fun z2980 => some ((z2975, z2980))).bind fun x2992 => ((mk (((xb.length : Nat) : Int)) (((xb.length : Nat) : Int)) 0 : Option (List Int)).bind fun z2987 => some ((z2975, z2987))).bind fun y2993 => agr x2992 y2993 (some x2992)).bind fun x3038 => (((mk (((xb.length : Nat) : Int)) (((xb.length : Nat) : Int)) 0 : Option (List Int)).bind fun z2994 => ((mk (IntKind.wrap .i64 (xa + 1)) (IntKind.wrap .i64 (xa + 1)) 0 : Option (List Int)).bind fun z2999 => some ((z2999, z2994))).bind fun x3011 => ((mk (IntKind.wrap .i64 (xa + 1)) (IntKind.wrap .i64 (xa + 1)) 0 : Option (List Int)).bind fun z3006 => some ((z3006, z2994))).bind fun y3012 => agr x3011 y3012 (some x3011)).bind fun x3036 => (((mk (IntKind.wrap .i64 (xa + 1)) (IntKind.wrap .i64 (xa + 1)) 0 : Option (List Int)).bind fun z3014 => (mk (((xb.length : Nat) : Int)) (((xb.length : Nat) : Int)) 0 : Option (List Int)).bind fun z3019 => some ((z3014, z3019))).bind fun x3034 => ((mk (((xb.length : Nat) : Int)) (((xb.length : Nat) : Int)) 0 : Option (List Int)).bind fun z3024 => (mk (IntKind.wrap .i64 (xa + 1)) (IntKind.wrap .i64 (xa + 1)) 0 : Option (List Int)).bind fun z3029 => some ((z3029, z3024))).bind fun y3035 => agr x3034 y3035 (some x3034)).bind fun y3037 => agr x3036 y3037 (some x3036)).bind fun y3039 => agr x3038 y3039 (some x3038) : Option (((List Int) × (List Int)))).bind fun (l2900, l2905) => (loop (fn_graph_indexed_ik_graph_New_1_l1 xb) (0, l2900) : Option (List Int)).bind fun l3347 => (loop (fn_graph_indexed_ik_graph_New_1_l2 xa) (0, l3347) : Option (List Int)).bind fun l3948 => (fn_slices_Clone_int_int l3948).bind fun l4247 => (loop (fn_graph_indexed_ik_graph_New_1_l3 xb) (l4247, 0, l2905) : Option (List Int)).bind fun l5099 => some ((l3948, l5099))
noncomputable def h_graph_indexed_ik_graph_New_1 : Hn Try.prog := .tr (.still [0, 1, 3, 4] (.alt 2 (.alt 5 (.still [6] (.alt 7 (.alt 8 (.leaf []) .done) .done)) (.alt 7 (.alt 5 (.still [6] (.alt 8 (.leaf []) .done)) .done) .done)) (.alt 5 (.alt 2 (.still [6] (.alt 7 (.alt 8 (.leaf []) .done) .done)) (.alt 7 (.alt 2 (.still [6] (.alt 8 (.leaf []) .done)) .done) .done)) (.alt 7 (.alt 2 (.alt 5 (.still [6] (.alt 8 (.leaf []) .done)) .done) (.alt 5 (.alt 2 (.still [6] (.alt 8 (.leaf []) .done)) .done) .done)) .done)))) ⟨[(7, .ptr 0 0)], [⟨none, 63, [.own 3 (.int .i64), .own 3 (.int .i64)], false, false, none⟩]⟩ [] (.two 0 (.two 0 (.nil) (.nil)) (.two 0 (.two 0 (.nil) (.nil)) (.two 0 (.nil) (.nil)))) (.jn [(2, 1)] ⟨[], [⟨(some 2), 63, [.own 3 (.int .i64), .is 1 (.any)], false, false, none⟩, ⟨(some 8), 0, [], false, true, none⟩]⟩ [2, 3] (.lp ⟨[(24, .dat (.int .i64))], [⟨(some 2), 63, [.own 3 (.int .i64), .is 1 (.any)], false, false, none⟩, ⟨(some 8), 0, [], false, true, none⟩]⟩ (.tw 25 (.mix [([0, 1, 2, 3], 4)] [5, 6, 7, 8, 9] [10] [] (.cl ok_graph_New_1 [] (.nil))) (.nil))) (.jn [] ⟨[], [⟨(some 2), 63, [.own 3 (.int .i64), .is 1 (.any)], false, false, none⟩, ⟨(some 8), 0, [], false, true, none⟩]⟩ [2, 9] (.lp ⟨[(40, .dat (.int .i64))], [⟨(some 2), 63, [.own 3 (.int .i64), .is 1 (.any)], false, false, none⟩, ⟨(some 8), 0, [], false, true, none⟩]⟩ (.tw 41 (.mix [] [0, 1, 2, 3, 4, 5, 6, 7, 8, 9, 10, 11, 12] [13] [] (.nil)) (.nil))) (.per 12 13 (.cl ok_slices_Clone_int_int [] (.jn [(2, 0)] ⟨[(59, .any), (11, .any)], [⟨(some 2), 63, [.is 1 (.any), .own 3 (.int .i64)], false, false, none⟩, ⟨(some 17), 0, [], false, true, none⟩]⟩ [15, 2, 5] (.lp ⟨[(11, .own 3 (.int .i64)), (62, .dat (.int .i64))], [⟨(some 2), 63, [.is 1 (.any), .own 3 (.int .i64)], false, false, none⟩, ⟨(some 17), 0, [], false, true, none⟩]⟩ (.tw 63 (.cl ok_graph_New_1 [] (.mix [] [0, 1, 2, 3, 4, 5, 6, 7] [8] [] (.nil))) (.nil))) (.nil))))))
noncomputable def sp_graph_indexed_ik_graph_New_1 : Spec := ⟨31, ⟨[(0, .dat (.int .i64)), (1, .dat (.sl (.cons (.int .i64) (.one (.int .i64))))), (2, .fn 32 [])], []⟩, [⟨[(0, .agg [.dat (.sl (.int .i64)), .own 3 (.int .i64)])], []⟩], fun x => fn_graph_indexed_ik_graph_New_1 x.1 x.2⟩
theorem graph_indexed_ik_graph_New_1_is : SpecOk Try.prog sp_graph_indexed_ik_graph_New_1 := fn_is Try.func31 h_graph_indexed_ik_graph_New_1 (by kernel_rfl) (by kernel_rfl)
noncomputable def ok_graph_indexed_ik_graph_New_1 : OkSpec Try.prog := ⟨sp_graph_indexed_ik_graph_New_1, graph_indexed_ik_graph_New_1_is, Try.call31⟩

noncomputable def fn_graph_New_2 (xa : (Int × Int)) : Option Int :=
  some (xa.2)
noncomputable def h_graph_New_2 : Hn Try.prog := .nil
noncomputable def sp_graph_New_2 : Spec := ⟨33, ⟨[(0, .dat (.cons (.int .i64) (.one (.int .i64))))], []⟩, [⟨[(0, .dat (.int .i64))], []⟩], fun x => fn_graph_New_2 x⟩
theorem graph_New_2_is : SpecOk Try.prog sp_graph_New_2 := fn_is Try.func33 h_graph_New_2 (by kernel_rfl) (by kernel_rfl)
noncomputable def ok_graph_New_2 : OkSpec Try.prog := ⟨sp_graph_New_2, graph_New_2_is, Try.call33⟩
noncomputable def fn_graph_indexed_ik_graph_New_2_l1 (xb : (List (Int × Int))) : (Int × (List Int)) → Option ((Int × (List Int)) ⊕ (List Int)) := fun ((i3454, l3455) : (Int × (List Int))) => cond (decide (i3454 < (((xb.length : Nat) : Int)))) ((getI xb i3454).bind fun x3564 => (fn_graph_New_2 (x3564.1, x3564.2)).bind fun i3636 => (getI l3455 (IntKind.wrap .i64 (i3636 + 1))).bind fun x3640 => (getI l3455 (IntKind.wrap .i64 (i3636 + 1))).bind fun x3647 => (some (l3455.set (IntKind.wrap .i64 (i3636 + 1)).toNat (IntKind.wrap .i64 (x3640 + 1)))).bind fun z3654 => some (.inl ((IntKind.wrap .i64 (i3454 + 1), z3654)))) (some (.inr (l3455)))
noncomputable def fn_graph_indexed_ik_graph_New_2_l2 (xa : Int) : (Int × (List Int)) → Option ((Int × (List Int)) ⊕ (List Int)) := fun ((i4049, l4050) : (Int × (List Int))) => cond (decide (i4049 < xa)) ((getI l4050 (IntKind.wrap .i64 (i4049 + 1))).bind fun x4216 => (getI l4050 i4049).bind fun x4223 => (getI l4050 (IntKind.wrap .i64 (i4049 + 1))).bind fun x4230 => (some (l4050.set (IntKind.wrap .i64 (i4049 + 1)).toNat (IntKind.wrap .i64 (x4216 + x4223)))).bind fun z4237 => some (.inl ((IntKind.wrap .i64 (i4049 + 1), z4237)))) (some (.inr (l4050)))
noncomputable def fn_graph_indexed_ik_graph_New_2_l3 (xb : (List (Int × Int))) : ((List Int) × Int × (List Int)) → Option (((List Int) × Int × (List Int)) ⊕ (List Int)) := fun ((l5309, i5314, l5315) : ((List Int) × Int × (List Int))) => cond (decide (i5314 < (((xb.length : Nat) : Int)))) ((getI xb i5314).bind fun x5430 => (fn_graph_New_2 (x5430.1, x5430.2)).bind fun i5442 => (getI l5309 i5442).bind fun x5488 => (getI l5315 x5488).bind fun x5495 => (some (l5315.set x5488.toNat i5314)).bind fun z5502 => (getI l5309 i5442).bind fun x5507 => (getI l5309 i5442).bind fun x5514 => (some (l5309.set i5442.toNat (IntKind.wrap .i64 (x5507 + 1)))).bind fun z5521 => some (.inl ((z5521, IntKind.wrap .i64 (i5314 + 1), z5502)))) (some (.inr (l5315)))
noncomputable def fn_graph_indexed_ik_graph_New_2 (xa : Int) (xb : (List (Int × Int))) : Option (((List Int) × (List Int))) :=
  (((mk (IntKind.wrap .i64 (xa + 1)) (IntKind.wrap .i64 (xa + 1)) 0 : Option (List Int)).bind fun z2975 => ((mk (((xb.length : Nat) : Int)) (((xb.length : Nat) : Int)) 0 : Option (List Int)).bind fun z2980 => some ((z2975, z2980))).bind fun x2992 => ((mk (((xb.length : Nat) : Int)) (((xb.length : Nat) : Int)) 0 : Option (List Int)).bind fun z2987 => some ((z2975, z2987))).bind fun y2993 => agr x2992 y2993 (some x2992)).bind fun x3038 => (((mk (((xb.length : Nat) : Int)) (((xb.length : Nat) : Int)) 0 : Option (List Int)).bind fun z2994 => ((mk (IntKind.wrap .i64 (xa + 1)) (IntKind.wrap .i64 (xa + 1)) 0 : Option (List Int)).bind fun z2999 => some ((z2999, z2994))).bind fun x3011 => ((mk (IntKind.wrap .i64 (xa + 1)) (IntKind.wrap .i64 (xa + 1)) 0 : Option (List Int)).bind fun z3006 => some ((z3006, z2994))).bind fun y3012 => agr x3011 y3012 (some x3011)).bind fun x3036 => (((mk (IntKind.wrap .i64 (xa + 1)) (IntKind.wrap .i64 (xa + 1)) 0 : Option (List Int)).bind fun z3014 => (mk (((xb.length : Nat) : Int)) (((xb.length : Nat) : Int)) 0 : Option (List Int)).bind fun z3019 => some ((z3014, z3019))).bind fun x3034 => ((mk (((xb.length : Nat) : Int)) (((xb.length : Nat) : Int)) 0 : Option (List Int)).bind fun z3024 => (mk (IntKind.wrap .i64 (xa + 1)) (IntKind.wrap .i64 (xa + 1)) 0 : Option (List Int)).bind fun z3029 => some ((z3029, z3024))).bind fun y3035 => agr x3034 y3035 (some x3034)).bind fun y3037 => agr x3036 y3037 (some x3036)).bind fun y3039 => agr x3038 y3039 (some x3038) : Option (((List Int) × (List Int)))).bind fun (l2900, l2905) => (loop (fn_graph_indexed_ik_graph_New_2_l1 xb) (0, l2900) : Option (List Int)).bind fun l3347 => (loop (fn_graph_indexed_ik_graph_New_2_l2 xa) (0, l3347) : Option (List Int)).bind fun l3948 => (fn_slices_Clone_int_int l3948).bind fun l4247 => (loop (fn_graph_indexed_ik_graph_New_2_l3 xb) (l4247, 0, l2905) : Option (List Int)).bind fun l5099 => some ((l3948, l5099))
noncomputable def h_graph_indexed_ik_graph_New_2 : Hn Try.prog := .tr (.still [0, 1, 3, 4] (.alt 2 (.alt 5 (.still [6] (.alt 7 (.alt 8 (.leaf []) .done) .done)) (.alt 7 (.alt 5 (.still [6] (.alt 8 (.leaf []) .done)) .done) .done)) (.alt 5 (.alt 2 (.still [6] (.alt 7 (.alt 8 (.leaf []) .done) .done)) (.alt 7 (.alt 2 (.still [6] (.alt 8 (.leaf []) .done)) .done) .done)) (.alt 7 (.alt 2 (.alt 5 (.still [6] (.alt 8 (.leaf []) .done)) .done) (.alt 5 (.alt 2 (.still [6] (.alt 8 (.leaf []) .done)) .done) .done)) .done)))) ⟨[(7, .ptr 0 0)], [⟨none, 63, [.own 3 (.int .i64), .own 3 (.int .i64)], false, false, none⟩]⟩ [] (.two 0 (.two 0 (.nil) (.nil)) (.two 0 (.two 0 (.nil) (.nil)) (.two 0 (.nil) (.nil)))) (.jn [(2, 1)] ⟨[], [⟨(some 2), 63, [.own 3 (.int .i64), .is 1 (.any)], false, false, none⟩, ⟨(some 8), 0, [], false, true, none⟩]⟩ [2, 3] (.lp ⟨[(24, .dat (.int .i64))], [⟨(some 2), 63, [.own 3 (.int .i64), .is 1 (.any)], false, false, none⟩, ⟨(some 8), 0, [], false, true, none⟩]⟩ (.tw 25 (.mix [([0, 1, 2, 3], 4)] [5, 6, 7, 8, 9] [10] [] (.cl ok_graph_New_2 [] (.nil))) (.nil))) (.jn [] ⟨[], [⟨(some 2), 63, [.own 3 (.int .i64), .is 1 (.any)], false, false, none⟩, ⟨(some 8), 0, [], false, true, none⟩]⟩ [2, 9] (.lp ⟨[(40, .dat (.int .i64))], [⟨(some 2), 63, [.own 3 (.int .i64), .is 1 (.any)], false, false, none⟩, ⟨(some 8), 0, [], false, true, none⟩]⟩ (.tw 41 (.mix [] [0, 1, 2, 3, 4, 5, 6, 7, 8, 9, 10, 11, 12] [13] [] (.nil)) (.nil))) (.per 12 13 (.cl ok_slices_Clone_int_int [] (.jn [(2, 0)] ⟨[(59, .any), (11, .any)], [⟨(some 2), 63, [.is 1 (.any), .own 3 (.int .i64)], false, false, none⟩, ⟨(some 17), 0, [], false, true, none⟩]⟩ [15, 2, 5] (.lp ⟨[(11, .own 3 (.int .i64)), (62, .dat (.int .i64))], [⟨(some 2), 63, [.is 1 (.any), .own 3 (.int .i64)], false, false, none⟩, ⟨(some 17), 0, [], false, true, none⟩]⟩ (.tw 63 (.cl ok_graph_New_2 [] (.mix [] [0, 1, 2, 3, 4, 5, 6, 7] [8] [] (.nil))) (.nil))) (.nil))))))
noncomputable def sp_graph_indexed_ik_graph_New_2 : Spec := ⟨31, ⟨[(0, .dat (.int .i64)), (1, .dat (.sl (.cons (.int .i64) (.one (.int .i64))))), (2, .fn 33 [])], []⟩, [⟨[(0, .agg [.dat (.sl (.int .i64)), .own 3 (.int .i64)])], []⟩], fun x => fn_graph_indexed_ik_graph_New_2 x.1 x.2⟩
theorem graph_indexed_ik_graph_New_2_is : SpecOk Try.prog sp_graph_indexed_ik_graph_New_2 := fn_is Try.func31 h_graph_indexed_ik_graph_New_2 (by kernel_rfl) (by kernel_rfl)
noncomputable def ok_graph_indexed_ik_graph_New_2 : OkSpec Try.prog := ⟨sp_graph_indexed_ik_graph_New_2, graph_indexed_ik_graph_New_2_is, Try.call31⟩
noncomputable def fn_graph_New_l1 (xa : Int) (xb : (List (Int × Int))) : Int → Option (Int ⊕ (Unit ⊕ ((Option (Int × (List (Int × Int)) × ((List Int) × (List Int)) × ((List Int) × (List Int)))) × Int))) := fun (i257 : Int) => cond (decide (i257 < (((xb.length : Nat) : Int)))) ((getI xb i257).bind fun x279 => cond ((((decide (x279.1 < 0)) || (decide (xa ≤ x279.1))) || (decide (x279.2 < 0))) || (decide (xa ≤ x279.2))) (some (.inr ((.inr ((none, 7)))))) (some (.inl (IntKind.wrap .i64 (i257 + 1))))) (some (.inr ((.inl ()))))
noncomputable def fn_graph_New (xa : Int) (xb : (List (Int × Int))) : Option (((Option (Int × (List (Int × Int)) × ((List Int) × (List Int)) × ((List Int) × (List Int)))) × Int)) :=
  cond (decide (xa < 0)) (some ((none, 2))) (cond ((decide (1048576 < xa)) || (decide (67108864 < (((xb.length : Nat) : Int))))) (some ((none, 5))) ((loop (fn_graph_New_l1 xa xb) 0 : Option (Unit ⊕ ((Option (Int × (List (Int × Int)) × ((List Int) × (List Int)) × ((List Int) × (List Int)))) × Int))).bind fun o => match o with | .inr r => some r | .inl () => (fn_slices_Clone_graph_Arc_graph_Arc xb).bind fun l298 => (fn_graph_indexed_ik_graph_New_1 xa l298).bind fun (l312, l313) => (fn_graph_indexed_ik_graph_New_2 xa l298).bind fun (l326, l327) => some (((some ((xa, l298, (l312, l313), (l326, l327)))), 0))))
noncomputable def h_graph_New : Hn Try.prog := .tw 10 (.nil) (.gp 3 (.tw 17 (.nil) (.jx [] ⟨[], []⟩ [] (.lp ⟨[(20, .dat (.int .i64))], []⟩ (.tw 21 (.gp 4 (.gp 3 (.gp 4 (.tw 43 (.nil) (.nil))))) (.nil))) (.cl ok_slices_Clone_graph_Arc_graph_Arc [] (.per 0 1 (.cl ok_graph_indexed_ik_graph_New_1 [] (.cl ok_graph_indexed_ik_graph_New_2 [] (.per 4 5 (.per 7 8 (.perb 2 9 (.cons (.int .i64) (.cons (.sl (.cons (.int .i64) (.one (.int .i64)))) (.cons (.cons (.sl (.int .i64)) (.one (.sl (.int .i64)))) (.one (.cons (.sl (.int .i64)) (.one (.sl (.int .i64)))))))) (.nil)))))))))))
noncomputable def sp_graph_New : Spec := ⟨19, ⟨[(0, .dat (.int .i64)), (1, .dat (.sl (.cons (.int .i64) (.one (.int .i64)))))], []⟩, [⟨[(0, .tup [.dat (.ptr (.cons (.int .i64) (.cons (.sl (.cons (.int .i64) (.one (.int .i64)))) (.cons (.cons (.sl (.int .i64)) (.one (.sl (.int .i64)))) (.one (.cons (.sl (.int .i64)) (.one (.sl (.int .i64))))))))), .dat (.int .i64)])], []⟩], fun x => fn_graph_New x.1 x.2⟩
theorem graph_New_is : SpecOk Try.prog sp_graph_New := fn_is Try.func19 h_graph_New (by kernel_rfl) (by kernel_rfl)
noncomputable def ok_graph_New : OkSpec Try.prog := ⟨sp_graph_New, graph_New_is, Try.call19⟩
noncomputable def fn_law10_Of_l1 (xb : (List (Int × Int))) : ((List (Int × Int)) × Int) → Option (((List (Int × Int)) × Int) ⊕ (List (Int × Int))) := fun ((l2136, i2141) : ((List (Int × Int)) × Int)) => cond (decide (i2141 < (((xb.length : Nat) : Int)))) ((getI xb i2141).bind fun x2304 => (getI xb i2141).bind fun x2313 => (app l2136 (([(x2304.1, x2313.2)] : List (Int × Int)))).bind fun z2325 => some (.inl ((z2325, IntKind.wrap .i64 (i2141 + 1))))) (some (.inr (l2136)))
noncomputable def fn_law10_Of (xa : Int) (xb : (List (Int × Int))) : Option (((Option (Int × (List (Int × Int)) × ((List Int) × (List Int)) × ((List Int) × (List Int)))) × Int)) :=
  (loop (fn_law10_Of_l1 xb) ((([] : List (Int × Int)), 0)) : Option ((List (Int × Int)))).bind fun l1943 => (fn_graph_New xa l1943).bind fun (p2336, i2337) => some ((p2336, i2337))
noncomputable def h_law10_Of : Hn Try.prog := .jn [] ⟨[(6, .own 50 (.cons (.int .i64) (.one (.int .i64)))), (8, .any)], []⟩ [0] (.lp ⟨[(6, .own 50 (.cons (.int .i64) (.one (.int .i64)))), (7, .dat (.int .i64))], []⟩ (.tw 12 (.mix [([0, 1, 2, 3, 4, 5, 6, 7, 8, 9, 10, 11], 12)] [] [13, 14] [] (.nil)) (.nil))) (.per 2 3 (.cl ok_graph_New [] (.nil)))
noncomputable def sp_law10_Of : Spec := ⟨7, ⟨[(0, .dat (.int .i64)), (1, .dat (.sl (.cons (.int .i64) (.one (.int .i64)))))], []⟩, [⟨[(0, .tup [.dat (.ptr (.cons (.int .i64) (.cons (.sl (.cons (.int .i64) (.one (.int .i64)))) (.cons (.cons (.sl (.int .i64)) (.one (.sl (.int .i64)))) (.one (.cons (.sl (.int .i64)) (.one (.sl (.int .i64))))))))), .dat (.int .i64)])], []⟩], fun x => fn_law10_Of x.1 x.2⟩
theorem law10_Of_is : SpecOk Try.prog sp_law10_Of := fn_is Try.func7 h_law10_Of (by kernel_rfl) (by kernel_rfl)
noncomputable def ok_law10_Of : OkSpec Try.prog := ⟨sp_law10_Of, law10_Of_is, Try.call7⟩

noncomputable def fn_graph_Graph_Nodes (xa : (Option (Int × (List (Int × Int)) × ((List Int) × (List Int)) × ((List Int) × (List Int))))) : Option Int :=
  cond (xa.isNone) (some (0)) ((xa : Option (Int × (List (Int × Int)) × ((List Int) × (List Int)) × ((List Int) × (List Int)))).bind fun y11 => some (y11.1))
noncomputable def h_graph_Graph_Nodes : Hn Try.prog := .tw 4 (.nil) (.nil)
noncomputable def sp_graph_Graph_Nodes : Spec := ⟨25, ⟨[(0, .dat (.ptr (.cons (.int .i64) (.cons (.sl (.cons (.int .i64) (.one (.int .i64)))) (.cons (.cons (.sl (.int .i64)) (.one (.sl (.int .i64)))) (.one (.cons (.sl (.int .i64)) (.one (.sl (.int .i64))))))))))], []⟩, [⟨[(0, .dat (.int .i64))], []⟩], fun x => fn_graph_Graph_Nodes x⟩
theorem graph_Graph_Nodes_is : SpecOk Try.prog sp_graph_Graph_Nodes := fn_is Try.func25 h_graph_Graph_Nodes (by kernel_rfl) (by kernel_rfl)
noncomputable def ok_graph_Graph_Nodes : OkSpec Try.prog := ⟨sp_graph_Graph_Nodes, graph_Graph_Nodes_is, Try.call25⟩

noncomputable def fn_math_bits_Mul64 (xa : Int) (xb : Int) : Option (Int × Int) :=
  some ((IntKind.wrap .u64 ((IntKind.wrap .u64 ((IntKind.wrap .u64 ((Int.fdiv xa (2 ^ (min (Int.toNat 32) (IntKind.bits .u64)))) * (Int.fdiv xb (2 ^ (min (Int.toNat 32) (IntKind.bits .u64)))))) + (Int.fdiv (IntKind.wrap .u64 ((IntKind.wrap .u64 ((Int.fdiv xa (2 ^ (min (Int.toNat 32) (IntKind.bits .u64)))) * (IntKind.wrap .u64 ((BitVec.ofInt (IntKind.bits .u64) xb &&& BitVec.ofInt (IntKind.bits .u64) 4294967295).toNat : Int)))) + (Int.fdiv (IntKind.wrap .u64 ((IntKind.wrap .u64 ((BitVec.ofInt (IntKind.bits .u64) xa &&& BitVec.ofInt (IntKind.bits .u64) 4294967295).toNat : Int)) * (IntKind.wrap .u64 ((BitVec.ofInt (IntKind.bits .u64) xb &&& BitVec.ofInt (IntKind.bits .u64) 4294967295).toNat : Int)))) (2 ^ (min (Int.toNat 32) (IntKind.bits .u64)))))) (2 ^ (min (Int.toNat 32) (IntKind.bits .u64)))))) + (Int.fdiv (IntKind.wrap .u64 ((IntKind.wrap .u64 ((BitVec.ofInt (IntKind.bits .u64) (IntKind.wrap .u64 ((IntKind.wrap .u64 ((Int.fdiv xa (2 ^ (min (Int.toNat 32) (IntKind.bits .u64)))) * (IntKind.wrap .u64 ((BitVec.ofInt (IntKind.bits .u64) xb &&& BitVec.ofInt (IntKind.bits .u64) 4294967295).toNat : Int)))) + (Int.fdiv (IntKind.wrap .u64 ((IntKind.wrap .u64 ((BitVec.ofInt (IntKind.bits .u64) xa &&& BitVec.ofInt (IntKind.bits .u64) 4294967295).toNat : Int)) * (IntKind.wrap .u64 ((BitVec.ofInt (IntKind.bits .u64) xb &&& BitVec.ofInt (IntKind.bits .u64) 4294967295).toNat : Int)))) (2 ^ (min (Int.toNat 32) (IntKind.bits .u64)))))) &&& BitVec.ofInt (IntKind.bits .u64) 4294967295).toNat : Int)) + (IntKind.wrap .u64 ((IntKind.wrap .u64 ((BitVec.ofInt (IntKind.bits .u64) xa &&& BitVec.ofInt (IntKind.bits .u64) 4294967295).toNat : Int)) * (Int.fdiv xb (2 ^ (min (Int.toNat 32) (IntKind.bits .u64)))))))) (2 ^ (min (Int.toNat 32) (IntKind.bits .u64))))), IntKind.wrap .u64 (xa * xb)))
noncomputable def h_math_bits_Mul64 : Hn Try.prog := .nil
noncomputable def sp_math_bits_Mul64 : Spec := ⟨54, ⟨[(0, .dat (.int .u64)), (1, .dat (.int .u64))], []⟩, [⟨[(0, .tup [.dat (.int .u64), .dat (.int .u64)])], []⟩], fun x => fn_math_bits_Mul64 x.1 x.2⟩
theorem math_bits_Mul64_is : SpecOk Try.prog sp_math_bits_Mul64 := fn_is Try.func54 h_math_bits_Mul64 (by kernel_rfl) (by kernel_rfl)
noncomputable def ok_math_bits_Mul64 : OkSpec Try.prog := ⟨sp_math_bits_Mul64, math_bits_Mul64_is, Try.call54⟩

noncomputable def fn_math_bits_Mul (xa : Int) (xb : Int) : Option (Int × Int) :=
  (fn_math_bits_Mul64 xa xb).bind fun (i13, i14) => some ((i13, i14))
noncomputable def h_math_bits_Mul : Hn Try.prog := .cl ok_math_bits_Mul64 [] (.nil)
noncomputable def sp_math_bits_Mul : Spec := ⟨47, ⟨[(0, .dat (.int .u64)), (1, .dat (.int .u64))], []⟩, [⟨[(0, .tup [.dat (.int .u64), .dat (.int .u64)])], []⟩], fun x => fn_math_bits_Mul x.1 x.2⟩
theorem math_bits_Mul_is : SpecOk Try.prog sp_math_bits_Mul := fn_is Try.func47 h_math_bits_Mul (by kernel_rfl) (by kernel_rfl)
noncomputable def ok_math_bits_Mul : OkSpec Try.prog := ⟨sp_math_bits_Mul, math_bits_Mul_is, Try.call47⟩
noncomputable def fn_slices_Repeat_int_int_l1  : ((List Int) × Int) → Option (((List Int) × Int) ⊕ (List Int)) := fun ((l359, i364) : ((List Int) × Int)) => cond (decide (i364 < (((l359.length : Nat) : Int)))) ((subL l359 i364 (((l359.length : Nat) : Int))).bind fun _ => (subL l359 0 i364).bind fun _ => (some (cpy l359 ((i364 : Int).toNat) ((List.drop (0 : Int).toNat (List.take (i364 : Int).toNat l359)).take (((((l359.length : Nat) : Int) : Int).toNat) - (i364 : Int).toNat)))).bind fun z388 => some (.inl ((z388, IntKind.wrap .i64 (i364 + (((min (List.drop (0 : Int).toNat (List.take (i364 : Int).toNat l359)).length (((((l359.length : Nat) : Int) : Int).toNat) - (i364 : Int).toNat) : Nat) : Int))))))) (some (.inr (l359)))
noncomputable def fn_slices_Repeat_int_int (xa : (List Int)) (xb : Int) : Option (List Int) :=
  (cond (decide (xb < 0)) (none) (some (())) : Option Unit).bind fun () => (fn_math_bits_Mul (IntKind.wrap .u64 (((xa.length : Nat) : Int))) (IntKind.wrap .u64 xb)).bind fun (i202, i203) => (cond ((decide (0 < i202)) || (decide (9223372036854775807 < i203))) (none) (some (())) : Option Unit).bind fun () => (mk (IntKind.wrap .i64 i203) (IntKind.wrap .i64 i203) 0 : Option (List Int)).bind fun z213 => (some (cpy z213 ((0 : Int).toNat) (xa.take (z213.length - (0 : Int).toNat)))).bind fun z218 => (loop (fn_slices_Repeat_int_int_l1) ((z218, ((min xa.length (z213.length - (0 : Int).toNat) : Nat) : Int))) : Option (List Int)).bind fun l330 => some (l330)
noncomputable def h_slices_Repeat_int_int : Hn Try.prog := .pl (.sq [] ⟨[], []⟩ [] (.tw 10 (.nil) (.nil)) (.cl ok_math_bits_Mul [] (.sq [] ⟨[], []⟩ [] (.gp 2 (.tw 26 (.nil) (.nil))) (.jn [] ⟨[(7, .own 3 (.int .i64)), (30, .any), (31, .any)], []⟩ [0] (.lp ⟨[(7, .own 3 (.int .i64)), (8, .dat (.int .i64))], []⟩ (.tw 37 (.mix [([0, 1, 2, 3, 4, 5, 6], 7)] [8, 9] [] [3] (.nil)) (.nil))) (.nil)))))
noncomputable def sp_slices_Repeat_int_int : Spec := ⟨34, ⟨[(0, .dat (.sl (.int .i64))), (1, .dat (.int .i64))], []⟩, [⟨[(0, .own 3 (.int .i64))], []⟩], fun x => fn_slices_Repeat_int_int x.1 x.2⟩
theorem slices_Repeat_int_int_is : SpecOk Try.prog sp_slices_Repeat_int_int := fn_is Try.func34 h_slices_Repeat_int_int (by kernel_rfl) (by kernel_rfl)
noncomputable def ok_slices_Repeat_int_int : OkSpec Try.prog := ⟨sp_slices_Repeat_int_int, slices_Repeat_int_int_is, Try.call34⟩

noncomputable def fn_bfs_Tree_reach_p0ii_rrn (xb : Int) (xc : Int) (qa0 : (List Int)) (qa1 : (List Int)) : Option (((List Int) × (List Int) × (List (List Int)))) :=
  (getI qa0 xb).bind fun x88 => (some (qa0.set xb.toNat xc)).bind fun z95 => (cond (decide (xc = 0)) ((app ([] : List (List Int)) (([[]] : List (List Int)) : List (List Int))).bind fun z112 => some (z112)) (some ([])) : Option ((List (List Int)))).bind fun l108 => (getI l108 xc).bind fun x114 => (getI l108 xc).bind fun _ => (chkI xc xc).bind fun _ => (app x114 ([xb] : List Int)).bind fun z157 => (getI l108 xc).bind fun _ => (chkI xc xc).bind fun _ => some ((z95, qa1, l108.set xc.toNat z157))
noncomputable def h_bfs_Tree_reach_p0ii_rrn : Hn Try.prog := .pl (.sq [(0, 0), (0, 1)] ⟨[], [⟨(some 0), 70, [.is 1 (.any), .is 2 (.any), .od (.row 28 (.row 3 (.dat (.int .i64))))], false, false, none⟩, ⟨(some 7), 0, [], false, true, none⟩, ⟨(some 8), 0, [], false, true, none⟩]⟩ [0] (.tw 19 (.ot (.row 3 (.dat (.int .i64))) (.ot (.row 3 (.dat (.int .i64))) (.nil))) (.nil)) (.opp [9] 9 38 (.mix [([0, 1, 2, 3, 4, 5, 6, 7, 8, 9, 10, 11, 12], 13), ([], 14)] [15] [16] [13] (.cls 9 19 (.nil)))))
noncomputable def sp_bfs_Tree_reach_p0ii_rrn : Spec := ⟨35, ⟨[(0, .ptr 0 0), (1, .dat (.int .i64)), (2, .dat (.int .i64))], [⟨none, 70, [.own 3 (.int .i64), .own 3 (.int .i64), .nils], false, false, none⟩]⟩, [⟨[], [⟨(some 0), 70, [.own 3 (.int .i64), .own 3 (.int .i64), .od (.row 28 (.row 3 (.dat (.int .i64))))], false, false, none⟩]⟩], fun x => fn_bfs_Tree_reach_p0ii_rrn x.1 x.2.1 x.2.2.1 x.2.2.2⟩
theorem bfs_Tree_reach_p0ii_rrn_is : SpecOk Try.prog sp_bfs_Tree_reach_p0ii_rrn := fn_is Try.func35 h_bfs_Tree_reach_p0ii_rrn (by kernel_rfl) (by kernel_rfl)
noncomputable def ok_bfs_Tree_reach_p0ii_rrn : OkSpec Try.prog := ⟨sp_bfs_Tree_reach_p0ii_rrn, bfs_Tree_reach_p0ii_rrn_is, Try.call35⟩

noncomputable def fn_stack_Queue_int_grow_p0_nii (qa1 : Int) (qa2 : Int) : Option (List Int) :=
  (mk (IntKind.wrap .i64 ((IntKind.wrap .i64 (2 * 0)) + 1)) (IntKind.wrap .i64 ((IntKind.wrap .i64 (2 * 0)) + 1)) 0 : Option (List Int)).bind fun z15 => (subL ([] : List Unit) qa1 0).bind fun _ => (some (cpy z15 ((0 : Int).toNat) (([] : List Int).take (z15.length - (0 : Int).toNat)))).bind fun z20 => (subL z20 (((min ([] : List Int).length (z15.length - (0 : Int).toNat) : Nat) : Int)) (((z15.length : Nat) : Int))).bind fun _ => (subL ([] : List Unit) 0 qa1).bind fun _ => (some (cpy z20 ((((min ([] : List Int).length (z15.length - (0 : Int).toNat) : Nat) : Int) : Int).toNat) (([] : List Int).take (((((z15.length : Nat) : Int) : Int).toNat) - (((min ([] : List Int).length (z15.length - (0 : Int).toNat) : Nat) : Int) : Int).toNat)))).bind fun z22 => some (z22)
noncomputable def h_stack_Queue_int_grow_p0_nii : Hn Try.prog := .mix [] [0, 1, 2, 3, 4, 5, 6, 7, 8, 9] [10, 11] [] (.mix [] [0, 1, 2, 3, 4, 5, 6, 7, 8, 9, 10, 11] [12] [] (.nil))
noncomputable def sp_stack_Queue_int_grow_p0_nii : Spec := ⟨48, ⟨[(0, .ptr 0 0)], [⟨none, 72, [.nils, .dat (.int .i64), .is 1 (.dat (.int .i64))], false, false, none⟩, ⟨none, 0, [], false, true, none⟩]⟩, [⟨[], [⟨(some 0), 72, [.own 3 (.int .i64), .lit (.int .i64 0), .is 1 (.any)], false, false, none⟩, ⟨(some 1), 0, [], false, true, none⟩]⟩], fun x => fn_stack_Queue_int_grow_p0_nii x.1 x.2⟩
theorem stack_Queue_int_grow_p0_nii_is : SpecOk Try.prog sp_stack_Queue_int_grow_p0_nii := fn_is Try.func48 h_stack_Queue_int_grow_p0_nii (by kernel_rfl) (by kernel_rfl)
noncomputable def ok_stack_Queue_int_grow_p0_nii : OkSpec Try.prog := ⟨sp_stack_Queue_int_grow_p0_nii, stack_Queue_int_grow_p0_nii_is, Try.call48⟩

noncomputable def fn_stack_Queue_int_grow_p0_rii (qa0 : (List Int)) (qa1 : Int) (qa2 : Int) : Option (List Int) :=
  (mk (IntKind.wrap .i64 ((IntKind.wrap .i64 (2 * (((qa0.length : Nat) : Int)))) + 1)) (IntKind.wrap .i64 ((IntKind.wrap .i64 (2 * (((qa0.length : Nat) : Int)))) + 1)) 0 : Option (List Int)).bind fun z15 => (subL qa0 qa1 (((qa0.length : Nat) : Int))).bind fun _ => (some (cpy z15 ((0 : Int).toNat) ((List.drop (qa1 : Int).toNat (List.take (((qa0.length : Nat) : Int) : Int).toNat qa0)).take (z15.length - (0 : Int).toNat)))).bind fun z20 => (subL z20 (((min (List.drop (qa1 : Int).toNat (List.take (((qa0.length : Nat) : Int) : Int).toNat qa0)).length (z15.length - (0 : Int).toNat) : Nat) : Int)) (((z15.length : Nat) : Int))).bind fun _ => (subL qa0 0 qa1).bind fun _ => (some (cpy z20 ((((min (List.drop (qa1 : Int).toNat (List.take (((qa0.length : Nat) : Int) : Int).toNat qa0)).length (z15.length - (0 : Int).toNat) : Nat) : Int) : Int).toNat) ((List.drop (0 : Int).toNat (List.take (qa1 : Int).toNat qa0)).take (((((z15.length : Nat) : Int) : Int).toNat) - (((min (List.drop (qa1 : Int).toNat (List.take (((qa0.length : Nat) : Int) : Int).toNat qa0)).length (z15.length - (0 : Int).toNat) : Nat) : Int) : Int).toNat)))).bind fun z22 => some (z22)
noncomputable def h_stack_Queue_int_grow_p0_rii : Hn Try.prog := .mix [] [0, 1, 2, 3, 4, 5, 6, 7, 8, 9] [10, 11] [] (.mix [] [0, 1, 2, 3, 4, 5, 6, 7, 8, 9, 10, 11] [12] [] (.nil))
noncomputable def sp_stack_Queue_int_grow_p0_rii : Spec := ⟨48, ⟨[(0, .ptr 0 0)], [⟨none, 72, [.own 3 (.int .i64), .dat (.int .i64), .is 1 (.dat (.int .i64))], false, false, none⟩, ⟨none, 0, [], false, true, none⟩]⟩, [⟨[], [⟨(some 0), 72, [.own 3 (.int .i64), .lit (.int .i64 0), .is 1 (.any)], false, false, none⟩, ⟨(some 1), 0, [], false, true, none⟩]⟩], fun x => fn_stack_Queue_int_grow_p0_rii x.1 x.2.1 x.2.2⟩
theorem stack_Queue_int_grow_p0_rii_is : SpecOk Try.prog sp_stack_Queue_int_grow_p0_rii := fn_is Try.func48 h_stack_Queue_int_grow_p0_rii (by kernel_rfl) (by kernel_rfl)
noncomputable def ok_stack_Queue_int_grow_p0_rii : OkSpec Try.prog := ⟨sp_stack_Queue_int_grow_p0_rii, stack_Queue_int_grow_p0_rii_is, Try.call48⟩
noncomputable def fn_stack_Queue_int_Push_p0k_nii_l1 (xb : (List Int)) : (Int × (List Int) × Int × Int) → Option ((Int × (List Int) × Int × Int) ⊕ ((List Int) × Int × Int)) := fun ((i914, l915, i920, i921) : (Int × (List Int) × Int × Int)) => cond (decide (i914 < (((xb.length : Nat) : Int)))) ((getI xb i914).bind fun x1014 => (cond (decide (i921 = (((l915.length : Nat) : Int)))) ((fn_stack_Queue_int_grow_p0_rii l915 i920 i921).bind fun l1044 => some ((l1044, 0))) (some ((l915, i920))) : Option (((List Int) × Int))).bind fun (l1035, i1040) => (nz (((l1035.length : Nat) : Int))).bind fun u1080 => (getI l1035 (Int.tmod (IntKind.wrap .i64 (i1040 + i921)) (((l1035.length : Nat) : Int)))).bind fun x1082 => (some (l1035.set (Int.tmod (IntKind.wrap .i64 (i1040 + i921)) (((l1035.length : Nat) : Int))).toNat x1014)).bind fun z1089 => some (.inl ((IntKind.wrap .i64 (i914 + 1), z1089, i1040, IntKind.wrap .i64 (i921 + 1))))) (some (.inr (((l915, i920, i921)))))
noncomputable def fn_stack_Queue_int_Push_p0k_nii (xb : (List Int)) (qa1 : Int) (qa2 : Int) : Option (((List Int) × Int × Int)) :=
  (loop (fn_stack_Queue_int_Push_p0k_nii_l1 xb) (0, [], qa1, qa2) : Option (((List Int) × Int × Int))).bind fun (l819, i824, i825) => some ((l819, i824, i825))
noncomputable def h_stack_Queue_int_Push_p0k_nii : Hn Try.prog := .jn [] ⟨[], [⟨(some 0), 72, [.own 3 (.int .i64), .dat (.int .i64), .dat (.int .i64)], false, false, none⟩]⟩ [0] (.lp ⟨[(10, .dat (.int .i64))], [⟨(some 0), 72, [.own 3 (.int .i64), .dat (.int .i64), .dat (.int .i64)], false, false, none⟩]⟩ (.tw 11 (.pl (.pl (.sq [(0, 2)] ⟨[], [⟨(some 0), 72, [.own 3 (.int .i64), .dat (.int .i64), .is 1 (.any)], false, false, none⟩, ⟨(some 5), 0, [], false, true, none⟩]⟩ [0, 2] (.mix [] [0, 1, 2, 3, 4, 5, 6, 7, 8, 9] [] [] (.tw 23 (.cl ok_stack_Queue_int_grow_p0_rii [] (.nil)) (.nil))) (.mix [] [0, 1, 2, 3, 4, 5, 6, 7, 8, 9, 10, 11, 12, 13, 14, 15, 16, 17, 18, 19, 20] [21] [] (.nil))))) (.nil))) (.nil)
noncomputable def sp_stack_Queue_int_Push_p0k_nii : Spec := ⟨36, ⟨[(0, .ptr 0 0), (1, .dat (.sl (.int .i64)))], [⟨none, 72, [.nils, .dat (.int .i64), .dat (.int .i64)], false, false, none⟩]⟩, [⟨[], [⟨(some 0), 72, [.own 3 (.int .i64), .dat (.int .i64), .dat (.int .i64)], false, false, none⟩]⟩], fun x => fn_stack_Queue_int_Push_p0k_nii x.1 x.2.1 x.2.2⟩
theorem stack_Queue_int_Push_p0k_nii_is : SpecOk Try.prog sp_stack_Queue_int_Push_p0k_nii := fn_is Try.func36 h_stack_Queue_int_Push_p0k_nii (by kernel_rfl) (by kernel_rfl)
noncomputable def ok_stack_Queue_int_Push_p0k_nii : OkSpec Try.prog := ⟨sp_stack_Queue_int_Push_p0k_nii, stack_Queue_int_Push_p0k_nii_is, Try.call36⟩

noncomputable def fn_stack_Queue_int_Len_p0_rii (qa0 : (List Int)) (qa1 : Int) (qa2 : Int) : Option ((Int × (List Int))) :=
  some ((qa2, qa0))
noncomputable def h_stack_Queue_int_Len_p0_rii : Hn Try.prog := .nil
noncomputable def sp_stack_Queue_int_Len_p0_rii : Spec := ⟨37, ⟨[(0, .ptr 0 0)], [⟨none, 72, [.own 3 (.int .i64), .is 1 (.dat (.int .i64)), .is 2 (.dat (.int .i64))], false, false, none⟩, ⟨none, 0, [], false, true, none⟩, ⟨none, 0, [], false, true, none⟩]⟩, [⟨[(0, .dat (.int .i64))], [⟨(some 0), 72, [.own 3 (.int .i64), .is 1 (.any), .is 2 (.any)], false, false, none⟩, ⟨(some 1), 0, [], false, true, none⟩, ⟨(some 2), 0, [], false, true, none⟩]⟩], fun x => fn_stack_Queue_int_Len_p0_rii x.1 x.2.1 x.2.2⟩
theorem stack_Queue_int_Len_p0_rii_is : SpecOk Try.prog sp_stack_Queue_int_Len_p0_rii := fn_is Try.func37 h_stack_Queue_int_Len_p0_rii (by kernel_rfl) (by kernel_rfl)
noncomputable def ok_stack_Queue_int_Len_p0_rii : OkSpec Try.prog := ⟨sp_stack_Queue_int_Len_p0_rii, stack_Queue_int_Len_p0_rii_is, Try.call37⟩

noncomputable def fn_stack_Queue_int_Pop_p0_rii (qa0 : (List Int)) (qa1 : Int) (qa2 : Int) : Option ((Int × Bool × (List Int) × Int × Int)) :=
  (fn_stack_Queue_int_Len_p0_rii qa0 qa1 qa2).bind fun (i94, l95) => cond (decide (i94 = 0)) (some ((0, false, l95, qa1, qa2))) ((getI l95 qa1).bind fun x126 => (getI l95 qa1).bind fun x154 => (some (l95.set qa1.toNat 0)).bind fun z161 => (nz (((l95.length : Nat) : Int))).bind fun u172 => some ((x126, true, z161, Int.tmod (IntKind.wrap .i64 (qa1 + 1)) (((l95.length : Nat) : Int)), IntKind.wrap .i64 (qa2 - 1))))
noncomputable def h_stack_Queue_int_Pop_p0_rii : Hn Try.prog := .mc 0 1 3 (.mc 0 2 3 (.cl ok_stack_Queue_int_Len_p0_rii [] (.tw 8 (.nil) (.mix [] [0, 1, 2, 3, 4, 5, 6, 7, 8, 9, 10] [] [] (.mix [] [0, 1, 2, 3, 4, 5, 6, 7, 8, 9] [10] [] (.mix [] [0, 1, 2, 3, 4, 5, 6, 7, 8, 9, 10, 11, 12, 13] [14] [] (.nil)))))))
noncomputable def sp_stack_Queue_int_Pop_p0_rii : Spec := ⟨38, ⟨[(0, .ptr 0 0)], [⟨none, 72, [.own 3 (.int .i64), .dat (.int .i64), .dat (.int .i64)], false, false, none⟩]⟩, [⟨[(0, .tup [.dat (.int .i64), .dat .bool])], [⟨(some 0), 72, [.own 3 (.int .i64), .dat (.int .i64), .dat (.int .i64)], false, false, none⟩]⟩], fun x => fn_stack_Queue_int_Pop_p0_rii x.1 x.2.1 x.2.2⟩
theorem stack_Queue_int_Pop_p0_rii_is : SpecOk Try.prog sp_stack_Queue_int_Pop_p0_rii := fn_is Try.func38 h_stack_Queue_int_Pop_p0_rii (by kernel_rfl) (by kernel_rfl)
noncomputable def ok_stack_Queue_int_Pop_p0_rii : OkSpec Try.prog := ⟨sp_stack_Queue_int_Pop_p0_rii, stack_Queue_int_Pop_p0_rii_is, Try.call38⟩

noncomputable def fn_graph_Graph_isNode (xa : (Option (Int × (List (Int × Int)) × ((List Int) × (List Int)) × ((List Int) × (List Int))))) (xb : Int) : Option Bool :=
  (cond (decide (0 ≤ xb)) ((fn_graph_Graph_Nodes xa).bind fun i28 => some (decide (xb < i28))) (some (false))).bind fun t24 => some (t24)
noncomputable def h_graph_Graph_isNode : Hn Try.prog := .gj 4 ⟨[(12, .dat .bool)], []⟩ [] (.two 7 (.cl ok_graph_Graph_Nodes [] (.nil)) (.nil)) (.nil)
noncomputable def sp_graph_Graph_isNode : Spec := ⟨49, ⟨[(0, .dat (.ptr (.cons (.int .i64) (.cons (.sl (.cons (.int .i64) (.one (.int .i64)))) (.cons (.cons (.sl (.int .i64)) (.one (.sl (.int .i64)))) (.one (.cons (.sl (.int .i64)) (.one (.sl (.int .i64)))))))))), (1, .dat (.int .i64))], []⟩, [⟨[(0, .dat .bool)], []⟩], fun x => fn_graph_Graph_isNode x.1 x.2⟩
theorem graph_Graph_isNode_is : SpecOk Try.prog sp_graph_Graph_isNode := fn_is Try.func49 h_graph_Graph_isNode (by kernel_rfl) (by kernel_rfl)
noncomputable def ok_graph_Graph_isNode : OkSpec Try.prog := ⟨sp_graph_Graph_isNode, graph_Graph_isNode_is, Try.call49⟩

noncomputable def fn_graph_index_of (xa : ((List Int) × (List Int))) (xb : Int) : Option (List Int) :=
  (getI xa.1 xb).bind fun x175 => (getI xa.1 (IntKind.wrap .i64 (xb + 1))).bind fun x184 => (subL xa.2 x175 x184).bind fun y193 => some (y193)
noncomputable def h_graph_index_of : Hn Try.prog := .mix [] [0, 1, 2, 3, 4, 5, 6, 7, 8, 9, 10, 11, 12, 13, 14] [] [] (.nil)
noncomputable def sp_graph_index_of : Spec := ⟨50, ⟨[(0, .dat (.cons (.sl (.int .i64)) (.one (.sl (.int .i64))))), (1, .dat (.int .i64))], []⟩, [⟨[(0, .dat (.sl (.int .i64)))], []⟩], fun x => fn_graph_index_of x.1 x.2⟩
theorem graph_index_of_is : SpecOk Try.prog sp_graph_index_of := fn_is Try.func50 h_graph_index_of (by kernel_rfl) (by kernel_rfl)
noncomputable def ok_graph_index_of : OkSpec Try.prog := ⟨sp_graph_index_of, graph_index_of_is, Try.call50⟩

noncomputable def fn_graph_Graph_Out (xa : (Option (Int × (List (Int × Int)) × ((List Int) × (List Int)) × ((List Int) × (List Int))))) (xb : Int) : Option (List Int) :=
  (fn_graph_Graph_isNode xa xb).bind fun t48 => cond (!t48) (some ([])) ((xa : Option (Int × (List (Int × Int)) × ((List Int) × (List Int)) × ((List Int) × (List Int)))).bind fun y54 => (fn_graph_index_of (y54.2.2.1.1, y54.2.2.1.2) xb).bind fun l70 => (fn_slices_Clone_int_int l70).bind fun l79 => some (l79))
noncomputable def h_graph_Graph_Out : Hn Try.prog := .cl ok_graph_Graph_isNode [] (.tw 8 (.nil) (.cl ok_graph_index_of [] (.cl ok_slices_Clone_int_int [] (.nil))))
noncomputable def sp_graph_Graph_Out : Spec := ⟨39, ⟨[(0, .dat (.ptr (.cons (.int .i64) (.cons (.sl (.cons (.int .i64) (.one (.int .i64)))) (.cons (.cons (.sl (.int .i64)) (.one (.sl (.int .i64)))) (.one (.cons (.sl (.int .i64)) (.one (.sl (.int .i64)))))))))), (1, .dat (.int .i64))], []⟩, [⟨[(0, .own 3 (.int .i64))], []⟩], fun x => fn_graph_Graph_Out x.1 x.2⟩
theorem graph_Graph_Out_is : SpecOk Try.prog sp_graph_Graph_Out := fn_is Try.func39 h_graph_Graph_Out (by kernel_rfl) (by kernel_rfl)
noncomputable def ok_graph_Graph_Out : OkSpec Try.prog := ⟨sp_graph_Graph_Out, graph_Graph_Out_is, Try.call39⟩

noncomputable def fn_tick_Counter_Add_zii (xb : Int) (xc : Int) : Option Unit :=
  some (())
noncomputable def h_tick_Counter_Add_zii : Hn Try.prog := .nil
noncomputable def sp_tick_Counter_Add_zii : Spec := ⟨24, ⟨[(0, .nilp), (1, .dat (.int .i64)), (2, .dat (.int .i64))], []⟩, [⟨[], []⟩], fun x => fn_tick_Counter_Add_zii x.1 x.2⟩
theorem tick_Counter_Add_zii_is : SpecOk Try.prog sp_tick_Counter_Add_zii := fn_is Try.func24 h_tick_Counter_Add_zii (by kernel_rfl) (by kernel_rfl)
noncomputable def ok_tick_Counter_Add_zii : OkSpec Try.prog := ⟨sp_tick_Counter_Add_zii, tick_Counter_Add_zii_is, Try.call24⟩

noncomputable def fn_graph_Graph_Arcs (xa : (Option (Int × (List (Int × Int)) × ((List Int) × (List Int)) × ((List Int) × (List Int))))) : Option Int :=
  cond (xa.isNone) (some (0)) ((xa : Option (Int × (List (Int × Int)) × ((List Int) × (List Int)) × ((List Int) × (List Int)))).bind fun y14 => some (((y14.2.1.length : Nat) : Int)))
noncomputable def h_graph_Graph_Arcs : Hn Try.prog := .tw 4 (.nil) (.nil)
noncomputable def sp_graph_Graph_Arcs : Spec := ⟨43, ⟨[(0, .dat (.ptr (.cons (.int .i64) (.cons (.sl (.cons (.int .i64) (.one (.int .i64)))) (.cons (.cons (.sl (.int .i64)) (.one (.sl (.int .i64)))) (.one (.cons (.sl (.int .i64)) (.one (.sl (.int .i64))))))))))], []⟩, [⟨[(0, .dat (.int .i64))], []⟩], fun x => fn_graph_Graph_Arcs x⟩
theorem graph_Graph_Arcs_is : SpecOk Try.prog sp_graph_Graph_Arcs := fn_is Try.func43 h_graph_Graph_Arcs (by kernel_rfl) (by kernel_rfl)
noncomputable def ok_graph_Graph_Arcs : OkSpec Try.prog := ⟨sp_graph_Graph_Arcs, graph_Graph_Arcs_is, Try.call43⟩

noncomputable def fn_graph_Graph_Arc (xa : (Option (Int × (List (Int × Int)) × ((List Int) × (List Int)) × ((List Int) × (List Int))))) (xb : Int) : Option (Int × Int × Bool) :=
  (cond (decide (xb < 0)) (some (true)) ((fn_graph_Graph_Arcs xa).bind fun i52 => some (decide (i52 ≤ xb)))).bind fun t48 => cond (t48) (some ((0, 0, false))) ((xa : Option (Int × (List (Int × Int)) × ((List Int) × (List Int)) × ((List Int) × (List Int)))).bind fun y57 => (getI y57.2.1 xb).bind fun x67 => some ((x67.1, x67.2, true)))
noncomputable def h_graph_Graph_Arc : Hn Try.prog := .gj 4 ⟨[(13, .dat .bool)], []⟩ [] (.two 8 (.nil) (.cl ok_graph_Graph_Arcs [] (.nil))) (.tw 13 (.nil) (.nil))
noncomputable def sp_graph_Graph_Arc : Spec := ⟨23, ⟨[(0, .dat (.ptr (.cons (.int .i64) (.cons (.sl (.cons (.int .i64) (.one (.int .i64)))) (.cons (.cons (.sl (.int .i64)) (.one (.sl (.int .i64)))) (.one (.cons (.sl (.int .i64)) (.one (.sl (.int .i64)))))))))), (1, .dat (.int .i64))], []⟩, [⟨[(0, .tup [.agg [.dat (.int .i64), .dat (.int .i64)], .dat .bool])], []⟩], fun x => fn_graph_Graph_Arc x.1 x.2⟩
theorem graph_Graph_Arc_is : SpecOk Try.prog sp_graph_Graph_Arc := fn_is Try.func23 h_graph_Graph_Arc (by kernel_rfl) (by kernel_rfl)
noncomputable def ok_graph_Graph_Arc : OkSpec Try.prog := ⟨sp_graph_Graph_Arc, graph_Graph_Arc_is, Try.call23⟩

noncomputable def fn_bfs_Tree_reach_p0ii_rrod (xb : Int) (xc : Int) (qa0 : (List Int)) (qa1 : (List Int)) (qa2 : (List (List Int))) : Option (((List Int) × (List Int) × (List (List Int)))) :=
  (getI qa0 xb).bind fun x121 => (some (qa0.set xb.toNat xc)).bind fun z128 => (cond (decide (xc = (((qa2.length : Nat) : Int)))) ((app (qa2 : List (List Int)) (([[]] : List (List Int)) : List (List Int))).bind fun z154 => some (z154)) (some (qa2)) : Option ((List (List Int)))).bind fun l147 => (getI l147 xc).bind fun x156 => (getI l147 xc).bind fun _ => (chkI xc xc).bind fun _ => (app x156 ([xb] : List Int)).bind fun z199 => (getI l147 xc).bind fun _ => (chkI xc xc).bind fun _ => some ((z128, qa1, l147.set xc.toNat z199))
noncomputable def h_bfs_Tree_reach_p0ii_rrod : Hn Try.prog := .pl (.sq [(0, 0), (0, 1)] ⟨[], [⟨(some 0), 70, [.is 1 (.any), .is 2 (.any), .od (.row 28 (.row 3 (.dat (.int .i64))))], false, false, none⟩, ⟨(some 9), 0, [], false, true, none⟩, ⟨(some 10), 0, [], false, true, none⟩]⟩ [0, 5] (.tw 19 (.ot (.row 3 (.dat (.int .i64))) (.ot (.row 3 (.dat (.int .i64))) (.nil))) (.nil)) (.opp [9] 11 38 (.mix [([0, 1, 2, 3, 4, 5, 6, 7, 8, 9, 10, 11, 12], 13), ([], 14)] [15] [16] [15] (.cls 11 21 (.nil)))))
noncomputable def sp_bfs_Tree_reach_p0ii_rrod : Spec := ⟨35, ⟨[(0, .ptr 0 0), (1, .dat (.int .i64)), (2, .dat (.int .i64))], [⟨none, 70, [.own 3 (.int .i64), .own 3 (.int .i64), .od (.row 28 (.row 3 (.dat (.int .i64))))], false, false, none⟩]⟩, [⟨[], [⟨(some 0), 70, [.own 3 (.int .i64), .own 3 (.int .i64), .od (.row 28 (.row 3 (.dat (.int .i64))))], false, false, none⟩]⟩], fun x => fn_bfs_Tree_reach_p0ii_rrod x.1 x.2.1 x.2.2.1 x.2.2.2.1 x.2.2.2.2⟩
theorem bfs_Tree_reach_p0ii_rrod_is : SpecOk Try.prog sp_bfs_Tree_reach_p0ii_rrod := fn_is Try.func35 h_bfs_Tree_reach_p0ii_rrod (by kernel_rfl) (by kernel_rfl)
noncomputable def ok_bfs_Tree_reach_p0ii_rrod : OkSpec Try.prog := ⟨sp_bfs_Tree_reach_p0ii_rrod, bfs_Tree_reach_p0ii_rrod_is, Try.call35⟩
noncomputable def fn_stack_Queue_int_Push_p0k_rii_l1 (xb : (List Int)) : (Int × (List Int) × Int × Int) → Option ((Int × (List Int) × Int × Int) ⊕ ((List Int) × Int × Int)) := fun ((i915, l916, i921, i922) : (Int × (List Int) × Int × Int)) => cond (decide (i915 < (((xb.length : Nat) : Int)))) ((getI xb i915).bind fun x1014 => (cond (decide (i922 = (((l916.length : Nat) : Int)))) ((fn_stack_Queue_int_grow_p0_rii l916 i921 i922).bind fun l1044 => some ((l1044, 0))) (some ((l916, i921))) : Option (((List Int) × Int))).bind fun (l1035, i1040) => (nz (((l1035.length : Nat) : Int))).bind fun u1080 => (getI l1035 (Int.tmod (IntKind.wrap .i64 (i1040 + i922)) (((l1035.length : Nat) : Int)))).bind fun x1082 => (some (l1035.set (Int.tmod (IntKind.wrap .i64 (i1040 + i922)) (((l1035.length : Nat) : Int))).toNat x1014)).bind fun z1089 => some (.inl ((IntKind.wrap .i64 (i915 + 1), z1089, i1040, IntKind.wrap .i64 (i922 + 1))))) (some (.inr (((l916, i921, i922)))))
noncomputable def fn_stack_Queue_int_Push_p0k_rii (xb : (List Int)) (qa0 : (List Int)) (qa1 : Int) (qa2 : Int) : Option (((List Int) × Int × Int)) :=
  (loop (fn_stack_Queue_int_Push_p0k_rii_l1 xb) (0, qa0, qa1, qa2) : Option (((List Int) × Int × Int))).bind fun (l819, i824, i825) => some ((l819, i824, i825))
noncomputable def h_stack_Queue_int_Push_p0k_rii : Hn Try.prog := .jn [] ⟨[], [⟨(some 0), 72, [.own 3 (.int .i64), .dat (.int .i64), .dat (.int .i64)], false, false, none⟩]⟩ [1, 0] (.lp ⟨[(10, .dat (.int .i64))], [⟨(some 0), 72, [.own 3 (.int .i64), .dat (.int .i64), .dat (.int .i64)], false, false, none⟩]⟩ (.tw 11 (.pl (.pl (.sq [(0, 2)] ⟨[], [⟨(some 0), 72, [.own 3 (.int .i64), .dat (.int .i64), .is 1 (.any)], false, false, none⟩, ⟨(some 7), 0, [], false, true, none⟩]⟩ [0, 4] (.mix [] [0, 1, 2, 3, 4, 5, 6, 7, 8, 9] [] [] (.tw 23 (.cl ok_stack_Queue_int_grow_p0_rii [] (.nil)) (.nil))) (.mix [] [0, 1, 2, 3, 4, 5, 6, 7, 8, 9, 10, 11, 12, 13, 14, 15, 16, 17, 18, 19, 20] [21] [] (.nil))))) (.nil))) (.nil)
noncomputable def sp_stack_Queue_int_Push_p0k_rii : Spec := ⟨36, ⟨[(0, .ptr 0 0), (1, .dat (.sl (.int .i64)))], [⟨none, 72, [.own 3 (.int .i64), .dat (.int .i64), .dat (.int .i64)], false, false, none⟩]⟩, [⟨[], [⟨(some 0), 72, [.own 3 (.int .i64), .dat (.int .i64), .dat (.int .i64)], false, false, none⟩]⟩], fun x => fn_stack_Queue_int_Push_p0k_rii x.1 x.2.1 x.2.2.1 x.2.2.2⟩
theorem stack_Queue_int_Push_p0k_rii_is : SpecOk Try.prog sp_stack_Queue_int_Push_p0k_rii := fn_is Try.func36 h_stack_Queue_int_Push_p0k_rii (by kernel_rfl) (by kernel_rfl)
noncomputable def ok_stack_Queue_int_Push_p0k_rii : OkSpec Try.prog := ⟨sp_stack_Queue_int_Push_p0k_rii, stack_Queue_int_Push_p0k_rii_is, Try.call36⟩

noncomputable def fn_bfs_Tree_lead_p0ii_rrod (xb : Int) (xc : Int) (qa0 : (List Int)) (qa1 : (List Int)) (qa2 : (List (List Int))) : Option (((List Int) × (List Int) × (List (List Int)))) :=
  (getI qa1 xb).bind fun x110 => (cond (decide (x110 < 0)) (some (true)) ((getI qa1 xb).bind fun x127 => some (decide (xc < x127)))).bind fun t125 => cond (t125) ((getI qa1 xb).bind fun x147 => (some (qa1.set xb.toNat xc)).bind fun z154 => some ((qa0, z154, qa2))) (some ((qa0, qa1, qa2)))
noncomputable def h_bfs_Tree_lead_p0ii_rrod : Hn Try.prog := .gj 9 ⟨[(24, .dat .bool)], []⟩ [] (.two 14 (.nil) (.nil)) (.tw 24 (.nil) (.nil))
noncomputable def sp_bfs_Tree_lead_p0ii_rrod : Spec := ⟨40, ⟨[(0, .ptr 0 0), (1, .dat (.int .i64)), (2, .dat (.int .i64))], [⟨none, 70, [.own 3 (.int .i64), .own 3 (.int .i64), .od (.row 28 (.row 3 (.dat (.int .i64))))], false, false, none⟩]⟩, [⟨[], [⟨(some 0), 70, [.own 3 (.int .i64), .own 3 (.int .i64), .od (.row 28 (.row 3 (.dat (.int .i64))))], false, false, none⟩]⟩], fun x => fn_bfs_Tree_lead_p0ii_rrod x.1 x.2.1 x.2.2.1 x.2.2.2.1 x.2.2.2.2⟩
theorem bfs_Tree_lead_p0ii_rrod_is : SpecOk Try.prog sp_bfs_Tree_lead_p0ii_rrod := fn_is Try.func40 h_bfs_Tree_lead_p0ii_rrod (by kernel_rfl) (by kernel_rfl)
noncomputable def ok_bfs_Tree_lead_p0ii_rrod : OkSpec Try.prog := ⟨sp_bfs_Tree_lead_p0ii_rrod, bfs_Tree_lead_p0ii_rrod_is, Try.call40⟩
noncomputable def fn_bfs_From_kpiz_l1 (xa : (Option (Int × (List (Int × Int)) × ((List Int) × (List Int)) × ((List Int) × (List Int))))) (i83545 : Int) (l83570 : (List Int)) : (Int × (List Int) × (List Int) × (List (List Int)) × (List Int) × Int × Int) → Option ((Int × (List Int) × (List Int) × (List (List Int)) × (List Int) × Int × Int) ⊕ ((List Int) × (List Int) × (List (List Int)) × (List Int) × Int × Int)) := fun ((i89769, l89770, l89775, l89780, l89782, i89787, i89788) : (Int × (List Int) × (List Int) × (List (List Int)) × (List Int) × Int × Int)) => cond (decide (i89769 < (((l83570.length : Nat) : Int)))) ((getI l83570 i89769).bind fun x90420 => (fn_graph_Graph_Arc xa x90420).bind fun (i90438, i90439, t90440) => ((getI l89770 i90439).bind fun x90786 => cond (decide (x90786 < 0)) ((getI l89770 i83545).bind fun x90841 => (fn_bfs_Tree_reach_p0ii_rrod i90439 (IntKind.wrap .i64 (x90841 + 1)) l89770 l89775 l89780).bind fun (l90850, l90851, l90852) => (fn_stack_Queue_int_Push_p0k_rii ([i90439] : List Int) l89782 i89787 i89788).bind fun (l90894, i90895, i90896) => some ((l90850, l90851, l90852, l90894, i90895, i90896))) (some ((l89770, l89775, l89780, l89782, i89787, i89788))) : Option (((List Int) × (List Int) × (List (List Int)) × (List Int) × Int × Int))).bind fun (l90739, l90744, l90749, l90751, i90756, i90757) => (getI l90739 i90439).bind fun x90961 => (getI l90739 i83545).bind fun x90968 => cond (decide (x90961 = (IntKind.wrap .i64 (x90968 + 1)))) ((fn_bfs_Tree_lead_p0ii_rrod i90439 x90420 l90739 l90744 l90749).bind fun (l90997, l90998, l90999) => some (.inl ((IntKind.wrap .i64 (i89769 + 1), l90997, l90998, l90999, l90751, i90756, i90757)))) (some (.inl ((IntKind.wrap .i64 (i89769 + 1), l90739, l90744, l90749, l90751, i90756, i90757))))) (some (.inr (((l89770, l89775, l89780, l89782, i89787, i89788)))))
noncomputable def fn_bfs_From_kpiz_l2 (xa : (Option (Int × (List (Int × Int)) × ((List Int) × (List Int)) × ((List Int) × (List Int))))) : ((List Int) × (List Int) × (List (List Int)) × (List Int) × Int × Int) → Option (((List Int) × (List Int) × (List (List Int)) × (List Int) × Int × Int) ⊕ ((List Int) × (List Int) × (List (List Int)))) := fun ((l75953, l75958, l75963, l75965, i75970, i75971) : ((List Int) × (List Int) × (List (List Int)) × (List Int) × Int × Int)) => (fn_stack_Queue_int_Len_p0_rii l75965 i75970 i75971).bind fun (i83517, l83518) => cond (decide (0 < i83517)) ((fn_stack_Queue_int_Pop_p0_rii l83518 i75970 i75971).bind fun (i83545, t83546, l83547, i83548, i83549) => (fn_graph_Graph_Out xa i83545).bind fun l83570 => (fn_tick_Counter_Add_zii 6 (IntKind.wrap .i64 (1 + (((l83570.length : Nat) : Int))))).bind fun _ => (loop (fn_bfs_From_kpiz_l1 xa i83545 l83570) (0, l75953, l75958, l75963, l83547, i83548, i83549) : Option (((List Int) × (List Int) × (List (List Int)) × (List Int) × Int × Int))).bind fun (l88526, l88531, l88536, l88538, i88543, i88544) => some (.inl (l88526, l88531, l88536, l88538, i88543, i88544))) (some (.inr (((l75953, l75958, l75963)))))
noncomputable def fn_bfs_From_kpiz_l3 (l68421 : (List (List Int))) : (Int × (List (List Int))) → Option ((Int × (List (List Int))) ⊕ (List (List Int))) := fun ((i91048, l91049) : (Int × (List (List Int)))) => cond (decide (i91048 < (((l68421.length : Nat) : Int)))) ((getI l91049 i91048).bind fun x91060 => (getI l91049 i91048).bind fun _ => (chkI i91048 i91048).bind fun _ => (srt x91060).bind fun l91064 => some (.inl ((IntKind.wrap .i64 (i91048 + 1), l91049.set i91048.toNat l91064)))) (some (.inr (l91049)))
noncomputable def fn_bfs_From_kpiz (xa : (Option (Int × (List (Int × Int)) × ((List Int) × (List Int)) × ((List Int) × (List Int))))) (xb : Int) : Option ((Option ((List Int) × (List Int) × (List (List Int))))) :=
  (fn_graph_Graph_Nodes xa).bind fun i45546 => (fn_slices_Repeat_int_int (([(-1)] : List Int)) i45546).bind fun l45555 => (fn_graph_Graph_Nodes xa).bind fun i45568 => (fn_slices_Repeat_int_int (([(-1)] : List Int)) i45568).bind fun l45577 => ((cond (decide (0 ≤ xb)) ((fn_graph_Graph_Nodes xa).bind fun i45759 => some (decide (xb < i45759))) (some (false))).bind fun t45755 => cond (t45755) ((fn_bfs_Tree_reach_p0ii_rrn xb 0 l45555 l45577).bind fun (l45766, l45767, l45768) => (fn_stack_Queue_int_Push_p0k_nii ([xb] : List Int) 0 0).bind fun (l45809, i45810, i45811) => some ((l45766, l45767, l45768, l45809, i45810, i45811))) (some ((l45555, l45577, [], [], 0, 0))) : Option (((List Int) × (List Int) × (List (List Int)) × (List Int) × Int × Int))).bind fun (l45729, l45734, l45739, l45741, i45746, i45747) => (loop (fn_bfs_From_kpiz_l2 xa) (l45729, l45734, l45739, l45741, i45746, i45747) : Option (((List Int) × (List Int) × (List (List Int))))).bind fun (l68411, l68416, l68421) => (loop (fn_bfs_From_kpiz_l3 l68421) (0, l68421) : Option ((List (List Int)))).bind fun l91039 => some ((some (l68411, l68416, l91039)))
noncomputable def h_bfs_From_kpiz : Hn Try.prog := .cl ok_graph_Graph_Nodes [] (.per 0 1 (.cl ok_slices_Repeat_int_int [] (.cl ok_graph_Graph_Nodes [] (.per 4 5 (.cl ok_slices_Repeat_int_int [] (.pl (.sq [] ⟨[(21, .any), (25, .any), (26, .any)], [⟨(some 8), 70, [.own 3 (.int .i64), .own 3 (.int .i64), .od (.row 28 (.row 3 (.dat (.int .i64))))], false, false, none⟩, ⟨(some 10), 72, [.own 3 (.int .i64), .dat (.int .i64), .dat (.int .i64)], false, false, none⟩]⟩ [10, 8, 6, 2] (.gj 4 ⟨[(35, .dat .bool)], []⟩ [] (.two 30 (.cl ok_graph_Graph_Nodes [] (.nil)) (.nil)) (.tw 35 (.cl ok_bfs_Tree_reach_p0ii_rrn [] (.cl ok_stack_Queue_int_Push_p0k_nii [24] (.nil))) (.nil))) (.jn [] ⟨[], [⟨(some 8), 70, [.own 3 (.int .i64), .own 3 (.int .i64), .od (.row 28 (.row 3 (.dat (.int .i64))))], false, false, none⟩]⟩ [8, 10, 12, 14, 19, 16] (.lp ⟨[], [⟨(some 8), 70, [.own 3 (.int .i64), .own 3 (.int .i64), .od (.row 28 (.row 3 (.dat (.int .i64))))], false, false, none⟩, ⟨(some 10), 72, [.own 3 (.int .i64), .dat (.int .i64), .dat (.int .i64)], false, false, none⟩]⟩ (.mc 10 1 31 (.mc 10 2 31 (.cl ok_stack_Queue_int_Len_p0_rii [] (.tw 43 (.cl ok_stack_Queue_int_Pop_p0_rii [] (.cl ok_graph_Graph_Out [] (.cl ok_tick_Counter_Add_zii [] (.jn [] ⟨[], [⟨(some 8), 70, [.own 3 (.int .i64), .own 3 (.int .i64), .od (.row 28 (.row 3 (.dat (.int .i64))))], false, false, none⟩, ⟨(some 10), 72, [.own 3 (.int .i64), .dat (.int .i64), .dat (.int .i64)], false, false, none⟩]⟩ [43, 10, 8, 22, 24, 26] (.lp ⟨[(58, .dat (.int .i64))], [⟨(some 8), 70, [.own 3 (.int .i64), .own 3 (.int .i64), .od (.row 28 (.row 3 (.dat (.int .i64))))], false, false, none⟩, ⟨(some 10), 72, [.own 3 (.int .i64), .dat (.int .i64), .dat (.int .i64)], false, false, none⟩]⟩ (.tw 59 (.cl ok_graph_Graph_Arc [] (.sq [] ⟨[], [⟨(some 8), 70, [.own 3 (.int .i64), .own 3 (.int .i64), .od (.row 28 (.row 3 (.dat (.int .i64))))], false, false, none⟩, ⟨(some 10), 72, [.own 3 (.int .i64), .dat (.int .i64), .dat (.int .i64)], false, false, none⟩]⟩ [8, 10, 48, 50, 55, 52] (.mix [] [0, 1, 2, 3, 4, 5, 6, 7, 8] [] [] (.tw 76 (.mix [] [0, 1, 2, 3, 4, 5, 6, 7, 8, 9, 10] [11] [] (.cl ok_bfs_Tree_reach_p0ii_rrod [] (.cl ok_stack_Queue_int_Push_p0k_rii [75] (.nil)))) (.nil))) (.mix [] [0, 1, 2, 3, 4, 5, 6, 7, 8, 9, 10, 11, 12, 13, 14, 15, 16] [] [] (.tw 109 (.cl ok_bfs_Tree_lead_p0ii_rrod [] (.nil)) (.nil))))) (.nil))) (.nil))))) (.nil)))))) (.jn [] ⟨[], [⟨(some 26), 0, [], false, false, some (.row 28 (.row 3 (.dat (.int .i64))))⟩]⟩ [26] (.lp ⟨[(121, .dat (.int .i64))], [⟨(some 26), 0, [], false, false, some (.row 28 (.row 3 (.dat (.int .i64))))⟩]⟩ (.tw 122 (.opn 26 121 (.cl ok_Sort [] (.cls 26 30 (.nil)))) (.nil))) (.per 22 23 (.per 24 25 (.per 26 29 (.perb 8 28 (.cons (.sl (.int .i64)) (.cons (.sl (.int .i64)) (.one (.sl (.sl (.int .i64)))))) (.nil))))))))))))))
noncomputable def sp_bfs_From_kpiz : Spec := ⟨20, ⟨[(0, .dat (.ptr (.cons (.int .i64) (.cons (.sl (.cons (.int .i64) (.one (.int .i64)))) (.cons (.cons (.sl (.int .i64)) (.one (.sl (.int .i64)))) (.one (.cons (.sl (.int .i64)) (.one (.sl (.int .i64)))))))))), (1, .dat (.int .i64)), (2, .nilp)], []⟩, [⟨[(0, .dat (.ptr (.cons (.sl (.int .i64)) (.cons (.sl (.int .i64)) (.one (.sl (.sl (.int .i64))))))))], []⟩], fun x => fn_bfs_From_kpiz x.1 x.2⟩
theorem bfs_From_kpiz_is : SpecOk Try.prog sp_bfs_From_kpiz := fn_is Try.func20 h_bfs_From_kpiz (by kernel_rfl) (by kernel_rfl)
noncomputable def ok_bfs_From_kpiz : OkSpec Try.prog := ⟨sp_bfs_From_kpiz, bfs_From_kpiz_is, Try.call20⟩

noncomputable def fn_bfs_Tree_isNode (xa : (Option ((List Int) × (List Int) × (List (List Int))))) (xb : Int) : Option Bool :=
  (cond ((!xa.isNone) && (decide (0 ≤ xb))) ((xa : Option ((List Int) × (List Int) × (List (List Int)))).bind fun y42 => some (decide (xb < (((y42.1.length : Nat) : Int))))) (some (false))).bind fun t40 => some (t40)
noncomputable def h_bfs_Tree_isNode : Hn Try.prog := .gp 2 (.gj 7 ⟨[(19, .dat .bool)], []⟩ [] (.two 11 (.nil) (.nil)) (.nil))
noncomputable def sp_bfs_Tree_isNode : Spec := ⟨42, ⟨[(0, .dat (.ptr (.cons (.sl (.int .i64)) (.cons (.sl (.int .i64)) (.one (.sl (.sl (.int .i64)))))))), (1, .dat (.int .i64))], []⟩, [⟨[(0, .dat .bool)], []⟩], fun x => fn_bfs_Tree_isNode x.1 x.2⟩
theorem bfs_Tree_isNode_is : SpecOk Try.prog sp_bfs_Tree_isNode := fn_is Try.func42 h_bfs_Tree_isNode (by kernel_rfl) (by kernel_rfl)
noncomputable def ok_bfs_Tree_isNode : OkSpec Try.prog := ⟨sp_bfs_Tree_isNode, bfs_Tree_isNode_is, Try.call42⟩

noncomputable def fn_bfs_Tree_Dist (xa : (Option ((List Int) × (List Int) × (List (List Int))))) (xb : Int) : Option Int :=
  (fn_bfs_Tree_isNode xa xb).bind fun t30 => cond (!t30) (some ((-1))) ((xa : Option ((List Int) × (List Int) × (List (List Int)))).bind fun y35 => (getI y35.1 xb).bind fun x45 => some (x45))
noncomputable def h_bfs_Tree_Dist : Hn Try.prog := .cl ok_bfs_Tree_isNode [] (.tw 8 (.nil) (.nil))
noncomputable def sp_bfs_Tree_Dist : Spec := ⟨21, ⟨[(0, .dat (.ptr (.cons (.sl (.int .i64)) (.cons (.sl (.int .i64)) (.one (.sl (.sl (.int .i64)))))))), (1, .dat (.int .i64))], []⟩, [⟨[(0, .dat (.int .i64))], []⟩], fun x => fn_bfs_Tree_Dist x.1 x.2⟩
theorem bfs_Tree_Dist_is : SpecOk Try.prog sp_bfs_Tree_Dist := fn_is Try.func21 h_bfs_Tree_Dist (by kernel_rfl) (by kernel_rfl)
noncomputable def ok_bfs_Tree_Dist : OkSpec Try.prog := ⟨sp_bfs_Tree_Dist, bfs_Tree_Dist_is, Try.call21⟩

noncomputable def fn_bfs_Tree_Back (xa : (Option ((List Int) × (List Int) × (List (List Int))))) (xb : Int) : Option Int :=
  (fn_bfs_Tree_isNode xa xb).bind fun t30 => cond (!t30) (some ((-1))) ((xa : Option ((List Int) × (List Int) × (List (List Int)))).bind fun y35 => (getI y35.2.1 xb).bind fun x45 => some (x45))
noncomputable def h_bfs_Tree_Back : Hn Try.prog := .cl ok_bfs_Tree_isNode [] (.tw 8 (.nil) (.nil))
noncomputable def sp_bfs_Tree_Back : Spec := ⟨22, ⟨[(0, .dat (.ptr (.cons (.sl (.int .i64)) (.cons (.sl (.int .i64)) (.one (.sl (.sl (.int .i64)))))))), (1, .dat (.int .i64))], []⟩, [⟨[(0, .dat (.int .i64))], []⟩], fun x => fn_bfs_Tree_Back x.1 x.2⟩
theorem bfs_Tree_Back_is : SpecOk Try.prog sp_bfs_Tree_Back := fn_is Try.func22 h_bfs_Tree_Back (by kernel_rfl) (by kernel_rfl)
noncomputable def ok_bfs_Tree_Back : OkSpec Try.prog := ⟨sp_bfs_Tree_Back, bfs_Tree_Back_is, Try.call22⟩
noncomputable def fn_path_Short_kpiiz_l1 (xa : (Option (Int × (List (Int × Int)) × ((List Int) × (List Int)) × ((List Int) × (List Int))))) (p531 : (Option ((List Int) × (List Int) × (List (List Int))))) : (Int × (List Int) × Int) → Option ((Int × (List Int) × Int) ⊕ (List Int)) := fun ((i962, l963, i968) : (Int × (List Int) × Int)) => cond (decide (0 ≤ i968)) ((fn_bfs_Tree_Back p531 i962).bind fun i1015 => (getI l963 i968).bind fun x1019 => (some (l963.set i968.toNat i1015)).bind fun z1026 => (getI z1026 i968).bind fun x1031 => (fn_graph_Graph_Arc xa x1031).bind fun (i1040, i1041, t1042) => some (.inl ((i1040, z1026, IntKind.wrap .i64 (i968 - 1))))) (some (.inr (l963)))
noncomputable def fn_path_Short_kpiiz (xa : (Option (Int × (List (Int × Int)) × ((List Int) × (List Int)) × ((List Int) × (List Int))))) (xb : Int) (xc : Int) : Option (((List Int) × Bool)) :=
  (fn_bfs_From_kpiz xa xb).bind fun p531 => (fn_bfs_Tree_Dist p531 xc).bind fun i539 => cond (decide (i539 < 0)) (some (([], false))) ((fn_bfs_Tree_Dist p531 xc).bind fun i547 => (mk i547 i547 0 : Option (List Int)).bind fun z551 => (loop (fn_path_Short_kpiiz_l1 xa p531) ((xc, z551, IntKind.wrap .i64 ((((z551.length : Nat) : Int)) - 1))) : Option (List Int)).bind fun l880 => (fn_tick_Counter_Add_zii 6 (((l880.length : Nat) : Int))).bind fun _ => some ((l880, true)))
noncomputable def h_path_Short_kpiiz : Hn Try.prog := .cl ok_bfs_From_kpiz [] (.cl ok_bfs_Tree_Dist [] (.tw 22 (.nil) (.cl ok_bfs_Tree_Dist [] (.jn [] ⟨[(11, .own 3 (.int .i64)), (26, .any), (27, .any)], []⟩ [0] (.lp ⟨[(2, .dat (.int .i64)), (11, .own 3 (.int .i64)), (12, .dat (.int .i64))], []⟩ (.tw 31 (.cl ok_bfs_Tree_Back [] (.cl ok_graph_Graph_Arc [] (.nil))) (.nil))) (.cl ok_tick_Counter_Add_zii [] (.nil))))))
noncomputable def sp_path_Short_kpiiz : Spec := ⟨8, ⟨[(0, .dat (.ptr (.cons (.int .i64) (.cons (.sl (.cons (.int .i64) (.one (.int .i64)))) (.cons (.cons (.sl (.int .i64)) (.one (.sl (.int .i64)))) (.one (.cons (.sl (.int .i64)) (.one (.sl (.int .i64)))))))))), (1, .dat (.int .i64)), (2, .dat (.int .i64)), (3, .nilp)], []⟩, [⟨[(0, .tup [.own 3 (.int .i64), .dat .bool])], []⟩], fun x => fn_path_Short_kpiiz x.1 x.2.1 x.2.2⟩
theorem path_Short_kpiiz_is : SpecOk Try.prog sp_path_Short_kpiiz := fn_is Try.func8 h_path_Short_kpiiz (by kernel_rfl) (by kernel_rfl)
noncomputable def ok_path_Short_kpiiz : OkSpec Try.prog := ⟨sp_path_Short_kpiiz, path_Short_kpiiz_is, Try.call8⟩
noncomputable def fn_ref01_Same_l1 (xa : (List Int)) (xb : (List Int)) : Int → Option (Int ⊕ (Unit ⊕ Bool)) := fun (i757 : Int) => cond (decide (i757 < (((xa.length : Nat) : Int)))) ((getI xa i757).bind fun x889 => (getI xb i757).bind fun x898 => cond (!decide (x889 = x898)) (some (.inr ((.inr (false))))) (some (.inl (IntKind.wrap .i64 (i757 + 1))))) (some (.inr ((.inl ()))))
noncomputable def fn_ref01_Same (xa : (List Int)) (xb : (List Int)) : Option Bool :=
  cond (!decide ((((xa.length : Nat) : Int)) = (((xb.length : Nat) : Int)))) (some (false)) ((loop (fn_ref01_Same_l1 xa xb) 0 : Option (Unit ⊕ Bool)).bind fun o => match o with | .inr r => some r | .inl () => some (true))
noncomputable def h_ref01_Same : Hn Try.prog := .tw 10 (.nil) (.jx [] ⟨[], []⟩ [] (.lp ⟨[(5, .dat (.int .i64))], []⟩ (.tw 14 (.mix [] [0, 1, 2, 3, 4, 5, 6, 7, 8] [] [] (.tw 25 (.nil) (.nil))) (.nil))) (.nil))
noncomputable def sp_ref01_Same : Spec := ⟨13, ⟨[(0, .dat (.sl (.int .i64))), (1, .dat (.sl (.int .i64)))], []⟩, [⟨[(0, .dat .bool)], []⟩], fun x => fn_ref01_Same x.1 x.2⟩
theorem ref01_Same_is : SpecOk Try.prog sp_ref01_Same := fn_is Try.func13 h_ref01_Same (by kernel_rfl) (by kernel_rfl)
noncomputable def ok_ref01_Same : OkSpec Try.prog := ⟨sp_ref01_Same, ref01_Same_is, Try.call13⟩

noncomputable def fn_bfs_Tree_Far (xa : (Option ((List Int) × (List Int) × (List (List Int))))) : Option Int :=
  cond (xa.isNone) (some ((-1))) ((xa : Option ((List Int) × (List Int) × (List (List Int)))).bind fun y14 => some (IntKind.wrap .i64 ((((y14.2.2.length : Nat) : Int)) - 1)))
noncomputable def h_bfs_Tree_Far : Hn Try.prog := .tw 4 (.nil) (.nil)
noncomputable def sp_bfs_Tree_Far : Spec := ⟨45, ⟨[(0, .dat (.ptr (.cons (.sl (.int .i64)) (.cons (.sl (.int .i64)) (.one (.sl (.sl (.int .i64))))))))], []⟩, [⟨[(0, .dat (.int .i64))], []⟩], fun x => fn_bfs_Tree_Far x⟩
theorem bfs_Tree_Far_is : SpecOk Try.prog sp_bfs_Tree_Far := fn_is Try.func45 h_bfs_Tree_Far (by kernel_rfl) (by kernel_rfl)
noncomputable def ok_bfs_Tree_Far : OkSpec Try.prog := ⟨sp_bfs_Tree_Far, bfs_Tree_Far_is, Try.call45⟩

noncomputable def fn_bfs_Tree_Layer (xa : (Option ((List Int) × (List Int) × (List (List Int))))) (xb : Int) : Option (List Int) :=
  (cond (decide (xb < 0)) (some (true)) ((fn_bfs_Tree_Far xa).bind fun i66 => some (decide (i66 < xb)))).bind fun t62 => cond (t62) (some ([])) ((xa : Option ((List Int) × (List Int) × (List (List Int)))).bind fun y72 => (getI y72.2.2 xb).bind fun x82 => (fn_slices_Clone_int_int x82).bind fun l97 => some (l97))
noncomputable def h_bfs_Tree_Layer : Hn Try.prog := .gj 4 ⟨[(12, .dat .bool)], []⟩ [] (.two 7 (.nil) (.cl ok_bfs_Tree_Far [] (.nil))) (.tw 12 (.nil) (.cl ok_slices_Clone_int_int [] (.nil)))
noncomputable def sp_bfs_Tree_Layer : Spec := ⟨26, ⟨[(0, .dat (.ptr (.cons (.sl (.int .i64)) (.cons (.sl (.int .i64)) (.one (.sl (.sl (.int .i64)))))))), (1, .dat (.int .i64))], []⟩, [⟨[(0, .own 3 (.int .i64))], []⟩], fun x => fn_bfs_Tree_Layer x.1 x.2⟩
theorem bfs_Tree_Layer_is : SpecOk Try.prog sp_bfs_Tree_Layer := fn_is Try.func26 h_bfs_Tree_Layer (by kernel_rfl) (by kernel_rfl)
noncomputable def ok_bfs_Tree_Layer : OkSpec Try.prog := ⟨sp_bfs_Tree_Layer, bfs_Tree_Layer_is, Try.call26⟩
noncomputable def fn_graph_Graph_Next_l1 (xa : (Option (Int × (List (Int × Int)) × ((List Int) × (List Int)) × ((List Int) × (List Int))))) (l548 : (List Int)) : ((List Int) × Int) → Option (((List Int) × Int) ⊕ (List Int)) := fun ((l995, i1000) : ((List Int) × Int)) => cond (decide (i1000 < (((l548.length : Nat) : Int)))) ((getI l995 i1000).bind fun x1048 => (xa : Option (Int × (List (Int × Int)) × ((List Int) × (List Int)) × ((List Int) × (List Int)))).bind fun y1055 => (getI y1055.2.1 x1048).bind fun x1065 => (getI l995 i1000).bind fun x1074 => (some (l995.set i1000.toNat x1065.2)).bind fun z1081 => some (.inl ((z1081, IntKind.wrap .i64 (i1000 + 1))))) (some (.inr (l995)))
noncomputable def fn_graph_Graph_Next (xa : (Option (Int × (List (Int × Int)) × ((List Int) × (List Int)) × ((List Int) × (List Int))))) (xb : Int) : Option (List Int) :=
  (fn_graph_Graph_Out xa xb).bind fun l548 => (loop (fn_graph_Graph_Next_l1 xa l548) (l548, 0) : Option (List Int)).bind fun l906 => some (l906)
noncomputable def h_graph_Graph_Next : Hn Try.prog := .cl ok_graph_Graph_Out [] (.jn [] ⟨[(5, .own 3 (.int .i64)), (10, .any), (11, .any)], []⟩ [0] (.lp ⟨[(5, .own 3 (.int .i64)), (11, .al 0), (13, .dat (.int .i64))], []⟩ (.tw 14 (.nil) (.nil))) (.nil))
noncomputable def sp_graph_Graph_Next : Spec := ⟨27, ⟨[(0, .dat (.ptr (.cons (.int .i64) (.cons (.sl (.cons (.int .i64) (.one (.int .i64)))) (.cons (.cons (.sl (.int .i64)) (.one (.sl (.int .i64)))) (.one (.cons (.sl (.int .i64)) (.one (.sl (.int .i64)))))))))), (1, .dat (.int .i64))], []⟩, [⟨[(0, .own 3 (.int .i64))], []⟩], fun x => fn_graph_Graph_Next x.1 x.2⟩
theorem graph_Graph_Next_is : SpecOk Try.prog sp_graph_Graph_Next := fn_is Try.func27 h_graph_Graph_Next (by kernel_rfl) (by kernel_rfl)
noncomputable def ok_graph_Graph_Next : OkSpec Try.prog := ⟨sp_graph_Graph_Next, graph_Graph_Next_is, Try.call27⟩
noncomputable def fn_path_Count_l1 (p192225 : (Option ((List Int) × (List Int) × (List (List Int))))) (i352411 : Int) (x383110 : Int) (l383119 : (List Int)) : ((List Int) × Int) → Option (((List Int) × Int) ⊕ (List Int)) := fun ((l384216, i384221) : ((List Int) × Int)) => cond (decide (i384221 < (((l383119.length : Nat) : Int)))) ((getI l383119 i384221).bind fun x384334 => (fn_bfs_Tree_Dist p192225 x384334).bind fun i384343 => cond (decide (i384343 = (IntKind.wrap .i64 (i352411 + 1)))) ((getI l384216 x384334).bind fun x384411 => (getI l384216 x383110).bind fun x384418 => (getI l384216 x384334).bind fun x384425 => (some (l384216.set x384334.toNat (if 1048576 < IntKind.wrap .i64 (x384411 + x384418) then 1048576 else IntKind.wrap .i64 (x384411 + x384418)))).bind fun z384432 => some (.inl ((z384432, IntKind.wrap .i64 (i384221 + 1))))) (some (.inl ((l384216, IntKind.wrap .i64 (i384221 + 1)))))) (some (.inr (l384216)))
noncomputable def fn_path_Count_l2 (xa : (Option (Int × (List (Int × Int)) × ((List Int) × (List Int)) × ((List Int) × (List Int))))) (p192225 : (Option ((List Int) × (List Int) × (List (List Int))))) (i352411 : Int) (l368431 : (List Int)) : ((List Int) × Int) → Option (((List Int) × Int) ⊕ (List Int)) := fun ((l381768, i381773) : ((List Int) × Int)) => cond (decide (i381773 < (((l368431.length : Nat) : Int)))) ((getI l368431 i381773).bind fun x383110 => (fn_graph_Graph_Next xa x383110).bind fun l383119 => (loop (fn_path_Count_l1 p192225 i352411 x383110 l383119) (l381768, 0) : Option (List Int)).bind fun l383997 => some (.inl ((l383997, IntKind.wrap .i64 (i381773 + 1))))) (some (.inr (l381768)))
noncomputable def fn_path_Count_l3 (xa : (Option (Int × (List (Int × Int)) × ((List Int) × (List Int)) × ((List Int) × (List Int))))) (p192225 : (Option ((List Int) × (List Int) × (List (List Int))))) (i192263 : Int) : ((List Int) × Int) → Option (((List Int) × Int) ⊕ (List Int)) := fun ((l352406, i352411) : ((List Int) × Int)) => cond (decide (i352411 < i192263)) ((fn_bfs_Tree_Layer p192225 i352411).bind fun l368431 => (loop (fn_path_Count_l2 xa p192225 i352411 l368431) (l352406, 0) : Option (List Int)).bind fun l379101 => some (.inl ((l379101, IntKind.wrap .i64 (i352411 + 1))))) (some (.inr (l352406)))
noncomputable def fn_path_Count (xa : (Option (Int × (List (Int × Int)) × ((List Int) × (List Int)) × ((List Int) × (List Int))))) (xb : Int) (xc : Int) : Option Int :=
  (fn_bfs_From_kpiz xa xb).bind fun p192225 => (fn_bfs_Tree_Dist p192225 xc).bind fun i192233 => cond (decide (i192233 < 0)) (some (0)) ((fn_graph_Graph_Nodes xa).bind fun i192240 => (mk i192240 i192240 0 : Option (List Int)).bind fun z192244 => (getI z192244 xb).bind fun x192249 => (some (z192244.set xb.toNat 1)).bind fun z192256 => (fn_bfs_Tree_Dist p192225 xc).bind fun i192263 => (loop (fn_path_Count_l3 xa p192225 i192263) (z192256, 0) : Option (List Int)).bind fun l320377 => (getI l320377 xc).bind fun x384437 => some (x384437))
noncomputable def h_path_Count : Hn Try.prog := .cl ok_bfs_From_kpiz [] (.cl ok_bfs_Tree_Dist [] (.tw 20 (.nil) (.cl ok_graph_Graph_Nodes [] (.cl ok_bfs_Tree_Dist [] (.jn [] ⟨[(8, .own 3 (.int .i64)), (23, .any), (24, .any)], []⟩ [0] (.lp ⟨[(8, .own 3 (.int .i64)), (30, .dat (.int .i64))], []⟩ (.tw 31 (.cl ok_bfs_Tree_Layer [] (.jn [] ⟨[(8, .own 3 (.int .i64))], []⟩ [3] (.lp ⟨[(8, .own 3 (.int .i64)), (37, .dat (.int .i64))], []⟩ (.tw 38 (.cl ok_graph_Graph_Next [] (.jn [] ⟨[(8, .own 3 (.int .i64))], []⟩ [7] (.lp ⟨[(8, .own 3 (.int .i64)), (45, .dat (.int .i64))], []⟩ (.tw 46 (.cl ok_bfs_Tree_Dist [] (.tw 54 (.mix [([0, 1, 2, 3, 4, 5, 6, 7, 8, 9, 10], 11)] [12] [13] [] (.nil)) (.nil))) (.nil))) (.nil))) (.nil))) (.nil))) (.nil))) (.nil))))))
noncomputable def sp_path_Count : Spec := ⟨9, ⟨[(0, .dat (.ptr (.cons (.int .i64) (.cons (.sl (.cons (.int .i64) (.one (.int .i64)))) (.cons (.cons (.sl (.int .i64)) (.one (.sl (.int .i64)))) (.one (.cons (.sl (.int .i64)) (.one (.sl (.int .i64)))))))))), (1, .dat (.int .i64)), (2, .dat (.int .i64))], []⟩, [⟨[(0, .dat (.int .i64))], []⟩], fun x => fn_path_Count x.1 x.2.1 x.2.2⟩
theorem path_Count_is : SpecOk Try.prog sp_path_Count := fn_is Try.func9 h_path_Count (by kernel_rfl) (by kernel_rfl)
noncomputable def ok_path_Count : OkSpec Try.prog := ⟨sp_path_Count, path_Count_is, Try.call9⟩
noncomputable def fn_path_Less_l1 (xa : (List Int)) (xb : (List Int)) : Int → Option (Int ⊕ (Unit ⊕ Bool)) := fun (i755 : Int) => cond (decide (i755 < (if ((xb.length : Nat) : Int) < ((xa.length : Nat) : Int) then ((xb.length : Nat) : Int) else ((xa.length : Nat) : Int)))) ((getI xa (IntKind.wrap .i64 ((IntKind.wrap .i64 ((((xa.length : Nat) : Int)) - 1)) - i755))).bind fun x887 => (getI xb (IntKind.wrap .i64 ((IntKind.wrap .i64 ((((xb.length : Nat) : Int)) - 1)) - i755))).bind fun x896 => cond (!decide (x887 = x896)) (some (.inr ((.inr (decide (x887 < x896)))))) (some (.inl (IntKind.wrap .i64 (i755 + 1))))) (some (.inr ((.inl ()))))
noncomputable def fn_path_Less (xa : (List Int)) (xb : (List Int)) : Option Bool :=
  (loop (fn_path_Less_l1 xa xb) 0 : Option (Unit ⊕ Bool)).bind fun o => match o with | .inr r => some r | .inl () => some (decide ((((xa.length : Nat) : Int)) < (((xb.length : Nat) : Int))))
noncomputable def h_path_Less : Hn Try.prog := .jx [] ⟨[], []⟩ [] (.lp ⟨[(13, .dat (.int .i64))], []⟩ (.tw 14 (.mix [] [0, 1, 2, 3, 4, 5, 6, 7, 8, 9, 10, 11, 12, 13, 14, 15, 16, 17] [] [] (.tw 34 (.nil) (.nil))) (.nil))) (.nil)
noncomputable def sp_path_Less : Spec := ⟨15, ⟨[(0, .dat (.sl (.int .i64))), (1, .dat (.sl (.int .i64)))], []⟩, [⟨[(0, .dat .bool)], []⟩], fun x => fn_path_Less x.1 x.2⟩
theorem path_Less_is : SpecOk Try.prog sp_path_Less := fn_is Try.func15 h_path_Less (by kernel_rfl) (by kernel_rfl)
noncomputable def ok_path_Less : OkSpec Try.prog := ⟨sp_path_Less, path_Less_is, Try.call15⟩

noncomputable def fn_law14_awake  : Option Bool :=
  (fn_law10_Of 4 (([(0, 1), (0, 2), (2, 3), (1, 3)] : List (Int × Int)))).bind fun (p125, i126) => (fn_path_Short_kpiiz p125 0 3).bind fun (l134, t135) => (cond ((decide (i126 = 0)) && t135) ((fn_ref01_Same l134 ([1, 2] : List Int)).bind fun t174 => some (t174)) (some (false))).bind fun t161 => (cond (t161) ((fn_path_Count p125 0 3).bind fun i189 => some (decide (i189 = 2))) (some (false))).bind fun t185 => (cond (t185) ((fn_path_Less ([1, 2] : List Int) ([0, 3] : List Int)).bind fun t228 => some (t228)) (some (false))).bind fun t212 => some (t212)
noncomputable def h_law14_awake : Hn Try.prog := .per 0 1 (.cl ok_law10_Of [] (.cl ok_path_Short_kpiiz [] (.gp 1 (.gj 3 ⟨[(28, .dat .bool)], []⟩ [] (.two 24 (.cl ok_ref01_Same [2, 4] (.nil)) (.nil)) (.gj 3 ⟨[(33, .dat .bool)], []⟩ [] (.two 29 (.cl ok_path_Count [] (.nil)) (.nil)) (.gj 3 ⟨[(38, .dat .bool)], []⟩ [] (.two 34 (.cl ok_path_Less [4, 6] (.nil)) (.nil)) (.nil)))))))
noncomputable def sp_law14_awake : Spec := ⟨6, ⟨[], []⟩, [⟨[(0, .dat .bool)], []⟩], fun x => fn_law14_awake⟩
theorem law14_awake_is : SpecOk Try.prog sp_law14_awake := fn_is Try.func6 h_law14_awake (by kernel_rfl) (by kernel_rfl)
noncomputable def ok_law14_awake : OkSpec Try.prog := ⟨sp_law14_awake, law14_awake_is, Try.call6⟩

noncomputable def fn_tick_isPart (xa : Int) : Option Bool :=
  some ((decide (0 ≤ xa)) && (decide (xa < 7)))
noncomputable def h_tick_isPart : Hn Try.prog := .gp 2 (.nil)
noncomputable def sp_tick_isPart : Spec := ⟨28, ⟨[(0, .dat (.int .i64))], []⟩, [⟨[(0, .dat .bool)], []⟩], fun x => fn_tick_isPart x⟩
theorem tick_isPart_is : SpecOk Try.prog sp_tick_isPart := fn_is Try.func28 h_tick_isPart (by kernel_rfl) (by kernel_rfl)
noncomputable def ok_tick_isPart : OkSpec Try.prog := ⟨sp_tick_isPart, tick_isPart_is, Try.call28⟩

noncomputable def fn_tick_sum (xa : Int) (xb : Int) : Option Int :=
  cond (decide ((IntKind.wrap .i64 (9223372036854775807 - xb)) < xa)) (some (9223372036854775807)) (some (IntKind.wrap .i64 (xa + xb)))
noncomputable def h_tick_sum : Hn Try.prog := .tw 8 (.nil) (.nil)
noncomputable def sp_tick_sum : Spec := ⟨44, ⟨[(0, .dat (.int .i64)), (1, .dat (.int .i64))], []⟩, [⟨[(0, .dat (.int .i64))], []⟩], fun x => fn_tick_sum x.1 x.2⟩
theorem tick_sum_is : SpecOk Try.prog sp_tick_sum := fn_is Try.func44 h_tick_sum (by kernel_rfl) (by kernel_rfl)
noncomputable def ok_tick_sum : OkSpec Try.prog := ⟨sp_tick_sum, tick_sum_is, Try.call44⟩

noncomputable def fn_tick_Counter_Add_p0c6i_iiiiiii (xc : Int) (qa0 : Int) (qa1 : Int) (qa2 : Int) (qa3 : Int) (qa4 : Int) (qa5 : Int) (qa6 : Int) : Option Int :=
  (fn_tick_isPart 6).bind fun t37 => cond (t37 && (decide (0 ≤ xc))) ((fn_tick_sum qa6 xc).bind fun i65 => some (i65)) (some (qa6))
noncomputable def h_tick_Counter_Add_p0c6i_iiiiiii : Hn Try.prog := .cl ok_tick_isPart [] (.gp 2 (.tw 15 (.mix [([0, 1, 2, 3, 4, 5, 6, 7, 8, 10, 11], 9)] [12] [13] [] (.cl ok_tick_sum [] (.nil))) (.nil)))
noncomputable def sp_tick_Counter_Add_p0c6i_iiiiiii : Spec := ⟨24, ⟨[(0, .ptr 0 0), (1, .lit (.int .i64 6)), (2, .dat (.int .i64))], [⟨none, 34, [.is 1 (.dat (.int .i64)), .is 2 (.dat (.int .i64)), .is 3 (.dat (.int .i64)), .is 4 (.dat (.int .i64)), .is 5 (.dat (.int .i64)), .is 6 (.dat (.int .i64)), .dat (.int .i64)], false, false, none⟩, ⟨none, 0, [], false, true, none⟩, ⟨none, 0, [], false, true, none⟩, ⟨none, 0, [], false, true, none⟩, ⟨none, 0, [], false, true, none⟩, ⟨none, 0, [], false, true, none⟩, ⟨none, 0, [], false, true, none⟩]⟩, [⟨[], [⟨(some 0), 34, [.is 1 (.any), .is 2 (.any), .is 3 (.any), .is 4 (.any), .is 5 (.any), .is 6 (.any), .dat (.int .i64)], false, false, none⟩, ⟨(some 1), 0, [], false, true, none⟩, ⟨(some 2), 0, [], false, true, none⟩, ⟨(some 3), 0, [], false, true, none⟩, ⟨(some 4), 0, [], false, true, none⟩, ⟨(some 5), 0, [], false, true, none⟩, ⟨(some 6), 0, [], false, true, none⟩]⟩], fun x => fn_tick_Counter_Add_p0c6i_iiiiiii x.1 x.2.1 x.2.2.1 x.2.2.2.1 x.2.2.2.2.1 x.2.2.2.2.2.1 x.2.2.2.2.2.2.1 x.2.2.2.2.2.2.2⟩
theorem tick_Counter_Add_p0c6i_iiiiiii_is : SpecOk Try.prog sp_tick_Counter_Add_p0c6i_iiiiiii := fn_is Try.func24 h_tick_Counter_Add_p0c6i_iiiiiii (by kernel_rfl) (by kernel_rfl)
noncomputable def ok_tick_Counter_Add_p0c6i_iiiiiii : OkSpec Try.prog := ⟨sp_tick_Counter_Add_p0c6i_iiiiiii, tick_Counter_Add_p0c6i_iiiiiii_is, Try.call24⟩
noncomputable def fn_bfs_From_kpip0_iiiiiii_l1 (xa : (Option (Int × (List (Int × Int)) × ((List Int) × (List Int)) × ((List Int) × (List Int))))) (i83582 : Int) (l83607 : (List Int)) : (Int × (List Int) × (List Int) × (List (List Int)) × (List Int) × Int × Int) → Option ((Int × (List Int) × (List Int) × (List (List Int)) × (List Int) × Int × Int) ⊕ ((List Int) × (List Int) × (List (List Int)) × (List Int) × Int × Int)) := fun ((i89808, l89809, l89814, l89819, l89821, i89826, i89827) : (Int × (List Int) × (List Int) × (List (List Int)) × (List Int) × Int × Int)) => cond (decide (i89808 < (((l83607.length : Nat) : Int)))) ((getI l83607 i89808).bind fun x90459 => (fn_graph_Graph_Arc xa x90459).bind fun (i90477, i90478, t90479) => ((getI l89809 i90478).bind fun x90825 => cond (decide (x90825 < 0)) ((getI l89809 i83582).bind fun x90880 => (fn_bfs_Tree_reach_p0ii_rrod i90478 (IntKind.wrap .i64 (x90880 + 1)) l89809 l89814 l89819).bind fun (l90889, l90890, l90891) => (fn_stack_Queue_int_Push_p0k_rii ([i90478] : List Int) l89821 i89826 i89827).bind fun (l90933, i90934, i90935) => some ((l90889, l90890, l90891, l90933, i90934, i90935))) (some ((l89809, l89814, l89819, l89821, i89826, i89827))) : Option (((List Int) × (List Int) × (List (List Int)) × (List Int) × Int × Int))).bind fun (l90778, l90783, l90788, l90790, i90795, i90796) => (getI l90778 i90478).bind fun x91000 => (getI l90778 i83582).bind fun x91007 => cond (decide (x91000 = (IntKind.wrap .i64 (x91007 + 1)))) ((fn_bfs_Tree_lead_p0ii_rrod i90478 x90459 l90778 l90783 l90788).bind fun (l91036, l91037, l91038) => some (.inl ((IntKind.wrap .i64 (i89808 + 1), l91036, l91037, l91038, l90790, i90795, i90796)))) (some (.inl ((IntKind.wrap .i64 (i89808 + 1), l90778, l90783, l90788, l90790, i90795, i90796))))) (some (.inr (((l89809, l89814, l89819, l89821, i89826, i89827)))))
noncomputable def fn_bfs_From_kpip0_iiiiiii_l2 (xa : (Option (Int × (List (Int × Int)) × ((List Int) × (List Int)) × ((List Int) × (List Int))))) (qa0 : Int) (qa1 : Int) (qa2 : Int) (qa3 : Int) (qa4 : Int) (qa5 : Int) : (Int × (List Int) × (List Int) × (List (List Int)) × (List Int) × Int × Int) → Option ((Int × (List Int) × (List Int) × (List (List Int)) × (List Int) × Int × Int) ⊕ (Int × (List Int) × (List Int) × (List (List Int)))) := fun ((i75986, l75987, l75992, l75997, l75999, i76004, i76005) : (Int × (List Int) × (List Int) × (List (List Int)) × (List Int) × Int × Int)) => (fn_stack_Queue_int_Len_p0_rii l75999 i76004 i76005).bind fun (i83554, l83555) => cond (decide (0 < i83554)) ((fn_stack_Queue_int_Pop_p0_rii l83555 i76004 i76005).bind fun (i83582, t83583, l83584, i83585, i83586) => (fn_graph_Graph_Out xa i83582).bind fun l83607 => (fn_tick_Counter_Add_p0c6i_iiiiiii (IntKind.wrap .i64 (1 + (((l83607.length : Nat) : Int)))) qa0 qa1 qa2 qa3 qa4 qa5 i75986).bind fun i83623 => (loop (fn_bfs_From_kpip0_iiiiiii_l1 xa i83582 l83607) (0, l75987, l75992, l75997, l83584, i83585, i83586) : Option (((List Int) × (List Int) × (List (List Int)) × (List Int) × Int × Int))).bind fun (l88565, l88570, l88575, l88577, i88582, i88583) => some (.inl (i83623, l88565, l88570, l88575, l88577, i88582, i88583))) (some (.inr (((i75986, l75987, l75992, l75997)))))
noncomputable def fn_bfs_From_kpip0_iiiiiii_l3 (l68451 : (List (List Int))) : (Int × (List (List Int))) → Option ((Int × (List (List Int))) ⊕ (List (List Int))) := fun ((i91087, l91088) : (Int × (List (List Int)))) => cond (decide (i91087 < (((l68451.length : Nat) : Int)))) ((getI l91088 i91087).bind fun x91099 => (getI l91088 i91087).bind fun _ => (chkI i91087 i91087).bind fun _ => (srt x91099).bind fun l91103 => some (.inl ((IntKind.wrap .i64 (i91087 + 1), l91088.set i91087.toNat l91103)))) (some (.inr (l91088)))
noncomputable def fn_bfs_From_kpip0_iiiiiii (xa : (Option (Int × (List (Int × Int)) × ((List Int) × (List Int)) × ((List Int) × (List Int))))) (xb : Int) (qa0 : Int) (qa1 : Int) (qa2 : Int) (qa3 : Int) (qa4 : Int) (qa5 : Int) (qa6 : Int) : Option (((Option ((List Int) × (List Int) × (List (List Int)))) × Int)) :=
  (fn_graph_Graph_Nodes xa).bind fun i45566 => (fn_slices_Repeat_int_int (([(-1)] : List Int)) i45566).bind fun l45575 => (fn_graph_Graph_Nodes xa).bind fun i45588 => (fn_slices_Repeat_int_int (([(-1)] : List Int)) i45588).bind fun l45597 => ((cond (decide (0 ≤ xb)) ((fn_graph_Graph_Nodes xa).bind fun i45779 => some (decide (xb < i45779))) (some (false))).bind fun t45775 => cond (t45775) ((fn_bfs_Tree_reach_p0ii_rrn xb 0 l45575 l45597).bind fun (l45786, l45787, l45788) => (fn_stack_Queue_int_Push_p0k_nii ([xb] : List Int) 0 0).bind fun (l45829, i45830, i45831) => some ((l45786, l45787, l45788, l45829, i45830, i45831))) (some ((l45575, l45597, [], [], 0, 0))) : Option (((List Int) × (List Int) × (List (List Int)) × (List Int) × Int × Int))).bind fun (l45749, l45754, l45759, l45761, i45766, i45767) => (loop (fn_bfs_From_kpip0_iiiiiii_l2 xa qa0 qa1 qa2 qa3 qa4 qa5) (qa6, l45749, l45754, l45759, l45761, i45766, i45767) : Option ((Int × (List Int) × (List Int) × (List (List Int))))).bind fun (i68440, l68441, l68446, l68451) => (loop (fn_bfs_From_kpip0_iiiiiii_l3 l68451) (0, l68451) : Option ((List (List Int)))).bind fun l91078 => some (((some (l68441, l68446, l91078)), i68440))
noncomputable def h_bfs_From_kpip0_iiiiiii : Hn Try.prog := .cl ok_graph_Graph_Nodes [] (.per 8 9 (.cl ok_slices_Repeat_int_int [] (.cl ok_graph_Graph_Nodes [] (.per 12 13 (.cl ok_slices_Repeat_int_int [] (.pl (.sq [] ⟨[(21, .any), (25, .any), (26, .any)], [⟨(some 16), 70, [.own 3 (.int .i64), .own 3 (.int .i64), .od (.row 28 (.row 3 (.dat (.int .i64))))], false, false, none⟩, ⟨(some 18), 72, [.own 3 (.int .i64), .dat (.int .i64), .dat (.int .i64)], false, false, none⟩]⟩ [18, 16, 14, 10] (.gj 4 ⟨[(35, .dat .bool)], []⟩ [] (.two 30 (.cl ok_graph_Graph_Nodes [] (.nil)) (.nil)) (.tw 35 (.cl ok_bfs_Tree_reach_p0ii_rrn [] (.cl ok_stack_Queue_int_Push_p0k_nii [32] (.nil))) (.nil))) (.jn [] ⟨[], [⟨(some 0), 34, [.is 2 (.any), .is 3 (.any), .is 4 (.any), .is 5 (.any), .is 6 (.any), .is 7 (.any), .dat (.int .i64)], false, false, none⟩, ⟨(some 16), 70, [.own 3 (.int .i64), .own 3 (.int .i64), .od (.row 28 (.row 3 (.dat (.int .i64))))], false, false, none⟩, ⟨(some 1), 0, [], false, true, none⟩, ⟨(some 2), 0, [], false, true, none⟩, ⟨(some 3), 0, [], false, true, none⟩, ⟨(some 4), 0, [], false, true, none⟩, ⟨(some 5), 0, [], false, true, none⟩, ⟨(some 6), 0, [], false, true, none⟩]⟩ [0, 16, 18, 20, 22, 27, 24] (.lp ⟨[], [⟨(some 0), 34, [.is 3 (.any), .is 4 (.any), .is 5 (.any), .is 6 (.any), .is 7 (.any), .is 8 (.any), .dat (.int .i64)], false, false, none⟩, ⟨(some 16), 70, [.own 3 (.int .i64), .own 3 (.int .i64), .od (.row 28 (.row 3 (.dat (.int .i64))))], false, false, none⟩, ⟨(some 18), 72, [.own 3 (.int .i64), .dat (.int .i64), .dat (.int .i64)], false, false, none⟩, ⟨(some 1), 0, [], false, true, none⟩, ⟨(some 2), 0, [], false, true, none⟩, ⟨(some 3), 0, [], false, true, none⟩, ⟨(some 4), 0, [], false, true, none⟩, ⟨(some 5), 0, [], false, true, none⟩, ⟨(some 6), 0, [], false, true, none⟩]⟩ (.mc 18 1 40 (.mc 18 2 40 (.cl ok_stack_Queue_int_Len_p0_rii [] (.tw 43 (.cl ok_stack_Queue_int_Pop_p0_rii [] (.cl ok_graph_Graph_Out [] (.cl ok_tick_Counter_Add_p0c6i_iiiiiii [] (.jn [] ⟨[], [⟨(some 16), 70, [.own 3 (.int .i64), .own 3 (.int .i64), .od (.row 28 (.row 3 (.dat (.int .i64))))], false, false, none⟩, ⟨(some 18), 72, [.own 3 (.int .i64), .dat (.int .i64), .dat (.int .i64)], false, false, none⟩]⟩ [52, 18, 16, 31, 33, 35] (.lp ⟨[(58, .dat (.int .i64))], [⟨(some 16), 70, [.own 3 (.int .i64), .own 3 (.int .i64), .od (.row 28 (.row 3 (.dat (.int .i64))))], false, false, none⟩, ⟨(some 18), 72, [.own 3 (.int .i64), .dat (.int .i64), .dat (.int .i64)], false, false, none⟩]⟩ (.tw 59 (.cl ok_graph_Graph_Arc [] (.sq [] ⟨[], [⟨(some 16), 70, [.own 3 (.int .i64), .own 3 (.int .i64), .od (.row 28 (.row 3 (.dat (.int .i64))))], false, false, none⟩, ⟨(some 18), 72, [.own 3 (.int .i64), .dat (.int .i64), .dat (.int .i64)], false, false, none⟩]⟩ [16, 18, 59, 61, 66, 63] (.mix [] [0, 1, 2, 3, 4, 5, 6, 7, 8] [] [] (.tw 76 (.mix [] [0, 1, 2, 3, 4, 5, 6, 7, 8, 9, 10] [11] [] (.cl ok_bfs_Tree_reach_p0ii_rrod [] (.cl ok_stack_Queue_int_Push_p0k_rii [86] (.nil)))) (.nil))) (.mix [] [0, 1, 2, 3, 4, 5, 6, 7, 8, 9, 10, 11, 12, 13, 14, 15, 16] [] [] (.tw 109 (.cl ok_bfs_Tree_lead_p0ii_rrod [] (.nil)) (.nil))))) (.nil))) (.nil))))) (.nil)))))) (.jn [] ⟨[], [⟨(some 35), 0, [], false, false, some (.row 28 (.row 3 (.dat (.int .i64))))⟩]⟩ [35] (.lp ⟨[(121, .dat (.int .i64))], [⟨(some 35), 0, [], false, false, some (.row 28 (.row 3 (.dat (.int .i64))))⟩]⟩ (.tw 122 (.opn 35 121 (.cl ok_Sort [] (.cls 35 39 (.nil)))) (.nil))) (.per 31 32 (.per 33 34 (.per 35 38 (.perb 16 37 (.cons (.sl (.int .i64)) (.cons (.sl (.int .i64)) (.one (.sl (.sl (.int .i64)))))) (.nil))))))))))))))
noncomputable def sp_bfs_From_kpip0_iiiiiii : Spec := ⟨20, ⟨[(0, .dat (.ptr (.cons (.int .i64) (.cons (.sl (.cons (.int .i64) (.one (.int .i64)))) (.cons (.cons (.sl (.int .i64)) (.one (.sl (.int .i64)))) (.one (.cons (.sl (.int .i64)) (.one (.sl (.int .i64)))))))))), (1, .dat (.int .i64)), (2, .ptr 0 0)], [⟨none, 34, [.is 1 (.dat (.int .i64)), .is 2 (.dat (.int .i64)), .is 3 (.dat (.int .i64)), .is 4 (.dat (.int .i64)), .is 5 (.dat (.int .i64)), .is 6 (.dat (.int .i64)), .dat (.int .i64)], false, false, none⟩, ⟨none, 0, [], false, true, none⟩, ⟨none, 0, [], false, true, none⟩, ⟨none, 0, [], false, true, none⟩, ⟨none, 0, [], false, true, none⟩, ⟨none, 0, [], false, true, none⟩, ⟨none, 0, [], false, true, none⟩]⟩, [⟨[(0, .dat (.ptr (.cons (.sl (.int .i64)) (.cons (.sl (.int .i64)) (.one (.sl (.sl (.int .i64))))))))], [⟨(some 0), 34, [.is 1 (.any), .is 2 (.any), .is 3 (.any), .is 4 (.any), .is 5 (.any), .is 6 (.any), .dat (.int .i64)], false, false, none⟩, ⟨(some 1), 0, [], false, true, none⟩, ⟨(some 2), 0, [], false, true, none⟩, ⟨(some 3), 0, [], false, true, none⟩, ⟨(some 4), 0, [], false, true, none⟩, ⟨(some 5), 0, [], false, true, none⟩, ⟨(some 6), 0, [], false, true, none⟩]⟩], fun x => fn_bfs_From_kpip0_iiiiiii x.1 x.2.1 x.2.2.1 x.2.2.2.1 x.2.2.2.2.1 x.2.2.2.2.2.1 x.2.2.2.2.2.2.1 x.2.2.2.2.2.2.2.1 x.2.2.2.2.2.2.2.2⟩
theorem bfs_From_kpip0_iiiiiii_is : SpecOk Try.prog sp_bfs_From_kpip0_iiiiiii := fn_is Try.func20 h_bfs_From_kpip0_iiiiiii (by kernel_rfl) (by kernel_rfl)
noncomputable def ok_bfs_From_kpip0_iiiiiii : OkSpec Try.prog := ⟨sp_bfs_From_kpip0_iiiiiii, bfs_From_kpip0_iiiiiii_is, Try.call20⟩
noncomputable def fn_path_Short_kpiip0_iiiiiii_l1 (xa : (Option (Int × (List (Int × Int)) × ((List Int) × (List Int)) × ((List Int) × (List Int))))) (p534 : (Option ((List Int) × (List Int) × (List (List Int))))) : (Int × (List Int) × Int) → Option ((Int × (List Int) × Int) ⊕ (List Int)) := fun ((i966, l967, i972) : (Int × (List Int) × Int)) => cond (decide (0 ≤ i972)) ((fn_bfs_Tree_Back p534 i966).bind fun i1019 => (getI l967 i972).bind fun x1023 => (some (l967.set i972.toNat i1019)).bind fun z1030 => (getI z1030 i972).bind fun x1035 => (fn_graph_Graph_Arc xa x1035).bind fun (i1044, i1045, t1046) => some (.inl ((i1044, z1030, IntKind.wrap .i64 (i972 - 1))))) (some (.inr (l967)))
noncomputable def fn_path_Short_kpiip0_iiiiiii (xa : (Option (Int × (List (Int × Int)) × ((List Int) × (List Int)) × ((List Int) × (List Int))))) (xb : Int) (xc : Int) (qa0 : Int) (qa1 : Int) (qa2 : Int) (qa3 : Int) (qa4 : Int) (qa5 : Int) (qa6 : Int) : Option (((List Int) × Bool × Int)) :=
  (fn_bfs_From_kpip0_iiiiiii xa xb qa0 qa1 qa2 qa3 qa4 qa5 qa6).bind fun (p534, i535) => (fn_bfs_Tree_Dist p534 xc).bind fun i543 => cond (decide (i543 < 0)) (some (([], false, i535))) ((fn_bfs_Tree_Dist p534 xc).bind fun i551 => (mk i551 i551 0 : Option (List Int)).bind fun z555 => (loop (fn_path_Short_kpiip0_iiiiiii_l1 xa p534) ((xc, z555, IntKind.wrap .i64 ((((z555.length : Nat) : Int)) - 1))) : Option (List Int)).bind fun l884 => (fn_tick_Counter_Add_p0c6i_iiiiiii (((l884.length : Nat) : Int)) qa0 qa1 qa2 qa3 qa4 qa5 i535).bind fun i1053 => some ((l884, true, i1053)))
noncomputable def h_path_Short_kpiip0_iiiiiii : Hn Try.prog := .cl ok_bfs_From_kpip0_iiiiiii [] (.cl ok_bfs_Tree_Dist [] (.tw 22 (.nil) (.cl ok_bfs_Tree_Dist [] (.jn [] ⟨[(11, .own 3 (.int .i64)), (26, .any), (27, .any)], []⟩ [10] (.lp ⟨[(2, .dat (.int .i64)), (11, .own 3 (.int .i64)), (12, .dat (.int .i64))], []⟩ (.tw 31 (.cl ok_bfs_Tree_Back [] (.cl ok_graph_Graph_Arc [] (.nil))) (.nil))) (.cl ok_tick_Counter_Add_p0c6i_iiiiiii [] (.nil))))))
noncomputable def sp_path_Short_kpiip0_iiiiiii : Spec := ⟨8, ⟨[(0, .dat (.ptr (.cons (.int .i64) (.cons (.sl (.cons (.int .i64) (.one (.int .i64)))) (.cons (.cons (.sl (.int .i64)) (.one (.sl (.int .i64)))) (.one (.cons (.sl (.int .i64)) (.one (.sl (.int .i64)))))))))), (1, .dat (.int .i64)), (2, .dat (.int .i64)), (3, .ptr 0 0)], [⟨none, 34, [.is 1 (.dat (.int .i64)), .is 2 (.dat (.int .i64)), .is 3 (.dat (.int .i64)), .is 4 (.dat (.int .i64)), .is 5 (.dat (.int .i64)), .is 6 (.dat (.int .i64)), .dat (.int .i64)], false, false, none⟩, ⟨none, 0, [], false, true, none⟩, ⟨none, 0, [], false, true, none⟩, ⟨none, 0, [], false, true, none⟩, ⟨none, 0, [], false, true, none⟩, ⟨none, 0, [], false, true, none⟩, ⟨none, 0, [], false, true, none⟩]⟩, [⟨[(0, .tup [.own 3 (.int .i64), .dat .bool])], [⟨(some 0), 34, [.is 1 (.any), .is 2 (.any), .is 3 (.any), .is 4 (.any), .is 5 (.any), .is 6 (.any), .dat (.int .i64)], false, false, none⟩, ⟨(some 1), 0, [], false, true, none⟩, ⟨(some 2), 0, [], false, true, none⟩, ⟨(some 3), 0, [], false, true, none⟩, ⟨(some 4), 0, [], false, true, none⟩, ⟨(some 5), 0, [], false, true, none⟩, ⟨(some 6), 0, [], false, true, none⟩]⟩], fun x => fn_path_Short_kpiip0_iiiiiii x.1 x.2.1 x.2.2.1 x.2.2.2.1 x.2.2.2.2.1 x.2.2.2.2.2.1 x.2.2.2.2.2.2.1 x.2.2.2.2.2.2.2.1 x.2.2.2.2.2.2.2.2.1 x.2.2.2.2.2.2.2.2.2⟩
theorem path_Short_kpiip0_iiiiiii_is : SpecOk Try.prog sp_path_Short_kpiip0_iiiiiii := fn_is Try.func8 h_path_Short_kpiip0_iiiiiii (by kernel_rfl) (by kernel_rfl)
noncomputable def ok_path_Short_kpiip0_iiiiiii : OkSpec Try.prog := ⟨sp_path_Short_kpiip0_iiiiiii, path_Short_kpiip0_iiiiiii_is, Try.call8⟩
noncomputable def fn_ref13_Dist_l1 (xa : Int) : ((List Int) × Int) → Option (((List Int) × Int) ⊕ (List Int)) := fun ((l11832, i11837) : ((List Int) × Int)) => cond (decide (i11837 < xa)) ((app l11832 (([(-1)] : List Int))).bind fun z11859 => some (.inl ((z11859, IntKind.wrap .i64 (i11837 + 1))))) (some (.inr (l11832)))
noncomputable def fn_ref13_Dist_l2 (xb : (List (Int × Int))) (i21444 : Int) : ((List Int) × Int) → Option (((List Int) × Int) ⊕ (List Int)) := fun ((l23193, i23198) : ((List Int) × Int)) => cond (decide (i23198 < (((xb.length : Nat) : Int)))) ((getI xb i23198).bind fun x23281 => (getI l23193 x23281.1).bind fun x23290 => (cond (decide (x23290 = i21444)) ((getI xb i23198).bind fun x23316 => (getI l23193 x23316.2).bind fun x23325 => some (decide (x23325 < 0))) (some (false))).bind fun t23314 => cond (t23314) ((getI xb i23198).bind fun x23333 => (getI l23193 x23333.2).bind fun x23342 => (some (l23193.set x23333.2.toNat (IntKind.wrap .i64 (i21444 + 1)))).bind fun z23349 => some (.inl ((z23349, IntKind.wrap .i64 (i23198 + 1))))) (some (.inl ((l23193, IntKind.wrap .i64 (i23198 + 1)))))) (some (.inr (l23193)))
noncomputable def fn_ref13_Dist_l3 (xa : Int) (xb : (List (Int × Int))) : ((List Int) × Int) → Option (((List Int) × Int) ⊕ (List Int)) := fun ((l21439, i21444) : ((List Int) × Int)) => cond (decide (i21444 < xa)) ((loop (fn_ref13_Dist_l2 xb i21444) (l21439, 0) : Option (List Int)).bind fun l23034 => some (.inl ((l23034, IntKind.wrap .i64 (i21444 + 1))))) (some (.inr (l21439)))
noncomputable def fn_ref13_Dist (xa : Int) (xb : (List (Int × Int))) (xc : Int) : Option (List Int) :=
  (loop (fn_ref13_Dist_l1 xa) ((([] : List Int), 0)) : Option (List Int)).bind fun l11801 => cond ((decide (xc < 0)) || (decide (xa ≤ xc))) (some (l11801)) ((getI l11801 xc).bind fun x11868 => (some (l11801.set xc.toNat 0)).bind fun z11875 => (loop (fn_ref13_Dist_l3 xa xb) (z11875, 0) : Option (List Int)).bind fun l19526 => some (l19526))
noncomputable def h_ref13_Dist : Hn Try.prog := .jn [] ⟨[(7, .own 3 (.int .i64)), (11, .any)], []⟩ [0] (.lp ⟨[(7, .own 3 (.int .i64)), (8, .dat (.int .i64))], []⟩ (.tw 14 (.nil) (.nil))) (.gp 3 (.tw 26 (.nil) (.jn [] ⟨[(7, .own 3 (.int .i64)), (28, .any)], []⟩ [2] (.lp ⟨[(7, .own 3 (.int .i64)), (9, .dat (.int .i64))], []⟩ (.tw 33 (.pl (.pl (.jn [] ⟨[(7, .own 3 (.int .i64))], []⟩ [5] (.lp ⟨[(7, .own 3 (.int .i64)), (10, .dat (.int .i64))], []⟩ (.tw 39 (.gj 9 ⟨[(62, .dat .bool)], []⟩ [] (.two 52 (.nil) (.nil)) (.tw 62 (.nil) (.nil))) (.nil))) (.nil)))) (.nil))) (.nil))))
noncomputable def sp_ref13_Dist : Spec := ⟨10, ⟨[(0, .dat (.int .i64)), (1, .dat (.sl (.cons (.int .i64) (.one (.int .i64))))), (2, .dat (.int .i64))], []⟩, [⟨[(0, .own 3 (.int .i64))], []⟩], fun x => fn_ref13_Dist x.1 x.2.1 x.2.2⟩
theorem ref13_Dist_is : SpecOk Try.prog sp_ref13_Dist := fn_is Try.func10 h_ref13_Dist (by kernel_rfl) (by kernel_rfl)
noncomputable def ok_ref13_Dist : OkSpec Try.prog := ⟨sp_ref13_Dist, ref13_Dist_is, Try.call10⟩

noncomputable def fn_tick_Counter_Of_p0c6_iiiiiii (qa0 : Int) (qa1 : Int) (qa2 : Int) (qa3 : Int) (qa4 : Int) (qa5 : Int) (qa6 : Int) : Option Int :=
  (fn_tick_isPart 6).bind fun t12 => cond (!t12) (some (0)) (some (qa6))
noncomputable def h_tick_Counter_Of_p0c6_iiiiiii : Hn Try.prog := .cl ok_tick_isPart [] (.tw 11 (.nil) (.nil))
noncomputable def sp_tick_Counter_Of_p0c6_iiiiiii : Spec := ⟨11, ⟨[(0, .ptr 0 0), (1, .lit (.int .i64 6))], [⟨none, 34, [.is 1 (.dat (.int .i64)), .is 2 (.dat (.int .i64)), .is 3 (.dat (.int .i64)), .is 4 (.dat (.int .i64)), .is 5 (.dat (.int .i64)), .is 6 (.dat (.int .i64)), .is 7 (.dat (.int .i64))], false, false, none⟩, ⟨none, 0, [], false, true, none⟩, ⟨none, 0, [], false, true, none⟩, ⟨none, 0, [], false, true, none⟩, ⟨none, 0, [], false, true, none⟩, ⟨none, 0, [], false, true, none⟩, ⟨none, 0, [], false, true, none⟩, ⟨none, 0, [], false, true, none⟩]⟩, [⟨[(0, .dat (.int .i64))], [⟨(some 0), 34, [.is 1 (.any), .is 2 (.any), .is 3 (.any), .is 4 (.any), .is 5 (.any), .is 6 (.any), .is 7 (.any)], false, false, none⟩, ⟨(some 1), 0, [], false, true, none⟩, ⟨(some 2), 0, [], false, true, none⟩, ⟨(some 3), 0, [], false, true, none⟩, ⟨(some 4), 0, [], false, true, none⟩, ⟨(some 5), 0, [], false, true, none⟩, ⟨(some 6), 0, [], false, true, none⟩, ⟨(some 7), 0, [], false, true, none⟩]⟩], fun x => fn_tick_Counter_Of_p0c6_iiiiiii x.1 x.2.1 x.2.2.1 x.2.2.2.1 x.2.2.2.2.1 x.2.2.2.2.2.1 x.2.2.2.2.2.2⟩
theorem tick_Counter_Of_p0c6_iiiiiii_is : SpecOk Try.prog sp_tick_Counter_Of_p0c6_iiiiiii := fn_is Try.func11 h_tick_Counter_Of_p0c6_iiiiiii (by kernel_rfl) (by kernel_rfl)
noncomputable def ok_tick_Counter_Of_p0c6_iiiiiii : OkSpec Try.prog := ⟨sp_tick_Counter_Of_p0c6_iiiiiii, tick_Counter_Of_p0c6_iiiiiii_is, Try.call11⟩
noncomputable def fn_ref14_Walk_l1 (xb : (List (Int × Int))) (xd : (List Int)) : (Int × Int) → Option ((Int × Int) ⊕ (Int ⊕ (Int × Bool))) := fun ((i924, i925) : (Int × Int)) => cond (decide (i925 < (((xd.length : Nat) : Int)))) ((getI xd i925).bind fun x1019 => (cond (decide (x1019 < 0)) (some (true)) ((getI xd i925).bind fun x1040 => some (decide ((((xb.length : Nat) : Int)) ≤ x1040)))).bind fun t1038 => (cond (t1038) (some (true)) ((getI xd i925).bind fun x1070 => (getI xb x1070).bind fun x1079 => some (!decide (x1079.1 = i924)))).bind fun t1068 => cond (t1068) (some (.inr ((.inr ((0, false)))))) ((getI xd i925).bind fun x1089 => (getI xb x1089).bind fun x1098 => some (.inl ((x1098.2, IntKind.wrap .i64 (i925 + 1)))))) (some (.inr (.inl i924)))
noncomputable def fn_ref14_Walk (xa : Int) (xb : (List (Int × Int))) (xc : Int) (xd : (List Int)) : Option (Int × Bool) :=
  cond ((decide (xc < 0)) || (decide (xa ≤ xc))) (some ((0, false))) ((loop (fn_ref14_Walk_l1 xb xd) (xc, 0) : Option (Int ⊕ (Int × Bool))).bind fun o => match o with | .inr r => some r | .inl i832 => some ((i832, true)))
noncomputable def h_ref14_Walk : Hn Try.prog := .gp 3 (.tw 17 (.nil) (.jx [] ⟨[(2, .dat (.int .i64))], []⟩ [] (.lp ⟨[(2, .dat (.int .i64)), (10, .dat (.int .i64))], []⟩ (.tw 21 (.gj 7 ⟨[(37, .dat .bool)], []⟩ [] (.two 29 (.nil) (.nil)) (.gj 10 ⟨[(49, .dat .bool)], []⟩ [] (.two 38 (.nil) (.nil)) (.tw 49 (.nil) (.nil)))) (.nil))) (.nil)))
noncomputable def sp_ref14_Walk : Spec := ⟨18, ⟨[(0, .dat (.int .i64)), (1, .dat (.sl (.cons (.int .i64) (.one (.int .i64))))), (2, .dat (.int .i64)), (3, .dat (.sl (.int .i64)))], []⟩, [⟨[(0, .tup [.dat (.int .i64), .dat .bool])], []⟩], fun x => fn_ref14_Walk x.1 x.2.1 x.2.2.1 x.2.2.2⟩
theorem ref14_Walk_is : SpecOk Try.prog sp_ref14_Walk := fn_is Try.func18 h_ref14_Walk (by kernel_rfl) (by kernel_rfl)
noncomputable def ok_ref14_Walk : OkSpec Try.prog := ⟨sp_ref14_Walk, ref14_Walk_is, Try.call18⟩
noncomputable def fn_ref14_longer_l1 (xa : (List (Int × Int))) (xc : (List (List Int))) (i28593 : Int) (i30277 : Int) : ((List (List Int)) × Int) → Option (((List (List Int)) × Int) ⊕ (List (List Int))) := fun ((l31065, i31070) : ((List (List Int)) × Int)) => cond (decide (i31070 < (((xa.length : Nat) : Int)))) ((getI xa i31070).bind fun x31135 => cond (decide (x31135.1 = i30277)) ((getI xc i28593).bind fun x31148 => (app ([] : List Int) x31148).bind fun z31161 => (app z31161 ([i31070] : List Int)).bind fun z31170 => (app l31065 (([z31170] : List (List Int)))).bind fun z31182 => some (.inl ((z31182, IntKind.wrap .i64 (i31070 + 1))))) (some (.inl ((l31065, IntKind.wrap .i64 (i31070 + 1)))))) (some (.inr (l31065)))
noncomputable def fn_ref14_longer_l2 (xa : (List (Int × Int))) (xb : Int) (xc : (List (List Int))) : ((List (List Int)) × Int) → Option (((List (List Int)) × Int) ⊕ (List (List Int))) := fun ((l28588, i28593) : ((List (List Int)) × Int)) => cond (decide (i28593 < (((xc.length : Nat) : Int)))) (((getI xc i28593).bind fun x30278 => cond (decide (0 < (((x30278.length : Nat) : Int)))) ((getI xc i28593).bind fun x30424 => (getI xc i28593).bind fun x30437 => (getI x30424 (IntKind.wrap .i64 ((((x30437.length : Nat) : Int)) - 1))).bind fun x30450 => (getI xa x30450).bind fun x30459 => some (x30459.2)) (some (xb)) : Option Int).bind fun i30277 => (loop (fn_ref14_longer_l1 xa xc i28593 i30277) (l28588, 0) : Option ((List (List Int)))).bind fun l30945 => some (.inl ((l30945, IntKind.wrap .i64 (i28593 + 1))))) (some (.inr (l28588)))
noncomputable def fn_ref14_longer (xa : (List (Int × Int))) (xb : Int) (xc : (List (List Int))) : Option ((List (List Int))) :=
  (loop (fn_ref14_longer_l2 xa xb xc) ((([] : List (List Int)), 0)) : Option ((List (List Int)))).bind fun l25990 => some (l25990)
noncomputable def h_ref14_longer : Hn Try.prog := .jn [] ⟨[(7, .own 28 (.sl (.int .i64))), (12, .any)], []⟩ [0] (.lp ⟨[(7, .own 28 (.sl (.int .i64))), (8, .dat (.int .i64))], []⟩ (.tw 16 (.pl (.pl (.sq [] ⟨[(9, .dat (.int .i64))], []⟩ [] (.tw 25 (.mix [] [0, 1, 2, 3, 4, 5, 6, 7, 8, 9, 10, 11, 12, 13, 14, 15, 16] [] [] (.nil)) (.nil)) (.jn [] ⟨[(7, .own 28 (.sl (.int .i64)))], []⟩ [2] (.lp ⟨[(7, .own 28 (.sl (.int .i64))), (10, .dat (.int .i64))], []⟩ (.tw 45 (.tw 54 (.per 12 13 (.nil)) (.nil)) (.nil))) (.nil))))) (.nil))) (.nil)
noncomputable def sp_ref14_longer : Spec := ⟨29, ⟨[(0, .dat (.sl (.cons (.int .i64) (.one (.int .i64))))), (1, .dat (.int .i64)), (2, .dat (.sl (.sl (.int .i64))))], []⟩, [⟨[(0, .own 28 (.sl (.int .i64)))], []⟩], fun x => fn_ref14_longer x.1 x.2.1 x.2.2⟩
theorem ref14_longer_is : SpecOk Try.prog sp_ref14_longer := fn_is Try.func29 h_ref14_longer (by kernel_rfl) (by kernel_rfl)
noncomputable def ok_ref14_longer : OkSpec Try.prog := ⟨sp_ref14_longer, ref14_longer_is, Try.call29⟩
noncomputable def fn_ref14_Shortest_l1 (xa : Int) (xb : (List (Int × Int))) (xc : Int) (xd : Int) (l17069 : (List (List Int))) : ((List (List Int)) × Int) → Option (((List (List Int)) × Int) ⊕ (List (List Int))) := fun ((l18224, i18229) : ((List (List Int)) × Int)) => cond (decide (i18229 < (((l17069.length : Nat) : Int)))) ((getI l17069 i18229).bind fun x18284 => (fn_ref14_Walk xa xb xc x18284).bind fun (i18299, t18300) => cond (t18300 && (decide (i18299 = xd))) ((getI l17069 i18229).bind fun x18307 => (app l18224 (([x18307] : List (List Int)))).bind fun z18323 => some (.inl ((z18323, IntKind.wrap .i64 (i18229 + 1))))) (some (.inl ((l18224, IntKind.wrap .i64 (i18229 + 1)))))) (some (.inr (l18224)))
noncomputable def fn_ref14_Shortest_l2 (xa : Int) (xb : (List (Int × Int))) (xc : Int) (xd : Int) (xe : Int) : ((List (List Int)) × Int) → Option (((List (List Int)) × Int) ⊕ (Unit ⊕ (List (List Int)))) := fun ((l17069, i17073) : ((List (List Int)) × Int)) => cond (decide (i17073 ≤ xe)) ((loop (fn_ref14_Shortest_l1 xa xb xc xd l17069) ((([] : List (List Int)), 0)) : Option ((List (List Int)))).bind fun l18121 => cond (decide (0 < (((l18121.length : Nat) : Int)))) (some (.inr ((.inr (l18121))))) ((fn_ref14_longer xb xc l17069).bind fun l18332 => some (.inl ((l18332, IntKind.wrap .i64 (i17073 + 1)))))) (some (.inr ((.inl ()))))
noncomputable def fn_ref14_Shortest (xa : Int) (xb : (List (Int × Int))) (xc : Int) (xd : Int) (xe : Int) : Option ((List (List Int))) :=
  (loop (fn_ref14_Shortest_l2 xa xb xc xd xe) ((([([] : List Int)] : List (List Int)), 0)) : Option (Unit ⊕ (List (List Int)))).bind fun o => match o with | .inr r => some r | .inl () => some ([])
noncomputable def h_ref14_Shortest : Hn Try.prog := .per 0 1 (.per 2 3 (.jx [] ⟨[], []⟩ [] (.lp ⟨[(11, .dat (.sl (.sl (.int .i64)))), (12, .dat (.int .i64))], []⟩ (.tw 21 (.pl (.pl (.jn [] ⟨[(13, .own 28 (.sl (.int .i64))), (24, .any)], []⟩ [4] (.lp ⟨[(13, .own 28 (.sl (.int .i64))), (14, .dat (.int .i64))], []⟩ (.tw 28 (.cl ok_ref14_Walk [] (.gp 3 (.tw 47 (.nil) (.nil)))) (.nil))) (.tw 57 (.nil) (.cl ok_ref14_longer [] (.per 8 9 (.nil))))))) (.nil))) (.nil)))
noncomputable def sp_ref14_Shortest : Spec := ⟨12, ⟨[(0, .dat (.int .i64)), (1, .dat (.sl (.cons (.int .i64) (.one (.int .i64))))), (2, .dat (.int .i64)), (3, .dat (.int .i64)), (4, .dat (.int .i64))], []⟩, [⟨[(0, .own 28 (.sl (.int .i64)))], []⟩], fun x => fn_ref14_Shortest x.1 x.2.1 x.2.2.1 x.2.2.2.1 x.2.2.2.2⟩
theorem ref14_Shortest_is : SpecOk Try.prog sp_ref14_Shortest := fn_is Try.func12 h_ref14_Shortest (by kernel_rfl) (by kernel_rfl)
noncomputable def ok_ref14_Shortest : OkSpec Try.prog := ⟨sp_ref14_Shortest, ref14_Shortest_is, Try.call12⟩
noncomputable def fn_ref14_Less_l1 (xa : (List Int)) (xb : (List Int)) : Int → Option (Int ⊕ (Unit ⊕ Bool)) := fun (i1495 : Int) => cond ((decide (i1495 ≤ (((xa.length : Nat) : Int)))) && (decide (i1495 ≤ (((xb.length : Nat) : Int))))) ((getI xa (IntKind.wrap .i64 ((((xa.length : Nat) : Int)) - i1495))).bind fun x1703 => (getI xb (IntKind.wrap .i64 ((((xb.length : Nat) : Int)) - i1495))).bind fun x1712 => cond (!decide (x1703 = x1712)) ((getI xa (IntKind.wrap .i64 ((((xa.length : Nat) : Int)) - i1495))).bind fun x1776 => (getI xb (IntKind.wrap .i64 ((((xb.length : Nat) : Int)) - i1495))).bind fun x1785 => some (.inr ((.inr (decide (x1776 < x1785)))))) (some (.inl (IntKind.wrap .i64 (i1495 + 1))))) (some (.inr ((.inl ()))))
noncomputable def fn_ref14_Less (xa : (List Int)) (xb : (List Int)) : Option Bool :=
  (loop (fn_ref14_Less_l1 xa xb) 1 : Option (Unit ⊕ Bool)).bind fun o => match o with | .inr r => some r | .inl () => some (decide ((((xa.length : Nat) : Int)) < (((xb.length : Nat) : Int))))
noncomputable def h_ref14_Less : Hn Try.prog := .jx [] ⟨[], []⟩ [] (.lp ⟨[(5, .dat (.int .i64))], []⟩ (.gp 4 (.tw 15 (.mix [] [0, 1, 2, 3, 4, 5, 6, 7, 8, 9, 10, 11, 12, 13, 14] [] [] (.tw 32 (.mix [] [0, 1, 2, 3, 4, 5, 6, 7, 8, 9, 10, 11, 12, 13, 14, 15] [] [] (.nil)) (.nil))) (.nil)))) (.nil)
noncomputable def sp_ref14_Less : Spec := ⟨16, ⟨[(0, .dat (.sl (.int .i64))), (1, .dat (.sl (.int .i64)))], []⟩, [⟨[(0, .dat .bool)], []⟩], fun x => fn_ref14_Less x.1 x.2⟩
theorem ref14_Less_is : SpecOk Try.prog sp_ref14_Less := fn_is Try.func16 h_ref14_Less (by kernel_rfl) (by kernel_rfl)
noncomputable def ok_ref14_Less : OkSpec Try.prog := ⟨sp_ref14_Less, ref14_Less_is, Try.call16⟩
noncomputable def fn_ref14_Least_l1 (xa : (List (List Int))) : (Int × Int) → Option ((Int × Int) ⊕ Int) := fun ((i1163, i1164) : (Int × Int)) => cond (decide (i1164 < (((xa.length : Nat) : Int)))) ((getI xa i1164).bind fun x1359 => (getI xa i1163).bind fun x1372 => (fn_ref14_Less x1359 x1372).bind fun t1387 => cond (t1387) (some (.inl ((i1164, IntKind.wrap .i64 (i1164 + 1))))) (some (.inl ((i1163, IntKind.wrap .i64 (i1164 + 1)))))) (some (.inr (i1163)))
noncomputable def fn_ref14_Least (xa : (List (List Int))) : Option (List Int) :=
  (loop (fn_ref14_Least_l1 xa) (0, 1) : Option Int).bind fun i1048 => (getI xa i1048).bind fun x1392 => some (x1392)
noncomputable def h_ref14_Least : Hn Try.prog := .jn [] ⟨[(3, .dat (.int .i64))], []⟩ [] (.lp ⟨[(3, .dat (.int .i64)), (4, .dat (.int .i64))], []⟩ (.tw 8 (.mix [] [0, 1, 2, 3, 4, 5, 6, 7] [8] [] (.cl ok_ref14_Less [] (.tw 19 (.nil) (.nil)))) (.nil))) (.nil)
noncomputable def sp_ref14_Least : Spec := ⟨14, ⟨[(0, .dat (.sl (.sl (.int .i64))))], []⟩, [⟨[(0, .dat (.sl (.int .i64)))], []⟩], fun x => fn_ref14_Least x⟩
theorem ref14_Least_is : SpecOk Try.prog sp_ref14_Least := fn_is Try.func14 h_ref14_Least (by kernel_rfl) (by kernel_rfl)
noncomputable def ok_ref14_Least : OkSpec Try.prog := ⟨sp_ref14_Least, ref14_Least_is, Try.call14⟩

noncomputable def fn_law14_PathShort (xa : Int) (xb : (List (Int × Int))) (xc : Int) (xd : Int) : Option Bool :=
  cond ((decide (6 < xa)) || (decide (10 < (((xb.length : Nat) : Int))))) ((fn_law14_awake).bind fun t269 => some (t269)) ((fn_law10_Of xa xb).bind fun (p275, i276) => cond (!decide (i276 = 0)) ((fn_path_Short_kpiiz p275 xc xd).bind fun (l285, t286) => (cond ((decide ((((l285.length : Nat) : Int)) = 0)) && (!t286)) ((fn_path_Count p275 xc xd).bind fun i307 => some (decide (i307 = 0))) (some (false))).bind fun t303 => (cond (t303) ((fn_law14_awake).bind fun t322 => some (t322)) (some (false))).bind fun t318 => some (t318)) ((fn_path_Short_kpiip0_iiiiiii p275 xc xd 0 0 0 0 0 0 0).bind fun (l329, t330, i331) => (cond ((decide (0 ≤ xd)) && (decide (xd < xa))) ((fn_ref13_Dist xa xb xc).bind fun l385 => (getI l385 xd).bind fun x393 => some (x393)) (some ((-1))) : Option Int).bind fun i379 => (cond ((!(t330 == (decide (0 ≤ i379)))) || ((decide (0 < (((l329.length : Nat) : Int)))) && (!t330))) (some (true)) ((fn_tick_Counter_Of_p0c6_iiiiiii 0 0 0 0 0 0 i331).bind fun i415 => some (decide ((IntKind.wrap .i64 (3 * (IntKind.wrap .i64 (xa + (((xb.length : Nat) : Int)))))) < i415)))).bind fun t411 => cond (t411) (some (false)) (cond (!t330) ((fn_path_Count p275 xc xd).bind fun i423 => (cond (decide (i423 = 0)) ((fn_law14_awake).bind fun t438 => some (t438)) (some (false))).bind fun t434 => some (t434)) ((fn_ref14_Shortest xa xb xc xd i379).bind fun l444 => cond (decide (0 < (((l444.length : Nat) : Int)))) ((fn_ref14_Least l444).bind fun l480 => (fn_ref01_Same l329 l480).bind fun t492 => (cond (t492) ((fn_path_Count p275 xc xd).bind fun i507 => some (decide (i507 = (((l444.length : Nat) : Int))))) (some (false))).bind fun t503 => (cond (t503) ((fn_law14_awake).bind fun t522 => some (t522)) (some (false))).bind fun t518 => some (t518)) (some (false))))))
noncomputable def h_law14_PathShort : Hn Try.prog := .gp 3 (.tw 24 (.cl ok_law14_awake [] (.nil)) (.cl ok_law10_Of [] (.tw 33 (.cl ok_path_Short_kpiiz [] (.gp 2 (.gj 5 ⟨[(54, .dat .bool)], []⟩ [] (.two 48 (.cl ok_path_Count [] (.nil)) (.nil)) (.gj 1 ⟨[(57, .dat .bool)], []⟩ [] (.two 55 (.cl ok_law14_awake [] (.nil)) (.nil)) (.nil))))) (.mc 0 0 1 (.mc 0 1 1 (.mc 0 2 1 (.mc 0 3 1 (.mc 0 4 1 (.mc 0 5 1 (.cl ok_path_Short_kpiip0_iiiiiii [] (.pl (.sq [] ⟨[(16, .dat (.int .i64))], []⟩ [] (.gp 3 (.tw 71 (.cl ok_ref13_Dist [] (.nil)) (.nil))) (.gp 7 (.mc 0 6 11 (.gj 7 ⟨[(100, .dat .bool)], [⟨(some 0), 34, [.is 1 (.any), .is 2 (.any), .is 3 (.any), .is 4 (.any), .is 5 (.any), .is 6 (.any), .is 7 (.any)], false, false, none⟩, ⟨(some 2), 0, [], false, true, none⟩, ⟨(some 3), 0, [], false, true, none⟩, ⟨(some 4), 0, [], false, true, none⟩, ⟨(some 5), 0, [], false, true, none⟩, ⟨(some 6), 0, [], false, true, none⟩, ⟨(some 7), 0, [], false, true, none⟩, ⟨(some 12), 0, [], false, true, none⟩]⟩ [0] (.two 92 (.nil) (.cl ok_tick_Counter_Of_p0c6_iiiiiii [] (.nil))) (.tw 100 (.nil) (.tw 102 (.cl ok_path_Count [] (.gj 1 ⟨[(110, .dat .bool)], []⟩ [] (.two 108 (.cl ok_law14_awake [] (.nil)) (.nil)) (.nil))) (.cl ok_ref14_Shortest [] (.two 120 (.per 14 15 (.cl ok_ref14_Least [] (.cl ok_ref01_Same [9] (.gj 7 ⟨[(134, .dat .bool)], []⟩ [] (.two 126 (.cl ok_path_Count [] (.nil)) (.nil)) (.gj 1 ⟨[(137, .dat .bool)], []⟩ [] (.two 135 (.cl ok_law14_awake [] (.nil)) (.nil)) (.nil)))))) (.nil))))))))))))))))))))
noncomputable def sp_law14_PathShort : Spec := ⟨3, ⟨[(0, .dat (.int .i64)), (1, .dat (.sl (.cons (.int .i64) (.one (.int .i64))))), (2, .dat (.int .i64)), (3, .dat (.int .i64))], []⟩, [⟨[(0, .dat .bool)], []⟩], fun x => fn_law14_PathShort x.1 x.2.1 x.2.2.1 x.2.2.2⟩
theorem law14_PathShort_is : SpecOk Try.prog sp_law14_PathShort := fn_is Try.func3 h_law14_PathShort (by kernel_rfl) (by kernel_rfl)
noncomputable def ok_law14_PathShort : OkSpec Try.prog := ⟨sp_law14_PathShort, law14_PathShort_is, Try.call3⟩
noncomputable def fn_path_Walk_l1 (xa : (Option (Int × (List (Int × Int)) × ((List Int) × (List Int)) × ((List Int) × (List Int))))) (xc : (List Int)) : (Int × Int) → Option ((Int × Int) ⊕ (Int ⊕ (Int × Bool))) := fun ((i280, i281) : (Int × Int)) => cond (decide (i281 < (((xc.length : Nat) : Int)))) ((getI xc i281).bind fun x308 => (fn_graph_Graph_Arc xa x308).bind fun (i319, i320, t321) => cond ((!t321) || (!decide (i319 = i280))) (some (.inr ((.inr ((0, false)))))) (some (.inl ((i320, IntKind.wrap .i64 (i281 + 1)))))) (some (.inr (.inl i280)))
noncomputable def fn_path_Walk (xa : (Option (Int × (List (Int × Int)) × ((List Int) × (List Int)) × ((List Int) × (List Int))))) (xb : Int) (xc : (List Int)) : Option (Int × Bool) :=
  (cond (decide (xb < 0)) (some (true)) ((fn_graph_Graph_Nodes xa).bind fun i177 => some (decide (i177 ≤ xb)))).bind fun t173 => cond (t173) (some ((0, false))) ((loop (fn_path_Walk_l1 xa xc) (xb, 0) : Option (Int ⊕ (Int × Bool))).bind fun o => match o with | .inr r => some r | .inl i255 => some ((i255, true)))
noncomputable def h_path_Walk : Hn Try.prog := .gj 4 ⟨[(19, .dat .bool)], []⟩ [] (.two 14 (.nil) (.cl ok_graph_Graph_Nodes [] (.nil))) (.tw 19 (.nil) (.jx [] ⟨[(1, .dat (.int .i64))], []⟩ [] (.lp ⟨[(1, .dat (.int .i64)), (22, .dat (.int .i64))], []⟩ (.tw 23 (.cl ok_graph_Graph_Arc [] (.gp 4 (.tw 39 (.nil) (.nil)))) (.nil))) (.nil)))
noncomputable def sp_path_Walk : Spec := ⟨17, ⟨[(0, .dat (.ptr (.cons (.int .i64) (.cons (.sl (.cons (.int .i64) (.one (.int .i64)))) (.cons (.cons (.sl (.int .i64)) (.one (.sl (.int .i64)))) (.one (.cons (.sl (.int .i64)) (.one (.sl (.int .i64)))))))))), (1, .dat (.int .i64)), (2, .dat (.sl (.int .i64)))], []⟩, [⟨[(0, .tup [.dat (.int .i64), .dat .bool])], []⟩], fun x => fn_path_Walk x.1 x.2.1 x.2.2⟩
theorem path_Walk_is : SpecOk Try.prog sp_path_Walk := fn_is Try.func17 h_path_Walk (by kernel_rfl) (by kernel_rfl)
noncomputable def ok_path_Walk : OkSpec Try.prog := ⟨sp_path_Walk, path_Walk_is, Try.call17⟩

noncomputable def fn_law14_PathWalks (xa : Int) (xb : (List (Int × Int))) (xc : Int) (xd : (List Int)) (xe : (List Int)) : Option Bool :=
  cond ((((decide (16 < xa)) || (decide (40 < (((xb.length : Nat) : Int))))) || (decide (20 < (((xd.length : Nat) : Int))))) || (decide (20 < (((xe.length : Nat) : Int))))) ((fn_law14_awake).bind fun t84 => some (t84)) ((fn_law10_Of xa xb).bind fun (p90, i91) => (fn_path_Less xd xe).bind fun t99 => (fn_ref14_Less xd xe).bind fun t105 => cond (!(t99 == t105)) (some (false)) (cond (!decide (i91 = 0)) ((fn_law14_awake).bind fun t113 => some (t113)) ((fn_path_Walk p90 xc xd).bind fun (i119, t120) => (fn_ref14_Walk xa xb xc xd).bind fun (i126, t127) => (cond ((decide (i119 = i126)) && (t120 == t127)) ((fn_law14_awake).bind fun t144 => some (t144)) (some (false))).bind fun t140 => some (t140))))
noncomputable def h_law14_PathWalks : Hn Try.prog := .gp 3 (.gp 3 (.gp 3 (.tw 33 (.cl ok_law14_awake [] (.nil)) (.cl ok_law10_Of [] (.cl ok_path_Less [] (.cl ok_ref14_Less [] (.tw 47 (.nil) (.tw 49 (.cl ok_law14_awake [] (.nil)) (.cl ok_path_Walk [] (.cl ok_ref14_Walk [] (.gp 3 (.gj 1 ⟨[(76, .dat .bool)], []⟩ [] (.two 74 (.cl ok_law14_awake [] (.nil)) (.nil)) (.nil)))))))))))))
noncomputable def sp_law14_PathWalks : Spec := ⟨4, ⟨[(0, .dat (.int .i64)), (1, .dat (.sl (.cons (.int .i64) (.one (.int .i64))))), (2, .dat (.int .i64)), (3, .dat (.sl (.int .i64))), (4, .dat (.sl (.int .i64)))], []⟩, [⟨[(0, .dat .bool)], []⟩], fun x => fn_law14_PathWalks x.1 x.2.1 x.2.2.1 x.2.2.2.1 x.2.2.2.2⟩
theorem law14_PathWalks_is : SpecOk Try.prog sp_law14_PathWalks := fn_is Try.func4 h_law14_PathWalks (by kernel_rfl) (by kernel_rfl)
noncomputable def ok_law14_PathWalks : OkSpec Try.prog := ⟨sp_law14_PathWalks, law14_PathWalks_is, Try.call4⟩

noncomputable def fn_law14_PathEnds (xa : Int) (xb : (List (Int × Int))) (xc : Int) (xd : Int) : Option Bool :=
  cond ((decide (16 < xa)) || (decide (40 < (((xb.length : Nat) : Int))))) ((fn_law14_awake).bind fun t224 => some (t224)) ((fn_law10_Of xa xb).bind fun (p230, i231) => cond (!decide (i231 = 0)) ((fn_law14_awake).bind fun t240 => some (t240)) ((fn_path_Short_kpiiz p230 xc xd).bind fun (l246, t247) => cond (!t247) ((fn_path_Count p230 xc xd).bind fun i258 => (cond (decide (i258 = 0)) ((fn_law14_awake).bind fun t273 => some (t273)) (some (false))).bind fun t269 => some (t269)) ((fn_path_Walk p230 xc l246).bind fun (i282, t283) => (cond ((!t283) || (!decide (i282 = xd))) (some (true)) ((fn_ref13_Dist xa xb xc).bind fun l311 => (getI l311 xd).bind fun x319 => some (!decide ((((l246.length : Nat) : Int)) = x319)))).bind fun t307 => (cond (t307) (some (true)) ((fn_path_Count p230 xc xd).bind fun i337 => some (decide (i337 < 1)))).bind fun t333 => cond (t333) (some (false)) (cond (decide ((((l246.length : Nat) : Int)) = 0)) ((cond (decide (xc = xd)) ((fn_law14_awake).bind fun t354 => some (t354)) (some (false))).bind fun t350 => some (t350)) ((subL l246 0 (IntKind.wrap .i64 ((((l246.length : Nat) : Int)) - 1))).bind fun y361 => (fn_path_Walk p230 xc y361).bind fun (i369, t370) => (fn_path_Short_kpiiz p230 xc i369).bind fun (l376, t377) => (cond (t370 && t377) ((subL l246 0 (IntKind.wrap .i64 ((((l246.length : Nat) : Int)) - 1))).bind fun y405 => (fn_ref01_Same l376 y405).bind fun t416 => some (t416)) (some (false))).bind fun t403 => (cond (t403) ((fn_law14_awake).bind fun t431 => some (t431)) (some (false))).bind fun t427 => some (t427))))))
noncomputable def h_law14_PathEnds : Hn Try.prog := .gp 3 (.tw 25 (.cl ok_law14_awake [] (.nil)) (.cl ok_law10_Of [] (.tw 34 (.cl ok_law14_awake [] (.nil)) (.cl ok_path_Short_kpiiz [] (.tw 44 (.cl ok_path_Count [] (.gj 1 ⟨[(52, .dat .bool)], []⟩ [] (.two 50 (.cl ok_law14_awake [] (.nil)) (.nil)) (.nil))) (.cl ok_path_Walk [0] (.gp 3 (.gj 10 ⟨[(78, .dat .bool)], []⟩ [] (.two 67 (.nil) (.cl ok_ref13_Dist [] (.nil))) (.gj 5 ⟨[(85, .dat .bool)], []⟩ [] (.two 79 (.nil) (.cl ok_path_Count [] (.nil))) (.tw 85 (.nil) (.tw 88 (.gj 1 ⟨[(94, .dat .bool)], []⟩ [] (.two 92 (.cl ok_law14_awake [] (.nil)) (.nil)) (.nil)) (.per 0 1 (.cl ok_path_Walk [] (.cl ok_path_Short_kpiiz [] (.gp 1 (.gj 7 ⟨[(125, .dat .bool)], []⟩ [] (.two 117 (.cl ok_ref01_Same [2] (.nil)) (.nil)) (.gj 1 ⟨[(128, .dat .bool)], []⟩ [] (.two 126 (.cl ok_law14_awake [] (.nil)) (.nil)) (.nil))))))))))))))))))
noncomputable def sp_law14_PathEnds : Spec := ⟨5, ⟨[(0, .dat (.int .i64)), (1, .dat (.sl (.cons (.int .i64) (.one (.int .i64))))), (2, .dat (.int .i64)), (3, .dat (.int .i64))], []⟩, [⟨[(0, .dat .bool)], []⟩], fun x => fn_law14_PathEnds x.1 x.2.1 x.2.2.1 x.2.2.2⟩
theorem law14_PathEnds_is : SpecOk Try.prog sp_law14_PathEnds := fn_is Try.func5 h_law14_PathEnds (by kernel_rfl) (by kernel_rfl)
noncomputable def ok_law14_PathEnds : OkSpec Try.prog := ⟨sp_law14_PathEnds, law14_PathEnds_is, Try.call5⟩
end Go.Proofs.Ytcbgkokeikkpoaa
namespace Go.Proofs.Ytcbgkokeikkpoaa
set_option linter.unusedVariables false
section
variable {σ β : Type} {body : σ → Option (σ ⊕ β)}
theorem loop_nat (st : Nat → σ) (n : Nat) {b : β} (h : ∀ k, k < n → body (st k) = some (.inl (st (k + 1)))) (he : body (st n) = some (.inr b)) : loop body (st 0) = some b := by
  have : ∀ m k, k + m = n → loop body (st k) = some b := by
    intro m
    induction m with
    | zero => intro k hk; have : k = n := by omega
              subst this; exact loop_end he
    | succ m ih => intro k hk; rw [loop_next (h k (by omega))]; exact ih (k + 1) (by omega)
  exact this n 0 (by omega)
theorem least (p : Nat → Prop) : ∀ n, (∃ k, k < n ∧ p k ∧ ∀ j, j < k → ¬ p j) ∨ ∀ j, j < n → ¬ p j
  | 0 => .inr (fun j hj => by omega)
  | n + 1 => by
    rcases least p n with ⟨k, h1, h2, h3⟩ | h
    · exact .inl ⟨k, by omega, h2, h3⟩
    · by_cases hp : p n
      · exact .inl ⟨n, by omega, hp, h⟩
      · exact .inr (fun j hj => if e : j = n then e ▸ hp else h j (by omega))
theorem loop_find (p : Nat → Prop) (st : Nat → σ) (n : Nat) (hit : Nat → β) (e : β) (hgo : ∀ k, k < n → ¬ p k → body (st k) = some (.inl (st (k + 1)))) (hhit : ∀ k, k < n → p k → body (st k) = some (.inr (hit k))) (hend : body (st n) = some (.inr e)) :
    (∃ k, k < n ∧ p k ∧ (∀ j, j < k → ¬ p j) ∧ loop body (st 0) = some (hit k)) ∨ ((∀ j, j < n → ¬ p j) ∧ loop body (st 0) = some e) := by
  rcases least p n with ⟨k, h1, h2, h3⟩ | h
  · exact .inl ⟨k, h1, h2, h3, loop_nat st k (fun j hj => hgo j (by omega) (h3 j hj)) (hhit k h1 h2)⟩
  · exact .inr ⟨h, loop_nat st n (fun k hk => hgo k hk (h k hk)) hend⟩
open Classical in
theorem loop_any (p : Nat → Prop) (st : Nat → σ) (n : Nat) (b e : β) (hgo : ∀ k, k < n → ¬ p k → body (st k) = some (.inl (st (k + 1)))) (hhit : ∀ k, k < n → p k → body (st k) = some (.inr b)) (hend : body (st n) = some (.inr e)) :
    loop body (st 0) = some (if ∃ k, k < n ∧ p k then b else e) := by
  rcases loop_find p st n (fun _ => b) e hgo hhit hend with ⟨k, h1, h2, h3, h4⟩ | ⟨h1, h2⟩
  · rw [if_pos ⟨k, h1, h2⟩]; exact h4
  · rw [if_neg (fun ⟨k, h3, h4⟩ => h1 k h3 h4)]; exact h2
end
theorem w64 {x : Int} (h1 : -9223372036854775808 ≤ x) (h2 : x ≤ 9223372036854775807) : IntKind.wrap .i64 x = x := by
  rw [IntWalk.i64_left, IntWalk.wrap64_in _ ⟨h1, h2⟩]
theorem w64s {k n : Nat} (h : k < n) (hn : n ≤ 9223372036854775807) : IntKind.wrap .i64 ((k : Int) + 1) = ((k + 1 : Nat) : Int) := by
  rw [w64 (by omega) (by omega)]; rfl
theorem ne_list {α : Type} {xs ys : List α} (h : xs.length = ys.length) : (∃ k, k < xs.length ∧ xs[k]? ≠ ys[k]?) ↔ xs ≠ ys := by
  constructor
  · rintro ⟨k, _, h2⟩ rfl; exact h2 rfl
  · intro hne
    rcases least (fun k => xs[k]? ≠ ys[k]?) xs.length with ⟨k, h1, h2, _⟩ | h'
    · exact ⟨k, h1, h2⟩
    · exfalso; apply hne
      apply List.ext_getElem? 
      intro k
      by_cases hk : k < xs.length
      · exact Classical.byContradiction (fun hc => h' k hk hc)
      · rw [List.getElem?_eq_none (by omega), List.getElem?_eq_none (by omega)]
theorem getN {α : Type} {l : List α} {k : Nat} (h : k < l.length) : getI l (k : Int) = some l[k] := getI_eq rfl h
theorem any_ex {α : Type} {t : α → Bool} {l : List α} : l.any t = true ↔ ∃ k, k < l.length ∧ (l[k]?.map t) = some true := by
  rw [List.any_eq_true]
  constructor
  · rintro ⟨x, hx, h⟩
    obtain ⟨k, hk, rfl⟩ := List.getElem_of_mem hx
    exact ⟨k, hk, by simp [hk, h]⟩
  · rintro ⟨k, hk, h⟩
    exact ⟨l[k], List.getElem_mem hk, by simpa [hk] using h⟩
/-- A list searched. -/
theorem loop_one {α β : Type} (xa : List α) (t : α → Bool) (hit e : β) (hn : xa.length ≤ 9223372036854775807) :
    loop (fun (i : Int) => (cond (decide (i < ((xa.length : Nat) : Int))) ((getI xa i).bind fun x => cond (t x) (some (.inr hit)) (some (.inl (IntKind.wrap .i64 (i + 1))))) (some (.inr e)) : Option (Int ⊕ β))) 0 = some (if xa.any t then hit else e) := by
  classical
  have h := loop_any (body := fun (i : Int) => (cond (decide (i < ((xa.length : Nat) : Int))) ((getI xa i).bind fun x => cond (t x) (some (.inr hit)) (some (.inl (IntKind.wrap .i64 (i + 1))))) (some (.inr e)) : Option (Int ⊕ β)))
    (fun k => (xa[k]?.map t) = some true) (fun k : Nat => (k : Int)) xa.length hit e ?_ ?_ ?_
  · refine h.trans ?_
    by_cases hh : xa.any t = true
    · rw [if_pos (any_ex.1 hh), if_pos hh]
    · rw [if_neg (fun h => hh (any_ex.2 h)), if_neg hh]
  · intro k hk hp
    simp [hk] at hp
    simp [hk, getN hk, hp, w64s hk hn]
  · intro k hk hp
    simp [hk] at hp
    simp [hk, getN hk, hp]
  · simp
/-- Two lists searched, hand in hand. -/
theorem loop_two {α γ β : Type} (xa : List α) (xb : List γ) (t : α → γ → Bool) (hit e : β) (hl : xa.length = xb.length) (hn : xa.length ≤ 9223372036854775807) :
    loop (fun (i : Int) => (cond (decide (i < ((xa.length : Nat) : Int))) ((getI xa i).bind fun x => (getI xb i).bind fun y => cond (t x y) (some (.inr hit)) (some (.inl (IntKind.wrap .i64 (i + 1))))) (some (.inr e)) : Option (Int ⊕ β))) 0 = some (if (xa.zip xb).any (fun p => t p.1 p.2) then hit else e) := by
  classical
  have hz : (xa.zip xb).length = xa.length := by simp [hl]
  have h := loop_any (body := fun (i : Int) => (cond (decide (i < ((xa.length : Nat) : Int))) ((getI xa i).bind fun x => (getI xb i).bind fun y => cond (t x y) (some (.inr hit)) (some (.inl (IntKind.wrap .i64 (i + 1))))) (some (.inr e)) : Option (Int ⊕ β)))
    (fun k => ((xa.zip xb)[k]?.map fun p => t p.1 p.2) = some true) (fun k : Nat => (k : Int)) xa.length hit e ?_ ?_ ?_
  · refine h.trans ?_
    have ha := any_ex (t := fun p : α × γ => t p.1 p.2) (l := xa.zip xb)
    rw [hz] at ha
    by_cases hh : (xa.zip xb).any (fun p => t p.1 p.2) = true
    · rw [if_pos (ha.1 hh), if_pos hh]
    · rw [if_neg (fun h => hh (ha.2 h)), if_neg hh]
  · intro k hk hp
    have hk2 : k < xb.length := by omega
    have hk3 : k < (xa.zip xb).length := by omega
    have hz3 : (xa.zip xb)[k]? = some (xa[k], xb[k]) := by rw [List.getElem?_eq_getElem hk3, List.getElem_zip]
    rw [hz3] at hp
    simp at hp
    simp [hk, getN hk, getN hk2, hp, w64s hk hn]
  · intro k hk hp
    have hk2 : k < xb.length := by omega
    have hk3 : k < (xa.zip xb).length := by omega
    have hz3 : (xa.zip xb)[k]? = some (xa[k], xb[k]) := by rw [List.getElem?_eq_getElem hk3, List.getElem_zip]
    rw [hz3] at hp
    simp at hp
    simp [hk, getN hk, getN hk2, hp]
  · simp
theorem zip_any_ne {α : Type} [DecidableEq α] {xs ys : List α} (h : xs.length = ys.length) : (xs.zip ys).any (fun p => !decide (p.1 = p.2)) = !decide (xs = ys) := by
  induction xs generalizing ys with
  | nil => cases ys with
    | nil => rfl
    | cons => cases h
  | cons x xs ih => cases ys with
    | nil => cases h
    | cons y ys =>
      simp only [List.zip_cons_cons, List.any_cons, ih (by simpa using h), List.cons.injEq]
      by_cases h1 : x = y <;> simp [h1]
/-- A list searched for a place. -/
theorem loop_idx {α γ : Type} (xa : List α) (t : α → γ → Bool) (q : γ) (hn : xa.length ≤ 9223372036854775807) :
    ∃ r, loop (fun ((i, c) : Int × γ) => (cond (decide (i < ((xa.length : Nat) : Int))) ((getI xa i).bind fun x => cond (t x c) (some (.inr (.inr (i, c)))) (some (.inl (IntKind.wrap .i64 (i + 1), c)))) (some (.inr (.inl c))) : Option ((Int × γ) ⊕ (γ ⊕ (Int × γ))))) (0, q) = some r ∧ ((r = .inl q ∧ xa.any (t · q) = false) ∨ ∃ k : Nat, r = .inr ((k : Int), q) ∧ xa.any (t · q) = true) := by
  have h := loop_find (body := fun ((i, c) : Int × γ) => (cond (decide (i < ((xa.length : Nat) : Int))) ((getI xa i).bind fun x => cond (t x c) (some (.inr (.inr (i, c)))) (some (.inl (IntKind.wrap .i64 (i + 1), c)))) (some (.inr (.inl c))) : Option ((Int × γ) ⊕ (γ ⊕ (Int × γ)))))
    (fun k => (xa[k]?.map (t · q)) = some true) (fun k : Nat => ((k : Int), q)) xa.length (fun k => .inr ((k : Int), q)) (.inl q) ?_ ?_ ?_
  · rcases h with ⟨k, h1, h2, _, h3⟩ | ⟨h1, h2⟩
    · exact ⟨_, h3, .inr ⟨k, rfl, any_ex.2 ⟨k, h1, h2⟩⟩⟩
    · refine ⟨_, h2, .inl ⟨rfl, ?_⟩⟩
      cases hh : xa.any (t · q) with
      | false => rfl
      | true => obtain ⟨k, h3, h4⟩ := any_ex.1 hh; exact absurd h4 (h1 k h3)
  · intro k hk hp
    simp [hk] at hp
    simp [hk, getN hk, hp, w64s hk hn]
  · intro k hk hp
    simp [hk] at hp
    simp [hk, getN hk, hp]
  · simp
/-- A list gone through, with something carried along. -/
theorem loop_fold {α γ : Type} (xa : List α) (f : γ → α → γ) (c0 : γ) (hn : xa.length ≤ 9223372036854775807) {body : γ × Int → Option ((γ × Int) ⊕ γ)}
    (hb : ∀ k x, xa[k]? = some x → body ((xa.take k).foldl f c0, (k : Int)) = some (.inl (f ((xa.take k).foldl f c0) x, IntKind.wrap .i64 ((k : Int) + 1)))) (he : body (xa.foldl f c0, (xa.length : Int)) = some (.inr (xa.foldl f c0))) : loop body (c0, 0) = some (xa.foldl f c0) := by
  have h := loop_nat (body := body) (fun k : Nat => ((xa.take k).foldl f c0, (k : Int))) xa.length (b := xa.foldl f c0) ?_ ?_
  · simpa using h
  · intro k hk
    rw [hb k xa[k] (by simp [hk]), w64s hk hn]
    congr 3
    rw [List.take_succ_eq_append_getElem hk, List.foldl_append]; rfl
  · simpa using he
theorem foldl_snoc {α γ : Type} (g : α → γ) (xa : List α) (c : List γ) : xa.foldl (fun c x => c ++ [g x]) c = c ++ xa.map g := by
  induction xa generalizing c with
  | nil => simp
  | cons x xa ih => simp [ih]
/-- A list built by going through another. -/
theorem loop_map {α γ : Type} (xa : List α) (g : α → γ) (c0 : List γ) (hn : c0.length + xa.length ≤ 1073741824) {body : List γ × Int → Option ((List γ × Int) ⊕ List γ)}
    (hb : ∀ (c : List γ) (i : Int), body (c, i) = cond (decide (i < ((xa.length : Nat) : Int))) ((getI xa i).bind fun x => (app c [g x]).bind fun z => some (.inl (z, IntKind.wrap .i64 (i + 1)))) (some (.inr c))) : loop body (c0, 0) = some (c0 ++ xa.map g) := by
  rw [← foldl_snoc]
  refine loop_fold xa (fun c x => c ++ [g x]) c0 (by omega) (fun k x hx => ?_) ?_
  · have hk := (List.getElem?_eq_some_iff.1 hx).1
    rw [hb, foldl_snoc]
    have hx' : xa[k] = x := by rw [List.getElem?_eq_getElem hk] at hx; exact Option.some.inj hx
    have ha := app_eq (a := c0 ++ (xa.take k).map g) (b := [g x]) (by simp; omega)
    simp only [Option.bind_some, getN hk, hx', ha, Int.ofNat_lt.2 hk, decide_true, cond_true]
  · rw [hb]; simp
end Go.Proofs.Ytcbgkokeikkpoaa
namespace Go.Proofs.Ytcbgkokeikkpoaa
set_option linter.unusedVariables false
theorem bind_of {α β : Type} {m : Option α} {f : α → Option β} {y : β} {Q : α → Prop} (h : ∃ r, m = some r ∧ Q r) (k : ∀ r, Q r → f r = some y) : m.bind f = some y := by
  obtain ⟨r, rfl, h2⟩ := h; exact k r h2
theorem bind_ex {α β : Type} {m : Option α} {f : α → Option β} {Q : α → Prop} {R : β → Prop} (h : ∃ r, m = some r ∧ Q r) (k : ∀ r, Q r → ∃ y, f r = some y ∧ R y) : ∃ y, m.bind f = some y ∧ R y := by
  obtain ⟨r, rfl, h2⟩ := h; exact k r h2
theorem getZ {α : Type} {l : List α} {i : Int} (h0 : 0 ≤ i) (h1 : i < (l.length : Nat)) : getI l i = some (l[i.toNat]'(by omega)) := by
  unfold getI; rw [if_pos h0]; simp
theorem getN1 {α : Type} {l : List α} {k : Nat} (h : k + 1 < l.length) : getI l ((k : Int) + 1) = some l[k + 1] := getI_eq rfl h
theorem dlt {k n : Nat} (h : k < n) : decide ((k : Int) < (n : Int)) = true := by simp; omega
theorem dge {k n : Nat} (h : ¬ k < n) : decide ((k : Int) < (n : Int)) = false := by simp; omega
theorem beq_dec {α : Type} [DecidableEq α] (a b : α) : (a == b) = decide (a = b) := Bool.beq_eq_decide_eq a b
section
variable {α β γ σ : Type}
/-- Counted from 0 to n, with a way out. -/
theorem loop_stop {body : σ → Option (σ ⊕ β)} (n : Nat) (st : Nat → σ) (stop : Nat → Option β) (e : β) (h : ∀ k, k < n → body (st k) = some (match stop k with | none => .inl (st (k + 1)) | some b => .inr b)) (he : body (st n) = some (.inr e)) :
    loop body (st 0) = some (((List.range n).findSome? stop).getD e) := by
  rcases loop_find (fun k => (stop k).isSome = true) st n (fun k => (stop k).getD e) e (fun k hk hp => by
      rw [h k hk]; cases hs : stop k with
      | none => rfl
      | some b => simp [hs] at hp) (fun k hk hp => by
      rw [h k hk]; cases hs : stop k with
      | none => simp [hs] at hp
      | some b => rfl) he with ⟨k, h1, h2, h3, h4⟩ | ⟨h1, h2⟩
  · rw [h4]
    obtain ⟨b, hb⟩ := Option.isSome_iff_exists.1 h2
    have : (List.range n).findSome? stop = some b := by
      rw [List.findSome?_eq_some_iff]
      refine ⟨List.range k, k, (List.range' (k + 1) (n - k - 1)), ?_, hb, fun a ha => ?_⟩
      · rw [List.range_eq_range', List.range_eq_range', ← List.range'_succ (s := k) (n := n - k - 1)]
        rw [show n - k - 1 + 1 = n - k by omega]
        have := List.range'_append_1 (s := 0) (m := k) (n := n - k)
        rw [Nat.zero_add, show k + (n - k) = n by omega] at this
        exact this.symm
      · have := h3 a (List.mem_range.1 ha)
        cases hs : stop a with
        | none => rfl
        | some b => simp [hs] at this
    rw [this, hb]
  · rw [h2]
    have : (List.range n).findSome? stop = none := by
      rw [List.findSome?_eq_none_iff]
      intro a ha
      have := h1 a (List.mem_range.1 ha)
      cases hs : stop a with
      | none => rfl
      | some b => simp [hs] at this
    rw [this]; rfl
/-- A list searched: where the first hit lies. -/
theorem loop_search {body : Int → Option (Int ⊕ β)} (xa : List α) (t : α → Bool) (hit : Nat → β) (e : β) (hb : ∀ (k : Nat) (h : k < xa.length), body (k : Int) = some (if t xa[k] then .inr (hit k) else .inl ((k + 1 : Nat) : Int))) (he : body (xa.length : Int) = some (.inr e)) :
    loop body 0 = some (match xa.findIdx? t with | some k => hit k | none => e) := by
  rcases loop_find (fun k => ∃ h : k < xa.length, t xa[k] = true) (fun k : Nat => (k : Int)) xa.length hit e (fun k hk hp => by
      rw [hb k hk, if_neg (fun h => hp ⟨hk, h⟩)]) (fun k hk ⟨_, hp⟩ => by rw [hb k hk, if_pos hp]) he with ⟨k, h1, ⟨_, h2⟩, h3, h4⟩ | ⟨h1, h2⟩
  · rw [show ((0 : Int)) = ((0 : Nat) : Int) from rfl, h4]
    have : xa.findIdx? t = some k := by
      rw [List.findIdx?_eq_some_iff_getElem]
      exact ⟨h1, h2, fun j hj => fun hc => h3 j hj ⟨by omega, by simpa using hc⟩⟩
    rw [this]
  · rw [show ((0 : Int)) = ((0 : Nat) : Int) from rfl, h2]
    have : xa.findIdx? t = none := by
      rw [List.findIdx?_eq_none_iff]
      intro x hx
      obtain ⟨k, hk, rfl⟩ := List.getElem_of_mem hx
      cases hc : t xa[k] with
      | false => rfl
      | true => exact absurd ⟨hk, hc⟩ (h1 k hk)
    rw [this]
theorem loop_some {body : Int → Option (Int ⊕ β)} (xa : List α) (t : α → Bool) (hit e : β) (hb : ∀ (k : Nat) (h : k < xa.length), body (k : Int) = some (if t xa[k] then .inr hit else .inl ((k + 1 : Nat) : Int))) (he : body (xa.length : Int) = some (.inr e)) :
    loop body 0 = some (if xa.any t then hit else e) := by
  rw [loop_search xa t (fun _ => hit) e hb he]
  cases h : xa.findIdx? t with
  | none =>
    have : xa.any t = false := by
      rw [List.any_eq_false]; intro x hx; have := List.findIdx?_eq_none_iff.1 h x hx; simp [this]
    rw [this]; rfl
  | some k =>
    obtain ⟨hk, h1, _⟩ := List.findIdx?_eq_some_iff_getElem.1 h
    have : xa.any t = true := List.any_eq_true.2 ⟨_, List.getElem_mem hk, h1⟩
    rw [this]; rfl
/-- A list gone through, with what is carried along. -/
theorem loop_carry {δ : Type} {body : (γ × Int) → Option ((γ × Int) ⊕ δ)} (xa : List α) (acc : Nat → γ) (out : δ) (hb : ∀ (k : Nat) (h : k < xa.length), body (acc k, (k : Int)) = some (.inl (acc (k + 1), ((k + 1 : Nat) : Int)))) (he : body (acc xa.length, (xa.length : Int)) = some (.inr out)) :
    loop body (acc 0, 0) = some out := loop_nat (fun k => (acc k, (k : Int))) xa.length hb he
/-- Two lists held against each other, place by place. -/
theorem loop_alike [DecidableEq α] {body : Int → Option (Int ⊕ β)} (xa xb : List α) (hit e : β) (hl : xa.length = xb.length) (hb : ∀ (k : Nat) (h : k < xa.length), body (k : Int) = some (if xa[k] = (xb[k]'(by omega)) then .inl ((k + 1 : Nat) : Int) else .inr hit)) (he : body (xa.length : Int) = some (.inr e)) :
    loop body 0 = some (if xa = xb then e else hit) := by
  rw [loop_search (List.range xa.length) (fun k => decide (xa[k]? ≠ xb[k]?)) (fun _ => hit) e (fun k h => by
      simp at h
      rw [hb k h]
      have h2 : k < xb.length := by omega
      by_cases hq : xa[k] = xb[k] <;> simp [h, h2, hq]) (by simpa using he)]
  by_cases hq : xa = xb
  · subst hq
    have : (List.range xa.length).findIdx? (fun k => decide (xa[k]? ≠ xa[k]?)) = none := by rw [List.findIdx?_eq_none_iff]; simp
    rw [this]; simp
  · cases h : (List.range xa.length).findIdx? (fun k => decide (xa[k]? ≠ xb[k]?)) with
    | some k => simp [hq]
    | none =>
      exfalso; apply hq
      rw [List.findIdx?_eq_none_iff] at h
      apply List.ext_getElem?
      intro k
      by_cases hk : k < xa.length
      · simpa using h k (List.mem_range.2 hk)
      · rw [List.getElem?_eq_none (by omega), List.getElem?_eq_none (by omega)]
theorem take_snoc {l : List α} {k : Nat} (h : k < l.length) : l.take (k + 1) = l.take k ++ [l[k]] := List.take_succ_eq_append_getElem h
theorem dlen {a b : Nat} (h : a = b) : (!decide ((a : Int) = (b : Int))) = false := by simp [h]
theorem dlen' {a b : Nat} (h : ¬ a = b) : (!decide ((a : Int) = (b : Int))) = true := by simp; omega
end
theorem ok64 {x : Int} (h : Tp.Ok (.int .i64) x) : -9223372036854775808 ≤ x ∧ x ≤ 9223372036854775807 := by
  have h' : (Lit.int .i64 x).wf = true := h
  simp only [Lit.wf, IntKind.min, IntKind.max, IntKind.signed, IntKind.bits, Bool.and_eq_true, decide_eq_true_eq] at h'
  simp at h'; omega
theorem sub1 {α : Type} {l : List α} (h : 1 ≤ l.length) : subL l 1 ((l.length : Nat) : Int) = some (l.drop 1) := by
  rw [subL_eq (by omega) (by omega) (by omega)]; simp
end Go.Proofs.Ytcbgkokeikkpoaa
namespace Go.Proofs.Ytcbgkokeikkpoaa
set_option linter.unusedVariables false
theorem strict_eq : ∀ {xs ys : List Int}, xs.Pairwise (· < ·) → ys.Pairwise (· < ·) → (∀ a, a ∈ xs ↔ a ∈ ys) → xs = ys
  | [], [], _, _, _ => rfl
  | [], y :: ys, _, _, h => by have := (h y).2 (by simp); simp at this
  | x :: xs, [], _, _, h => by have := (h x).1 (by simp); simp at this
  | x :: xs, y :: ys, hx, hy, h => by
    obtain ⟨hx1, hx2⟩ := List.pairwise_cons.1 hx
    obtain ⟨hy1, hy2⟩ := List.pairwise_cons.1 hy
    have e : x = y := by
      have h1 := (h x).1 (by simp)
      have h2 := (h y).2 (by simp)
      rcases List.mem_cons.1 h1 with h1 | h1
      · exact h1
      · rcases List.mem_cons.1 h2 with h2 | h2
        · exact h2.symm
        · have := hy1 x h1; have := hx1 y h2; omega
    subst e
    rw [strict_eq hx2 hy2 (fun a => ?_)]
    constructor
    · intro ha
      rcases List.mem_cons.1 ((h a).1 (by simp [ha])) with e | e
      · subst e; have := hx1 a ha; omega
      · exact e
    · intro ha
      rcases List.mem_cons.1 ((h a).2 (by simp [ha])) with e | e
      · subst e; have := hy1 a ha; omega
      · exact e
theorem compactUpTo_sorted {zs : List Int} (hs : zs.Pairwise (· ≤ ·)) : ∀ m, m ≤ zs.length → (Lib.compactUpTo zs.toArray m).Pairwise (· < ·) ∧ ∀ a, a ∈ Lib.compactUpTo zs.toArray m ↔ a ∈ zs.take m
  | 0, _ => by simp [Lib.compactUpTo]
  | m + 1, h => by
    obtain ⟨h1, h2⟩ := compactUpTo_sorted hs m (by omega)
    have hm : m < zs.length := by omega
    have e : zs.toArray[m]! = zs[m] := by simp [getElem!_pos, hm]
    rw [Lib.compactUpTo_succ, e]
    have htk : zs.take (m + 1) = zs.take m ++ [zs[m]] := List.take_succ_eq_append_getElem hm
    have hle : ∀ a ∈ zs.take m, a ≤ zs[m] := by
      intro a ha
      have := hs.sublist (List.take_sublist (m + 1) zs)
      rw [htk] at this
      exact (List.pairwise_append.1 this).2.2 a ha _ (by simp)
    rw [htk]
    cases hk : Lib.keeps zs.toArray m with
    | false =>
      simp only [Bool.false_eq_true, if_false, List.append_nil]
      refine ⟨h1, fun a => ?_⟩
      rw [h2, List.mem_append]
      have hm0 : m ≠ 0 := by rintro rfl; simp [Lib.keeps] at hk
      have he : zs.toArray[m]! = zs.toArray[m - 1]! := by
        simp [Lib.keeps, hm0] at hk; simpa using hk
      have hp : m - 1 < zs.length := by omega
      have e2 : zs.toArray[m - 1]! = zs[m - 1] := by simp [getElem!_pos, hp]
      rw [e, e2] at he
      constructor
      · exact .inl
      · rintro (h | h)
        · exact h
        · simp at h; rw [h, he]
          exact List.mem_take_iff_getElem.2 ⟨m - 1, by omega, rfl⟩
    | true =>
      simp only [if_true]
      refine ⟨List.pairwise_append.2 ⟨h1, by simp, fun a ha b hb => ?_⟩, fun a => by rw [List.mem_append, List.mem_append, h2]⟩
      simp at hb; subst hb
      have ha' := (h2 a).1 ha
      have hle' := hle a ha'
      rcases Int.lt_or_eq_of_le hle' with h | h
      · exact h
      · exfalso
        obtain ⟨j, hj, rfl⟩ := List.mem_take_iff_getElem.1 ha'
        have hm0 : m ≠ 0 := by omega
        have hp : m - 1 < zs.length := by omega
        have e2 : zs.toArray[m - 1]! = zs[m - 1] := by simp [getElem!_pos, hp]
        simp only [Lib.keeps, e, e2] at hk
        simp [hm0] at hk
        have a1 : zs[j] ≤ zs[m - 1] := by
          rcases Nat.lt_or_ge j (m - 1) with q | q
          · exact List.pairwise_iff_getElem.1 hs j (m - 1) _ _ q
          · have : j = m - 1 := by omega
            subst this; exact Int.le_refl _
        have a2 : zs[m - 1] ≤ zs[m] := List.pairwise_iff_getElem.1 hs (m - 1) m _ _ (by omega)
        omega
theorem compact_sorted {zs : List Int} (hs : zs.Pairwise (· ≤ ·)) : (Lib.compact zs).Pairwise (· < ·) ∧ ∀ a, a ∈ Lib.compact zs ↔ a ∈ zs := by
  have := compactUpTo_sorted hs zs.length (Nat.le_refl _)
  rw [List.take_length] at this
  exact this
end Go.Proofs.Ytcbgkokeikkpoaa
namespace Go.Proofs.Ytcbgkokeikkpoaa
open Go.RowKit
set_option linter.unusedVariables false
/-! ### Lists over a range. -/
theorem getI_map {α : Type} {m j : Nat} {f : Nat → α} (h : j < m) : getI ((List.range m).map f) (j : Int) = some (f j) := by
  rw [getN (by simpa using h)]; simp
theorem set_map {α : Type} {m j : Nat} {f : Nat → α} {y : α} : ((List.range m).map f).set j y = (List.range m).map (fun v => if v = j then y else f v) := by
  apply List.ext_getElem
  · simp
  · intro i h1 h2
    simp only [List.getElem_set, List.getElem_map, List.getElem_range]
    by_cases h : j = i
    · subst h; simp
    · simp [h, Ne.symm h]
theorem map_congr_range {α : Type} {m : Nat} {f g : Nat → α} (h : ∀ v, v < m → f v = g v) : (List.range m).map f = (List.range m).map g := List.map_congr_left fun v hv => h v (List.mem_range.1 hv)
theorem replicate_map {α : Type} (m : Nat) (z : α) : List.replicate m z = (List.range m).map (fun _ => z) := by
  apply List.ext_getElem <;> simp
/-! ### Numbers sorted by counting. -/
def cnt (ks : List Nat) (v : Nat) : Nat := ks.countP (fun x => decide (x = v))
def ltc (ks : List Nat) (v : Nat) : Nat := ks.countP (fun x => decide (x < v))
theorem ltc_zero (ks : List Nat) : ltc ks 0 = 0 := by simp [ltc]
theorem ltc_succ (ks : List Nat) (v : Nat) : ltc ks (v + 1) = ltc ks v + cnt ks v := by
  unfold ltc cnt
  induction ks with
  | nil => rfl
  | cons x ks ih =>
    rw [List.countP_cons, List.countP_cons, List.countP_cons, ih]
    by_cases h : x < v
    · simp [h, show x < v + 1 by omega, show ¬ x = v by omega]; omega
    · by_cases h2 : x = v
      · simp [h2]; omega
      · simp [h, h2, show ¬ x < v + 1 by omega]
theorem ltc_mono (ks : List Nat) {v w : Nat} (h : v ≤ w) : ltc ks v ≤ ltc ks w := by
  unfold ltc; apply List.countP_mono_left; intro x _; simp; omega
theorem ltc_le (ks : List Nat) (v : Nat) : ltc ks v ≤ ks.length := List.countP_le_length
theorem cnt_le (ks : List Nat) (v : Nat) : cnt ks v ≤ ks.length := List.countP_le_length
theorem cnt_take {ks : List Nat} {k : Nat} (h : k < ks.length) (v : Nat) : cnt (ks.take (k + 1)) v = cnt (ks.take k) v + (if ks[k] = v then 1 else 0) := by
  unfold cnt; rw [take_snoc h, List.countP_append]; simp [List.countP_cons]
theorem cnt_take_le (ks : List Nat) (k v : Nat) : cnt (ks.take k) v ≤ cnt ks v := by
  unfold cnt
  conv => rhs; rw [← List.take_append_drop k ks, List.countP_append]
  omega
theorem cnt_take_lt {ks : List Nat} {k : Nat} (h : k < ks.length) : cnt (ks.take k) ks[k] < cnt ks ks[k] := by
  have := cnt_take_le ks (k + 1) ks[k]
  rw [cnt_take h] at this
  simp at this; omega
def pos (ks : List Nat) (i : Nat) : Nat := ltc ks (ks.getD i 0) + cnt (ks.take i) (ks.getD i 0)
theorem pos_lt {ks : List Nat} {i : Nat} (h : i < ks.length) : pos ks i < ltc ks (ks[i] + 1) := by
  have := cnt_take_lt h
  unfold pos; rw [ltc_succ]
  simp [h]; omega
theorem pos_ge {ks : List Nat} {i : Nat} (h : i < ks.length) : ltc ks ks[i] ≤ pos ks i := by unfold pos; simp [h]
theorem pos_lt_len {ks : List Nat} {i : Nat} (h : i < ks.length) : pos ks i < ks.length := Nat.lt_of_lt_of_le (pos_lt h) (ltc_le _ _)
theorem pos_inj {ks : List Nat} {i j : Nat} (hi : i < j) (hj : j < ks.length) : pos ks i ≠ pos ks j := by
  have hi' : i < ks.length := by omega
  rcases Nat.lt_trichotomy ks[i] ks[j] with h | h | h
  · have := pos_lt hi'; have := pos_ge hj; have := ltc_mono ks (v := ks[i] + 1) (w := ks[j]) (by omega); omega
  · have h1 := cnt_take hi' ks[j]
    have h2 : cnt (ks.take (i + 1)) ks[j] ≤ cnt (ks.take j) ks[j] := by
      have := cnt_take_le (ks.take j) (i + 1) ks[j]
      rw [List.take_take, Nat.min_eq_left (by omega)] at this; exact this
    unfold pos; simp [hi', hj, h] at h1 ⊢; omega
  · have := pos_lt hj; have := pos_ge hi'; have := ltc_mono ks (v := ks[j] + 1) (w := ks[i]) (by omega); omega
/-- Where a number stands. -/
def occ (ks : List Nat) (v : Nat) : List Nat := (List.range ks.length).filter (fun i => decide (ks.getD i 0 = v))
theorem occ_upto (ks : List Nat) (v : Nat) : ∀ k, k ≤ ks.length → ((List.range k).filter (fun i => decide (ks.getD i 0 = v))).length = cnt (ks.take k) v ∧ ∀ (r i : Nat), ((List.range k).filter (fun i => decide (ks.getD i 0 = v)))[r]? = some i → ∃ hi : i < ks.length, ks[i] = v ∧ cnt (ks.take i) v = r
  | 0, _ => by simp [cnt]
  | k + 1, hk => by
    obtain ⟨h1, h2⟩ := occ_upto ks v k (by omega)
    have hkl : k < ks.length := by omega
    have e : (List.range (k + 1)).filter (fun i => decide (ks.getD i 0 = v)) = (List.range k).filter (fun i => decide (ks.getD i 0 = v)) ++ (if ks[k] = v then [k] else []) := by
      rw [List.range_succ, List.filter_append]
      by_cases h : ks[k] = v <;> simp [hkl, h]
    rw [e, cnt_take hkl]
    generalize hF : (List.range k).filter (fun i => decide (ks.getD i 0 = v)) = F at h1 h2
    by_cases h : ks[k] = v
    · simp only [h, if_true]
      refine ⟨by simp [h1], fun r i hr => ?_⟩
      by_cases hr2 : r < F.length
      · rw [List.getElem?_append_left hr2] at hr; exact h2 r i hr
      · rw [List.getElem?_append_right (by omega)] at hr
        have hr3 : r - F.length = 0 := by
          have := (List.getElem?_eq_some_iff.1 hr).1
          simp at this; omega
        rw [hr3] at hr
        simp at hr
        subst hr
        exact ⟨hkl, h, by omega⟩
    · simp only [h, if_false, List.append_nil, Nat.add_zero]
      exact ⟨h1, h2⟩
theorem occ_len (ks : List Nat) (v : Nat) : (occ ks v).length = cnt ks v := by have := (occ_upto ks v ks.length (Nat.le_refl _)).1; rw [List.take_length] at this; exact this
theorem occ_get (ks : List Nat) (v r : Nat) (h : r < (occ ks v).length) : ∃ (hi : (occ ks v)[r] < ks.length), ks[(occ ks v)[r]] = v ∧ cnt (ks.take (occ ks v)[r]) v = r := (occ_upto ks v ks.length (Nat.le_refl _)).2 r _ (List.getElem?_eq_getElem h)
theorem occ_mem {ks : List Nat} {v i : Nat} : i ∈ occ ks v ↔ ∃ h : i < ks.length, ks[i] = v := by
  unfold occ
  simp only [List.mem_filter, List.mem_range, decide_eq_true_eq]
  constructor
  · rintro ⟨h1, h2⟩; exact ⟨h1, by simpa [h1] using h2⟩
  · rintro ⟨h1, h2⟩; exact ⟨h1, by simpa [h1] using h2⟩
/-- The numbers' places, in the order of the numbers. -/
def av (ks : List Nat) (k p : Nat) : Nat := ((List.range k).find? (fun i => decide (pos ks i = p))).getD 0
theorem av_pos {ks : List Nat} {k i : Nat} (hk : k ≤ ks.length) (hi : i < k) : av ks k (pos ks i) = i := by
  unfold av
  cases h : (List.range k).find? (fun j => decide (pos ks j = pos ks i)) with
  | none =>
    rw [List.find?_eq_none] at h
    exact absurd (by simp) (h i (List.mem_range.2 hi))
  | some j =>
    have h1 := List.find?_some h
    have h2 := List.mem_range.1 (List.mem_of_find?_eq_some h)
    simp at h1
    rcases Nat.lt_trichotomy i j with q | q | q
    · exact absurd h1.symm (pos_inj q (by omega))
    · exact q.symm
    · exact absurd h1 (pos_inj q (by omega))
theorem av_succ {ks : List Nat} {k : Nat} (hk : k < ks.length) (p : Nat) : av ks (k + 1) p = if p = pos ks k then k else av ks k p := by
  by_cases h : p = pos ks k
  · rw [if_pos h, h, av_pos (by omega) (by omega)]
  · rw [if_neg h]
    unfold av
    rw [List.range_succ, List.find?_append]
    simp [Ne.symm h]
theorem av_sub (ks : List Nat) (v : Nat) : ((((List.range ks.length).map (fun p => (av ks ks.length p : Int))).take (ltc ks (v + 1))).drop (ltc ks v)) = (occ ks v).map (fun i : Nat => (i : Int)) := by
  apply List.ext_getElem
  · have h1 := ltc_succ ks v
    have h2 := ltc_le ks (v + 1)
    rw [List.length_drop, List.length_take, List.length_map, List.length_map, occ_len, List.length_range]; omega
  · intro r h1 h2
    have hr : r < (occ ks v).length := by simpa using h2
    obtain ⟨hi, h3, h4⟩ := occ_get ks v r hr
    simp only [List.getElem_drop, List.getElem_take, List.getElem_map, List.getElem_range]
    have : pos ks (occ ks v)[r] = ltc ks v + r := by
      have e : ks.getD (occ ks v)[r] 0 = v := by simp [hi, h3]
      unfold pos; rw [e, h4]
    rw [← this, av_pos (Nat.le_refl _) hi]
section
variable {α : Type} (key : α → Int) (n : Int) (xb : List α)
def ix1 : (Int × (List Int)) → Option ((Int × (List Int)) ⊕ (List Int)) := fun ((i, l) : (Int × (List Int))) => cond (decide (i < (((xb.length : Nat) : Int)))) ((getI xb i).bind fun x => (getI l (IntKind.wrap .i64 (key x + 1))).bind fun a => (getI l (IntKind.wrap .i64 (key x + 1))).bind fun b => (some (l.set (IntKind.wrap .i64 (key x + 1)).toNat (IntKind.wrap .i64 (a + 1)))).bind fun z => some (.inl ((IntKind.wrap .i64 (i + 1), z)))) (some (.inr (l)))
def ix2 : (Int × (List Int)) → Option ((Int × (List Int)) ⊕ (List Int)) := fun ((i, l) : (Int × (List Int))) => cond (decide (i < n)) ((getI l (IntKind.wrap .i64 (i + 1))).bind fun a => (getI l i).bind fun b => (getI l (IntKind.wrap .i64 (i + 1))).bind fun c => (some (l.set (IntKind.wrap .i64 (i + 1)).toNat (IntKind.wrap .i64 (a + b)))).bind fun z => some (.inl ((IntKind.wrap .i64 (i + 1), z)))) (some (.inr (l)))
def ix3 : ((List Int) × Int × (List Int)) → Option (((List Int) × Int × (List Int)) ⊕ (List Int)) := fun ((l, i, m) : ((List Int) × Int × (List Int))) => cond (decide (i < (((xb.length : Nat) : Int)))) ((getI xb i).bind fun x => (getI l (key x)).bind fun a => (getI m a).bind fun b => (some (m.set a.toNat i)).bind fun z => (getI l (key x)).bind fun c => (getI l (key x)).bind fun d => (some (l.set (key x).toNat (IntKind.wrap .i64 (c + 1)))).bind fun y => some (.inl ((y, IntKind.wrap .i64 (i + 1), z)))) (some (.inr (m)))
variable {key n xb} {ks : List Nat}
theorem key_at (hk : xb.map key = ks.map (fun k : Nat => (k : Int))) {i : Nat} (h : i < xb.length) : ∃ h2 : i < ks.length, key xb[i] = (ks[i] : Int) := by
  have hl : xb.length = ks.length := by simpa using congrArg List.length hk
  refine ⟨by omega, ?_⟩
  have h1 : (xb.map key)[i]'(by simpa using h) = (ks.map (fun k : Nat => (k : Int)))[i]'(by simp; omega) := by simp only [hk]
  simpa using h1
theorem ix1_eq {N : Nat} (hk : xb.map key = ks.map (fun k : Nat => (k : Int))) (hN : ∀ x ∈ ks, x < N) (hb : ks.length ≤ 1073741824) (hNb : N ≤ 1073741824) : loop (ix1 key xb) (0, List.replicate (N + 1) 0) = some ((List.range (N + 1)).map (fun v => ((if v = 0 then 0 else cnt ks (v - 1) : Nat) : Int))) := by
  have hl : xb.length = ks.length := by simpa using congrArg List.length hk
  have h := loop_nat (body := ix1 key xb) (fun k : Nat => ((k : Int), (List.range (N + 1)).map (fun v => ((if v = 0 then 0 else cnt (ks.take k) (v - 1) : Nat) : Int)))) xb.length (b := (List.range (N + 1)).map (fun v => ((if v = 0 then 0 else cnt ks (v - 1) : Nat) : Int))) ?_ ?_
  · rw [replicate_map]; simpa [cnt] using h
  · intro k hk2
    obtain ⟨hk3, hk4⟩ := key_at hk hk2
    have hlt := hN _ (List.getElem_mem hk3)
    have hw : IntKind.wrap .i64 (key xb[k] + 1) = ((ks[k] + 1 : Nat) : Int) := by rw [hk4, w64 (by omega) (by omega)]; omega
    have hc := cnt_le (ks.take k) ks[k]
    simp only [List.length_take] at hc
    unfold ix1
    simp only [dlt hk2, cond_true, getN hk2, Option.bind_some, hw, getI_map (show ks[k] + 1 < N + 1 by omega), Int.toNat_natCast, set_map, w64s hk2 (by omega : xb.length ≤ 9223372036854775807)]
    congr 3
    refine map_congr_range (fun v hv => ?_)
    rw [cnt_take hk3]
    simp only [Nat.add_one_ne_zero, if_false, Nat.add_sub_cancel]
    by_cases h1 : v = ks[k] + 1
    · subst h1; simp only [if_true, Nat.add_one_ne_zero, if_false, Nat.add_sub_cancel]; rw [w64 (by omega) (by omega)]; omega
    · rw [if_neg h1]
      by_cases h2 : v = 0
      · simp [h2]
      · simp [h2, show ¬ ks[k] = v - 1 by omega]
  · unfold ix1
    simp only [hl, Int.lt_irrefl, decide_false, cond_false, List.take_length]
theorem ix2_eq {N : Nat} (hb : ks.length ≤ 1073741824) (hNb : N ≤ 1073741824) : loop (ix2 (N : Int)) (0, (List.range (N + 1)).map (fun v => ((if v = 0 then 0 else cnt ks (v - 1) : Nat) : Int))) = some ((List.range (N + 1)).map (fun v => (ltc ks v : Int))) := by
  have h := loop_nat (body := ix2 (N : Int)) (fun j : Nat => ((j : Int), (List.range (N + 1)).map (fun v => ((if v ≤ j then ltc ks v else cnt ks (v - 1) : Nat) : Int)))) N (b := (List.range (N + 1)).map (fun v => (ltc ks v : Int))) ?_ ?_
  · have e : (List.range (N + 1)).map (fun v => ((if v ≤ 0 then ltc ks v else cnt ks (v - 1) : Nat) : Int)) = (List.range (N + 1)).map (fun v => ((if v = 0 then 0 else cnt ks (v - 1) : Nat) : Int)) := by
      refine map_congr_range (fun v hv => ?_)
      by_cases h1 : v = 0
      · simp [h1, ltc_zero]
      · simp [h1]
    simp only [e] at h
    exact h
  · intro j hj
    have hs := ltc_succ ks j
    have hle := ltc_le ks (j + 1)
    unfold ix2
    simp only [dlt hj, cond_true, w64s hj (by omega : N ≤ 9223372036854775807), getI_map (show j + 1 < N + 1 by omega), getI_map (show j < N + 1 by omega), Option.bind_some, Int.toNat_natCast, set_map]
    congr 3
    refine map_congr_range (fun v hv => ?_)
    simp only [show ¬ (j + 1 ≤ j) by omega, if_false, Nat.le_refl, if_true, Nat.add_sub_cancel]
    by_cases h1 : v = j + 1
    · subst h1; simp only [if_true, Nat.le_refl]; rw [w64 (by omega) (by omega)]; omega
    · rw [if_neg h1]
      by_cases h2 : v ≤ j
      · simp [h2, show v ≤ j + 1 by omega]
      · simp [h2, show ¬ v ≤ j + 1 by omega]
  · unfold ix2
    simp only [Int.lt_irrefl, decide_false, cond_false]
    congr 2
    refine map_congr_range (fun v hv => ?_)
    simp [show v ≤ N by omega]
theorem ix3_eq {N : Nat} (hk : xb.map key = ks.map (fun k : Nat => (k : Int))) (hN : ∀ x ∈ ks, x < N) (hb : ks.length ≤ 1073741824) (hNb : N ≤ 1073741824) : loop (ix3 key xb) ((List.range (N + 1)).map (fun v => (ltc ks v : Int)), 0, List.replicate xb.length 0) = some ((List.range ks.length).map (fun p => (av ks ks.length p : Int))) := by
  have hl : xb.length = ks.length := by simpa using congrArg List.length hk
  have h := loop_nat (body := ix3 key xb) (fun k : Nat => ((List.range (N + 1)).map (fun v => ((ltc ks v + cnt (ks.take k) v : Nat) : Int)), (k : Int), (List.range ks.length).map (fun p => (av ks k p : Int)))) xb.length (b := (List.range ks.length).map (fun p => (av ks ks.length p : Int))) ?_ ?_
  · rw [hl, replicate_map]; simpa [cnt, av] using h
  · intro k hk2
    obtain ⟨hk3, hk4⟩ := key_at hk hk2
    have hlt := hN _ (List.getElem_mem hk3)
    have hp : ltc ks ks[k] + cnt (ks.take k) ks[k] = pos ks k := by unfold pos; simp [hk3]
    have hpl := pos_lt_len hk3
    unfold ix3
    simp only [dlt hk2, cond_true, getN hk2, Option.bind_some, hk4, getI_map (show ks[k] < N + 1 by omega), hp, getI_map hpl, Int.toNat_natCast, set_map, w64s hk2 (by omega : xb.length ≤ 9223372036854775807)]
    congr 3
    · refine map_congr_range (fun v hv => ?_)
      rw [cnt_take hk3]
      by_cases h1 : v = ks[k]
      · subst h1; simp only [if_true]; rw [w64 (by omega) (by omega)]; omega
      · rw [if_neg h1, if_neg (Ne.symm h1)]; simp
    · congr 1
      refine map_congr_range (fun p hp2 => ?_)
      rw [av_succ hk3]
      split <;> rfl
  · unfold ix3
    simp only [hl, Int.lt_irrefl, decide_false, cond_false]
end
/-! ### Graphs. -/
abbrev Gr := Int × (List (Int × Int)) × ((List Int) × (List Int)) × ((List Int) × (List Int))
abbrev ArG := List (Nat × Nat)
def ai (E : ArG) : List (Int × Int) := E.map (fun e => ((e.1 : Int), (e.2 : Int)))
def ixs (N : Nat) (ks : List Nat) : List Int × List Int := ((List.range (N + 1)).map (fun v => (ltc ks v : Int)), (List.range ks.length).map (fun p => (av ks ks.length p : Int)))
def mkG (N : Nat) (E : ArG) : Gr := ((N : Int), ai E, ixs N (E.map (·.1)), ixs N (E.map (·.2)))
def inN (N : Nat) (E : ArG) : Prop := ∀ e ∈ E, e.1 < N ∧ e.2 < N
theorem ai_len (E : ArG) : (ai E).length = E.length := by simp [ai]
theorem clone_eq {α : Type} (xa : List α) (hn : xa.length ≤ 1073741824) : nilb xa (some ([] : List α)) ((app ([] : List α) xa).bind fun z => some z) = some xa := by
  rw [nilb_eq]
  · rw [app_eq (by simpa using hn)]; simp
  · rintro rfl; rw [app_eq (by simp)]; rfl
theorem indexed1_eq {N : Nat} {E : ArG} (h : inN N E) (hn : N ≤ 1048576) (he : E.length ≤ 67108864) : fn_graph_indexed_ik_graph_New_1 (N : Int) (ai E) = some (ixs N (E.map (·.1))) := by
  have hk : (ai E).map (fun x : Int × Int => x.1) = (E.map (·.1)).map (fun k : Nat => (k : Int)) := by simp [ai]
  have hN : ∀ x ∈ E.map (·.1), x < N := by intro x hx; obtain ⟨e, he, rfl⟩ := List.mem_map.1 hx; exact (h e he).1
  have hw : IntKind.wrap .i64 ((N : Int) + 1) = ((N + 1 : Nat) : Int) := by rw [w64 (by omega) (by omega)]; omega
  have h1 := ix1_eq (key := fun x : Int × Int => x.1) (N := N) hk hN (by simp; omega) (by omega)
  have h2 := ix2_eq (ks := E.map (·.1)) (N := N) (by simp; omega) (by omega)
  have h3 := ix3_eq (key := fun x : Int × Int => x.1) (N := N) hk hN (by simp; omega) (by omega)
  have hl : (ai E).length ≤ 1073741824 := by rw [ai_len]; omega
  unfold fn_graph_indexed_ik_graph_New_1
  have hm1 : (mk ((N + 1 : Nat) : Int) ((N + 1 : Nat) : Int) (0 : Int) : Option (List Int)) = some (List.replicate (N + 1) 0) := mkN (by omega)
  have hm2 : (mk (((ai E).length : Nat) : Int) (((ai E).length : Nat) : Int) (0 : Int) : Option (List Int)) = some (List.replicate (ai E).length 0) := mkN hl
  rw [hw]
  simp only [hm1, hm2, Option.bind_some, agr_self]
  show (loop (ix1 (fun x : Int × Int => x.1) (ai E)) (0, _)).bind _ = _
  rw [h1, Option.bind_some]
  show (loop (ix2 (N : Int)) (0, _)).bind _ = _
  rw [h2, Option.bind_some]
  have hc : ∀ l : List Int, l.length ≤ 1073741824 → fn_slices_Clone_int_int l = some l := fun l hl => clone_eq l hl
  rw [hc _ (by simp; omega), Option.bind_some]
  show (loop (ix3 (fun x : Int × Int => x.1) (ai E)) (_, 0, _)).bind _ = _
  rw [h3]; rfl
theorem indexed2_eq {N : Nat} {E : ArG} (h : inN N E) (hn : N ≤ 1048576) (he : E.length ≤ 67108864) : fn_graph_indexed_ik_graph_New_2 (N : Int) (ai E) = some (ixs N (E.map (·.2))) := by
  have hk : (ai E).map (fun x : Int × Int => x.2) = (E.map (·.2)).map (fun k : Nat => (k : Int)) := by simp [ai]
  have hN : ∀ x ∈ E.map (·.2), x < N := by intro x hx; obtain ⟨e, he, rfl⟩ := List.mem_map.1 hx; exact (h e he).2
  have hw : IntKind.wrap .i64 ((N : Int) + 1) = ((N + 1 : Nat) : Int) := by rw [w64 (by omega) (by omega)]; omega
  have h1 := ix1_eq (key := fun x : Int × Int => x.2) (N := N) hk hN (by simp; omega) (by omega)
  have h2 := ix2_eq (ks := E.map (·.2)) (N := N) (by simp; omega) (by omega)
  have h3 := ix3_eq (key := fun x : Int × Int => x.2) (N := N) hk hN (by simp; omega) (by omega)
  have hl : (ai E).length ≤ 1073741824 := by rw [ai_len]; omega
  unfold fn_graph_indexed_ik_graph_New_2
  have hm1 : (mk ((N + 1 : Nat) : Int) ((N + 1 : Nat) : Int) (0 : Int) : Option (List Int)) = some (List.replicate (N + 1) 0) := mkN (by omega)
  have hm2 : (mk (((ai E).length : Nat) : Int) (((ai E).length : Nat) : Int) (0 : Int) : Option (List Int)) = some (List.replicate (ai E).length 0) := mkN hl
  rw [hw]
  simp only [hm1, hm2, Option.bind_some, agr_self]
  show (loop (ix1 (fun x : Int × Int => x.2) (ai E)) (0, _)).bind _ = _
  rw [h1, Option.bind_some]
  show (loop (ix2 (N : Int)) (0, _)).bind _ = _
  rw [h2, Option.bind_some]
  have hc : ∀ l : List Int, l.length ≤ 1073741824 → fn_slices_Clone_int_int l = some l := fun l hl => clone_eq l hl
  rw [hc _ (by simp; omega), Option.bind_some]
  show (loop (ix3 (fun x : Int × Int => x.2) (ai E)) (_, 0, _)).bind _ = _
  rw [h3]; rfl
/-- An arc that is out of the nodes. -/
def outA (n : Int) (a : Int × Int) : Bool := (((decide (a.1 < 0)) || (decide (n ≤ a.1))) || (decide (a.2 < 0))) || (decide (n ≤ a.2))
theorem newLoop (n : Int) (xb : List (Int × Int)) (hb : xb.length ≤ 1073741824) : loop (fn_graph_New_l1 n xb) 0 = some (if xb.any (outA n) then .inr (none, 7) else .inl ()) := by
  refine loop_some xb (outA n) _ _ (fun k h => ?_) ?_
  · unfold fn_graph_New_l1
    simp only [dlt h, cond_true, getN h, Option.bind_some, w64s h (by omega : xb.length ≤ 9223372036854775807)]
    show cond (outA n xb[k]) _ _ = _
    cases outA n xb[k] <;> rfl
  · simp [fn_graph_New_l1]
theorem arcs_nat {n : Int} {xb : List (Int × Int)} (h0 : 0 ≤ n) (h : xb.any (outA n) = false) : ∃ E : ArG, xb = ai E ∧ inN n.toNat E := by
  refine ⟨xb.map (fun a => (a.1.toNat, a.2.toNat)), ?_, ?_⟩
  · unfold ai
    rw [List.map_map]
    conv => lhs; rw [← List.map_id xb]
    refine List.map_congr_left (fun a ha => ?_)
    have := List.any_eq_false.1 h a ha
    simp [outA] at this
    refine Prod.ext ?_ ?_ <;> simp <;> omega
  · intro e he
    obtain ⟨a, ha, rfl⟩ := List.mem_map.1 he
    have := List.any_eq_false.1 h a ha
    simp [outA] at this
    dsimp only
    omega
theorem New_ok {N : Nat} {E : ArG} (h : inN N E) (hn : N ≤ 1048576) (he : E.length ≤ 67108864) : fn_graph_New (N : Int) (ai E) = some (some (mkG N E), 0) := by
  unfold fn_graph_New
  have h1 : decide ((N : Int) < 0) = false := decide_eq_false (by omega)
  have h2 : (decide ((1048576 : Int) < (N : Int)) || decide ((67108864 : Int) < (((ai E).length : Nat) : Int))) = false := by rw [ai_len]; simp; omega
  have h3 : (ai E).any (outA (N : Int)) = false := by
    rw [List.any_eq_false]
    intro a ha
    obtain ⟨e, he, rfl⟩ := List.mem_map.1 ha
    have := h e he
    simp [outA]; omega
  rw [h1, cond_false, h2, cond_false, newLoop _ _ (by rw [ai_len]; omega), h3]
  simp only [Bool.false_eq_true, if_false, Option.bind_some]
  have hc : fn_slices_Clone_graph_Arc_graph_Arc (ai E) = some (ai E) := clone_eq _ (by rw [ai_len]; omega)
  rw [hc, Option.bind_some, indexed1_eq h hn he, Option.bind_some, indexed2_eq h hn he]
  rfl
theorem New_eq (n : Int) (xb : List (Int × Int)) (he : xb.length ≤ 67108864) : (n < 0 ∧ fn_graph_New n xb = some (none, 2)) ∨ (1048576 < n ∧ fn_graph_New n xb = some (none, 5)) ∨ (0 ≤ n ∧ n ≤ 1048576 ∧ xb.any (outA n) = true ∧ fn_graph_New n xb = some (none, 7)) ∨
    ∃ (N : Nat) (E : ArG), n = (N : Int) ∧ N ≤ 1048576 ∧ xb = ai E ∧ inN N E ∧ xb.any (outA n) = false ∧ fn_graph_New n xb = some (some (mkG N E), 0) := by
  by_cases h0 : n < 0
  · refine .inl ⟨h0, ?_⟩
    unfold fn_graph_New
    rw [show decide (n < 0) = true by simpa using h0]; rfl
  · have h1 : decide (n < 0) = false := by simp; omega
    by_cases h2 : 1048576 < n
    · refine .inr (.inl ⟨h2, ?_⟩)
      unfold fn_graph_New
      rw [h1, show decide ((1048576 : Int) < n) = true by simpa using h2]; rfl
    · cases h3 : xb.any (outA n) with
      | true =>
        refine .inr (.inr (.inl ⟨by omega, by omega, rfl, ?_⟩))
        unfold fn_graph_New
        have h4 : (decide ((1048576 : Int) < n) || decide ((67108864 : Int) < ((xb.length : Nat) : Int))) = false := by simp; omega
        rw [h1, cond_false, h4, cond_false, newLoop _ _ (by omega), h3]; rfl
      | false =>
        obtain ⟨E, rfl, hE⟩ := arcs_nat (by omega) h3
        refine .inr (.inr (.inr ⟨n.toNat, E, by omega, by omega, rfl, hE, rfl, ?_⟩))
        have := New_ok hE (by omega) (by rw [ai_len] at he; omega)
        rw [show ((n.toNat : Nat) : Int) = n by omega] at this
        exact this
theorem occ_bound (ks : List Nat) (v : Nat) : (occ ks v).length ≤ ks.length := by rw [occ_len]; exact cnt_le ks v
theorem index_of_eq {N : Nat} {ks : List Nat} (hn : N ≤ 1048576) (he : ks.length ≤ 67108864) {v : Nat} (hv : v < N) : fn_graph_index_of (ixs N ks) (v : Int) = some ((occ ks v).map (fun i : Nat => (i : Int))) := by
  unfold fn_graph_index_of ixs
  have h1 := ltc_le ks (v + 1)
  have h2 := ltc_mono ks (v := v) (w := v + 1) (by omega)
  simp only [getI_map (show v < N + 1 by omega), Option.bind_some, w64s hv (by omega : N ≤ 9223372036854775807), getI_map (show v + 1 < N + 1 by omega)]
  rw [subL_eq (by omega) (by omega) (by simp; omega)]
  simp only [Int.toNat_natCast, Option.bind_some, av_sub]
theorem Nodes_eq (N : Nat) (E : ArG) : fn_graph_Graph_Nodes (some (mkG N E)) = some (N : Int) := rfl
theorem Nodes_none : fn_graph_Graph_Nodes none = some 0 := rfl
theorem Arcs_eq (N : Nat) (E : ArG) : fn_graph_Graph_Arcs (some (mkG N E)) = some (E.length : Int) := by
  show some ((((ai E).length : Nat) : Int)) = _
  rw [ai_len]
theorem Arcs_none : fn_graph_Graph_Arcs none = some 0 := rfl
theorem isNode_eq (N : Nat) (E : ArG) (v : Int) : fn_graph_Graph_isNode (some (mkG N E)) v = some (decide (0 ≤ v) && decide (v < (N : Int))) := by
  unfold fn_graph_Graph_isNode
  rw [Nodes_eq]
  cases decide (0 ≤ v) <;> simp
theorem isNode_none (v : Int) : fn_graph_Graph_isNode none v = some false := by
  unfold fn_graph_Graph_isNode
  rw [Nodes_none]
  by_cases h : 0 ≤ v
  · have : decide (v < 0) = false := decide_eq_false (by omega)
    simp [h]
  · simp [h]
theorem isNode_of {N : Nat} {E : ArG} {v : Nat} (h : v < N) : fn_graph_Graph_isNode (some (mkG N E)) (v : Int) = some true := by
  rw [isNode_eq]; simp [h]
theorem isNode_not {N : Nat} {E : ArG} {v : Int} (h : v < 0 ∨ (N : Int) ≤ v) : fn_graph_Graph_isNode (some (mkG N E)) v = some false := by
  rw [isNode_eq]; simp; omega
theorem Out_of {N : Nat} {E : ArG} (hn : N ≤ 1048576) (he : E.length ≤ 67108864) {v : Nat} (h : v < N) : fn_graph_Graph_Out (some (mkG N E)) (v : Int) = some ((occ (E.map (·.1)) v).map (fun i : Nat => (i : Int))) := by
  unfold fn_graph_Graph_Out
  rw [isNode_of h]
  have := index_of_eq (ks := E.map (·.1)) hn (by simp; omega) h
  have hb := occ_bound (E.map (·.1)) v
  simp only [Bool.not_true, cond_false, Option.bind_some, mkG]
  rw [this, Option.bind_some]
  have hc : ∀ l : List Int, l.length ≤ 1073741824 → fn_slices_Clone_int_int l = some l := fun l hl => clone_eq l hl
  rw [hc _ (by simp at hb ⊢; omega)]; rfl
theorem Out_not {N : Nat} {E : ArG} {v : Int} (h : v < 0 ∨ (N : Int) ≤ v) : fn_graph_Graph_Out (some (mkG N E)) v = some [] := by
  unfold fn_graph_Graph_Out; rw [isNode_not h]; rfl
theorem Out_none (v : Int) : fn_graph_Graph_Out none v = some [] := by
  unfold fn_graph_Graph_Out; rw [isNode_none]; rfl
/-- Where the arcs from a node lead, in order. -/
def nxt (E : ArG) (v : Nat) : List Nat := (occ (E.map (·.1)) v).map (fun i => (E.getD i (0, 0)).2)
theorem occ_arc {E : ArG} {v i : Nat} (h : i ∈ occ (E.map (·.1)) v) : ∃ h : i < E.length, E[i].1 = v := by
  obtain ⟨h1, h2⟩ := occ_mem.1 h
  exact ⟨by simpa using h1, by simpa using h2⟩
theorem nxt_mem {E : ArG} {v u : Nat} : u ∈ nxt E v ↔ (v, u) ∈ E := by
  unfold nxt
  constructor
  · intro h
    obtain ⟨i, hi, rfl⟩ := List.mem_map.1 h
    obtain ⟨h1, h2⟩ := occ_arc hi
    have : E.getD i (0, 0) = E[i] := by simp [h1]
    rw [this]
    have e : (v, E[i].2) = E[i] := by rw [← h2]
    rw [e]; exact List.getElem_mem h1
  · intro h
    obtain ⟨i, hi, he⟩ := List.getElem_of_mem h
    refine List.mem_map.2 ⟨i, occ_mem.2 ⟨by simpa using hi, by simp [he]⟩, by simp [hi, he]⟩
theorem Next_of {N : Nat} {E : ArG} (hn : N ≤ 1048576) (he : E.length ≤ 67108864) {v : Nat} (h : v < N) : fn_graph_Graph_Next (some (mkG N E)) (v : Int) = some ((nxt E v).map (fun i : Nat => (i : Int))) := by
  unfold fn_graph_Graph_Next
  rw [Out_of hn he h, Option.bind_some]
  have hb := occ_bound (E.map (·.1)) v
  simp at hb
  generalize hO : occ (E.map (·.1)) v = O at hb ⊢
  have hO2 : ∀ i ∈ O, i < E.length := fun i hi => by rw [← hO] at hi; exact (occ_arc hi).1
  have hx : nxt E v = O.map (fun i => (E.getD i (0, 0)).2) := by unfold nxt; rw [hO]
  rw [hx]
  have hl := loop_nat (body := fn_graph_Graph_Next_l1 (some (mkG N E)) (O.map (fun i : Nat => (i : Int)))) (fun k : Nat => ((O.take k).map (fun i => (((E.getD i (0, 0)).2 : Nat) : Int)) ++ (O.drop k).map (fun i : Nat => (i : Int)), (k : Int))) O.length (b := (O.map (fun i => (((E.getD i (0, 0)).2 : Nat) : Int)))) ?_ ?_
  · simp only [List.take_zero, List.map_nil, List.nil_append, List.drop_zero] at hl
    rw [show ((0 : Int)) = ((0 : Nat) : Int) from rfl, hl, List.map_map]; rfl
  · intro k hk
    have hk' : k < (O.map (fun i : Nat => (i : Int))).length := by simpa using hk
    have hi := hO2 _ (List.getElem_mem hk)
    have hlen : ((O.take k).map (fun i => (((E.getD i (0, 0)).2 : Nat) : Int))).length = k := by simp; omega
    have g1 : getI ((O.take k).map (fun i => (((E.getD i (0, 0)).2 : Nat) : Int)) ++ (O.drop k).map (fun i : Nat => (i : Int))) (k : Int) = some ((O[k] : Nat) : Int) := by
      rw [getN (by simp; omega), List.getElem_append_right (by omega)]
      simp only [List.getElem_map, List.getElem_drop, hlen, Nat.sub_self, Nat.add_zero]
    have g2 : getI (ai E) ((O[k] : Nat) : Int) = some (((E[O[k]].1 : Nat) : Int), ((E[O[k]].2 : Nat) : Int)) := by
      rw [getN (by rw [ai_len]; exact hi)]; simp [ai]
    unfold fn_graph_Graph_Next_l1
    simp only [dlt hk', cond_true, g1, Option.bind_some, mkG, g2, Int.toNat_natCast, w64s hk' (by simp; omega)]
    congr 3
    rw [take_snoc hk, List.map_append, List.drop_eq_getElem_cons hk, List.map_cons, List.set_append_right _ _ (by omega), hlen, Nat.sub_self, List.set_cons_zero, List.append_assoc]
    simp [hi]
  · simp [fn_graph_Graph_Next_l1]
theorem Next_not {N : Nat} {E : ArG} {v : Int} (h : v < 0 ∨ (N : Int) ≤ v) : fn_graph_Graph_Next (some (mkG N E)) v = some [] := by
  unfold fn_graph_Graph_Next; rw [Out_not h, Option.bind_some]
  rw [loop_end (b := ([] : List Int)) (by simp [fn_graph_Graph_Next_l1])]; rfl
theorem Next_none (v : Int) : fn_graph_Graph_Next none v = some [] := by
  unfold fn_graph_Graph_Next; rw [Out_none, Option.bind_some]
  rw [loop_end (b := ([] : List Int)) (by simp [fn_graph_Graph_Next_l1])]; rfl
def tn (E : ArG) : ArG := E.map (fun e => (e.2, e.1))
theorem tn_in {N : Nat} {E : ArG} (h : inN N E) : inN N (tn E) := by
  intro e he
  obtain ⟨a, ha, rfl⟩ := List.mem_map.1 he
  exact ⟨(h a ha).2, (h a ha).1⟩
theorem tn_tn (E : ArG) : tn (tn E) = E := by
  unfold tn; rw [List.map_map]
  exact (List.map_congr_left (fun e _ => rfl)).trans (List.map_id E)
theorem tn_len (E : ArG) : (tn E).length = E.length := by simp [tn]
theorem tn_mem {E : ArG} {a b : Nat} : (a, b) ∈ tn E ↔ (b, a) ∈ E := by
  unfold tn
  constructor
  · intro h; obtain ⟨e, he, h2⟩ := List.mem_map.1 h; cases h2; exact he
  · intro h; exact List.mem_map.2 ⟨_, h, rfl⟩
/-! ### What is reached. -/
inductive Rch (E : ArG) : Nat → Nat → Prop
  | refl (v : Nat) : Rch E v v
  | step {v w u : Nat} (h : Rch E v w) (e : (w, u) ∈ E) : Rch E v u
theorem Rch.trans {E : ArG} {a b c : Nat} (h : Rch E a b) (k : Rch E b c) : Rch E a c := by
  induction k with
  | refl => exact h
  | step _ e ih => exact ih.step e
theorem Rch.head {E : ArG} {a b c : Nat} (e : (a, b) ∈ E) (k : Rch E b c) : Rch E a c := Rch.trans ((Rch.refl a).step e) k
theorem Rch.mono {E F : ArG} (hf : ∀ e ∈ E, e ∈ F) {a b : Nat} (h : Rch E a b) : Rch F a b := by
  induction h with
  | refl => exact .refl _
  | step _ e ih => exact ih.step (hf _ e)
theorem Rch.lt {N : Nat} {E : ArG} (hE : inN N E) {a b : Nat} (h : Rch E a b) (ha : a < N) : b < N := by
  cases h with
  | refl => exact ha
  | step _ e => exact (hE _ e).2
/-- What is closed under the arcs has what is reached. -/
theorem Rch.closed {E : ArG} {p : Nat → Prop} {a : Nat} (ha : p a) (hc : ∀ w u, (w, u) ∈ E → p w → p u) {b : Nat} (h : Rch E a b) : p b := by
  induction h with
  | refl => exact ha
  | step _ e ih => exact hc _ _ e ih
theorem nodup_le {A : List Nat} : ∀ {L : List Nat}, L.Nodup → (∀ x ∈ L, x ∈ A) → L.length ≤ A.length := by
  intro L
  induction L generalizing A with
  | nil => intro _ _; simp
  | cons x L ih =>
    intro hd hs
    have hx := hs x (by simp)
    rw [List.nodup_cons] at hd
    have := ih (A := A.erase x) hd.2 (fun y hy => by
      have hne : y ≠ x := fun e => hd.1 (e ▸ hy)
      exact (List.mem_erase_of_ne hne).2 (hs y (by simp [hy])))
    rw [List.length_erase_of_mem hx] at this
    have : 0 < A.length := List.length_pos_of_mem hx
    simp; omega
theorem nodup_lt {L : List Nat} {N : Nat} (hd : L.Nodup) (h : ∀ x ∈ L, x < N) : L.length ≤ N := by
  have := nodup_le (A := List.range N) hd (fun x hx => List.mem_range.2 (h x hx))
  simpa using this
def addN (L : List Nat) (u : Nat) : List Nat := if u ∈ L then L else L ++ [u]
theorem addN_mem {L : List Nat} {u x : Nat} : x ∈ addN L u ↔ x ∈ L ∨ x = u := by
  unfold addN; split
  · rename_i h; constructor
    · exact .inl
    · rintro (q | rfl) <;> assumption
  · simp
theorem addN_nodup {L : List Nat} {u : Nat} (h : L.Nodup) : (addN L u).Nodup := by
  unfold addN; split
  · exact h
  · rename_i hu; rw [List.nodup_append]; refine ⟨h, by simp, ?_⟩
    intro a ha b hb; simp at hb; subst hb; intro e; subst e; exact hu ha
def addAll (L us : List Nat) : List Nat := us.foldl addN L
theorem addAll_snoc (L us : List Nat) (u : Nat) : addAll L (us ++ [u]) = addN (addAll L us) u := by simp [addAll, List.foldl_append]
theorem addAll_mem {us : List Nat} : ∀ {L : List Nat} {x : Nat}, x ∈ addAll L us ↔ x ∈ L ∨ x ∈ us := by
  induction us with
  | nil => intro L x; simp [addAll]
  | cons u us ih => intro L x; unfold addAll at ih ⊢; rw [List.foldl_cons, ih, addN_mem, List.mem_cons, or_assoc]
theorem addAll_nodup {us : List Nat} : ∀ {L : List Nat}, L.Nodup → (addAll L us).Nodup := by
  induction us with
  | nil => intro L h; exact h
  | cons u us ih => intro L h; unfold addAll at ih ⊢; rw [List.foldl_cons]; exact ih (addN_nodup h)
theorem addN_get {L : List Nat} {u j : Nat} (h : j < L.length) : (addN L u)[j]? = L[j]? := by
  unfold addN; split
  · rfl
  · rw [List.getElem?_append_left h]
theorem addN_len (L : List Nat) (u : Nat) : L.length ≤ (addN L u).length := by unfold addN; split <;> simp
theorem addAll_get {us : List Nat} : ∀ {L : List Nat} {j : Nat}, j < L.length → (addAll L us)[j]? = L[j]? ∧ L.length ≤ (addAll L us).length := by
  induction us with
  | nil => intro L j h; exact ⟨rfl, Nat.le_refl _⟩
  | cons u us ih =>
    intro L j h
    unfold addAll at ih ⊢
    rw [List.foldl_cons]
    have h1 := addN_len L u
    obtain ⟨a, b⟩ := ih (L := addN L u) (j := j) (by omega)
    exact ⟨a.trans (addN_get h), by omega⟩
def metL (N : Nat) (L : List Nat) : List Bool := (List.range N).map (fun w => decide (w ∈ L))
def li (L : List Nat) : List Int := L.map (fun i : Nat => (i : Int))
theorem li_len (L : List Nat) : (li L).length = L.length := by simp [li]
theorem getI_li {L : List Nat} {k : Nat} (h : k < L.length) : getI (li L) (k : Int) = some ((L[k] : Nat) : Int) := by rw [getN (by rw [li_len]; exact h)]; simp [li]
theorem getI_ai {E : ArG} {k : Nat} (h : k < E.length) : getI (ai E) (k : Int) = some (((E[k].1 : Nat) : Int), ((E[k].2 : Nat) : Int)) := by rw [getN (by rw [ai_len]; exact h)]; simp [ai]
theorem range_strict (N : Nat) (p : Nat → Bool) : (li ((List.range N).filter p)).Pairwise (· < ·) := by
  unfold li
  rw [List.pairwise_map]
  refine List.Pairwise.imp (R := fun a b : Nat => a < b) (fun h => by omega) ?_
  exact List.pairwise_lt_range.filter p
theorem srt_set {L : List Nat} (hd : L.Nodup) {M : List Nat} (hM : (li M).Pairwise (· < ·)) (h : ∀ w, w ∈ L ↔ w ∈ M) (hl : L.length ≤ 1073741824) : srt (li L) = some (li M) := by
  unfold srt
  rw [if_pos (by rw [li_len]; exact hl)]
  congr 1
  refine strict_eq ?_ hM (fun a => ?_)
  · have hs := List.pairwise_mergeSort (le := fun x y : Int => decide (x ≤ y)) (fun a b c h1 h2 => by simp at *; omega) (fun a b => by simp; omega) (li L)
    have hnd : ((li L).mergeSort fun x y => decide (x ≤ y)).Nodup := by
      refine (List.mergeSort_perm _ _).nodup_iff.2 ?_
      unfold li
      exact List.Pairwise.map _ (fun a b h1 h2 => h1 (by omega)) hd
    exact (List.Pairwise.and hs hnd).imp (fun ⟨h1, h2⟩ => by simp at h1; omega)
  · rw [List.mem_mergeSort]
    unfold li
    simp only [List.mem_map]
    exact ⟨fun ⟨x, hx, e⟩ => ⟨x, (h x).1 hx, e⟩, fun ⟨x, hx, e⟩ => ⟨x, (h x).2 hx, e⟩⟩
end Go.Proofs.Ytcbgkokeikkpoaa
namespace Go.Proofs.Ytcbgkokeikkpoaa
open Go.RowKit
set_option linter.unusedVariables false
set_option linter.unusedSimpArgs false
set_option linter.unnecessarySimpa false
/-- A walk of k arcs from v to w. -/
inductive Wk (E : ArG) (v : Nat) : Nat → Nat → Prop
  | zero : Wk E v 0 v
  | step {k a b : Nat} (h : Wk E v k a) (e : (a, b) ∈ E) : Wk E v (k + 1) b
/-- How far w is from v. -/
def Far (E : ArG) (v w k : Nat) : Prop := Wk E v k w ∧ ∀ j, Wk E v j w → k ≤ j
theorem Far.uniq {E : ArG} {v w k j : Nat} (h : Far E v w k) (g : Far E v w j) : k = j := Nat.le_antisymm (h.2 _ g.1) (g.2 _ h.1)
theorem Wk.trans {E : ArG} {a b c k j : Nat} (h : Wk E a k b) (g : Wk E b j c) : Wk E a (k + j) c := by
  induction g with
  | zero => exact h
  | step _ e ih => exact ih.step e
theorem Wk.rch {E : ArG} {v w k : Nat} (h : Wk E v k w) : Rch E v w := by
  induction h with
  | zero => exact .refl _
  | step _ e ih => exact ih.step e
theorem Rch.wk {E : ArG} {v w : Nat} (h : Rch E v w) : ∃ k, Wk E v k w := by
  induction h with
  | refl => exact ⟨0, .zero⟩
  | step _ e ih => obtain ⟨k, h⟩ := ih; exact ⟨k + 1, h.step e⟩
theorem Wk.head {E : ArG} {a b c k : Nat} (e : (a, b) ∈ E) (h : Wk E b k c) : Wk E a (k + 1) c := by
  have := Wk.trans (Wk.step Wk.zero e) h
  rwa [Nat.add_comm] at this
theorem Wk.turn {E : ArG} {v w k : Nat} (h : Wk E v k w) : Wk (tn E) w k v := by
  induction h with
  | zero => exact .zero
  | step _ e ih => exact Wk.head (tn_mem.2 e) ih
theorem Wk.turn_iff {E : ArG} {v w k : Nat} : Wk (tn E) w k v ↔ Wk E v k w := ⟨fun h => by have := h.turn; rwa [tn_tn] at this, Wk.turn⟩
theorem Far.turn {E : ArG} {v w k : Nat} : Far (tn E) w v k ↔ Far E v w k := by
  unfold Far
  rw [Wk.turn_iff]
  exact and_congr_right fun _ => ⟨fun h j g => h j (Wk.turn_iff.2 g), fun h j g => h j (Wk.turn_iff.1 g)⟩
theorem Far.middle {E : ArG} {a b c k j i : Nat} (h : Far E a b k) (g : Far E b c j) (f : Far E a c i) : i ≤ k + j := f.2 _ (h.1.trans g.1)
/-- What is told of distances is true as soon as it is walked, and closed under arcs. -/
theorem far_of_closed {E : ArG} {v : Nat} {d : Nat → Option Nat} (h0 : d v = some 0) (hw : ∀ w k, d w = some k → Wk E v k w) (hc : ∀ a b k, (a, b) ∈ E → d a = some k → ∃ j, d b = some j ∧ j ≤ k + 1) (w k : Nat) : d w = some k ↔ Far E v w k := by
  have low : ∀ j w, Wk E v j w → ∃ k, d w = some k ∧ k ≤ j := by
    intro j w h
    induction h with
    | zero => exact ⟨0, h0, Nat.le_refl _⟩
    | step _ e ih =>
      obtain ⟨k, h1, h2⟩ := ih
      obtain ⟨j, h3, h4⟩ := hc _ _ _ e h1
      exact ⟨j, h3, by omega⟩
  constructor
  · intro h
    refine ⟨hw _ _ h, fun j g => ?_⟩
    obtain ⟨k', h1, h2⟩ := low _ _ g
    rw [h] at h1
    cases h1; exact h2
  · intro h
    obtain ⟨k', h1, h2⟩ := low _ _ h.1
    rw [h1]
    have := h.2 _ (hw _ _ h1)
    congr 1; omega
theorem far_none {E : ArG} {v : Nat} {d : Nat → Option Nat} (h0 : d v = some 0) (hw : ∀ w k, d w = some k → Wk E v k w) (hc : ∀ a b k, (a, b) ∈ E → d a = some k → ∃ j, d b = some j ∧ j ≤ k + 1) (w : Nat) : d w = none ↔ ¬ Rch E v w := by
  constructor
  · intro h hr
    obtain ⟨k, hk⟩ := hr.wk
    induction hk with
    | zero => rw [h0] at h; cases h
    | step g e ih =>
      rename_i k a b
      cases ha : d a with
      | none => exact ih ha g.rch
      | some j => obtain ⟨i, h1, _⟩ := hc _ _ _ e ha; rw [h] at h1; cases h1
  · intro h
    cases hd : d w with
    | none => rfl
    | some k => exact absurd (hw _ _ hd).rch h
/-- A search under way: L: what is found, in the order of finding; the first p of it are done. -/
structure Bfs (N : Nat) (E : ArG) (v : Nat) (L : List Nat) (p : Nat) (d : Nat → Option Nat) : Prop where
  nd : L.Nodup
  lt : ∀ x ∈ L, x < N
  vL : v ∈ L
  pl : p ≤ L.length
  mem : ∀ w, w ∈ L ↔ (d w).isSome
  d0 : d v = some 0
  wk : ∀ w k, d w = some k → Wk E v k w
  up : ∀ i j a b k l : Nat, i ≤ j → L[i]? = some a → L[j]? = some b → d a = some k → d b = some l → k ≤ l
  near : ∀ a b k l : Nat, L[p]? = some a → b ∈ L → d a = some k → d b = some l → l ≤ k + 1
  done : ∀ i a b k : Nat, i < p → L[i]? = some a → (a, b) ∈ E → d a = some k → ∃ j, d b = some j ∧ j ≤ k + 1
theorem Bfs.start {N : Nat} {E : ArG} {v : Nat} (hv : v < N) : Bfs N E v [v] 0 (fun w => if w = v then some 0 else none) where
  nd := by simp
  lt := by simpa using hv
  vL := by simp
  pl := by simp
  mem := fun w => by by_cases h : w = v <;> simp [h]
  d0 := by simp
  wk := fun w k h => by
    split at h
    · cases h; rename_i e; subst e; exact .zero
    · cases h
  up := fun i j a b k l _ _ _ h1 h2 => by
    split at h1 <;> cases h1
    split at h2 <;> cases h2
    exact Nat.le_refl _
  near := fun a b k l _ _ h1 h2 => by
    split at h1 <;> cases h1
    split at h2 <;> cases h2
    omega
  done := fun i a b k h => by omega
theorem Bfs.far {N : Nat} {E : ArG} {v : Nat} {L : List Nat} {d : Nat → Option Nat} (h : Bfs N E v L L.length d) (w k : Nat) : d w = some k ↔ Far E v w k :=
  far_of_closed h.d0 h.wk (fun a b k e ha => by
    have : a ∈ L := (h.mem a).2 (by rw [ha]; rfl)
    obtain ⟨i, hi, e2⟩ := List.mem_iff_getElem.1 this
    exact h.done i a b k hi (by rw [List.getElem?_eq_getElem hi, e2]) e ha) w k
theorem Bfs.far_not {N : Nat} {E : ArG} {v : Nat} {L : List Nat} {d : Nat → Option Nat} (h : Bfs N E v L L.length d) (w : Nat) : d w = none ↔ ¬ Rch E v w :=
  far_none h.d0 h.wk (fun a b k e ha => by
    have : a ∈ L := (h.mem a).2 (by rw [ha]; rfl)
    obtain ⟨i, hi, e2⟩ := List.mem_iff_getElem.1 this
    exact h.done i a b k hi (by rw [List.getElem?_eq_getElem hi, e2]) e ha) w
/-- A node that was not found yet, over an arc out of the one at hand. -/
theorem Bfs.find {N : Nat} {E : ArG} {v : Nat} {L : List Nat} {p : Nat} {d : Nat → Option Nat} (h : Bfs N E v L p d) (hE : inN N E) {a b k : Nat} (ha : L[p]? = some a) (e : (a, b) ∈ E) (hk : d a = some k) (hb : d b = none) :
    Bfs N E v (L ++ [b]) p (fun w => if w = b then some (k + 1) else d w) := by
  have hbL : b ∉ L := fun hm => by have := (h.mem b).1 hm; rw [hb] at this; cases this
  have hpl : p < L.length := (List.getElem?_eq_some_iff.1 ha).1
  have haL : a ∈ L := List.mem_of_getElem? ha
  have hne : ∀ x ∈ L, x ≠ b := fun x hx e => hbL (e ▸ hx)
  have hd : ∀ w l, (if w = b then some (k + 1) else d w) = some l → (w = b ∧ l = k + 1) ∨ (w ≠ b ∧ d w = some l) := by
    intro w l hw
    split at hw
    · cases hw; exact .inl ⟨by assumption, rfl⟩
    · exact .inr ⟨by assumption, hw⟩
  have hL : ∀ {x l : Nat}, d x = some l → x ∈ L := fun {x l} hx => (h.mem x).2 (by rw [hx]; rfl)
  refine ⟨?_, ?_, ?_, ?_, ?_, ?_, ?_, ?_, ?_, ?_⟩
  · rw [List.nodup_append]
    exact ⟨h.nd, by simp, fun x hx y hy => by simp at hy; subst hy; exact hne x hx⟩
  · intro x hx
    rcases List.mem_append.1 hx with hx | hx
    · exact h.lt x hx
    · simp at hx; subst hx; exact (hE _ e).2
  · exact List.mem_append_left _ h.vL
  · rw [List.length_append]; have := h.pl; omega
  · intro w
    by_cases c : w = b
    · simp [c]
    · simp [c, h.mem w]
  · rw [if_neg (hne v h.vL), h.d0]
  · intro w l hw
    rcases hd w l hw with ⟨rfl, rfl⟩ | ⟨_, hw⟩
    · exact (h.wk a k hk).step e
    · exact h.wk w l hw
  · intro i j x y l m hij hx hy hl hm
    rcases hd y m hm with ⟨rfl, rfl⟩ | ⟨hyb, hm⟩
    · rcases hd x l hl with ⟨rfl, rfl⟩ | ⟨hxb, hl⟩
      · exact Nat.le_refl _
      · exact h.near a x k l ha (hL hl) hk hl
    · have hjL : j < L.length := by
        refine Nat.lt_of_not_le fun hge => hyb ?_
        rw [List.getElem?_append_right hge] at hy
        have := List.mem_of_getElem? hy
        simpa using this
      rw [List.getElem?_append_left hjL] at hy
      rw [List.getElem?_append_left (by omega)] at hx
      rcases hd x l hl with ⟨rfl, rfl⟩ | ⟨hxb, hl⟩
      · exact absurd rfl (hne x (List.mem_of_getElem? hx))
      · exact h.up i j x y l m hij hx hy hl hm
  · intro x y l m hx hy hl hm
    rw [List.getElem?_append_left hpl, ha] at hx
    cases hx
    rcases hd a l hl with ⟨rfl, _⟩ | ⟨_, hl⟩
    · exact absurd rfl (hne a haL)
    rw [hk] at hl
    cases hl
    rcases hd y m hm with ⟨rfl, rfl⟩ | ⟨_, hm⟩
    · exact Nat.le_refl _
    · exact h.near a y k m ha (hL hm) hk hm
  · intro i x y l hi hx hxy hl
    rw [List.getElem?_append_left (by omega)] at hx
    rcases hd x l hl with ⟨rfl, _⟩ | ⟨_, hl⟩
    · exact absurd rfl (hne x (List.mem_of_getElem? hx))
    obtain ⟨j, h1, h2⟩ := h.done i x y l hi hx hxy hl
    refine ⟨j, ?_, h2⟩
    rw [if_neg (hne y (hL h1)), h1]
/-- All arcs out of the one at hand are told. -/
theorem Bfs.next {N : Nat} {E : ArG} {v : Nat} {L : List Nat} {p : Nat} {d : Nat → Option Nat} (h : Bfs N E v L p d) {a k : Nat} (ha : L[p]? = some a) (hk : d a = some k) (ho : ∀ b, (a, b) ∈ E → (d b).isSome) : Bfs N E v L (p + 1) d := by
  have hpl : p < L.length := (List.getElem?_eq_some_iff.1 ha).1
  refine ⟨h.nd, h.lt, h.vL, by omega, h.mem, h.d0, h.wk, h.up, ?_, ?_⟩
  · intro x y l m hx hy hl hm
    have h1 := h.up p (p + 1) a x k l (by omega) ha hx hk hl
    have h2 := h.near a y k m ha hy hk hm
    omega
  · intro i x y l hi hx hxy hl
    by_cases c : i = p
    · subst c
      rw [ha] at hx; cases hx
      obtain ⟨j, hj⟩ := Option.isSome_iff_exists.1 (ho y hxy)
      exact ⟨j, hj, h.near a y l j ha ((h.mem y).2 (by rw [hj]; rfl)) hl hj⟩
    · exact h.done i x y l (by omega) hx hxy hl
end Go.Proofs.Ytcbgkokeikkpoaa
namespace Go.Proofs.Ytcbgkokeikkpoaa
open Go.RowKit
set_option linter.unusedVariables false
set_option linter.unusedSimpArgs false
set_option linter.unnecessarySimpa false
/-- A ring holds the list Q. -/
structure RQ (q : List Int) (f m : Int) (Q : List Int) : Prop where
  hm : m = (Q.length : Nat)
  hl : Q.length ≤ q.length
  h0 : 0 ≤ f
  h1 : f = 0 ∨ f < (q.length : Nat)
  hq : ∀ i, i < Q.length → q[(f.toNat + i) % q.length]? = Q[i]?
theorem RQ.nil : RQ [] 0 0 [] := ⟨rfl, Nat.le_refl _, by omega, .inl rfl, fun i h => by cases h⟩
def grown (q : List Int) (f : Nat) : List Int := q.drop f ++ (q.take f ++ List.replicate (q.length + 1) 0)
theorem grown_len {q : List Int} {f : Nat} (h : f ≤ q.length) : (grown q f).length = 2 * q.length + 1 := by
  unfold grown; rw [List.length_append, List.length_append, List.length_drop, List.length_take, List.length_replicate]; omega
theorem RQ.grown {q : List Int} {f m : Int} {Q : List Int} (h : RQ q f m Q) (hf : Q.length = q.length) : RQ (grown q f.toNat) 0 m Q := by
  have hfl : f.toNat ≤ q.length := by rcases h.h1 with e | e <;> omega
  refine ⟨h.hm, by rw [grown_len hfl]; omega, by omega, .inl rfl, fun i hi => ?_⟩
  rw [grown_len hfl, ← h.hq i hi, show (0 : Int).toNat + i = i by simp, Nat.mod_eq_of_lt (by omega)]
  have h1 := h.h1
  unfold Proofs.Ytcbgkokeikkpoaa.grown
  by_cases c : i < q.length - f.toNat
  · rw [List.getElem?_append_left (by rw [List.length_drop]; exact c), List.getElem?_drop, Nat.mod_eq_of_lt (by omega)]
  · rw [List.getElem?_append_right (by rw [List.length_drop]; omega), List.length_drop, List.getElem?_append_left (by rw [List.length_take]; omega), List.getElem?_take, if_pos (by omega)]
    congr 1
    rw [Nat.mod_eq_sub_mod (by omega), Nat.mod_eq_of_lt (by omega)]
    omega
theorem RQ.snoc {q : List Int} {f m : Int} {Q : List Int} (h : RQ q f m Q) (hf : Q.length < q.length) (v : Int) : RQ (q.set ((f.toNat + Q.length) % q.length) v) f (m + 1) (Q ++ [v]) := by
  have h1 := h.h1
  have h0 := h.h0
  refine ⟨by rw [h.hm, List.length_append]; simp, by rw [List.length_set, List.length_append]; simp; omega, h.h0, by rw [List.length_set]; exact h.h1, fun i hi => ?_⟩
  rw [List.length_append, List.length_singleton] at hi
  rw [List.length_set]
  by_cases c : i = Q.length
  · subst c
    rw [List.getElem?_set_self (Nat.mod_lt _ (by omega)), List.getElem?_append_right (Nat.le_refl _), Nat.sub_self]; rfl
  · have hi : i < Q.length := by omega
    rw [List.getElem?_append_left hi, ← h.hq i hi, List.getElem?_set_ne]
    intro e
    have a1 : f.toNat ≤ q.length := by rcases h1 with e | e <;> omega
    by_cases c1 : f.toNat + Q.length < q.length
    · rw [Nat.mod_eq_of_lt c1, Nat.mod_eq_of_lt (by omega)] at e; omega
    · rw [Nat.mod_eq_sub_mod (a := f.toNat + Q.length) (by omega), Nat.mod_eq_of_lt (a := f.toNat + Q.length - q.length) (by omega)] at e
      by_cases c2 : f.toNat + i < q.length
      · rw [Nat.mod_eq_of_lt c2] at e; omega
      · rw [Nat.mod_eq_sub_mod (a := f.toNat + i) (by omega), Nat.mod_eq_of_lt (a := f.toNat + i - q.length) (by omega)] at e; omega
theorem RQ.tail {q : List Int} {f m : Int} {x : Int} {Q : List Int} (h : RQ q f m (x :: Q)) : RQ (q.set f.toNat 0) (((f.toNat + 1) % q.length : Nat) : Int) (m - 1) Q := by
  have hl := h.hl
  have h1 := h.h1
  have h0 := h.h0
  rw [List.length_cons] at hl
  refine ⟨by rw [h.hm, List.length_cons]; omega, by rw [List.length_set]; omega, by omega, .inr (by rw [List.length_set]; exact Int.ofNat_lt.2 (Nat.mod_lt _ (by omega))), fun i hi => ?_⟩
  rw [List.length_set]
  have := h.hq (i + 1) (by rw [List.length_cons]; omega)
  rw [List.getElem?_cons_succ] at this
  rw [← this, Int.toNat_natCast, Nat.mod_add_mod, show f.toNat + 1 + i = f.toNat + (i + 1) by omega, List.getElem?_set_ne]
  intro e
  by_cases c2 : f.toNat + (i + 1) < q.length
  · rw [Nat.mod_eq_of_lt c2] at e; omega
  · rw [Nat.mod_eq_sub_mod (by omega), Nat.mod_eq_of_lt (by omega)] at e; omega
theorem RQ.head {q : List Int} {f m : Int} {x : Int} {Q : List Int} (h : RQ q f m (x :: Q)) : getI q f = some x := by
  have hl := h.hl
  have h1 := h.h1
  have h0 := h.h0
  rw [List.length_cons] at hl
  have := h.hq 0 (by simp)
  rw [Nat.add_zero, Nat.mod_eq_of_lt (by omega)] at this
  unfold getI
  rw [if_pos h0, this]; rfl
theorem grow_eq {q : List Int} {f m : Int} (h0 : 0 ≤ f) (h1 : f ≤ (q.length : Nat)) (hl : q.length ≤ 1048576) : fn_stack_Queue_int_grow_p0_rii q f m = some (grown q f.toNat) := by
  unfold fn_stack_Queue_int_grow_p0_rii
  obtain ⟨k, rfl⟩ := Int.eq_ofNat_of_zero_le h0
  have hk : k ≤ q.length := by omega
  rw [w64 (x := 2 * _) (by omega) (by omega), w64 (by omega) (by omega)]
  have e1 : mk (2 * ((q.length : Nat) : Int) + 1) (2 * ((q.length : Nat) : Int) + 1) (0 : Int) = some (List.replicate (2 * q.length + 1) 0) := by
    unfold mk
    rw [if_pos (by omega), show (2 * ((q.length : Nat) : Int) + 1).toNat = 2 * q.length + 1 by omega]
  rw [e1, Option.bind_some, subL_eq h0 h1 (Int.le_refl _), Option.bind_some, Option.bind_some]
  have e2 : List.drop (k : Int).toNat (List.take ((q.length : Nat) : Int).toNat q) = q.drop k := by simp
  have e3 : List.drop (0 : Int).toNat (List.take (k : Int).toNat q) = q.take k := by simp
  rw [e2, e3, List.length_replicate, List.length_drop]
  have e4 : (min (q.length - k) (2 * q.length + 1 - (0 : Int).toNat) : Nat) = q.length - k := by simp; omega
  rw [e4]
  have e5 : cpy (List.replicate (2 * q.length + 1) (0 : Int)) (0 : Int).toNat ((q.drop k).take (2 * q.length + 1 - (0 : Int).toNat)) = q.drop k ++ List.replicate (q.length + k + 1) 0 := by
    unfold cpy
    rw [List.take_of_length_le (l := q.drop k) (by rw [List.length_drop]; simp; omega), List.length_drop, List.drop_replicate]
    simp
    omega
  rw [e5]
  have e6 : (q.drop k ++ List.replicate (q.length + k + 1) (0 : Int)).length = 2 * q.length + 1 := by rw [List.length_append, List.length_drop, List.length_replicate]; omega
  rw [subL_eq (by omega) (by omega) (by rw [e6]; omega), Option.bind_some, subL_eq (by omega) h0 h1, Option.bind_some, Option.bind_some]
  have e7 : (q.take k).take (((2 * q.length + 1 : Nat) : Int).toNat - ((q.length - k : Nat) : Int).toNat) = q.take k := List.take_of_length_le (by rw [List.length_take]; omega)
  rw [e7, Int.toNat_natCast, Int.toNat_natCast]
  unfold cpy grown
  have d1 : (q.drop k).length = q.length - k := List.length_drop
  rw [List.take_append_of_le_length (by omega), List.take_of_length_le (l := q.drop k) (by omega), List.length_take, Nat.min_eq_left hk, List.drop_append, d1, List.drop_of_length_le (l := q.drop k) (by omega), List.nil_append, List.drop_replicate]
  congr 4
  omega
theorem Push_eq {q : List Int} {f m : Int} {Q : List Int} {v : Int} {B : Nat} (h : RQ q f m Q) (hB : Q.length ≤ B) (hq : q.length ≤ 2 * B + 1) (hb : B ≤ 262144) :
    ∃ q' f', fn_stack_Queue_int_Push_p0k_rii [v] q f m = some (q', f', m + 1) ∧ RQ q' f' (m + 1) (Q ++ [v]) ∧ q'.length ≤ 2 * B + 1 := by
  have hl := h.hl
  have hm := h.hm
  have go : ∀ (q : List Int) (f : Int), RQ q f m Q → Q.length < q.length → q.length ≤ 2 * B + 1 →
      (nz ((q.length : Nat) : Int)).bind (fun _ => (getI q (Int.tmod (IntKind.wrap .i64 (f + m)) ((q.length : Nat) : Int))).bind fun _ => (some (q.set (Int.tmod (IntKind.wrap .i64 (f + m)) ((q.length : Nat) : Int)).toNat v)).bind fun z => (some (Sum.inl (IntKind.wrap .i64 ((0 : Int) + 1), z, f, IntKind.wrap .i64 (m + 1))) : Option ((Int × List Int × Int × Int) ⊕ (List Int × Int × Int)))) = some (.inl (1, q.set ((f.toNat + Q.length) % q.length) v, f, m + 1)) := by
    intro q f h hlt hq
    have h0 := h.h0
    have h1 := h.h1
    have e1 : IntKind.wrap .i64 (f + m) = ((f.toNat + Q.length : Nat) : Int) := by rw [w64 (by omega) (by omega)]; omega
    have e2 : Int.tmod ((f.toNat + Q.length : Nat) : Int) ((q.length : Nat) : Int) = (((f.toNat + Q.length) % q.length : Nat) : Int) := (Int.ofNat_tmod _ _).symm
    rw [e1, e2, nz_eq (by omega), Option.bind_some, getN (Nat.mod_lt _ (by omega)), Option.bind_some, Option.bind_some, Int.toNat_natCast, w64 (x := m + 1) (by omega) (by omega)]
    rfl
  unfold fn_stack_Queue_int_Push_p0k_rii
  by_cases c : Q.length = q.length
  · have hg := h.grown c
    have hfl : f.toNat ≤ q.length := by have := h.h1; have := h.h0; rcases h.h1 with e | e <;> omega
    have hgl := grown_len (q := q) hfl
    have hs := hg.snoc (by rw [hgl]; omega) v
    refine ⟨_, _, ?_, hs, by rw [List.length_set, hgl]; omega⟩
    rw [loop_next (s' := (1, _, 0, m + 1)), loop_end (b := (_, 0, m + 1))]
    · rfl
    · unfold fn_stack_Queue_int_Push_p0k_rii_l1; rfl
    · have := go _ _ hg (by rw [hgl]; omega) (by rw [hgl]; omega)
      unfold fn_stack_Queue_int_Push_p0k_rii_l1
      simp only [show decide ((0 : Int) < (([v] : List Int).length : Nat)) = true from rfl, cond_true, show getI [v] 0 = some v from rfl, Option.bind_some]
      rw [show decide (m = ((q.length : Nat) : Int)) = true by simp; omega, cond_true, grow_eq h.h0 (by have := h.h0; omega) (by omega)]
      simp only [Option.bind_some]
      exact this
  · have hs := h.snoc (by omega) v
    refine ⟨_, _, ?_, hs, by rw [List.length_set]; omega⟩
    rw [loop_next (s' := (1, _, f, m + 1)), loop_end (b := (_, f, m + 1))]
    · rfl
    · unfold fn_stack_Queue_int_Push_p0k_rii_l1; rfl
    · have := go _ _ h (by omega) hq
      unfold fn_stack_Queue_int_Push_p0k_rii_l1
      simp only [show decide ((0 : Int) < (([v] : List Int).length : Nat)) = true from rfl, cond_true, show getI [v] 0 = some v from rfl, Option.bind_some]
      rw [show decide (m = ((q.length : Nat) : Int)) = false by simp; omega, cond_false]
      simp only [Option.bind_some]
      exact this
theorem Pop_eq {q : List Int} {f m : Int} {x : Int} {Q : List Int} (h : RQ q f m (x :: Q)) (hq : q.length ≤ 1048576) :
    ∃ q' f', fn_stack_Queue_int_Pop_p0_rii q f m = some (x, true, q', f', m - 1) ∧ RQ q' f' (m - 1) Q ∧ q'.length = q.length := by
  have hl := h.hl
  have hm := h.hm
  have h0 := h.h0
  have h1 := h.h1
  rw [List.length_cons] at hl hm
  refine ⟨_, _, ?_, h.tail, List.length_set⟩
  unfold fn_stack_Queue_int_Pop_p0_rii fn_stack_Queue_int_Len_p0_rii
  have e1 : IntKind.wrap .i64 (f + 1) = ((f.toNat + 1 : Nat) : Int) := by rw [w64 (by omega) (by omega)]; omega
  have e2 : Int.tmod ((f.toNat + 1 : Nat) : Int) ((q.length : Nat) : Int) = (((f.toNat + 1) % q.length : Nat) : Int) := (Int.ofNat_tmod _ _).symm
  simp only [Option.bind_some]
  rw [show decide (m = 0) = false by simp; omega, cond_false, h.head]
  simp only [Option.bind_some]
  rw [nz_eq (by omega), Option.bind_some, e1, e2, w64 (x := m - 1) (by omega) (by omega)]
/-- The first push, onto a queue without a ring. -/
theorem Push_first (v : Int) : fn_stack_Queue_int_Push_p0k_nii [v] 0 0 = some ([v], 0, 1) := by
  have h : RQ [] 0 0 [] := .nil
  unfold fn_stack_Queue_int_Push_p0k_nii
  have hg : fn_stack_Queue_int_grow_p0_rii [] 0 0 = some [0] := by rw [grow_eq (by omega) (by simp) (by simp)]; rfl
  rw [loop_next (s' := (1, [v], 0, 1)), loop_end (b := ([v], 0, 1))]
  · rfl
  · unfold fn_stack_Queue_int_Push_p0k_nii_l1; rfl
  · unfold fn_stack_Queue_int_Push_p0k_nii_l1
    simp only [show decide ((0 : Int) < (([v] : List Int).length : Nat)) = true from rfl, cond_true, show getI [v] 0 = some v from rfl, Option.bind_some, show decide ((0 : Int) = ((([] : List Int).length : Nat) : Int)) = true from rfl, hg]
    rfl
theorem RQ.one (v : Int) : RQ [v] 0 1 [v] := ⟨rfl, Nat.le_refl _, by omega, .inl rfl, fun i h => by
  obtain rfl : i = 0 := by simpa using h
  rfl⟩
end Go.Proofs.Ytcbgkokeikkpoaa
namespace Go.Proofs.Ytcbgkokeikkpoaa
open Go.RowKit
set_option linter.unusedVariables false
set_option linter.unusedSimpArgs false
set_option linter.unnecessarySimpa false
def dN : Option Nat → Int
  | some k => (k : Int)
  | none => -1
/-- Distances, as they are kept. -/
def dl (N : Nat) (d : Nat → Option Nat) : List Int := (List.range N).map fun w => dN (d w)
/-- Layers, as they are kept: in the order of finding. -/
def ly (m : Nat) (L : List Nat) (d : Nat → Option Nat) : List (List Int) := (List.range m).map fun k => li (L.filter fun w => decide (d w = some k))
/-- There are m layers, and none is empty. -/
structure Lm (d : Nat → Option Nat) (m : Nat) : Prop where
  top : ∀ w k : Nat, d w = some k → k < m
  full : ∀ k : Nat, k < m → ∃ w : Nat, d w = some k
theorem dl_len (N : Nat) (d : Nat → Option Nat) : (dl N d).length = N := by simp [dl]
theorem ly_len (m : Nat) (L : List Nat) (d : Nat → Option Nat) : (ly m L d).length = m := by simp [ly]
theorem dl_get {N w : Nat} {d : Nat → Option Nat} (h : w < N) : getI (dl N d) (w : Int) = some (dN (d w)) := getI_map h
theorem dl_set {N w k : Nat} {d : Nat → Option Nat} (h : w < N) : (dl N d).set w ((k : Nat) : Int) = dl N (fun x => if x = w then some k else d x) := by
  unfold dl
  rw [set_map]
  apply map_congr_range
  intro v hv
  by_cases c : v = w <;> simp [c, dN]
theorem ly_more {m : Nat} {L : List Nat} {d : Nat → Option Nat} (h : ∀ w k : Nat, d w = some k → k < m) : ly m L d ++ [[]] = ly (m + 1) L d := by
  unfold ly
  rw [List.range_succ, List.map_append]
  congr 1
  simp only [List.map_cons, List.map_nil]
  rw [List.filter_eq_nil_iff.2 (fun w _ => by
    intro hw
    have := h w m (of_decide_eq_true hw)
    omega)]
  rfl
theorem ly_set {m k b : Nat} {L : List Nat} {d : Nat → Option Nat} (hb : b ∉ L) (hk : k < m) : (ly m L d).set k (li (L.filter fun w => decide (d w = some k)) ++ [(b : Int)]) = ly m (L ++ [b]) (fun x => if x = b then some k else d x) := by
  unfold ly
  rw [set_map]
  apply map_congr_range
  intro j hj
  have hL : ∀ j, L.filter (fun w => decide ((if w = b then some k else d w) = some j)) = L.filter fun w => decide (d w = some j) := fun j => by
    apply List.filter_congr
    intro w hw
    have hne : w ≠ b := fun e => hb (e ▸ hw)
    rw [if_neg hne]
  rw [List.filter_append, hL]
  by_cases c : j = k
  · subst c
    rw [if_pos rfl]
    simp [li]
  · rw [if_neg c]
    simp [li]
    omega
/-- A node is reached. -/
theorem reach_ok {N m k b : Nat} {L : List Nat} {d : Nat → Option Nat} (hm : Lm d m) (hb : b < N) (hbL : b ∉ L) (hk : k ≤ m) (hLl : L.length ≤ 1000000) (hml : m ≤ 1000000) (bk : List Int) :
    fn_bfs_Tree_reach_p0ii_rrod (b : Int) (k : Int) (dl N d) bk (ly m L d) = some (dl N (fun x => if x = b then some k else d x), bk, ly (if k = m then m + 1 else m) (L ++ [b]) (fun x => if x = b then some k else d x)) := by
  unfold fn_bfs_Tree_reach_p0ii_rrod
  rw [dl_get hb]
  simp only [Option.bind_some, Int.toNat_natCast]
  rw [dl_set hb]
  have e1 : (cond (decide ((k : Int) = (((ly m L d).length : Nat) : Int))) ((app (ly m L d : List (List Int)) ([[]] : List (List Int))).bind fun z => some z) (some (ly m L d)) : Option (List (List Int))) = some (ly (if k = m then m + 1 else m) L d) := by
    rw [ly_len]
    by_cases c : k = m
    · rw [show decide ((k : Int) = (m : Int)) = true by simp [c], cond_true, if_pos c, app_eq (by rw [ly_len]; simp; omega), Option.bind_some, ly_more hm.top]
    · rw [show decide ((k : Int) = (m : Int)) = false by simp; omega, cond_false, if_neg c]
  rw [e1]
  have hk2 : k < (if k = m then m + 1 else m) := by split <;> omega
  have e2 : getI (ly (if k = m then m + 1 else m) L d) (k : Int) = some (li (L.filter fun w => decide (d w = some k))) := getI_map hk2
  have hfl : (L.filter fun w => decide (d w = some k)).length ≤ L.length := List.length_filter_le _ _
  simp only [Option.bind_some, e2]
  have e3 : chkI (k : Int) (k : Int) = some () := by simp [chkI]
  rw [e3]
  simp only [Option.bind_some]
  rw [app_eq (by rw [li_len]; simp; omega)]
  simp only [Option.bind_some]
  rw [ly_set hbL hk2]
theorem Lm.reach {d : Nat → Option Nat} {m k b : Nat} (h : Lm d m) (hb : d b = none) (hk : k ≤ m) : Lm (fun x => if x = b then some k else d x) (if k = m then m + 1 else m) where
  top := fun w l hw => by
    split at hw
    · cases hw; split <;> omega
    · have := h.top w l hw; split <;> omega
  full := fun l hl => by
    by_cases c : l = k
    · exact ⟨b, by simp [c]⟩
    · obtain ⟨w, hw⟩ := h.full l (by split at hl <;> omega)
      refine ⟨w, ?_⟩
      rw [if_neg (fun e => by rw [e, hb] at hw; cases hw), hw]
/-- The arcs that lead, as they are kept: least of those told. -/
def less (i : Nat) : Option Nat → Nat
  | none => i
  | some j => if i < j then i else j
theorem lead_ok {N b i : Nat} {β : Nat → Option Nat} (hb : b < N) (ds : List Int) (ls : List (List Int)) :
    fn_bfs_Tree_lead_p0ii_rrod (b : Int) (i : Int) ds (dl N β) ls = some (ds, dl N (fun x => if x = b then some (less i (β b)) else β x), ls) := by
  unfold fn_bfs_Tree_lead_p0ii_rrod
  rw [dl_get hb]
  simp only [Option.bind_some, Int.toNat_natCast]
  cases hβ : β b with
  | none =>
    rw [show decide (dN none < 0) = true from rfl, cond_true, Option.bind_some, cond_true, dl_set hb]
    rfl
  | some j =>
    rw [show decide (dN (some j) < 0) = false from decide_eq_false (by show ¬ ((j : Int) < 0); omega), cond_false, Option.bind_some]
    by_cases c : i < j
    · rw [show decide ((i : Int) < dN (some j)) = true by simp [dN]; omega, cond_true, dl_set hb]
      simp [less, c]
    · rw [show decide ((i : Int) < dN (some j)) = false by simp [dN]; omega, cond_false]
      congr 3
      unfold dl
      apply map_congr_range
      intro w hw
      by_cases e : w = b
      · subst e; simp [less, c, hβ]
      · simp [e]
/-- Arc i leads to w, one step farther. -/
def Lead (E : ArG) (d : Nat → Option Nat) (i w : Nat) : Prop := ∃ (h : i < E.length) (k : Nat), E[i].2 = w ∧ d E[i].1 = some k ∧ d w = some (k + 1)
/-- The least of the arcs told that lead. -/
structure Bck (E : ArG) (T : List Nat) (d : Nat → Option Nat) (β : Nat → Option Nat) : Prop where
  yes : ∀ w i : Nat, β w = some i → i ∈ T ∧ Lead E d i w
  low : ∀ w i : Nat, i ∈ T → Lead E d i w → ∃ j, β w = some j ∧ j ≤ i
  tf : ∀ i : Nat, i ∈ T → ∃ h : i < E.length, (d E[i].1).isSome ∧ (d E[i].2).isSome
theorem Bck.start (E : ArG) (d : Nat → Option Nat) : Bck E [] d (fun _ => none) := ⟨fun _ _ h => (by cases h), fun _ _ h => (by cases h), fun _ h => (by cases h)⟩
/-- A node is found: nothing changes for what is told. -/
theorem Bck.find {E : ArG} {T : List Nat} {d β : Nat → Option Nat} {b k : Nat} (h : Bck E T d β) (hb : d b = none) : Bck E T (fun x => if x = b then some k else d x) β := by
  have key : ∀ w i : Nat, i ∈ T → (Lead E (fun x => if x = b then some k else d x) i w ↔ Lead E d i w) := by
    intro w i hi
    obtain ⟨hlt, h1, h2⟩ := h.tf i hi
    have n1 : E[i].1 ≠ b := fun e => by rw [e, hb] at h1; cases h1
    have n2 : E[i].2 ≠ b := fun e => by rw [e, hb] at h2; cases h2
    constructor
    · rintro ⟨q, l, e1, e2, e3⟩
      dsimp only at e2 e3
      rw [if_neg n1] at e2
      rw [if_neg (fun e => n2 (e1.trans e))] at e3
      exact ⟨q, l, e1, e2, e3⟩
    · rintro ⟨q, l, e1, e2, e3⟩
      exact ⟨q, l, e1, by dsimp only; rw [if_neg n1, e2], by dsimp only; rw [if_neg (fun e => n2 (e1.trans e)), e3]⟩
  refine ⟨fun w i hw => ?_, fun w i hi hl => h.low w i hi ((key w i hi).1 hl), fun i hi => ?_⟩
  · obtain ⟨h1, h2⟩ := h.yes w i hw
    exact ⟨h1, (key w i h1).2 h2⟩
  · obtain ⟨hlt, h1, h2⟩ := h.tf i hi
    refine ⟨hlt, ?_, ?_⟩
    · split
      · rfl
      · exact h1
    · split
      · rfl
      · exact h2
/-- An arc is told that leads. -/
theorem Bck.tell {E : ArG} {T : List Nat} {d β : Nat → Option Nat} {i : Nat} (h : Bck E T d β) (hi : i < E.length) (hl : Lead E d i E[i].2) : Bck E (T ++ [i]) d (fun x => if x = E[i].2 then some (less i (β E[i].2)) else β x) := by
  refine ⟨fun w j hw => ?_, fun w j hj hjl => ?_, fun j hj => ?_⟩
  · split at hw
    · rename_i e
      subst e
      cases hw
      cases hβ : β E[i].2 with
      | none => exact ⟨by simp [less], hl⟩
      | some q =>
        obtain ⟨h1, h2⟩ := h.yes _ _ hβ
        unfold less
        dsimp only
        split
        · exact ⟨by simp, hl⟩
        · exact ⟨List.mem_append_left _ h1, h2⟩
    · obtain ⟨h1, h2⟩ := h.yes w j hw
      exact ⟨List.mem_append_left _ h1, h2⟩
  · by_cases e : w = E[i].2
    · subst e
      rw [if_pos rfl]
      refine ⟨_, rfl, ?_⟩
      rcases List.mem_append.1 hj with hj | hj
      · obtain ⟨q, h1, h2⟩ := h.low _ j hj hjl
        rw [h1]; unfold less; dsimp only; split <;> omega
      · simp at hj; subst hj
        cases β E[j].2 with
        | none => exact Nat.le_refl _
        | some q => unfold less; dsimp only; split <;> omega
    · rw [if_neg e]
      rcases List.mem_append.1 hj with hj | hj
      · exact h.low w j hj hjl
      · simp at hj; subst hj
        obtain ⟨_, _, e1, _⟩ := hjl
        exact absurd e1.symm e
  · rcases List.mem_append.1 hj with hj | hj
    · exact h.tf j hj
    · simp at hj; subst hj
      obtain ⟨q, k, _, e2, e3⟩ := hl
      exact ⟨hi, by rw [e2]; rfl, by rw [e3]; rfl⟩
/-- An arc is told that leads nowhere. -/
theorem Bck.pass {E : ArG} {T : List Nat} {d β : Nat → Option Nat} {i : Nat} (h : Bck E T d β) (hi : i < E.length) (hl : ¬ Lead E d i E[i].2) (h1 : (d E[i].1).isSome) (h2 : (d E[i].2).isSome) : Bck E (T ++ [i]) d β := by
  refine ⟨fun w j hw => ?_, fun w j hj hjl => ?_, fun j hj => ?_⟩
  · obtain ⟨g1, g2⟩ := h.yes w j hw
    exact ⟨List.mem_append_left _ g1, g2⟩
  · rcases List.mem_append.1 hj with hj | hj
    · exact h.low w j hj hjl
    · simp at hj; subst hj
      obtain ⟨_, _, e1, _⟩ := id hjl
      subst e1
      exact absurd hjl hl
  · rcases List.mem_append.1 hj with hj | hj
    · exact h.tf j hj
    · simp at hj; subst hj
      exact ⟨hi, h1, h2⟩
end Go.Proofs.Ytcbgkokeikkpoaa
namespace Go.Proofs.Ytcbgkokeikkpoaa
open Go.RowKit
set_option linter.unusedVariables false
theorem same01_eq (xa xb : List Int) (hn : xa.length ≤ 1073741824) : fn_ref01_Same xa xb = some (decide (xa = xb)) := by
  unfold fn_ref01_Same
  by_cases hl : xa.length = xb.length
  · rw [dlen hl, cond_false, loop_alike (body := fn_ref01_Same_l1 xa xb) xa xb (.inr false) (.inl ()) hl ?_ ?_]
    · by_cases h : xa = xb <;> simp [h]
    · intro k h; unfold fn_ref01_Same_l1
      have h2 : k < xb.length := by omega
      by_cases q : xa[k] = xb[k] <;> simp [getN h, getN h2, h, q, w64s h (by omega)]
    · simp [fn_ref01_Same_l1]
  · rw [dlen' hl, cond_true]
    have : ¬ xa = xb := fun h => hl (by rw [h])
    simp [this]
end Go.Proofs.Ytcbgkokeikkpoaa
namespace Go.Proofs.Ytcbgkokeikkpoaa
open Go.RowKit
set_option linter.unusedVariables false
def refOut (xb : List (Int × Int)) (v : Int) : List Nat := (List.range xb.length).filter (fun i => decide ((xb.getD i (0, 0)).1 = v))
theorem refOut_occ (E : ArG) (v : Nat) : refOut (ai E) (v : Int) = occ (E.map (·.1)) v := by
  unfold refOut occ
  rw [ai_len, List.length_map]
  refine List.filter_congr (fun i hi => ?_)
  have hi' := List.mem_range.1 hi
  simp [ai, hi', Int.ofNat_inj]
theorem refOut_not {N : Nat} {E : ArG} (hE : inN N E) {v : Int} (h : v < 0 ∨ (N : Int) ≤ v) : refOut (ai E) v = [] := by
  unfold refOut
  rw [List.filter_eq_nil_iff]
  intro i hi
  rw [List.mem_range, ai_len] at hi
  have := (hE _ (List.getElem_mem hi)).1
  simp [ai, hi]; omega
theorem nxt_eq (E : ArG) (v : Nat) : nxt E v = (E.filter (fun e => decide (e.1 = v))).map (·.2) := by
  have hE : E = (List.range E.length).map (fun i => E.getD i (0, 0)) := by
    apply List.ext_getElem
    · simp
    · intro i h1 h2; simp [h1]
  unfold nxt occ
  rw [List.length_map]
  conv => rhs; rw [hE]
  rw [List.filter_map, List.map_map]
  congr 1
  refine List.filter_congr (fun i hi => ?_)
  have hi' := List.mem_range.1 hi
  simp [hi']
theorem refNext_nat (E : ArG) (v : Nat) : ((ai E).filter (fun a => decide (a.1 = (v : Int)))).map (·.2) = li (nxt E v) := by
  rw [nxt_eq]
  unfold ai li
  rw [List.filter_map, List.map_map, List.map_map]
  congr 1
  refine List.filter_congr (fun e _ => ?_)
  simp [Int.ofNat_inj]
theorem refNext_not {N : Nat} {E : ArG} (hE : inN N E) {v : Int} (h : v < 0 ∨ (N : Int) ≤ v) : ((ai E).filter (fun a => decide (a.1 = v))).map (·.2) = [] := by
  have : (ai E).filter (fun a => decide (a.1 = v)) = [] := by
    rw [List.filter_eq_nil_iff]
    intro a ha
    obtain ⟨e, he, rfl⟩ := List.mem_map.1 ha
    have := (hE e he).1
    simp; omega
  rw [this]; rfl
theorem ai_tn (E : ArG) : (ai E).map (fun a => (a.2, a.1)) = ai (tn E) := by simp [ai, tn]
theorem Arc_of {N : Nat} {E : ArG} {i : Int} : fn_graph_Graph_Arc (some (mkG N E)) i = some (if h : 0 ≤ i ∧ i < (E.length : Int) then (((E[i.toNat]'(by omega)).1 : Int), ((E[i.toNat]'(by omega)).2 : Int), true) else (0, 0, false)) := by
  unfold fn_graph_Graph_Arc
  rw [Arcs_eq]
  by_cases h0 : i < 0
  · simp [h0, show ¬ (0 ≤ i ∧ i < (E.length : Int)) by omega]
  · by_cases h1 : (E.length : Int) ≤ i
    · simp [h0, h1, show ¬ (0 ≤ i ∧ i < (E.length : Int)) by omega]
    · have h2 : 0 ≤ i ∧ i < (E.length : Int) := by omega
      obtain ⟨k, rfl⟩ := Int.eq_ofNat_of_zero_le h2.1
      have hk : k < E.length := by omega
      simp only [h0, h1, decide_false, cond_false, Option.bind_some, mkG, getI_ai hk]
      simp [hk]
def inL (N : Nat) (M : List Nat) : List Int := (List.range N).map (fun w => if w ∈ M then (1 : Int) else 0)
end Go.Proofs.Ytcbgkokeikkpoaa
namespace Go.Proofs.Ytcbgkokeikkpoaa
open Go.RowKit
set_option linter.unusedVariables false
set_option linter.unusedSimpArgs false
set_option linter.unnecessarySimpa false
/-- The search under way: L in the order of finding, p at hand, T told. -/
structure Sr (N : Nat) (E : ArG) (v : Nat) (L : List Nat) (p : Nat) (d : Nat → Option Nat) (m : Nat) (β : Nat → Option Nat) (T : List Nat) (q : List Int) (f : Int) (c : Nat) : Prop where
  b : Bfs N E v L p d
  l : Lm d m
  k : Bck E T d β
  r : RQ q f ((L.length - c : Nat) : Int) (li (L.drop c))
  ql : q.length ≤ 2 * N + 1
theorem Bfs.len {N : Nat} {E : ArG} {v : Nat} {L : List Nat} {p : Nat} {d : Nat → Option Nat} (h : Bfs N E v L p d) : L.length ≤ N := nodup_lt h.nd h.lt
theorem Lm.le {d : Nat → Option Nat} {m N : Nat} {L : List Nat} (h : Lm d m) (hL : ∀ w, w ∈ L ↔ (d w).isSome) (hN : L.length ≤ N) : m ≤ N := by
  have : ∀ j, j ≤ m → ∃ M : List Nat, M.length = j ∧ M.Nodup ∧ (∀ x ∈ M, x ∈ L ∧ ∃ k, k < j ∧ d x = some k) := by
    intro j
    induction j with
    | zero => intro _; exact ⟨[], rfl, List.nodup_nil, fun x hx => by cases hx⟩
    | succ j ih =>
      intro hj
      obtain ⟨M, h1, h2, h3⟩ := ih (by omega)
      obtain ⟨w, hw⟩ := h.full j (by omega)
      refine ⟨w :: M, by simp [h1], List.nodup_cons.2 ⟨fun hm => ?_, h2⟩, fun x hx => ?_⟩
      · obtain ⟨_, k, hk, e⟩ := h3 w hm
        rw [hw] at e; cases e; omega
      · rcases List.mem_cons.1 hx with rfl | hx
        · exact ⟨(hL x).2 (by rw [hw]; rfl), j, by omega, hw⟩
        · obtain ⟨a1, k, a2, a3⟩ := h3 x hx
          exact ⟨a1, k, by omega, a3⟩
  obtain ⟨M, h1, h2, h3⟩ := this m (Nat.le_refl _)
  have := nodup_le h2 (fun x hx => (h3 x hx).1)
  omega
theorem inner_step {N : Nat} {E : ArG} {v : Nat} {L : List Nat} {p : Nat} {d : Nat → Option Nat} {m : Nat} {β : Nat → Option Nat} {T : List Nat} {q : List Int} {f : Int} (hE : inN N E) (hn : N ≤ 1000) (he : E.length ≤ 10000) (s : Sr N E v L p d m β T q f (p + 1)) {a k : Nat} (ha : L[p]? = some a) (hk : d a = some k) {O : List Nat} (hO : ∀ i ∈ O, ∃ h : i < E.length, E[i].1 = a) (hOl : O.length ≤ 10000) {j : Nat} (hj : j < O.length) :
    ∃ L' d' m' β' q' f', fn_bfs_From_kpiz_l1 (some (mkG N E)) (a : Int) (li O) ((j : Int), dl N d, dl N β, ly m L d, q, f, ((L.length - (p + 1) : Nat) : Int)) = some (.inl (((j + 1 : Nat) : Int), dl N d', dl N β', ly m' L' d', q', f', ((L'.length - (p + 1) : Nat) : Int)))
      ∧ Sr N E v L' p d' m' β' (T ++ [O[j]]) q' f' (p + 1) ∧ L'[p]? = some a ∧ d' a = some k ∧ (∀ h : O[j] < E.length, (d' E[O[j]].2).isSome) ∧ (∀ x, (d x).isSome → (d' x).isSome) ∧ L <+: L' := by
  obtain ⟨hi, hia⟩ := hO O[j] (List.getElem_mem hj)
  have hpl : p < L.length := (List.getElem?_eq_some_iff.1 ha).1
  have hLN := s.b.len
  have haN : a < N := s.b.lt a (List.mem_of_getElem? ha)
  have hbN : E[O[j]].2 < N := (hE _ (List.getElem_mem hi)).2
  have hmN := s.l.le s.b.mem hLN
  have hkm := s.l.top a k hk
  have hmem : (a, E[O[j]].2) ∈ E := by rw [← hia]; exact List.getElem_mem hi
  unfold fn_bfs_From_kpiz_l1
  dsimp only
  rw [li_len, dlt hj, cond_true, getI_li hj, Option.bind_some, Arc_of, dif_pos ⟨by omega, by omega⟩]
  simp only [Int.toNat_natCast, Option.bind_some]
  rw [dl_get hbN]
  simp only [Option.bind_some]
  rw [dl_get haN, hk, w64s hj (by omega)]
  simp only [Option.bind_some]
  have hw : IntKind.wrap .i64 (dN (some k) + 1) = ((k + 1 : Nat) : Int) := by rw [show dN (some k) = (k : Int) from rfl, w64 (by omega) (by omega)]; rfl
  rw [hw]
  cases hb : d E[O[j]].2 with
  | none =>
    have hbL : E[O[j]].2 ∉ L := fun hm => by have := (s.b.mem _).1 hm; rw [hb] at this; cases this
    have hB := s.b.find hE ha hmem hk hb
    have hLN2 := hB.len
    rw [List.length_append, List.length_singleton] at hLN2
    rw [show decide (dN none < 0) = true from rfl, cond_true, reach_ok s.l hbN hbL (by omega) (by omega) (by omega)]
    simp only [Option.bind_some]
    have hd1 : (li (L.drop (p + 1))).length = L.length - (p + 1) := by rw [li_len, List.length_drop]
    obtain ⟨q', f', e1, e2, e3⟩ := Push_eq (v := ((E[O[j]].2 : Nat) : Int)) (B := N) s.r (by rw [hd1]; omega) s.ql (by omega)
    rw [e1]
    simp only [Option.bind_some]
    rw [dl_get hbN, dl_get haN]
    simp only [Option.bind_some]
    have hne : a ≠ E[O[j]].2 := fun e => by rw [← e, hk] at hb; cases hb
    rw [if_pos trivial, if_neg hne, hk, hw, show decide (dN (some (k + 1)) = ((k + 1 : Nat) : Int)) = true from decide_eq_true rfl, cond_true, lead_ok hbN]
    simp only [Option.bind_some]
    have hlen : ((L ++ [E[O[j]].2]).length - (p + 1) : Nat) = L.length - (p + 1) + 1 := by rw [List.length_append, List.length_singleton]; omega
    refine ⟨L ++ [E[O[j]].2], fun x => if x = E[O[j]].2 then some (k + 1) else d x, if k + 1 = m then m + 1 else m, fun x => if x = E[O[j]].2 then some (less O[j] (β E[O[j]].2)) else β x, q', f', ?_, ⟨hB, s.l.reach hb (by omega), (s.k.find hb).tell hi ⟨hi, k, rfl, ?_, ?_⟩, ?_, e3⟩, ?_, ?_, ?_, ?_, ⟨_, rfl⟩⟩
    · rw [hlen]; rfl
    · dsimp only; rw [hia, if_neg hne, hk]
    · dsimp only; rw [if_pos rfl]
    · rw [hlen, List.drop_append_of_le_length (by omega)]
      simpa [li] using e2
    · rw [List.getElem?_append_left hpl, ha]
    · dsimp only; rw [if_neg hne, hk]
    · intro _; simp
    · intro x hx; dsimp only; split
      · rfl
      · exact hx
  | some l =>
    rw [show decide (dN (some l) < 0) = false from decide_eq_false (by show ¬ ((l : Int) < 0); omega), cond_false, Option.bind_some]
    simp only []
    rw [dl_get hbN, dl_get haN]
    simp only [Option.bind_some]
    rw [hk, hb, hw]
    by_cases c : l = k + 1
    · subst c
      rw [show decide (dN (some (k + 1)) = ((k + 1 : Nat) : Int)) = true from decide_eq_true rfl, cond_true, lead_ok hbN]
      simp only [Option.bind_some]
      exact ⟨_, _, _, _, _, _, rfl, ⟨s.b, s.l, s.k.tell hi ⟨hi, k, rfl, by rw [hia, hk], hb⟩, s.r, s.ql⟩, ha, hk, fun _ => by rw [hb]; rfl, fun _ h => h, List.prefix_refl _⟩
    · rw [show decide (dN (some l) = ((k + 1 : Nat) : Int)) = false from decide_eq_false (by show ¬ ((l : Int) = ((k + 1 : Nat) : Int)); omega), cond_false]
      refine ⟨_, _, _, _, _, _, rfl, ⟨s.b, s.l, s.k.pass hi ?_ (by rw [hia, hk]; rfl) (by rw [hb]; rfl), s.r, s.ql⟩, ha, hk, fun _ => by rw [hb]; rfl, fun _ h => h, List.prefix_refl _⟩
      rintro ⟨_, k2, _, e2, e3⟩
      rw [hia, hk] at e2
      rw [hb] at e3
      cases e2; cases e3
      exact c rfl
theorem inner_from {N : Nat} {E : ArG} {v p a k : Nat} (hE : inN N E) (hn : N ≤ 1000) (he : E.length ≤ 10000) {O : List Nat} (hO : ∀ i ∈ O, ∃ h : i < E.length, E[i].1 = a) (hOl : O.length ≤ 10000) :
    ∀ (r j : Nat) (L : List Nat) (d : Nat → Option Nat) (m : Nat) (β : Nat → Option Nat) (T : List Nat) (q : List Int) (f : Int), j + r = O.length → Sr N E v L p d m β T q f (p + 1) → L[p]? = some a → d a = some k → (∀ i ∈ O.take j, ∀ h : i < E.length, (d E[i].2).isSome) →
    ∃ L' d' m' β' q' f', loop (fn_bfs_From_kpiz_l1 (some (mkG N E)) (a : Int) (li O)) ((j : Int), dl N d, dl N β, ly m L d, q, f, ((L.length - (p + 1) : Nat) : Int)) = some (dl N d', dl N β', ly m' L' d', q', f', ((L'.length - (p + 1) : Nat) : Int))
      ∧ Sr N E v L' p d' m' β' (T ++ O.drop j) q' f' (p + 1) ∧ L'[p]? = some a ∧ d' a = some k ∧ (∀ i ∈ O, ∀ h : i < E.length, (d' E[i].2).isSome) ∧ L <+: L' := by
  intro r
  induction r with
  | zero =>
    intro j L d m β T q f hj s ha hk ht
    refine ⟨L, d, m, β, q, f, ?_, ?_, ha, hk, ?_, List.prefix_refl _⟩
    · apply loop_end
      unfold fn_bfs_From_kpiz_l1
      dsimp only
      rw [li_len, dge (by omega), cond_false]
    · rw [List.drop_of_length_le (by omega), List.append_nil]; exact s
    · rw [List.take_of_length_le (by omega)] at ht; exact ht
  | succ r ih =>
    intro j L d m β T q f hj s ha hk ht
    have hjl : j < O.length := by omega
    obtain ⟨L1, d1, m1, β1, q1, f1, e1, s1, a1, k1, t1, mo, pf⟩ := inner_step hE hn he s ha hk hO hOl hjl
    obtain ⟨L2, d2, m2, β2, q2, f2, e2, s2, a2, k2, t2, pf2⟩ := ih (j + 1) L1 d1 m1 β1 (T ++ [O[j]]) q1 f1 (by omega) s1 a1 k1 (fun i hi h => by
      rw [take_snoc hjl] at hi
      rcases List.mem_append.1 hi with hi | hi
      · exact mo _ (ht i hi h)
      · simp only [List.mem_singleton] at hi; subst hi; exact t1 h)
    refine ⟨L2, d2, m2, β2, q2, f2, by rw [loop_next e1]; exact e2, ?_, a2, k2, t2, pf.trans pf2⟩
    rw [List.append_assoc, List.singleton_append, ← List.drop_eq_getElem_cons hjl] at s2
    exact s2
/-- What has been told when the first p are done. -/
def told (E : ArG) (L : List Nat) (p : Nat) (T : List Nat) : Prop := ∀ i : Nat, i ∈ T ↔ ∃ h : i < E.length, E[i].1 ∈ L.take p
theorem outer_step {N : Nat} {E : ArG} {v : Nat} {L : List Nat} {p : Nat} {d : Nat → Option Nat} {m : Nat} {β : Nat → Option Nat} {T : List Nat} {q : List Int} {f : Int} (hE : inN N E) (hn : N ≤ 1000) (he : E.length ≤ 10000) (s : Sr N E v L p d m β T q f p) (ht : told E L p T) (hp : p < L.length) :
    ∃ L' d' m' β' T' q' f', fn_bfs_From_kpiz_l2 (some (mkG N E)) (dl N d, dl N β, ly m L d, q, f, ((L.length - p : Nat) : Int)) = some (.inl (dl N d', dl N β', ly m' L' d', q', f', ((L'.length - (p + 1) : Nat) : Int)))
      ∧ Sr N E v L' (p + 1) d' m' β' T' q' f' (p + 1) ∧ told E L' (p + 1) T' := by
  have hLN := s.b.len
  have ha : L[p]? = some L[p] := List.getElem?_eq_getElem hp
  have haL : L[p] ∈ L := List.getElem_mem hp
  have haN := s.b.lt _ haL
  obtain ⟨k, hk⟩ := Option.isSome_iff_exists.1 ((s.b.mem _).1 haL)
  have hr := s.r
  have hdrop : li (L.drop p) = ((L[p] : Nat) : Int) :: li (L.drop (p + 1)) := by rw [List.drop_eq_getElem_cons hp]; rfl
  rw [hdrop] at hr
  obtain ⟨q1, f1, e1, r1, l1⟩ := Pop_eq hr (by have := s.ql; omega)
  have hm1 : ((L.length - p : Nat) : Int) - 1 = ((L.length - (p + 1) : Nat) : Int) := by omega
  rw [hm1] at e1 r1
  have hOl : (occ (E.map (·.1)) L[p]).length ≤ 10000 := by have := occ_bound (E.map (·.1)) L[p]; rw [List.length_map] at this; omega
  obtain ⟨L2, d2, m2, β2, q2, f2, e2, s2, a2, k2, t2, pf⟩ := inner_from (v := v) (p := p) (k := k) hE hn he (O := occ (E.map (·.1)) L[p]) (fun i hi => occ_arc hi) hOl _ 0 L d m β T q1 f1 (Nat.zero_add _) ⟨s.b, s.l, s.k, r1, by rw [l1]; exact s.ql⟩ ha hk (fun i hi => by simp at hi)
  have hnext := s2.b.next a2 k2 (fun b hb => by
    obtain ⟨i, hi, e⟩ := List.mem_iff_getElem.1 hb
    have := t2 i (occ_mem.2 ⟨by rw [List.length_map]; exact hi, by simp [e]⟩) hi
    rw [e] at this; exact this)
  refine ⟨L2, d2, m2, β2, _, q2, f2, ?_, ⟨hnext, s2.l, s2.k, s2.r, s2.ql⟩, ?_⟩
  · unfold fn_bfs_From_kpiz_l2 fn_stack_Queue_int_Len_p0_rii
    simp only [Option.bind_some]
    rw [show decide ((0 : Int) < ((L.length - p : Nat) : Int)) = true by simp; omega, cond_true, e1]
    simp only [Option.bind_some]
    rw [Out_of (by omega) (by omega) haN]
    simp only [Option.bind_some]
    rw [show fn_tick_Counter_Add_zii 6 _ = some () from rfl, Option.bind_some]
    have e2' : loop (fn_bfs_From_kpiz_l1 (some (mkG N E)) ((L[p] : Nat) : Int) ((occ (E.map (·.1)) L[p]).map (fun i : Nat => (i : Int)))) (0, dl N d, dl N β, ly m L d, q1, f1, ((L.length - (p + 1) : Nat) : Int)) = _ := e2
    rw [e2']
    rfl
  · intro i
    have hp2 : p < L2.length := (List.getElem?_eq_some_iff.1 a2).1
    have hLp : L2[p] = L[p] := by rw [List.getElem?_eq_getElem hp2] at a2; exact Option.some.inj a2
    have hpre : L2.take p = L.take p := by
      obtain ⟨M, rfl⟩ := pf
      rw [List.take_append_of_le_length (by omega)]
    rw [take_snoc hp2, hpre, hLp, List.drop_zero, List.mem_append, ht i, occ_mem]
    constructor
    · rintro (⟨h, h1⟩ | ⟨h, h1⟩)
      · exact ⟨h, List.mem_append_left _ h1⟩
      · rw [List.length_map] at h
        exact ⟨h, List.mem_append_right _ (by simp at h1; simp [h1])⟩
    · rintro ⟨h, h1⟩
      rcases List.mem_append.1 h1 with h1 | h1
      · exact .inl ⟨h, h1⟩
      · simp at h1
        exact .inr ⟨by rw [List.length_map]; exact h, by simp [h1]⟩
/-- What a search that has ended knows. -/
structure Bend (N : Nat) (E : ArG) (v : Nat) (L : List Nat) (d : Nat → Option Nat) (m : Nat) (β : Nat → Option Nat) : Prop where
  b : Bfs N E v L L.length d
  l : Lm d m
  yes : ∀ w i : Nat, β w = some i → Lead E d i w
  low : ∀ w i : Nat, Lead E d i w → ∃ j, β w = some j ∧ j ≤ i
theorem outer_loop {N : Nat} {E : ArG} {v : Nat} (hE : inN N E) (hn : N ≤ 1000) (he : E.length ≤ 10000) : ∀ (r p : Nat) (L : List Nat) (d : Nat → Option Nat) (m : Nat) (β : Nat → Option Nat) (T : List Nat) (q : List Int) (f : Int), N ≤ p + r → Sr N E v L p d m β T q f p → told E L p T →
    ∃ L' d' m' β', loop (fn_bfs_From_kpiz_l2 (some (mkG N E))) (dl N d, dl N β, ly m L d, q, f, ((L.length - p : Nat) : Int)) = some (dl N d', dl N β', ly m' L' d') ∧ Bend N E v L' d' m' β' := by
  have fin : ∀ (p : Nat) (L : List Nat) (d : Nat → Option Nat) (m : Nat) (β : Nat → Option Nat) (T : List Nat) (q : List Int) (f : Int), Sr N E v L p d m β T q f p → told E L p T → ¬ p < L.length →
      ∃ L' d' m' β', loop (fn_bfs_From_kpiz_l2 (some (mkG N E))) (dl N d, dl N β, ly m L d, q, f, ((L.length - p : Nat) : Int)) = some (dl N d', dl N β', ly m' L' d') ∧ Bend N E v L' d' m' β' := by
    intro p L d m β T q f s ht hp
    obtain rfl : p = L.length := by have := s.b.pl; omega
    refine ⟨L, d, m, β, ?_, s.b, s.l, fun w i h => (s.k.yes w i h).2, fun w i h => s.k.low w i ?_ h⟩
    · apply loop_end
      unfold fn_bfs_From_kpiz_l2 fn_stack_Queue_int_Len_p0_rii
      simp only [Option.bind_some]
      rw [Nat.sub_self]
      rfl
    · obtain ⟨hi, k, _, e2, _⟩ := h
      refine (ht i).2 ⟨hi, ?_⟩
      rw [List.take_length]
      exact (s.b.mem _).2 (by rw [e2]; rfl)
  intro r
  induction r with
  | zero =>
    intro p L d m β T q f hr s ht
    exact fin p L d m β T q f s ht (by have := s.b.len; omega)
  | succ r ih =>
    intro p L d m β T q f hr s ht
    by_cases hp : p < L.length
    · obtain ⟨L1, d1, m1, β1, T1, q1, f1, e1, s1, t1⟩ := outer_step hE hn he s ht hp
      obtain ⟨L2, d2, m2, β2, e2, b2⟩ := ih (p + 1) L1 d1 m1 β1 T1 q1 f1 (by omega) s1 t1
      exact ⟨L2, d2, m2, β2, by rw [loop_next e1]; exact e2, b2⟩
    · exact fin p L d m β T q f s ht hp
/-- Layers, each rising. -/
def lyS (N m : Nat) (d : Nat → Option Nat) : List (List Int) := (List.range m).map fun k => li ((List.range N).filter fun w => decide (d w = some k))
theorem sort_loop {N : Nat} {E : ArG} {v : Nat} {L : List Nat} {d : Nat → Option Nat} {m : Nat} {β : Nat → Option Nat} (h : Bend N E v L d m β) (hn : N ≤ 1000) : loop (fn_bfs_From_kpiz_l3 (ly m L d)) (0, ly m L d) = some (lyS N m d) := by
  have hLN := h.b.len
  have hm := h.l.le h.b.mem hLN
  have hsrt : ∀ k, srt (li (L.filter fun w => decide (d w = some k))) = some (li ((List.range N).filter fun w => decide (d w = some k))) := fun k =>
    srt_set (h.b.nd.filter _) (range_strict N _) (fun w => by
      rw [List.mem_filter, List.mem_filter, List.mem_range]
      constructor
      · rintro ⟨a, b⟩; exact ⟨h.b.lt w a, b⟩
      · rintro ⟨a, b⟩
        refine ⟨(h.b.mem w).2 ?_, b⟩
        rw [of_decide_eq_true b]; rfl) (by have := List.length_filter_le (fun w => decide (d w = some k)) L; omega)
  have := loop_nat (body := fn_bfs_From_kpiz_l3 (ly m L d)) (fun k => ((k : Int), (List.range m).map fun j => if j < k then li ((List.range N).filter fun w => decide (d w = some j)) else li (L.filter fun w => decide (d w = some j)))) m (b := lyS N m d) ?_ ?_
  · simpa [ly] using this
  · intro k hk
    unfold fn_bfs_From_kpiz_l3
    dsimp only
    rw [ly_len, dlt hk, cond_true, getI_map hk, if_neg (Nat.lt_irrefl k)]
    simp only [Option.bind_some]
    rw [show chkI (k : Int) (k : Int) = some () by simp [chkI], Option.bind_some, hsrt, Option.bind_some, Int.toNat_natCast, set_map, w64s hk (by omega)]
    congr 3
    apply map_congr_range
    intro j hj
    by_cases c : j = k
    · subst c; simp
    · by_cases c2 : j < k
      · simp [c, c2, show j < k + 1 by omega]
      · simp [c, c2, show ¬ j < k + 1 by omega]
  · unfold fn_bfs_From_kpiz_l3
    dsimp only
    rw [ly_len, dge (Nat.lt_irrefl m), cond_false]
    congr 2
    unfold lyS
    apply map_congr_range
    intro j hj
    simp [hj]
end Go.Proofs.Ytcbgkokeikkpoaa
namespace Go.Proofs.Ytcbgkokeikkpoaa
open Go.RowKit
set_option linter.unusedVariables false
set_option linter.unusedSimpArgs false
set_option linter.unnecessarySimpa false
theorem Mul_small : ∀ n : Fin 17, fn_math_bits_Mul 1 (n.val : Int) = some (0, (n.val : Int)) := by decide +kernel
theorem Rep_small : ∀ n : Fin 17, iter fn_slices_Repeat_int_int_l1 7 (cpy (List.replicate n.val (0 : Int)) ((0 : Int).toNat) (([-1] : List Int).take (n.val - (0 : Int).toNat)), ((min ([-1] : List Int).length (n.val - (0 : Int).toNat) : Nat) : Int)) = some (List.replicate n.val (-1)) := by decide +kernel
theorem Repeat_eq {n : Nat} (hn : n ≤ 16) : fn_slices_Repeat_int_int [-1] (n : Int) = some (List.replicate n (-1)) := by
  unfold fn_slices_Repeat_int_int
  rw [show decide ((n : Int) < 0) = false from decide_eq_false (by omega), cond_false]
  have hw : ∀ x : Int, 0 ≤ x → x < 1000 → IntKind.wrap .u64 x = x := fun x h0 h1 => by unfold IntKind.wrap; simp [IntKind.bits, IntKind.signed] <;> omega
  simp only [Option.bind_some]
  rw [show IntKind.wrap .u64 ((([-1] : List Int).length : Nat) : Int) = 1 from rfl, hw _ (by omega) (by omega), Mul_small ⟨n, by omega⟩]
  simp only [Option.bind_some]
  rw [show (decide ((0 : Int) < 0) || decide ((9223372036854775807 : Int) < (n : Int))) = false by simp; omega, cond_false]
  simp only [Option.bind_some]
  rw [w64 (x := (n : Int)) (by omega) (by omega)]
  have e1 : mk (n : Int) (n : Int) (0 : Int) = some (List.replicate n 0) := by unfold mk; rw [if_pos (by omega), Int.toNat_natCast]
  rw [e1]
  simp only [Option.bind_some]
  rw [List.length_replicate, loop_of (Rep_small ⟨n, by omega⟩)]
  rfl
theorem rep_dl (N : Nat) : List.replicate N (-1 : Int) = dl N fun _ => none := replicate_map N _
theorem Lm.start (v : Nat) : Lm (fun w => if w = v then some 0 else none) 1 where
  top := fun w k h => by
    split at h
    · cases h; omega
    · cases h
  full := fun k hk => ⟨v, by simp; omega⟩
theorem start_ok {N v : Nat} (hv : v < N) (bk : List Int) : fn_bfs_Tree_reach_p0ii_rrn (v : Int) 0 (dl N fun _ => none) bk = some (dl N (fun w => if w = v then some 0 else none), bk, ly 1 [v] (fun w => if w = v then some 0 else none)) := by
  unfold fn_bfs_Tree_reach_p0ii_rrn
  rw [dl_get hv]
  simp only [Option.bind_some, Int.toNat_natCast]
  have e := dl_set (k := 0) (d := fun _ => none) hv
  rw [show ((0 : Nat) : Int) = 0 from rfl] at e
  rw [e]
  rw [show (bif decide True then (app ([] : List (List Int)) [[]]).bind fun z => some z else some []) = some [[]] by simp [app]]
  have e1 : ly 1 [v] (fun w => if w = v then some 0 else none) = [[(v : Int)]] := by simp [ly, li]
  rw [e1]
  rfl
theorem From_ok {N : Nat} {E : ArG} {v : Nat} (hE : inN N E) (hn : N ≤ 16) (he : E.length ≤ 10000) (hv : v < N) : ∃ L d m β, fn_bfs_From_kpiz (some (mkG N E)) (v : Int) = some (some (dl N d, dl N β, lyS N m d)) ∧ Bend N E v L d m β := by
  obtain ⟨L, d, m, β, e, b⟩ := outer_loop (v := v) hE (by omega) he N 0 [v] (fun w => if w = v then some 0 else none) 1 (fun _ => none) [] [(v : Int)] 0 (by omega) ⟨Bfs.start hv, Lm.start v, Bck.start E _, RQ.one _, by simp⟩ (fun i => by simp)
  refine ⟨L, d, m, β, ?_, b⟩
  unfold fn_bfs_From_kpiz
  rw [Nodes_eq]
  simp only [Option.bind_some]
  rw [Repeat_eq hn, rep_dl]
  simp only [Option.bind_some]
  rw [show decide (0 ≤ (v : Int)) = true by simp, cond_true, Option.bind_some, show decide ((v : Int) < (N : Int)) = true by simp; omega, cond_true, start_ok hv]
  simp only [Option.bind_some]
  rw [Push_first]
  simp only [Option.bind_some]
  have e' : loop (fn_bfs_From_kpiz_l2 (some (mkG N E))) (dl N (fun w => if w = v then some 0 else none), dl N (fun _ => none), ly 1 [v] (fun w => if w = v then some 0 else none), [(v : Int)], 0, 1) = _ := e
  rw [e']
  simp only [Option.bind_some]
  rw [sort_loop b (by omega)]
  rfl
theorem From_not {N : Nat} {E : ArG} {v : Int} (hn : N ≤ 16) (hv : v < 0 ∨ (N : Int) ≤ v) : fn_bfs_From_kpiz (some (mkG N E)) v = some (some (dl N (fun _ => none), dl N (fun _ => none), [])) := by
  unfold fn_bfs_From_kpiz
  rw [Nodes_eq]
  simp only [Option.bind_some]
  rw [Repeat_eq hn, rep_dl]
  simp only [Option.bind_some]
  have hc : (cond (decide (0 ≤ v)) (some (decide (v < (N : Int)))) (some false) : Option Bool) = some false := by
    rcases hv with h | h
    · rw [show decide (0 ≤ v) = false by simp; omega]; rfl
    · rw [show decide (v < (N : Int)) = false by simp; omega]; cases decide (0 ≤ v) <;> rfl
  rw [hc]
  simp only [Option.bind_some, cond_false]
  rw [loop_end (b := (dl N (fun _ => none), dl N (fun _ => none), [])) rfl]
  simp only [Option.bind_some]
  rw [loop_end (b := []) rfl]
  rfl
theorem From_none (v : Int) : fn_bfs_From_kpiz none v = some (some ([], [], [])) := by
  unfold fn_bfs_From_kpiz
  rw [Nodes_none]
  simp only [Option.bind_some]
  rw [show fn_slices_Repeat_int_int [-1] 0 = some [] from Repeat_eq (n := 0) (by omega)]
  simp only [Option.bind_some]
  have hc : (cond (decide (0 ≤ v)) (some (decide (v < 0))) (some false) : Option Bool) = some false := by
    by_cases h : 0 ≤ v
    · rw [show decide (v < 0) = false by simp; omega]; cases decide (0 ≤ v) <;> rfl
    · rw [show decide (0 ≤ v) = false by simp; omega]; rfl
  rw [hc]
  simp only [Option.bind_some, cond_false]
  rw [loop_end (b := ([], [], [])) rfl]
  simp only [Option.bind_some]
  rw [loop_end (b := []) rfl]
  rfl
end Go.Proofs.Ytcbgkokeikkpoaa

/- A part of the proof: what lies ahead of the law. Nothing is claimed here. -/
import Derived.Test.YthoclljhjcfemaaZ3
import Derived.Shelf.Strings.Builder1
import Derived.Shelf.Strings.Builder2
import Derived.Shelf.Strings.OnBuilder
import Derived.Shelf.Small.Bits
import Derived.Shelf.Small.Wraps
import Derived.Shelf.Strings.BuilderF
import Derived.Shelf.Strings.BuilderK
import Derived.Shelf.Strings.Builder2Cap
import Derived.Shelf.Strconv.Itoa0
import Derived.Shelf.Sort.Plain
import Derived.Shelf.Bits.Mul64
import Derived.Shelf.Strings.BuilderCap
import Derived.Ground.Names2Prog
import Derived.Shelf.Slices.Clone
import Derived.Shelf.Slices.SearchI
import Derived.Shelf.Slices.In.SortNone
import Derived.Ground.SlgnProg
import Derived.Shelf.SlicesE.Clone
import Derived.Test.YthoclljhjcfemaaProg
import Derived.Sort.OwnSortedInts
import Derived.Shelf.Vars
import Derived.Test.YthoclljhjcfemaaRows
import Derived.Lib.RowBridge
namespace Go.Proofs.Ythoclljhjcfemaa
open Go.RowKit
set_option linter.unusedVariables false
set_option linter.unusedSimpArgs false
set_option linter.unnecessarySimpa false
set_option linter.unusedSectionVars false
variable [BldA]
/-! ### The end of a function. -/
def resS (P : Program) (n : Nat) (σ : Zt) : List ResultVar → Option (List SV)
  | [] => some []
  | .tmp t :: r => (match resS P n σ r with | some vs => some (σ.ev n (.tmp t) :: vs) | none => none)
  | .cell a ty :: r => (match σ.ev n (.tmp a) with
    | .ptr i o => (match findR (HA.blkR i) (σ.H ++ σ.Hf) with
      | some q => (match ldv P ty q.cs o, resS P n σ r with | some v, some vs => some (v :: vs) | _, _ => none)
      | none => none)
    | _ => none)
def resV : List SV → SV
  | [v] => v
  | vs => .tup vs
def finO (σ : Zt) (rs : List SV) (o : Sh) : Option (TL o.ts) := bif (match rs, o.sl with | [], [] => true | _ :: _, [p] => Nat.beq p.1 0 | _, _ => false) then (match o.get (fun _ => resV rs) σ.H with | some g => TL.of o.ts g.ds | none => none) else none
def finD {P : Program} (σ : Zt) (rs : List SV) : (os : List Sh) → Hn P → Option (OutT os)
  | [a], _ => finO σ rs a
  | [a, b], h => (match h with | .pl _ => (finO σ rs b).map Sum.inr | _ => (finO σ rs a).map Sum.inl)
  | _, _ => none
def finF {P : Program} (n : Nat) (fn : Func) (os : List Sh) (h : Hn P) (σ : Zt) : Option (OutT os) := prep h σ fun h σ => match resS P n σ fn.results.toList with | some rs => finD σ rs os h | none => none
def fin {P : Program} (n : Nat) (fn : Func) (os : List Sh) (e : Exit) (h : Hn P) (σ : Zt) : Option (OutT os) := match e with
  | .normal => finF n fn os h σ
  | .ret => finF n fn os h σ
  | _ => none
/-- What a function computes, out of its code. -/
noncomputable def runF {P : Program} (n : Nat) (fn : Func) (c : Code) (inn : Sh) (os : List Sh) (h : Hn P) (x : TL inn.ts) : Option (OutT os) := match inn.un (TL.list inn.ts x) 0 with
  | some (vs, u) => prep h ⟨fun _ => .any, vs, u.H, [], u.nx, false⟩ fun h σ => exec n c h σ (fin n fn os)
  | none => none
section
variable {P : Program} {E : En} {n : Nat} {m : List M} {K : Hp} {fr : Frz} {σ : Zt} {ρ : Sl0} {w : World}
theorem resS_ok (hr : Rel E fr σ m K ρ w) : ∀ {l : List ResultVar} {rs : List SV}, resS P n σ l = some rs → ∃ us : List Value, SV.relL m K rs us ∧ l.length = us.length ∧ ∀ (j : Nat) (r : ResultVar) (v : Value), l[j]? = some r → us[j]? = some v → RvOk P n (Hold E K (σ.atoms fr m)) ρ r v
  | [], rs, h => by cases h; exact ⟨[], rfl, rfl, fun j r v h => by simp at h⟩
  | .tmp t :: l, rs, h => by
    unfold resS at h
    split at h
    · rename_i vs hvs
      cases h
      obtain ⟨us, h1, h2, h3⟩ := resS_ok hr hvs
      refine ⟨ev n ρ (.tmp t) :: us, ⟨_, us, rfl, hr.toPur.ev n (.tmp t), h1⟩, by simp [h2], fun j r v hj hv => ?_⟩
      cases j with
      | zero => simp at hj hv; subst hj hv; rfl
      | succ j => exact h3 j r v (by simpa using hj) (by simpa using hv)
    · cases h
  | .cell a ty :: l, rs, h => by
    unfold resS at h
    split at h
    · rename_i i o e
      split at h
      · rename_i q hq
        split at h
        · rename_i v vs hv hvs
          cases h
          obtain ⟨us, h1, h2, h3⟩ := resS_ok hr hvs
          obtain ⟨x, hx, hmem⟩ := findR_spec hq
          obtain rfl := blkR_eq hx
          obtain ⟨b, ws, g1, g2, g3⟩ := hr.cls.blk hmem
          obtain ⟨u, g4, g5⟩ := ldv_ok (P := P) (o0 := 0) hv g2 (fun j u hu => by rw [Nat.zero_add]; exact g3 j u hu)
          rw [Nat.zero_add] at g4
          have hev := hr.toPur.ev n (.tmp a)
          rw [e] at hev
          obtain ⟨b', q1, q2⟩ := hev
          rw [g1] at q1; cases q1
          refine ⟨u :: us, ⟨_, us, rfl, g5, h1⟩, by simp [h2], fun j r v hj hv => ?_⟩
          cases j with
          | zero => simp at hj hv; subst hj hv; exact ⟨b, o, q2, g4⟩
          | succ j => exact h3 j r v (by simpa using hj) (by simpa using hv)
        · cases h
      · cases h
    · cases h
theorem mapM_run {C : World → Prop} {w : World} (hw : C w) : ∀ {l : List ResultVar} {us : List Value}, l.length = us.length → (∀ (j : Nat) (r : ResultVar) (v : Value), l[j]? = some r → us[j]? = some v → RvOk P n C ρ r v) → (l.mapM (rvS (frm n ρ))).run P w = .ok us w
  | [], us, h, _ => by
    obtain rfl : us = [] := List.length_eq_zero_iff.1 h.symm
    simp
  | r :: l, us, h, hr => by
    cases us with
    | nil => cases h
    | cons u us =>
      have h1 := rv_run (hr 0 r u rfl rfl) hw
      have h2 := mapM_run hw (l := l) (us := us) (by simpa using h) (fun j r v hj hv => hr (j + 1) r v (by simpa using hj) (by simpa using hv))
      simp [List.mapM_cons, h1, h2]
/-- What a function hands back. -/
def tupV : List Value → Value
  | [v] => v
  | vs => .tuple vs.toArray
theorem res_run {C : World → Prop} {w : World} (hw : C w) {fn : Func} {us : List Value} (hl : fn.results.toList.length = us.length) (h : ∀ (j : Nat) (r : ResultVar) (v : Value), fn.results.toList[j]? = some r → us[j]? = some v → RvOk P n C ρ r v) : (results fn (frm n ρ)).run P w = .ok (tupV us) w := by
  have h1 := mapM_run hw hl h
  rw [results_rvS]
  simp only [Array.mapM_eq_mapM_toList]
  simp only [Sem.run_bind, Sem.run_map, h1, Result.andThen_ok, Sem.run_pure]
  match us with
  | [] => rfl
  | [u] => rfl
  | u :: v :: r =>
    rw [dif_neg (by simp)]
    rfl
theorem resV_rel {rs : List SV} {us : List Value} (h : SV.relL m K rs us) (hne : rs ≠ []) : SV.rel m K (resV rs) (tupV us) := by
  match rs, us, h with
  | [], _, _ => exact absurd rfl hne
  | [v], us, h =>
    obtain ⟨u, q, rfl, h1, h2⟩ := relL_cons h
    obtain rfl := relL_nil h2
    exact h1
  | v :: v2 :: r, us, h =>
    obtain ⟨u, q, rfl, h1, h2⟩ := relL_cons h
    obtain ⟨u2, q2, rfl, h3, h4⟩ := relL_cons h2
    exact ⟨_, rfl, u, _, rfl, h1, u2, q2, rfl, h3, h4⟩
theorem finO_ok {rs : List SV} {us : List Value} {o : Sh} {x : TL o.ts} {K0 : Hp} {m0 : List M} (h : finO σ rs o = some x) (hr : Rel E fr σ m K ρ w) (hrel : SV.relL m K rs us) (hm : m0 <+: m) (ho : oldOk o.bl m0.length = true) (hF : σ.Hf = []) :
    ∃ vs' u' m', o.un (TL.list o.ts x) m0.length = some (vs', u') ∧ m0 <+: m' ∧ m'.length = u'.nx ∧ (∀ a ∈ u'.H, HA.ok m' K a) ∧ resR m' K vs' (tupV us) ∧ Sep E K (u'.H.map (HA.conc m') ++ fr.F) w := by
  unfold finO at h
  replace h := bift h; obtain ⟨hs, h⟩ := h
  split at h
  · rename_i g hg
    obtain ⟨vs, u, ms, e1, e2, e3, e4, e5, e6, e7, e8⟩ := Sh.get_un hg hr.okH hm ho
    rw [TL.of_list h]
    refine ⟨vs, u, m0 ++ ms, e1, pre_app _ _, e2, e4, ?_, ?_⟩
    · split at hs
      · rename_i hsl
        rw [hsl] at e3
        obtain rfl : vs = [] := e3
        obtain rfl := relL_nil hrel
        rfl
      · rename_i v r p hsl
        rw [hsl] at e3
        obtain ⟨sv, q, rfl, g1, g2⟩ := e3
        obtain rfl : q = [] := g2
        exact g1 _ (resV_rel hrel (by simp))
      · cases hs
    · have := e6 E _ w hr.toSep
      have h2 : σ.fz fr = fr.F := by unfold Zt.fz; rw [hF]; rfl
      rw [h2] at this
      have h3 : Sep E K (g.H.map (HA.conc m) ++ (u.H.map (HA.conc (m0 ++ ms)) ++ fr.F)) w := Sep.perm (perm3 _ _ _) this
      exact Sep.drops h3
  · cases h
theorem finD_ok {rs : List SV} {us : List Value} {m0 : List M} (hr : Rel E fr σ m K ρ w) (hrel : SV.relL m K rs us) (hm : m0 <+: m) (hF : σ.Hf = []) : ∀ {os : List Sh} {h0 : Hn P} {r : OutT os}, (∀ o ∈ os, oldOk o.bl m0.length = true) → finD σ rs os h0 = some r →
    ∃ vs' u' m', (outSh os r).1.un (outSh os r).2 m0.length = some (vs', u') ∧ m0 <+: m' ∧ m'.length = u'.nx ∧ (∀ a ∈ u'.H, HA.ok m' K a) ∧ resR m' K vs' (tupV us) ∧ Sep E K (u'.H.map (HA.conc m') ++ fr.F) w
  | [], h0, r, _, h => Empty.elim r
  | [a], h0, r, ho, h => finO_ok (K0 := K) (show finO σ rs a = some r from h) hr hrel hm (ho a (by simp)) hF
  | [a, b], h0, r, ho, h => by
    have key : (finO σ rs b).map Sum.inr = some r ∨ (finO σ rs a).map Sum.inl = some r := by
      cases h0 <;> first | exact .inl h | exact .inr h
    clear h
    rcases key with h | h
    · rw [Option.map_eq_some_iff] at h
      obtain ⟨x, h, rfl⟩ := h
      exact finO_ok (K0 := K) h hr hrel hm (ho b (by simp)) hF
    · rw [Option.map_eq_some_iff] at h
      obtain ⟨x, h, rfl⟩ := h
      exact finO_ok (K0 := K) h hr hrel hm (ho a (by simp)) hF
  | a :: b :: c :: os, h0, r, _, h => by cases h
/-- Slots and arguments, one by one. -/
theorem args_look : ∀ {sl : List (Nat × Kd)} {vs : List (Nat × SV)} {us : List Value} {j N : Nat}, slN j sl N = true → vs.map (·.1) = sl.map (·.1) → slR m K vs us → ∀ i sv, look vs i = some sv → ∃ k u, i = j + k ∧ us[k]? = some u ∧ SV.rel m K sv u
  | [], vs, us, j, N, h1, h2, h3, i, sv, hl => by
    have : vs = [] := by cases vs with | nil => rfl | cons a b => cases h2
    subst this; cases hl
  | p :: sl, vs, us, j, N, h1, h2, h3, i, sv, hl => by
    cases vs with
    | nil => cases h2
    | cons q vs =>
      simp only [List.map_cons, List.cons.injEq] at h2
      simp only [slN, Bool.and_eq_true] at h1
      have hj := Nat.eq_of_beq_eq_true h1.1
      obtain ⟨u, r, rfl, g1, g2⟩ := h3
      change (bif Nat.beq q.1 i then some q.2 else look vs i) = some sv at hl
      cases hb : Nat.beq q.1 i with
      | true =>
        rw [hb] at hl; cases hl
        have := Nat.eq_of_beq_eq_true hb
        exact ⟨0, u, by rw [← this, h2.1, hj]; rfl, rfl, g1⟩
      | false =>
        rw [hb] at hl
        obtain ⟨k, u', e1, e2, e3⟩ := args_look h1.2 h2.2 g2 i sv hl
        exact ⟨k + 1, u', by omega, by simpa using e2, e3⟩
theorem unS_keys {bi : List Nat} : ∀ {sl : List (Nat × Kd)} {u u' : Un} {vs : List (Nat × SV)}, unS bi sl u = some (vs, u') → vs.map (·.1) = sl.map (·.1)
  | [], u, u', vs, h => by cases h; rfl
  | p :: sl, u, u', vs, h => by
    unfold unS at h
    split at h
    · split at h
      · rename_i h2
        cases h
        simp [unS_keys h2]
      · cases h
    · cases h
theorem un_keys {s : Sh} {ds : List Dat} {nx : Nat} {vs : List (Nat × SV)} {u : Un} (h : s.un ds nx = some (vs, u)) : vs.map (·.1) = s.sl.map (·.1) := by
  unfold Sh.un at h
  replace h := (bift h).2
  split at h
  split at h
  · rename_i h1
    split at h
    · cases h; exact unS_keys h1
    · cases h
  · cases h
theorem slR_len : ∀ {vs : List (Nat × SV)} {us : List Value}, slR m K vs us → us.length = vs.length
  | [], us, h => by obtain rfl : us = [] := h; rfl
  | p :: vs, us, ⟨u, r, e, _, h⟩ => by subst e; simp [slR_len h]
end
section
variable {P : Program} {n : Nat}
/-- A function answers what is computed of its code. -/
theorem fn_ok {s : Spec} {fn : Func} {c : Code} (hf : P.funcs[s.f]? = some fn) (hb : fn.body = some c) (hn : fn.ntmps = n) (h : Hn P) (hc : (slN 0 s.inn.sl s.inn.sl.length && Nat.ble s.inn.sl.length n) = true) (hold : ∀ ds vs u, s.inn.un ds 0 = some (vs, u) → ∀ o ∈ s.outs, oldOk o.bl u.nx = true)
    (hex : ∀ (x : TL s.inn.ts) r, s.fn x = some r → runF n fn c s.inn s.outs h x = some r) : SpecOk P s := by
  intro x r hx vs u hu m K args hm hok hsl E w F hs
  rw [Bool.and_eq_true] at hc
  obtain ⟨hc1, hc2⟩ := hc
  have hkeys := un_keys hu
  have hlen : args.toArray.size ≤ n := by
    have h1 := slR_len hsl
    have h2 : vs.length = s.inn.sl.length := by have := congrArg List.length hkeys; simpa using this
    simp only [List.size_toArray]
    have := Nat.le_of_ble_eq_true hc2
    omega
  refine calls_of_wp hf hb ?_
  rw [hn, frm_args hlen]
  have hrun := hex x r hx
  unfold runF at hrun
  rw [hu] at hrun
  simp only at hrun
  have hrel : Rel E.out0 ⟨m, K, args0 args.toArray, fun _ => false, F⟩ ⟨fun _ => .any, vs, u.H, [], u.nx, false⟩ m K (args0 args.toArray) w := by
    refine ⟨⟨List.prefix_refl m, Hp.le_refl K, hm, fun e => (by cases e), fun i => trivial, fun i e => rfl, fun i _ => .inr rfl, fun i sv hi => ?_, hok, fun a ha => by simp at ha⟩, ?_⟩
    · obtain ⟨k, v, e1, e2, e3⟩ := args_look hc1 hkeys hsl i sv hi
      have : args0 args.toArray i = v := by
        unfold args0
        rw [e1, Nat.zero_add]
        simp [e2]
      rw [this]; exact e3
    · exact hs.out0
  obtain ⟨hp, σp, mp, Kp, p1, p2, p3⟩ := prep_ok h hrun hrel
  refine wp_mono (wpIn_wide.1 (exec_ok c (OutT s.outs) E.out0 _ hp σp (fin n fn s.outs) r mp Kp _ w
    (fun e a w' => a.defers = [] ∧ (e = .normal ∨ e = .ret) ∧ ∃ v, (results fn a.tmps).run P w' = .ok v w' ∧ ∃ vs' u' m' K', (outSh s.outs r).1.un (outSh s.outs r).2 u.nx = some (vs', u') ∧ m <+: m' ∧ m'.length = u'.nx ∧ (∀ a ∈ u'.H, HA.ok m' K' a) ∧ resR m' K' vs' v ∧ K.le K' ∧ Sep E.out0 K' (u'.H.map (HA.conc m') ++ F) w')
    p1 p3 (fun e h' σ' m' K' ρ' w' h1 h2 h3 => ?_))) ?_
  · have fini : finF n fn s.outs h' σ' = some r → (act n ρ').defers = [] ∧ ∃ v, (results fn (act n ρ').tmps).run P w' = .ok v w' ∧ ∃ vs' u' m' K', (outSh s.outs r).1.un (outSh s.outs r).2 u.nx = some (vs', u') ∧ m <+: m' ∧ m'.length = u'.nx ∧ (∀ a ∈ u'.H, HA.ok m' K' a) ∧ resR m' K' vs' v ∧ K.le K' ∧ Sep E.out0 K' (u'.H.map (HA.conc m') ++ F) w' := fun h3 => by
      refine ⟨rfl, ?_⟩
      unfold finF at h3
      obtain ⟨h'', σ2, m2, K2, g1, g2, g3⟩ := prep_ok h' h3 h1
      split at g1
      · rename_i rs hrs
        obtain ⟨us, q1, q2, q3⟩ := resS_ok g3 hrs
        refine ⟨tupV us, res_run g3.hold q2 q3, ?_⟩
        obtain ⟨vs', u', m'', z1, z2, z3, z4, z5, z6⟩ := finD_ok (m0 := m) g3 q1 g3.hm (((p2.trans h2).trans g2).2) (fun o ho => by rw [hm]; exact hold _ _ _ hu o ho) g1
        rw [hm] at z1
        exact ⟨vs', u', m'', K2, z1, z2, z3, z4, z5, g3.hK, z6⟩
      · cases g1
    cases e with
    | normal => obtain ⟨a1, a2⟩ := fini h3; exact ⟨a1, .inl rfl, a2⟩
    | ret => obtain ⟨a1, a2⟩ := fini h3; exact ⟨a1, .inr rfl, a2⟩
    | _ => cases h3
  · rintro e a w' ⟨hd, he, v, hv, vs', u', m', K', z1, z2, z3, z4, z5, z6, z7⟩
    rcases he with rfl | rfl
    · exact ⟨hd, v, hv, v, K', _, rfl, ⟨vs', u', m', z1, z2, z3, z4, z5, rfl⟩, z6, z7.back⟩
    · exact ⟨hd, v, hv, v, K', _, rfl, ⟨vs', u', m', z1, z2, z3, z4, z5, rfl⟩, z6, z7.back⟩
end
end Go.Proofs.Ythoclljhjcfemaa
namespace Go.Proofs.Ythoclljhjcfemaa
open Go.RowKit
set_option linter.unusedVariables false
set_option linter.unusedSimpArgs false
set_option linter.unnecessarySimpa false
set_option linter.unusedSectionVars false
variable [BldA]
mutual
theorem un_nx {bi : List Nat} : ∀ (k : Kd) {u u' : Un} {v : SV}, Kd.un bi k u = some (v, u') → u.nx ≤ u'.nx
  | .any, u, u', v, h => by cases h; exact Nat.le_refl _
  | .dat t, u, u', v, h => by unfold Kd.un at h; split at h <;> cases h; exact Nat.le_refl _
  | .nilp, u, u', v, h => by cases h; exact Nat.le_refl _
  | .nils, u, u', v, h => by cases h; exact Nat.le_refl _
  | .nilf, u, u', v, h => by cases h; exact Nat.le_refl _
  | .ptr j o, u, u', v, h => by unfold Kd.un at h; split at h <;> cases h; exact Nat.le_refl _
  | .own e t, u, u', v, h => by unfold Kd.un at h; split at h <;> cases h; exact Nat.le_add_right _ _
  | .al j, u, u', v, h => by unfold Kd.un at h; split at h <;> cases h; exact Nat.le_refl _
  | .fsl j m, u, u', v, h => by unfold Kd.un at h; split at h <;> cases h; exact Nat.le_refl _
  | .agg ks, u, u', v, h => by
    unfold Kd.un at h; split at h
    · cases h; exact unL_nx ks (by assumption)
    · cases h
  | .tup ks, u, u', v, h => by
    unfold Kd.un at h; split at h
    · cases h; exact unL_nx ks (by assumption)
    · cases h
  | .fn f ks, u, u', v, h => by
    unfold Kd.un at h; split at h
    · cases h; exact unL_nx ks (by assumption)
    · cases h
  | .lit w, u, u', v, h => by cases h; exact Nat.le_refl _
  | .od o, u, u', v, h => by
    unfold Kd.un at h
    replace h := (bift h).2
    split at h
    · split at h
      · cases h; exact Nat.le_add_right _ _
      · cases h
    · cases h
  | .rp j, u, u', v, h => by unfold Kd.un at h; split at h <;> cases h; exact Nat.le_refl _
  | .is j k, u, u', v, h => by
    unfold Kd.un at h; split at h
    · split at h
      · cases h; exact un_nx k (by assumption)
      · cases h
    · cases h
theorem unL_nx {bi : List Nat} : ∀ (ks : List Kd) {u u' : Un} {vs : List SV}, Kd.unL bi ks u = some (vs, u') → u.nx ≤ u'.nx
  | [], u, u', vs, h => by cases h; exact Nat.le_refl _
  | k :: ks, u, u', vs, h => by
    unfold Kd.unL at h; split at h
    · rename_i h1
      split at h
      · rename_i h2; cases h; exact Nat.le_trans (un_nx k h1) (unL_nx ks h2)
      · cases h
    · cases h
end
theorem unS_nx {bi : List Nat} : ∀ (sl : List (Nat × Kd)) {u u' : Un} {vs : List (Nat × SV)}, unS bi sl u = some (vs, u') → u.nx ≤ u'.nx
  | [], u, u', vs, h => by cases h; exact Nat.le_refl _
  | p :: sl, u, u', vs, h => by
    unfold unS at h; split at h
    · rename_i h1
      split at h
      · rename_i h2; cases h; exact Nat.le_trans (un_nx p.2 h1) (unS_nx sl h2)
      · cases h
    · cases h
theorem unB_nx {bi : List Nat} : ∀ (bl : List Bk) (is : List Nat) {u u' : Un}, unB bi bl is u = some u' → u.nx ≤ u'.nx
  | [], [], u, u', h => by cases h; exact Nat.le_refl _
  | [], i :: is, u, u', h => by cases h
  | b :: bl, [], u, u', h => by cases h
  | b :: bl, i :: is, u, u', h => by
    unfold unB at h; split at h
    · rename_i u1 h1
      refine Nat.le_trans ?_ (unB_nx bl is h)
      unfold unB1 at h1
      cases hn : b.nu with
      | true => rw [hn] at h1; cases h1; exact Nat.le_refl _
      | false =>
        rw [hn] at h1; simp only [cond_false] at h1
        cases hr : b.rw with
        | some o =>
          rw [hr] at h1
          dsimp only at h1
          split at h1
          · split at h1
            · cases h1; exact Nat.le_succ _
            · cases h1
          · cases h1
        | none =>
        rw [hr] at h1
        dsimp only at h1
        cases hb : b.bu with
        | true =>
          rw [hb] at h1; simp only [cond_true] at h1
          split at h1 <;> cases h1
          exact Nat.le_refl _
        | false =>
          rw [hb] at h1; simp only [cond_false] at h1
          split at h1
          · rename_i h2
            cases h1
            exact Nat.le_trans (unL_nx b.ks h2) (Nat.le_succ _)
          · cases h1
    · cases h
theorem idsB_nx : ∀ (bl : List Bk) (nx : Nat), allOld bl = true → (idsB bl nx).2 = nx + bl.length
  | [], nx, _ => rfl
  | b :: bl, nx, h => by
    simp only [allOld, Bool.and_eq_true] at h
    cases hb : b.old with
    | some i => rw [hb] at h; cases h.1
    | none =>
      simp only [idsB, hb, List.length_cons]
      rw [idsB_nx bl (nx + 1) h.2]
      omega
theorem sh_nx {s : Sh} {ds : List Dat} {vs : List (Nat × SV)} {u : Un} (h : s.un ds 0 = some (vs, u)) (ho : allOld s.bl = true) : s.bl.length ≤ u.nx := by
  unfold Sh.un at h
  replace h := (bift h).2
  have hn := idsB_nx s.bl 0 ho
  split at h
  rename_i bi nx he
  rw [he] at hn
  simp only [Nat.zero_add] at hn
  split at h
  · rename_i h1
    split at h
    · rename_i h2
      cases h
      have := unS_nx s.sl h1
      have := unB_nx s.bl bi h2
      simp only at *
      omega
    · cases h
  · cases h
theorem oldOk_le : ∀ (bl : List Bk) {a b : Nat}, oldOk bl a = true → a ≤ b → oldOk bl b = true
  | [], a, b, h, hab => rfl
  | x :: bl, a, b, h, hab => by
    simp only [oldOk, Bool.and_eq_true] at h ⊢
    refine ⟨?_, oldOk_le bl h.2 hab⟩
    cases ho : x.old with
    | none => rfl
    | some i =>
      have h1 := h.1
      rw [ho] at h1
      simp only [Nat.blt_eq] at h1 ⊢
      omega
def bodyOf (fn : Func) : Code := match fn.body with | some c => c | none => .skip
/-- What is asked of a specification beforehand. -/
def specOk (s : Spec) (fn : Func) : Bool := fn.body.isSome && (slN 0 s.inn.sl s.inn.sl.length && Nat.ble s.inn.sl.length fn.ntmps) && (allOld s.inn.bl && s.outs.all fun o => oldOk o.bl s.inn.bl.length)
/-- A function answers what is computed of its code. -/
theorem fn_is {P : Program} {s : Spec} {fn : Func} (hf : P.funcs[s.f]? = some fn) (h : Hn P) (hc : specOk s fn = true) (hex : (fun x => runF fn.ntmps fn (bodyOf fn) s.inn s.outs h x) = s.fn) : SpecOk P s := by
  unfold specOk at hc
  simp only [Bool.and_eq_true] at hc
  obtain ⟨⟨h1, h2, h2'⟩, h3, h4⟩ := hc
  have hb : fn.body = some (bodyOf fn) := by
    unfold bodyOf
    cases hbd : fn.body with
    | none => rw [hbd] at h1; cases h1
    | some c => rfl
  refine fn_ok hf hb rfl h (by rw [h2, h2']; rfl) (fun ds vs u hu o ho => oldOk_le o.bl (List.all_eq_true.1 h4 o ho) (sh_nx hu h3)) (fun x r hx => ?_)
  rw [← hx]
  exact congrFun hex x
end Go.Proofs.Ythoclljhjcfemaa
namespace Go.Proofs.Ythoclljhjcfemaa
open Go.RowKit
set_option linter.unusedVariables false
set_option linter.unusedSimpArgs false
set_option linter.unnecessarySimpa false
set_option linter.unusedSectionVars false
/-- What answers true for all that is known of its arguments does so for the caller. -/
theorem walkX [BldA] {P : Program} {s : Spec} {W : World} (hs : SpecOk P s) {x : TL s.inn.ts} {r : OutT s.outs} (hr : s.fn x = some r) {vs : List (Nat × SV)} (hun : s.inn.un (TL.list _ x) 0 = some (vs, ⟨[], 0, [], []⟩))
    (hout : (outSh s.outs r).1.un (outSh s.outs r).2 0 = some ([(0, .bool true)], ⟨[], 0, [], []⟩)) {args : List Value} (hsl : slR [] (Hp.of W) vs args) :
    Calls P s.f args.toArray W fun e W' => e = .returned (.bool true) ∧ Below W.heap.size W W' := by
  have h := hs x r hr vs _ hun [] (Hp.of W) args rfl (fun a ha => by cases ha) hsl (En.of W) W [] (Sep.start W)
  refine h.mono fun e W' h => ?_
  obtain ⟨v, K', L', rfl, ⟨vs', u', m', h1, _, _, _, h2, _⟩, h3, h4⟩ := h
  have h1 := h1.symm.trans hout
  cases h1
  obtain rfl : v = .bool true := h2
  exact ⟨rfl, h4.below h3⟩
end Go.Proofs.Ythoclljhjcfemaa
namespace Go.Proofs
open Go.Shelf
def Try.lays169_ren : Go.Shelf.Ren := ⟨fun | 169 => 75 | n => n, fun | 70 => 121 | 9 => 9 | 0 => 0 | 72 => 123 | 37 => 93 | 127 => 146 | 3 => 3 | 5 => 5 | n => n, fun | n => n⟩
theorem Try.lays169 : Go.Proofs.Lays.n169 Try.prog Try.lays169_ren := {
  mixed := by kernel_rfl
  f169 := Try.func75.trans (congrArg some (by kernel_rfl))
  t0 := Try.underlying0
  a0 := Try.isAgg0
  z0 := Try.sizeOf0
  v0 := Try.zeroValue0
  t3 := Try.underlying3
  a3 := Try.isAgg3
  z3 := Try.sizeOf3
  v3 := Try.zeroValue3
  t9 := Try.underlying9
  a9 := Try.isAgg9
  z9 := Try.sizeOf9
  v9 := Try.zeroValue9
  t37 := Try.underlying93
  a37 := Try.isAgg93
  z37 := Try.sizeOf93
  v37 := Try.zeroValue93
  t70 := Try.underlying121
  a70 := Try.isAgg121
  z70 := Try.sizeOf121
  v70 := Try.zeroValue121
  t72 := Try.underlying123
  a72 := Try.isAgg123
  z72 := Try.sizeOf123
  v72 := Try.zeroValue123
  t127 := Try.underlying146
  a127 := Try.isAgg146
  z127 := Try.sizeOf146
  v127 := Try.zeroValue146 }
theorem Try.Builder_Extra_169 : Builder.Extra Try.prog Try.lays169_ren := {
  sizeBuilder := by kernel_rfl
  liesBuilder := by kernel_rfl
  t5 := Try.underlying5
  a5 := Try.isAgg5
  z5 := Try.sizeOf5
  v5 := Try.zeroValue5
  infoByte := by kernel_rfl
  cellsByte := by kernel_rfl
  sizeByte := by kernel_rfl
  neB5 := by decide }
open Go.RowKit in
/-- (*strings.Builder).String: "String returns the accumulated string.": OF A BUILDER THAT HOLDS AT LEAST ONE BYTE. ✋ THE MODEL FREEZES THOSE BYTES IN THE BUFFER (unsafe.String): a later write INTO them ends the model's run without an answer; a later append BEHIND them goes on. The statement's order of evaluation is drawn: one draw. (LAID: no walk: one application.) -/
theorem Try.Builder_String (B b : Nat) (l : List UInt8) (w : World) (h : Lib.IsBuilder 123 5 B b (Lib.byteCells l) w) (h0 : l ≠ []) :
    Calls Try.prog 75 #[.pointer (some ⟨b, 0, none⟩)] w fun e w' => e = .returned (.string ⟨l.toArray⟩) ∧ Below B w w' := Any.Builder_String Try.lays169 Try.Builder_Extra_169 B b l w h h0
open Go.RowKit in
/-- (*strings.Builder).String OF A BUILDER THAT HOLDS NO BYTE: the empty string. (Its buffer is nil, or a row of which it has taken nothing yet; where that row has NO capacity the model lays one new block for unsafe.SliceData's 'some address'.) One draw. (LAID: no walk: one application.) -/
theorem Try.Builder_String_empty (B b : Nat) (w : World) (h : Lib.IsBuilder 123 5 B b [] w) (hBw : B ≤ w.heap.size) :
    Calls Try.prog 75 #[.pointer (some ⟨b, 0, none⟩)] w fun e w' => e = .returned (.string ⟨#[]⟩) ∧ Below B w w' := Any.Builder_String_empty Try.lays169 Try.Builder_Extra_169 B b w h hBw
open Go.RowKit in
/-- (*strings.Builder).String: "String returns the accumulated string.": WHATEVER THE BUILDER HOLDS. (LAID: no walk: one application.) -/
theorem Try.Builder_String_any (B b : Nat) (l : List UInt8) (w : World) (h : Lib.IsBuilder 123 5 B b (Lib.byteCells l) w) (hBw : B ≤ w.heap.size) :
    Calls Try.prog 75 #[.pointer (some ⟨b, 0, none⟩)] w fun e w' => e = .returned (.string ⟨l.toArray⟩) ∧ Below B w w' := Any.Builder_String_any Try.lays169 Try.Builder_Extra_169 B b l w h hBw
def Try.lays241_ren : Go.Shelf.Ren := ⟨fun | 241 => 90 | 277 => 98 | n => n, fun | 70 => 121 | 3 => 3 | 0 => 0 | 72 => 123 | 37 => 93 | 5 => 5 | n => n, fun | n => n⟩
theorem Try.lays241 : Go.Proofs.Lays.n241 Try.prog Try.lays241_ren := {
  mixed := by kernel_rfl
  f241 := Try.func90.trans (congrArg some (by kernel_rfl))
  f277 := Try.func98.trans (congrArg some (by kernel_rfl))
  t0 := Try.underlying0
  a0 := Try.isAgg0
  z0 := Try.sizeOf0
  v0 := Try.zeroValue0
  t3 := Try.underlying3
  a3 := Try.isAgg3
  z3 := Try.sizeOf3
  v3 := Try.zeroValue3
  t37 := Try.underlying93
  a37 := Try.isAgg93
  z37 := Try.sizeOf93
  v37 := Try.zeroValue93
  t70 := Try.underlying121
  a70 := Try.isAgg121
  z70 := Try.sizeOf121
  v70 := Try.zeroValue121
  t72 := Try.underlying123
  a72 := Try.isAgg123
  z72 := Try.sizeOf123
  v72 := Try.zeroValue123 }
theorem Try.Builder_Extra_241 : Builder.Extra Try.prog Try.lays241_ren := {
  sizeBuilder := by kernel_rfl
  liesBuilder := by kernel_rfl
  t5 := Try.underlying5
  a5 := Try.isAgg5
  z5 := Try.sizeOf5
  v5 := Try.zeroValue5
  infoByte := by kernel_rfl
  cellsByte := by kernel_rfl
  sizeByte := by kernel_rfl
  neB5 := by decide }
open Go.RowKit in
/-- (*strings.Builder).grow (no doc but "grow copies the buffer to a new, larger buffer so that there are at least n bytes of capacity beyond len(b.buf)."): AT A BUILDER WITHOUT A BUFFER: a new row of whatever bytes for its buffer, none of them its own yet. Three draws. (LAID: no walk: one application.) -/
theorem Try.Builder_grow_fresh (B b n : Nat) (w : World) (hB : B ≤ b) (hbk : w.heap[b]? = some (.cells #[.pointer (some ⟨b, 0, none⟩), .slice none 0 0] 123 (0, 0))) (hBw : B ≤ w.heap.size) (hn : n ≤ 281474976710656) :
    Calls Try.prog 90 #[.pointer (some ⟨b, 0, none⟩), .int .i64 n] w fun e w' => e = .returned (.tuple #[]) ∧ (Lib.BuilderAt 123 5 B b (.pointer (some ⟨b, 0, none⟩)) [] w' ∧ Below B w w') := Any.Builder_grow_fresh Try.lays241 Try.Builder_Extra_241 B b n w hB hbk hBw hn
def Try.lays165_ren : Go.Shelf.Ren := ⟨fun | 165 => 73 | 240 => 89 | 241 => 90 | 276 => 97 | 277 => 98 | n => n, fun | 70 => 121 | 3 => 3 | 0 => 0 | 4 => 4 | 9 => 9 | 20 => 20 | 72 => 123 | 37 => 93 | 164 => 153 | 5 => 5 | n => n, fun | n => n⟩
theorem Try.lays165 : Go.Proofs.Lays.n165 Try.prog Try.lays165_ren := {
  mixed := by kernel_rfl
  f165 := Try.func73.trans (congrArg some (by kernel_rfl))
  f240 := Try.func89.trans (congrArg some (by kernel_rfl))
  f241 := Try.func90.trans (congrArg some (by kernel_rfl))
  f276 := Try.func97.trans (congrArg some (by kernel_rfl))
  f277 := Try.func98.trans (congrArg some (by kernel_rfl))
  t0 := Try.underlying0
  a0 := Try.isAgg0
  z0 := Try.sizeOf0
  v0 := Try.zeroValue0
  t3 := Try.underlying3
  a3 := Try.isAgg3
  z3 := Try.sizeOf3
  v3 := Try.zeroValue3
  t4 := Try.underlying4
  a4 := Try.isAgg4
  z4 := Try.sizeOf4
  v4 := Try.zeroValue4
  t9 := Try.underlying9
  a9 := Try.isAgg9
  z9 := Try.sizeOf9
  v9 := Try.zeroValue9
  t20 := Try.underlying20
  a20 := Try.isAgg20
  z20 := Try.sizeOf20
  v20 := Try.zeroValue20
  t37 := Try.underlying93
  a37 := Try.isAgg93
  z37 := Try.sizeOf93
  v37 := Try.zeroValue93
  t70 := Try.underlying121
  a70 := Try.isAgg121
  z70 := Try.sizeOf121
  v70 := Try.zeroValue121
  t72 := Try.underlying123
  a72 := Try.isAgg123
  z72 := Try.sizeOf123
  v72 := Try.zeroValue123
  t164 := Try.underlying153
  a164 := Try.isAgg153
  z164 := Try.sizeOf153
  v164 := Try.zeroValue153 }
theorem Try.Builder_Extra_165 : Builder.Extra Try.prog Try.lays165_ren := {
  sizeBuilder := by kernel_rfl
  liesBuilder := by kernel_rfl
  t5 := Try.underlying5
  a5 := Try.isAgg5
  z5 := Try.sizeOf5
  v5 := Try.zeroValue5
  infoByte := by kernel_rfl
  cellsByte := by kernel_rfl
  sizeByte := by kernel_rfl
  neB5 := by decide }
open Go.RowKit in
/-- (*strings.Builder).Grow AT A BUILDER THAT HAS NOT BEEN WRITTEN ('var b strings.Builder; b.Grow(n)'): "Grow grows b's capacity, if necessary, to guarantee space for another n bytes.": it holds no byte behind it as before it. (LAID: no walk: one application.) -/
theorem Try.Builder_Grow_fresh (B b n : Nat) (w : World) (hB : B ≤ b) (hbk : w.heap[b]? = some (.cells #[.pointer none, .slice none 0 0] 123 (0, 0))) (hBw : B ≤ w.heap.size) (hn : n ≤ 281474976710656) :
    Calls Try.prog 73 #[.pointer (some ⟨b, 0, none⟩), .int .i64 n] w fun e w' => e = .returned (.tuple #[]) ∧ (Lib.BuilderAt 123 5 B b (.pointer (some ⟨b, 0, none⟩)) [] w' ∧ Below B w w') := Any.Builder_Grow_fresh Try.lays165 Try.Builder_Extra_165 B b n w hB hbk hBw hn
def Try.lays156_ren : Go.Shelf.Ren := ⟨fun | 156 => 62 | 165 => 73 | 166 => 74 | 169 => 75 | 240 => 89 | 241 => 90 | 276 => 97 | 277 => 98 | n => n, fun | 31 => 50 | 9 => 9 | 3 => 3 | 4 => 4 | 0 => 0 | 20 => 20 | 72 => 123 | 76 => 127 | 70 => 121 | 37 => 93 | 75 => 126 | 127 => 146 | 164 => 153 | 5 => 5 | 80 => 129 | n => n, fun | n => n⟩
theorem Try.lays156 : Go.Proofs.Lays.n156 Try.prog Try.lays156_ren := {
  mixed := by kernel_rfl
  f156 := Try.func62.trans (congrArg some (by kernel_rfl))
  f165 := Try.func73.trans (congrArg some (by kernel_rfl))
  f166 := Try.func74.trans (congrArg some (by kernel_rfl))
  f169 := Try.func75.trans (congrArg some (by kernel_rfl))
  f240 := Try.func89.trans (congrArg some (by kernel_rfl))
  f241 := Try.func90.trans (congrArg some (by kernel_rfl))
  f276 := Try.func97.trans (congrArg some (by kernel_rfl))
  f277 := Try.func98.trans (congrArg some (by kernel_rfl))
  t0 := Try.underlying0
  a0 := Try.isAgg0
  z0 := Try.sizeOf0
  v0 := Try.zeroValue0
  t3 := Try.underlying3
  a3 := Try.isAgg3
  z3 := Try.sizeOf3
  v3 := Try.zeroValue3
  t4 := Try.underlying4
  a4 := Try.isAgg4
  z4 := Try.sizeOf4
  v4 := Try.zeroValue4
  t9 := Try.underlying9
  a9 := Try.isAgg9
  z9 := Try.sizeOf9
  v9 := Try.zeroValue9
  t20 := Try.underlying20
  a20 := Try.isAgg20
  z20 := Try.sizeOf20
  v20 := Try.zeroValue20
  t31 := Try.underlying50
  a31 := Try.isAgg50
  z31 := Try.sizeOf50
  v31 := Try.zeroValue50
  t37 := Try.underlying93
  a37 := Try.isAgg93
  z37 := Try.sizeOf93
  v37 := Try.zeroValue93
  t70 := Try.underlying121
  a70 := Try.isAgg121
  z70 := Try.sizeOf121
  v70 := Try.zeroValue121
  t72 := Try.underlying123
  a72 := Try.isAgg123
  z72 := Try.sizeOf123
  v72 := Try.zeroValue123
  t75 := Try.underlying126
  a75 := Try.isAgg126
  z75 := Try.sizeOf126
  v75 := Try.zeroValue126
  t76 := Try.underlying127
  a76 := Try.isAgg127
  z76 := Try.sizeOf127
  v76 := Try.zeroValue127
  t127 := Try.underlying146
  a127 := Try.isAgg146
  z127 := Try.sizeOf146
  v127 := Try.zeroValue146
  t164 := Try.underlying153
  a164 := Try.isAgg153
  z164 := Try.sizeOf153
  v164 := Try.zeroValue153 }
theorem Try.Builder_Extra_156 : Builder.Extra Try.prog Try.lays156_ren := {
  sizeBuilder := by kernel_rfl
  liesBuilder := by kernel_rfl
  t5 := Try.underlying5
  a5 := Try.isAgg5
  z5 := Try.sizeOf5
  v5 := Try.zeroValue5
  infoByte := by kernel_rfl
  cellsByte := by kernel_rfl
  sizeByte := by kernel_rfl
  neB5 := by decide }
open Go.RowKit in
/-- No element: the empty string; the world is as it was. (Whatever the slice's address and capacity: a nil slice too.) (LAID: no walk: one application.) -/
theorem Try.strings_Join_none (a : Option Addr) (c : Nat) (sep : ByteArray) (w : World) :
    Calls Try.prog 62 #[.slice a 0 c, .string sep] w fun e w' => e = .returned (.string ⟨#[]⟩) ∧ w' = w := Any.strings_Join_none Try.lays156 Try.Builder_Extra_156 a c sep w
open Go.RowKit in
/-- strings.Join: "Join concatenates the elements of its first argument to create a single string. The separator string sep is placed between elements in the resulting string.": HOWEVER MANY ELEMENTS. Below the heap's end the world is as it was. (LAID: no walk: one application.) -/
theorem Try.strings_Join (bk o c : Nat) (xs : List ByteArray) (sep : ByteArray) (w : World) (hcells : ∀ (j : Nat) x, xs[j]? = some x → w.cell? ⟨bk, o + j, none⟩ = some (.string x)) (hbk : bk < w.heap.size) (hN : xs.length ≤ 140737488355328) (hcap : xs.length ≤ c) (hlen : (Lib.join (xs.map (·.data.toList)) sep.data.toList).length ≤ 140737488355328) :
    Calls Try.prog 62 #[.slice (some ⟨bk, o, none⟩) xs.length c, .string sep] w fun e w' => e = .returned (.string ⟨(Lib.join (xs.map (·.data.toList)) sep.data.toList).toArray⟩) ∧ Below w.heap.size w w' := Any.strings_Join Try.lays156 Try.Builder_Extra_156 bk o c xs sep w hcells hbk hN hcap hlen
def Try.lays128_ren : Go.Shelf.Ren := ⟨fun | 128 => 87 | n => n, fun | 51 => 130 | 3 => 3 | 4 => 4 | 46 => 115 | 5 => 5 | 9 => 9 | n => n, fun | n => n⟩
theorem Try.lays128 : Go.Proofs.Lays.n128 Try.prog Try.lays128_ren := {
  mixed := by kernel_rfl
  f128 := Try.func87.trans (congrArg some (by kernel_rfl))
  t3 := Try.underlying3
  a3 := Try.isAgg3
  z3 := Try.sizeOf3
  v3 := Try.zeroValue3
  t4 := Try.underlying4
  a4 := Try.isAgg4
  z4 := Try.sizeOf4
  v4 := Try.zeroValue4
  t5 := Try.underlying5
  a5 := Try.isAgg5
  z5 := Try.sizeOf5
  v5 := Try.zeroValue5
  t9 := Try.underlying9
  a9 := Try.isAgg9
  z9 := Try.sizeOf9
  v9 := Try.zeroValue9
  t46 := Try.underlying115
  a46 := Try.isAgg115
  z46 := Try.sizeOf115
  v46 := Try.zeroValue115
  t51 := Try.underlying130
  a51 := Try.isAgg130
  z51 := Try.sizeOf130
  v51 := Try.zeroValue130 }
/-- bits.Len32: "Len32 returns the minimum number of bits required to represent x; the result is 0 for x == 0.": IT RETURNS 'Lib.bitLen x'; the world is as it was. ('h0', 'h1': x is a uint32.) (LAID: no walk: one application.) -/
theorem Try.bits_Len32 (x : Int) (w : World) (h0 : 0 ≤ x) (h1 : x ≤ 4294967295) :
    Calls Try.prog 87 #[.int .u32 x] w fun e w' => e = .returned (.int .i64 (Lib.bitLen x.toNat)) ∧ w' = w := Any.bits_Len32 Try.lays128 x w h0 h1
def Try.lays125_ren : Go.Shelf.Ren := ⟨fun | 125 => 71 | 128 => 87 | 129 => 88 | n => n, fun | 46 => 115 | 3 => 3 | 51 => 130 | 53 => 133 | 4 => 4 | 5 => 5 | 9 => 9 | n => n, fun | n => n⟩
theorem Try.lays125 : Go.Proofs.Lays.n125 Try.prog Try.lays125_ren := {
  mixed := by kernel_rfl
  f125 := Try.func71.trans (congrArg some (by kernel_rfl))
  f128 := Try.func87.trans (congrArg some (by kernel_rfl))
  f129 := Try.func88.trans (congrArg some (by kernel_rfl))
  t3 := Try.underlying3
  a3 := Try.isAgg3
  z3 := Try.sizeOf3
  v3 := Try.zeroValue3
  t4 := Try.underlying4
  a4 := Try.isAgg4
  z4 := Try.sizeOf4
  v4 := Try.zeroValue4
  t5 := Try.underlying5
  a5 := Try.isAgg5
  z5 := Try.sizeOf5
  v5 := Try.zeroValue5
  t9 := Try.underlying9
  a9 := Try.isAgg9
  z9 := Try.sizeOf9
  v9 := Try.zeroValue9
  t46 := Try.underlying115
  a46 := Try.isAgg115
  z46 := Try.sizeOf115
  v46 := Try.zeroValue115
  t51 := Try.underlying130
  a51 := Try.isAgg130
  z51 := Try.sizeOf130
  v51 := Try.zeroValue130
  t53 := Try.underlying133
  a53 := Try.isAgg133
  z53 := Try.sizeOf133
  v53 := Try.zeroValue133 }
/-- bits.Len: "Len returns the minimum number of bits required to represent x; the result is 0 for x == 0.": IT RETURNS 'Lib.bitLen x'; the world is as it was. (A uint has 64 bits in the model.) ITS CALLEE bits.Len64 IS MET BY ITS OWN CONTRACT OFF THE SHELF (lay that first). (LAID: no walk: one application.) -/
theorem Try.bits_Len (x : Int) (w : World) (h0 : 0 ≤ x) (h1 : x ≤ 18446744073709551615) :
    Calls Try.prog 71 #[.int .u64 x] w fun e w' => e = .returned (.int .i64 (Lib.bitLen x.toNat)) ∧ w' = w := Any.bits_Len Try.lays125 x w h0 h1
def Try.lays215_ren : Go.Shelf.Ren := ⟨fun | 215 => 96 | n => n, fun | 3 => 3 | 4 => 4 | n => n, fun | n => n⟩
theorem Try.lays215 : Go.Proofs.Lays.n215 Try.prog Try.lays215_ren := {
  mixed := by kernel_rfl
  f215 := Try.func96.trans (congrArg some (by kernel_rfl))
  t3 := Try.underlying3
  a3 := Try.isAgg3
  z3 := Try.sizeOf3
  v3 := Try.zeroValue3
  t4 := Try.underlying4
  a4 := Try.isAgg4
  z4 := Try.sizeOf4
  v4 := Try.zeroValue4 }
open Go.RowKit in
/-- cmp.isNaN at int: 'x != x': false. (LAID: no walk: one application.) -/
theorem Try.cmp_isNaN_int (x : Int) (w : World) :
    Calls Try.prog 96 #[.int .i64 x] w fun e w' => e = .returned (.bool false) ∧ w' = w := Any.cmp_isNaN_int Try.lays215 x w
open Go.RowKit in
/-- (*strings.Builder).String: "String returns the accumulated string.": OF A BUILDER THAT HOLDS AT LEAST ONE BYTE. ✋ THE MODEL FREEZES THOSE BYTES IN THE BUFFER (unsafe.String): a later write INTO them ends the model's run without an answer; a later append BEHIND them goes on. The statement's order of evaluation is drawn: one draw. THE FORM '_f': IT SAYS BESIDES THAT THE BUILDER IS A BUILDER STILL ('Lib.IsBuilderF', the same bytes): SO IT CAN BE WRITTEN ON: 'b.WriteString(b.String()[:k])'. (LAID: no walk: one application.) -/
theorem Try.Builder_String_f (B b : Nat) (l : List UInt8) (w : World) (h : Lib.IsBuilderF 123 5 B b (Lib.byteCells l) w) (h0 : l ≠ []) :
    Calls Try.prog 75 #[.pointer (some ⟨b, 0, none⟩)] w fun e w' => e = .returned (.string ⟨l.toArray⟩) ∧ (Lib.IsBuilderF 123 5 B b (Lib.byteCells l) w' ∧ Below B w w') := Any.Builder_String_f Try.lays169 Try.Builder_Extra_169 B b l w h h0
open Go.RowKit in
/-- (*strings.Builder).String OF A BUILDER THAT HOLDS NO BYTE: the empty string; THE FORM '_f': a builder still. (LAID: no walk: one application.) -/
theorem Try.Builder_String_empty_f (B b : Nat) (w : World) (h : Lib.IsBuilderF 123 5 B b [] w) (hBw : B ≤ w.heap.size) :
    Calls Try.prog 75 #[.pointer (some ⟨b, 0, none⟩)] w fun e w' => e = .returned (.string ⟨#[]⟩) ∧ (Lib.IsBuilderF 123 5 B b [] w' ∧ Below B w w') := Any.Builder_String_empty_f Try.lays169 Try.Builder_Extra_169 B b w h hBw
open Go.RowKit in
/-- (*strings.Builder).String: "String returns the accumulated string.": WHATEVER THE BUILDER HOLDS; THE FORM '_f': OF A BUILDER THAT MAY HAVE BEEN READ BEFORE; AND IT IS A BUILDER STILL, holding the same bytes: it can be written on. (LAID: no walk: one application.) -/
theorem Try.Builder_String_any_f (B b : Nat) (l : List UInt8) (w : World) (h : Lib.IsBuilderF 123 5 B b (Lib.byteCells l) w) (hBw : B ≤ w.heap.size) :
    Calls Try.prog 75 #[.pointer (some ⟨b, 0, none⟩)] w fun e w' => e = .returned (.string ⟨l.toArray⟩) ∧ (Lib.IsBuilderF 123 5 B b (Lib.byteCells l) w' ∧ Below B w w') := Any.Builder_String_any_f Try.lays169 Try.Builder_Extra_169 B b l w h hBw
open Go.RowKit in
/-- (*strings.Builder).String: "String returns the accumulated string.": OF A BUILDER THAT HOLDS AT LEAST ONE BYTE. ✋ THE MODEL FREEZES THOSE BYTES IN THE BUFFER (unsafe.String): a later write INTO them ends the model's run without an answer; a later append BEHIND them goes on. The statement's order of evaluation is drawn: one draw. THE FORM '_k': OVER 'Lib.IsBuilderF' (a builder that 'String()' may have read), AND WITH THE FRAME THAT REACHES ABOVE THE BUILDER: 'Lib.OthersKept': every block that is not b and is no row of uint8's stands as it stood: the iterator of a range among them. (LAID: no walk: one application.) -/
theorem Try.Builder_String_k (B b : Nat) (l : List UInt8) (w : World) (h : Lib.IsBuilderF 123 5 B b (Lib.byteCells l) w) (h0 : l ≠ []) :
    Calls Try.prog 75 #[.pointer (some ⟨b, 0, none⟩)] w fun e w' => e = .returned (.string ⟨l.toArray⟩) ∧ (Lib.IsBuilderF 123 5 B b (Lib.byteCells l) w' ∧ Below B w w' ∧ Lib.OthersKept 5 (some b) w w') := Any.Builder_String_k Try.lays169 Try.Builder_Extra_169 B b l w h h0
open Go.RowKit in
/-- (*strings.Builder).String OF A BUILDER THAT HOLDS NO BYTE: the empty string; THE FORM '_k': OVER 'Lib.IsBuilderF' (a builder that 'String()' may have read), AND WITH THE FRAME THAT REACHES ABOVE THE BUILDER: 'Lib.OthersKept': every block that is not b and is no row of uint8's stands as it stood: the iterator of a range among them. (LAID: no walk: one application.) -/
theorem Try.Builder_String_empty_k (B b : Nat) (w : World) (h : Lib.IsBuilderF 123 5 B b [] w) (hBw : B ≤ w.heap.size) :
    Calls Try.prog 75 #[.pointer (some ⟨b, 0, none⟩)] w fun e w' => e = .returned (.string ⟨#[]⟩) ∧ (Lib.IsBuilderF 123 5 B b [] w' ∧ Below B w w' ∧ Lib.OthersKept 5 (some b) w w') := Any.Builder_String_empty_k Try.lays169 Try.Builder_Extra_169 B b w h hBw
open Go.RowKit in
/-- (*strings.Builder).String: "String returns the accumulated string.": WHATEVER THE BUILDER HOLDS; THE FORM '_k': OVER 'Lib.IsBuilderF' (a builder that 'String()' may have read), AND WITH THE FRAME THAT REACHES ABOVE THE BUILDER: 'Lib.OthersKept': every block that is not b and is no row of uint8's stands as it stood: the iterator of a range among them. (LAID: no walk: one application.) -/
theorem Try.Builder_String_any_k (B b : Nat) (l : List UInt8) (w : World) (h : Lib.IsBuilderF 123 5 B b (Lib.byteCells l) w) (hBw : B ≤ w.heap.size) :
    Calls Try.prog 75 #[.pointer (some ⟨b, 0, none⟩)] w fun e w' => e = .returned (.string ⟨l.toArray⟩) ∧ (Lib.IsBuilderF 123 5 B b (Lib.byteCells l) w' ∧ Below B w w' ∧ Lib.OthersKept 5 (some b) w w') := Any.Builder_String_any_k Try.lays169 Try.Builder_Extra_169 B b l w h hBw
open Go.RowKit in
/-- (*strings.Builder).grow (no doc but "grow copies the buffer to a new, larger buffer so that there are at least n bytes of capacity beyond len(b.buf)."): AT A BUILDER WITHOUT A BUFFER: a new row of whatever bytes for its buffer, none of them its own yet. Three draws. (LAID: no walk: one application.) -/
theorem Try.Builder_grow_fresh_cap (B b n : Nat) (w : World) (hB : B ≤ b) (hbk : w.heap[b]? = some (.cells #[.pointer (some ⟨b, 0, none⟩), .slice none 0 0] 123 (0, 0))) (hBw : B ≤ w.heap.size) (hn : n ≤ 281474976710656) :
    Calls Try.prog 90 #[.pointer (some ⟨b, 0, none⟩), .int .i64 n] w fun e w' => e = .returned (.tuple #[]) ∧ (Lib.BuilderAt 123 5 B b (.pointer (some ⟨b, 0, none⟩)) [] w' ∧ Below B w w') ∧ ∃ p cap, w'.cell? ⟨b, 1, none⟩ = some (.slice p 0 cap) ∧ n ≤ cap := Any.Builder_grow_fresh_cap Try.lays241 Try.Builder_Extra_241 B b n w hB hbk hBw hn
open Go.RowKit in
/-- (*strings.Builder).Grow AT A BUILDER THAT HAS NOT BEEN WRITTEN ('var b strings.Builder; b.Grow(n)'): "Grow grows b's capacity, if necessary, to guarantee space for another n bytes.": it holds no byte behind it as before it. (LAID: no walk: one application.) -/
theorem Try.Builder_Grow_fresh_cap (B b n : Nat) (w : World) (hB : B ≤ b) (hbk : w.heap[b]? = some (.cells #[.pointer none, .slice none 0 0] 123 (0, 0))) (hBw : B ≤ w.heap.size) (hn : n ≤ 281474976710656) :
    Calls Try.prog 73 #[.pointer (some ⟨b, 0, none⟩), .int .i64 n] w fun e w' => e = .returned (.tuple #[]) ∧ (Lib.BuilderAt 123 5 B b (.pointer (some ⟨b, 0, none⟩)) [] w' ∧ Below B w w') ∧ ∃ p cap, w'.cell? ⟨b, 1, none⟩ = some (.slice p 0 cap) ∧ n ≤ cap := Any.Builder_Grow_fresh_cap Try.lays165 Try.Builder_Extra_165 B b n w hB hbk hBw hn
def Try.lays129_ren : Go.Shelf.Ren := ⟨fun | 129 => 88 | n => n, fun | 53 => 133 | 3 => 3 | 4 => 4 | 46 => 115 | 5 => 5 | 9 => 9 | n => n, fun | n => n⟩
theorem Try.lays129 : Go.Proofs.Lays.n129 Try.prog Try.lays129_ren := {
  mixed := by kernel_rfl
  f129 := Try.func88.trans (congrArg some (by kernel_rfl))
  t3 := Try.underlying3
  a3 := Try.isAgg3
  z3 := Try.sizeOf3
  v3 := Try.zeroValue3
  t4 := Try.underlying4
  a4 := Try.isAgg4
  z4 := Try.sizeOf4
  v4 := Try.zeroValue4
  t5 := Try.underlying5
  a5 := Try.isAgg5
  z5 := Try.sizeOf5
  v5 := Try.zeroValue5
  t9 := Try.underlying9
  a9 := Try.isAgg9
  z9 := Try.sizeOf9
  v9 := Try.zeroValue9
  t46 := Try.underlying115
  a46 := Try.isAgg115
  z46 := Try.sizeOf115
  v46 := Try.zeroValue115
  t53 := Try.underlying133
  a53 := Try.isAgg133
  z53 := Try.sizeOf133
  v53 := Try.zeroValue133 }
/-- bits.Len64: "Len64 returns the minimum number of bits required to represent x; the result is 0 for x == 0.": IT RETURNS 'Lib.bitLen x'; the world is as it was. ('h0', 'h1': x is a uint64.) (LAID: no walk: one application.) -/
theorem Try.bits_Len64 (x : Int) (w : World) (h0 : 0 ≤ x) (h1 : x ≤ 18446744073709551615) :
    Calls Try.prog 88 #[.int .u64 x] w fun e w' => e = .returned (.int .i64 (Lib.bitLen x.toNat)) ∧ w' = w := Any.bits_Len64 Try.lays129 x w h0 h1
def Try.lays189_ren : Go.Shelf.Ren := ⟨fun | 189 => 57 | 125 => 71 | 257 => 70 | 128 => 87 | 129 => 88 | 294 => 78 | 295 => 79 | 296 => 80 | 297 => 81 | 298 => 82 | 299 => 83 | 216 => 84 | 300 => 85 | 301 => 86 | 328 => 91 | 329 => 92 | 330 => 93 | 331 => 94 | 332 => 95 | 215 => 96 | 343 => 99 | n => n, fun | 28 => 46 | 3 => 3 | 46 => 115 | 0 => 0 | 51 => 130 | 53 => 133 | 4 => 4 | 183 => 138 | 182 => 137 | 131 => 76 | 5 => 5 | 9 => 9 | 218 => 147 | 222 => 151 | 228 => 156 | 229 => 157 | n => n, fun | n => n⟩
theorem Try.lays189 : Go.Proofs.Lays.n189 Try.prog Try.lays189_ren := {
  mixed := by kernel_rfl
  f125 := Try.func71.trans (congrArg some (by kernel_rfl))
  f128 := Try.func87.trans (congrArg some (by kernel_rfl))
  f129 := Try.func88.trans (congrArg some (by kernel_rfl))
  f189 := Try.func57.trans (congrArg some (by kernel_rfl))
  f215 := Try.func96.trans (congrArg some (by kernel_rfl))
  f216 := Try.func84.trans (congrArg some (by kernel_rfl))
  f257 := Try.func70.trans (congrArg some (by kernel_rfl))
  f294 := Try.func78.trans (congrArg some (by kernel_rfl))
  f295 := Try.func79.trans (congrArg some (by kernel_rfl))
  f296 := Try.func80.trans (congrArg some (by kernel_rfl))
  f297 := Try.func81.trans (congrArg some (by kernel_rfl))
  f298 := Try.func82.trans (congrArg some (by kernel_rfl))
  f299 := Try.func83.trans (congrArg some (by kernel_rfl))
  f300 := Try.func85.trans (congrArg some (by kernel_rfl))
  f301 := Try.func86.trans (congrArg some (by kernel_rfl))
  f328 := Try.func91.trans (congrArg some (by kernel_rfl))
  f329 := Try.func92.trans (congrArg some (by kernel_rfl))
  f330 := Try.func93.trans (congrArg some (by kernel_rfl))
  f331 := Try.func94.trans (congrArg some (by kernel_rfl))
  f332 := Try.func95.trans (congrArg some (by kernel_rfl))
  f343 := Try.func99.trans (congrArg some (by kernel_rfl))
  t0 := Try.underlying0
  a0 := Try.isAgg0
  z0 := Try.sizeOf0
  v0 := Try.zeroValue0
  t3 := Try.underlying3
  a3 := Try.isAgg3
  z3 := Try.sizeOf3
  v3 := Try.zeroValue3
  t4 := Try.underlying4
  a4 := Try.isAgg4
  z4 := Try.sizeOf4
  v4 := Try.zeroValue4
  t5 := Try.underlying5
  a5 := Try.isAgg5
  z5 := Try.sizeOf5
  v5 := Try.zeroValue5
  t9 := Try.underlying9
  a9 := Try.isAgg9
  z9 := Try.sizeOf9
  v9 := Try.zeroValue9
  t28 := Try.underlying46
  a28 := Try.isAgg46
  z28 := Try.sizeOf46
  v28 := Try.zeroValue46
  t46 := Try.underlying115
  a46 := Try.isAgg115
  z46 := Try.sizeOf115
  v46 := Try.zeroValue115
  t51 := Try.underlying130
  a51 := Try.isAgg130
  z51 := Try.sizeOf130
  v51 := Try.zeroValue130
  t53 := Try.underlying133
  a53 := Try.isAgg133
  z53 := Try.sizeOf133
  v53 := Try.zeroValue133
  t131 := Try.underlying76
  a131 := Try.isAgg76
  z131 := Try.sizeOf76
  v131 := Try.zeroValue76
  t182 := Try.underlying137
  a182 := Try.isAgg137
  z182 := Try.sizeOf137
  v182 := Try.zeroValue137
  t183 := Try.underlying138
  a183 := Try.isAgg138
  z183 := Try.sizeOf138
  v183 := Try.zeroValue138
  t218 := Try.underlying147
  a218 := Try.isAgg147
  z218 := Try.sizeOf147
  v218 := Try.zeroValue147
  t222 := Try.underlying151
  a222 := Try.isAgg151
  z222 := Try.sizeOf151
  v222 := Try.zeroValue151
  t228 := Try.underlying156
  a228 := Try.isAgg156
  z228 := Try.sizeOf156
  v228 := Try.zeroValue156
  t229 := Try.underlying157
  a229 := Try.isAgg157
  z229 := Try.sizeOf157
  v229 := Try.zeroValue157 }
open Go.Sort Go.RowKit in
theorem Try.slices_Sort_int (blk off cap : Nat) (zs : List Int) (w : World) (hH : Holds (Value.int .i64) w blk off zs.toArray) (hblk : blk < w.heap.size) (hsz : zs.length < 4611686018427387904) :
    Calls Try.prog 57 #[.slice (some ⟨blk, off, none⟩) zs.length cap] w fun e w' =>
      e = .returned (.tuple #[]) ∧ ∃ n os, w' = grow (putRow (Value.int .i64) (Sort.ahead w n) blk off (zs.mergeSort fun x y => decide (x ≤ y)).toArray) os := Any.slices_Sort_int Try.lays189 blk off cap zs w hH hblk hsz
def Try.lays264_ren : Go.Shelf.Ren := ⟨fun | 264 => 77 | n => n, fun | 53 => 133 | 46 => 115 | n => n, fun | n => n⟩
theorem Try.lays264 : Go.Proofs.Lays.n264 Try.prog Try.lays264_ren := {
  mixed := by kernel_rfl
  f264 := Try.func77.trans (congrArg some (by kernel_rfl))
  t46 := Try.underlying115
  a46 := Try.isAgg115
  z46 := Try.sizeOf115
  v46 := Try.zeroValue115
  t53 := Try.underlying133
  a53 := Try.isAgg133
  z53 := Try.sizeOf133
  v53 := Try.zeroValue133 }
open Go.RowKit Go.Lib in
theorem Try.bits_Mul64 (x y : Nat) (hx : x < 18446744073709551616) (hy : y < 18446744073709551616) (w : World) :
    Calls Try.prog 77 #[.int .u64 x, .int .u64 y] w fun e w' => e = .returned (.tuple #[.int .u64 ((x * y / 18446744073709551616 : Nat) : Int), .int .u64 ((x * y % 18446744073709551616 : Nat) : Int)]) ∧ w' = w := Any.bits_Mul64 Try.lays264 x y hx hy w
def Try.lays212_ren : Go.Shelf.Ren := ⟨fun | 212 => 66 | 263 => 76 | 264 => 77 | n => n, fun | 46 => 115 | 51 => 130 | 146 => 131 | 53 => 133 | 148 => 134 | n => n, fun | n => n⟩
theorem Try.lays212 : Go.Proofs.Lays.n212 Try.prog Try.lays212_ren := {
  mixed := by kernel_rfl
  f212 := Try.func66.trans (congrArg some (by kernel_rfl))
  f263 := Try.func76.trans (congrArg some (by kernel_rfl))
  f264 := Try.func77.trans (congrArg some (by kernel_rfl))
  t46 := Try.underlying115
  a46 := Try.isAgg115
  z46 := Try.sizeOf115
  v46 := Try.zeroValue115
  t51 := Try.underlying130
  a51 := Try.isAgg130
  z51 := Try.sizeOf130
  v51 := Try.zeroValue130
  t53 := Try.underlying133
  a53 := Try.isAgg133
  z53 := Try.sizeOf133
  v53 := Try.zeroValue133
  t146 := Try.underlying131
  a146 := Try.isAgg131
  z146 := Try.sizeOf131
  v146 := Try.zeroValue131
  t148 := Try.underlying134
  a148 := Try.isAgg134
  z148 := Try.sizeOf134
  v148 := Try.zeroValue134 }
open Go.RowKit Go.Lib in
/-- math/bits.Mul: "Mul returns the full-width product of x and y": on a machine of 64 bits: Mul64's. (LAID: no walk: one application.) -/
theorem Try.bits_Mul (x y : Nat) (hx : x < 18446744073709551616) (hy : y < 18446744073709551616) (w : World) :
    Calls Try.prog 66 #[.int .u64 x, .int .u64 y] w fun e w' => e = .returned (.tuple #[.int .u64 ((x * y / 18446744073709551616 : Nat) : Int), .int .u64 ((x * y % 18446744073709551616 : Nat) : Int)]) ∧ w' = w := Any.bits_Mul Try.lays212 x y hx hy w
def Try.laysNm215_ren : Go.Shelf.Ren := ⟨fun | 15 => 65 | n => n, fun | 22 => 46 | 3 => 3 | 4 => 4 | n => n, fun | n => n⟩
theorem Try.laysNm215 : Go.Proofs.Lays2.n15 Try.prog Try.laysNm215_ren := {
  mixed := by kernel_rfl
  f15 := Try.func65.trans (congrArg some (by kernel_rfl))
  t3 := Try.underlying3
  a3 := Try.isAgg3
  z3 := Try.sizeOf3
  v3 := Try.zeroValue3
  t4 := Try.underlying4
  a4 := Try.isAgg4
  z4 := Try.sizeOf4
  v4 := Try.zeroValue4
  t22 := Try.underlying46
  a22 := Try.isAgg46
  z22 := Try.sizeOf46
  v22 := Try.zeroValue46
  i3 := by kernel_rfl }
open Go.RowKit Go.Lib in
/-- slices.Clone at []int: "Clone returns a copy of the slice. The elements are copied using assignment, so this is a shallow clone. The result may have additional unused capacity. The result preserves the nilness of s.": OF A SLICE THAT IS NOT nil IT RETURNS A SLICE THAT IS NOT nil, OF THE SAME ELEMENTS, IN MEMORY OF THE CALL's OWN: in the how-to's words (6f): 'w'.ownsRow B e 1 v' n cells': v' begins at the head of a row among the blocks from B on (B: the heap's size at the call), not frozen, whose first cells are the elements · 'Below B w w'': below B all is as it was. The capacity is whatever the run-time gives. 'zs': what the cells behind the slice's address hold; 'zs.take n': its elements. (LAID: no walk: one application.) -/
theorem Try.slices_Clone_int (b off n c : Nat) (zs : List Int) (w : World) (hz : n ≤ zs.length) (hbig : n * 8 ≤ 140737488355328) (hc : ∀ j, j < zs.length → w.cell? ⟨b, off + j, none⟩ = some (.int .i64 (zs.getD j 0))) :
    Calls Try.prog 65 #[.slice (some ⟨b, off, none⟩) n c] w fun e w' => ∃ v', e = .returned v' ∧ w'.ownsRow w.heap.size 3 1 v' n ((zs.take n).map (Value.int .i64)) ∧ v' ≠ .slice none 0 0 ∧ Below w.heap.size w w' := Any.slices_Clone_int Try.laysNm215 b off n c zs w hz hbig hc
open Go.RowKit Go.Lib in
/-- The same at nil: nil comes back; the world is as it was. (LAID: no walk: one application.) -/
theorem Try.slices_Clone_int_nil (n c : Nat) (w : World) :
    Calls Try.prog 65 #[.slice none n c] w fun e w' => e = .returned (.slice none 0 0) ∧ w' = w := Any.slices_Clone_int_nil Try.laysNm215 n c w
open Go.RowKit Go.Lib in
/-- The same at a slice of length 0 that is not nil, WHATEVER ITS ADDRESS (no cell is asked for): a slice that is not nil and owns nothing comes back. (LAID: no walk: one application.) -/
theorem Try.slices_Clone_int_zero (a : Addr) (c : Nat) (w : World) :
    Calls Try.prog 65 #[.slice (some a) 0 c] w fun e w' => ∃ v', e = .returned v' ∧ w'.ownsRow w.heap.size 3 1 v' 0 [] ∧ v' ≠ .slice none 0 0 ∧ Below w.heap.size w w' := Any.slices_Clone_int_zero Try.laysNm215 a c w
def Try.laysNm237_ren : Go.Shelf.Ren := ⟨fun | 37 => 96 | n => n, fun | 3 => 3 | 4 => 4 | n => n, fun | n => n⟩
theorem Try.laysNm237 : Go.Proofs.Lays2.n37 Try.prog Try.laysNm237_ren := {
  mixed := by kernel_rfl
  f37 := Try.func96.trans (congrArg some (by kernel_rfl))
  t3 := Try.underlying3
  a3 := Try.isAgg3
  z3 := Try.sizeOf3
  v3 := Try.zeroValue3
  t4 := Try.underlying4
  a4 := Try.isAgg4
  z4 := Try.sizeOf4
  v4 := Try.zeroValue4 }
open Go.RowKit Go.Lib in
/-- cmp.isNaN[int]: 'x != x': false. (LAID: no walk: one application.) -/
theorem Try.cmp_isNaN_int2 (x : Int) (w : World) :
    Calls Try.prog 96 #[.int .i64 x] w fun e w' => e = .returned (.bool false) ∧ w' = w := Any.cmp_isNaN_int2 Try.laysNm237 x w
def Try.laysNm231_ren : Go.Shelf.Ren := ⟨fun | 31 => 84 | 37 => 96 | n => n, fun | 3 => 3 | 4 => 4 | n => n, fun | n => n⟩
theorem Try.laysNm231 : Go.Proofs.Lays2.n31 Try.prog Try.laysNm231_ren := {
  mixed := by kernel_rfl
  f31 := Try.func84.trans (congrArg some (by kernel_rfl))
  f37 := Try.func96.trans (congrArg some (by kernel_rfl))
  t3 := Try.underlying3
  a3 := Try.isAgg3
  z3 := Try.sizeOf3
  v3 := Try.zeroValue3
  t4 := Try.underlying4
  a4 := Try.isAgg4
  z4 := Try.sizeOf4
  v4 := Try.zeroValue4 }
open Go.RowKit Go.Lib in
/-- cmp.Less[int]: "Less reports whether x is less than y.": 'x < y'; the world is as it was. (LAID: no walk: one application.) -/
theorem Try.cmp_Less_int2 (x y : Int) (w : World) :
    Calls Try.prog 84 #[.int .i64 x, .int .i64 y] w fun e w' => e = .returned (.bool (decide (x < y))) ∧ w' = w := Any.cmp_Less_int2 Try.laysNm231 x y w
open Go.RowKit Go.Sort in
/-- .. and plain. (LAID: no walk: one application.) -/
theorem Try.slices_Sort_int_none (p : Option Addr) (cap : Nat) (w : World) :
    Calls Try.prog 57 #[.slice p 0 cap] w fun e w' => e = .returned (.tuple #[]) ∧ w' = w := Any.slices_Sort_int_none Try.lays189 p cap w
def Try.laysSlE041_f65_ren : Go.Shelf.Ren := ⟨fun | 41 => 65 | n => n, fun | 22 => 46 | 23 => 3 | 4 => 4 | n => n, fun | n => n⟩
theorem Try.laysSlE041_f65 : Go.Proofs.SlLaysE0.n41 Try.prog Try.laysSlE041_f65_ren := {
  mixed := by kernel_rfl
  f41 := ⟨Try.f65.name, by decide, Try.func65.trans (congrArg some (by kernel_rfl))⟩
  t4 := Try.underlying4
  a4 := Try.isAgg4
  z4 := Try.sizeOf4
  v4 := Try.zeroValue4
  t22 := Try.underlying46
  a22 := Try.isAgg46
  z22 := Try.sizeOf46
  v22 := Try.zeroValue46 }
open Go.RowKit Go.Lib in
/-- slices.Clone: "Clone returns a copy of the slice. The elements are copied using assignment, so this is a shallow clone. The result may have additional unused capacity. The result preserves the nilness of s.": OF A SLICE THAT IS NOT nil IT RETURNS A SLICE THAT IS NOT nil, OF THE SAME CELLS, IN MEMORY OF THE CALL's OWN ('ownsRow': the how-to's 6f); below the heap's size at the call all is as it was. (LAID AT THE INSTANCE 'slices.Clone[[]int,int]': no walk: one application.) -/
theorem Try.slices_Clone (i0 : TypeInfo) (z : Value) (size bytes : Nat) (hi : Try.prog.info? 3 = some i0) (hz0 : i0.zero = some z) (hz1 : i0.size = size) (hz2 : i0.bytes = bytes) (hzs : z.cells.size = size) (hsz : 0 < size) (z23 : ∀ w, (Go.sizeOf 3).run Try.prog w = .ok size w) (b off n c : Nat) (news : List Value) (w : World) (hl : news.length = n * size) (hn : n ≤ maxLen) (hbig : n * bytes ≤ 140737488355328) (hc : ∀ j u, news[j]? = some u → w.cell? ⟨b, off + j, none⟩ = some u) (h1 : ∀ u ∈ news, u.oneCell' = true) :
    Calls Try.prog 65 #[.slice (some ⟨b, off, none⟩) n c] w fun e w' => ∃ v', e = .returned v' ∧ w'.ownsRow w.heap.size 3 size v' n news ∧ v' ≠ .slice none 0 0 ∧ Below w.heap.size w w' := AnyE.slices_Clone Try.laysSlE041_f65 i0 z size bytes hi hz0 hz1 hz2 hzs hsz z23 b off n c news w hl hn hbig hc h1
open Go.RowKit Go.Lib in
/-- The same at nil: nil comes back; the world is as it was; nothing is asked of the element's type. (LAID AT THE INSTANCE 'slices.Clone[[]int,int]': no walk: one application.) -/
theorem Try.slices_Clone_nil (n c : Nat) (w : World) :
    Calls Try.prog 65 #[.slice none n c] w fun e w' => e = .returned (.slice none 0 0) ∧ w' = w := AnyE.slices_Clone_nil Try.laysSlE041_f65 n c w
end Go.Proofs
namespace Go.Proofs.Ythoclljhjcfemaa
open Go.RowKit
set_option linter.unusedVariables false
def srt (xs : List Int) : Option (List Int) := if xs.length ≤ 1073741824 then some (xs.mergeSort fun x y => decide (x ≤ y)) else none
theorem srt_some {xs r : List Int} (h : srt xs = some r) : xs.length ≤ 1073741824 ∧ xs.mergeSort (fun x y => decide (x ≤ y)) = r := by
  unfold srt at h; split at h
  · rename_i hh; cases h; exact ⟨hh, rfl⟩
  · cases h
theorem els_ints (K : Hp) : ∀ xs : List Int, Els K (.int .i64) (xs.map (Value.int .i64)) xs
  | [] => rfl
  | x :: xs => ⟨[.int .i64 x], _, rfl, rfl, els_ints K xs⟩
theorem els_ints_eq {K : Hp} : ∀ {xs : List Int} {cs : List Value}, Els K (.int .i64) cs xs → cs = xs.map (Value.int .i64)
  | [], cs, h => h
  | x :: xs, cs, h => by
    obtain ⟨es, r, rfl, h1, h2⟩ := h
    obtain rfl : es = [.int .i64 x] := h1
    rw [els_ints_eq h2]; rfl
theorem slices_Sort_ok {K : Hp} {ad : Option Addr} {m cap : Nat} {xs r : List Int} (h : srt xs = some r) :
    Tr Try.prog 57 #[.slice ad m cap] K [Row Hp.nil 3 (.int .i64) (.slice ad m cap) xs] (fun v K' L' => (∃ (l : List Int), l = r ∧ v = .tuple #[] ∧ L' = [Row Hp.nil 3 (.int .i64) (.slice ad m cap) l]) ∧ K = K') := by
  obtain ⟨hl, rfl⟩ := srt_some h
  refine Tr.k (fun E w F hs => ?_)
  have hs' := hs
  obtain ⟨h0, ⟨cs, h1, h2⟩, hd, hs2⟩ := hs
  have hle : h0.le (Hp.of w) := fun n o e => hs2.sub n o (Hp.join_right e (hd n o e))
  obtain rfl := els_ints_eq h1
  have h2' := h2
  obtain ⟨h3, h4⟩ := h2
  rcases h4 with ⟨h5, h6, _⟩ | ⟨g, cp, cur, h5, rfl, h6, h7, h8, h9⟩
  · cases h5
    obtain rfl : xs = [] := List.length_eq_zero_iff.1 h6
    refine (Try.slices_Sort_int_none none 0 w).mono ?_
    rintro e w' ⟨rfl, rfl⟩
    exact ⟨_, K, _, rfl, ⟨_, rfl, rfl, rfl⟩, Hp.le_refl K, by simpa using hs'⟩
  · cases h5
    have hb := hle g _ (one_of g _)
    have ht : cur.toList.take xs.length = xs.map (Value.int .i64) := by simpa [Tp.size] using h9
    refine (Try.slices_Sort_int g 0 cap xs w (holds_of_blockI hb ht) (lt_of_block hb) (by omega)).mono ?_
    rintro e w' ⟨rfl, n, os, rfl⟩
    have hlen : (xs.mergeSort fun x y => decide (x ≤ y)).length = xs.length := List.length_mergeSort xs
    have ho := ownsRow_sortedI (n := n) (os := os) (base := 0) (cap := cap) hlen (Nat.zero_le g) hb h6 h7 (by simpa [Tp.size] using h8)
    refine ⟨_, K, [Row Hp.nil 3 (.int .i64) (.slice (some ⟨g, 0, none⟩) xs.length cap) (xs.mergeSort fun x y => decide (x ≤ y))], rfl, ⟨_, rfl, rfl, rfl⟩, Hp.le_refl K, ?_⟩
    exact hs'.grown hlen.symm (by simpa [hlen, Tp.size] using ho) (els_ints _ _) (grownBy_sortedI _) (.inl rfl)
end Go.Proofs.Ythoclljhjcfemaa
namespace Go.Proofs.Ythoclljhjcfemaa
open Go.RowKit
set_option linter.unusedVariables false
set_option linter.unnecessarySimpa false
set_option linter.unusedSectionVars false
set_option linter.unusedSimpArgs false
variable [BldA]
/-- What is asked of one row: its value, what it holds. -/
theorem row_pre {m : List M} {K : Hp} {x : List Int} {e : TypeId} {args : List Value} {E : En} {w : World} {F : List Atom} (hm : m.length = 2) (hH : HA.ok m K (.row 0 1 e (.int .i64) x x.length)) (hsl : slR m K [(0, .own 0)] args) (hs : Sep E K ([HA.row 0 1 e (.int .i64) x x.length].map (HA.conc m) ++ F) w) :
    ∃ ad cap, args = [.slice ad x.length cap] ∧ m[0]? = some (.val (.slice ad x.length cap)) ∧ Sep E K (Row Hp.nil e (.int .i64) (.slice ad x.length cap) x :: F) w := by
  obtain ⟨ad, cap, cs, e0, e1, hE, _, h1, h2, h3⟩ := hH
  obtain ⟨u, r, rfl, ⟨e2, e3⟩, rfl⟩ := hsl
  rw [e0] at e2
  cases e2
  refine ⟨ad, cap, rfl, e0, ?_⟩
  have hs' : Sep E K (HA.conc m (.row 0 1 e (.int .i64) x x.length) :: F) w := hs
  simp only [HA.conc, e0, e1] at hs'
  exact hs'.mono (fun h k => ⟨cs, Els.flat rfl hE, k⟩)
/-- What is known of a row behind the call. -/
theorem row_post {K : Hp} {e : TypeId} {ad : Option Addr} {n cap : Nat} {l : List Int} {E : En} {w : World} {F : List Atom} (hs : Sep E K ([Row Hp.nil e (.int .i64) (.slice ad n cap) l] ++ F) w) :
    n = l.length ∧ l.length ≤ cap ∧ cap ≤ maxLen ∧ (l ≠ [] → ∃ g, ad = some ⟨g, 0, none⟩) ∧ ∃ cs, Els K (.int .i64) cs l ∧ Sep E K (Rw e 1 (.slice ad l.length cap) l.length cs :: F) w := by
  have hs : Sep E K (Row Hp.nil e (.int .i64) (.slice ad n cap) l :: F) w := hs
  obtain ⟨ad', cap', h1, h2, h3, h4⟩ := hs.fact (fun h k => Row.form h k)
  cases h1
  obtain ⟨h0, ⟨cs, hE, hR⟩, hd, hs2⟩ := hs
  exact ⟨rfl, h2, h3, h4, cs, Els.flat rfl hE, h0, hR, hd, hs2⟩
noncomputable def sp_Sort : Spec := ⟨57, ⟨[(0, .rp 0)], [⟨none, 0, [], false, false, some (.row 3 (.dat (.int .i64)))⟩]⟩, [⟨[], [⟨some 0, 0, [], false, false, some (.row 3 (.dat (.int .i64)))⟩]⟩], fun x => srt x⟩
theorem Sort_is : SpecOk Try.prog sp_Sort := by
  intro x r hr vs u hu m K args hm hH hsl E w F hs
  have hu' : sp_Sort.inn.un (TL.list _ x) 0 = some ([(0, .own 0)], ⟨[], 2, [.row 0 1 3 (.int .i64) x (List.length (α := Int) x)], []⟩) := rfl
  rw [hu'] at hu
  cases hu
  replace hm : m.length = 2 := hm
  obtain ⟨ad, cap, rfl, e0, hs'⟩ := row_pre hm (hH _ (by simp)) hsl hs
  refine (slices_Sort_ok (K := K) hr E w F hs').mono ?_
  rintro e w' ⟨v, K', L', rfl, ⟨⟨l, rfl, rfl, rfl⟩, rfl⟩, h1, h2⟩
  obtain ⟨g1, g2, g3, g4, cs, g5, g6⟩ := row_post h2
  have hm0 : (m ++ [M.cont (.int .i64) l cs])[0]? = some (.val (.slice ad (List.length (α := Int) l) cap)) := by
    rw [List.getElem?_append_left (by omega), e0, g1]
  have hm1 : (m ++ [M.cont (.int .i64) l cs])[2]? = some (.cont (.int .i64) l cs) := by
    rw [List.getElem?_append_right (by omega), hm]; rfl
  refine ⟨_, K, _, rfl, ⟨[], ⟨[], 3, [.row 0 2 3 (.int .i64) l (List.length (α := Int) l)], []⟩, m ++ [.cont (.int .i64) l cs], rfl, List.prefix_append _ _, by simp [hm], ?_, rfl, rfl⟩, h1, ?_⟩
  · intro a ha
    simp only [List.mem_singleton] at ha
    subst ha
    exact ⟨ad, cap, cs, hm0, hm1, g5, rfl, g2, g3, g4⟩
  · show Sep E K (HA.conc _ (.row 0 2 3 (.int .i64) l (List.length (α := Int) l)) :: F) w'
    simp only [HA.conc, hm0, hm1]
    exact g6
noncomputable def ok_Sort : OkSpec Try.prog := ⟨sp_Sort, Sort_is, Try.call57⟩
end Go.Proofs.Ythoclljhjcfemaa
namespace Go.Proofs.Ythoclljhjcfemaa
open Go.RowKit
set_option linter.unusedVariables false
set_option linter.unusedSimpArgs false
set_option linter.unnecessarySimpa false
section
variable {E : En} {K K0 : Hp} {L : List Atom} {w : World}
theorem Sep.arr {b : Nat} {e : TypeId} {t : Tp} {m : Nat} {cs : List Value} {xs : List t.den} (he : Els Hp.nil t cs xs) (hl : xs.length = m) (hm : Nat.ble m 1048576 = true) (hs : Sep E K (Cl b e cs :: L) w) : Sep E K (Row Hp.nil e t (.slice (some ⟨b, 0, none⟩) m m) xs :: L) w := by
  have hm := Nat.le_of_ble_eq_true hm
  subst hl
  refine hs.mono (fun h ha => ?_)
  obtain rfl : h = _ := ha
  exact ⟨cs, he, he.len, .inr ⟨b, xs.length, cs.toArray, rfl, rfl, Nat.le_refl _, by unfold maxLen; omega, by rw [List.size_toArray]; exact he.len, by simp [← he.len]⟩⟩
end
section
variable {P : Program} {K0 : Hp}
/-- A part of an array. -/
theorem V.subA {tx e : TypeId} {tp : Tp} {b m : Nat} {s z : List tp.den} {l h : Int} (ht : P.underlying tx = some (.array m e)) (hz : (P.info? e).map (·.size) = some tp.size) (hl : s.length = m) (hs : Is K0 (.sl tp) [.slice (some ⟨b, 0, none⟩) m m] s) (hy : subL s l h = some z) :
    ∃ ad' cp', (∀ {n : Nat} {C : World → Prop} {ρ : Sl0} {d : Option Nat} {t : TypeId} {pos : String} {af : Array Edge} {g : Option (Nat × Bool)} {x : Operand} {lo hi : Option Operand}, ev n ρ x = .pointer (some ⟨b, 0, none⟩) → (∀ q, lo = some q → ∃ k, ev n ρ q = .int k l) → (lo = none → l = 0) → (∀ q, hi = some q → ∃ k, ev n ρ q = .int k h) → (hi = none → h = (m : Nat)) →
      Val P n C ρ ⟨d, .slice tx x lo hi none, t, pos, af, g⟩ (.slice ad' z.length cp')) ∧ Is K0 (.sl tp) [.slice ad' z.length cp'] z := by
  subst hl
  obtain ⟨a1, a2, a3, rfl⟩ := subL_some hy
  obtain ⟨l, rfl⟩ := Int.eq_ofNat_of_zero_le a1
  obtain ⟨h, rfl⟩ := Int.eq_ofNat_of_zero_le (show 0 ≤ h by omega)
  have b1 : l ≤ h := by omega
  have b2 : h ≤ s.length := by omega
  simp only [Int.toNat_natCast]
  have hlen : ((s.take h).drop l).length = h - l := by rw [List.length_drop, List.length_take]; omega
  refine ⟨some (if s.length = l then ⟨b, 0, none⟩ else ⟨b, 0 + l * tp.size, none⟩), s.length - l, ?_, by rw [hlen]; exact hs.part l h b1 b2⟩
  intro n C ρ d t pos af g x lo hi hx hl hl0 hh hh0 w _
  rw [hlen]
  cases hi' : P.info? e with
  | none => rw [hi'] at hz; simp at hz
  | some i' =>
    rw [hi'] at hz
    simp at hz
    cases lo with
    | none =>
      have := hl0 rfl
      obtain rfl : l = 0 := by omega
      cases hi with
      | none =>
        have := hh0 rfl
        obtain rfl : h = s.length := by omega
        simp [execOp, hx, Instr.sliceAt, run_underlying ht, Instr.sureAddr, Instr.sliceBounds, sizeOf, typeInfo, hi', hz, addr_add]
      | some q =>
        obtain ⟨k, hq⟩ := hh q rfl
        simp [execOp, hx, hq, Instr.sliceAt, run_underlying ht, Instr.sureAddr, Instr.sliceBounds, Instr.sliceBound, asIntOf, b2, sizeOf, typeInfo, hi', hz, addr_add]
        try (by_cases q : s.length = 0 <;> simp [q])
    | some ql =>
      obtain ⟨k1, hq1⟩ := hl ql rfl
      cases hi with
      | none =>
        have := hh0 rfl
        obtain rfl : h = s.length := by omega
        simp [execOp, hx, hq1, Instr.sliceAt, run_underlying ht, Instr.sureAddr, Instr.sliceBounds, Instr.sliceBound, asIntOf, b1, sizeOf, typeInfo, hi', hz, addr_add]
        try (by_cases q : s.length = l <;> simp [q])
      | some q =>
        obtain ⟨k, hq⟩ := hh q rfl
        simp [execOp, hx, hq, hq1, Instr.sliceAt, run_underlying ht, Instr.sureAddr, Instr.sliceBounds, Instr.sliceBound, asIntOf, b1, b2, sizeOf, typeInfo, hi', hz, addr_add]
        try (by_cases q : s.length = l <;> simp [q])
theorem lt_cap {α : Type} {xs : List α} {i : Int} {m : Nat} (h : i < (xs.length : Nat)) (hl : xs.length = m) : i < (m : Nat) := by subst hl; exact h
end
end Go.Proofs.Ythoclljhjcfemaa
namespace Go.Proofs.Ythoclljhjcfemaa
open Go.RowKit
set_option linter.unusedVariables false
set_option linter.unusedSimpArgs false
set_option linter.unnecessarySimpa false
theorem Sep.ofBelow {E : En} {K : Hp} {L : List Atom} {w w' : World} (h : Sep E K L w) (b : Below w.heap.size w w') : Sep E K L w' := h.fr (Fr.of_below b)
/-- What is known of the globals. -/
def Gk (K : Hp) : Prop := ∃ m : Int, cellK K 0 0 = some (.int .i64 m)
theorem Gk.mono {K K' : Hp} (h : Gk K) (f : K.le K') : Gk K' := let ⟨m, h⟩ := h; ⟨m, cellK_le f h⟩
theorem Gk.of {W : World} (h : W.ShapedOpen Try.prog) : Gk (Hp.of W) :=
  let ⟨m, hm⟩ := Go.Proofs.cell_of_shapedOpen_int (zero := #[.int .i64 0]) (t := 3) h (of_decide_eq_true (by kernel_rfl)) (by kernel_rfl) rfl (by kernel_rfl) (by kernel_rfl) Try.underlying3
  ⟨m, cellK_of hm⟩
def joinF (xs : List (List UInt8)) (sep : List UInt8) : Option (List UInt8) := if (Lib.join xs sep).length ≤ 140737488355328 ∧ xs.length ≤ 140737488355328 then some (Lib.join xs sep) else none
theorem els_strs_eq {K : Hp} : ∀ {xs : List (List UInt8)} {cs : List Value}, Els K .str cs xs → cs = xs.map fun x => Value.string ⟨x.toArray⟩
  | [], cs, h => h
  | x :: xs, cs, h => by
    obtain ⟨es, r, rfl, h1, h2⟩ := h
    simp only [Is] at h1
    subst h1
    rw [els_strs_eq h2]; rfl
theorem strings_Join_ok {K : Hp} {xa : List (List UInt8)} {xb : List UInt8} {ad : Option Addr} {cp : Nat} (fa : Is K (.sl .str) [.slice ad xa.length cp] xa) {r : List UInt8} (h : joinF xa xb = some r) :
    Tr Try.prog 62 #[.slice ad xa.length cp, .string ⟨xb.toArray⟩] K [] (fun v K' L' => (∃ s1 : List UInt8, s1 = r ∧ v = .string ⟨s1.toArray⟩ ∧ L' = []) ∧ K = K') := by
  refine Tr.k (fun E w F hs => ?_)
  unfold joinF at h
  split at h
  · rename_i hlt
    cases h
    by_cases hx : xa = []
    · subst hx
      refine (Try.strings_Join_none ad cp ⟨xb.toArray⟩ w).mono ?_
      rintro e w' ⟨rfl, rfl⟩
      exact ⟨_, K, [], rfl, ⟨[], rfl, rfl, rfl⟩, Hp.le_refl K, hs⟩
    · have fa' := fa
      simp only [Is] at fa
      obtain ⟨ad', cp', e0, a1, a2, a3⟩ := fa
      simp only [List.cons.injEq, Value.slice.injEq, and_true] at e0
      obtain ⟨rfl, _, rfl⟩ := e0
      obtain ⟨b, o, rfl, a4⟩ := a3 hx
      obtain ⟨cs, c1, c2, c3⟩ := fa'.cells (by decide)
      obtain rfl := els_strs_eq c1
      have hc : ∀ (j : Nat) x, (xa.map fun x => (⟨x.toArray⟩ : ByteArray))[j]? = some x → w.cell? ⟨b, o + j, none⟩ = some (.string x) := fun j x hj => by
        have := c3 w hs.sub j (.string x) (by rw [List.getElem?_map] at hj ⊢; cases hq : xa[j]? with
          | none => rw [hq] at hj; simp at hj
          | some q => rw [hq] at hj; simp at hj ⊢; exact hj)
        rwa [addr_add] at this
      have hb : b < w.heap.size := by
        cases xa with
        | nil => exact absurd rfl hx
        | cons q xs =>
          have := hc 0 _ rfl
          unfold World.cell? at this
          simp only at this
          split at this
          · rename_i e; exact lt_of_block e
          · cases this
      have hm : (xa.map fun x => (⟨x.toArray⟩ : ByteArray)).map (·.data.toList) = xa := by simp [Function.comp_def]
      have hl : (xa.map fun x => (⟨x.toArray⟩ : ByteArray)).length = xa.length := by simp
      have := Try.strings_Join b o cp (xa.map fun x => (⟨x.toArray⟩ : ByteArray)) ⟨xb.toArray⟩ w hc hb (by rw [hl]; exact hlt.2) (by rw [hl]; exact a1) (by rw [hm]; exact hlt.1)
      rw [hl, hm] at this
      refine this.mono ?_
      rintro e w' ⟨rfl, hbl⟩
      exact ⟨_, K, [], rfl, ⟨_, rfl, rfl, rfl⟩, Hp.le_refl K, hs.ofBelow hbl⟩
  · cases h
end Go.Proofs.Ythoclljhjcfemaa
namespace Go.Proofs.Ythoclljhjcfemaa
open Go.RowKit
set_option linter.unusedVariables false
set_option linter.unnecessarySimpa false
set_option linter.unusedSimpArgs false
set_option linter.unusedSectionVars false
set_option maxRecDepth 20000
theorem inf92 : Inf Try.prog 92 (.agg #[.int .u8 0, .int .u8 0, .int .u8 0, .int .u8 0, .int .u8 0, .int .u8 0, .int .u8 0, .int .u8 0, .int .u8 0, .int .u8 0, .int .u8 0, .int .u8 0, .int .u8 0, .int .u8 0, .int .u8 0, .int .u8 0, .int .u8 0, .int .u8 0, .int .u8 0, .int .u8 0]) 20 20 := by unfold Inf; kernel_rfl
theorem sz5 : (Try.prog.info? 5).map (·.size) = some 1 := by kernel_rfl
theorem mixO : Try.prog.follows .mixedOrders = true := by kernel_rfl
noncomputable def fn_numeral_Text_l1  : (Int × (List Int) × Int) → Option ((Int × (List Int) × Int) ⊕ List UInt8) := fun ((i262, l263, i266) : (Int × (List Int) × Int)) => (getI l263 (IntKind.wrap .i64 (i266 - 1))).bind fun x295 => (some (l263.set (IntKind.wrap .i64 (i266 - 1)).toNat (IntKind.wrap .u8 (IntKind.wrap .i64 (48 + (Int.tmod i262 10)))))).bind fun z300 => cond (decide ((IntKind.wrap .i64 (Int.tdiv i262 10)) = 0)) ((subL z300 (IntKind.wrap .i64 (i266 - 1)) (((20 : Nat) : Int))).bind fun y308 => some (.inr (toU8 y308))) (some (.inl ((IntKind.wrap .i64 (Int.tdiv i262 10), z300, IntKind.wrap .i64 (i266 - 1)))))
noncomputable def fn_numeral_Text (xa : Int) : Option (List UInt8) :=
  cond (decide (xa < 0)) (some (([] : List UInt8))) (loop (fn_numeral_Text_l1) ((xa, ([0, 0, 0, 0, 0, 0, 0, 0, 0, 0, 0, 0, 0, 0, 0, 0, 0, 0, 0, 0] : List Int), 20)))
set_option maxRecDepth 100000 in
set_option maxHeartbeats 4000000 in
theorem numeral_Text_ok {K : Hp} {xa : Int}   {r : List UInt8} (h : fn_numeral_Text xa = some r) :
    Tr Try.prog 28 #[ii xa] K [] (fun v K' L' => (∃ (s157 : List UInt8), s157 = r ∧ .string ⟨s157.toArray⟩ = v ∧ L' = []) ∧ K = K') := by
 refine Tr.k <| Tr.of Try.func28 rfl Try.ntmps28 rfl fun E F => ?_
 unfold fn_numeral_Text at h
 refine cr <| ja (.string ⟨([] : List UInt8).toArray⟩) rfl <| J.nil <| CJ.seq <| CJ.seq <| CJ.region ?_
 refine jm (ii xa) rfl <| jv (.bool (decide (xa < 0))) (V.lss rfl rfl) <| J.nil <| cc rfl h (fun hc158 h => ?_) fun hc158 h => ?_
 · refine cr <| ja (.string ⟨([] : List UInt8).toArray⟩) rfl <| J.nil <| CJ.ret ?_
   obtain rfl := si h
   exact ⟨_, _, Res.one rfl rfl, ⟨([] : List UInt8), rfl, rfl, rfl⟩, (Hp.le_refl _), fun w hs => hs⟩
 refine CJ.skip <| cr <| jal inf92 [.int .u8 0, .int .u8 0, .int .u8 0, .int .u8 0, .int .u8 0, .int .u8 0, .int .u8 0, .int .u8 0, .int .u8 0, .int .u8 0, .int .u8 0, .int .u8 0, .int .u8 0, .int .u8 0, .int .u8 0, .int .u8 0, .int .u8 0, .int .u8 0, .int .u8 0, .int .u8 0] rfl fun b159 => ?_
 have hl160 : ([0, 0, 0, 0, 0, 0, 0, 0, 0, 0, 0, 0, 0, 0, 0, 0, 0, 0, 0, 0] : List Int).length = 20 := rfl
 refine J.by (fun w hs => Sep.arr (t := (.int .u8)) (xs := ([0, 0, 0, 0, 0, 0, 0, 0, 0, 0, 0, 0, 0, 0, 0, 0, 0, 0, 0, 0] : List Int)) ⟨_, _, rfl, rfl, ⟨_, _, rfl, rfl, ⟨_, _, rfl, rfl, ⟨_, _, rfl, rfl, ⟨_, _, rfl, rfl, ⟨_, _, rfl, rfl, ⟨_, _, rfl, rfl, ⟨_, _, rfl, rfl, ⟨_, _, rfl, rfl, ⟨_, _, rfl, rfl, ⟨_, _, rfl, rfl, ⟨_, _, rfl, rfl, ⟨_, _, rfl, rfl, ⟨_, _, rfl, rfl, ⟨_, _, rfl, rfl, ⟨_, _, rfl, rfl, ⟨_, _, rfl, rfl, ⟨_, _, rfl, rfl, ⟨_, _, rfl, rfl, ⟨_, _, rfl, rfl, rfl⟩⟩⟩⟩⟩⟩⟩⟩⟩⟩⟩⟩⟩⟩⟩⟩⟩⟩⟩⟩ hl160 rfl hs) <| J.nil <| cr <| ja (ii 20) rfl <| J.nil <| CJ.block ?_
 refine CJ.loop (fun s ρ K' L' => ∃ (i262 : Int) (l263 : (List Int)) (i266 : Int), (i262, l263, i266) = s ∧ Fits [(0, ii i262), (3, .pointer (some ⟨b159, 0, none⟩)), (4, ii i266)] ρ ∧ K = K' ∧ L' = Row Hp.nil 92 (.int .u8) (.slice (some ⟨b159, 0, none⟩) 20 20) l263 :: F) h ⟨xa, ([0, 0, 0, 0, 0, 0, 0, 0, 0, 0, 0, 0, 0, 0, 0, 0, 0, 0, 0, 0] : List Int), 20, rfl, ⟨rfl, rfl, rfl, trivial⟩, rfl, rfl⟩ ?_
 rintro s ρ _ _ r294 ⟨i262, l263, i266, rfl, hf292, rfl, rfl⟩ h291
 obtain ⟨ρ, rfl⟩ := hf292.ex
 refine CJ.wit Row.len fun hl265 => CJ.block <| cr <| jm (ii i266) rfl <| jv (ii (IntKind.wrap .i64 (i266 - 1))) (V.sub rfl rfl) <| ja (ii (IntKind.wrap .i64 (i266 - 1))) rfl ?_
 refine J.nil <| cr <| jm (ii (IntKind.wrap .i64 (i266 - 1))) rfl <| jm (ii i262) rfl <| jv (ii (Int.tmod i262 10)) (V.rem rfl rfl (by decide)) <| jv (ii (IntKind.wrap .i64 (48 + (Int.tmod i262 10)))) (V.add rfl rfl) ?_
 refine jv (.int .u8 (IntKind.wrap .u8 (IntKind.wrap .i64 (48 + (Int.tmod i262 10))))) (V.conv Try.underlying3 Try.underlying5 rfl) ?_
 obtain ⟨x295, hx296, h291⟩ := ob h291
 obtain ⟨p297, p298, p299⟩ := getI_some hx296
 refine jv _ (V.iadA Try.underlying92 sz5 rfl rfl p297 (lt_cap p299 hl265)) ?_
 obtain ⟨z300, hz301, h291⟩ := ob h291
 have e302 := Option.some.inj hz301
 have hl303 : z300.length = 20 := by rw [← e302, List.length_set]; exact hl265
 refine J.op rfl (A.storeR (ty := (.int .u8)) (q := 0) (y0 := IntKind.wrap .u8 (IntKind.wrap .i64 (48 + (Int.tmod i262 10)))) (zs := z300) sz5 rfl rfl rfl rfl rfl p298 (by simp [Tp.size]) (by decide) (by rintro _ rfl; exact rfl) e302) ?_
 rintro _ _ _ ⟨rfl, rfl, rfl⟩
 refine J.nil <| cr <| jm (ii i262) rfl <| jv (ii (IntKind.wrap .i64 (Int.tdiv i262 10))) (V.quo rfl rfl (by decide)) <| ja (ii (IntKind.wrap .i64 (Int.tdiv i262 10))) rfl <| J.nil ?_
 refine cr <| jm (ii (IntKind.wrap .i64 (Int.tdiv i262 10))) rfl <| jv (.bool (decide ((IntKind.wrap .i64 (Int.tdiv i262 10)) = 0))) (V.eql rfl rfl) <| J.nil <| cc rfl h291 (fun hc304 h291 => ?_) fun hc304 h291 => ?_
 · refine cr <| jm (ii (IntKind.wrap .i64 (i266 - 1))) rfl <| J.persist (Hp.nil_le _) (by decide) fun K305 hK306 f307 => ?_
   obtain ⟨y308, hy309, h291⟩ := ob h291
   obtain ⟨ad310, cp311, hv312, f313⟩ := V.subA (tp := (.int .u8)) Try.underlying92 sz5 hl303 f307 hy309
   refine jv (.slice ad310 y308.length cp311) (hv312 rfl (fun _ h => by cases h; exact ⟨_, rfl⟩) nofun nofun (fun _ => rfl)) <| jv (.string ⟨(toU8 y308).toArray⟩) (V.b2sK Try.underlying93 Try.underlying5 Try.underlying9 rfl f313 (Hp.le_refl _)) <| ja (.string ⟨(toU8 y308).toArray⟩) rfl <| J.nil <| CJ.ret ?_
   obtain rfl := si h291
   refine ⟨nofun, fun e => ?_⟩
   subst e
   exact ⟨_, _, Res.one rfl rfl, ⟨toU8 y308, rfl, rfl, rfl⟩, hK306, fun w hs => hs⟩
 refine CJ.skip ?_
 obtain rfl := si h291
 exact ⟨rfl, ⟨IntKind.wrap .i64 (Int.tdiv i262 10), z300, IntKind.wrap .i64 (i266 - 1), rfl, ⟨rfl, rfl, rfl, trivial⟩, rfl, rfl⟩⟩

noncomputable def fnr_ref01_Text : Nat → Int → Option (List UInt8)
  | 0, _ => none
  | fuel + 1, xa => cond (decide (xa < 0)) (some (([] : List UInt8))) (cond (decide (xa < 10)) ((subL ([48, 49, 50, 51, 52, 53, 54, 55, 56, 57] : List UInt8) xa (IntKind.wrap .i64 (xa + 1))).bind fun y37 => some (y37)) ((subL ([48, 49, 50, 51, 52, 53, 54, 55, 56, 57] : List UInt8) (Int.tmod xa 10) (IntKind.wrap .i64 ((Int.tmod xa 10) + 1))).bind fun y49 => (fnr_ref01_Text fuel (IntKind.wrap .i64 (Int.tdiv xa 10))).bind fun s53 => (app s53 y49).bind fun z57 => some (z57)))
noncomputable def fn_ref01_Text (xa : Int) : Option (List UInt8) := lev (fun n => fnr_ref01_Text n xa)
set_option maxRecDepth 100000 in
set_option maxHeartbeats 4000000 in
theorem ref01_Text_okr : ∀ (fuel : Nat) {K : Hp} {xa : Int}   {r : List UInt8} (h : fnr_ref01_Text fuel xa = some r),
    Tr Try.prog 31 #[ii xa] K [] (fun v K' L' => (∃ (s34 : List UInt8), s34 = r ∧ .string ⟨s34.toArray⟩ = v ∧ L' = []) ∧ K = K') := by
  intro fuel
  induction fuel with
  | zero => intro K xa r h; rw [fnr_ref01_Text] at h; cases h
  | succ fuel ih =>
    intro K xa r h
    refine Tr.k <| Tr.of Try.func31 rfl Try.ntmps31 rfl fun E F => ?_
    rw [fnr_ref01_Text] at h
    refine cr <| ja (.string ⟨([] : List UInt8).toArray⟩) rfl <| J.nil <| CJ.seq <| CJ.seq <| CJ.region ?_
    refine jm (ii xa) rfl <| jv (.bool (decide (xa < 0))) (V.lss rfl rfl) <| J.nil <| cc rfl h (fun hc35 h => ?_) fun hc35 h => ?_
    · refine cr <| ja (.string ⟨([] : List UInt8).toArray⟩) rfl <| J.nil <| CJ.ret ?_
      obtain rfl := si h
      exact ⟨_, _, Res.one rfl rfl, ⟨([] : List UInt8), rfl, rfl, rfl⟩, (Hp.le_refl _), fun w hs => hs⟩
    refine CJ.skip <| CJ.seq <| cr <| jm (ii xa) rfl <| jv (.bool (decide (xa < 10))) (V.lss rfl rfl) <| J.nil ?_
    refine cc rfl h (fun hc36 h => ?_) fun hc36 h => ?_
    · refine cr <| jm (ii xa) rfl <| jm (ii xa) rfl <| jv (ii (IntKind.wrap .i64 (xa + 1))) (V.add rfl rfl) ?_
      obtain ⟨y37, hy38, h⟩ := ob h
      refine jv (.string ⟨y37.toArray⟩) (V.subs Try.underlying9 rfl (fun _ h => by cases h; exact ⟨_, rfl⟩) nofun (fun _ h => by cases h; exact ⟨_, rfl⟩) nofun hy38) <| ja (.string ⟨y37.toArray⟩) rfl <| J.nil <| CJ.ret ?_
      obtain rfl := si h
      exact ⟨_, _, Res.one rfl rfl, ⟨y37, rfl, rfl, rfl⟩, (Hp.le_refl _), fun w hs => hs⟩
    refine CJ.skip <| CJ.seq <| CJ.mix [] [([0, 1, 3, 4, 5, 6, 7, 8], 2)] [9, 10] [] mixO (by decide +kernel) trivial rfl rfl rfl <| JM.cons <| qm (ii xa) rfl <| qv (ii (IntKind.wrap .i64 (Int.tdiv xa 10))) (V.quo rfl rfl (by decide)) <| qm (ii xa) rfl ?_
    refine qv (ii (Int.tmod xa 10)) (V.rem rfl rfl (by decide)) <| qm (ii xa) rfl <| qv (ii (Int.tmod xa 10)) (V.rem rfl rfl (by decide)) <| qv (ii (IntKind.wrap .i64 ((Int.tmod xa 10) + 1))) (V.add rfl rfl) ?_
    obtain ⟨y49, hy50, h⟩ := ob h
    refine qv (.string ⟨y49.toArray⟩) (V.subs Try.underlying9 rfl (fun _ h => by cases h; exact ⟨_, rfl⟩) nofun (fun _ h => by cases h; exact ⟨_, rfl⟩) nofun hy50) <| JQ.nil ?_
    obtain ⟨r51, hr52, h⟩ := ob h
    refine JA.op rfl (A.call (L1 := []) Try.call31 rfl (ih hr52) rfl rfl) ?_
    rintro _ _ _ ⟨v54, _, rfl, ⟨⟨s53, rfl, rfl, rfl⟩, rfl⟩, _, rfl⟩
    refine ⟨fun w hs => Hold.sub (Hp.le_refl _) trivial hs, ?_⟩
    refine JM.nil ?_
    obtain ⟨z57, hz58, h⟩ := ob h
    refine qv (.string ⟨z57.toArray⟩) (V.cat rfl rfl hz58) <| qa (.string ⟨z57.toArray⟩) rfl <| JQ.nil <| J.nil <| CJ.ret ?_
    obtain rfl := si h
    exact ⟨_, _, Res.one rfl rfl, ⟨z57, rfl, rfl, rfl⟩, (Hp.le_refl _), fun w hs => hs⟩
set_option maxRecDepth 100000 in
set_option maxHeartbeats 4000000 in
theorem ref01_Text_ok {K : Hp} {xa : Int}   {r : List UInt8} (h : fn_ref01_Text xa = some r) :
    Tr Try.prog 31 #[ii xa] K [] (fun v K' L' => (∃ (s34 : List UInt8), s34 = r ∧ .string ⟨s34.toArray⟩ = v ∧ L' = []) ∧ K = K') := by
  obtain ⟨n, hn⟩ := lev_some h
  exact ref01_Text_okr n  hn
variable [BldA]
theorem text1_is {P : Program} {f : Nat} {fn : Int → Option (List UInt8)} (ok : ∀ {K : Hp} {xa : Int} {r : List UInt8}, fn xa = some r → Tr P f #[ii xa] K [] (fun v K' L' => (∃ s : List UInt8, s = r ∧ .string ⟨s.toArray⟩ = v ∧ L' = []) ∧ K = K')) : SpecOk P ⟨f, ⟨[(0, .dat (.int .i64))], []⟩, [⟨[(0, .dat .str)], []⟩], fn⟩ := by
  intro x r hr vs u hu m K args hm hH hsl E w F hs
  have hu' : Sh.un ⟨[(0, .dat (.int .i64))], []⟩ (TL.list [Tp.int .i64] x) 0 = some ([(0, .int .i64 x)], ⟨[], 0, [], []⟩) := rfl
  rw [show (Spec.inn ⟨f, ⟨[(0, .dat (.int .i64))], []⟩, [⟨[(0, .dat .str)], []⟩], fn⟩).un (TL.list _ x) 0 = _ from hu'] at hu
  cases hu
  obtain ⟨v, q, rfl, h1, rfl⟩ := hsl
  obtain rfl : v = ii x := h1
  refine (ok (K := K) hr E w F hs).mono ?_
  rintro e w' ⟨v, K', L', rfl, ⟨⟨s, rfl, rfl, rfl⟩, rfl⟩, h1, h2⟩
  exact ⟨_, K, [], rfl, ⟨[(0, .str s)], ⟨[], 0, [], []⟩, m, rfl, List.prefix_rfl, hm, fun a h => (by cases h), rfl, rfl⟩, h1, h2⟩
theorem join_is {P : Program} {f : Nat} {fn : List (List UInt8) → List UInt8 → Option (List UInt8)} (ok : ∀ {K : Hp} {xa : List (List UInt8)} {xb : List UInt8} {ad : Option Addr} {cp : Nat} (fa : Is K (.sl .str) [.slice ad xa.length cp] xa) {r : List UInt8}, fn xa xb = some r → Tr P f #[.slice ad xa.length cp, .string ⟨xb.toArray⟩] K [] (fun v K' L' => (∃ s1 : List UInt8, s1 = r ∧ v = .string ⟨s1.toArray⟩ ∧ L' = []) ∧ K = K')) : SpecOk P ⟨f, ⟨[(0, .dat (.sl .str)), (1, .dat .str)], []⟩, [⟨[(0, .dat .str)], []⟩], fun x => fn x.1 x.2⟩ := by
  intro x r hr vs u hu m K args hm hH hsl E w F hs
  have hu' : Sh.un ⟨[(0, .dat (.sl .str)), (1, .dat .str)], []⟩ (TL.list [Tp.sl .str, Tp.str] x) 0 = some ([(0, .row .str x.1 (List.length (α := List UInt8) x.1)), (1, .str x.2)], ⟨[], 0, [], []⟩) := rfl
  rw [show (Spec.inn ⟨f, ⟨[(0, .dat (.sl .str)), (1, .dat .str)], []⟩, [⟨[(0, .dat .str)], []⟩], fun x => fn x.1 x.2⟩).un (TL.list _ x) 0 = _ from hu'] at hu
  cases hu
  obtain ⟨v, q, rfl, h1, v2, q2, rfl, h2, rfl⟩ := hsl
  obtain rfl : v2 = .string ⟨x.2.toArray⟩ := h2
  obtain ⟨fa, _⟩ := h1
  have fa0 := fa
  simp only [Is] at fa
  obtain ⟨ad, cp, e0, _⟩ := fa
  simp only [List.cons.injEq, and_true] at e0
  subst e0
  refine (ok (K := K) fa0 hr E w F hs).mono ?_
  rintro e w' ⟨v, K', L', rfl, ⟨⟨s, rfl, rfl, rfl⟩, rfl⟩, h1, h2⟩
  exact ⟨_, K, [], rfl, ⟨[(0, .str s)], ⟨[], 0, [], []⟩, m, rfl, List.prefix_rfl, hm, fun a h => (by cases h), rfl, rfl⟩, h1, h2⟩
noncomputable def sp_numeral_Text : Spec := ⟨28, ⟨[(0, .dat (.int .i64))], []⟩, [⟨[(0, .dat .str)], []⟩], fn_numeral_Text⟩
theorem numeral_Text_is : SpecOk Try.prog sp_numeral_Text := text1_is fun h => numeral_Text_ok h
noncomputable def ok_numeral_Text : OkSpec Try.prog := ⟨sp_numeral_Text, numeral_Text_is, Try.call28⟩
noncomputable def sp_ref01_Text : Spec := ⟨31, ⟨[(0, .dat (.int .i64))], []⟩, [⟨[(0, .dat .str)], []⟩], fn_ref01_Text⟩
theorem ref01_Text_is : SpecOk Try.prog sp_ref01_Text := text1_is fun h => ref01_Text_ok h
noncomputable def ok_ref01_Text : OkSpec Try.prog := ⟨sp_ref01_Text, ref01_Text_is, Try.call31⟩
noncomputable def sp_Join : Spec := ⟨62, ⟨[(0, .dat (.sl .str)), (1, .dat .str)], []⟩, [⟨[(0, .dat .str)], []⟩], fun x => joinF x.1 x.2⟩
theorem Join_is : SpecOk Try.prog sp_Join := join_is strings_Join_ok
noncomputable def ok_Join : OkSpec Try.prog := ⟨sp_Join, Join_is, Try.call62⟩
end Go.Proofs.Ythoclljhjcfemaa
namespace Go.Proofs.Ythoclljhjcfemaa
open Go.RowKit
set_option linter.unusedVariables false
set_option maxRecDepth 100000
set_option maxHeartbeats 4000000
instance nob : BldA := ⟨1000000000, fun b _ => Cl b 1000000000 [.pointer none, .slice none 0 0], fun h => h⟩

noncomputable def fn_slices_Clone_graph_Arc_graph_Arc (xa : (List (Int × Int))) : Option ((List (Int × Int))) :=
  nilb xa (some ([])) ((app (([] : List (Int × Int))) xa).bind fun z21 => some (z21))
noncomputable def h_slices_Clone_graph_Arc_graph_Arc : Hn Try.prog := .two 4 (.nil) (.nil)
noncomputable def sp_slices_Clone_graph_Arc_graph_Arc : Spec := ⟨46, ⟨[(0, .dat (.sl (.cons (.int .i64) (.one (.int .i64)))))], []⟩, [⟨[(0, .own 82 (.cons (.int .i64) (.one (.int .i64))))], []⟩], fun x => fn_slices_Clone_graph_Arc_graph_Arc x⟩
theorem slices_Clone_graph_Arc_graph_Arc_is : SpecOk Try.prog sp_slices_Clone_graph_Arc_graph_Arc := fn_is Try.func46 h_slices_Clone_graph_Arc_graph_Arc (by kernel_rfl) (by kernel_rfl)
noncomputable def ok_slices_Clone_graph_Arc_graph_Arc : OkSpec Try.prog := ⟨sp_slices_Clone_graph_Arc_graph_Arc, slices_Clone_graph_Arc_graph_Arc_is, Try.call46⟩

noncomputable def fn_graph_New_1 (xa : (Int × Int)) : Option Int :=
  some (xa.1)
noncomputable def h_graph_New_1 : Hn Try.prog := .nil
noncomputable def sp_graph_New_1 : Spec := ⟨48, ⟨[(0, .dat (.cons (.int .i64) (.one (.int .i64))))], []⟩, [⟨[(0, .dat (.int .i64))], []⟩], fun x => fn_graph_New_1 x⟩
theorem graph_New_1_is : SpecOk Try.prog sp_graph_New_1 := fn_is Try.func48 h_graph_New_1 (by kernel_rfl) (by kernel_rfl)
noncomputable def ok_graph_New_1 : OkSpec Try.prog := ⟨sp_graph_New_1, graph_New_1_is, Try.call48⟩

noncomputable def fn_slices_Clone_int_int (xa : (List Int)) : Option (List Int) :=
  nilb xa (some ([])) ((app ([] : List Int) xa).bind fun z21 => some (z21))
noncomputable def h_slices_Clone_int_int : Hn Try.prog := .two 4 (.nil) (.nil)
noncomputable def sp_slices_Clone_int_int : Spec := ⟨65, ⟨[(0, .dat (.sl (.int .i64)))], []⟩, [⟨[(0, .own 3 (.int .i64))], []⟩], fun x => fn_slices_Clone_int_int x⟩
theorem slices_Clone_int_int_is : SpecOk Try.prog sp_slices_Clone_int_int := fn_is Try.func65 h_slices_Clone_int_int (by kernel_rfl) (by kernel_rfl)
noncomputable def ok_slices_Clone_int_int : OkSpec Try.prog := ⟨sp_slices_Clone_int_int, slices_Clone_int_int_is, Try.call65⟩
noncomputable def fn_graph_indexed_ik_graph_New_1_l1 (xb : (List (Int × Int))) : (Int × (List Int)) → Option ((Int × (List Int)) ⊕ (List Int)) := fun ((i3454, l3455) : (Int × (List Int))) => cond (decide (i3454 < (((xb.length : Nat) : Int)))) ((getI xb i3454).bind fun x3564 => (fn_graph_New_1 (x3564.1, x3564.2)).bind fun i3636 => (getI l3455 (IntKind.wrap .i64 (i3636 + 1))).bind fun x3640 => (getI l3455 (IntKind.wrap .i64 (i3636 + 1))).bind fun x3647 => (some (l3455.set (IntKind.wrap .i64 (i3636 + 1)).toNat (IntKind.wrap .i64 (x3640 + 1)))).bind fun z3654 => some (.inl ((IntKind.wrap .i64 (i3454 + 1), z3654)))) (some (.inr (l3455)))
noncomputable def fn_graph_indexed_ik_graph_New_1_l2 (xa : Int) : (Int × (List Int)) → Option ((Int × (List Int)) ⊕ (List Int)) := fun ((i4049, l4050) : (Int × (List Int))) => cond (decide (i4049 < xa)) ((getI l4050 (IntKind.wrap .i64 (i4049 + 1))).bind fun x4216 => (getI l4050 i4049).bind fun x4223 => (getI l4050 (IntKind.wrap .i64 (i4049 + 1))).bind fun x4230 => (some (l4050.set (IntKind.wrap .i64 (i4049 + 1)).toNat (IntKind.wrap .i64 (x4216 + x4223)))).bind fun z4237 => some (.inl ((IntKind.wrap .i64 (i4049 + 1), z4237)))) (some (.inr (l4050)))
noncomputable def fn_graph_indexed_ik_graph_New_1_l3 (xb : (List (Int × Int))) : ((List Int) × Int × (List Int)) → Option (((List Int) × Int × (List Int)) ⊕ (List Int)) := fun ((l5309, i5314, l5315) : ((List Int) × Int × (List Int))) => cond (decide (i5314 < (((xb.length : Nat) : Int)))) ((getI xb i5314).bind fun x5430 => (fn_graph_New_1 (x5430.1, x5430.2)).bind fun i5442 => (getI l5309 i5442).bind fun x5488 => (getI l5315 x5488).bind fun x5495 => (some (l5315.set x5488.toNat i5314)).bind fun z5502 => (getI l5309 i5442).bind fun x5507 => (getI l5309 i5442).bind fun x5514 => (some (l5309.set i5442.toNat (IntKind.wrap .i64 (x5507 + 1)))).bind fun z5521 => some (.inl ((z5521, IntKind.wrap .i64 (i5314 + 1), z5502)))) (some (.inr (l5315)))
noncomputable def fn_graph_indexed_ik_graph_New_1 (xa : Int) (xb : (List (Int × Int))) : Option (((List Int) × (List Int))) :=
  (((mk (IntKind.wrap .i64 (xa + 1)) (IntKind.wrap .i64 (xa + 1)) 0 : Option (List Int)).bind fun z2975 => ((mk (((xb.length : Nat) : Int)) (((xb.length : Nat) : Int)) 0 : Option (List Int)).bind fun z2980 => some ((z2975, z2980))).bind fun x2992 => ((mk (((xb.length : Nat) : Int)) (((xb.length : Nat) : Int)) 0 : Option (List Int)).bind fun z2987 => some ((z2975, z2987))).bind fun y2993 => agr x2992 y2993 (some x2992)).bind fun x3038 => (((mk (((xb.length : Nat) : Int)) (((xb.length : Nat) : Int)) 0 : Option (List Int)).bind fun z2994 => ((mk (IntKind.wrap .i64 (xa + 1)) (IntKind.wrap .i64 (xa + 1)) 0 : Option (List Int)).bind fun z2999 => some ((z2999, z2994))).bind fun x3011 => ((mk (IntKind.wrap .i64 (xa + 1)) (IntKind.wrap .i64 (xa + 1)) 0 : Option (List Int)).bind fun z3006 => some ((z3006, z2994))).bind fun y3012 => agr x3011 y3012 (some x3011)).bind fun x3036 => (((mk (IntKind.wrap .i64 (xa + 1)) (IntKind.wrap .i64 (xa + 1)) 0 : Option (List Int)).bind fun z3014 => (mk (((xb.length : Nat) : Int)) (((xb.length : Nat) : Int)) 0 : Option (List Int)).bind fun z3019 => some ((z3014, z3019))).bind fun x3034 => ((mk (((xb.length : Nat) : Int)) (((xb.length : Nat) : Int)) 0 : Option (List Int)).bind fun z3024 => (mk (IntKind.wrap .i64 (xa + 1)) (IntKind.wrap .i64 (xa + 1)) 0 : Option (List Int)).bind fun z3029 => some ((z3029, z3024))).bind fun y3035 => agr x3034 y3035 (some x3034)).bind fun y3037 => agr x3036 y3037 (some x3036)).bind fun y3039 => agr x3038 y3039 (some x3038) : Option (((List Int) × (List Int)))).bind fun (l2900, l2905) => (loop (fn_graph_indexed_ik_graph_New_1_l1 xb) (0, l2900) : Option (List Int)).bind fun l3347 => (loop (fn_graph_indexed_ik_graph_New_1_l2 xa) (0, l3347) : Option (List Int)).bind fun l3948 => (fn_slices_Clone_int_int l3948).bind fun l4247 => (loop (fn_graph_indexed_ik_graph_New_1_l3 xb) (l4247, 0, l2905) : Option (List Int)).bind fun l5099 => some ((l3948, l5099))
noncomputable def h_graph_indexed_ik_graph_New_1 : Hn Try.prog := .tr (.still [0, 1, 3, 4] (.alt 2 (.alt 5 (.still [6] (.alt 7 (.alt 8 (.leaf []) .done) .done)) (.alt 7 (.alt 5 (.still [6] (.alt 8 (.leaf []) .done)) .done) .done)) (.alt 5 (.alt 2 (.still [6] (.alt 7 (.alt 8 (.leaf []) .done) .done)) (.alt 7 (.alt 2 (.still [6] (.alt 8 (.leaf []) .done)) .done) .done)) (.alt 7 (.alt 2 (.alt 5 (.still [6] (.alt 8 (.leaf []) .done)) .done) (.alt 5 (.alt 2 (.still [6] (.alt 8 (.leaf []) .done)) .done) .done)) .done)))) ⟨[(7, .ptr 0 0)], [⟨none, 97, [.own 3 (.int .i64), .own 3 (.int .i64)], false, false, none⟩]⟩ [] (.two 0 (.two 0 (.nil) (.nil)) (.two 0 (.two 0 (.nil) (.nil)) (.two 0 (.nil) (.nil)))) (.jn [(2, 1)] ⟨[], [⟨(some 2), 97, [.own 3 (.int .i64), .is 1 (.any)], false, false, none⟩, ⟨(some 8), 0, [], false, true, none⟩]⟩ [2, 3] (.lp ⟨[(24, .dat (.int .i64))], [⟨(some 2), 97, [.own 3 (.int .i64), .is 1 (.any)], false, false, none⟩, ⟨(some 8), 0, [], false, true, none⟩]⟩ (.tw 25 (.mix [([0, 1, 2, 3], 4)] [5, 6, 7, 8, 9] [10] [] (.cl ok_graph_New_1 [] (.nil))) (.nil))) (.jn [] ⟨[], [⟨(some 2), 97, [.own 3 (.int .i64), .is 1 (.any)], false, false, none⟩, ⟨(some 8), 0, [], false, true, none⟩]⟩ [2, 9] (.lp ⟨[(40, .dat (.int .i64))], [⟨(some 2), 97, [.own 3 (.int .i64), .is 1 (.any)], false, false, none⟩, ⟨(some 8), 0, [], false, true, none⟩]⟩ (.tw 41 (.mix [] [0, 1, 2, 3, 4, 5, 6, 7, 8, 9, 10, 11, 12] [13] [] (.nil)) (.nil))) (.per 12 13 (.cl ok_slices_Clone_int_int [] (.jn [(2, 0)] ⟨[(59, .any), (11, .any)], [⟨(some 2), 97, [.is 1 (.any), .own 3 (.int .i64)], false, false, none⟩, ⟨(some 17), 0, [], false, true, none⟩]⟩ [15, 2, 5] (.lp ⟨[(11, .own 3 (.int .i64)), (62, .dat (.int .i64))], [⟨(some 2), 97, [.is 1 (.any), .own 3 (.int .i64)], false, false, none⟩, ⟨(some 17), 0, [], false, true, none⟩]⟩ (.tw 63 (.cl ok_graph_New_1 [] (.mix [] [0, 1, 2, 3, 4, 5, 6, 7] [8] [] (.nil))) (.nil))) (.nil))))))
noncomputable def sp_graph_indexed_ik_graph_New_1 : Spec := ⟨47, ⟨[(0, .dat (.int .i64)), (1, .dat (.sl (.cons (.int .i64) (.one (.int .i64))))), (2, .fn 48 [])], []⟩, [⟨[(0, .agg [.dat (.sl (.int .i64)), .own 3 (.int .i64)])], []⟩], fun x => fn_graph_indexed_ik_graph_New_1 x.1 x.2⟩
theorem graph_indexed_ik_graph_New_1_is : SpecOk Try.prog sp_graph_indexed_ik_graph_New_1 := fn_is Try.func47 h_graph_indexed_ik_graph_New_1 (by kernel_rfl) (by kernel_rfl)
noncomputable def ok_graph_indexed_ik_graph_New_1 : OkSpec Try.prog := ⟨sp_graph_indexed_ik_graph_New_1, graph_indexed_ik_graph_New_1_is, Try.call47⟩

noncomputable def fn_graph_New_2 (xa : (Int × Int)) : Option Int :=
  some (xa.2)
noncomputable def h_graph_New_2 : Hn Try.prog := .nil
noncomputable def sp_graph_New_2 : Spec := ⟨49, ⟨[(0, .dat (.cons (.int .i64) (.one (.int .i64))))], []⟩, [⟨[(0, .dat (.int .i64))], []⟩], fun x => fn_graph_New_2 x⟩
theorem graph_New_2_is : SpecOk Try.prog sp_graph_New_2 := fn_is Try.func49 h_graph_New_2 (by kernel_rfl) (by kernel_rfl)
noncomputable def ok_graph_New_2 : OkSpec Try.prog := ⟨sp_graph_New_2, graph_New_2_is, Try.call49⟩
noncomputable def fn_graph_indexed_ik_graph_New_2_l1 (xb : (List (Int × Int))) : (Int × (List Int)) → Option ((Int × (List Int)) ⊕ (List Int)) := fun ((i3454, l3455) : (Int × (List Int))) => cond (decide (i3454 < (((xb.length : Nat) : Int)))) ((getI xb i3454).bind fun x3564 => (fn_graph_New_2 (x3564.1, x3564.2)).bind fun i3636 => (getI l3455 (IntKind.wrap .i64 (i3636 + 1))).bind fun x3640 => (getI l3455 (IntKind.wrap .i64 (i3636 + 1))).bind fun x3647 => (some (l3455.set (IntKind.wrap .i64 (i3636 + 1)).toNat (IntKind.wrap .i64 (x3640 + 1)))).bind fun z3654 => some (.inl ((IntKind.wrap .i64 (i3454 + 1), z3654)))) (some (.inr (l3455)))
noncomputable def fn_graph_indexed_ik_graph_New_2_l2 (xa : Int) : (Int × (List Int)) → Option ((Int × (List Int)) ⊕ (List Int)) := fun ((i4049, l4050) : (Int × (List Int))) => cond (decide (i4049 < xa)) ((getI l4050 (IntKind.wrap .i64 (i4049 + 1))).bind fun x4216 => (getI l4050 i4049).bind fun x4223 => (getI l4050 (IntKind.wrap .i64 (i4049 + 1))).bind fun x4230 => (some (l4050.set (IntKind.wrap .i64 (i4049 + 1)).toNat (IntKind.wrap .i64 (x4216 + x4223)))).bind fun z4237 => some (.inl ((IntKind.wrap .i64 (i4049 + 1), z4237)))) (some (.inr (l4050)))
noncomputable def fn_graph_indexed_ik_graph_New_2_l3 (xb : (List (Int × Int))) : ((List Int) × Int × (List Int)) → Option (((List Int) × Int × (List Int)) ⊕ (List Int)) := fun ((l5309, i5314, l5315) : ((List Int) × Int × (List Int))) => cond (decide (i5314 < (((xb.length : Nat) : Int)))) ((getI xb i5314).bind fun x5430 => (fn_graph_New_2 (x5430.1, x5430.2)).bind fun i5442 => (getI l5309 i5442).bind fun x5488 => (getI l5315 x5488).bind fun x5495 => (some (l5315.set x5488.toNat i5314)).bind fun z5502 => (getI l5309 i5442).bind fun x5507 => (getI l5309 i5442).bind fun x5514 => (some (l5309.set i5442.toNat (IntKind.wrap .i64 (x5507 + 1)))).bind fun z5521 => some (.inl ((z5521, IntKind.wrap .i64 (i5314 + 1), z5502)))) (some (.inr (l5315)))
noncomputable def fn_graph_indexed_ik_graph_New_2 (xa : Int) (xb : (List (Int × Int))) : Option (((List Int) × (List Int))) :=
  (((mk (IntKind.wrap .i64 (xa + 1)) (IntKind.wrap .i64 (xa + 1)) 0 : Option (List Int)).bind fun z2975 => ((mk (((xb.length : Nat) : Int)) (((xb.length : Nat) : Int)) 0 : Option (List Int)).bind fun z2980 => some ((z2975, z2980))).bind fun x2992 => ((mk (((xb.length : Nat) : Int)) (((xb.length : Nat) : Int)) 0 : Option (List Int)).bind fun z2987 => some ((z2975, z2987))).bind fun y2993 => agr x2992 y2993 (some x2992)).bind fun x3038 => (((mk (((xb.length : Nat) : Int)) (((xb.length : Nat) : Int)) 0 : Option (List Int)).bind fun z2994 => ((mk (IntKind.wrap .i64 (xa + 1)) (IntKind.wrap .i64 (xa + 1)) 0 : Option (List Int)).bind fun z2999 => some ((z2999, z2994))).bind fun x3011 => ((mk (IntKind.wrap .i64 (xa + 1)) (IntKind.wrap .i64 (xa + 1)) 0 : Option (List Int)).bind fun z3006 => some ((z3006, z2994))).bind fun y3012 => agr x3011 y3012 (some x3011)).bind fun x3036 => (((mk (IntKind.wrap .i64 (xa + 1)) (IntKind.wrap .i64 (xa + 1)) 0 : Option (List Int)).bind fun z3014 => (mk (((xb.length : Nat) : Int)) (((xb.length : Nat) : Int)) 0 : Option (List Int)).bind fun z3019 => some ((z3014, z3019))).bind fun x3034 => ((mk (((xb.length : Nat) : Int)) (((xb.length : Nat) : Int)) 0 : Option (List Int)).bind fun z3024 => (mk (IntKind.wrap .i64 (xa + 1)) (IntKind.wrap .i64 (xa + 1)) 0 : Option (List Int)).bind fun z3029 => some ((z3029, z3024))).bind fun y3035 => agr x3034 y3035 (some x3034)).bind fun y3037 => agr x3036 y3037 (some x3036)).bind fun y3039 => agr x3038 y3039 (some x3038) : Option (((List Int) × (List Int)))).bind fun (l2900, l2905) => (loop (fn_graph_indexed_ik_graph_New_2_l1 xb) (0, l2900) : Option (List Int)).bind fun l3347 => (loop (fn_graph_indexed_ik_graph_New_2_l2 xa) (0, l3347) : Option (List Int)).bind fun l3948 => (fn_slices_Clone_int_int l3948).bind fun l4247 => (loop (fn_graph_indexed_ik_graph_New_2_l3 xb) (l4247, 0, l2905) : Option (List Int)).bind fun l5099 => some ((l3948, l5099))
noncomputable def h_graph_indexed_ik_graph_New_2 : Hn Try.prog := .tr (.still [0, 1, 3, 4] (.alt 2 (.alt 5 (.still [6] (.alt 7 (.alt 8 (.leaf []) .done) .done)) (.alt 7 (.alt 5 (.still [6] (.alt 8 (.leaf []) .done)) .done) .done)) (.alt 5 (.alt 2 (.still [6] (.alt 7 (.alt 8 (.leaf []) .done) .done)) (.alt 7 (.alt 2 (.still [6] (.alt 8 (.leaf []) .done)) .done) .done)) (.alt 7 (.alt 2 (.alt 5 (.still [6] (.alt 8 (.leaf []) .done)) .done) (.alt 5 (.alt 2 (.still [6] (.alt 8 (.leaf []) .done)) .done) .done)) .done)))) ⟨[(7, .ptr 0 0)], [⟨none, 97, [.own 3 (.int .i64), .own 3 (.int .i64)], false, false, none⟩]⟩ [] (.two 0 (.two 0 (.nil) (.nil)) (.two 0 (.two 0 (.nil) (.nil)) (.two 0 (.nil) (.nil)))) (.jn [(2, 1)] ⟨[], [⟨(some 2), 97, [.own 3 (.int .i64), .is 1 (.any)], false, false, none⟩, ⟨(some 8), 0, [], false, true, none⟩]⟩ [2, 3] (.lp ⟨[(24, .dat (.int .i64))], [⟨(some 2), 97, [.own 3 (.int .i64), .is 1 (.any)], false, false, none⟩, ⟨(some 8), 0, [], false, true, none⟩]⟩ (.tw 25 (.mix [([0, 1, 2, 3], 4)] [5, 6, 7, 8, 9] [10] [] (.cl ok_graph_New_2 [] (.nil))) (.nil))) (.jn [] ⟨[], [⟨(some 2), 97, [.own 3 (.int .i64), .is 1 (.any)], false, false, none⟩, ⟨(some 8), 0, [], false, true, none⟩]⟩ [2, 9] (.lp ⟨[(40, .dat (.int .i64))], [⟨(some 2), 97, [.own 3 (.int .i64), .is 1 (.any)], false, false, none⟩, ⟨(some 8), 0, [], false, true, none⟩]⟩ (.tw 41 (.mix [] [0, 1, 2, 3, 4, 5, 6, 7, 8, 9, 10, 11, 12] [13] [] (.nil)) (.nil))) (.per 12 13 (.cl ok_slices_Clone_int_int [] (.jn [(2, 0)] ⟨[(59, .any), (11, .any)], [⟨(some 2), 97, [.is 1 (.any), .own 3 (.int .i64)], false, false, none⟩, ⟨(some 17), 0, [], false, true, none⟩]⟩ [15, 2, 5] (.lp ⟨[(11, .own 3 (.int .i64)), (62, .dat (.int .i64))], [⟨(some 2), 97, [.is 1 (.any), .own 3 (.int .i64)], false, false, none⟩, ⟨(some 17), 0, [], false, true, none⟩]⟩ (.tw 63 (.cl ok_graph_New_2 [] (.mix [] [0, 1, 2, 3, 4, 5, 6, 7] [8] [] (.nil))) (.nil))) (.nil))))))
noncomputable def sp_graph_indexed_ik_graph_New_2 : Spec := ⟨47, ⟨[(0, .dat (.int .i64)), (1, .dat (.sl (.cons (.int .i64) (.one (.int .i64))))), (2, .fn 49 [])], []⟩, [⟨[(0, .agg [.dat (.sl (.int .i64)), .own 3 (.int .i64)])], []⟩], fun x => fn_graph_indexed_ik_graph_New_2 x.1 x.2⟩
theorem graph_indexed_ik_graph_New_2_is : SpecOk Try.prog sp_graph_indexed_ik_graph_New_2 := fn_is Try.func47 h_graph_indexed_ik_graph_New_2 (by kernel_rfl) (by kernel_rfl)
noncomputable def ok_graph_indexed_ik_graph_New_2 : OkSpec Try.prog := ⟨sp_graph_indexed_ik_graph_New_2, graph_indexed_ik_graph_New_2_is, Try.call47⟩
noncomputable def fn_graph_New_l1 (xa : Int) (xb : (List (Int × Int))) : Int → Option (Int ⊕ (Unit ⊕ ((Option (Int × (List (Int × Int)) × ((List Int) × (List Int)) × ((List Int) × (List Int)))) × Int))) := fun (i257 : Int) => cond (decide (i257 < (((xb.length : Nat) : Int)))) ((getI xb i257).bind fun x279 => cond ((((decide (x279.1 < 0)) || (decide (xa ≤ x279.1))) || (decide (x279.2 < 0))) || (decide (xa ≤ x279.2))) (some (.inr ((.inr ((none, 7)))))) (some (.inl (IntKind.wrap .i64 (i257 + 1))))) (some (.inr ((.inl ()))))
noncomputable def fn_graph_New (xa : Int) (xb : (List (Int × Int))) : Option (((Option (Int × (List (Int × Int)) × ((List Int) × (List Int)) × ((List Int) × (List Int)))) × Int)) :=
  cond (decide (xa < 0)) (some ((none, 2))) (cond ((decide (1048576 < xa)) || (decide (67108864 < (((xb.length : Nat) : Int))))) (some ((none, 5))) ((loop (fn_graph_New_l1 xa xb) 0 : Option (Unit ⊕ ((Option (Int × (List (Int × Int)) × ((List Int) × (List Int)) × ((List Int) × (List Int)))) × Int))).bind fun o => match o with | .inr r => some r | .inl () => (fn_slices_Clone_graph_Arc_graph_Arc xb).bind fun l298 => (fn_graph_indexed_ik_graph_New_1 xa l298).bind fun (l312, l313) => (fn_graph_indexed_ik_graph_New_2 xa l298).bind fun (l326, l327) => some (((some ((xa, l298, (l312, l313), (l326, l327)))), 0))))
noncomputable def h_graph_New : Hn Try.prog := .tw 10 (.nil) (.gp 3 (.tw 17 (.nil) (.jx [] ⟨[], []⟩ [] (.lp ⟨[(20, .dat (.int .i64))], []⟩ (.tw 21 (.gp 4 (.gp 3 (.gp 4 (.tw 43 (.nil) (.nil))))) (.nil))) (.cl ok_slices_Clone_graph_Arc_graph_Arc [] (.per 0 1 (.cl ok_graph_indexed_ik_graph_New_1 [] (.cl ok_graph_indexed_ik_graph_New_2 [] (.per 4 5 (.per 7 8 (.perb 2 9 (.cons (.int .i64) (.cons (.sl (.cons (.int .i64) (.one (.int .i64)))) (.cons (.cons (.sl (.int .i64)) (.one (.sl (.int .i64)))) (.one (.cons (.sl (.int .i64)) (.one (.sl (.int .i64)))))))) (.nil)))))))))))
noncomputable def sp_graph_New : Spec := ⟨36, ⟨[(0, .dat (.int .i64)), (1, .dat (.sl (.cons (.int .i64) (.one (.int .i64)))))], []⟩, [⟨[(0, .tup [.dat (.ptr (.cons (.int .i64) (.cons (.sl (.cons (.int .i64) (.one (.int .i64)))) (.cons (.cons (.sl (.int .i64)) (.one (.sl (.int .i64)))) (.one (.cons (.sl (.int .i64)) (.one (.sl (.int .i64))))))))), .dat (.int .i64)])], []⟩], fun x => fn_graph_New x.1 x.2⟩
theorem graph_New_is : SpecOk Try.prog sp_graph_New := fn_is Try.func36 h_graph_New (by kernel_rfl) (by kernel_rfl)
noncomputable def ok_graph_New : OkSpec Try.prog := ⟨sp_graph_New, graph_New_is, Try.call36⟩
noncomputable def fn_cons_Graph_l1 (xb : (List (Int × Int × (Int × Int × Int × Int × Bool)))) : ((List (Int × Int)) × Int) → Option (((List (Int × Int)) × Int) ⊕ (List (Int × Int))) := fun ((l646, i651) : ((List (Int × Int)) × Int)) => cond (decide (i651 < (((xb.length : Nat) : Int)))) ((getI xb i651).bind fun x683 => (getI l646 i651).bind fun x693 => (some (l646.set i651.toNat (x683.1, x683.2.1))).bind fun z700 => some (.inl ((z700, IntKind.wrap .i64 (i651 + 1))))) (some (.inr (l646)))
noncomputable def fn_cons_Graph (xa : (Int × Int × (List (Int × Int)) × (List (List (Int × Bool))) × (List (Int × Bool)) × (List (Int × (List (Int × Int)) × (List (List (Int × Bool))) × (List (Int × Bool)))) × (List ((List (Int × Int × Int × Int × Bool)) × (Int × Int × Int × (List Int) × (List Int) × (List Int)))))) (xb : (List (Int × Int × (Int × Int × Int × Int × Bool)))) : Option ((Option (Int × (List (Int × Int)) × ((List Int) × (List Int)) × ((List Int) × (List Int))))) :=
  (mk (((xb.length : Nat) : Int)) (((xb.length : Nat) : Int)) (0, 0) : Option (List (Int × Int))).bind fun z362 => (loop (fn_cons_Graph_l1 xb) (z362, 0) : Option ((List (Int × Int)))).bind fun l589 => (fn_graph_New xa.2.1 l589).bind fun (p710, i711) => some (p710)
noncomputable def h_cons_Graph : Hn Try.prog := .jn [] ⟨[(5, .own 82 (.cons (.int .i64) (.one (.int .i64)))), (12, .any)], []⟩ [2] (.lp ⟨[(5, .own 82 (.cons (.int .i64) (.one (.int .i64)))), (15, .dat (.int .i64))], []⟩ (.tw 16 (.nil) (.nil))) (.per 4 5 (.cl ok_graph_New [] (.nil)))
noncomputable def sp_cons_Graph : Spec := ⟨19, ⟨[(0, .dat (.cons (.int .i64) (.cons (.int .i64) (.cons (.sl (.cons (.int .i64) (.one (.int .i64)))) (.cons (.sl (.one (.sl (.cons (.int .i64) (.one .bool))))) (.cons (.one (.sl (.cons (.int .i64) (.one .bool)))) (.cons (.sl (.cons (.int .i64) (.cons (.sl (.cons (.int .i64) (.one (.int .i64)))) (.cons (.sl (.one (.sl (.cons (.int .i64) (.one .bool))))) (.one (.one (.sl (.cons (.int .i64) (.one .bool))))))))) (.one (.sl (.cons (.sl (.cons (.int .i64) (.cons (.int .i64) (.cons (.int .i64) (.cons (.int .i64) (.one .bool)))))) (.one (.cons (.int .i64) (.cons (.int .i64) (.cons (.int .i64) (.cons (.sl (.int .i64)) (.cons (.sl (.int .i64)) (.one (.sl (.int .i64))))))))))))))))))), (1, .dat (.sl (.cons (.int .i64) (.cons (.int .i64) (.one (.cons (.int .i64) (.cons (.int .i64) (.cons (.int .i64) (.cons (.int .i64) (.one .bool))))))))))], []⟩, [⟨[(0, .dat (.ptr (.cons (.int .i64) (.cons (.sl (.cons (.int .i64) (.one (.int .i64)))) (.cons (.cons (.sl (.int .i64)) (.one (.sl (.int .i64)))) (.one (.cons (.sl (.int .i64)) (.one (.sl (.int .i64))))))))))], []⟩], fun x => fn_cons_Graph x.1 x.2⟩
theorem cons_Graph_is : SpecOk Try.prog sp_cons_Graph := fn_is Try.func19 h_cons_Graph (by kernel_rfl) (by kernel_rfl)
noncomputable def ok_cons_Graph : OkSpec Try.prog := ⟨sp_cons_Graph, cons_Graph_is, Try.call19⟩

noncomputable def fn_graph_Graph_Nodes (xa : (Option (Int × (List (Int × Int)) × ((List Int) × (List Int)) × ((List Int) × (List Int))))) : Option Int :=
  cond (xa.isNone) (some (0)) ((xa : Option (Int × (List (Int × Int)) × ((List Int) × (List Int)) × ((List Int) × (List Int)))).bind fun y11 => some (y11.1))
noncomputable def h_graph_Graph_Nodes : Hn Try.prog := .tw 4 (.nil) (.nil)
noncomputable def sp_graph_Graph_Nodes : Spec := ⟨45, ⟨[(0, .dat (.ptr (.cons (.int .i64) (.cons (.sl (.cons (.int .i64) (.one (.int .i64)))) (.cons (.cons (.sl (.int .i64)) (.one (.sl (.int .i64)))) (.one (.cons (.sl (.int .i64)) (.one (.sl (.int .i64))))))))))], []⟩, [⟨[(0, .dat (.int .i64))], []⟩], fun x => fn_graph_Graph_Nodes x⟩
theorem graph_Graph_Nodes_is : SpecOk Try.prog sp_graph_Graph_Nodes := fn_is Try.func45 h_graph_Graph_Nodes (by kernel_rfl) (by kernel_rfl)
noncomputable def ok_graph_Graph_Nodes : OkSpec Try.prog := ⟨sp_graph_Graph_Nodes, graph_Graph_Nodes_is, Try.call45⟩

noncomputable def fn_math_bits_Mul64 (xa : Int) (xb : Int) : Option (Int × Int) :=
  some ((IntKind.wrap .u64 ((IntKind.wrap .u64 ((IntKind.wrap .u64 ((Int.fdiv xa (2 ^ (min (Int.toNat 32) (IntKind.bits .u64)))) * (Int.fdiv xb (2 ^ (min (Int.toNat 32) (IntKind.bits .u64)))))) + (Int.fdiv (IntKind.wrap .u64 ((IntKind.wrap .u64 ((Int.fdiv xa (2 ^ (min (Int.toNat 32) (IntKind.bits .u64)))) * (IntKind.wrap .u64 ((BitVec.ofInt (IntKind.bits .u64) xb &&& BitVec.ofInt (IntKind.bits .u64) 4294967295).toNat : Int)))) + (Int.fdiv (IntKind.wrap .u64 ((IntKind.wrap .u64 ((BitVec.ofInt (IntKind.bits .u64) xa &&& BitVec.ofInt (IntKind.bits .u64) 4294967295).toNat : Int)) * (IntKind.wrap .u64 ((BitVec.ofInt (IntKind.bits .u64) xb &&& BitVec.ofInt (IntKind.bits .u64) 4294967295).toNat : Int)))) (2 ^ (min (Int.toNat 32) (IntKind.bits .u64)))))) (2 ^ (min (Int.toNat 32) (IntKind.bits .u64)))))) + (Int.fdiv (IntKind.wrap .u64 ((IntKind.wrap .u64 ((BitVec.ofInt (IntKind.bits .u64) (IntKind.wrap .u64 ((IntKind.wrap .u64 ((Int.fdiv xa (2 ^ (min (Int.toNat 32) (IntKind.bits .u64)))) * (IntKind.wrap .u64 ((BitVec.ofInt (IntKind.bits .u64) xb &&& BitVec.ofInt (IntKind.bits .u64) 4294967295).toNat : Int)))) + (Int.fdiv (IntKind.wrap .u64 ((IntKind.wrap .u64 ((BitVec.ofInt (IntKind.bits .u64) xa &&& BitVec.ofInt (IntKind.bits .u64) 4294967295).toNat : Int)) * (IntKind.wrap .u64 ((BitVec.ofInt (IntKind.bits .u64) xb &&& BitVec.ofInt (IntKind.bits .u64) 4294967295).toNat : Int)))) (2 ^ (min (Int.toNat 32) (IntKind.bits .u64)))))) &&& BitVec.ofInt (IntKind.bits .u64) 4294967295).toNat : Int)) + (IntKind.wrap .u64 ((IntKind.wrap .u64 ((BitVec.ofInt (IntKind.bits .u64) xa &&& BitVec.ofInt (IntKind.bits .u64) 4294967295).toNat : Int)) * (Int.fdiv xb (2 ^ (min (Int.toNat 32) (IntKind.bits .u64)))))))) (2 ^ (min (Int.toNat 32) (IntKind.bits .u64))))), IntKind.wrap .u64 (xa * xb)))
noncomputable def h_math_bits_Mul64 : Hn Try.prog := .nil
noncomputable def sp_math_bits_Mul64 : Spec := ⟨77, ⟨[(0, .dat (.int .u64)), (1, .dat (.int .u64))], []⟩, [⟨[(0, .tup [.dat (.int .u64), .dat (.int .u64)])], []⟩], fun x => fn_math_bits_Mul64 x.1 x.2⟩
theorem math_bits_Mul64_is : SpecOk Try.prog sp_math_bits_Mul64 := fn_is Try.func77 h_math_bits_Mul64 (by kernel_rfl) (by kernel_rfl)
noncomputable def ok_math_bits_Mul64 : OkSpec Try.prog := ⟨sp_math_bits_Mul64, math_bits_Mul64_is, Try.call77⟩

noncomputable def fn_math_bits_Mul (xa : Int) (xb : Int) : Option (Int × Int) :=
  (fn_math_bits_Mul64 xa xb).bind fun (i13, i14) => some ((i13, i14))
noncomputable def h_math_bits_Mul : Hn Try.prog := .cl ok_math_bits_Mul64 [] (.nil)
noncomputable def sp_math_bits_Mul : Spec := ⟨66, ⟨[(0, .dat (.int .u64)), (1, .dat (.int .u64))], []⟩, [⟨[(0, .tup [.dat (.int .u64), .dat (.int .u64)])], []⟩], fun x => fn_math_bits_Mul x.1 x.2⟩
theorem math_bits_Mul_is : SpecOk Try.prog sp_math_bits_Mul := fn_is Try.func66 h_math_bits_Mul (by kernel_rfl) (by kernel_rfl)
noncomputable def ok_math_bits_Mul : OkSpec Try.prog := ⟨sp_math_bits_Mul, math_bits_Mul_is, Try.call66⟩
noncomputable def fn_slices_Repeat_int_int_l1  : ((List Int) × Int) → Option (((List Int) × Int) ⊕ (List Int)) := fun ((l359, i364) : ((List Int) × Int)) => cond (decide (i364 < (((l359.length : Nat) : Int)))) ((subL l359 i364 (((l359.length : Nat) : Int))).bind fun _ => (subL l359 0 i364).bind fun _ => (some (cpy l359 ((i364 : Int).toNat) ((List.drop (0 : Int).toNat (List.take (i364 : Int).toNat l359)).take (((((l359.length : Nat) : Int) : Int).toNat) - (i364 : Int).toNat)))).bind fun z388 => some (.inl ((z388, IntKind.wrap .i64 (i364 + (((min (List.drop (0 : Int).toNat (List.take (i364 : Int).toNat l359)).length (((((l359.length : Nat) : Int) : Int).toNat) - (i364 : Int).toNat) : Nat) : Int))))))) (some (.inr (l359)))
noncomputable def fn_slices_Repeat_int_int (xa : (List Int)) (xb : Int) : Option (List Int) :=
  (cond (decide (xb < 0)) (none) (some (())) : Option Unit).bind fun () => (fn_math_bits_Mul (IntKind.wrap .u64 (((xa.length : Nat) : Int))) (IntKind.wrap .u64 xb)).bind fun (i202, i203) => (cond ((decide (0 < i202)) || (decide (9223372036854775807 < i203))) (none) (some (())) : Option Unit).bind fun () => (mk (IntKind.wrap .i64 i203) (IntKind.wrap .i64 i203) 0 : Option (List Int)).bind fun z213 => (some (cpy z213 ((0 : Int).toNat) (xa.take (z213.length - (0 : Int).toNat)))).bind fun z218 => (loop (fn_slices_Repeat_int_int_l1) ((z218, ((min xa.length (z213.length - (0 : Int).toNat) : Nat) : Int))) : Option (List Int)).bind fun l330 => some (l330)
noncomputable def h_slices_Repeat_int_int : Hn Try.prog := .pl (.sq [] ⟨[], []⟩ [] (.tw 10 (.nil) (.nil)) (.cl ok_math_bits_Mul [] (.sq [] ⟨[], []⟩ [] (.gp 2 (.tw 26 (.nil) (.nil))) (.jn [] ⟨[(7, .own 3 (.int .i64)), (30, .any), (31, .any)], []⟩ [0] (.lp ⟨[(7, .own 3 (.int .i64)), (8, .dat (.int .i64))], []⟩ (.tw 37 (.mix [([0, 1, 2, 3, 4, 5, 6], 7)] [8, 9] [] [3] (.nil)) (.nil))) (.nil)))))
noncomputable def sp_slices_Repeat_int_int : Spec := ⟨50, ⟨[(0, .dat (.sl (.int .i64))), (1, .dat (.int .i64))], []⟩, [⟨[(0, .own 3 (.int .i64))], []⟩], fun x => fn_slices_Repeat_int_int x.1 x.2⟩
theorem slices_Repeat_int_int_is : SpecOk Try.prog sp_slices_Repeat_int_int := fn_is Try.func50 h_slices_Repeat_int_int (by kernel_rfl) (by kernel_rfl)
noncomputable def ok_slices_Repeat_int_int : OkSpec Try.prog := ⟨sp_slices_Repeat_int_int, slices_Repeat_int_int_is, Try.call50⟩

noncomputable def fn_bfs_Tree_reach_p0ii_rrn (xb : Int) (xc : Int) (qa0 : (List Int)) (qa1 : (List Int)) : Option (((List Int) × (List Int) × (List (List Int)))) :=
  (getI qa0 xb).bind fun x88 => (some (qa0.set xb.toNat xc)).bind fun z95 => (cond (decide (xc = 0)) ((app ([] : List (List Int)) (([[]] : List (List Int)) : List (List Int))).bind fun z112 => some (z112)) (some ([])) : Option ((List (List Int)))).bind fun l108 => (getI l108 xc).bind fun x114 => (getI l108 xc).bind fun _ => (chkI xc xc).bind fun _ => (app x114 ([xb] : List Int)).bind fun z157 => (getI l108 xc).bind fun _ => (chkI xc xc).bind fun _ => some ((z95, qa1, l108.set xc.toNat z157))
noncomputable def h_bfs_Tree_reach_p0ii_rrn : Hn Try.prog := .pl (.sq [(0, 0), (0, 1)] ⟨[], [⟨(some 0), 105, [.is 1 (.any), .is 2 (.any), .od (.row 46 (.row 3 (.dat (.int .i64))))], false, false, none⟩, ⟨(some 7), 0, [], false, true, none⟩, ⟨(some 8), 0, [], false, true, none⟩]⟩ [0] (.tw 19 (.ot (.row 3 (.dat (.int .i64))) (.ot (.row 3 (.dat (.int .i64))) (.nil))) (.nil)) (.opp [9] 9 38 (.mix [([0, 1, 2, 3, 4, 5, 6, 7, 8, 9, 10, 11, 12], 13), ([], 14)] [15] [16] [13] (.cls 9 19 (.nil)))))
noncomputable def sp_bfs_Tree_reach_p0ii_rrn : Spec := ⟨51, ⟨[(0, .ptr 0 0), (1, .dat (.int .i64)), (2, .dat (.int .i64))], [⟨none, 105, [.own 3 (.int .i64), .own 3 (.int .i64), .nils], false, false, none⟩]⟩, [⟨[], [⟨(some 0), 105, [.own 3 (.int .i64), .own 3 (.int .i64), .od (.row 46 (.row 3 (.dat (.int .i64))))], false, false, none⟩]⟩], fun x => fn_bfs_Tree_reach_p0ii_rrn x.1 x.2.1 x.2.2.1 x.2.2.2⟩
theorem bfs_Tree_reach_p0ii_rrn_is : SpecOk Try.prog sp_bfs_Tree_reach_p0ii_rrn := fn_is Try.func51 h_bfs_Tree_reach_p0ii_rrn (by kernel_rfl) (by kernel_rfl)
noncomputable def ok_bfs_Tree_reach_p0ii_rrn : OkSpec Try.prog := ⟨sp_bfs_Tree_reach_p0ii_rrn, bfs_Tree_reach_p0ii_rrn_is, Try.call51⟩

noncomputable def fn_stack_Queue_int_grow_p0_nii (qa1 : Int) (qa2 : Int) : Option (List Int) :=
  (mk (IntKind.wrap .i64 ((IntKind.wrap .i64 (2 * 0)) + 1)) (IntKind.wrap .i64 ((IntKind.wrap .i64 (2 * 0)) + 1)) 0 : Option (List Int)).bind fun z15 => (subL ([] : List Unit) qa1 0).bind fun _ => (some (cpy z15 ((0 : Int).toNat) (([] : List Int).take (z15.length - (0 : Int).toNat)))).bind fun z20 => (subL z20 (((min ([] : List Int).length (z15.length - (0 : Int).toNat) : Nat) : Int)) (((z15.length : Nat) : Int))).bind fun _ => (subL ([] : List Unit) 0 qa1).bind fun _ => (some (cpy z20 ((((min ([] : List Int).length (z15.length - (0 : Int).toNat) : Nat) : Int) : Int).toNat) (([] : List Int).take (((((z15.length : Nat) : Int) : Int).toNat) - (((min ([] : List Int).length (z15.length - (0 : Int).toNat) : Nat) : Int) : Int).toNat)))).bind fun z22 => some (z22)
noncomputable def h_stack_Queue_int_grow_p0_nii : Hn Try.prog := .mix [] [0, 1, 2, 3, 4, 5, 6, 7, 8, 9] [10, 11] [] (.mix [] [0, 1, 2, 3, 4, 5, 6, 7, 8, 9, 10, 11] [12] [] (.nil))
noncomputable def sp_stack_Queue_int_grow_p0_nii : Spec := ⟨67, ⟨[(0, .ptr 0 0)], [⟨none, 107, [.nils, .dat (.int .i64), .is 1 (.dat (.int .i64))], false, false, none⟩, ⟨none, 0, [], false, true, none⟩]⟩, [⟨[], [⟨(some 0), 107, [.own 3 (.int .i64), .lit (.int .i64 0), .is 1 (.any)], false, false, none⟩, ⟨(some 1), 0, [], false, true, none⟩]⟩], fun x => fn_stack_Queue_int_grow_p0_nii x.1 x.2⟩
theorem stack_Queue_int_grow_p0_nii_is : SpecOk Try.prog sp_stack_Queue_int_grow_p0_nii := fn_is Try.func67 h_stack_Queue_int_grow_p0_nii (by kernel_rfl) (by kernel_rfl)
noncomputable def ok_stack_Queue_int_grow_p0_nii : OkSpec Try.prog := ⟨sp_stack_Queue_int_grow_p0_nii, stack_Queue_int_grow_p0_nii_is, Try.call67⟩

noncomputable def fn_stack_Queue_int_grow_p0_rii (qa0 : (List Int)) (qa1 : Int) (qa2 : Int) : Option (List Int) :=
  (mk (IntKind.wrap .i64 ((IntKind.wrap .i64 (2 * (((qa0.length : Nat) : Int)))) + 1)) (IntKind.wrap .i64 ((IntKind.wrap .i64 (2 * (((qa0.length : Nat) : Int)))) + 1)) 0 : Option (List Int)).bind fun z15 => (subL qa0 qa1 (((qa0.length : Nat) : Int))).bind fun _ => (some (cpy z15 ((0 : Int).toNat) ((List.drop (qa1 : Int).toNat (List.take (((qa0.length : Nat) : Int) : Int).toNat qa0)).take (z15.length - (0 : Int).toNat)))).bind fun z20 => (subL z20 (((min (List.drop (qa1 : Int).toNat (List.take (((qa0.length : Nat) : Int) : Int).toNat qa0)).length (z15.length - (0 : Int).toNat) : Nat) : Int)) (((z15.length : Nat) : Int))).bind fun _ => (subL qa0 0 qa1).bind fun _ => (some (cpy z20 ((((min (List.drop (qa1 : Int).toNat (List.take (((qa0.length : Nat) : Int) : Int).toNat qa0)).length (z15.length - (0 : Int).toNat) : Nat) : Int) : Int).toNat) ((List.drop (0 : Int).toNat (List.take (qa1 : Int).toNat qa0)).take (((((z15.length : Nat) : Int) : Int).toNat) - (((min (List.drop (qa1 : Int).toNat (List.take (((qa0.length : Nat) : Int) : Int).toNat qa0)).length (z15.length - (0 : Int).toNat) : Nat) : Int) : Int).toNat)))).bind fun z22 => some (z22)
noncomputable def h_stack_Queue_int_grow_p0_rii : Hn Try.prog := .mix [] [0, 1, 2, 3, 4, 5, 6, 7, 8, 9] [10, 11] [] (.mix [] [0, 1, 2, 3, 4, 5, 6, 7, 8, 9, 10, 11] [12] [] (.nil))
noncomputable def sp_stack_Queue_int_grow_p0_rii : Spec := ⟨67, ⟨[(0, .ptr 0 0)], [⟨none, 107, [.own 3 (.int .i64), .dat (.int .i64), .is 1 (.dat (.int .i64))], false, false, none⟩, ⟨none, 0, [], false, true, none⟩]⟩, [⟨[], [⟨(some 0), 107, [.own 3 (.int .i64), .lit (.int .i64 0), .is 1 (.any)], false, false, none⟩, ⟨(some 1), 0, [], false, true, none⟩]⟩], fun x => fn_stack_Queue_int_grow_p0_rii x.1 x.2.1 x.2.2⟩
theorem stack_Queue_int_grow_p0_rii_is : SpecOk Try.prog sp_stack_Queue_int_grow_p0_rii := fn_is Try.func67 h_stack_Queue_int_grow_p0_rii (by kernel_rfl) (by kernel_rfl)
noncomputable def ok_stack_Queue_int_grow_p0_rii : OkSpec Try.prog := ⟨sp_stack_Queue_int_grow_p0_rii, stack_Queue_int_grow_p0_rii_is, Try.call67⟩
noncomputable def fn_stack_Queue_int_Push_p0k_nii_l1 (xb : (List Int)) : (Int × (List Int) × Int × Int) → Option ((Int × (List Int) × Int × Int) ⊕ ((List Int) × Int × Int)) := fun ((i914, l915, i920, i921) : (Int × (List Int) × Int × Int)) => cond (decide (i914 < (((xb.length : Nat) : Int)))) ((getI xb i914).bind fun x1014 => (cond (decide (i921 = (((l915.length : Nat) : Int)))) ((fn_stack_Queue_int_grow_p0_rii l915 i920 i921).bind fun l1044 => some ((l1044, 0))) (some ((l915, i920))) : Option (((List Int) × Int))).bind fun (l1035, i1040) => (nz (((l1035.length : Nat) : Int))).bind fun u1080 => (getI l1035 (Int.tmod (IntKind.wrap .i64 (i1040 + i921)) (((l1035.length : Nat) : Int)))).bind fun x1082 => (some (l1035.set (Int.tmod (IntKind.wrap .i64 (i1040 + i921)) (((l1035.length : Nat) : Int))).toNat x1014)).bind fun z1089 => some (.inl ((IntKind.wrap .i64 (i914 + 1), z1089, i1040, IntKind.wrap .i64 (i921 + 1))))) (some (.inr (((l915, i920, i921)))))
noncomputable def fn_stack_Queue_int_Push_p0k_nii (xb : (List Int)) (qa1 : Int) (qa2 : Int) : Option (((List Int) × Int × Int)) :=
  (loop (fn_stack_Queue_int_Push_p0k_nii_l1 xb) (0, [], qa1, qa2) : Option (((List Int) × Int × Int))).bind fun (l819, i824, i825) => some ((l819, i824, i825))
noncomputable def h_stack_Queue_int_Push_p0k_nii : Hn Try.prog := .jn [] ⟨[], [⟨(some 0), 107, [.own 3 (.int .i64), .dat (.int .i64), .dat (.int .i64)], false, false, none⟩]⟩ [0] (.lp ⟨[(10, .dat (.int .i64))], [⟨(some 0), 107, [.own 3 (.int .i64), .dat (.int .i64), .dat (.int .i64)], false, false, none⟩]⟩ (.tw 11 (.pl (.pl (.sq [(0, 2)] ⟨[], [⟨(some 0), 107, [.own 3 (.int .i64), .dat (.int .i64), .is 1 (.any)], false, false, none⟩, ⟨(some 5), 0, [], false, true, none⟩]⟩ [0, 2] (.mix [] [0, 1, 2, 3, 4, 5, 6, 7, 8, 9] [] [] (.tw 23 (.cl ok_stack_Queue_int_grow_p0_rii [] (.nil)) (.nil))) (.mix [] [0, 1, 2, 3, 4, 5, 6, 7, 8, 9, 10, 11, 12, 13, 14, 15, 16, 17, 18, 19, 20] [21] [] (.nil))))) (.nil))) (.nil)
noncomputable def sp_stack_Queue_int_Push_p0k_nii : Spec := ⟨52, ⟨[(0, .ptr 0 0), (1, .dat (.sl (.int .i64)))], [⟨none, 107, [.nils, .dat (.int .i64), .dat (.int .i64)], false, false, none⟩]⟩, [⟨[], [⟨(some 0), 107, [.own 3 (.int .i64), .dat (.int .i64), .dat (.int .i64)], false, false, none⟩]⟩], fun x => fn_stack_Queue_int_Push_p0k_nii x.1 x.2.1 x.2.2⟩
theorem stack_Queue_int_Push_p0k_nii_is : SpecOk Try.prog sp_stack_Queue_int_Push_p0k_nii := fn_is Try.func52 h_stack_Queue_int_Push_p0k_nii (by kernel_rfl) (by kernel_rfl)
noncomputable def ok_stack_Queue_int_Push_p0k_nii : OkSpec Try.prog := ⟨sp_stack_Queue_int_Push_p0k_nii, stack_Queue_int_Push_p0k_nii_is, Try.call52⟩

noncomputable def fn_stack_Queue_int_Len_p0_rii (qa0 : (List Int)) (qa1 : Int) (qa2 : Int) : Option ((Int × (List Int))) :=
  some ((qa2, qa0))
noncomputable def h_stack_Queue_int_Len_p0_rii : Hn Try.prog := .nil
noncomputable def sp_stack_Queue_int_Len_p0_rii : Spec := ⟨53, ⟨[(0, .ptr 0 0)], [⟨none, 107, [.own 3 (.int .i64), .is 1 (.dat (.int .i64)), .is 2 (.dat (.int .i64))], false, false, none⟩, ⟨none, 0, [], false, true, none⟩, ⟨none, 0, [], false, true, none⟩]⟩, [⟨[(0, .dat (.int .i64))], [⟨(some 0), 107, [.own 3 (.int .i64), .is 1 (.any), .is 2 (.any)], false, false, none⟩, ⟨(some 1), 0, [], false, true, none⟩, ⟨(some 2), 0, [], false, true, none⟩]⟩], fun x => fn_stack_Queue_int_Len_p0_rii x.1 x.2.1 x.2.2⟩
theorem stack_Queue_int_Len_p0_rii_is : SpecOk Try.prog sp_stack_Queue_int_Len_p0_rii := fn_is Try.func53 h_stack_Queue_int_Len_p0_rii (by kernel_rfl) (by kernel_rfl)
noncomputable def ok_stack_Queue_int_Len_p0_rii : OkSpec Try.prog := ⟨sp_stack_Queue_int_Len_p0_rii, stack_Queue_int_Len_p0_rii_is, Try.call53⟩

noncomputable def fn_stack_Queue_int_Pop_p0_rii (qa0 : (List Int)) (qa1 : Int) (qa2 : Int) : Option ((Int × Bool × (List Int) × Int × Int)) :=
  (fn_stack_Queue_int_Len_p0_rii qa0 qa1 qa2).bind fun (i94, l95) => cond (decide (i94 = 0)) (some ((0, false, l95, qa1, qa2))) ((getI l95 qa1).bind fun x126 => (getI l95 qa1).bind fun x154 => (some (l95.set qa1.toNat 0)).bind fun z161 => (nz (((l95.length : Nat) : Int))).bind fun u172 => some ((x126, true, z161, Int.tmod (IntKind.wrap .i64 (qa1 + 1)) (((l95.length : Nat) : Int)), IntKind.wrap .i64 (qa2 - 1))))
noncomputable def h_stack_Queue_int_Pop_p0_rii : Hn Try.prog := .mc 0 1 3 (.mc 0 2 3 (.cl ok_stack_Queue_int_Len_p0_rii [] (.tw 8 (.nil) (.mix [] [0, 1, 2, 3, 4, 5, 6, 7, 8, 9, 10] [] [] (.mix [] [0, 1, 2, 3, 4, 5, 6, 7, 8, 9] [10] [] (.mix [] [0, 1, 2, 3, 4, 5, 6, 7, 8, 9, 10, 11, 12, 13] [14] [] (.nil)))))))
noncomputable def sp_stack_Queue_int_Pop_p0_rii : Spec := ⟨54, ⟨[(0, .ptr 0 0)], [⟨none, 107, [.own 3 (.int .i64), .dat (.int .i64), .dat (.int .i64)], false, false, none⟩]⟩, [⟨[(0, .tup [.dat (.int .i64), .dat .bool])], [⟨(some 0), 107, [.own 3 (.int .i64), .dat (.int .i64), .dat (.int .i64)], false, false, none⟩]⟩], fun x => fn_stack_Queue_int_Pop_p0_rii x.1 x.2.1 x.2.2⟩
theorem stack_Queue_int_Pop_p0_rii_is : SpecOk Try.prog sp_stack_Queue_int_Pop_p0_rii := fn_is Try.func54 h_stack_Queue_int_Pop_p0_rii (by kernel_rfl) (by kernel_rfl)
noncomputable def ok_stack_Queue_int_Pop_p0_rii : OkSpec Try.prog := ⟨sp_stack_Queue_int_Pop_p0_rii, stack_Queue_int_Pop_p0_rii_is, Try.call54⟩

noncomputable def fn_graph_Graph_isNode (xa : (Option (Int × (List (Int × Int)) × ((List Int) × (List Int)) × ((List Int) × (List Int))))) (xb : Int) : Option Bool :=
  (cond (decide (0 ≤ xb)) ((fn_graph_Graph_Nodes xa).bind fun i28 => some (decide (xb < i28))) (some (false))).bind fun t24 => some (t24)
noncomputable def h_graph_Graph_isNode : Hn Try.prog := .gj 4 ⟨[(12, .dat .bool)], []⟩ [] (.two 7 (.cl ok_graph_Graph_Nodes [] (.nil)) (.nil)) (.nil)
noncomputable def sp_graph_Graph_isNode : Spec := ⟨68, ⟨[(0, .dat (.ptr (.cons (.int .i64) (.cons (.sl (.cons (.int .i64) (.one (.int .i64)))) (.cons (.cons (.sl (.int .i64)) (.one (.sl (.int .i64)))) (.one (.cons (.sl (.int .i64)) (.one (.sl (.int .i64)))))))))), (1, .dat (.int .i64))], []⟩, [⟨[(0, .dat .bool)], []⟩], fun x => fn_graph_Graph_isNode x.1 x.2⟩
theorem graph_Graph_isNode_is : SpecOk Try.prog sp_graph_Graph_isNode := fn_is Try.func68 h_graph_Graph_isNode (by kernel_rfl) (by kernel_rfl)
noncomputable def ok_graph_Graph_isNode : OkSpec Try.prog := ⟨sp_graph_Graph_isNode, graph_Graph_isNode_is, Try.call68⟩

noncomputable def fn_graph_index_of (xa : ((List Int) × (List Int))) (xb : Int) : Option (List Int) :=
  (getI xa.1 xb).bind fun x175 => (getI xa.1 (IntKind.wrap .i64 (xb + 1))).bind fun x184 => (subL xa.2 x175 x184).bind fun y193 => some (y193)
noncomputable def h_graph_index_of : Hn Try.prog := .mix [] [0, 1, 2, 3, 4, 5, 6, 7, 8, 9, 10, 11, 12, 13, 14] [] [] (.nil)
noncomputable def sp_graph_index_of : Spec := ⟨69, ⟨[(0, .dat (.cons (.sl (.int .i64)) (.one (.sl (.int .i64))))), (1, .dat (.int .i64))], []⟩, [⟨[(0, .dat (.sl (.int .i64)))], []⟩], fun x => fn_graph_index_of x.1 x.2⟩
theorem graph_index_of_is : SpecOk Try.prog sp_graph_index_of := fn_is Try.func69 h_graph_index_of (by kernel_rfl) (by kernel_rfl)
noncomputable def ok_graph_index_of : OkSpec Try.prog := ⟨sp_graph_index_of, graph_index_of_is, Try.call69⟩

noncomputable def fn_graph_Graph_Out (xa : (Option (Int × (List (Int × Int)) × ((List Int) × (List Int)) × ((List Int) × (List Int))))) (xb : Int) : Option (List Int) :=
  (fn_graph_Graph_isNode xa xb).bind fun t48 => cond (!t48) (some ([])) ((xa : Option (Int × (List (Int × Int)) × ((List Int) × (List Int)) × ((List Int) × (List Int)))).bind fun y54 => (fn_graph_index_of (y54.2.2.1.1, y54.2.2.1.2) xb).bind fun l70 => (fn_slices_Clone_int_int l70).bind fun l79 => some (l79))
noncomputable def h_graph_Graph_Out : Hn Try.prog := .cl ok_graph_Graph_isNode [] (.tw 8 (.nil) (.cl ok_graph_index_of [] (.cl ok_slices_Clone_int_int [] (.nil))))
noncomputable def sp_graph_Graph_Out : Spec := ⟨55, ⟨[(0, .dat (.ptr (.cons (.int .i64) (.cons (.sl (.cons (.int .i64) (.one (.int .i64)))) (.cons (.cons (.sl (.int .i64)) (.one (.sl (.int .i64)))) (.one (.cons (.sl (.int .i64)) (.one (.sl (.int .i64)))))))))), (1, .dat (.int .i64))], []⟩, [⟨[(0, .own 3 (.int .i64))], []⟩], fun x => fn_graph_Graph_Out x.1 x.2⟩
theorem graph_Graph_Out_is : SpecOk Try.prog sp_graph_Graph_Out := fn_is Try.func55 h_graph_Graph_Out (by kernel_rfl) (by kernel_rfl)
noncomputable def ok_graph_Graph_Out : OkSpec Try.prog := ⟨sp_graph_Graph_Out, graph_Graph_Out_is, Try.call55⟩

noncomputable def fn_tick_Counter_Add_zii (xb : Int) (xc : Int) : Option Unit :=
  some (())
noncomputable def h_tick_Counter_Add_zii : Hn Try.prog := .nil
noncomputable def sp_tick_Counter_Add_zii : Spec := ⟨41, ⟨[(0, .nilp), (1, .dat (.int .i64)), (2, .dat (.int .i64))], []⟩, [⟨[], []⟩], fun x => fn_tick_Counter_Add_zii x.1 x.2⟩
theorem tick_Counter_Add_zii_is : SpecOk Try.prog sp_tick_Counter_Add_zii := fn_is Try.func41 h_tick_Counter_Add_zii (by kernel_rfl) (by kernel_rfl)
noncomputable def ok_tick_Counter_Add_zii : OkSpec Try.prog := ⟨sp_tick_Counter_Add_zii, tick_Counter_Add_zii_is, Try.call41⟩

noncomputable def fn_graph_Graph_Arcs (xa : (Option (Int × (List (Int × Int)) × ((List Int) × (List Int)) × ((List Int) × (List Int))))) : Option Int :=
  cond (xa.isNone) (some (0)) ((xa : Option (Int × (List (Int × Int)) × ((List Int) × (List Int)) × ((List Int) × (List Int)))).bind fun y14 => some (((y14.2.1.length : Nat) : Int)))
noncomputable def h_graph_Graph_Arcs : Hn Try.prog := .tw 4 (.nil) (.nil)
noncomputable def sp_graph_Graph_Arcs : Spec := ⟨59, ⟨[(0, .dat (.ptr (.cons (.int .i64) (.cons (.sl (.cons (.int .i64) (.one (.int .i64)))) (.cons (.cons (.sl (.int .i64)) (.one (.sl (.int .i64)))) (.one (.cons (.sl (.int .i64)) (.one (.sl (.int .i64))))))))))], []⟩, [⟨[(0, .dat (.int .i64))], []⟩], fun x => fn_graph_Graph_Arcs x⟩
theorem graph_Graph_Arcs_is : SpecOk Try.prog sp_graph_Graph_Arcs := fn_is Try.func59 h_graph_Graph_Arcs (by kernel_rfl) (by kernel_rfl)
noncomputable def ok_graph_Graph_Arcs : OkSpec Try.prog := ⟨sp_graph_Graph_Arcs, graph_Graph_Arcs_is, Try.call59⟩

noncomputable def fn_graph_Graph_Arc (xa : (Option (Int × (List (Int × Int)) × ((List Int) × (List Int)) × ((List Int) × (List Int))))) (xb : Int) : Option (Int × Int × Bool) :=
  (cond (decide (xb < 0)) (some (true)) ((fn_graph_Graph_Arcs xa).bind fun i52 => some (decide (i52 ≤ xb)))).bind fun t48 => cond (t48) (some ((0, 0, false))) ((xa : Option (Int × (List (Int × Int)) × ((List Int) × (List Int)) × ((List Int) × (List Int)))).bind fun y57 => (getI y57.2.1 xb).bind fun x67 => some ((x67.1, x67.2, true)))
noncomputable def h_graph_Graph_Arc : Hn Try.prog := .gj 4 ⟨[(13, .dat .bool)], []⟩ [] (.two 8 (.nil) (.cl ok_graph_Graph_Arcs [] (.nil))) (.tw 13 (.nil) (.nil))
noncomputable def sp_graph_Graph_Arc : Spec := ⟨40, ⟨[(0, .dat (.ptr (.cons (.int .i64) (.cons (.sl (.cons (.int .i64) (.one (.int .i64)))) (.cons (.cons (.sl (.int .i64)) (.one (.sl (.int .i64)))) (.one (.cons (.sl (.int .i64)) (.one (.sl (.int .i64)))))))))), (1, .dat (.int .i64))], []⟩, [⟨[(0, .tup [.agg [.dat (.int .i64), .dat (.int .i64)], .dat .bool])], []⟩], fun x => fn_graph_Graph_Arc x.1 x.2⟩
theorem graph_Graph_Arc_is : SpecOk Try.prog sp_graph_Graph_Arc := fn_is Try.func40 h_graph_Graph_Arc (by kernel_rfl) (by kernel_rfl)
noncomputable def ok_graph_Graph_Arc : OkSpec Try.prog := ⟨sp_graph_Graph_Arc, graph_Graph_Arc_is, Try.call40⟩

noncomputable def fn_bfs_Tree_reach_p0ii_rrod (xb : Int) (xc : Int) (qa0 : (List Int)) (qa1 : (List Int)) (qa2 : (List (List Int))) : Option (((List Int) × (List Int) × (List (List Int)))) :=
  (getI qa0 xb).bind fun x121 => (some (qa0.set xb.toNat xc)).bind fun z128 => (cond (decide (xc = (((qa2.length : Nat) : Int)))) ((app (qa2 : List (List Int)) (([[]] : List (List Int)) : List (List Int))).bind fun z154 => some (z154)) (some (qa2)) : Option ((List (List Int)))).bind fun l147 => (getI l147 xc).bind fun x156 => (getI l147 xc).bind fun _ => (chkI xc xc).bind fun _ => (app x156 ([xb] : List Int)).bind fun z199 => (getI l147 xc).bind fun _ => (chkI xc xc).bind fun _ => some ((z128, qa1, l147.set xc.toNat z199))
noncomputable def h_bfs_Tree_reach_p0ii_rrod : Hn Try.prog := .pl (.sq [(0, 0), (0, 1)] ⟨[], [⟨(some 0), 105, [.is 1 (.any), .is 2 (.any), .od (.row 46 (.row 3 (.dat (.int .i64))))], false, false, none⟩, ⟨(some 9), 0, [], false, true, none⟩, ⟨(some 10), 0, [], false, true, none⟩]⟩ [0, 5] (.tw 19 (.ot (.row 3 (.dat (.int .i64))) (.ot (.row 3 (.dat (.int .i64))) (.nil))) (.nil)) (.opp [9] 11 38 (.mix [([0, 1, 2, 3, 4, 5, 6, 7, 8, 9, 10, 11, 12], 13), ([], 14)] [15] [16] [15] (.cls 11 21 (.nil)))))
noncomputable def sp_bfs_Tree_reach_p0ii_rrod : Spec := ⟨51, ⟨[(0, .ptr 0 0), (1, .dat (.int .i64)), (2, .dat (.int .i64))], [⟨none, 105, [.own 3 (.int .i64), .own 3 (.int .i64), .od (.row 46 (.row 3 (.dat (.int .i64))))], false, false, none⟩]⟩, [⟨[], [⟨(some 0), 105, [.own 3 (.int .i64), .own 3 (.int .i64), .od (.row 46 (.row 3 (.dat (.int .i64))))], false, false, none⟩]⟩], fun x => fn_bfs_Tree_reach_p0ii_rrod x.1 x.2.1 x.2.2.1 x.2.2.2.1 x.2.2.2.2⟩
theorem bfs_Tree_reach_p0ii_rrod_is : SpecOk Try.prog sp_bfs_Tree_reach_p0ii_rrod := fn_is Try.func51 h_bfs_Tree_reach_p0ii_rrod (by kernel_rfl) (by kernel_rfl)
noncomputable def ok_bfs_Tree_reach_p0ii_rrod : OkSpec Try.prog := ⟨sp_bfs_Tree_reach_p0ii_rrod, bfs_Tree_reach_p0ii_rrod_is, Try.call51⟩
noncomputable def fn_stack_Queue_int_Push_p0k_rii_l1 (xb : (List Int)) : (Int × (List Int) × Int × Int) → Option ((Int × (List Int) × Int × Int) ⊕ ((List Int) × Int × Int)) := fun ((i915, l916, i921, i922) : (Int × (List Int) × Int × Int)) => cond (decide (i915 < (((xb.length : Nat) : Int)))) ((getI xb i915).bind fun x1014 => (cond (decide (i922 = (((l916.length : Nat) : Int)))) ((fn_stack_Queue_int_grow_p0_rii l916 i921 i922).bind fun l1044 => some ((l1044, 0))) (some ((l916, i921))) : Option (((List Int) × Int))).bind fun (l1035, i1040) => (nz (((l1035.length : Nat) : Int))).bind fun u1080 => (getI l1035 (Int.tmod (IntKind.wrap .i64 (i1040 + i922)) (((l1035.length : Nat) : Int)))).bind fun x1082 => (some (l1035.set (Int.tmod (IntKind.wrap .i64 (i1040 + i922)) (((l1035.length : Nat) : Int))).toNat x1014)).bind fun z1089 => some (.inl ((IntKind.wrap .i64 (i915 + 1), z1089, i1040, IntKind.wrap .i64 (i922 + 1))))) (some (.inr (((l916, i921, i922)))))
noncomputable def fn_stack_Queue_int_Push_p0k_rii (xb : (List Int)) (qa0 : (List Int)) (qa1 : Int) (qa2 : Int) : Option (((List Int) × Int × Int)) :=
  (loop (fn_stack_Queue_int_Push_p0k_rii_l1 xb) (0, qa0, qa1, qa2) : Option (((List Int) × Int × Int))).bind fun (l819, i824, i825) => some ((l819, i824, i825))
noncomputable def h_stack_Queue_int_Push_p0k_rii : Hn Try.prog := .jn [] ⟨[], [⟨(some 0), 107, [.own 3 (.int .i64), .dat (.int .i64), .dat (.int .i64)], false, false, none⟩]⟩ [1, 0] (.lp ⟨[(10, .dat (.int .i64))], [⟨(some 0), 107, [.own 3 (.int .i64), .dat (.int .i64), .dat (.int .i64)], false, false, none⟩]⟩ (.tw 11 (.pl (.pl (.sq [(0, 2)] ⟨[], [⟨(some 0), 107, [.own 3 (.int .i64), .dat (.int .i64), .is 1 (.any)], false, false, none⟩, ⟨(some 7), 0, [], false, true, none⟩]⟩ [0, 4] (.mix [] [0, 1, 2, 3, 4, 5, 6, 7, 8, 9] [] [] (.tw 23 (.cl ok_stack_Queue_int_grow_p0_rii [] (.nil)) (.nil))) (.mix [] [0, 1, 2, 3, 4, 5, 6, 7, 8, 9, 10, 11, 12, 13, 14, 15, 16, 17, 18, 19, 20] [21] [] (.nil))))) (.nil))) (.nil)
noncomputable def sp_stack_Queue_int_Push_p0k_rii : Spec := ⟨52, ⟨[(0, .ptr 0 0), (1, .dat (.sl (.int .i64)))], [⟨none, 107, [.own 3 (.int .i64), .dat (.int .i64), .dat (.int .i64)], false, false, none⟩]⟩, [⟨[], [⟨(some 0), 107, [.own 3 (.int .i64), .dat (.int .i64), .dat (.int .i64)], false, false, none⟩]⟩], fun x => fn_stack_Queue_int_Push_p0k_rii x.1 x.2.1 x.2.2.1 x.2.2.2⟩
theorem stack_Queue_int_Push_p0k_rii_is : SpecOk Try.prog sp_stack_Queue_int_Push_p0k_rii := fn_is Try.func52 h_stack_Queue_int_Push_p0k_rii (by kernel_rfl) (by kernel_rfl)
noncomputable def ok_stack_Queue_int_Push_p0k_rii : OkSpec Try.prog := ⟨sp_stack_Queue_int_Push_p0k_rii, stack_Queue_int_Push_p0k_rii_is, Try.call52⟩

noncomputable def fn_bfs_Tree_lead_p0ii_rrod (xb : Int) (xc : Int) (qa0 : (List Int)) (qa1 : (List Int)) (qa2 : (List (List Int))) : Option (((List Int) × (List Int) × (List (List Int)))) :=
  (getI qa1 xb).bind fun x110 => (cond (decide (x110 < 0)) (some (true)) ((getI qa1 xb).bind fun x127 => some (decide (xc < x127)))).bind fun t125 => cond (t125) ((getI qa1 xb).bind fun x147 => (some (qa1.set xb.toNat xc)).bind fun z154 => some ((qa0, z154, qa2))) (some ((qa0, qa1, qa2)))
noncomputable def h_bfs_Tree_lead_p0ii_rrod : Hn Try.prog := .gj 9 ⟨[(24, .dat .bool)], []⟩ [] (.two 14 (.nil) (.nil)) (.tw 24 (.nil) (.nil))
noncomputable def sp_bfs_Tree_lead_p0ii_rrod : Spec := ⟨56, ⟨[(0, .ptr 0 0), (1, .dat (.int .i64)), (2, .dat (.int .i64))], [⟨none, 105, [.own 3 (.int .i64), .own 3 (.int .i64), .od (.row 46 (.row 3 (.dat (.int .i64))))], false, false, none⟩]⟩, [⟨[], [⟨(some 0), 105, [.own 3 (.int .i64), .own 3 (.int .i64), .od (.row 46 (.row 3 (.dat (.int .i64))))], false, false, none⟩]⟩], fun x => fn_bfs_Tree_lead_p0ii_rrod x.1 x.2.1 x.2.2.1 x.2.2.2.1 x.2.2.2.2⟩
theorem bfs_Tree_lead_p0ii_rrod_is : SpecOk Try.prog sp_bfs_Tree_lead_p0ii_rrod := fn_is Try.func56 h_bfs_Tree_lead_p0ii_rrod (by kernel_rfl) (by kernel_rfl)
noncomputable def ok_bfs_Tree_lead_p0ii_rrod : OkSpec Try.prog := ⟨sp_bfs_Tree_lead_p0ii_rrod, bfs_Tree_lead_p0ii_rrod_is, Try.call56⟩
noncomputable def fn_bfs_From_kpiz_l1 (xa : (Option (Int × (List (Int × Int)) × ((List Int) × (List Int)) × ((List Int) × (List Int))))) (i83545 : Int) (l83570 : (List Int)) : (Int × (List Int) × (List Int) × (List (List Int)) × (List Int) × Int × Int) → Option ((Int × (List Int) × (List Int) × (List (List Int)) × (List Int) × Int × Int) ⊕ ((List Int) × (List Int) × (List (List Int)) × (List Int) × Int × Int)) := fun ((i89769, l89770, l89775, l89780, l89782, i89787, i89788) : (Int × (List Int) × (List Int) × (List (List Int)) × (List Int) × Int × Int)) => cond (decide (i89769 < (((l83570.length : Nat) : Int)))) ((getI l83570 i89769).bind fun x90420 => (fn_graph_Graph_Arc xa x90420).bind fun (i90438, i90439, t90440) => ((getI l89770 i90439).bind fun x90786 => cond (decide (x90786 < 0)) ((getI l89770 i83545).bind fun x90841 => (fn_bfs_Tree_reach_p0ii_rrod i90439 (IntKind.wrap .i64 (x90841 + 1)) l89770 l89775 l89780).bind fun (l90850, l90851, l90852) => (fn_stack_Queue_int_Push_p0k_rii ([i90439] : List Int) l89782 i89787 i89788).bind fun (l90894, i90895, i90896) => some ((l90850, l90851, l90852, l90894, i90895, i90896))) (some ((l89770, l89775, l89780, l89782, i89787, i89788))) : Option (((List Int) × (List Int) × (List (List Int)) × (List Int) × Int × Int))).bind fun (l90739, l90744, l90749, l90751, i90756, i90757) => (getI l90739 i90439).bind fun x90961 => (getI l90739 i83545).bind fun x90968 => cond (decide (x90961 = (IntKind.wrap .i64 (x90968 + 1)))) ((fn_bfs_Tree_lead_p0ii_rrod i90439 x90420 l90739 l90744 l90749).bind fun (l90997, l90998, l90999) => some (.inl ((IntKind.wrap .i64 (i89769 + 1), l90997, l90998, l90999, l90751, i90756, i90757)))) (some (.inl ((IntKind.wrap .i64 (i89769 + 1), l90739, l90744, l90749, l90751, i90756, i90757))))) (some (.inr (((l89770, l89775, l89780, l89782, i89787, i89788)))))
noncomputable def fn_bfs_From_kpiz_l2 (xa : (Option (Int × (List (Int × Int)) × ((List Int) × (List Int)) × ((List Int) × (List Int))))) : ((List Int) × (List Int) × (List (List Int)) × (List Int) × Int × Int) → Option (((List Int) × (List Int) × (List (List Int)) × (List Int) × Int × Int) ⊕ ((List Int) × (List Int) × (List (List Int)))) := fun ((l75953, l75958, l75963, l75965, i75970, i75971) : ((List Int) × (List Int) × (List (List Int)) × (List Int) × Int × Int)) => (fn_stack_Queue_int_Len_p0_rii l75965 i75970 i75971).bind fun (i83517, l83518) => cond (decide (0 < i83517)) ((fn_stack_Queue_int_Pop_p0_rii l83518 i75970 i75971).bind fun (i83545, t83546, l83547, i83548, i83549) => (fn_graph_Graph_Out xa i83545).bind fun l83570 => (fn_tick_Counter_Add_zii 6 (IntKind.wrap .i64 (1 + (((l83570.length : Nat) : Int))))).bind fun _ => (loop (fn_bfs_From_kpiz_l1 xa i83545 l83570) (0, l75953, l75958, l75963, l83547, i83548, i83549) : Option (((List Int) × (List Int) × (List (List Int)) × (List Int) × Int × Int))).bind fun (l88526, l88531, l88536, l88538, i88543, i88544) => some (.inl (l88526, l88531, l88536, l88538, i88543, i88544))) (some (.inr (((l75953, l75958, l75963)))))
noncomputable def fn_bfs_From_kpiz_l3 (l68421 : (List (List Int))) : (Int × (List (List Int))) → Option ((Int × (List (List Int))) ⊕ (List (List Int))) := fun ((i91048, l91049) : (Int × (List (List Int)))) => cond (decide (i91048 < (((l68421.length : Nat) : Int)))) ((getI l91049 i91048).bind fun x91060 => (getI l91049 i91048).bind fun _ => (chkI i91048 i91048).bind fun _ => (srt x91060).bind fun l91064 => some (.inl ((IntKind.wrap .i64 (i91048 + 1), l91049.set i91048.toNat l91064)))) (some (.inr (l91049)))
noncomputable def fn_bfs_From_kpiz (xa : (Option (Int × (List (Int × Int)) × ((List Int) × (List Int)) × ((List Int) × (List Int))))) (xb : Int) : Option ((Option ((List Int) × (List Int) × (List (List Int))))) :=
  (fn_graph_Graph_Nodes xa).bind fun i45546 => (fn_slices_Repeat_int_int (([(-1)] : List Int)) i45546).bind fun l45555 => (fn_graph_Graph_Nodes xa).bind fun i45568 => (fn_slices_Repeat_int_int (([(-1)] : List Int)) i45568).bind fun l45577 => ((cond (decide (0 ≤ xb)) ((fn_graph_Graph_Nodes xa).bind fun i45759 => some (decide (xb < i45759))) (some (false))).bind fun t45755 => cond (t45755) ((fn_bfs_Tree_reach_p0ii_rrn xb 0 l45555 l45577).bind fun (l45766, l45767, l45768) => (fn_stack_Queue_int_Push_p0k_nii ([xb] : List Int) 0 0).bind fun (l45809, i45810, i45811) => some ((l45766, l45767, l45768, l45809, i45810, i45811))) (some ((l45555, l45577, [], [], 0, 0))) : Option (((List Int) × (List Int) × (List (List Int)) × (List Int) × Int × Int))).bind fun (l45729, l45734, l45739, l45741, i45746, i45747) => (loop (fn_bfs_From_kpiz_l2 xa) (l45729, l45734, l45739, l45741, i45746, i45747) : Option (((List Int) × (List Int) × (List (List Int))))).bind fun (l68411, l68416, l68421) => (loop (fn_bfs_From_kpiz_l3 l68421) (0, l68421) : Option ((List (List Int)))).bind fun l91039 => some ((some (l68411, l68416, l91039)))
noncomputable def h_bfs_From_kpiz : Hn Try.prog := .cl ok_graph_Graph_Nodes [] (.per 0 1 (.cl ok_slices_Repeat_int_int [] (.cl ok_graph_Graph_Nodes [] (.per 4 5 (.cl ok_slices_Repeat_int_int [] (.pl (.sq [] ⟨[(21, .any), (25, .any), (26, .any)], [⟨(some 8), 105, [.own 3 (.int .i64), .own 3 (.int .i64), .od (.row 46 (.row 3 (.dat (.int .i64))))], false, false, none⟩, ⟨(some 10), 107, [.own 3 (.int .i64), .dat (.int .i64), .dat (.int .i64)], false, false, none⟩]⟩ [10, 8, 6, 2] (.gj 4 ⟨[(35, .dat .bool)], []⟩ [] (.two 30 (.cl ok_graph_Graph_Nodes [] (.nil)) (.nil)) (.tw 35 (.cl ok_bfs_Tree_reach_p0ii_rrn [] (.cl ok_stack_Queue_int_Push_p0k_nii [24] (.nil))) (.nil))) (.jn [] ⟨[], [⟨(some 8), 105, [.own 3 (.int .i64), .own 3 (.int .i64), .od (.row 46 (.row 3 (.dat (.int .i64))))], false, false, none⟩]⟩ [8, 10, 12, 14, 19, 16] (.lp ⟨[], [⟨(some 8), 105, [.own 3 (.int .i64), .own 3 (.int .i64), .od (.row 46 (.row 3 (.dat (.int .i64))))], false, false, none⟩, ⟨(some 10), 107, [.own 3 (.int .i64), .dat (.int .i64), .dat (.int .i64)], false, false, none⟩]⟩ (.mc 10 1 31 (.mc 10 2 31 (.cl ok_stack_Queue_int_Len_p0_rii [] (.tw 43 (.cl ok_stack_Queue_int_Pop_p0_rii [] (.cl ok_graph_Graph_Out [] (.cl ok_tick_Counter_Add_zii [] (.jn [] ⟨[], [⟨(some 8), 105, [.own 3 (.int .i64), .own 3 (.int .i64), .od (.row 46 (.row 3 (.dat (.int .i64))))], false, false, none⟩, ⟨(some 10), 107, [.own 3 (.int .i64), .dat (.int .i64), .dat (.int .i64)], false, false, none⟩]⟩ [43, 10, 8, 22, 24, 26] (.lp ⟨[(58, .dat (.int .i64))], [⟨(some 8), 105, [.own 3 (.int .i64), .own 3 (.int .i64), .od (.row 46 (.row 3 (.dat (.int .i64))))], false, false, none⟩, ⟨(some 10), 107, [.own 3 (.int .i64), .dat (.int .i64), .dat (.int .i64)], false, false, none⟩]⟩ (.tw 59 (.cl ok_graph_Graph_Arc [] (.sq [] ⟨[], [⟨(some 8), 105, [.own 3 (.int .i64), .own 3 (.int .i64), .od (.row 46 (.row 3 (.dat (.int .i64))))], false, false, none⟩, ⟨(some 10), 107, [.own 3 (.int .i64), .dat (.int .i64), .dat (.int .i64)], false, false, none⟩]⟩ [8, 10, 48, 50, 55, 52] (.mix [] [0, 1, 2, 3, 4, 5, 6, 7, 8] [] [] (.tw 76 (.mix [] [0, 1, 2, 3, 4, 5, 6, 7, 8, 9, 10] [11] [] (.cl ok_bfs_Tree_reach_p0ii_rrod [] (.cl ok_stack_Queue_int_Push_p0k_rii [75] (.nil)))) (.nil))) (.mix [] [0, 1, 2, 3, 4, 5, 6, 7, 8, 9, 10, 11, 12, 13, 14, 15, 16] [] [] (.tw 109 (.cl ok_bfs_Tree_lead_p0ii_rrod [] (.nil)) (.nil))))) (.nil))) (.nil))))) (.nil)))))) (.jn [] ⟨[], [⟨(some 26), 0, [], false, false, some (.row 46 (.row 3 (.dat (.int .i64))))⟩]⟩ [26] (.lp ⟨[(121, .dat (.int .i64))], [⟨(some 26), 0, [], false, false, some (.row 46 (.row 3 (.dat (.int .i64))))⟩]⟩ (.tw 122 (.opn 26 121 (.cl ok_Sort [] (.cls 26 30 (.nil)))) (.nil))) (.per 22 23 (.per 24 25 (.per 26 29 (.perb 8 28 (.cons (.sl (.int .i64)) (.cons (.sl (.int .i64)) (.one (.sl (.sl (.int .i64)))))) (.nil))))))))))))))
noncomputable def sp_bfs_From_kpiz : Spec := ⟨37, ⟨[(0, .dat (.ptr (.cons (.int .i64) (.cons (.sl (.cons (.int .i64) (.one (.int .i64)))) (.cons (.cons (.sl (.int .i64)) (.one (.sl (.int .i64)))) (.one (.cons (.sl (.int .i64)) (.one (.sl (.int .i64)))))))))), (1, .dat (.int .i64)), (2, .nilp)], []⟩, [⟨[(0, .dat (.ptr (.cons (.sl (.int .i64)) (.cons (.sl (.int .i64)) (.one (.sl (.sl (.int .i64))))))))], []⟩], fun x => fn_bfs_From_kpiz x.1 x.2⟩
theorem bfs_From_kpiz_is : SpecOk Try.prog sp_bfs_From_kpiz := fn_is Try.func37 h_bfs_From_kpiz (by kernel_rfl) (by kernel_rfl)
noncomputable def ok_bfs_From_kpiz : OkSpec Try.prog := ⟨sp_bfs_From_kpiz, bfs_From_kpiz_is, Try.call37⟩

noncomputable def fn_bfs_Tree_isNode (xa : (Option ((List Int) × (List Int) × (List (List Int))))) (xb : Int) : Option Bool :=
  (cond ((!xa.isNone) && (decide (0 ≤ xb))) ((xa : Option ((List Int) × (List Int) × (List (List Int)))).bind fun y42 => some (decide (xb < (((y42.1.length : Nat) : Int))))) (some (false))).bind fun t40 => some (t40)
noncomputable def h_bfs_Tree_isNode : Hn Try.prog := .gp 2 (.gj 7 ⟨[(19, .dat .bool)], []⟩ [] (.two 11 (.nil) (.nil)) (.nil))
noncomputable def sp_bfs_Tree_isNode : Spec := ⟨58, ⟨[(0, .dat (.ptr (.cons (.sl (.int .i64)) (.cons (.sl (.int .i64)) (.one (.sl (.sl (.int .i64)))))))), (1, .dat (.int .i64))], []⟩, [⟨[(0, .dat .bool)], []⟩], fun x => fn_bfs_Tree_isNode x.1 x.2⟩
theorem bfs_Tree_isNode_is : SpecOk Try.prog sp_bfs_Tree_isNode := fn_is Try.func58 h_bfs_Tree_isNode (by kernel_rfl) (by kernel_rfl)
noncomputable def ok_bfs_Tree_isNode : OkSpec Try.prog := ⟨sp_bfs_Tree_isNode, bfs_Tree_isNode_is, Try.call58⟩

noncomputable def fn_bfs_Tree_Dist (xa : (Option ((List Int) × (List Int) × (List (List Int))))) (xb : Int) : Option Int :=
  (fn_bfs_Tree_isNode xa xb).bind fun t30 => cond (!t30) (some ((-1))) ((xa : Option ((List Int) × (List Int) × (List (List Int)))).bind fun y35 => (getI y35.1 xb).bind fun x45 => some (x45))
noncomputable def h_bfs_Tree_Dist : Hn Try.prog := .cl ok_bfs_Tree_isNode [] (.tw 8 (.nil) (.nil))
noncomputable def sp_bfs_Tree_Dist : Spec := ⟨38, ⟨[(0, .dat (.ptr (.cons (.sl (.int .i64)) (.cons (.sl (.int .i64)) (.one (.sl (.sl (.int .i64)))))))), (1, .dat (.int .i64))], []⟩, [⟨[(0, .dat (.int .i64))], []⟩], fun x => fn_bfs_Tree_Dist x.1 x.2⟩
theorem bfs_Tree_Dist_is : SpecOk Try.prog sp_bfs_Tree_Dist := fn_is Try.func38 h_bfs_Tree_Dist (by kernel_rfl) (by kernel_rfl)
noncomputable def ok_bfs_Tree_Dist : OkSpec Try.prog := ⟨sp_bfs_Tree_Dist, bfs_Tree_Dist_is, Try.call38⟩

noncomputable def fn_bfs_Tree_Back (xa : (Option ((List Int) × (List Int) × (List (List Int))))) (xb : Int) : Option Int :=
  (fn_bfs_Tree_isNode xa xb).bind fun t30 => cond (!t30) (some ((-1))) ((xa : Option ((List Int) × (List Int) × (List (List Int)))).bind fun y35 => (getI y35.2.1 xb).bind fun x45 => some (x45))
noncomputable def h_bfs_Tree_Back : Hn Try.prog := .cl ok_bfs_Tree_isNode [] (.tw 8 (.nil) (.nil))
noncomputable def sp_bfs_Tree_Back : Spec := ⟨39, ⟨[(0, .dat (.ptr (.cons (.sl (.int .i64)) (.cons (.sl (.int .i64)) (.one (.sl (.sl (.int .i64)))))))), (1, .dat (.int .i64))], []⟩, [⟨[(0, .dat (.int .i64))], []⟩], fun x => fn_bfs_Tree_Back x.1 x.2⟩
theorem bfs_Tree_Back_is : SpecOk Try.prog sp_bfs_Tree_Back := fn_is Try.func39 h_bfs_Tree_Back (by kernel_rfl) (by kernel_rfl)
noncomputable def ok_bfs_Tree_Back : OkSpec Try.prog := ⟨sp_bfs_Tree_Back, bfs_Tree_Back_is, Try.call39⟩
noncomputable def fn_path_Short_kpiiz_l1 (xa : (Option (Int × (List (Int × Int)) × ((List Int) × (List Int)) × ((List Int) × (List Int))))) (p531 : (Option ((List Int) × (List Int) × (List (List Int))))) : (Int × (List Int) × Int) → Option ((Int × (List Int) × Int) ⊕ (List Int)) := fun ((i962, l963, i968) : (Int × (List Int) × Int)) => cond (decide (0 ≤ i968)) ((fn_bfs_Tree_Back p531 i962).bind fun i1015 => (getI l963 i968).bind fun x1019 => (some (l963.set i968.toNat i1015)).bind fun z1026 => (getI z1026 i968).bind fun x1031 => (fn_graph_Graph_Arc xa x1031).bind fun (i1040, i1041, t1042) => some (.inl ((i1040, z1026, IntKind.wrap .i64 (i968 - 1))))) (some (.inr (l963)))
noncomputable def fn_path_Short_kpiiz (xa : (Option (Int × (List (Int × Int)) × ((List Int) × (List Int)) × ((List Int) × (List Int))))) (xb : Int) (xc : Int) : Option (((List Int) × Bool)) :=
  (fn_bfs_From_kpiz xa xb).bind fun p531 => (fn_bfs_Tree_Dist p531 xc).bind fun i539 => cond (decide (i539 < 0)) (some (([], false))) ((fn_bfs_Tree_Dist p531 xc).bind fun i547 => (mk i547 i547 0 : Option (List Int)).bind fun z551 => (loop (fn_path_Short_kpiiz_l1 xa p531) ((xc, z551, IntKind.wrap .i64 ((((z551.length : Nat) : Int)) - 1))) : Option (List Int)).bind fun l880 => (fn_tick_Counter_Add_zii 6 (((l880.length : Nat) : Int))).bind fun _ => some ((l880, true)))
noncomputable def h_path_Short_kpiiz : Hn Try.prog := .cl ok_bfs_From_kpiz [] (.cl ok_bfs_Tree_Dist [] (.tw 22 (.nil) (.cl ok_bfs_Tree_Dist [] (.jn [] ⟨[(11, .own 3 (.int .i64)), (26, .any), (27, .any)], []⟩ [0] (.lp ⟨[(2, .dat (.int .i64)), (11, .own 3 (.int .i64)), (12, .dat (.int .i64))], []⟩ (.tw 31 (.cl ok_bfs_Tree_Back [] (.cl ok_graph_Graph_Arc [] (.nil))) (.nil))) (.cl ok_tick_Counter_Add_zii [] (.nil))))))
noncomputable def sp_path_Short_kpiiz : Spec := ⟨20, ⟨[(0, .dat (.ptr (.cons (.int .i64) (.cons (.sl (.cons (.int .i64) (.one (.int .i64)))) (.cons (.cons (.sl (.int .i64)) (.one (.sl (.int .i64)))) (.one (.cons (.sl (.int .i64)) (.one (.sl (.int .i64)))))))))), (1, .dat (.int .i64)), (2, .dat (.int .i64)), (3, .nilp)], []⟩, [⟨[(0, .tup [.own 3 (.int .i64), .dat .bool])], []⟩], fun x => fn_path_Short_kpiiz x.1 x.2.1 x.2.2⟩
theorem path_Short_kpiiz_is : SpecOk Try.prog sp_path_Short_kpiiz := fn_is Try.func20 h_path_Short_kpiiz (by kernel_rfl) (by kernel_rfl)
noncomputable def ok_path_Short_kpiiz : OkSpec Try.prog := ⟨sp_path_Short_kpiiz, path_Short_kpiiz_is, Try.call20⟩
noncomputable def fn_blame_Of_akkz_l1 (xc : (List (Int × Int))) (p285 : (Option (Int × (List (Int × Int)) × ((List Int) × (List Int)) × ((List Int) × (List Int))))) : ((List (Int × Int × (List Int))) × Int) → Option (((List (Int × Int × (List Int))) × Int) ⊕ (List (Int × Int × (List Int)))) := fun ((l471, i476) : ((List (Int × Int × (List Int))) × Int)) => cond (decide (i476 < (((xc.length : Nat) : Int)))) ((getI xc i476).bind fun x523 => (fn_path_Short_kpiiz p285 x523.1 x523.2).bind fun (l535, t536) => cond (t536) ((app l471 (([(x523.1, x523.2, l535)] : List (Int × Int × (List Int))))).bind fun z551 => some (.inl ((z551, IntKind.wrap .i64 (i476 + 1))))) (some (.inl ((l471, IntKind.wrap .i64 (i476 + 1)))))) (some (.inr (l471)))
noncomputable def fn_blame_Of_akkz (xa : (Int × Int × (List (Int × Int)) × (List (List (Int × Bool))) × (List (Int × Bool)) × (List (Int × (List (Int × Int)) × (List (List (Int × Bool))) × (List (Int × Bool)))) × (List ((List (Int × Int × Int × Int × Bool)) × (Int × Int × Int × (List Int) × (List Int) × (List Int)))))) (xb : (List (Int × Int × (Int × Int × Int × Int × Bool)))) (xc : (List (Int × Int))) : Option ((List (Int × Int × (List Int)))) :=
  (fn_cons_Graph (xa.1, xa.2.1, xa.2.2.1, xa.2.2.2.1, xa.2.2.2.2.1, xa.2.2.2.2.2.1, xa.2.2.2.2.2.2) xb).bind fun p285 => (loop (fn_blame_Of_akkz_l1 xc p285) ([], 0) : Option ((List (Int × Int × (List Int))))).bind fun l422 => some (l422)
noncomputable def h_blame_Of_akkz : Hn Try.prog := .cl ok_cons_Graph [] (.jn [] ⟨[(10, .own 48 (.cons (.int .i64) (.cons (.int .i64) (.one (.sl (.int .i64))))))], []⟩ [0] (.lp ⟨[(10, .own 48 (.cons (.int .i64) (.cons (.int .i64) (.one (.sl (.int .i64)))))), (20, .dat (.int .i64))], []⟩ (.tw 21 (.cl ok_path_Short_kpiiz [] (.tw 34 (.per 7 8 (.nil)) (.nil))) (.nil))) (.nil))
noncomputable def sp_blame_Of_akkz : Spec := ⟨6, ⟨[(0, .dat (.cons (.int .i64) (.cons (.int .i64) (.cons (.sl (.cons (.int .i64) (.one (.int .i64)))) (.cons (.sl (.one (.sl (.cons (.int .i64) (.one .bool))))) (.cons (.one (.sl (.cons (.int .i64) (.one .bool)))) (.cons (.sl (.cons (.int .i64) (.cons (.sl (.cons (.int .i64) (.one (.int .i64)))) (.cons (.sl (.one (.sl (.cons (.int .i64) (.one .bool))))) (.one (.one (.sl (.cons (.int .i64) (.one .bool))))))))) (.one (.sl (.cons (.sl (.cons (.int .i64) (.cons (.int .i64) (.cons (.int .i64) (.cons (.int .i64) (.one .bool)))))) (.one (.cons (.int .i64) (.cons (.int .i64) (.cons (.int .i64) (.cons (.sl (.int .i64)) (.cons (.sl (.int .i64)) (.one (.sl (.int .i64))))))))))))))))))), (1, .dat (.sl (.cons (.int .i64) (.cons (.int .i64) (.one (.cons (.int .i64) (.cons (.int .i64) (.cons (.int .i64) (.cons (.int .i64) (.one .bool)))))))))), (2, .dat (.sl (.cons (.int .i64) (.one (.int .i64))))), (3, .nilp)], []⟩, [⟨[(0, .own 48 (.cons (.int .i64) (.cons (.int .i64) (.one (.sl (.int .i64))))))], []⟩], fun x => fn_blame_Of_akkz x.1 x.2.1 x.2.2⟩
theorem blame_Of_akkz_is : SpecOk Try.prog sp_blame_Of_akkz := fn_is Try.func6 h_blame_Of_akkz (by kernel_rfl) (by kernel_rfl)
noncomputable def ok_blame_Of_akkz : OkSpec Try.prog := ⟨sp_blame_Of_akkz, blame_Of_akkz_is, Try.call6⟩

noncomputable def fn_numeral_Pair (xa : (Int × Int)) : Option (List UInt8) :=
  cond ((decide (xa.1 < 0)) || (decide (xa.2 < 0))) (some (([] : List UInt8))) ((fn_numeral_Text xa.1).bind fun s124 => (app s124 ([58] : List UInt8)).bind fun z128 => (fn_numeral_Text xa.2).bind fun s132 => (app z128 s132).bind fun z136 => some (z136))
noncomputable def h_numeral_Pair : Hn Try.prog := .gp 3 (.tw 10 (.nil) (.mix [([0, 1, 4, 5], 2), ([3], 6)] [7, 8] [] [] (.cl ok_numeral_Text [] (.cl ok_numeral_Text [] (.nil)))))
noncomputable def sp_numeral_Pair : Spec := ⟨27, ⟨[(0, .dat (.cons (.int .i64) (.one (.int .i64))))], []⟩, [⟨[(0, .dat .str)], []⟩], fun x => fn_numeral_Pair x⟩
theorem numeral_Pair_is : SpecOk Try.prog sp_numeral_Pair := fn_is Try.func27 h_numeral_Pair (by kernel_rfl) (by kernel_rfl)
noncomputable def ok_numeral_Pair : OkSpec Try.prog := ⟨sp_numeral_Pair, numeral_Pair_is, Try.call27⟩

noncomputable def fn_prov_isKind (xa : Int) : Option Bool :=
  some ((decide (1 ≤ xa)) && (decide (xa ≤ 7)))
noncomputable def h_prov_isKind : Hn Try.prog := .gp 2 (.nil)
noncomputable def sp_prov_isKind : Spec := ⟨72, ⟨[(0, .dat (.int .i64))], []⟩, [⟨[(0, .dat .bool)], []⟩], fun x => fn_prov_isKind x⟩
theorem prov_isKind_is : SpecOk Try.prog sp_prov_isKind := fn_is Try.func72 h_prov_isKind (by kernel_rfl) (by kernel_rfl)
noncomputable def ok_prov_isKind : OkSpec Try.prog := ⟨sp_prov_isKind, prov_isKind_is, Try.call72⟩

noncomputable def fn_prov_Right (xa : (Int × Int × Int × Int × Bool)) : Option Bool :=
  (cond (((decide (0 ≤ xa.1)) && (decide (0 ≤ xa.2.1))) && (decide (0 ≤ xa.2.2.2.1))) ((fn_prov_isKind xa.2.2.1).bind fun t38 => some (t38)) (some (false))).bind fun t34 => some (t34)
noncomputable def h_prov_Right : Hn Try.prog := .gp 3 (.gp 3 (.gj 3 ⟨[(20, .dat .bool)], []⟩ [] (.two 16 (.cl ok_prov_isKind [] (.nil)) (.nil)) (.nil)))
noncomputable def sp_prov_Right : Spec := ⟨60, ⟨[(0, .dat (.cons (.int .i64) (.cons (.int .i64) (.cons (.int .i64) (.cons (.int .i64) (.one .bool))))))], []⟩, [⟨[(0, .dat .bool)], []⟩], fun x => fn_prov_Right x⟩
theorem prov_Right_is : SpecOk Try.prog sp_prov_Right := fn_is Try.func60 h_prov_Right (by kernel_rfl) (by kernel_rfl)
noncomputable def ok_prov_Right : OkSpec Try.prog := ⟨sp_prov_Right, prov_Right_is, Try.call60⟩

noncomputable def fn_prov_Name (xa : Int) : Option (List UInt8) :=
  cond (decide (xa = 1)) (some (([102, 108, 111, 119] : List UInt8))) (cond (decide (xa = 2)) (some (([108, 111, 97, 110] : List UInt8))) (cond (decide (xa = 3)) (some (([98, 97, 115, 101] : List UInt8))) (cond (decide (xa = 4)) (some (([110, 101, 101, 100] : List UInt8))) (cond (decide (xa = 5)) (some (([112, 97, 115, 115] : List UInt8))) (cond (decide (xa = 6)) (some (([103, 105, 118, 101] : List UInt8))) (cond (decide (xa = 7)) (some (([111, 117, 116] : List UInt8))) (some (([63] : List UInt8)))))))))
noncomputable def h_prov_Name : Hn Try.prog := .tw 4 (.nil) (.tw 6 (.nil) (.tw 8 (.nil) (.tw 10 (.nil) (.tw 12 (.nil) (.tw 14 (.nil) (.tw 16 (.nil) (.nil)))))))
noncomputable def sp_prov_Name : Spec := ⟨61, ⟨[(0, .dat (.int .i64))], []⟩, [⟨[(0, .dat .str)], []⟩], fun x => fn_prov_Name x⟩
theorem prov_Name_is : SpecOk Try.prog sp_prov_Name := fn_is Try.func61 h_prov_Name (by kernel_rfl) (by kernel_rfl)
noncomputable def ok_prov_Name : OkSpec Try.prog := ⟨sp_prov_Name, prov_Name_is, Try.call61⟩

noncomputable def fn_prov_Text (xa : (Int × Int × Int × Int × Bool)) : Option (List UInt8) :=
  (fn_prov_Right (xa.1, xa.2.1, xa.2.2.1, xa.2.2.2.1, xa.2.2.2.2)).bind fun t165 => cond (!t165) (some (([63] : List UInt8))) ((fn_numeral_Text xa.1).bind fun s265 => (app s265 ([46] : List UInt8)).bind fun z269 => (fn_numeral_Text xa.2.1).bind fun s273 => (app z269 s273).bind fun z277 => (fn_prov_Name xa.2.2.1).bind fun s281 => (fn_numeral_Text xa.2.2.2.1).bind fun s287 => cond (xa.2.2.2.2) ((app (([z277, s281, s287] : List (List UInt8))) (([([98, 97, 99, 107] : List UInt8)] : List (List UInt8)))).bind fun z298 => (joinF z298 ([32] : List UInt8)).bind fun s309 => some (s309)) ((joinF (([z277, s281, s287] : List (List UInt8))) ([32] : List UInt8)).bind fun s318 => some (s318)))
noncomputable def h_prov_Text : Hn Try.prog := .cl ok_prov_Right [] (.tw 6 (.nil) (.mix [([0, 1, 4, 5, 8, 9, 11, 12], 2), ([3], 6), ([7], 10), ([], 13), ([], 14)] [15] [] [] (.cl ok_numeral_Text [] (.cl ok_numeral_Text [] (.cl ok_prov_Name [] (.cl ok_numeral_Text [] (.tw 23 (.cl ok_Join [6] (.nil)) (.cl ok_Join [2] (.nil)))))))))
noncomputable def sp_prov_Text : Spec := ⟨43, ⟨[(0, .dat (.cons (.int .i64) (.cons (.int .i64) (.cons (.int .i64) (.cons (.int .i64) (.one .bool))))))], []⟩, [⟨[(0, .dat .str)], []⟩], fun x => fn_prov_Text x⟩
theorem prov_Text_is : SpecOk Try.prog sp_prov_Text := fn_is Try.func43 h_prov_Text (by kernel_rfl) (by kernel_rfl)
noncomputable def ok_prov_Text : OkSpec Try.prog := ⟨sp_prov_Text, prov_Text_is, Try.call43⟩

noncomputable def fn_prov_Edge (xa : (Int × Int × (Int × Int × Int × Int × Bool))) : Option (List UInt8) :=
  (fn_numeral_Pair (xa.1, xa.2.1)).bind fun s118 => (app s118 ([32, 97, 116, 32] : List UInt8)).bind fun z122 => (fn_prov_Text (xa.2.2.1, xa.2.2.2.1, xa.2.2.2.2.1, xa.2.2.2.2.2.1, xa.2.2.2.2.2.2)).bind fun s126 => (app z122 s126).bind fun z130 => some (z130)
noncomputable def h_prov_Edge : Hn Try.prog := .mix [([0, 1, 2, 3, 4, 7, 8], 5), ([6], 9)] [10, 11] [] [] (.cl ok_numeral_Pair [] (.cl ok_prov_Text [] (.nil)))
noncomputable def sp_prov_Edge : Spec := ⟨29, ⟨[(0, .dat (.cons (.int .i64) (.cons (.int .i64) (.one (.cons (.int .i64) (.cons (.int .i64) (.cons (.int .i64) (.cons (.int .i64) (.one .bool)))))))))], []⟩, [⟨[(0, .dat .str)], []⟩], fun x => fn_prov_Edge x⟩
theorem prov_Edge_is : SpecOk Try.prog sp_prov_Edge := fn_is Try.func29 h_prov_Edge (by kernel_rfl) (by kernel_rfl)
noncomputable def ok_prov_Edge : OkSpec Try.prog := ⟨sp_prov_Edge, prov_Edge_is, Try.call29⟩
noncomputable def fn_blame_Text_l1 (xa : (List (Int × Int × (Int × Int × Int × Int × Bool)))) (xb : (Int × Int × (List Int))) : ((List (List UInt8)) × Int) → Option (((List (List UInt8)) × Int) ⊕ (List (List UInt8))) := fun ((l1015, i1020) : ((List (List UInt8)) × Int)) => cond (decide (i1020 < (((xb.2.2.length : Nat) : Int)))) ((getI xb.2.2 i1020).bind fun x1068 => cond ((decide (0 ≤ x1068)) && (decide (x1068 < (((xa.length : Nat) : Int))))) ((getI xa x1068).bind fun x1080 => (fn_prov_Edge ((x1080.1, x1080.2.1, (x1080.2.2.1, x1080.2.2.2.1, x1080.2.2.2.2.1, x1080.2.2.2.2.2.1, x1080.2.2.2.2.2.2)))).bind fun s1091 => (app ([32, 32] : List UInt8) s1091).bind fun z1095 => (app l1015 (([z1095] : List (List UInt8)))).bind fun z1100 => some (.inl ((z1100, IntKind.wrap .i64 (i1020 + 1))))) (some (.inl ((l1015, IntKind.wrap .i64 (i1020 + 1)))))) (some (.inr (l1015)))
noncomputable def fn_blame_Text (xa : (List (Int × Int × (Int × Int × Int × Int × Bool)))) (xb : (Int × Int × (List Int))) : Option ((List (List UInt8))) :=
  (fn_numeral_Pair (xb.1, xb.2.1)).bind fun s559 => (app s559 ([32, 105, 115, 32, 109, 105, 115, 115, 105, 110, 103, 44, 32, 98, 121, 32] : List UInt8)).bind fun z563 => (fn_numeral_Text (((xb.2.2.length : Nat) : Int))).bind fun s567 => (app z563 s567).bind fun z571 => (loop (fn_blame_Text_l1 xa xb) ((([z571] : List (List UInt8)), 0)) : Option ((List (List UInt8)))).bind fun l926 => some (l926)
noncomputable def h_blame_Text : Hn Try.prog := .cl ok_numeral_Pair [] (.cl ok_numeral_Text [] (.jn [] ⟨[(6, .own 9 .str), (22, .any)], []⟩ [2, 0] (.lp ⟨[(6, .own 9 .str), (26, .dat (.int .i64))], []⟩ (.tw 27 (.gp 4 (.tw 37 (.cl ok_prov_Edge [] (.nil)) (.nil))) (.nil))) (.nil)))
noncomputable def sp_blame_Text : Spec := ⟨13, ⟨[(0, .dat (.sl (.cons (.int .i64) (.cons (.int .i64) (.one (.cons (.int .i64) (.cons (.int .i64) (.cons (.int .i64) (.cons (.int .i64) (.one .bool)))))))))), (1, .dat (.cons (.int .i64) (.cons (.int .i64) (.one (.sl (.int .i64))))))], []⟩, [⟨[(0, .own 9 .str)], []⟩], fun x => fn_blame_Text x.1 x.2⟩
theorem blame_Text_is : SpecOk Try.prog sp_blame_Text := fn_is Try.func13 h_blame_Text (by kernel_rfl) (by kernel_rfl)
noncomputable def ok_blame_Text : OkSpec Try.prog := ⟨sp_blame_Text, blame_Text_is, Try.call13⟩
noncomputable def fn_ref33_Lines_l1 (xa : (List (List UInt8))) (xb : (List (List UInt8))) : Int → Option (Int ⊕ (Unit ⊕ Bool)) := fun (i757 : Int) => cond (decide (i757 < (((xa.length : Nat) : Int)))) ((getI xa i757).bind fun x889 => (getI xb i757).bind fun x898 => cond (!decide (x889 = x898)) (some (.inr ((.inr (false))))) (some (.inl (IntKind.wrap .i64 (i757 + 1))))) (some (.inr ((.inl ()))))
noncomputable def fn_ref33_Lines (xa : (List (List UInt8))) (xb : (List (List UInt8))) : Option Bool :=
  cond (!decide ((((xa.length : Nat) : Int)) = (((xb.length : Nat) : Int)))) (some (false)) ((loop (fn_ref33_Lines_l1 xa xb) 0 : Option (Unit ⊕ Bool)).bind fun o => match o with | .inr r => some r | .inl () => some (true))
noncomputable def h_ref33_Lines : Hn Try.prog := .tw 10 (.nil) (.jx [] ⟨[], []⟩ [] (.lp ⟨[(5, .dat (.int .i64))], []⟩ (.tw 14 (.mix [] [0, 1, 2, 3, 4, 5, 6, 7, 8] [] [] (.tw 25 (.nil) (.nil))) (.nil))) (.nil))
noncomputable def sp_ref33_Lines : Spec := ⟨12, ⟨[(0, .dat (.sl .str)), (1, .dat (.sl .str))], []⟩, [⟨[(0, .dat .bool)], []⟩], fun x => fn_ref33_Lines x.1 x.2⟩
theorem ref33_Lines_is : SpecOk Try.prog sp_ref33_Lines := fn_is Try.func12 h_ref33_Lines (by kernel_rfl) (by kernel_rfl)
noncomputable def ok_ref33_Lines : OkSpec Try.prog := ⟨sp_ref33_Lines, ref33_Lines_is, Try.call12⟩

noncomputable def fn_law33_awake  : Option Bool :=
  (fn_blame_Of_akkz (0, 3, [], [], [], [], []) (([(1, 2, (0, 0, 7, 0, false))] : List (Int × Int × (Int × Int × Int × Int × Bool)))) (([(1, 2), (2, 1)] : List (Int × Int)))).bind fun l122 => cond (decide ((((l122.length : Nat) : Int)) = 1)) ((getI l122 0).bind fun x176 => (fn_blame_Text (([(1, 2, (0, 0, 7, 0, false))] : List (Int × Int × (Int × Int × Int × Int × Bool)))) (x176.1, x176.2.1, x176.2.2)).bind fun l191 => (fn_ref33_Lines l191 (([([49, 58, 50, 32, 105, 115, 32, 109, 105, 115, 115, 105, 110, 103, 44, 32, 98, 121, 32, 49] : List UInt8), ([32, 32, 49, 58, 50, 32, 97, 116, 32, 48, 46, 48, 32, 111, 117, 116, 32, 48] : List UInt8)] : List (List UInt8)))).bind fun t210 => some (t210)) (some (false))
noncomputable def h_law33_awake : Hn Try.prog := .per 0 1 (.per 2 3 (.cl ok_blame_Of_akkz [] (.two 15 (.per 4 5 (.cl ok_blame_Text [] (.cl ok_ref33_Lines [6, 8] (.nil)))) (.nil))))
noncomputable def sp_law33_awake : Spec := ⟨5, ⟨[], []⟩, [⟨[(0, .dat .bool)], []⟩], fun x => fn_law33_awake⟩
theorem law33_awake_is : SpecOk Try.prog sp_law33_awake := fn_is Try.func5 h_law33_awake (by kernel_rfl) (by kernel_rfl)
noncomputable def ok_law33_awake : OkSpec Try.prog := ⟨sp_law33_awake, law33_awake_is, Try.call5⟩

noncomputable def fn_tick_isPart (xa : Int) : Option Bool :=
  some ((decide (0 ≤ xa)) && (decide (xa < 7)))
noncomputable def h_tick_isPart : Hn Try.prog := .gp 2 (.nil)
noncomputable def sp_tick_isPart : Spec := ⟨26, ⟨[(0, .dat (.int .i64))], []⟩, [⟨[(0, .dat .bool)], []⟩], fun x => fn_tick_isPart x⟩
theorem tick_isPart_is : SpecOk Try.prog sp_tick_isPart := fn_is Try.func26 h_tick_isPart (by kernel_rfl) (by kernel_rfl)
noncomputable def ok_tick_isPart : OkSpec Try.prog := ⟨sp_tick_isPart, tick_isPart_is, Try.call26⟩

noncomputable def fn_tick_sum (xa : Int) (xb : Int) : Option Int :=
  cond (decide ((IntKind.wrap .i64 (9223372036854775807 - xb)) < xa)) (some (9223372036854775807)) (some (IntKind.wrap .i64 (xa + xb)))
noncomputable def h_tick_sum : Hn Try.prog := .tw 8 (.nil) (.nil)
noncomputable def sp_tick_sum : Spec := ⟨25, ⟨[(0, .dat (.int .i64)), (1, .dat (.int .i64))], []⟩, [⟨[(0, .dat (.int .i64))], []⟩], fun x => fn_tick_sum x.1 x.2⟩
theorem tick_sum_is : SpecOk Try.prog sp_tick_sum := fn_is Try.func25 h_tick_sum (by kernel_rfl) (by kernel_rfl)
noncomputable def ok_tick_sum : OkSpec Try.prog := ⟨sp_tick_sum, tick_sum_is, Try.call25⟩

noncomputable def fn_tick_Counter_Add_p0c6i_iiiiiii (xc : Int) (qa0 : Int) (qa1 : Int) (qa2 : Int) (qa3 : Int) (qa4 : Int) (qa5 : Int) (qa6 : Int) : Option Int :=
  (fn_tick_isPart 6).bind fun t37 => cond (t37 && (decide (0 ≤ xc))) ((fn_tick_sum qa6 xc).bind fun i65 => some (i65)) (some (qa6))
noncomputable def h_tick_Counter_Add_p0c6i_iiiiiii : Hn Try.prog := .cl ok_tick_isPart [] (.gp 2 (.tw 15 (.mix [([0, 1, 2, 3, 4, 5, 6, 7, 8, 10, 11], 9)] [12] [13] [] (.cl ok_tick_sum [] (.nil))) (.nil)))
noncomputable def sp_tick_Counter_Add_p0c6i_iiiiiii : Spec := ⟨41, ⟨[(0, .ptr 0 0), (1, .lit (.int .i64 6)), (2, .dat (.int .i64))], [⟨none, 27, [.is 1 (.dat (.int .i64)), .is 2 (.dat (.int .i64)), .is 3 (.dat (.int .i64)), .is 4 (.dat (.int .i64)), .is 5 (.dat (.int .i64)), .is 6 (.dat (.int .i64)), .dat (.int .i64)], false, false, none⟩, ⟨none, 0, [], false, true, none⟩, ⟨none, 0, [], false, true, none⟩, ⟨none, 0, [], false, true, none⟩, ⟨none, 0, [], false, true, none⟩, ⟨none, 0, [], false, true, none⟩, ⟨none, 0, [], false, true, none⟩]⟩, [⟨[], [⟨(some 0), 27, [.is 1 (.any), .is 2 (.any), .is 3 (.any), .is 4 (.any), .is 5 (.any), .is 6 (.any), .dat (.int .i64)], false, false, none⟩, ⟨(some 1), 0, [], false, true, none⟩, ⟨(some 2), 0, [], false, true, none⟩, ⟨(some 3), 0, [], false, true, none⟩, ⟨(some 4), 0, [], false, true, none⟩, ⟨(some 5), 0, [], false, true, none⟩, ⟨(some 6), 0, [], false, true, none⟩]⟩], fun x => fn_tick_Counter_Add_p0c6i_iiiiiii x.1 x.2.1 x.2.2.1 x.2.2.2.1 x.2.2.2.2.1 x.2.2.2.2.2.1 x.2.2.2.2.2.2.1 x.2.2.2.2.2.2.2⟩
theorem tick_Counter_Add_p0c6i_iiiiiii_is : SpecOk Try.prog sp_tick_Counter_Add_p0c6i_iiiiiii := fn_is Try.func41 h_tick_Counter_Add_p0c6i_iiiiiii (by kernel_rfl) (by kernel_rfl)
noncomputable def ok_tick_Counter_Add_p0c6i_iiiiiii : OkSpec Try.prog := ⟨sp_tick_Counter_Add_p0c6i_iiiiiii, tick_Counter_Add_p0c6i_iiiiiii_is, Try.call41⟩
noncomputable def fn_bfs_From_kpip0_iiiiiii_l1 (xa : (Option (Int × (List (Int × Int)) × ((List Int) × (List Int)) × ((List Int) × (List Int))))) (i83582 : Int) (l83607 : (List Int)) : (Int × (List Int) × (List Int) × (List (List Int)) × (List Int) × Int × Int) → Option ((Int × (List Int) × (List Int) × (List (List Int)) × (List Int) × Int × Int) ⊕ ((List Int) × (List Int) × (List (List Int)) × (List Int) × Int × Int)) := fun ((i89808, l89809, l89814, l89819, l89821, i89826, i89827) : (Int × (List Int) × (List Int) × (List (List Int)) × (List Int) × Int × Int)) => cond (decide (i89808 < (((l83607.length : Nat) : Int)))) ((getI l83607 i89808).bind fun x90459 => (fn_graph_Graph_Arc xa x90459).bind fun (i90477, i90478, t90479) => ((getI l89809 i90478).bind fun x90825 => cond (decide (x90825 < 0)) ((getI l89809 i83582).bind fun x90880 => (fn_bfs_Tree_reach_p0ii_rrod i90478 (IntKind.wrap .i64 (x90880 + 1)) l89809 l89814 l89819).bind fun (l90889, l90890, l90891) => (fn_stack_Queue_int_Push_p0k_rii ([i90478] : List Int) l89821 i89826 i89827).bind fun (l90933, i90934, i90935) => some ((l90889, l90890, l90891, l90933, i90934, i90935))) (some ((l89809, l89814, l89819, l89821, i89826, i89827))) : Option (((List Int) × (List Int) × (List (List Int)) × (List Int) × Int × Int))).bind fun (l90778, l90783, l90788, l90790, i90795, i90796) => (getI l90778 i90478).bind fun x91000 => (getI l90778 i83582).bind fun x91007 => cond (decide (x91000 = (IntKind.wrap .i64 (x91007 + 1)))) ((fn_bfs_Tree_lead_p0ii_rrod i90478 x90459 l90778 l90783 l90788).bind fun (l91036, l91037, l91038) => some (.inl ((IntKind.wrap .i64 (i89808 + 1), l91036, l91037, l91038, l90790, i90795, i90796)))) (some (.inl ((IntKind.wrap .i64 (i89808 + 1), l90778, l90783, l90788, l90790, i90795, i90796))))) (some (.inr (((l89809, l89814, l89819, l89821, i89826, i89827)))))
noncomputable def fn_bfs_From_kpip0_iiiiiii_l2 (xa : (Option (Int × (List (Int × Int)) × ((List Int) × (List Int)) × ((List Int) × (List Int))))) (qa0 : Int) (qa1 : Int) (qa2 : Int) (qa3 : Int) (qa4 : Int) (qa5 : Int) : (Int × (List Int) × (List Int) × (List (List Int)) × (List Int) × Int × Int) → Option ((Int × (List Int) × (List Int) × (List (List Int)) × (List Int) × Int × Int) ⊕ (Int × (List Int) × (List Int) × (List (List Int)))) := fun ((i75986, l75987, l75992, l75997, l75999, i76004, i76005) : (Int × (List Int) × (List Int) × (List (List Int)) × (List Int) × Int × Int)) => (fn_stack_Queue_int_Len_p0_rii l75999 i76004 i76005).bind fun (i83554, l83555) => cond (decide (0 < i83554)) ((fn_stack_Queue_int_Pop_p0_rii l83555 i76004 i76005).bind fun (i83582, t83583, l83584, i83585, i83586) => (fn_graph_Graph_Out xa i83582).bind fun l83607 => (fn_tick_Counter_Add_p0c6i_iiiiiii (IntKind.wrap .i64 (1 + (((l83607.length : Nat) : Int)))) qa0 qa1 qa2 qa3 qa4 qa5 i75986).bind fun i83623 => (loop (fn_bfs_From_kpip0_iiiiiii_l1 xa i83582 l83607) (0, l75987, l75992, l75997, l83584, i83585, i83586) : Option (((List Int) × (List Int) × (List (List Int)) × (List Int) × Int × Int))).bind fun (l88565, l88570, l88575, l88577, i88582, i88583) => some (.inl (i83623, l88565, l88570, l88575, l88577, i88582, i88583))) (some (.inr (((i75986, l75987, l75992, l75997)))))
noncomputable def fn_bfs_From_kpip0_iiiiiii_l3 (l68451 : (List (List Int))) : (Int × (List (List Int))) → Option ((Int × (List (List Int))) ⊕ (List (List Int))) := fun ((i91087, l91088) : (Int × (List (List Int)))) => cond (decide (i91087 < (((l68451.length : Nat) : Int)))) ((getI l91088 i91087).bind fun x91099 => (getI l91088 i91087).bind fun _ => (chkI i91087 i91087).bind fun _ => (srt x91099).bind fun l91103 => some (.inl ((IntKind.wrap .i64 (i91087 + 1), l91088.set i91087.toNat l91103)))) (some (.inr (l91088)))
noncomputable def fn_bfs_From_kpip0_iiiiiii (xa : (Option (Int × (List (Int × Int)) × ((List Int) × (List Int)) × ((List Int) × (List Int))))) (xb : Int) (qa0 : Int) (qa1 : Int) (qa2 : Int) (qa3 : Int) (qa4 : Int) (qa5 : Int) (qa6 : Int) : Option (((Option ((List Int) × (List Int) × (List (List Int)))) × Int)) :=
  (fn_graph_Graph_Nodes xa).bind fun i45566 => (fn_slices_Repeat_int_int (([(-1)] : List Int)) i45566).bind fun l45575 => (fn_graph_Graph_Nodes xa).bind fun i45588 => (fn_slices_Repeat_int_int (([(-1)] : List Int)) i45588).bind fun l45597 => ((cond (decide (0 ≤ xb)) ((fn_graph_Graph_Nodes xa).bind fun i45779 => some (decide (xb < i45779))) (some (false))).bind fun t45775 => cond (t45775) ((fn_bfs_Tree_reach_p0ii_rrn xb 0 l45575 l45597).bind fun (l45786, l45787, l45788) => (fn_stack_Queue_int_Push_p0k_nii ([xb] : List Int) 0 0).bind fun (l45829, i45830, i45831) => some ((l45786, l45787, l45788, l45829, i45830, i45831))) (some ((l45575, l45597, [], [], 0, 0))) : Option (((List Int) × (List Int) × (List (List Int)) × (List Int) × Int × Int))).bind fun (l45749, l45754, l45759, l45761, i45766, i45767) => (loop (fn_bfs_From_kpip0_iiiiiii_l2 xa qa0 qa1 qa2 qa3 qa4 qa5) (qa6, l45749, l45754, l45759, l45761, i45766, i45767) : Option ((Int × (List Int) × (List Int) × (List (List Int))))).bind fun (i68440, l68441, l68446, l68451) => (loop (fn_bfs_From_kpip0_iiiiiii_l3 l68451) (0, l68451) : Option ((List (List Int)))).bind fun l91078 => some (((some (l68441, l68446, l91078)), i68440))
noncomputable def h_bfs_From_kpip0_iiiiiii : Hn Try.prog := .cl ok_graph_Graph_Nodes [] (.per 8 9 (.cl ok_slices_Repeat_int_int [] (.cl ok_graph_Graph_Nodes [] (.per 12 13 (.cl ok_slices_Repeat_int_int [] (.pl (.sq [] ⟨[(21, .any), (25, .any), (26, .any)], [⟨(some 16), 105, [.own 3 (.int .i64), .own 3 (.int .i64), .od (.row 46 (.row 3 (.dat (.int .i64))))], false, false, none⟩, ⟨(some 18), 107, [.own 3 (.int .i64), .dat (.int .i64), .dat (.int .i64)], false, false, none⟩]⟩ [18, 16, 14, 10] (.gj 4 ⟨[(35, .dat .bool)], []⟩ [] (.two 30 (.cl ok_graph_Graph_Nodes [] (.nil)) (.nil)) (.tw 35 (.cl ok_bfs_Tree_reach_p0ii_rrn [] (.cl ok_stack_Queue_int_Push_p0k_nii [32] (.nil))) (.nil))) (.jn [] ⟨[], [⟨(some 0), 27, [.is 2 (.any), .is 3 (.any), .is 4 (.any), .is 5 (.any), .is 6 (.any), .is 7 (.any), .dat (.int .i64)], false, false, none⟩, ⟨(some 16), 105, [.own 3 (.int .i64), .own 3 (.int .i64), .od (.row 46 (.row 3 (.dat (.int .i64))))], false, false, none⟩, ⟨(some 1), 0, [], false, true, none⟩, ⟨(some 2), 0, [], false, true, none⟩, ⟨(some 3), 0, [], false, true, none⟩, ⟨(some 4), 0, [], false, true, none⟩, ⟨(some 5), 0, [], false, true, none⟩, ⟨(some 6), 0, [], false, true, none⟩]⟩ [0, 16, 18, 20, 22, 27, 24] (.lp ⟨[], [⟨(some 0), 27, [.is 3 (.any), .is 4 (.any), .is 5 (.any), .is 6 (.any), .is 7 (.any), .is 8 (.any), .dat (.int .i64)], false, false, none⟩, ⟨(some 16), 105, [.own 3 (.int .i64), .own 3 (.int .i64), .od (.row 46 (.row 3 (.dat (.int .i64))))], false, false, none⟩, ⟨(some 18), 107, [.own 3 (.int .i64), .dat (.int .i64), .dat (.int .i64)], false, false, none⟩, ⟨(some 1), 0, [], false, true, none⟩, ⟨(some 2), 0, [], false, true, none⟩, ⟨(some 3), 0, [], false, true, none⟩, ⟨(some 4), 0, [], false, true, none⟩, ⟨(some 5), 0, [], false, true, none⟩, ⟨(some 6), 0, [], false, true, none⟩]⟩ (.mc 18 1 40 (.mc 18 2 40 (.cl ok_stack_Queue_int_Len_p0_rii [] (.tw 43 (.cl ok_stack_Queue_int_Pop_p0_rii [] (.cl ok_graph_Graph_Out [] (.cl ok_tick_Counter_Add_p0c6i_iiiiiii [] (.jn [] ⟨[], [⟨(some 16), 105, [.own 3 (.int .i64), .own 3 (.int .i64), .od (.row 46 (.row 3 (.dat (.int .i64))))], false, false, none⟩, ⟨(some 18), 107, [.own 3 (.int .i64), .dat (.int .i64), .dat (.int .i64)], false, false, none⟩]⟩ [52, 18, 16, 31, 33, 35] (.lp ⟨[(58, .dat (.int .i64))], [⟨(some 16), 105, [.own 3 (.int .i64), .own 3 (.int .i64), .od (.row 46 (.row 3 (.dat (.int .i64))))], false, false, none⟩, ⟨(some 18), 107, [.own 3 (.int .i64), .dat (.int .i64), .dat (.int .i64)], false, false, none⟩]⟩ (.tw 59 (.cl ok_graph_Graph_Arc [] (.sq [] ⟨[], [⟨(some 16), 105, [.own 3 (.int .i64), .own 3 (.int .i64), .od (.row 46 (.row 3 (.dat (.int .i64))))], false, false, none⟩, ⟨(some 18), 107, [.own 3 (.int .i64), .dat (.int .i64), .dat (.int .i64)], false, false, none⟩]⟩ [16, 18, 59, 61, 66, 63] (.mix [] [0, 1, 2, 3, 4, 5, 6, 7, 8] [] [] (.tw 76 (.mix [] [0, 1, 2, 3, 4, 5, 6, 7, 8, 9, 10] [11] [] (.cl ok_bfs_Tree_reach_p0ii_rrod [] (.cl ok_stack_Queue_int_Push_p0k_rii [86] (.nil)))) (.nil))) (.mix [] [0, 1, 2, 3, 4, 5, 6, 7, 8, 9, 10, 11, 12, 13, 14, 15, 16] [] [] (.tw 109 (.cl ok_bfs_Tree_lead_p0ii_rrod [] (.nil)) (.nil))))) (.nil))) (.nil))))) (.nil)))))) (.jn [] ⟨[], [⟨(some 35), 0, [], false, false, some (.row 46 (.row 3 (.dat (.int .i64))))⟩]⟩ [35] (.lp ⟨[(121, .dat (.int .i64))], [⟨(some 35), 0, [], false, false, some (.row 46 (.row 3 (.dat (.int .i64))))⟩]⟩ (.tw 122 (.opn 35 121 (.cl ok_Sort [] (.cls 35 39 (.nil)))) (.nil))) (.per 31 32 (.per 33 34 (.per 35 38 (.perb 16 37 (.cons (.sl (.int .i64)) (.cons (.sl (.int .i64)) (.one (.sl (.sl (.int .i64)))))) (.nil))))))))))))))
noncomputable def sp_bfs_From_kpip0_iiiiiii : Spec := ⟨37, ⟨[(0, .dat (.ptr (.cons (.int .i64) (.cons (.sl (.cons (.int .i64) (.one (.int .i64)))) (.cons (.cons (.sl (.int .i64)) (.one (.sl (.int .i64)))) (.one (.cons (.sl (.int .i64)) (.one (.sl (.int .i64)))))))))), (1, .dat (.int .i64)), (2, .ptr 0 0)], [⟨none, 27, [.is 1 (.dat (.int .i64)), .is 2 (.dat (.int .i64)), .is 3 (.dat (.int .i64)), .is 4 (.dat (.int .i64)), .is 5 (.dat (.int .i64)), .is 6 (.dat (.int .i64)), .dat (.int .i64)], false, false, none⟩, ⟨none, 0, [], false, true, none⟩, ⟨none, 0, [], false, true, none⟩, ⟨none, 0, [], false, true, none⟩, ⟨none, 0, [], false, true, none⟩, ⟨none, 0, [], false, true, none⟩, ⟨none, 0, [], false, true, none⟩]⟩, [⟨[(0, .dat (.ptr (.cons (.sl (.int .i64)) (.cons (.sl (.int .i64)) (.one (.sl (.sl (.int .i64))))))))], [⟨(some 0), 27, [.is 1 (.any), .is 2 (.any), .is 3 (.any), .is 4 (.any), .is 5 (.any), .is 6 (.any), .dat (.int .i64)], false, false, none⟩, ⟨(some 1), 0, [], false, true, none⟩, ⟨(some 2), 0, [], false, true, none⟩, ⟨(some 3), 0, [], false, true, none⟩, ⟨(some 4), 0, [], false, true, none⟩, ⟨(some 5), 0, [], false, true, none⟩, ⟨(some 6), 0, [], false, true, none⟩]⟩], fun x => fn_bfs_From_kpip0_iiiiiii x.1 x.2.1 x.2.2.1 x.2.2.2.1 x.2.2.2.2.1 x.2.2.2.2.2.1 x.2.2.2.2.2.2.1 x.2.2.2.2.2.2.2.1 x.2.2.2.2.2.2.2.2⟩
theorem bfs_From_kpip0_iiiiiii_is : SpecOk Try.prog sp_bfs_From_kpip0_iiiiiii := fn_is Try.func37 h_bfs_From_kpip0_iiiiiii (by kernel_rfl) (by kernel_rfl)
noncomputable def ok_bfs_From_kpip0_iiiiiii : OkSpec Try.prog := ⟨sp_bfs_From_kpip0_iiiiiii, bfs_From_kpip0_iiiiiii_is, Try.call37⟩
noncomputable def fn_path_Short_kpiip0_iiiiiii_l1 (xa : (Option (Int × (List (Int × Int)) × ((List Int) × (List Int)) × ((List Int) × (List Int))))) (p534 : (Option ((List Int) × (List Int) × (List (List Int))))) : (Int × (List Int) × Int) → Option ((Int × (List Int) × Int) ⊕ (List Int)) := fun ((i966, l967, i972) : (Int × (List Int) × Int)) => cond (decide (0 ≤ i972)) ((fn_bfs_Tree_Back p534 i966).bind fun i1019 => (getI l967 i972).bind fun x1023 => (some (l967.set i972.toNat i1019)).bind fun z1030 => (getI z1030 i972).bind fun x1035 => (fn_graph_Graph_Arc xa x1035).bind fun (i1044, i1045, t1046) => some (.inl ((i1044, z1030, IntKind.wrap .i64 (i972 - 1))))) (some (.inr (l967)))
noncomputable def fn_path_Short_kpiip0_iiiiiii (xa : (Option (Int × (List (Int × Int)) × ((List Int) × (List Int)) × ((List Int) × (List Int))))) (xb : Int) (xc : Int) (qa0 : Int) (qa1 : Int) (qa2 : Int) (qa3 : Int) (qa4 : Int) (qa5 : Int) (qa6 : Int) : Option (((List Int) × Bool × Int)) :=
  (fn_bfs_From_kpip0_iiiiiii xa xb qa0 qa1 qa2 qa3 qa4 qa5 qa6).bind fun (p534, i535) => (fn_bfs_Tree_Dist p534 xc).bind fun i543 => cond (decide (i543 < 0)) (some (([], false, i535))) ((fn_bfs_Tree_Dist p534 xc).bind fun i551 => (mk i551 i551 0 : Option (List Int)).bind fun z555 => (loop (fn_path_Short_kpiip0_iiiiiii_l1 xa p534) ((xc, z555, IntKind.wrap .i64 ((((z555.length : Nat) : Int)) - 1))) : Option (List Int)).bind fun l884 => (fn_tick_Counter_Add_p0c6i_iiiiiii (((l884.length : Nat) : Int)) qa0 qa1 qa2 qa3 qa4 qa5 i535).bind fun i1053 => some ((l884, true, i1053)))
noncomputable def h_path_Short_kpiip0_iiiiiii : Hn Try.prog := .cl ok_bfs_From_kpip0_iiiiiii [] (.cl ok_bfs_Tree_Dist [] (.tw 22 (.nil) (.cl ok_bfs_Tree_Dist [] (.jn [] ⟨[(11, .own 3 (.int .i64)), (26, .any), (27, .any)], []⟩ [10] (.lp ⟨[(2, .dat (.int .i64)), (11, .own 3 (.int .i64)), (12, .dat (.int .i64))], []⟩ (.tw 31 (.cl ok_bfs_Tree_Back [] (.cl ok_graph_Graph_Arc [] (.nil))) (.nil))) (.cl ok_tick_Counter_Add_p0c6i_iiiiiii [] (.nil))))))
noncomputable def sp_path_Short_kpiip0_iiiiiii : Spec := ⟨20, ⟨[(0, .dat (.ptr (.cons (.int .i64) (.cons (.sl (.cons (.int .i64) (.one (.int .i64)))) (.cons (.cons (.sl (.int .i64)) (.one (.sl (.int .i64)))) (.one (.cons (.sl (.int .i64)) (.one (.sl (.int .i64)))))))))), (1, .dat (.int .i64)), (2, .dat (.int .i64)), (3, .ptr 0 0)], [⟨none, 27, [.is 1 (.dat (.int .i64)), .is 2 (.dat (.int .i64)), .is 3 (.dat (.int .i64)), .is 4 (.dat (.int .i64)), .is 5 (.dat (.int .i64)), .is 6 (.dat (.int .i64)), .dat (.int .i64)], false, false, none⟩, ⟨none, 0, [], false, true, none⟩, ⟨none, 0, [], false, true, none⟩, ⟨none, 0, [], false, true, none⟩, ⟨none, 0, [], false, true, none⟩, ⟨none, 0, [], false, true, none⟩, ⟨none, 0, [], false, true, none⟩]⟩, [⟨[(0, .tup [.own 3 (.int .i64), .dat .bool])], [⟨(some 0), 27, [.is 1 (.any), .is 2 (.any), .is 3 (.any), .is 4 (.any), .is 5 (.any), .is 6 (.any), .dat (.int .i64)], false, false, none⟩, ⟨(some 1), 0, [], false, true, none⟩, ⟨(some 2), 0, [], false, true, none⟩, ⟨(some 3), 0, [], false, true, none⟩, ⟨(some 4), 0, [], false, true, none⟩, ⟨(some 5), 0, [], false, true, none⟩, ⟨(some 6), 0, [], false, true, none⟩]⟩], fun x => fn_path_Short_kpiip0_iiiiiii x.1 x.2.1 x.2.2.1 x.2.2.2.1 x.2.2.2.2.1 x.2.2.2.2.2.1 x.2.2.2.2.2.2.1 x.2.2.2.2.2.2.2.1 x.2.2.2.2.2.2.2.2.1 x.2.2.2.2.2.2.2.2.2⟩
theorem path_Short_kpiip0_iiiiiii_is : SpecOk Try.prog sp_path_Short_kpiip0_iiiiiii := fn_is Try.func20 h_path_Short_kpiip0_iiiiiii (by kernel_rfl) (by kernel_rfl)
noncomputable def ok_path_Short_kpiip0_iiiiiii : OkSpec Try.prog := ⟨sp_path_Short_kpiip0_iiiiiii, path_Short_kpiip0_iiiiiii_is, Try.call20⟩
noncomputable def fn_blame_Of_akkp0_iiiiiii_l1 (xc : (List (Int × Int))) (qa0 : Int) (qa1 : Int) (qa2 : Int) (qa3 : Int) (qa4 : Int) (qa5 : Int) (p299 : (Option (Int × (List (Int × Int)) × ((List Int) × (List Int)) × ((List Int) × (List Int))))) : ((List (Int × Int × (List Int))) × Int × Int) → Option (((List (Int × Int × (List Int))) × Int × Int) ⊕ ((List (Int × Int × (List Int))) × Int)) := fun ((l494, i499, i500) : ((List (Int × Int × (List Int))) × Int × Int)) => cond (decide (i499 < (((xc.length : Nat) : Int)))) ((getI xc i499).bind fun x549 => (fn_path_Short_kpiip0_iiiiiii p299 x549.1 x549.2 qa0 qa1 qa2 qa3 qa4 qa5 i500).bind fun (l561, t562, i563) => cond (t562) ((app l494 (([(x549.1, x549.2, l561)] : List (Int × Int × (List Int))))).bind fun z578 => some (.inl ((z578, IntKind.wrap .i64 (i499 + 1), i563)))) (some (.inl ((l494, IntKind.wrap .i64 (i499 + 1), i563))))) (some (.inr (((l494, i500)))))
noncomputable def fn_blame_Of_akkp0_iiiiiii (xa : (Int × Int × (List (Int × Int)) × (List (List (Int × Bool))) × (List (Int × Bool)) × (List (Int × (List (Int × Int)) × (List (List (Int × Bool))) × (List (Int × Bool)))) × (List ((List (Int × Int × Int × Int × Bool)) × (Int × Int × Int × (List Int) × (List Int) × (List Int)))))) (xb : (List (Int × Int × (Int × Int × Int × Int × Bool)))) (xc : (List (Int × Int))) (qa0 : Int) (qa1 : Int) (qa2 : Int) (qa3 : Int) (qa4 : Int) (qa5 : Int) (qa6 : Int) : Option (((List (Int × Int × (List Int))) × Int)) :=
  (fn_cons_Graph (xa.1, xa.2.1, xa.2.2.1, xa.2.2.2.1, xa.2.2.2.2.1, xa.2.2.2.2.2.1, xa.2.2.2.2.2.2) xb).bind fun p299 => (loop (fn_blame_Of_akkp0_iiiiiii_l1 xc qa0 qa1 qa2 qa3 qa4 qa5 p299) ([], 0, qa6) : Option (((List (Int × Int × (List Int))) × Int))).bind fun (l442, i447) => some ((l442, i447))
noncomputable def h_blame_Of_akkp0_iiiiiii : Hn Try.prog := .cl ok_cons_Graph [] (.jn [] ⟨[(10, .own 48 (.cons (.int .i64) (.cons (.int .i64) (.one (.sl (.int .i64))))))], [⟨(some 0), 27, [.is 1 (.any), .is 2 (.any), .is 3 (.any), .is 4 (.any), .is 5 (.any), .is 6 (.any), .dat (.int .i64)], false, false, none⟩, ⟨(some 1), 0, [], false, true, none⟩, ⟨(some 2), 0, [], false, true, none⟩, ⟨(some 3), 0, [], false, true, none⟩, ⟨(some 4), 0, [], false, true, none⟩, ⟨(some 5), 0, [], false, true, none⟩, ⟨(some 6), 0, [], false, true, none⟩]⟩ [8, 0] (.lp ⟨[(10, .own 48 (.cons (.int .i64) (.cons (.int .i64) (.one (.sl (.int .i64)))))), (20, .dat (.int .i64))], [⟨(some 0), 27, [.is 1 (.any), .is 2 (.any), .is 3 (.any), .is 4 (.any), .is 5 (.any), .is 6 (.any), .dat (.int .i64)], false, false, none⟩, ⟨(some 1), 0, [], false, true, none⟩, ⟨(some 2), 0, [], false, true, none⟩, ⟨(some 3), 0, [], false, true, none⟩, ⟨(some 4), 0, [], false, true, none⟩, ⟨(some 5), 0, [], false, true, none⟩, ⟨(some 6), 0, [], false, true, none⟩]⟩ (.tw 21 (.cl ok_path_Short_kpiip0_iiiiiii [] (.tw 34 (.per 17 18 (.nil)) (.nil))) (.nil))) (.nil))
noncomputable def sp_blame_Of_akkp0_iiiiiii : Spec := ⟨6, ⟨[(0, .dat (.cons (.int .i64) (.cons (.int .i64) (.cons (.sl (.cons (.int .i64) (.one (.int .i64)))) (.cons (.sl (.one (.sl (.cons (.int .i64) (.one .bool))))) (.cons (.one (.sl (.cons (.int .i64) (.one .bool)))) (.cons (.sl (.cons (.int .i64) (.cons (.sl (.cons (.int .i64) (.one (.int .i64)))) (.cons (.sl (.one (.sl (.cons (.int .i64) (.one .bool))))) (.one (.one (.sl (.cons (.int .i64) (.one .bool))))))))) (.one (.sl (.cons (.sl (.cons (.int .i64) (.cons (.int .i64) (.cons (.int .i64) (.cons (.int .i64) (.one .bool)))))) (.one (.cons (.int .i64) (.cons (.int .i64) (.cons (.int .i64) (.cons (.sl (.int .i64)) (.cons (.sl (.int .i64)) (.one (.sl (.int .i64))))))))))))))))))), (1, .dat (.sl (.cons (.int .i64) (.cons (.int .i64) (.one (.cons (.int .i64) (.cons (.int .i64) (.cons (.int .i64) (.cons (.int .i64) (.one .bool)))))))))), (2, .dat (.sl (.cons (.int .i64) (.one (.int .i64))))), (3, .ptr 0 0)], [⟨none, 27, [.is 1 (.dat (.int .i64)), .is 2 (.dat (.int .i64)), .is 3 (.dat (.int .i64)), .is 4 (.dat (.int .i64)), .is 5 (.dat (.int .i64)), .is 6 (.dat (.int .i64)), .dat (.int .i64)], false, false, none⟩, ⟨none, 0, [], false, true, none⟩, ⟨none, 0, [], false, true, none⟩, ⟨none, 0, [], false, true, none⟩, ⟨none, 0, [], false, true, none⟩, ⟨none, 0, [], false, true, none⟩, ⟨none, 0, [], false, true, none⟩]⟩, [⟨[(0, .own 48 (.cons (.int .i64) (.cons (.int .i64) (.one (.sl (.int .i64))))))], [⟨(some 0), 27, [.is 1 (.any), .is 2 (.any), .is 3 (.any), .is 4 (.any), .is 5 (.any), .is 6 (.any), .dat (.int .i64)], false, false, none⟩, ⟨(some 1), 0, [], false, true, none⟩, ⟨(some 2), 0, [], false, true, none⟩, ⟨(some 3), 0, [], false, true, none⟩, ⟨(some 4), 0, [], false, true, none⟩, ⟨(some 5), 0, [], false, true, none⟩, ⟨(some 6), 0, [], false, true, none⟩]⟩], fun x => fn_blame_Of_akkp0_iiiiiii x.1 x.2.1 x.2.2.1 x.2.2.2.1 x.2.2.2.2.1 x.2.2.2.2.2.1 x.2.2.2.2.2.2.1 x.2.2.2.2.2.2.2.1 x.2.2.2.2.2.2.2.2.1 x.2.2.2.2.2.2.2.2.2⟩
theorem blame_Of_akkp0_iiiiiii_is : SpecOk Try.prog sp_blame_Of_akkp0_iiiiiii := fn_is Try.func6 h_blame_Of_akkp0_iiiiiii (by kernel_rfl) (by kernel_rfl)
noncomputable def ok_blame_Of_akkp0_iiiiiii : OkSpec Try.prog := ⟨sp_blame_Of_akkp0_iiiiiii, blame_Of_akkp0_iiiiiii_is, Try.call6⟩
noncomputable def fn_ref27_Arcs_l1 (xa : (List (Int × Int × (Int × Int × Int × Int × Bool)))) : ((List (Int × Int)) × Int) → Option (((List (Int × Int)) × Int) ⊕ (List (Int × Int))) := fun ((l2125, i2130) : ((List (Int × Int)) × Int)) => cond (decide (i2130 < (((xa.length : Nat) : Int)))) ((getI xa i2130).bind fun x2293 => (getI xa i2130).bind fun x2302 => (app l2125 (([(x2293.1, x2302.2.1)] : List (Int × Int)))).bind fun z2314 => some (.inl ((z2314, IntKind.wrap .i64 (i2130 + 1))))) (some (.inr (l2125)))
noncomputable def fn_ref27_Arcs (xa : (List (Int × Int × (Int × Int × Int × Int × Bool)))) : Option ((List (Int × Int))) :=
  (loop (fn_ref27_Arcs_l1 xa) ((([] : List (Int × Int)), 0)) : Option ((List (Int × Int)))).bind fun l1932 => some (l1932)
noncomputable def h_ref27_Arcs : Hn Try.prog := .jn [] ⟨[(3, .own 90 (.cons (.int .i64) (.one (.int .i64)))), (5, .any)], []⟩ [0] (.lp ⟨[(3, .own 90 (.cons (.int .i64) (.one (.int .i64)))), (4, .dat (.int .i64))], []⟩ (.tw 9 (.mix [([0, 1, 2, 3, 4, 5, 6, 7, 8, 9, 10, 11], 12)] [] [13, 14] [] (.nil)) (.nil))) (.nil)
noncomputable def sp_ref27_Arcs : Spec := ⟨21, ⟨[(0, .dat (.sl (.cons (.int .i64) (.cons (.int .i64) (.one (.cons (.int .i64) (.cons (.int .i64) (.cons (.int .i64) (.cons (.int .i64) (.one .bool))))))))))], []⟩, [⟨[(0, .own 90 (.cons (.int .i64) (.one (.int .i64))))], []⟩], fun x => fn_ref27_Arcs x⟩
theorem ref27_Arcs_is : SpecOk Try.prog sp_ref27_Arcs := fn_is Try.func21 h_ref27_Arcs (by kernel_rfl) (by kernel_rfl)
noncomputable def ok_ref27_Arcs : OkSpec Try.prog := ⟨sp_ref27_Arcs, ref27_Arcs_is, Try.call21⟩
noncomputable def fn_ref10_Check_l1 (xa : Int) (xb : (List (Int × Int))) : Int → Option (Int ⊕ (Unit ⊕ Int)) := fun (i763 : Int) => cond (decide (i763 < (((xb.length : Nat) : Int)))) ((getI xb i763).bind fun x841 => (cond (decide (x841.1 < 0)) (some (true)) ((getI xb i763).bind fun x862 => some (decide (xa ≤ x862.1)))).bind fun t860 => (cond (t860) (some (true)) ((getI xb i763).bind fun x883 => some (decide (x883.2 < 0)))).bind fun t881 => (cond (t881) (some (true)) ((getI xb i763).bind fun x904 => some (decide (xa ≤ x904.2)))).bind fun t902 => cond (t902) (some (.inr ((.inr (7))))) (some (.inl (IntKind.wrap .i64 (i763 + 1))))) (some (.inr ((.inl ()))))
noncomputable def fn_ref10_Check (xa : Int) (xb : (List (Int × Int))) : Option Int :=
  cond (decide (xa < 0)) (some (2)) (cond ((decide (1048576 < xa)) || (decide (67108864 < (((xb.length : Nat) : Int))))) (some (5)) ((loop (fn_ref10_Check_l1 xa xb) 0 : Option (Unit ⊕ Int)).bind fun o => match o with | .inr r => some r | .inl () => some (0)))
noncomputable def h_ref10_Check : Hn Try.prog := .tw 7 (.nil) (.gp 3 (.tw 14 (.nil) (.jx [] ⟨[], []⟩ [] (.lp ⟨[(5, .dat (.int .i64))], []⟩ (.tw 18 (.gj 7 ⟨[(35, .dat .bool)], []⟩ [] (.two 27 (.nil) (.nil)) (.gj 6 ⟨[(43, .dat .bool)], []⟩ [] (.two 36 (.nil) (.nil)) (.gj 7 ⟨[(52, .dat .bool)], []⟩ [] (.two 44 (.nil) (.nil)) (.tw 52 (.nil) (.nil))))) (.nil))) (.nil))))
noncomputable def sp_ref10_Check : Spec := ⟨22, ⟨[(0, .dat (.int .i64)), (1, .dat (.sl (.cons (.int .i64) (.one (.int .i64)))))], []⟩, [⟨[(0, .dat (.int .i64))], []⟩], fun x => fn_ref10_Check x.1 x.2⟩
theorem ref10_Check_is : SpecOk Try.prog sp_ref10_Check := fn_is Try.func22 h_ref10_Check (by kernel_rfl) (by kernel_rfl)
noncomputable def ok_ref10_Check : OkSpec Try.prog := ⟨sp_ref10_Check, ref10_Check_is, Try.call22⟩
noncomputable def fn_ref13_Dist_l1 (xa : Int) : ((List Int) × Int) → Option (((List Int) × Int) ⊕ (List Int)) := fun ((l11832, i11837) : ((List Int) × Int)) => cond (decide (i11837 < xa)) ((app l11832 (([(-1)] : List Int))).bind fun z11859 => some (.inl ((z11859, IntKind.wrap .i64 (i11837 + 1))))) (some (.inr (l11832)))
noncomputable def fn_ref13_Dist_l2 (xb : (List (Int × Int))) (i21444 : Int) : ((List Int) × Int) → Option (((List Int) × Int) ⊕ (List Int)) := fun ((l23193, i23198) : ((List Int) × Int)) => cond (decide (i23198 < (((xb.length : Nat) : Int)))) ((getI xb i23198).bind fun x23281 => (getI l23193 x23281.1).bind fun x23290 => (cond (decide (x23290 = i21444)) ((getI xb i23198).bind fun x23316 => (getI l23193 x23316.2).bind fun x23325 => some (decide (x23325 < 0))) (some (false))).bind fun t23314 => cond (t23314) ((getI xb i23198).bind fun x23333 => (getI l23193 x23333.2).bind fun x23342 => (some (l23193.set x23333.2.toNat (IntKind.wrap .i64 (i21444 + 1)))).bind fun z23349 => some (.inl ((z23349, IntKind.wrap .i64 (i23198 + 1))))) (some (.inl ((l23193, IntKind.wrap .i64 (i23198 + 1)))))) (some (.inr (l23193)))
noncomputable def fn_ref13_Dist_l3 (xa : Int) (xb : (List (Int × Int))) : ((List Int) × Int) → Option (((List Int) × Int) ⊕ (List Int)) := fun ((l21439, i21444) : ((List Int) × Int)) => cond (decide (i21444 < xa)) ((loop (fn_ref13_Dist_l2 xb i21444) (l21439, 0) : Option (List Int)).bind fun l23034 => some (.inl ((l23034, IntKind.wrap .i64 (i21444 + 1))))) (some (.inr (l21439)))
noncomputable def fn_ref13_Dist (xa : Int) (xb : (List (Int × Int))) (xc : Int) : Option (List Int) :=
  (loop (fn_ref13_Dist_l1 xa) ((([] : List Int), 0)) : Option (List Int)).bind fun l11801 => cond ((decide (xc < 0)) || (decide (xa ≤ xc))) (some (l11801)) ((getI l11801 xc).bind fun x11868 => (some (l11801.set xc.toNat 0)).bind fun z11875 => (loop (fn_ref13_Dist_l3 xa xb) (z11875, 0) : Option (List Int)).bind fun l19526 => some (l19526))
noncomputable def h_ref13_Dist : Hn Try.prog := .jn [] ⟨[(7, .own 3 (.int .i64)), (11, .any)], []⟩ [0] (.lp ⟨[(7, .own 3 (.int .i64)), (8, .dat (.int .i64))], []⟩ (.tw 14 (.nil) (.nil))) (.gp 3 (.tw 26 (.nil) (.jn [] ⟨[(7, .own 3 (.int .i64)), (28, .any)], []⟩ [2] (.lp ⟨[(7, .own 3 (.int .i64)), (9, .dat (.int .i64))], []⟩ (.tw 33 (.pl (.pl (.jn [] ⟨[(7, .own 3 (.int .i64))], []⟩ [5] (.lp ⟨[(7, .own 3 (.int .i64)), (10, .dat (.int .i64))], []⟩ (.tw 39 (.gj 9 ⟨[(62, .dat .bool)], []⟩ [] (.two 52 (.nil) (.nil)) (.tw 62 (.nil) (.nil))) (.nil))) (.nil)))) (.nil))) (.nil))))
noncomputable def sp_ref13_Dist : Spec := ⟨35, ⟨[(0, .dat (.int .i64)), (1, .dat (.sl (.cons (.int .i64) (.one (.int .i64))))), (2, .dat (.int .i64))], []⟩, [⟨[(0, .own 3 (.int .i64))], []⟩], fun x => fn_ref13_Dist x.1 x.2.1 x.2.2⟩
theorem ref13_Dist_is : SpecOk Try.prog sp_ref13_Dist := fn_is Try.func35 h_ref13_Dist (by kernel_rfl) (by kernel_rfl)
noncomputable def ok_ref13_Dist : OkSpec Try.prog := ⟨sp_ref13_Dist, ref13_Dist_is, Try.call35⟩
noncomputable def fn_ref13_Back_l1 (xa : (List (Int × Int))) (xb : (List Int)) (xc : Int) : Int → Option (Int ⊕ (Unit ⊕ Int)) := fun (i1915 : Int) => cond (decide (i1915 < (((xa.length : Nat) : Int)))) ((getI xa i1915).bind fun x2250 => cond (decide (x2250.2 = xc)) ((getI xb xc).bind fun x2260 => cond (decide (0 < x2260)) ((getI xa i1915).bind fun x2270 => (getI xb x2270.1).bind fun x2279 => (getI xb xc).bind fun x2288 => cond (decide (x2279 = (IntKind.wrap .i64 (x2288 - 1)))) (some (.inr ((.inr (i1915))))) (some (.inl (IntKind.wrap .i64 (i1915 + 1))))) (some (.inl (IntKind.wrap .i64 (i1915 + 1))))) (some (.inl (IntKind.wrap .i64 (i1915 + 1))))) (some (.inr ((.inl ()))))
noncomputable def fn_ref13_Back (xa : (List (Int × Int))) (xb : (List Int)) (xc : Int) : Option Int :=
  (loop (fn_ref13_Back_l1 xa xb xc) 0 : Option (Unit ⊕ Int)).bind fun o => match o with | .inr r => some r | .inl () => some ((-1))
noncomputable def h_ref13_Back : Hn Try.prog := .jx [] ⟨[], []⟩ [] (.lp ⟨[(7, .dat (.int .i64))], []⟩ (.tw 11 (.mix [] [0, 1, 2, 3, 4, 5, 6, 7, 8, 9, 10, 11, 12, 13, 14, 15, 16, 17, 18, 19, 20, 21, 22, 23, 24, 25, 26, 27, 28, 29] [] [] (.two 21 (.two 28 (.tw 43 (.nil) (.nil)) (.nil)) (.nil))) (.nil))) (.nil)
noncomputable def sp_ref13_Back : Spec := ⟨42, ⟨[(0, .dat (.sl (.cons (.int .i64) (.one (.int .i64))))), (1, .dat (.sl (.int .i64))), (2, .dat (.int .i64))], []⟩, [⟨[(0, .dat (.int .i64))], []⟩], fun x => fn_ref13_Back x.1 x.2.1 x.2.2⟩
theorem ref13_Back_is : SpecOk Try.prog sp_ref13_Back := fn_is Try.func42 h_ref13_Back (by kernel_rfl) (by kernel_rfl)
noncomputable def ok_ref13_Back : OkSpec Try.prog := ⟨sp_ref13_Back, ref13_Back_is, Try.call42⟩
noncomputable def fn_ref33_walk_l1 (xb : (List (Int × Int))) (l527 : (List Int)) : (Int × (List Int)) → Option ((Int × (List Int)) ⊕ (List Int)) := fun ((i946, l947) : (Int × (List Int))) => (getI l527 i946).bind fun x994 => cond (decide (0 < x994)) ((fn_ref13_Back xb l527 i946).bind fun i1007 => (app ([i1007] : List Int) l947).bind fun z1014 => (getI xb i1007).bind fun x1020 => some (.inl (x1020.1, z1014))) (some (.inr (l947)))
noncomputable def fn_ref33_walk (xa : Int) (xb : (List (Int × Int))) (xc : Int) (xd : Int) : Option (((List Int) × Bool)) :=
  cond ((((decide (xc < 0)) || (decide (xa ≤ xc))) || (decide (xd < 0))) || (decide (xa ≤ xd))) (some (([], false))) ((fn_ref13_Dist xa xb xc).bind fun l527 => (getI l527 xd).bind fun x535 => cond (decide (x535 < 0)) (some (([], false))) ((loop (fn_ref33_walk_l1 xb l527) ((xd, ([] : List Int))) : Option (List Int)).bind fun l865 => some ((l865, true))))
noncomputable def h_ref33_walk : Hn Try.prog := .gp 3 (.gp 2 (.gp 3 (.tw 28 (.nil) (.cl ok_ref13_Dist [] (.tw 37 (.nil) (.jn [] ⟨[(11, .own 3 (.int .i64)), (38, .any)], []⟩ [2] (.lp ⟨[(3, .dat (.int .i64)), (11, .own 3 (.int .i64))], []⟩ (.tw 43 (.cl ok_ref13_Back [0] (.nil)) (.nil))) (.nil)))))))
noncomputable def sp_ref33_walk : Spec := ⟨23, ⟨[(0, .dat (.int .i64)), (1, .dat (.sl (.cons (.int .i64) (.one (.int .i64))))), (2, .dat (.int .i64)), (3, .dat (.int .i64))], []⟩, [⟨[(0, .tup [.own 3 (.int .i64), .dat .bool])], []⟩], fun x => fn_ref33_walk x.1 x.2.1 x.2.2.1 x.2.2.2⟩
theorem ref33_walk_is : SpecOk Try.prog sp_ref33_walk := fn_is Try.func23 h_ref33_walk (by kernel_rfl) (by kernel_rfl)
noncomputable def ok_ref33_walk : OkSpec Try.prog := ⟨sp_ref33_walk, ref33_walk_is, Try.call23⟩
noncomputable def fn_ref33_Of_l1 (xa : (Int × Int × (List (Int × Int)) × (List (List (Int × Bool))) × (List (Int × Bool)) × (List (Int × (List (Int × Int)) × (List (List (Int × Bool))) × (List (Int × Bool)))) × (List ((List (Int × Int × Int × Int × Bool)) × (Int × Int × Int × (List Int) × (List Int) × (List Int)))))) (xc : (List (Int × Int))) (l3889 : (List (Int × Int))) : ((List (Int × Int × (List Int))) × Int) → Option (((List (Int × Int × (List Int))) × Int) ⊕ (List (Int × Int × (List Int)))) := fun ((l7304, i7309) : ((List (Int × Int × (List Int))) × Int)) => cond (decide (i7309 < (((xc.length : Nat) : Int)))) ((getI xc i7309).bind fun x7627 => (getI xc i7309).bind fun x7636 => (fn_ref33_walk xa.2.1 l3889 x7627.1 x7636.2).bind fun (l7647, t7648) => cond (t7648) ((getI xc i7309).bind fun x7729 => (getI xc i7309).bind fun x7738 => (app l7304 (([(x7729.1, x7738.2, l7647)] : List (Int × Int × (List Int))))).bind fun z7753 => some (.inl ((z7753, IntKind.wrap .i64 (i7309 + 1))))) (some (.inl ((l7304, IntKind.wrap .i64 (i7309 + 1)))))) (some (.inr (l7304)))
noncomputable def fn_ref33_Of (xa : (Int × Int × (List (Int × Int)) × (List (List (Int × Bool))) × (List (Int × Bool)) × (List (Int × (List (Int × Int)) × (List (List (Int × Bool))) × (List (Int × Bool)))) × (List ((List (Int × Int × Int × Int × Bool)) × (Int × Int × Int × (List Int) × (List Int) × (List Int)))))) (xb : (List (Int × Int × (Int × Int × Int × Int × Bool)))) (xc : (List (Int × Int))) : Option ((List (Int × Int × (List Int)))) :=
  (fn_ref27_Arcs xb).bind fun l3889 => (fn_ref10_Check xa.2.1 l3889).bind fun i3902 => cond (!decide (i3902 = 0)) (some (([] : List (Int × Int × (List Int))))) ((loop (fn_ref33_Of_l1 xa xc l3889) ((([] : List (Int × Int × (List Int))), 0)) : Option ((List (Int × Int × (List Int))))).bind fun l6852 => some (l6852))
noncomputable def h_ref33_Of : Hn Try.prog := .cl ok_ref27_Arcs [] (.cl ok_ref10_Check [4] (.tw 19 (.nil) (.per 4 5 (.jn [] ⟨[(7, .own 48 (.cons (.int .i64) (.cons (.int .i64) (.one (.sl (.int .i64)))))), (12, .any)], []⟩ [2] (.lp ⟨[(7, .own 48 (.cons (.int .i64) (.cons (.int .i64) (.one (.sl (.int .i64)))))), (9, .dat (.int .i64))], []⟩ (.tw 24 (.mix [([0, 1, 2, 3, 4, 5, 6, 7, 8, 9, 10, 11, 12], 13)] [14, 15, 16, 17, 18] [] [] (.cl ok_ref33_walk [] (.tw 44 (.mix [([0, 1, 2, 3, 4, 5, 6, 7, 8, 9, 10, 11, 12], 13)] [] [14, 15] [8] (.per 8 9 (.nil))) (.nil)))) (.nil))) (.nil)))))
noncomputable def sp_ref33_Of : Spec := ⟨7, ⟨[(0, .dat (.cons (.int .i64) (.cons (.int .i64) (.cons (.sl (.cons (.int .i64) (.one (.int .i64)))) (.cons (.sl (.one (.sl (.cons (.int .i64) (.one .bool))))) (.cons (.one (.sl (.cons (.int .i64) (.one .bool)))) (.cons (.sl (.cons (.int .i64) (.cons (.sl (.cons (.int .i64) (.one (.int .i64)))) (.cons (.sl (.one (.sl (.cons (.int .i64) (.one .bool))))) (.one (.one (.sl (.cons (.int .i64) (.one .bool))))))))) (.one (.sl (.cons (.sl (.cons (.int .i64) (.cons (.int .i64) (.cons (.int .i64) (.cons (.int .i64) (.one .bool)))))) (.one (.cons (.int .i64) (.cons (.int .i64) (.cons (.int .i64) (.cons (.sl (.int .i64)) (.cons (.sl (.int .i64)) (.one (.sl (.int .i64))))))))))))))))))), (1, .dat (.sl (.cons (.int .i64) (.cons (.int .i64) (.one (.cons (.int .i64) (.cons (.int .i64) (.cons (.int .i64) (.cons (.int .i64) (.one .bool)))))))))), (2, .dat (.sl (.cons (.int .i64) (.one (.int .i64)))))], []⟩, [⟨[(0, .own 48 (.cons (.int .i64) (.cons (.int .i64) (.one (.sl (.int .i64))))))], []⟩], fun x => fn_ref33_Of x.1 x.2.1 x.2.2⟩
theorem ref33_Of_is : SpecOk Try.prog sp_ref33_Of := fn_is Try.func7 h_ref33_Of (by kernel_rfl) (by kernel_rfl)
noncomputable def ok_ref33_Of : OkSpec Try.prog := ⟨sp_ref33_Of, ref33_Of_is, Try.call7⟩
noncomputable def fn_ref01_Same_l1 (xa : (List Int)) (xb : (List Int)) : Int → Option (Int ⊕ (Unit ⊕ Bool)) := fun (i757 : Int) => cond (decide (i757 < (((xa.length : Nat) : Int)))) ((getI xa i757).bind fun x889 => (getI xb i757).bind fun x898 => cond (!decide (x889 = x898)) (some (.inr ((.inr (false))))) (some (.inl (IntKind.wrap .i64 (i757 + 1))))) (some (.inr ((.inl ()))))
noncomputable def fn_ref01_Same (xa : (List Int)) (xb : (List Int)) : Option Bool :=
  cond (!decide ((((xa.length : Nat) : Int)) = (((xb.length : Nat) : Int)))) (some (false)) ((loop (fn_ref01_Same_l1 xa xb) 0 : Option (Unit ⊕ Bool)).bind fun o => match o with | .inr r => some r | .inl () => some (true))
noncomputable def h_ref01_Same : Hn Try.prog := .tw 10 (.nil) (.jx [] ⟨[], []⟩ [] (.lp ⟨[(5, .dat (.int .i64))], []⟩ (.tw 14 (.mix [] [0, 1, 2, 3, 4, 5, 6, 7, 8] [] [] (.tw 25 (.nil) (.nil))) (.nil))) (.nil))
noncomputable def sp_ref01_Same : Spec := ⟨24, ⟨[(0, .dat (.sl (.int .i64))), (1, .dat (.sl (.int .i64)))], []⟩, [⟨[(0, .dat .bool)], []⟩], fun x => fn_ref01_Same x.1 x.2⟩
theorem ref01_Same_is : SpecOk Try.prog sp_ref01_Same := fn_is Try.func24 h_ref01_Same (by kernel_rfl) (by kernel_rfl)
noncomputable def ok_ref01_Same : OkSpec Try.prog := ⟨sp_ref01_Same, ref01_Same_is, Try.call24⟩
noncomputable def fn_ref33_Same_l1 (xa : (List (Int × Int × (List Int)))) (xb : (List (Int × Int × (List Int)))) : Int → Option (Int ⊕ (Unit ⊕ Bool)) := fun (i2657 : Int) => cond (decide (i2657 < (((xa.length : Nat) : Int)))) ((getI xa i2657).bind fun x3117 => (getI xb i2657).bind fun x3126 => cond (!decide (x3117.1 = x3126.1)) (some (.inr ((.inr (false))))) ((getI xa i2657).bind fun x3136 => (getI xb i2657).bind fun x3145 => cond (!decide (x3136.2.1 = x3145.2.1)) (some (.inr ((.inr (false))))) ((getI xa i2657).bind fun x3155 => (getI xb i2657).bind fun x3168 => (fn_ref01_Same x3155.2.2 x3168.2.2).bind fun t3183 => cond (!t3183) (some (.inr ((.inr (false))))) (some (.inl (IntKind.wrap .i64 (i2657 + 1))))))) (some (.inr ((.inl ()))))
noncomputable def fn_ref33_Same (xa : (List (Int × Int × (List Int)))) (xb : (List (Int × Int × (List Int)))) : Option Bool :=
  cond (!decide ((((xa.length : Nat) : Int)) = (((xb.length : Nat) : Int)))) (some (false)) ((loop (fn_ref33_Same_l1 xa xb) 0 : Option (Unit ⊕ Bool)).bind fun o => match o with | .inr r => some r | .inl () => some (true))
noncomputable def h_ref33_Same : Hn Try.prog := .tw 10 (.nil) (.jx [] ⟨[], []⟩ [] (.lp ⟨[(5, .dat (.int .i64))], []⟩ (.tw 14 (.mix [] [0, 1, 2, 3, 4, 5, 6, 7, 8, 9, 10, 11, 12, 13, 14, 15, 16, 17, 18, 19, 20, 21, 22, 23, 24, 25, 26, 27, 28, 29, 30, 31, 32, 33, 34] [35, 36, 37] [] (.two 28 (.nil) (.two 41 (.nil) (.cl ok_ref01_Same [] (.tw 54 (.nil) (.nil)))))) (.nil))) (.nil))
noncomputable def sp_ref33_Same : Spec := ⟨8, ⟨[(0, .dat (.sl (.cons (.int .i64) (.cons (.int .i64) (.one (.sl (.int .i64))))))), (1, .dat (.sl (.cons (.int .i64) (.cons (.int .i64) (.one (.sl (.int .i64)))))))], []⟩, [⟨[(0, .dat .bool)], []⟩], fun x => fn_ref33_Same x.1 x.2⟩
theorem ref33_Same_is : SpecOk Try.prog sp_ref33_Same := fn_is Try.func8 h_ref33_Same (by kernel_rfl) (by kernel_rfl)
noncomputable def ok_ref33_Same : OkSpec Try.prog := ⟨sp_ref33_Same, ref33_Same_is, Try.call8⟩

noncomputable def fn_tick_Counter_Of_p0c0_iiiiiii (qa0 : Int) (qa1 : Int) (qa2 : Int) (qa3 : Int) (qa4 : Int) (qa5 : Int) (qa6 : Int) : Option Int :=
  (fn_tick_isPart 0).bind fun t12 => cond (!t12) (some (0)) (some (qa0))
noncomputable def h_tick_Counter_Of_p0c0_iiiiiii : Hn Try.prog := .cl ok_tick_isPart [] (.tw 11 (.nil) (.nil))
noncomputable def sp_tick_Counter_Of_p0c0_iiiiiii : Spec := ⟨10, ⟨[(0, .ptr 0 0), (1, .lit (.int .i64 0))], [⟨none, 27, [.is 1 (.dat (.int .i64)), .is 2 (.dat (.int .i64)), .is 3 (.dat (.int .i64)), .is 4 (.dat (.int .i64)), .is 5 (.dat (.int .i64)), .is 6 (.dat (.int .i64)), .is 7 (.dat (.int .i64))], false, false, none⟩, ⟨none, 0, [], false, true, none⟩, ⟨none, 0, [], false, true, none⟩, ⟨none, 0, [], false, true, none⟩, ⟨none, 0, [], false, true, none⟩, ⟨none, 0, [], false, true, none⟩, ⟨none, 0, [], false, true, none⟩, ⟨none, 0, [], false, true, none⟩]⟩, [⟨[(0, .dat (.int .i64))], [⟨(some 0), 27, [.is 1 (.any), .is 2 (.any), .is 3 (.any), .is 4 (.any), .is 5 (.any), .is 6 (.any), .is 7 (.any)], false, false, none⟩, ⟨(some 1), 0, [], false, true, none⟩, ⟨(some 2), 0, [], false, true, none⟩, ⟨(some 3), 0, [], false, true, none⟩, ⟨(some 4), 0, [], false, true, none⟩, ⟨(some 5), 0, [], false, true, none⟩, ⟨(some 6), 0, [], false, true, none⟩, ⟨(some 7), 0, [], false, true, none⟩]⟩], fun x => fn_tick_Counter_Of_p0c0_iiiiiii x.1 x.2.1 x.2.2.1 x.2.2.2.1 x.2.2.2.2.1 x.2.2.2.2.2.1 x.2.2.2.2.2.2⟩
theorem tick_Counter_Of_p0c0_iiiiiii_is : SpecOk Try.prog sp_tick_Counter_Of_p0c0_iiiiiii := fn_is Try.func10 h_tick_Counter_Of_p0c0_iiiiiii (by kernel_rfl) (by kernel_rfl)
noncomputable def ok_tick_Counter_Of_p0c0_iiiiiii : OkSpec Try.prog := ⟨sp_tick_Counter_Of_p0c0_iiiiiii, tick_Counter_Of_p0c0_iiiiiii_is, Try.call10⟩

noncomputable def fn_tick_Counter_Of_p0c1_iiiiiii (qa0 : Int) (qa1 : Int) (qa2 : Int) (qa3 : Int) (qa4 : Int) (qa5 : Int) (qa6 : Int) : Option Int :=
  (fn_tick_isPart 1).bind fun t12 => cond (!t12) (some (0)) (some (qa1))
noncomputable def h_tick_Counter_Of_p0c1_iiiiiii : Hn Try.prog := .cl ok_tick_isPart [] (.tw 11 (.nil) (.nil))
noncomputable def sp_tick_Counter_Of_p0c1_iiiiiii : Spec := ⟨10, ⟨[(0, .ptr 0 0), (1, .lit (.int .i64 1))], [⟨none, 27, [.is 1 (.dat (.int .i64)), .is 2 (.dat (.int .i64)), .is 3 (.dat (.int .i64)), .is 4 (.dat (.int .i64)), .is 5 (.dat (.int .i64)), .is 6 (.dat (.int .i64)), .is 7 (.dat (.int .i64))], false, false, none⟩, ⟨none, 0, [], false, true, none⟩, ⟨none, 0, [], false, true, none⟩, ⟨none, 0, [], false, true, none⟩, ⟨none, 0, [], false, true, none⟩, ⟨none, 0, [], false, true, none⟩, ⟨none, 0, [], false, true, none⟩, ⟨none, 0, [], false, true, none⟩]⟩, [⟨[(0, .dat (.int .i64))], [⟨(some 0), 27, [.is 1 (.any), .is 2 (.any), .is 3 (.any), .is 4 (.any), .is 5 (.any), .is 6 (.any), .is 7 (.any)], false, false, none⟩, ⟨(some 1), 0, [], false, true, none⟩, ⟨(some 2), 0, [], false, true, none⟩, ⟨(some 3), 0, [], false, true, none⟩, ⟨(some 4), 0, [], false, true, none⟩, ⟨(some 5), 0, [], false, true, none⟩, ⟨(some 6), 0, [], false, true, none⟩, ⟨(some 7), 0, [], false, true, none⟩]⟩], fun x => fn_tick_Counter_Of_p0c1_iiiiiii x.1 x.2.1 x.2.2.1 x.2.2.2.1 x.2.2.2.2.1 x.2.2.2.2.2.1 x.2.2.2.2.2.2⟩
theorem tick_Counter_Of_p0c1_iiiiiii_is : SpecOk Try.prog sp_tick_Counter_Of_p0c1_iiiiiii := fn_is Try.func10 h_tick_Counter_Of_p0c1_iiiiiii (by kernel_rfl) (by kernel_rfl)
noncomputable def ok_tick_Counter_Of_p0c1_iiiiiii : OkSpec Try.prog := ⟨sp_tick_Counter_Of_p0c1_iiiiiii, tick_Counter_Of_p0c1_iiiiiii_is, Try.call10⟩

noncomputable def fn_tick_Counter_Of_p0c2_iiiiiii (qa0 : Int) (qa1 : Int) (qa2 : Int) (qa3 : Int) (qa4 : Int) (qa5 : Int) (qa6 : Int) : Option Int :=
  (fn_tick_isPart 2).bind fun t12 => cond (!t12) (some (0)) (some (qa2))
noncomputable def h_tick_Counter_Of_p0c2_iiiiiii : Hn Try.prog := .cl ok_tick_isPart [] (.tw 11 (.nil) (.nil))
noncomputable def sp_tick_Counter_Of_p0c2_iiiiiii : Spec := ⟨10, ⟨[(0, .ptr 0 0), (1, .lit (.int .i64 2))], [⟨none, 27, [.is 1 (.dat (.int .i64)), .is 2 (.dat (.int .i64)), .is 3 (.dat (.int .i64)), .is 4 (.dat (.int .i64)), .is 5 (.dat (.int .i64)), .is 6 (.dat (.int .i64)), .is 7 (.dat (.int .i64))], false, false, none⟩, ⟨none, 0, [], false, true, none⟩, ⟨none, 0, [], false, true, none⟩, ⟨none, 0, [], false, true, none⟩, ⟨none, 0, [], false, true, none⟩, ⟨none, 0, [], false, true, none⟩, ⟨none, 0, [], false, true, none⟩, ⟨none, 0, [], false, true, none⟩]⟩, [⟨[(0, .dat (.int .i64))], [⟨(some 0), 27, [.is 1 (.any), .is 2 (.any), .is 3 (.any), .is 4 (.any), .is 5 (.any), .is 6 (.any), .is 7 (.any)], false, false, none⟩, ⟨(some 1), 0, [], false, true, none⟩, ⟨(some 2), 0, [], false, true, none⟩, ⟨(some 3), 0, [], false, true, none⟩, ⟨(some 4), 0, [], false, true, none⟩, ⟨(some 5), 0, [], false, true, none⟩, ⟨(some 6), 0, [], false, true, none⟩, ⟨(some 7), 0, [], false, true, none⟩]⟩], fun x => fn_tick_Counter_Of_p0c2_iiiiiii x.1 x.2.1 x.2.2.1 x.2.2.2.1 x.2.2.2.2.1 x.2.2.2.2.2.1 x.2.2.2.2.2.2⟩
theorem tick_Counter_Of_p0c2_iiiiiii_is : SpecOk Try.prog sp_tick_Counter_Of_p0c2_iiiiiii := fn_is Try.func10 h_tick_Counter_Of_p0c2_iiiiiii (by kernel_rfl) (by kernel_rfl)
noncomputable def ok_tick_Counter_Of_p0c2_iiiiiii : OkSpec Try.prog := ⟨sp_tick_Counter_Of_p0c2_iiiiiii, tick_Counter_Of_p0c2_iiiiiii_is, Try.call10⟩

noncomputable def fn_tick_Counter_Of_p0c3_iiiiiii (qa0 : Int) (qa1 : Int) (qa2 : Int) (qa3 : Int) (qa4 : Int) (qa5 : Int) (qa6 : Int) : Option Int :=
  (fn_tick_isPart 3).bind fun t12 => cond (!t12) (some (0)) (some (qa3))
noncomputable def h_tick_Counter_Of_p0c3_iiiiiii : Hn Try.prog := .cl ok_tick_isPart [] (.tw 11 (.nil) (.nil))
noncomputable def sp_tick_Counter_Of_p0c3_iiiiiii : Spec := ⟨10, ⟨[(0, .ptr 0 0), (1, .lit (.int .i64 3))], [⟨none, 27, [.is 1 (.dat (.int .i64)), .is 2 (.dat (.int .i64)), .is 3 (.dat (.int .i64)), .is 4 (.dat (.int .i64)), .is 5 (.dat (.int .i64)), .is 6 (.dat (.int .i64)), .is 7 (.dat (.int .i64))], false, false, none⟩, ⟨none, 0, [], false, true, none⟩, ⟨none, 0, [], false, true, none⟩, ⟨none, 0, [], false, true, none⟩, ⟨none, 0, [], false, true, none⟩, ⟨none, 0, [], false, true, none⟩, ⟨none, 0, [], false, true, none⟩, ⟨none, 0, [], false, true, none⟩]⟩, [⟨[(0, .dat (.int .i64))], [⟨(some 0), 27, [.is 1 (.any), .is 2 (.any), .is 3 (.any), .is 4 (.any), .is 5 (.any), .is 6 (.any), .is 7 (.any)], false, false, none⟩, ⟨(some 1), 0, [], false, true, none⟩, ⟨(some 2), 0, [], false, true, none⟩, ⟨(some 3), 0, [], false, true, none⟩, ⟨(some 4), 0, [], false, true, none⟩, ⟨(some 5), 0, [], false, true, none⟩, ⟨(some 6), 0, [], false, true, none⟩, ⟨(some 7), 0, [], false, true, none⟩]⟩], fun x => fn_tick_Counter_Of_p0c3_iiiiiii x.1 x.2.1 x.2.2.1 x.2.2.2.1 x.2.2.2.2.1 x.2.2.2.2.2.1 x.2.2.2.2.2.2⟩
theorem tick_Counter_Of_p0c3_iiiiiii_is : SpecOk Try.prog sp_tick_Counter_Of_p0c3_iiiiiii := fn_is Try.func10 h_tick_Counter_Of_p0c3_iiiiiii (by kernel_rfl) (by kernel_rfl)
noncomputable def ok_tick_Counter_Of_p0c3_iiiiiii : OkSpec Try.prog := ⟨sp_tick_Counter_Of_p0c3_iiiiiii, tick_Counter_Of_p0c3_iiiiiii_is, Try.call10⟩

noncomputable def fn_tick_Counter_Of_p0c4_iiiiiii (qa0 : Int) (qa1 : Int) (qa2 : Int) (qa3 : Int) (qa4 : Int) (qa5 : Int) (qa6 : Int) : Option Int :=
  (fn_tick_isPart 4).bind fun t12 => cond (!t12) (some (0)) (some (qa4))
noncomputable def h_tick_Counter_Of_p0c4_iiiiiii : Hn Try.prog := .cl ok_tick_isPart [] (.tw 11 (.nil) (.nil))
noncomputable def sp_tick_Counter_Of_p0c4_iiiiiii : Spec := ⟨10, ⟨[(0, .ptr 0 0), (1, .lit (.int .i64 4))], [⟨none, 27, [.is 1 (.dat (.int .i64)), .is 2 (.dat (.int .i64)), .is 3 (.dat (.int .i64)), .is 4 (.dat (.int .i64)), .is 5 (.dat (.int .i64)), .is 6 (.dat (.int .i64)), .is 7 (.dat (.int .i64))], false, false, none⟩, ⟨none, 0, [], false, true, none⟩, ⟨none, 0, [], false, true, none⟩, ⟨none, 0, [], false, true, none⟩, ⟨none, 0, [], false, true, none⟩, ⟨none, 0, [], false, true, none⟩, ⟨none, 0, [], false, true, none⟩, ⟨none, 0, [], false, true, none⟩]⟩, [⟨[(0, .dat (.int .i64))], [⟨(some 0), 27, [.is 1 (.any), .is 2 (.any), .is 3 (.any), .is 4 (.any), .is 5 (.any), .is 6 (.any), .is 7 (.any)], false, false, none⟩, ⟨(some 1), 0, [], false, true, none⟩, ⟨(some 2), 0, [], false, true, none⟩, ⟨(some 3), 0, [], false, true, none⟩, ⟨(some 4), 0, [], false, true, none⟩, ⟨(some 5), 0, [], false, true, none⟩, ⟨(some 6), 0, [], false, true, none⟩, ⟨(some 7), 0, [], false, true, none⟩]⟩], fun x => fn_tick_Counter_Of_p0c4_iiiiiii x.1 x.2.1 x.2.2.1 x.2.2.2.1 x.2.2.2.2.1 x.2.2.2.2.2.1 x.2.2.2.2.2.2⟩
theorem tick_Counter_Of_p0c4_iiiiiii_is : SpecOk Try.prog sp_tick_Counter_Of_p0c4_iiiiiii := fn_is Try.func10 h_tick_Counter_Of_p0c4_iiiiiii (by kernel_rfl) (by kernel_rfl)
noncomputable def ok_tick_Counter_Of_p0c4_iiiiiii : OkSpec Try.prog := ⟨sp_tick_Counter_Of_p0c4_iiiiiii, tick_Counter_Of_p0c4_iiiiiii_is, Try.call10⟩

noncomputable def fn_tick_Counter_Of_p0c5_iiiiiii (qa0 : Int) (qa1 : Int) (qa2 : Int) (qa3 : Int) (qa4 : Int) (qa5 : Int) (qa6 : Int) : Option Int :=
  (fn_tick_isPart 5).bind fun t12 => cond (!t12) (some (0)) (some (qa5))
noncomputable def h_tick_Counter_Of_p0c5_iiiiiii : Hn Try.prog := .cl ok_tick_isPart [] (.tw 11 (.nil) (.nil))
noncomputable def sp_tick_Counter_Of_p0c5_iiiiiii : Spec := ⟨10, ⟨[(0, .ptr 0 0), (1, .lit (.int .i64 5))], [⟨none, 27, [.is 1 (.dat (.int .i64)), .is 2 (.dat (.int .i64)), .is 3 (.dat (.int .i64)), .is 4 (.dat (.int .i64)), .is 5 (.dat (.int .i64)), .is 6 (.dat (.int .i64)), .is 7 (.dat (.int .i64))], false, false, none⟩, ⟨none, 0, [], false, true, none⟩, ⟨none, 0, [], false, true, none⟩, ⟨none, 0, [], false, true, none⟩, ⟨none, 0, [], false, true, none⟩, ⟨none, 0, [], false, true, none⟩, ⟨none, 0, [], false, true, none⟩, ⟨none, 0, [], false, true, none⟩]⟩, [⟨[(0, .dat (.int .i64))], [⟨(some 0), 27, [.is 1 (.any), .is 2 (.any), .is 3 (.any), .is 4 (.any), .is 5 (.any), .is 6 (.any), .is 7 (.any)], false, false, none⟩, ⟨(some 1), 0, [], false, true, none⟩, ⟨(some 2), 0, [], false, true, none⟩, ⟨(some 3), 0, [], false, true, none⟩, ⟨(some 4), 0, [], false, true, none⟩, ⟨(some 5), 0, [], false, true, none⟩, ⟨(some 6), 0, [], false, true, none⟩, ⟨(some 7), 0, [], false, true, none⟩]⟩], fun x => fn_tick_Counter_Of_p0c5_iiiiiii x.1 x.2.1 x.2.2.1 x.2.2.2.1 x.2.2.2.2.1 x.2.2.2.2.2.1 x.2.2.2.2.2.2⟩
theorem tick_Counter_Of_p0c5_iiiiiii_is : SpecOk Try.prog sp_tick_Counter_Of_p0c5_iiiiiii := fn_is Try.func10 h_tick_Counter_Of_p0c5_iiiiiii (by kernel_rfl) (by kernel_rfl)
noncomputable def ok_tick_Counter_Of_p0c5_iiiiiii : OkSpec Try.prog := ⟨sp_tick_Counter_Of_p0c5_iiiiiii, tick_Counter_Of_p0c5_iiiiiii_is, Try.call10⟩

noncomputable def fn_tick_Counter_Of_p0c6_iiiiiii (qa0 : Int) (qa1 : Int) (qa2 : Int) (qa3 : Int) (qa4 : Int) (qa5 : Int) (qa6 : Int) : Option Int :=
  (fn_tick_isPart 6).bind fun t12 => cond (!t12) (some (0)) (some (qa6))
noncomputable def h_tick_Counter_Of_p0c6_iiiiiii : Hn Try.prog := .cl ok_tick_isPart [] (.tw 11 (.nil) (.nil))
noncomputable def sp_tick_Counter_Of_p0c6_iiiiiii : Spec := ⟨10, ⟨[(0, .ptr 0 0), (1, .lit (.int .i64 6))], [⟨none, 27, [.is 1 (.dat (.int .i64)), .is 2 (.dat (.int .i64)), .is 3 (.dat (.int .i64)), .is 4 (.dat (.int .i64)), .is 5 (.dat (.int .i64)), .is 6 (.dat (.int .i64)), .is 7 (.dat (.int .i64))], false, false, none⟩, ⟨none, 0, [], false, true, none⟩, ⟨none, 0, [], false, true, none⟩, ⟨none, 0, [], false, true, none⟩, ⟨none, 0, [], false, true, none⟩, ⟨none, 0, [], false, true, none⟩, ⟨none, 0, [], false, true, none⟩, ⟨none, 0, [], false, true, none⟩]⟩, [⟨[(0, .dat (.int .i64))], [⟨(some 0), 27, [.is 1 (.any), .is 2 (.any), .is 3 (.any), .is 4 (.any), .is 5 (.any), .is 6 (.any), .is 7 (.any)], false, false, none⟩, ⟨(some 1), 0, [], false, true, none⟩, ⟨(some 2), 0, [], false, true, none⟩, ⟨(some 3), 0, [], false, true, none⟩, ⟨(some 4), 0, [], false, true, none⟩, ⟨(some 5), 0, [], false, true, none⟩, ⟨(some 6), 0, [], false, true, none⟩, ⟨(some 7), 0, [], false, true, none⟩]⟩], fun x => fn_tick_Counter_Of_p0c6_iiiiiii x.1 x.2.1 x.2.2.1 x.2.2.2.1 x.2.2.2.2.1 x.2.2.2.2.2.1 x.2.2.2.2.2.2⟩
theorem tick_Counter_Of_p0c6_iiiiiii_is : SpecOk Try.prog sp_tick_Counter_Of_p0c6_iiiiiii := fn_is Try.func10 h_tick_Counter_Of_p0c6_iiiiiii (by kernel_rfl) (by kernel_rfl)
noncomputable def ok_tick_Counter_Of_p0c6_iiiiiii : OkSpec Try.prog := ⟨sp_tick_Counter_Of_p0c6_iiiiiii, tick_Counter_Of_p0c6_iiiiiii_is, Try.call10⟩

noncomputable def fn_tick_Counter_Total_p0_iiiiiii (qa0 : Int) (qa1 : Int) (qa2 : Int) (qa3 : Int) (qa4 : Int) (qa5 : Int) (qa6 : Int) : Option Int :=
  (fn_tick_Counter_Of_p0c0_iiiiiii qa0 qa1 qa2 qa3 qa4 qa5 qa6).bind fun i88 => (fn_tick_sum 0 i88).bind fun i94 => (fn_tick_Counter_Of_p0c1_iiiiiii qa0 qa1 qa2 qa3 qa4 qa5 qa6).bind fun i100 => (fn_tick_sum i94 i100).bind fun i106 => (fn_tick_Counter_Of_p0c2_iiiiiii qa0 qa1 qa2 qa3 qa4 qa5 qa6).bind fun i112 => (fn_tick_sum i106 i112).bind fun i118 => (fn_tick_Counter_Of_p0c3_iiiiiii qa0 qa1 qa2 qa3 qa4 qa5 qa6).bind fun i124 => (fn_tick_sum i118 i124).bind fun i130 => (fn_tick_Counter_Of_p0c4_iiiiiii qa0 qa1 qa2 qa3 qa4 qa5 qa6).bind fun i136 => (fn_tick_sum i130 i136).bind fun i142 => (fn_tick_Counter_Of_p0c5_iiiiiii qa0 qa1 qa2 qa3 qa4 qa5 qa6).bind fun i148 => (fn_tick_sum i142 i148).bind fun i154 => (fn_tick_Counter_Of_p0c6_iiiiiii qa0 qa1 qa2 qa3 qa4 qa5 qa6).bind fun i160 => (fn_tick_sum i154 i160).bind fun i166 => some (i166)
noncomputable def h_tick_Counter_Total_p0_iiiiiii : Hn Try.prog := .un 64 (.cl ok_tick_Counter_Of_p0c0_iiiiiii [] (.cl ok_tick_sum [] (.cl ok_tick_Counter_Of_p0c1_iiiiiii [] (.cl ok_tick_sum [] (.cl ok_tick_Counter_Of_p0c2_iiiiiii [] (.cl ok_tick_sum [] (.cl ok_tick_Counter_Of_p0c3_iiiiiii [] (.cl ok_tick_sum [] (.cl ok_tick_Counter_Of_p0c4_iiiiiii [] (.cl ok_tick_sum [] (.cl ok_tick_Counter_Of_p0c5_iiiiiii [] (.cl ok_tick_sum [] (.cl ok_tick_Counter_Of_p0c6_iiiiiii [] (.cl ok_tick_sum [] (.nil)))))))))))))))
noncomputable def sp_tick_Counter_Total_p0_iiiiiii : Spec := ⟨9, ⟨[(0, .ptr 0 0)], [⟨none, 27, [.is 1 (.dat (.int .i64)), .is 2 (.dat (.int .i64)), .is 3 (.dat (.int .i64)), .is 4 (.dat (.int .i64)), .is 5 (.dat (.int .i64)), .is 6 (.dat (.int .i64)), .is 7 (.dat (.int .i64))], false, false, none⟩, ⟨none, 0, [], false, true, none⟩, ⟨none, 0, [], false, true, none⟩, ⟨none, 0, [], false, true, none⟩, ⟨none, 0, [], false, true, none⟩, ⟨none, 0, [], false, true, none⟩, ⟨none, 0, [], false, true, none⟩, ⟨none, 0, [], false, true, none⟩]⟩, [⟨[(0, .dat (.int .i64))], [⟨(some 0), 27, [.is 1 (.any), .is 2 (.any), .is 3 (.any), .is 4 (.any), .is 5 (.any), .is 6 (.any), .is 7 (.any)], false, false, none⟩, ⟨(some 1), 0, [], false, true, none⟩, ⟨(some 2), 0, [], false, true, none⟩, ⟨(some 3), 0, [], false, true, none⟩, ⟨(some 4), 0, [], false, true, none⟩, ⟨(some 5), 0, [], false, true, none⟩, ⟨(some 6), 0, [], false, true, none⟩, ⟨(some 7), 0, [], false, true, none⟩]⟩], fun x => fn_tick_Counter_Total_p0_iiiiiii x.1 x.2.1 x.2.2.1 x.2.2.2.1 x.2.2.2.2.1 x.2.2.2.2.2.1 x.2.2.2.2.2.2⟩
theorem tick_Counter_Total_p0_iiiiiii_is : SpecOk Try.prog sp_tick_Counter_Total_p0_iiiiiii := fn_is Try.func9 h_tick_Counter_Total_p0_iiiiiii (by kernel_rfl) (by kernel_rfl)
noncomputable def ok_tick_Counter_Total_p0_iiiiiii : OkSpec Try.prog := ⟨sp_tick_Counter_Total_p0_iiiiiii, tick_Counter_Total_p0_iiiiiii_is, Try.call9⟩
noncomputable def fn_blame_Bounds_l1 (xa : (List (Int × Int × (List Int)))) : ((List (Int × Int)) × Int) → Option (((List (Int × Int)) × Int) ⊕ (List (Int × Int))) := fun ((l331, i336) : ((List (Int × Int)) × Int)) => cond (decide (i336 < (((xa.length : Nat) : Int)))) ((getI xa i336).bind fun x370 => (app l331 (([(x370.1, x370.2.1)] : List (Int × Int)))).bind fun z387 => some (.inl ((z387, IntKind.wrap .i64 (i336 + 1))))) (some (.inr (l331)))
noncomputable def fn_blame_Bounds (xa : (List (Int × Int × (List Int)))) : Option ((List (Int × Int))) :=
  (loop (fn_blame_Bounds_l1 xa) ([], 0) : Option ((List (Int × Int)))).bind fun l294 => some (l294)
noncomputable def h_blame_Bounds : Hn Try.prog := .jn [] ⟨[(3, .own 45 (.cons (.int .i64) (.one (.int .i64))))], []⟩ [] (.lp ⟨[(3, .own 45 (.cons (.int .i64) (.one (.int .i64)))), (8, .dat (.int .i64))], []⟩ (.tw 9 (.nil) (.nil))) (.nil)
noncomputable def sp_blame_Bounds : Spec := ⟨11, ⟨[(0, .dat (.sl (.cons (.int .i64) (.cons (.int .i64) (.one (.sl (.int .i64)))))))], []⟩, [⟨[(0, .own 45 (.cons (.int .i64) (.one (.int .i64))))], []⟩], fun x => fn_blame_Bounds x⟩
theorem blame_Bounds_is : SpecOk Try.prog sp_blame_Bounds := fn_is Try.func11 h_blame_Bounds (by kernel_rfl) (by kernel_rfl)
noncomputable def ok_blame_Bounds : OkSpec Try.prog := ⟨sp_blame_Bounds, blame_Bounds_is, Try.call11⟩

noncomputable def fn_ref01_Pair (xa : (Int × Int)) : Option (List UInt8) :=
  cond ((decide (xa.1 < 0)) || (decide (xa.2 < 0))) (some (([] : List UInt8))) ((fn_ref01_Text xa.1).bind fun s124 => (app s124 ([58] : List UInt8)).bind fun z128 => (fn_ref01_Text xa.2).bind fun s132 => (app z128 s132).bind fun z136 => some (z136))
noncomputable def h_ref01_Pair : Hn Try.prog := .gp 3 (.tw 10 (.nil) (.mix [([0, 1, 4, 5], 2), ([3], 6)] [7, 8] [] [] (.cl ok_ref01_Text [] (.cl ok_ref01_Text [] (.nil)))))
noncomputable def sp_ref01_Pair : Spec := ⟨30, ⟨[(0, .dat (.cons (.int .i64) (.one (.int .i64))))], []⟩, [⟨[(0, .dat .str)], []⟩], fun x => fn_ref01_Pair x⟩
theorem ref01_Pair_is : SpecOk Try.prog sp_ref01_Pair := fn_is Try.func30 h_ref01_Pair (by kernel_rfl) (by kernel_rfl)
noncomputable def ok_ref01_Pair : OkSpec Try.prog := ⟨sp_ref01_Pair, ref01_Pair_is, Try.call30⟩

noncomputable def fn_ref26_Name (xa : Int) : Option (List UInt8) :=
  cond ((decide (xa < 1)) || (decide (7 < xa))) (some (([63] : List UInt8))) ((getI (([([102, 108, 111, 119] : List UInt8), ([108, 111, 97, 110] : List UInt8), ([98, 97, 115, 101] : List UInt8), ([110, 101, 101, 100] : List UInt8), ([112, 97, 115, 115] : List UInt8), ([103, 105, 118, 101] : List UInt8), ([111, 117, 116] : List UInt8)] : List (List UInt8))) (IntKind.wrap .i64 (xa - 1))).bind fun x21 => some (x21))
noncomputable def h_ref26_Name : Hn Try.prog := .gp 2 (.tw 8 (.nil) (.nil))
noncomputable def sp_ref26_Name : Spec := ⟨64, ⟨[(0, .dat (.int .i64))], []⟩, [⟨[(0, .dat .str)], []⟩], fun x => fn_ref26_Name x⟩
theorem ref26_Name_is : SpecOk Try.prog sp_ref26_Name := fn_is Try.func64 h_ref26_Name (by kernel_rfl) (by kernel_rfl)
noncomputable def ok_ref26_Name : OkSpec Try.prog := ⟨sp_ref26_Name, ref26_Name_is, Try.call64⟩

noncomputable def fn_ref26_Right (xa : (Int × Int × Int × Int × Bool)) : Option Bool :=
  (cond (((decide (0 ≤ xa.1)) && (decide (0 ≤ xa.2.1))) && (decide (0 ≤ xa.2.2.2.1))) ((fn_ref26_Name xa.2.2.1).bind fun s38 => some (!decide (s38 = ([63] : List UInt8)))) (some (false))).bind fun t34 => some (t34)
noncomputable def h_ref26_Right : Hn Try.prog := .gp 3 (.gp 3 (.gj 4 ⟨[(21, .dat .bool)], []⟩ [] (.two 16 (.cl ok_ref26_Name [] (.nil)) (.nil)) (.nil)))
noncomputable def sp_ref26_Right : Spec := ⟨63, ⟨[(0, .dat (.cons (.int .i64) (.cons (.int .i64) (.cons (.int .i64) (.cons (.int .i64) (.one .bool))))))], []⟩, [⟨[(0, .dat .bool)], []⟩], fun x => fn_ref26_Right x⟩
theorem ref26_Right_is : SpecOk Try.prog sp_ref26_Right := fn_is Try.func63 h_ref26_Right (by kernel_rfl) (by kernel_rfl)
noncomputable def ok_ref26_Right : OkSpec Try.prog := ⟨sp_ref26_Right, ref26_Right_is, Try.call63⟩

noncomputable def fn_ref26_Text (xa : (Int × Int × Int × Int × Bool)) : Option (List UInt8) :=
  (fn_ref26_Right (xa.1, xa.2.1, xa.2.2.1, xa.2.2.2.1, xa.2.2.2.2)).bind fun t160 => cond (!t160) (some (([63] : List UInt8))) ((fn_ref01_Text xa.1).bind fun s275 => (app s275 ([46] : List UInt8)).bind fun z279 => (fn_ref01_Text xa.2.1).bind fun s283 => (app z279 s283).bind fun z287 => (app z287 ([32] : List UInt8)).bind fun z289 => (fn_ref26_Name xa.2.2.1).bind fun s293 => (app z289 s293).bind fun z297 => (app z297 ([32] : List UInt8)).bind fun z299 => (fn_ref01_Text xa.2.2.2.1).bind fun s303 => (app z299 s303).bind fun z307 => cond (xa.2.2.2.2) ((app z307 ([32, 98, 97, 99, 107] : List UInt8)).bind fun z310 => some (z310)) (some (z307)))
noncomputable def h_ref26_Text : Hn Try.prog := .cl ok_ref26_Right [] (.tw 6 (.nil) (.mix [([0, 1, 4, 5, 9, 10, 14, 15], 2), ([3], 6), ([7, 8], 11), ([12, 13], 16)] [17, 18] [] [] (.cl ok_ref01_Text [] (.cl ok_ref01_Text [] (.cl ok_ref26_Name [] (.cl ok_ref01_Text [] (.tw 26 (.nil) (.nil))))))))
noncomputable def sp_ref26_Text : Spec := ⟨44, ⟨[(0, .dat (.cons (.int .i64) (.cons (.int .i64) (.cons (.int .i64) (.cons (.int .i64) (.one .bool))))))], []⟩, [⟨[(0, .dat .str)], []⟩], fun x => fn_ref26_Text x⟩
theorem ref26_Text_is : SpecOk Try.prog sp_ref26_Text := fn_is Try.func44 h_ref26_Text (by kernel_rfl) (by kernel_rfl)
noncomputable def ok_ref26_Text : OkSpec Try.prog := ⟨sp_ref26_Text, ref26_Text_is, Try.call44⟩

noncomputable def fn_ref26_Edge (xa : (Int × Int × (Int × Int × Int × Int × Bool))) : Option (List UInt8) :=
  (fn_ref01_Pair (xa.1, xa.2.1)).bind fun s118 => (app s118 ([32, 97, 116, 32] : List UInt8)).bind fun z122 => (fn_ref26_Text (xa.2.2.1, xa.2.2.2.1, xa.2.2.2.2.1, xa.2.2.2.2.2.1, xa.2.2.2.2.2.2)).bind fun s126 => (app z122 s126).bind fun z130 => some (z130)
noncomputable def h_ref26_Edge : Hn Try.prog := .mix [([0, 1, 2, 3, 4, 7, 8], 5), ([6], 9)] [10, 11] [] [] (.cl ok_ref01_Pair [] (.cl ok_ref26_Text [] (.nil)))
noncomputable def sp_ref26_Edge : Spec := ⟨32, ⟨[(0, .dat (.cons (.int .i64) (.cons (.int .i64) (.one (.cons (.int .i64) (.cons (.int .i64) (.cons (.int .i64) (.cons (.int .i64) (.one .bool)))))))))], []⟩, [⟨[(0, .dat .str)], []⟩], fun x => fn_ref26_Edge x⟩
theorem ref26_Edge_is : SpecOk Try.prog sp_ref26_Edge := fn_is Try.func32 h_ref26_Edge (by kernel_rfl) (by kernel_rfl)
noncomputable def ok_ref26_Edge : OkSpec Try.prog := ⟨sp_ref26_Edge, ref26_Edge_is, Try.call32⟩
noncomputable def fn_ref33_Text_l1 (xa : (List (Int × Int × (Int × Int × Int × Int × Bool)))) (xb : (Int × Int × (List Int))) : ((List (List UInt8)) × Int) → Option (((List (List UInt8)) × Int) ⊕ (List (List UInt8))) := fun ((l1745, i1750) : ((List (List UInt8)) × Int)) => cond (decide (i1750 < (((xb.2.2.length : Nat) : Int)))) ((getI xb.2.2 i1750).bind fun x1826 => (cond (decide (0 ≤ x1826)) ((getI xb.2.2 i1750).bind fun x1847 => some (decide (x1847 < (((xa.length : Nat) : Int))))) (some (false))).bind fun t1845 => cond (t1845) ((getI xb.2.2 i1750).bind fun x1857 => (getI xa x1857).bind fun x1866 => (fn_ref26_Edge ((x1866.1, x1866.2.1, (x1866.2.2.1, x1866.2.2.2.1, x1866.2.2.2.2.1, x1866.2.2.2.2.2.1, x1866.2.2.2.2.2.2)))).bind fun s1877 => (app ([32, 32] : List UInt8) s1877).bind fun z1881 => (app l1745 (([z1881] : List (List UInt8)))).bind fun z1886 => some (.inl ((z1886, IntKind.wrap .i64 (i1750 + 1))))) (some (.inl ((l1745, IntKind.wrap .i64 (i1750 + 1)))))) (some (.inr (l1745)))
noncomputable def fn_ref33_Text (xa : (List (Int × Int × (Int × Int × Int × Int × Bool)))) (xb : (Int × Int × (List Int))) : Option ((List (List UInt8))) :=
  (fn_ref01_Pair (xb.1, xb.2.1)).bind fun s1009 => (app s1009 ([32, 105, 115, 32, 109, 105, 115, 115, 105, 110, 103, 44, 32, 98, 121, 32] : List UInt8)).bind fun z1013 => (fn_ref01_Text (((xb.2.2.length : Nat) : Int))).bind fun s1017 => (app z1013 s1017).bind fun z1021 => (loop (fn_ref33_Text_l1 xa xb) ((([z1021] : List (List UInt8)), 0)) : Option ((List (List UInt8)))).bind fun l1600 => some (l1600)
noncomputable def h_ref33_Text : Hn Try.prog := .mix [([0, 1, 2, 3, 4, 7, 8, 9], 5), ([6], 10), ([11], 12)] [13] [] [] (.cl ok_ref01_Pair [] (.cl ok_ref01_Text [] (.jn [] ⟨[(5, .own 9 .str), (19, .any)], []⟩ [2] (.lp ⟨[(5, .own 9 .str), (6, .dat (.int .i64))], []⟩ (.tw 24 (.gj 8 ⟨[(42, .dat .bool)], []⟩ [] (.two 33 (.nil) (.nil)) (.tw 42 (.cl ok_ref26_Edge [] (.nil)) (.nil))) (.nil))) (.nil))))
noncomputable def sp_ref33_Text : Spec := ⟨14, ⟨[(0, .dat (.sl (.cons (.int .i64) (.cons (.int .i64) (.one (.cons (.int .i64) (.cons (.int .i64) (.cons (.int .i64) (.cons (.int .i64) (.one .bool)))))))))), (1, .dat (.cons (.int .i64) (.cons (.int .i64) (.one (.sl (.int .i64))))))], []⟩, [⟨[(0, .own 9 .str)], []⟩], fun x => fn_ref33_Text x.1 x.2⟩
theorem ref33_Text_is : SpecOk Try.prog sp_ref33_Text := fn_is Try.func14 h_ref33_Text (by kernel_rfl) (by kernel_rfl)
noncomputable def ok_ref33_Text : OkSpec Try.prog := ⟨sp_ref33_Text, ref33_Text_is, Try.call14⟩
noncomputable def fn_law33_BlameFinds_l1 (xb : (List (Int × Int × (Int × Int × Int × Int × Bool)))) (l3432 : (List (Int × Int × (List Int)))) (l3518 : (List (Int × Int))) : Int → Option (Int ⊕ (Unit ⊕ Bool)) := fun (i6256 : Int) => cond (decide (i6256 < (((l3432.length : Nat) : Int)))) ((getI l3518 i6256).bind fun x6718 => (getI l3432 i6256).bind fun x6725 => cond (!decide (x6718.1 = x6725.1)) (some (.inr ((.inr (false))))) ((getI l3518 i6256).bind fun x6733 => (getI l3432 i6256).bind fun x6740 => cond (!decide (x6733.2 = x6740.2.1)) (some (.inr ((.inr (false))))) ((getI l3432 i6256).bind fun x6748 => (getI l3432 i6256).bind fun x6759 => (fn_blame_Text xb (x6748.1, x6748.2.1, x6748.2.2)).bind fun l6772 => (fn_ref33_Text xb (x6759.1, x6759.2.1, x6759.2.2)).bind fun l6782 => (fn_ref33_Lines l6772 l6782).bind fun t6798 => cond (!t6798) (some (.inr ((.inr (false))))) (some (.inl (IntKind.wrap .i64 (i6256 + 1))))))) (some (.inr ((.inl ()))))
noncomputable def fn_law33_BlameFinds (xa : Int) (xb : (List (Int × Int × (Int × Int × Int × Int × Bool)))) (xc : (List (Int × Int))) : Option Bool :=
  cond (((decide (16 < xa)) || (decide (40 < (((xb.length : Nat) : Int))))) || (decide (20 < (((xc.length : Nat) : Int))))) ((fn_law33_awake).bind fun t3413 => some (t3413)) ((fn_blame_Of_akkp0_iiiiiii (0, xa, [], [], [], [], []) xb xc 0 0 0 0 0 0 0).bind fun (l3421, i3422) => (fn_ref33_Of (0, xa, [], [], [], [], []) xb xc).bind fun l3432 => (fn_ref33_Same l3421 l3432).bind fun t3448 => (cond (!t3448) (some (true)) ((fn_tick_Counter_Total_p0_iiiiiii 0 0 0 0 0 0 i3422).bind fun i3469 => (fn_tick_Counter_Of_p0c6_iiiiiii 0 0 0 0 0 0 i3422).bind fun i3475 => some (!decide (i3469 = i3475)))).bind fun t3465 => (cond (t3465) (some (true)) ((cond (decide (0 ≤ xa)) ((fn_tick_Counter_Total_p0_iiiiiii 0 0 0 0 0 0 i3422).bind fun i3508 => some (decide ((IntKind.wrap .i64 ((IntKind.wrap .i64 (3 * (((xc.length : Nat) : Int)))) * (IntKind.wrap .i64 (xa + (((xb.length : Nat) : Int)))))) < i3508))) (some (false))).bind fun t3504 => some (t3504))).bind fun t3495 => cond (t3495) (some (false)) ((fn_blame_Bounds l3421).bind fun l3518 => cond (!decide ((((l3518.length : Nat) : Int)) = (((l3432.length : Nat) : Int)))) (some (false)) ((loop (fn_law33_BlameFinds_l1 xb l3432 l3518) 0 : Option (Unit ⊕ Bool)).bind fun o => match o with | .inr r => some r | .inl () => (fn_law33_awake).bind fun t6805 => some (t6805))))
noncomputable def h_law33_BlameFinds : Hn Try.prog := .gp 3 (.gp 3 (.tw 24 (.cl ok_law33_awake [] (.nil)) (.wt 30 (.mc 0 0 1 (.mc 0 1 1 (.mc 0 2 1 (.mc 0 3 1 (.mc 0 4 1 (.mc 0 5 1 (.cl ok_blame_Of_akkp0_iiiiiii [] (.cl ok_ref33_Of [] (.cl ok_ref33_Same [12, 15] (.mc 0 6 14 (.gj 3 ⟨[(44, .dat .bool)], [⟨(some 0), 27, [.is 1 (.any), .is 2 (.any), .is 3 (.any), .is 4 (.any), .is 5 (.any), .is 6 (.any), .is 7 (.any)], false, false, none⟩, ⟨(some 5), 0, [], false, true, none⟩, ⟨(some 6), 0, [], false, true, none⟩, ⟨(some 7), 0, [], false, true, none⟩, ⟨(some 8), 0, [], false, true, none⟩, ⟨(some 9), 0, [], false, true, none⟩, ⟨(some 10), 0, [], false, true, none⟩, ⟨(some 17), 0, [], false, true, none⟩]⟩ [0] (.two 40 (.nil) (.cl ok_tick_Counter_Total_p0_iiiiiii [] (.cl ok_tick_Counter_Of_p0c6_iiiiiii [] (.nil)))) (.gj 14 ⟨[(60, .dat .bool)], [⟨(some 0), 27, [.is 1 (.any), .is 2 (.any), .is 3 (.any), .is 4 (.any), .is 5 (.any), .is 6 (.any), .is 7 (.any)], false, false, none⟩, ⟨(some 5), 0, [], false, true, none⟩, ⟨(some 6), 0, [], false, true, none⟩, ⟨(some 7), 0, [], false, true, none⟩, ⟨(some 8), 0, [], false, true, none⟩, ⟨(some 9), 0, [], false, true, none⟩, ⟨(some 10), 0, [], false, true, none⟩, ⟨(some 17), 0, [], false, true, none⟩]⟩ [0] (.two 45 (.nil) (.gj 10 ⟨[(59, .dat .bool)], [⟨(some 0), 27, [.is 1 (.any), .is 2 (.any), .is 3 (.any), .is 4 (.any), .is 5 (.any), .is 6 (.any), .is 7 (.any)], false, false, none⟩, ⟨(some 5), 0, [], false, true, none⟩, ⟨(some 6), 0, [], false, true, none⟩, ⟨(some 7), 0, [], false, true, none⟩, ⟨(some 8), 0, [], false, true, none⟩, ⟨(some 9), 0, [], false, true, none⟩, ⟨(some 10), 0, [], false, true, none⟩, ⟨(some 17), 0, [], false, true, none⟩]⟩ [0] (.two 48 (.cl ok_tick_Counter_Total_p0_iiiiiii [] (.nil)) (.nil)) (.nil))) (.tw 60 (.nil) (.per 12 13 (.cl ok_blame_Bounds [] (.tw 67 (.nil) (.jx [] ⟨[], []⟩ [0, 2] (.lp ⟨[(12, .dat (.int .i64))], []⟩ (.tw 71 (.mix [([0, 1, 2, 3, 4, 5, 6, 7, 8, 9, 10, 11, 12, 13, 14, 15, 16, 17, 18, 19, 20, 21, 22, 23, 24, 25, 26, 27, 28, 29, 31, 32, 33, 34, 35], 30)] [] [36, 37, 38, 39] [] (.two 85 (.nil) (.two 98 (.nil) (.cl ok_blame_Text [] (.cl ok_ref33_Text [] (.cl ok_ref33_Lines [22, 24] (.tw 113 (.nil) (.nil)))))))) (.nil))) (.cl ok_law33_awake [] (.nil))))))))))))))))))))))
noncomputable def sp_law33_BlameFinds : Spec := ⟨3, ⟨[(0, .dat (.int .i64)), (1, .dat (.sl (.cons (.int .i64) (.cons (.int .i64) (.one (.cons (.int .i64) (.cons (.int .i64) (.cons (.int .i64) (.cons (.int .i64) (.one .bool)))))))))), (2, .dat (.sl (.cons (.int .i64) (.one (.int .i64)))))], []⟩, [⟨[(0, .dat .bool)], []⟩], fun x => fn_law33_BlameFinds x.1 x.2.1 x.2.2⟩
theorem law33_BlameFinds_is : SpecOk Try.prog sp_law33_BlameFinds := fn_is Try.func3 h_law33_BlameFinds (by kernel_rfl) (by kernel_rfl)
noncomputable def ok_law33_BlameFinds : OkSpec Try.prog := ⟨sp_law33_BlameFinds, law33_BlameFinds_is, Try.call3⟩
noncomputable def fn_blame_Places_l1 (xa : (List (Int × Int × (Int × Int × Int × Int × Bool)))) (xb : (Int × Int × (List Int))) : ((List (Int × Int × Int × Int × Bool)) × Int) → Option (((List (Int × Int × Int × Int × Bool)) × Int) ⊕ ((List (Int × Int × Int × Int × Bool)) ⊕ (List (Int × Int × Int × Int × Bool)))) := fun ((l402, i407) : ((List (Int × Int × Int × Int × Bool)) × Int)) => cond (decide (i407 < (((xb.2.2.length : Nat) : Int)))) ((getI xb.2.2 i407).bind fun x448 => cond ((decide (x448 < 0)) || (decide ((((xa.length : Nat) : Int)) ≤ x448))) (some (.inr ((.inr ([]))))) ((getI xa x448).bind fun x461 => (app l402 (([(x461.2.2.1, x461.2.2.2.1, x461.2.2.2.2.1, x461.2.2.2.2.2.1, x461.2.2.2.2.2.2)] : List (Int × Int × Int × Int × Bool)))).bind fun z473 => some (.inl ((z473, IntKind.wrap .i64 (i407 + 1)))))) (some (.inr (.inl l402)))
noncomputable def fn_blame_Places (xa : (List (Int × Int × (Int × Int × Int × Int × Bool)))) (xb : (Int × Int × (List Int))) : Option ((List (Int × Int × Int × Int × Bool))) :=
  (loop (fn_blame_Places_l1 xa xb) ([], 0) : Option ((List (Int × Int × Int × Int × Bool)) ⊕ (List (Int × Int × Int × Int × Bool)))).bind fun o => match o with | .inr r => some r | .inl l358 => some (l358)
noncomputable def h_blame_Places : Hn Try.prog := .jx [] ⟨[(5, .own 57 (.cons (.int .i64) (.cons (.int .i64) (.cons (.int .i64) (.cons (.int .i64) (.one .bool))))))], []⟩ [0] (.lp ⟨[(5, .own 57 (.cons (.int .i64) (.cons (.int .i64) (.cons (.int .i64) (.cons (.int .i64) (.one .bool)))))), (11, .dat (.int .i64))], []⟩ (.tw 12 (.gp 4 (.tw 22 (.nil) (.nil))) (.nil))) (.nil)
noncomputable def sp_blame_Places : Spec := ⟨15, ⟨[(0, .dat (.sl (.cons (.int .i64) (.cons (.int .i64) (.one (.cons (.int .i64) (.cons (.int .i64) (.cons (.int .i64) (.cons (.int .i64) (.one .bool)))))))))), (1, .dat (.cons (.int .i64) (.cons (.int .i64) (.one (.sl (.int .i64))))))], []⟩, [⟨[(0, .own 57 (.cons (.int .i64) (.cons (.int .i64) (.cons (.int .i64) (.cons (.int .i64) (.one .bool))))))], []⟩], fun x => fn_blame_Places x.1 x.2⟩
theorem blame_Places_is : SpecOk Try.prog sp_blame_Places := fn_is Try.func15 h_blame_Places (by kernel_rfl) (by kernel_rfl)
noncomputable def ok_blame_Places : OkSpec Try.prog := ⟨sp_blame_Places, blame_Places_is, Try.call15⟩
noncomputable def fn_ref33_Places_l1 (xa : (List (Int × Int × (Int × Int × Int × Int × Bool)))) (xb : (Int × Int × (List Int))) : ((List (Int × Int × Int × Int × Bool)) × Int) → Option (((List (Int × Int × Int × Int × Bool)) × Int) ⊕ ((List (Int × Int × Int × Int × Bool)) ⊕ (List (Int × Int × Int × Int × Bool)))) := fun ((l1423, i1428) : ((List (Int × Int × Int × Int × Bool)) × Int)) => cond (decide (i1428 < (((xb.2.2.length : Nat) : Int)))) ((getI xb.2.2 i1428).bind fun x1496 => (cond (decide (x1496 < 0)) (some (true)) ((getI xb.2.2 i1428).bind fun x1517 => some (decide ((((xa.length : Nat) : Int)) ≤ x1517)))).bind fun t1515 => cond (t1515) (some (.inr ((.inr ([]))))) ((getI xb.2.2 i1428).bind fun x1528 => (getI xa x1528).bind fun x1537 => (app l1423 (([(x1537.2.2.1, x1537.2.2.2.1, x1537.2.2.2.2.1, x1537.2.2.2.2.2.1, x1537.2.2.2.2.2.2)] : List (Int × Int × Int × Int × Bool)))).bind fun z1549 => some (.inl ((z1549, IntKind.wrap .i64 (i1428 + 1)))))) (some (.inr (.inl l1423)))
noncomputable def fn_ref33_Places (xa : (List (Int × Int × (Int × Int × Int × Int × Bool)))) (xb : (Int × Int × (List Int))) : Option ((List (Int × Int × Int × Int × Bool))) :=
  (loop (fn_ref33_Places_l1 xa xb) ((([] : List (Int × Int × Int × Int × Bool)), 0)) : Option ((List (Int × Int × Int × Int × Bool)) ⊕ (List (Int × Int × Int × Int × Bool)))).bind fun o => match o with | .inr r => some r | .inl l1294 => some (l1294)
noncomputable def h_ref33_Places : Hn Try.prog := .jx [] ⟨[(5, .own 57 (.cons (.int .i64) (.cons (.int .i64) (.cons (.int .i64) (.cons (.int .i64) (.one .bool)))))), (7, .any)], []⟩ [2] (.lp ⟨[(5, .own 57 (.cons (.int .i64) (.cons (.int .i64) (.cons (.int .i64) (.cons (.int .i64) (.one .bool)))))), (6, .dat (.int .i64))], []⟩ (.tw 12 (.gj 8 ⟨[(30, .dat .bool)], []⟩ [] (.two 21 (.nil) (.nil)) (.tw 30 (.nil) (.nil))) (.nil))) (.nil)
noncomputable def sp_ref33_Places : Spec := ⟨16, ⟨[(0, .dat (.sl (.cons (.int .i64) (.cons (.int .i64) (.one (.cons (.int .i64) (.cons (.int .i64) (.cons (.int .i64) (.cons (.int .i64) (.one .bool)))))))))), (1, .dat (.cons (.int .i64) (.cons (.int .i64) (.one (.sl (.int .i64))))))], []⟩, [⟨[(0, .own 57 (.cons (.int .i64) (.cons (.int .i64) (.cons (.int .i64) (.cons (.int .i64) (.one .bool))))))], []⟩], fun x => fn_ref33_Places x.1 x.2⟩
theorem ref33_Places_is : SpecOk Try.prog sp_ref33_Places := fn_is Try.func16 h_ref33_Places (by kernel_rfl) (by kernel_rfl)
noncomputable def ok_ref33_Places : OkSpec Try.prog := ⟨sp_ref33_Places, ref33_Places_is, Try.call16⟩
noncomputable def fn_path_Walk_l1 (xa : (Option (Int × (List (Int × Int)) × ((List Int) × (List Int)) × ((List Int) × (List Int))))) (xc : (List Int)) : (Int × Int) → Option ((Int × Int) ⊕ (Int ⊕ (Int × Bool))) := fun ((i280, i281) : (Int × Int)) => cond (decide (i281 < (((xc.length : Nat) : Int)))) ((getI xc i281).bind fun x308 => (fn_graph_Graph_Arc xa x308).bind fun (i319, i320, t321) => cond ((!t321) || (!decide (i319 = i280))) (some (.inr ((.inr ((0, false)))))) (some (.inl ((i320, IntKind.wrap .i64 (i281 + 1)))))) (some (.inr (.inl i280)))
noncomputable def fn_path_Walk (xa : (Option (Int × (List (Int × Int)) × ((List Int) × (List Int)) × ((List Int) × (List Int))))) (xb : Int) (xc : (List Int)) : Option (Int × Bool) :=
  (cond (decide (xb < 0)) (some (true)) ((fn_graph_Graph_Nodes xa).bind fun i177 => some (decide (i177 ≤ xb)))).bind fun t173 => cond (t173) (some ((0, false))) ((loop (fn_path_Walk_l1 xa xc) (xb, 0) : Option (Int ⊕ (Int × Bool))).bind fun o => match o with | .inr r => some r | .inl i255 => some ((i255, true)))
noncomputable def h_path_Walk : Hn Try.prog := .gj 4 ⟨[(19, .dat .bool)], []⟩ [] (.two 14 (.nil) (.cl ok_graph_Graph_Nodes [] (.nil))) (.tw 19 (.nil) (.jx [] ⟨[(1, .dat (.int .i64))], []⟩ [] (.lp ⟨[(1, .dat (.int .i64)), (22, .dat (.int .i64))], []⟩ (.tw 23 (.cl ok_graph_Graph_Arc [] (.gp 4 (.tw 39 (.nil) (.nil)))) (.nil))) (.nil)))
noncomputable def sp_path_Walk : Spec := ⟨33, ⟨[(0, .dat (.ptr (.cons (.int .i64) (.cons (.sl (.cons (.int .i64) (.one (.int .i64)))) (.cons (.cons (.sl (.int .i64)) (.one (.sl (.int .i64)))) (.one (.cons (.sl (.int .i64)) (.one (.sl (.int .i64)))))))))), (1, .dat (.int .i64)), (2, .dat (.sl (.int .i64)))], []⟩, [⟨[(0, .tup [.dat (.int .i64), .dat .bool])], []⟩], fun x => fn_path_Walk x.1 x.2.1 x.2.2⟩
theorem path_Walk_is : SpecOk Try.prog sp_path_Walk := fn_is Try.func33 h_path_Walk (by kernel_rfl) (by kernel_rfl)
noncomputable def ok_path_Walk : OkSpec Try.prog := ⟨sp_path_Walk, path_Walk_is, Try.call33⟩

noncomputable def fn_blame_Right (xa : (Int × Int × (List (Int × Int)) × (List (List (Int × Bool))) × (List (Int × Bool)) × (List (Int × (List (Int × Int)) × (List (List (Int × Bool))) × (List (Int × Bool)))) × (List ((List (Int × Int × Int × Int × Bool)) × (Int × Int × Int × (List Int) × (List Int) × (List Int)))))) (xb : (List (Int × Int × (Int × Int × Int × Int × Bool)))) (xc : (Int × Int × (List Int))) : Option Bool :=
  (fn_cons_Graph (xa.1, xa.2.1, xa.2.2.1, xa.2.2.2.1, xa.2.2.2.2.1, xa.2.2.2.2.2.1, xa.2.2.2.2.2.2) xb).bind fun p37 => (fn_path_Walk p37 xc.1 xc.2.2).bind fun (i45, t46) => cond ((!t46) || (!decide (i45 = xc.2.1))) (some (false)) ((fn_path_Short_kpiiz p37 xc.1 xc.2.1).bind fun (l55, t56) => some (decide ((((xc.2.2.length : Nat) : Int)) = (((l55.length : Nat) : Int)))))
noncomputable def h_blame_Right : Hn Try.prog := .cl ok_cons_Graph [] (.cl ok_path_Walk [] (.gp 4 (.tw 31 (.nil) (.cl ok_path_Short_kpiiz [] (.nil)))))
noncomputable def sp_blame_Right : Spec := ⟨17, ⟨[(0, .dat (.cons (.int .i64) (.cons (.int .i64) (.cons (.sl (.cons (.int .i64) (.one (.int .i64)))) (.cons (.sl (.one (.sl (.cons (.int .i64) (.one .bool))))) (.cons (.one (.sl (.cons (.int .i64) (.one .bool)))) (.cons (.sl (.cons (.int .i64) (.cons (.sl (.cons (.int .i64) (.one (.int .i64)))) (.cons (.sl (.one (.sl (.cons (.int .i64) (.one .bool))))) (.one (.one (.sl (.cons (.int .i64) (.one .bool))))))))) (.one (.sl (.cons (.sl (.cons (.int .i64) (.cons (.int .i64) (.cons (.int .i64) (.cons (.int .i64) (.one .bool)))))) (.one (.cons (.int .i64) (.cons (.int .i64) (.cons (.int .i64) (.cons (.sl (.int .i64)) (.cons (.sl (.int .i64)) (.one (.sl (.int .i64))))))))))))))))))), (1, .dat (.sl (.cons (.int .i64) (.cons (.int .i64) (.one (.cons (.int .i64) (.cons (.int .i64) (.cons (.int .i64) (.cons (.int .i64) (.one .bool)))))))))), (2, .dat (.cons (.int .i64) (.cons (.int .i64) (.one (.sl (.int .i64))))))], []⟩, [⟨[(0, .dat .bool)], []⟩], fun x => fn_blame_Right x.1 x.2.1 x.2.2⟩
theorem blame_Right_is : SpecOk Try.prog sp_blame_Right := fn_is Try.func17 h_blame_Right (by kernel_rfl) (by kernel_rfl)
noncomputable def ok_blame_Right : OkSpec Try.prog := ⟨sp_blame_Right, blame_Right_is, Try.call17⟩
noncomputable def fn_ref14_Walk_l1 (xb : (List (Int × Int))) (xd : (List Int)) : (Int × Int) → Option ((Int × Int) ⊕ (Int ⊕ (Int × Bool))) := fun ((i924, i925) : (Int × Int)) => cond (decide (i925 < (((xd.length : Nat) : Int)))) ((getI xd i925).bind fun x1019 => (cond (decide (x1019 < 0)) (some (true)) ((getI xd i925).bind fun x1040 => some (decide ((((xb.length : Nat) : Int)) ≤ x1040)))).bind fun t1038 => (cond (t1038) (some (true)) ((getI xd i925).bind fun x1070 => (getI xb x1070).bind fun x1079 => some (!decide (x1079.1 = i924)))).bind fun t1068 => cond (t1068) (some (.inr ((.inr ((0, false)))))) ((getI xd i925).bind fun x1089 => (getI xb x1089).bind fun x1098 => some (.inl ((x1098.2, IntKind.wrap .i64 (i925 + 1)))))) (some (.inr (.inl i924)))
noncomputable def fn_ref14_Walk (xa : Int) (xb : (List (Int × Int))) (xc : Int) (xd : (List Int)) : Option (Int × Bool) :=
  cond ((decide (xc < 0)) || (decide (xa ≤ xc))) (some ((0, false))) ((loop (fn_ref14_Walk_l1 xb xd) (xc, 0) : Option (Int ⊕ (Int × Bool))).bind fun o => match o with | .inr r => some r | .inl i832 => some ((i832, true)))
noncomputable def h_ref14_Walk : Hn Try.prog := .gp 3 (.tw 17 (.nil) (.jx [] ⟨[(2, .dat (.int .i64))], []⟩ [] (.lp ⟨[(2, .dat (.int .i64)), (10, .dat (.int .i64))], []⟩ (.tw 21 (.gj 7 ⟨[(37, .dat .bool)], []⟩ [] (.two 29 (.nil) (.nil)) (.gj 10 ⟨[(49, .dat .bool)], []⟩ [] (.two 38 (.nil) (.nil)) (.tw 49 (.nil) (.nil)))) (.nil))) (.nil)))
noncomputable def sp_ref14_Walk : Spec := ⟨34, ⟨[(0, .dat (.int .i64)), (1, .dat (.sl (.cons (.int .i64) (.one (.int .i64))))), (2, .dat (.int .i64)), (3, .dat (.sl (.int .i64)))], []⟩, [⟨[(0, .tup [.dat (.int .i64), .dat .bool])], []⟩], fun x => fn_ref14_Walk x.1 x.2.1 x.2.2.1 x.2.2.2⟩
theorem ref14_Walk_is : SpecOk Try.prog sp_ref14_Walk := fn_is Try.func34 h_ref14_Walk (by kernel_rfl) (by kernel_rfl)
noncomputable def ok_ref14_Walk : OkSpec Try.prog := ⟨sp_ref14_Walk, ref14_Walk_is, Try.call34⟩

noncomputable def fn_ref33_Right (xa : (Int × Int × (List (Int × Int)) × (List (List (Int × Bool))) × (List (Int × Bool)) × (List (Int × (List (Int × Int)) × (List (List (Int × Bool))) × (List (Int × Bool)))) × (List ((List (Int × Int × Int × Int × Bool)) × (Int × Int × Int × (List Int) × (List Int) × (List Int)))))) (xb : (List (Int × Int × (Int × Int × Int × Int × Bool)))) (xc : (Int × Int × (List Int))) : Option Bool :=
  (fn_ref27_Arcs xb).bind fun l126 => (fn_ref10_Check xa.2.1 l126).bind fun i139 => cond (!decide (i139 = 0)) (some (false)) ((fn_ref14_Walk xa.2.1 l126 xc.1 xc.2.2).bind fun (i149, t150) => cond (t150) (cond (decide (i149 = xc.2.1)) ((fn_ref13_Dist xa.2.1 l126 xc.1).bind fun l227 => (getI l227 xc.2.1).bind fun x235 => some (decide (x235 = (((xc.2.2.length : Nat) : Int))))) (some (false))) (some (false)))
noncomputable def h_ref33_Right : Hn Try.prog := .cl ok_ref27_Arcs [] (.cl ok_ref10_Check [4] (.tw 16 (.nil) (.cl ok_ref14_Walk [4] (.mix [([0, 1, 2, 3, 4, 5, 6, 7, 8, 9, 10, 11, 12, 14, 15, 18, 19, 20], 13), ([], 16), ([], 17), ([], 21), ([], 22), ([], 23)] [] [] [4] (.two 29 (.two 35 (.per 4 5 (.cl ok_ref13_Dist [] (.nil))) (.nil)) (.nil))))))
noncomputable def sp_ref33_Right : Spec := ⟨18, ⟨[(0, .dat (.cons (.int .i64) (.cons (.int .i64) (.cons (.sl (.cons (.int .i64) (.one (.int .i64)))) (.cons (.sl (.one (.sl (.cons (.int .i64) (.one .bool))))) (.cons (.one (.sl (.cons (.int .i64) (.one .bool)))) (.cons (.sl (.cons (.int .i64) (.cons (.sl (.cons (.int .i64) (.one (.int .i64)))) (.cons (.sl (.one (.sl (.cons (.int .i64) (.one .bool))))) (.one (.one (.sl (.cons (.int .i64) (.one .bool))))))))) (.one (.sl (.cons (.sl (.cons (.int .i64) (.cons (.int .i64) (.cons (.int .i64) (.cons (.int .i64) (.one .bool)))))) (.one (.cons (.int .i64) (.cons (.int .i64) (.cons (.int .i64) (.cons (.sl (.int .i64)) (.cons (.sl (.int .i64)) (.one (.sl (.int .i64))))))))))))))))))), (1, .dat (.sl (.cons (.int .i64) (.cons (.int .i64) (.one (.cons (.int .i64) (.cons (.int .i64) (.cons (.int .i64) (.cons (.int .i64) (.one .bool)))))))))), (2, .dat (.cons (.int .i64) (.cons (.int .i64) (.one (.sl (.int .i64))))))], []⟩, [⟨[(0, .dat .bool)], []⟩], fun x => fn_ref33_Right x.1 x.2.1 x.2.2⟩
theorem ref33_Right_is : SpecOk Try.prog sp_ref33_Right := fn_is Try.func18 h_ref33_Right (by kernel_rfl) (by kernel_rfl)
noncomputable def ok_ref33_Right : OkSpec Try.prog := ⟨sp_ref33_Right, ref33_Right_is, Try.call18⟩
noncomputable def fn_law33_BlameRight_l1 (l943 : (List (Int × Int × Int × Int × Bool))) (l953 : (List (Int × Int × Int × Int × Bool))) : Int → Option (Int ⊕ (Unit ⊕ Bool)) := fun (i1669 : Int) => cond (decide (i1669 < (((l953.length : Nat) : Int)))) ((getI l943 i1669).bind fun x1773 => (getI l953 i1669).bind fun x1780 => cond (!((decide (x1773.1 = x1780.1)) && ((decide (x1773.2.1 = x1780.2.1)) && ((decide (x1773.2.2.1 = x1780.2.2.1)) && ((decide (x1773.2.2.2.1 = x1780.2.2.2.1)) && (x1773.2.2.2.2 == x1780.2.2.2.2)))))) (some (.inr ((.inr (false))))) (some (.inl (IntKind.wrap .i64 (i1669 + 1))))) (some (.inr ((.inl ()))))
noncomputable def fn_law33_BlameRight (xa : Int) (xb : (List (Int × Int × (Int × Int × Int × Int × Bool)))) (xc : (Int × Int × (List Int))) : Option Bool :=
  cond (((decide (16 < xa)) || (decide (40 < (((xb.length : Nat) : Int))))) || (decide (20 < (((xc.2.2.length : Nat) : Int))))) ((fn_law33_awake).bind fun t906 => some (t906)) ((fn_blame_Places xb (xc.1, xc.2.1, xc.2.2)).bind fun l943 => (fn_ref33_Places xb (xc.1, xc.2.1, xc.2.2)).bind fun l953 => (fn_blame_Right (0, xa, [], [], [], [], []) xb (xc.1, xc.2.1, xc.2.2)).bind fun t1035 => (fn_ref33_Right (0, xa, [], [], [], [], []) xb (xc.1, xc.2.1, xc.2.2)).bind fun t1041 => cond (!(t1035 == t1041)) (some (false)) (cond (!decide ((((l943.length : Nat) : Int)) = (((l953.length : Nat) : Int)))) (some (false)) ((fn_blame_Text xb (xc.1, xc.2.1, xc.2.2)).bind fun l1049 => (fn_ref33_Text xb (xc.1, xc.2.1, xc.2.2)).bind fun l1059 => (fn_ref33_Lines l1049 l1059).bind fun t1075 => cond (!t1075) (some (false)) ((loop (fn_law33_BlameRight_l1 l943 l953) 0 : Option (Unit ⊕ Bool)).bind fun o => match o with | .inr r => some r | .inl () => (fn_law33_awake).bind fun t1790 => some (t1790)))))
noncomputable def h_law33_BlameRight : Hn Try.prog := .gp 3 (.gp 4 (.tw 23 (.cl ok_law33_awake [] (.nil)) (.mix [([0, 1, 3, 4], 2)] [] [5, 6, 7] [] (.cl ok_blame_Places [] (.cl ok_ref33_Places [] (.mix [([0, 1, 2, 4, 5, 6], 3), ([], 7), ([8, 9, 10, 11, 12, 13, 14, 15, 16, 17, 18, 20, 21], 19)] [] [22, 23, 24, 25] [] (.cl ok_blame_Right [] (.cl ok_ref33_Right [] (.two 42 (.nil) (.two 49 (.nil) (.cl ok_blame_Text [] (.cl ok_ref33_Text [] (.cl ok_ref33_Lines [9, 11] (.tw 58 (.nil) (.jx [] ⟨[(52, .any), (55, .any)], []⟩ [9, 11, 2, 0] (.lp ⟨[(10, .dat (.int .i64))], []⟩ (.tw 62 (.mix [] [0, 1, 2, 3, 4, 5, 6, 7, 8] [] [] (.tw 73 (.nil) (.nil))) (.nil))) (.cl ok_law33_awake [] (.nil)))))))))))))))))
noncomputable def sp_law33_BlameRight : Spec := ⟨4, ⟨[(0, .dat (.int .i64)), (1, .dat (.sl (.cons (.int .i64) (.cons (.int .i64) (.one (.cons (.int .i64) (.cons (.int .i64) (.cons (.int .i64) (.cons (.int .i64) (.one .bool)))))))))), (2, .dat (.cons (.int .i64) (.cons (.int .i64) (.one (.sl (.int .i64))))))], []⟩, [⟨[(0, .dat .bool)], []⟩], fun x => fn_law33_BlameRight x.1 x.2.1 x.2.2⟩
theorem law33_BlameRight_is : SpecOk Try.prog sp_law33_BlameRight := fn_is Try.func4 h_law33_BlameRight (by kernel_rfl) (by kernel_rfl)
noncomputable def ok_law33_BlameRight : OkSpec Try.prog := ⟨sp_law33_BlameRight, law33_BlameRight_is, Try.call4⟩
end Go.Proofs.Ythoclljhjcfemaa
namespace Go.Proofs.Ythoclljhjcfemaa
set_option linter.unusedVariables false
section
variable {σ β : Type} {body : σ → Option (σ ⊕ β)}
theorem loop_nat (st : Nat → σ) (n : Nat) {b : β} (h : ∀ k, k < n → body (st k) = some (.inl (st (k + 1)))) (he : body (st n) = some (.inr b)) : loop body (st 0) = some b := by
  have : ∀ m k, k + m = n → loop body (st k) = some b := by
    intro m
    induction m with
    | zero => intro k hk; have : k = n := by omega
              subst this; exact loop_end he
    | succ m ih => intro k hk; rw [loop_next (h k (by omega))]; exact ih (k + 1) (by omega)
  exact this n 0 (by omega)
theorem least (p : Nat → Prop) : ∀ n, (∃ k, k < n ∧ p k ∧ ∀ j, j < k → ¬ p j) ∨ ∀ j, j < n → ¬ p j
  | 0 => .inr (fun j hj => by omega)
  | n + 1 => by
    rcases least p n with ⟨k, h1, h2, h3⟩ | h
    · exact .inl ⟨k, by omega, h2, h3⟩
    · by_cases hp : p n
      · exact .inl ⟨n, by omega, hp, h⟩
      · exact .inr (fun j hj => if e : j = n then e ▸ hp else h j (by omega))
theorem loop_find (p : Nat → Prop) (st : Nat → σ) (n : Nat) (hit : Nat → β) (e : β) (hgo : ∀ k, k < n → ¬ p k → body (st k) = some (.inl (st (k + 1)))) (hhit : ∀ k, k < n → p k → body (st k) = some (.inr (hit k))) (hend : body (st n) = some (.inr e)) :
    (∃ k, k < n ∧ p k ∧ (∀ j, j < k → ¬ p j) ∧ loop body (st 0) = some (hit k)) ∨ ((∀ j, j < n → ¬ p j) ∧ loop body (st 0) = some e) := by
  rcases least p n with ⟨k, h1, h2, h3⟩ | h
  · exact .inl ⟨k, h1, h2, h3, loop_nat st k (fun j hj => hgo j (by omega) (h3 j hj)) (hhit k h1 h2)⟩
  · exact .inr ⟨h, loop_nat st n (fun k hk => hgo k hk (h k hk)) hend⟩
open Classical in
theorem loop_any (p : Nat → Prop) (st : Nat → σ) (n : Nat) (b e : β) (hgo : ∀ k, k < n → ¬ p k → body (st k) = some (.inl (st (k + 1)))) (hhit : ∀ k, k < n → p k → body (st k) = some (.inr b)) (hend : body (st n) = some (.inr e)) :
    loop body (st 0) = some (if ∃ k, k < n ∧ p k then b else e) := by
  rcases loop_find p st n (fun _ => b) e hgo hhit hend with ⟨k, h1, h2, h3, h4⟩ | ⟨h1, h2⟩
  · rw [if_pos ⟨k, h1, h2⟩]; exact h4
  · rw [if_neg (fun ⟨k, h3, h4⟩ => h1 k h3 h4)]; exact h2
end
theorem w64 {x : Int} (h1 : -9223372036854775808 ≤ x) (h2 : x ≤ 9223372036854775807) : IntKind.wrap .i64 x = x := by
  rw [IntWalk.i64_left, IntWalk.wrap64_in _ ⟨h1, h2⟩]
theorem w64s {k n : Nat} (h : k < n) (hn : n ≤ 9223372036854775807) : IntKind.wrap .i64 ((k : Int) + 1) = ((k + 1 : Nat) : Int) := by
  rw [w64 (by omega) (by omega)]; rfl
theorem ne_list {α : Type} {xs ys : List α} (h : xs.length = ys.length) : (∃ k, k < xs.length ∧ xs[k]? ≠ ys[k]?) ↔ xs ≠ ys := by
  constructor
  · rintro ⟨k, _, h2⟩ rfl; exact h2 rfl
  · intro hne
    rcases least (fun k => xs[k]? ≠ ys[k]?) xs.length with ⟨k, h1, h2, _⟩ | h'
    · exact ⟨k, h1, h2⟩
    · exfalso; apply hne
      apply List.ext_getElem? 
      intro k
      by_cases hk : k < xs.length
      · exact Classical.byContradiction (fun hc => h' k hk hc)
      · rw [List.getElem?_eq_none (by omega), List.getElem?_eq_none (by omega)]
theorem getN {α : Type} {l : List α} {k : Nat} (h : k < l.length) : getI l (k : Int) = some l[k] := getI_eq rfl h
theorem any_ex {α : Type} {t : α → Bool} {l : List α} : l.any t = true ↔ ∃ k, k < l.length ∧ (l[k]?.map t) = some true := by
  rw [List.any_eq_true]
  constructor
  · rintro ⟨x, hx, h⟩
    obtain ⟨k, hk, rfl⟩ := List.getElem_of_mem hx
    exact ⟨k, hk, by simp [hk, h]⟩
  · rintro ⟨k, hk, h⟩
    exact ⟨l[k], List.getElem_mem hk, by simpa [hk] using h⟩
/-- A list searched. -/
theorem loop_one {α β : Type} (xa : List α) (t : α → Bool) (hit e : β) (hn : xa.length ≤ 9223372036854775807) :
    loop (fun (i : Int) => (cond (decide (i < ((xa.length : Nat) : Int))) ((getI xa i).bind fun x => cond (t x) (some (.inr hit)) (some (.inl (IntKind.wrap .i64 (i + 1))))) (some (.inr e)) : Option (Int ⊕ β))) 0 = some (if xa.any t then hit else e) := by
  classical
  have h := loop_any (body := fun (i : Int) => (cond (decide (i < ((xa.length : Nat) : Int))) ((getI xa i).bind fun x => cond (t x) (some (.inr hit)) (some (.inl (IntKind.wrap .i64 (i + 1))))) (some (.inr e)) : Option (Int ⊕ β)))
    (fun k => (xa[k]?.map t) = some true) (fun k : Nat => (k : Int)) xa.length hit e ?_ ?_ ?_
  · refine h.trans ?_
    by_cases hh : xa.any t = true
    · rw [if_pos (any_ex.1 hh), if_pos hh]
    · rw [if_neg (fun h => hh (any_ex.2 h)), if_neg hh]
  · intro k hk hp
    simp [hk] at hp
    simp [hk, getN hk, hp, w64s hk hn]
  · intro k hk hp
    simp [hk] at hp
    simp [hk, getN hk, hp]
  · simp
/-- Two lists searched, hand in hand. -/
theorem loop_two {α γ β : Type} (xa : List α) (xb : List γ) (t : α → γ → Bool) (hit e : β) (hl : xa.length = xb.length) (hn : xa.length ≤ 9223372036854775807) :
    loop (fun (i : Int) => (cond (decide (i < ((xa.length : Nat) : Int))) ((getI xa i).bind fun x => (getI xb i).bind fun y => cond (t x y) (some (.inr hit)) (some (.inl (IntKind.wrap .i64 (i + 1))))) (some (.inr e)) : Option (Int ⊕ β))) 0 = some (if (xa.zip xb).any (fun p => t p.1 p.2) then hit else e) := by
  classical
  have hz : (xa.zip xb).length = xa.length := by simp [hl]
  have h := loop_any (body := fun (i : Int) => (cond (decide (i < ((xa.length : Nat) : Int))) ((getI xa i).bind fun x => (getI xb i).bind fun y => cond (t x y) (some (.inr hit)) (some (.inl (IntKind.wrap .i64 (i + 1))))) (some (.inr e)) : Option (Int ⊕ β)))
    (fun k => ((xa.zip xb)[k]?.map fun p => t p.1 p.2) = some true) (fun k : Nat => (k : Int)) xa.length hit e ?_ ?_ ?_
  · refine h.trans ?_
    have ha := any_ex (t := fun p : α × γ => t p.1 p.2) (l := xa.zip xb)
    rw [hz] at ha
    by_cases hh : (xa.zip xb).any (fun p => t p.1 p.2) = true
    · rw [if_pos (ha.1 hh), if_pos hh]
    · rw [if_neg (fun h => hh (ha.2 h)), if_neg hh]
  · intro k hk hp
    have hk2 : k < xb.length := by omega
    have hk3 : k < (xa.zip xb).length := by omega
    have hz3 : (xa.zip xb)[k]? = some (xa[k], xb[k]) := by rw [List.getElem?_eq_getElem hk3, List.getElem_zip]
    rw [hz3] at hp
    simp at hp
    simp [hk, getN hk, getN hk2, hp, w64s hk hn]
  · intro k hk hp
    have hk2 : k < xb.length := by omega
    have hk3 : k < (xa.zip xb).length := by omega
    have hz3 : (xa.zip xb)[k]? = some (xa[k], xb[k]) := by rw [List.getElem?_eq_getElem hk3, List.getElem_zip]
    rw [hz3] at hp
    simp at hp
    simp [hk, getN hk, getN hk2, hp]
  · simp
theorem zip_any_ne {α : Type} [DecidableEq α] {xs ys : List α} (h : xs.length = ys.length) : (xs.zip ys).any (fun p => !decide (p.1 = p.2)) = !decide (xs = ys) := by
  induction xs generalizing ys with
  | nil => cases ys with
    | nil => rfl
    | cons => cases h
  | cons x xs ih => cases ys with
    | nil => cases h
    | cons y ys =>
      simp only [List.zip_cons_cons, List.any_cons, ih (by simpa using h), List.cons.injEq]
      by_cases h1 : x = y <;> simp [h1]
/-- A list searched for a place. -/
theorem loop_idx {α γ : Type} (xa : List α) (t : α → γ → Bool) (q : γ) (hn : xa.length ≤ 9223372036854775807) :
    ∃ r, loop (fun ((i, c) : Int × γ) => (cond (decide (i < ((xa.length : Nat) : Int))) ((getI xa i).bind fun x => cond (t x c) (some (.inr (.inr (i, c)))) (some (.inl (IntKind.wrap .i64 (i + 1), c)))) (some (.inr (.inl c))) : Option ((Int × γ) ⊕ (γ ⊕ (Int × γ))))) (0, q) = some r ∧ ((r = .inl q ∧ xa.any (t · q) = false) ∨ ∃ k : Nat, r = .inr ((k : Int), q) ∧ xa.any (t · q) = true) := by
  have h := loop_find (body := fun ((i, c) : Int × γ) => (cond (decide (i < ((xa.length : Nat) : Int))) ((getI xa i).bind fun x => cond (t x c) (some (.inr (.inr (i, c)))) (some (.inl (IntKind.wrap .i64 (i + 1), c)))) (some (.inr (.inl c))) : Option ((Int × γ) ⊕ (γ ⊕ (Int × γ)))))
    (fun k => (xa[k]?.map (t · q)) = some true) (fun k : Nat => ((k : Int), q)) xa.length (fun k => .inr ((k : Int), q)) (.inl q) ?_ ?_ ?_
  · rcases h with ⟨k, h1, h2, _, h3⟩ | ⟨h1, h2⟩
    · exact ⟨_, h3, .inr ⟨k, rfl, any_ex.2 ⟨k, h1, h2⟩⟩⟩
    · refine ⟨_, h2, .inl ⟨rfl, ?_⟩⟩
      cases hh : xa.any (t · q) with
      | false => rfl
      | true => obtain ⟨k, h3, h4⟩ := any_ex.1 hh; exact absurd h4 (h1 k h3)
  · intro k hk hp
    simp [hk] at hp
    simp [hk, getN hk, hp, w64s hk hn]
  · intro k hk hp
    simp [hk] at hp
    simp [hk, getN hk, hp]
  · simp
/-- A list gone through, with something carried along. -/
theorem loop_fold {α γ : Type} (xa : List α) (f : γ → α → γ) (c0 : γ) (hn : xa.length ≤ 9223372036854775807) {body : γ × Int → Option ((γ × Int) ⊕ γ)}
    (hb : ∀ k x, xa[k]? = some x → body ((xa.take k).foldl f c0, (k : Int)) = some (.inl (f ((xa.take k).foldl f c0) x, IntKind.wrap .i64 ((k : Int) + 1)))) (he : body (xa.foldl f c0, (xa.length : Int)) = some (.inr (xa.foldl f c0))) : loop body (c0, 0) = some (xa.foldl f c0) := by
  have h := loop_nat (body := body) (fun k : Nat => ((xa.take k).foldl f c0, (k : Int))) xa.length (b := xa.foldl f c0) ?_ ?_
  · simpa using h
  · intro k hk
    rw [hb k xa[k] (by simp [hk]), w64s hk hn]
    congr 3
    rw [List.take_succ_eq_append_getElem hk, List.foldl_append]; rfl
  · simpa using he
theorem foldl_snoc {α γ : Type} (g : α → γ) (xa : List α) (c : List γ) : xa.foldl (fun c x => c ++ [g x]) c = c ++ xa.map g := by
  induction xa generalizing c with
  | nil => simp
  | cons x xa ih => simp [ih]
/-- A list built by going through another. -/
theorem loop_map {α γ : Type} (xa : List α) (g : α → γ) (c0 : List γ) (hn : c0.length + xa.length ≤ 1073741824) {body : List γ × Int → Option ((List γ × Int) ⊕ List γ)}
    (hb : ∀ (c : List γ) (i : Int), body (c, i) = cond (decide (i < ((xa.length : Nat) : Int))) ((getI xa i).bind fun x => (app c [g x]).bind fun z => some (.inl (z, IntKind.wrap .i64 (i + 1)))) (some (.inr c))) : loop body (c0, 0) = some (c0 ++ xa.map g) := by
  rw [← foldl_snoc]
  refine loop_fold xa (fun c x => c ++ [g x]) c0 (by omega) (fun k x hx => ?_) ?_
  · have hk := (List.getElem?_eq_some_iff.1 hx).1
    rw [hb, foldl_snoc]
    have hx' : xa[k] = x := by rw [List.getElem?_eq_getElem hk] at hx; exact Option.some.inj hx
    have ha := app_eq (a := c0 ++ (xa.take k).map g) (b := [g x]) (by simp; omega)
    simp only [Option.bind_some, getN hk, hx', ha, Int.ofNat_lt.2 hk, decide_true, cond_true]
  · rw [hb]; simp
end Go.Proofs.Ythoclljhjcfemaa
namespace Go.Proofs.Ythoclljhjcfemaa
set_option linter.unusedVariables false
theorem bind_of {α β : Type} {m : Option α} {f : α → Option β} {y : β} {Q : α → Prop} (h : ∃ r, m = some r ∧ Q r) (k : ∀ r, Q r → f r = some y) : m.bind f = some y := by
  obtain ⟨r, rfl, h2⟩ := h; exact k r h2
theorem bind_ex {α β : Type} {m : Option α} {f : α → Option β} {Q : α → Prop} {R : β → Prop} (h : ∃ r, m = some r ∧ Q r) (k : ∀ r, Q r → ∃ y, f r = some y ∧ R y) : ∃ y, m.bind f = some y ∧ R y := by
  obtain ⟨r, rfl, h2⟩ := h; exact k r h2
theorem getZ {α : Type} {l : List α} {i : Int} (h0 : 0 ≤ i) (h1 : i < (l.length : Nat)) : getI l i = some (l[i.toNat]'(by omega)) := by
  unfold getI; rw [if_pos h0]; simp
theorem getN1 {α : Type} {l : List α} {k : Nat} (h : k + 1 < l.length) : getI l ((k : Int) + 1) = some l[k + 1] := getI_eq rfl h
theorem dlt {k n : Nat} (h : k < n) : decide ((k : Int) < (n : Int)) = true := by simp; omega
theorem dge {k n : Nat} (h : ¬ k < n) : decide ((k : Int) < (n : Int)) = false := by simp; omega
theorem beq_dec {α : Type} [DecidableEq α] (a b : α) : (a == b) = decide (a = b) := Bool.beq_eq_decide_eq a b
section
variable {α β γ σ : Type}
/-- Counted from 0 to n, with a way out. -/
theorem loop_stop {body : σ → Option (σ ⊕ β)} (n : Nat) (st : Nat → σ) (stop : Nat → Option β) (e : β) (h : ∀ k, k < n → body (st k) = some (match stop k with | none => .inl (st (k + 1)) | some b => .inr b)) (he : body (st n) = some (.inr e)) :
    loop body (st 0) = some (((List.range n).findSome? stop).getD e) := by
  rcases loop_find (fun k => (stop k).isSome = true) st n (fun k => (stop k).getD e) e (fun k hk hp => by
      rw [h k hk]; cases hs : stop k with
      | none => rfl
      | some b => simp [hs] at hp) (fun k hk hp => by
      rw [h k hk]; cases hs : stop k with
      | none => simp [hs] at hp
      | some b => rfl) he with ⟨k, h1, h2, h3, h4⟩ | ⟨h1, h2⟩
  · rw [h4]
    obtain ⟨b, hb⟩ := Option.isSome_iff_exists.1 h2
    have : (List.range n).findSome? stop = some b := by
      rw [List.findSome?_eq_some_iff]
      refine ⟨List.range k, k, (List.range' (k + 1) (n - k - 1)), ?_, hb, fun a ha => ?_⟩
      · rw [List.range_eq_range', List.range_eq_range', ← List.range'_succ (s := k) (n := n - k - 1)]
        rw [show n - k - 1 + 1 = n - k by omega]
        have := List.range'_append_1 (s := 0) (m := k) (n := n - k)
        rw [Nat.zero_add, show k + (n - k) = n by omega] at this
        exact this.symm
      · have := h3 a (List.mem_range.1 ha)
        cases hs : stop a with
        | none => rfl
        | some b => simp [hs] at this
    rw [this, hb]
  · rw [h2]
    have : (List.range n).findSome? stop = none := by
      rw [List.findSome?_eq_none_iff]
      intro a ha
      have := h1 a (List.mem_range.1 ha)
      cases hs : stop a with
      | none => rfl
      | some b => simp [hs] at this
    rw [this]; rfl
/-- A list searched: where the first hit lies. -/
theorem loop_search {body : Int → Option (Int ⊕ β)} (xa : List α) (t : α → Bool) (hit : Nat → β) (e : β) (hb : ∀ (k : Nat) (h : k < xa.length), body (k : Int) = some (if t xa[k] then .inr (hit k) else .inl ((k + 1 : Nat) : Int))) (he : body (xa.length : Int) = some (.inr e)) :
    loop body 0 = some (match xa.findIdx? t with | some k => hit k | none => e) := by
  rcases loop_find (fun k => ∃ h : k < xa.length, t xa[k] = true) (fun k : Nat => (k : Int)) xa.length hit e (fun k hk hp => by
      rw [hb k hk, if_neg (fun h => hp ⟨hk, h⟩)]) (fun k hk ⟨_, hp⟩ => by rw [hb k hk, if_pos hp]) he with ⟨k, h1, ⟨_, h2⟩, h3, h4⟩ | ⟨h1, h2⟩
  · rw [show ((0 : Int)) = ((0 : Nat) : Int) from rfl, h4]
    have : xa.findIdx? t = some k := by
      rw [List.findIdx?_eq_some_iff_getElem]
      exact ⟨h1, h2, fun j hj => fun hc => h3 j hj ⟨by omega, by simpa using hc⟩⟩
    rw [this]
  · rw [show ((0 : Int)) = ((0 : Nat) : Int) from rfl, h2]
    have : xa.findIdx? t = none := by
      rw [List.findIdx?_eq_none_iff]
      intro x hx
      obtain ⟨k, hk, rfl⟩ := List.getElem_of_mem hx
      cases hc : t xa[k] with
      | false => rfl
      | true => exact absurd ⟨hk, hc⟩ (h1 k hk)
    rw [this]
theorem loop_some {body : Int → Option (Int ⊕ β)} (xa : List α) (t : α → Bool) (hit e : β) (hb : ∀ (k : Nat) (h : k < xa.length), body (k : Int) = some (if t xa[k] then .inr hit else .inl ((k + 1 : Nat) : Int))) (he : body (xa.length : Int) = some (.inr e)) :
    loop body 0 = some (if xa.any t then hit else e) := by
  rw [loop_search xa t (fun _ => hit) e hb he]
  cases h : xa.findIdx? t with
  | none =>
    have : xa.any t = false := by
      rw [List.any_eq_false]; intro x hx; have := List.findIdx?_eq_none_iff.1 h x hx; simp [this]
    rw [this]; rfl
  | some k =>
    obtain ⟨hk, h1, _⟩ := List.findIdx?_eq_some_iff_getElem.1 h
    have : xa.any t = true := List.any_eq_true.2 ⟨_, List.getElem_mem hk, h1⟩
    rw [this]; rfl
/-- A list gone through, with what is carried along. -/
theorem loop_carry {δ : Type} {body : (γ × Int) → Option ((γ × Int) ⊕ δ)} (xa : List α) (acc : Nat → γ) (out : δ) (hb : ∀ (k : Nat) (h : k < xa.length), body (acc k, (k : Int)) = some (.inl (acc (k + 1), ((k + 1 : Nat) : Int)))) (he : body (acc xa.length, (xa.length : Int)) = some (.inr out)) :
    loop body (acc 0, 0) = some out := loop_nat (fun k => (acc k, (k : Int))) xa.length hb he
/-- Two lists held against each other, place by place. -/
theorem loop_alike [DecidableEq α] {body : Int → Option (Int ⊕ β)} (xa xb : List α) (hit e : β) (hl : xa.length = xb.length) (hb : ∀ (k : Nat) (h : k < xa.length), body (k : Int) = some (if xa[k] = (xb[k]'(by omega)) then .inl ((k + 1 : Nat) : Int) else .inr hit)) (he : body (xa.length : Int) = some (.inr e)) :
    loop body 0 = some (if xa = xb then e else hit) := by
  rw [loop_search (List.range xa.length) (fun k => decide (xa[k]? ≠ xb[k]?)) (fun _ => hit) e (fun k h => by
      simp at h
      rw [hb k h]
      have h2 : k < xb.length := by omega
      by_cases hq : xa[k] = xb[k] <;> simp [h, h2, hq]) (by simpa using he)]
  by_cases hq : xa = xb
  · subst hq
    have : (List.range xa.length).findIdx? (fun k => decide (xa[k]? ≠ xa[k]?)) = none := by rw [List.findIdx?_eq_none_iff]; simp
    rw [this]; simp
  · cases h : (List.range xa.length).findIdx? (fun k => decide (xa[k]? ≠ xb[k]?)) with
    | some k => simp [hq]
    | none =>
      exfalso; apply hq
      rw [List.findIdx?_eq_none_iff] at h
      apply List.ext_getElem?
      intro k
      by_cases hk : k < xa.length
      · simpa using h k (List.mem_range.2 hk)
      · rw [List.getElem?_eq_none (by omega), List.getElem?_eq_none (by omega)]
theorem take_snoc {l : List α} {k : Nat} (h : k < l.length) : l.take (k + 1) = l.take k ++ [l[k]] := List.take_succ_eq_append_getElem h
theorem dlen {a b : Nat} (h : a = b) : (!decide ((a : Int) = (b : Int))) = false := by simp [h]
theorem dlen' {a b : Nat} (h : ¬ a = b) : (!decide ((a : Int) = (b : Int))) = true := by simp; omega
end
theorem ok64 {x : Int} (h : Tp.Ok (.int .i64) x) : -9223372036854775808 ≤ x ∧ x ≤ 9223372036854775807 := by
  have h' : (Lit.int .i64 x).wf = true := h
  simp only [Lit.wf, IntKind.min, IntKind.max, IntKind.signed, IntKind.bits, Bool.and_eq_true, decide_eq_true_eq] at h'
  simp at h'; omega
theorem sub1 {α : Type} {l : List α} (h : 1 ≤ l.length) : subL l 1 ((l.length : Nat) : Int) = some (l.drop 1) := by
  rw [subL_eq (by omega) (by omega) (by omega)]; simp
end Go.Proofs.Ythoclljhjcfemaa
namespace Go.Proofs.Ythoclljhjcfemaa
set_option linter.unusedVariables false
theorem strict_eq : ∀ {xs ys : List Int}, xs.Pairwise (· < ·) → ys.Pairwise (· < ·) → (∀ a, a ∈ xs ↔ a ∈ ys) → xs = ys
  | [], [], _, _, _ => rfl
  | [], y :: ys, _, _, h => by have := (h y).2 (by simp); simp at this
  | x :: xs, [], _, _, h => by have := (h x).1 (by simp); simp at this
  | x :: xs, y :: ys, hx, hy, h => by
    obtain ⟨hx1, hx2⟩ := List.pairwise_cons.1 hx
    obtain ⟨hy1, hy2⟩ := List.pairwise_cons.1 hy
    have e : x = y := by
      have h1 := (h x).1 (by simp)
      have h2 := (h y).2 (by simp)
      rcases List.mem_cons.1 h1 with h1 | h1
      · exact h1
      · rcases List.mem_cons.1 h2 with h2 | h2
        · exact h2.symm
        · have := hy1 x h1; have := hx1 y h2; omega
    subst e
    rw [strict_eq hx2 hy2 (fun a => ?_)]
    constructor
    · intro ha
      rcases List.mem_cons.1 ((h a).1 (by simp [ha])) with e | e
      · subst e; have := hx1 a ha; omega
      · exact e
    · intro ha
      rcases List.mem_cons.1 ((h a).2 (by simp [ha])) with e | e
      · subst e; have := hy1 a ha; omega
      · exact e
theorem compactUpTo_sorted {zs : List Int} (hs : zs.Pairwise (· ≤ ·)) : ∀ m, m ≤ zs.length → (Lib.compactUpTo zs.toArray m).Pairwise (· < ·) ∧ ∀ a, a ∈ Lib.compactUpTo zs.toArray m ↔ a ∈ zs.take m
  | 0, _ => by simp [Lib.compactUpTo]
  | m + 1, h => by
    obtain ⟨h1, h2⟩ := compactUpTo_sorted hs m (by omega)
    have hm : m < zs.length := by omega
    have e : zs.toArray[m]! = zs[m] := by simp [getElem!_pos, hm]
    rw [Lib.compactUpTo_succ, e]
    have htk : zs.take (m + 1) = zs.take m ++ [zs[m]] := List.take_succ_eq_append_getElem hm
    have hle : ∀ a ∈ zs.take m, a ≤ zs[m] := by
      intro a ha
      have := hs.sublist (List.take_sublist (m + 1) zs)
      rw [htk] at this
      exact (List.pairwise_append.1 this).2.2 a ha _ (by simp)
    rw [htk]
    cases hk : Lib.keeps zs.toArray m with
    | false =>
      simp only [Bool.false_eq_true, if_false, List.append_nil]
      refine ⟨h1, fun a => ?_⟩
      rw [h2, List.mem_append]
      have hm0 : m ≠ 0 := by rintro rfl; simp [Lib.keeps] at hk
      have he : zs.toArray[m]! = zs.toArray[m - 1]! := by
        simp [Lib.keeps, hm0] at hk; simpa using hk
      have hp : m - 1 < zs.length := by omega
      have e2 : zs.toArray[m - 1]! = zs[m - 1] := by simp [getElem!_pos, hp]
      rw [e, e2] at he
      constructor
      · exact .inl
      · rintro (h | h)
        · exact h
        · simp at h; rw [h, he]
          exact List.mem_take_iff_getElem.2 ⟨m - 1, by omega, rfl⟩
    | true =>
      simp only [if_true]
      refine ⟨List.pairwise_append.2 ⟨h1, by simp, fun a ha b hb => ?_⟩, fun a => by rw [List.mem_append, List.mem_append, h2]⟩
      simp at hb; subst hb
      have ha' := (h2 a).1 ha
      have hle' := hle a ha'
      rcases Int.lt_or_eq_of_le hle' with h | h
      · exact h
      · exfalso
        obtain ⟨j, hj, rfl⟩ := List.mem_take_iff_getElem.1 ha'
        have hm0 : m ≠ 0 := by omega
        have hp : m - 1 < zs.length := by omega
        have e2 : zs.toArray[m - 1]! = zs[m - 1] := by simp [getElem!_pos, hp]
        simp only [Lib.keeps, e, e2] at hk
        simp [hm0] at hk
        have a1 : zs[j] ≤ zs[m - 1] := by
          rcases Nat.lt_or_ge j (m - 1) with q | q
          · exact List.pairwise_iff_getElem.1 hs j (m - 1) _ _ q
          · have : j = m - 1 := by omega
            subst this; exact Int.le_refl _
        have a2 : zs[m - 1] ≤ zs[m] := List.pairwise_iff_getElem.1 hs (m - 1) m _ _ (by omega)
        omega
theorem compact_sorted {zs : List Int} (hs : zs.Pairwise (· ≤ ·)) : (Lib.compact zs).Pairwise (· < ·) ∧ ∀ a, a ∈ Lib.compact zs ↔ a ∈ zs := by
  have := compactUpTo_sorted hs zs.length (Nat.le_refl _)
  rw [List.take_length] at this
  exact this
end Go.Proofs.Ythoclljhjcfemaa

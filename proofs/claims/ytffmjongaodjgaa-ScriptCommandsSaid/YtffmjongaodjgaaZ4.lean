/- A part of the proof: what lies ahead of the law. Nothing is claimed here. -/
import Derived.Test.YtffmjongaodjgaaZ3
import Derived.RangeFuncRecord
import Derived.Shelf.Strings.Builder1
import Derived.Shelf.Strings.Builder2
import Derived.Shelf.Strings.OnBuilder
import Derived.Shelf.Strings.BuilderF
import Derived.Shelf.Strings.BuilderK
import Derived.Shelf.Strings.Builder2Cap
import Derived.Shelf.Strings.Search1
import Derived.Shelf.Strings.Search2
import Derived.Shelf.Strings.Cut
import Derived.Shelf.LaysM
import Derived.Shelf.Strings.Shaped
import Derived.Shelf.Strings.BuilderCap
import Derived.Test.YtffmjongaodjgaaProg
import Derived.Shelf.Vars
import Derived.Test.YtffmjongaodjgaaRows
namespace Go.Proofs.Ytffmjongaodjgaa
set_option linter.unusedVariables false
set_option linter.unusedSimpArgs false
set_option linter.unnecessarySimpa false
set_option linter.unusedSectionVars false
open Go.RowKit
section
variable [BldA]
section
variable {R : Type} {P : Program} {E : En} {n : Nat} {m : List M} {K : Hp} {fr : Frz} {σ : Zt} {ρ : Sl1} {w : World}
theorem OpOk.two {o : Oper} {k : Hn P → Zt → Option R} {h0 : Hn P} {r : R} (h : OpOk P E n fr σ ρ w o (fun σ' => k h0 σ' = some r)) : OpOk2 P E n fr σ ρ w o (fun h' σ' => k h' σ' = some r) := fun X Q hX => h X Q (fun σ' m' K' ρ' w' h1 h2 h3 => hX h0 σ' m' K' ρ' w' h1 h2 h3)
theorem newB_some {e : TypeId} {cs : List SV} {d : Option Nat} {k : Zt → Option R} {r : R} (h : newB σ d e cs k = some r) : ∃ d0, d = some d0 := by
 unfold newB at h
 split at h
 · exact ⟨_, rfl⟩
 · cases h
theorem op1_ok {k : Hn P → Zt → Option R} {r : R} {h0 : Hn P} {dst : Option Nat} {op : Op} {t : TypeId} {pos : String} {af : Array Edge} (h : op1 n ⟨dst, op, t, pos, af, none⟩ h0 σ k = some r) (hr : Rel E fr σ m K ρ w) :
   OpOk2 P E n fr σ ρ w ⟨dst, op, t, pos, af, none⟩ (fun h' σ' => k h' σ' = some r) := by
 have val : opVal n ⟨dst, op, t, pos, af, none⟩ h0 σ k = some r → OpOk2 P E n fr σ ρ w ⟨dst, op, t, pos, af, none⟩ (fun h' σ' => k h' σ' = some r) := fun h => by
   cases dst with
   | none => cases h
   | some d => exact OpOk.two (opVal_ok h hr)
 cases op with
 | alloc e =>
   dsimp only [op1] at h
   cases dst with
   | none =>
     exfalso
     unfold opAlloc at h
     cases hb : Nat.beq e BldA.t with
     | true => rw [hb] at h; cases h
     | false =>
       rw [hb] at h
       simp only [cond_false] at h
       split at h
       · obtain ⟨_, e⟩ := newB_some h; cases e
       · cases h
   | some d => exact OpOk.two (k := k) (opAlloc_ok h hr)
 | box e x =>
   dsimp only [op1] at h
   split at h
   · rename_i cs hcs
     obtain ⟨d, rfl⟩ := newB_some h
     exact OpOk.two (k := k) (opBox_ok hcs h hr)
   · cases h
 | store s x y =>
   dsimp only [op1] at h
   cases dst with
   | some d => cases h
   | none =>
     obtain ⟨σ', v', h, hf, hv⟩ := der_ok h hr.toPur
     have hr' := hf.rel hr
     have hev : Zt.ev n σ' y = σ'.ev n y := rfl
     exact fun X Q hX => (sto_ok h hr' hv) X Q (fun σ2 m' K' ρ' w' h1 h2 h3 => hX h0 σ2 m' K' ρ' w' h1 (hf.same.trans h2) h3)
 | buildSlice s len ps =>
   dsimp only [op1] at h
   split at h
   · rename_i q hq
     cases dst with
     | none =>
       exfalso
       unfold opLitO at h
       split at h
       · split at h
         · split at h
           · replace h := (bift h).2
             split at h
             · obtain ⟨_, e, _⟩ := newO_some h; cases e
             · cases h
           · cases h
         · cases h
       · cases h
     | some d => exact OpOk.two (k := k) (opLitO_ok h hr)
   · cases dst with
     | none =>
       exfalso
       unfold opLit at h
       split at h
       · split at h
         · split at h
           · split at h
             · replace h := (bift h).2; cases h
             · split at h
               · replace h := (bift h).2
                 split at h
                 · obtain ⟨_, e, _⟩ := newR_some h; cases e
                 · cases h
               · cases h
           · cases h
         · cases h
       · cases h
     | some d => exact OpOk.two (k := k) (opLit_ok h hr)
 | slice s x lo hi mx =>
   cases lo <;> cases hi <;> cases mx <;> first | (exact val h) | skip
   rename_i y
   dsimp only [op1] at h
   split at h
   · obtain ⟨d, rfl⟩ := opTrn_some h
     exact OpOk.two (k := k) (opTrn_ok h hr)
   · exact val h
 | makeMap s x =>
   cases x with
   | some x => exact val h
   | none =>
     dsimp only [op1] at h
     split at h
     · rename_i u q
       cases dst with
       | none => obtain ⟨_, e⟩ := opMap_some h; cases e
       | some d => exact OpOk.two (k := k) (opMap_ok h hr)
     · cases h
 | makeSlice s x y =>
   have plain : ∀ h', opMake P σ dst s (σ.ev n x) (σ.ev n y) (k h') = some r → OpOk2 P E n fr σ ρ w ⟨dst, .makeSlice s x y, t, pos, af, none⟩ (fun h' σ' => k h' σ' = some r) := fun h' h => by
     cases dst with
     | none =>
       exfalso
       unfold opMake at h
       split at h
       · split at h
         · replace h := (bift h).2
           split at h
           · replace h := ob h; obtain ⟨l, _, h⟩ := h
             obtain ⟨_, e, _⟩ := newR_some h; cases e
           · cases h
         · cases h
       · cases h
     | some d => exact OpOk.two (k := k) (opMake_ok h hr)
   dsimp only [op1] at h
   split at h
   · rename_i q hq
     cases hf : otFit P s q with
     | false => rw [hf] at h; exact plain _ h
     | true =>
     rw [hf] at h
     simp only [cond_true] at h
     cases dst with
     | none =>
       exfalso
       unfold opMakeO at h
       split at h
       · split at h
         · replace h := (bift h).2
           split at h
           · replace h := ob h; obtain ⟨l, _, h⟩ := h
             obtain ⟨_, e, _⟩ := newO_some h; cases e
           · cases h
         · cases h
       · cases h
     | some d => exact OpOk.two (k := k) (opMakeO_ok h hr)
   · exact plain _ h
 | call c =>
   obtain ⟨cal, args, ats⟩ := c
   dsimp only [op1] at h
   split at h
   · rename_i x y s u e1 e2
     obtain rfl : args = #[x, y] := by simpa using congrArg List.toArray e1
     obtain rfl : ats = #[s, u] := by simpa using congrArg List.toArray e2
     cases dst with
     | none => cases h
     | some d =>
       dsimp only at h
       split at h
       · exact OpOk.two (k := k) (opAppO_ok h hr)
       · exact OpOk.two (k := k) (opApp_ok h hr)
   · rename_i x y s u e1 e2
     obtain rfl : args = #[x, y] := by simpa using congrArg List.toArray e1
     obtain rfl : ats = #[s, u] := by simpa using congrArg List.toArray e2
     exact OpOk.two (k := k) (opCopy_ok h hr)
   · rename_i x s e1 e2
     obtain rfl : args = #[x] := by simpa using congrArg List.toArray e1
     obtain rfl : ats = #[s] := by simpa using congrArg List.toArray e2
     exact OpOk.two (k := k) (opClr_ok h hr)
   · rename_i fo xs _ _
     split at h
     · rename_i f cs hf
       split at h
       · exact callS_ok hf h hr
       · exact callS_ok hf h hr
       · exact callS_ok hf h hr
       · exact callS_ok hf h hr
       · cases h
     · cases h
   · rename_i x nm xs _ _
     split at h
     · rename_i ut sv hf
       split at h
       · exact callI_ok hf h hr
       · exact callI_ok hf h hr
       · cases h
     · cases h
   · exact val h
 | makeChan s x =>
   dsimp only [op1] at h
   split at h
   · rename_i u q
     cases dst with
     | none => obtain ⟨_, e⟩ := opChan_some h; cases e
     | some d => exact OpOk.two (k := k) (opChan_ok h hr)
   · cases h
 | binOp bo s x y tx =>
   cases bo with
   | eql =>
     dsimp only [op1] at h
     split at h
     · rename_i i j e1 e2
       cases dst with
       | none =>
         unfold opPeq at h
         split at h
         · rename_i e; cases e
         · cases h
       | some d => exact OpOk.two (k := k) (opPeq_ok h hr e1 e2)
     · rename_i j e1 e2
       cases dst with
       | none =>
         unfold opPn at h
         split at h
         · rename_i e; cases e
         · cases h
       | some d => exact OpOk.two (k := k) (opPn_ok h hr e1 e2)
     · exact val h
   | _ => exact val h
 | _ => exact val h
theorem Rel.subst {f : SV → Option SV} {H : List HA} {K' : Hp} (hr : Rel E fr σ m K ρ w) (hK : K.le K') (hf : ∀ a b v, f a = some b → SV.rel m K' a v → SV.rel m K' b v) (hH : ∀ a ∈ H, a ∈ σ.H) (hs : Sep E K' (H.map (HA.conc m) ++ σ.fz fr) w) :
   Rel E fr ⟨σ.base, subT f σ.top, H.map (HA.sub f), σ.Hf, σ.nx, false⟩ m K' ρ w where
 hm := hr.hm
 hK := hr.hK.trans hK
 nx := hr.nx
 kq := fun e => (by cases e)
 base := hr.base
 dead := hr.dead
 old := fun i hi => by
   rw [show look (subT f σ.top) i = _ from look_sub σ.top i] at hi
   cases hl : look σ.top i with
   | none => exact hr.old i hl
   | some x => rw [hl] at hi; cases hi
 top := fun i sv hi => by
   rw [show look (subT f σ.top) i = _ from look_sub σ.top i] at hi
   cases hl : look σ.top i with
   | none => rw [hl] at hi; cases hi
   | some x =>
     rw [hl] at hi; cases hi
     exact sub_rel hf x (SV.mono (fun _ _ h => h) hK x (hr.top i x hl))
 okH := fun a ha => by
   obtain ⟨a0, h0, rfl⟩ := List.mem_map.1 ha
   exact ok_sub hf (HA.ok_mono (fun _ _ h => h) hK (hr.okH a0 (hH a0 h0)))
 okF := hr.okF
 mks := hr.mks.mono hK
 sep := by
   show Sep E K' ((H.map (HA.sub f)).map (HA.conc m) ++ _) w
   rw [map_conc_sub]; exact hs
theorem per_ok {i : Nat} {σ' : Zt} (h : σ.per i = some σ') (hr : Rel E fr σ m K ρ w) : ∃ K', K.le K' ∧ Same σ σ' ∧ Rel E fr σ' m K' ρ w := by
 unfold Zt.per at h
 split at h
 · rename_i q H hq
   replace h := bift h; obtain ⟨h0, h⟩ := h
   rw [Nat.blt_eq] at h0
   cases h
   obtain ⟨a, ha, hmem, hsub, hs⟩ := hr.take hq
   obtain rfl := rowR_eq ha
   obtain ⟨ad, cap, cs, g1, g2, g3, g4, g5, g6⟩ := HA.ok_row (hr.okH _ hmem)
   rw [g6] at hs
   obtain ⟨hh, hrw, hd, hs2⟩ := hs
   have hle := Hp.le_join K hh
   have his : Is (K.join hh) (.sl q.t) [.slice ad q.n cap] q.l := Rw.is g3 (by rw [g4]; exact hrw) hle (fun n o e => Hp.join_right e (hd n o e)) h0
   exact ⟨_, hle, ⟨rfl, rfl⟩, hr.subst hle (rowF_rel (c := q.c) (e := q.e) g1 g4 his) hsub hs2⟩
 · split at h
   · rename_i q H hq
     replace h := bift h; obtain ⟨h0, h⟩ := h
     split at h
     · rename_i ww hkn
       cases h
       obtain ⟨a, ha, hmem, hsub, hs⟩ := hr.take hq
       obtain rfl := odR_eq ha
       obtain ⟨v, g1, g2, g3⟩ := od_own (hr.okH _ hmem)
       obtain ⟨hh, hrw, hd, hs2⟩ := g3 hs
       have hle := Hp.le_join K hh
       exact ⟨_, hle, ⟨rfl, rfl⟩, hr.subst hle (svF_rel g1 (kn_ok hkn (OT.own_is hle q.o h0 hrw (fun n o e => Hp.join_right e (hd n o e))))) hsub hs2⟩
     · cases h
   · cases h
theorem perb_ok {i : Nat} {tp : Tp} {σ' : Zt} (h : σ.perb i tp = some σ') (hr : Rel E fr σ m K ρ w) : ∃ K', K.le K' ∧ Same σ σ' ∧ Rel E fr σ' m K' ρ w := by
 unfold Zt.perb at h
 split at h
 · rename_i q H hq
   split at h
   · rename_i x hx
     cases h
     obtain ⟨a, ha, hmem, hsub, hs⟩ := hr.take hq
     obtain rfl := blkR_eq ha
     obtain ⟨b, vs, g1, g2, g3, g4⟩ := HA.ok_blk (hr.okH _ hmem)
     rw [g4] at hs
     obtain ⟨c1, c2, e1, e2, e3⟩ := dt_is tp hx g3
     obtain rfl := relL_nil e3
     rw [List.append_nil] at e1; subst e1
     obtain ⟨K', k1, k2, k3⟩ := hs.persistAt e2
     refine ⟨K', k1, ⟨rfl, rfl⟩, hr.subst k1 (fun a b' v hf hrel => ?_) hsub k3⟩
     unfold blkF at hf
     split at hf
     · replace hf := bift hf; obtain ⟨hb, hf⟩ := hf
       have hb := Nat.eq_of_beq_eq_true hb
       subst hb
       cases hf
       obtain ⟨bb, h1, rfl⟩ := hrel
       rw [g1] at h1; cases h1
       exact ⟨b, 0, by rw [Nat.zero_add], k2⟩
     · cases hf
   · cases h
 · cases h
theorem relL_set {vs : List SV} {us : List Value} {q : Nat} {v : SV} {u : Value} (h : SV.relL m K vs us) (hu : us[q]? = some u) (hv : SV.rel m K v u) : SV.relL m K (vs.set q v) us := by
 induction vs generalizing us q with
 | nil => exact h
 | cons w vs ih =>
   obtain ⟨x, r, rfl, h1, h2⟩ := relL_cons h
   cases q with
   | zero => simp at hu; subst hu; exact ⟨x, r, rfl, hv, h2⟩
   | succ q => exact ⟨x, r, rfl, h1, ih h2 (by simpa using hu)⟩
theorem mc_ok {i q : Nat} {σ' : Zt} (h : σ.mc i q = some σ') (hr : Rel E fr σ m K ρ w) : ∃ m', Same σ σ' ∧ Rel E fr σ' m' K ρ w := by
 unfold Zt.mc at h
 split at h
 · rename_i b H hb
   split at h
   · rename_i v hv
     cases h
     obtain ⟨a, ha, hmem, hsub, hs⟩ := hr.take hb
     obtain rfl := blkR_eq ha
     obtain ⟨bb, vs, g1, g2, g3, g4⟩ := HA.ok_blk (hr.okH _ hmem)
     obtain ⟨u, hu, hvu⟩ := relL_get g3 hv
     have hp := pre_app m [M.val u]
     have hm : ∀ (i : Nat) (x : M), m[i]? = some x → (m ++ [M.val u])[i]? = some x := fun _ _ k => pre_get hp k
     have gn : (m ++ [M.val u])[σ.nx]? = some (.val u) := get_new0 hr.nx
     have ok1 : HA.ok (m ++ [M.val u]) K (.blk i b.c b.e (b.cs.set q (.is σ.nx v))) := ⟨bb, vs, hm _ _ g1, hm _ _ g2, relL_set (SV.monoL hm (Hp.le_refl K) _ g3) hu ⟨gn, SV.mono hm (Hp.le_refl K) _ hvu⟩⟩
     refine ⟨m ++ [.val u], ⟨rfl, rfl⟩, ⟨Pur.next hr.toPur hp (Hp.le_refl K) (fun e => ⟨e, rfl⟩) (by simp [hr.nx]) (fun a ha => ?_), ?_⟩⟩
     · rcases List.mem_cons.1 ha with rfl | ha
       · exact ok1
       · exact hr.toPur.okH' hp (Hp.le_refl K) a (hsub a ha)
     · show Sep E K ((HA.conc _ _ :: H.map (HA.conc _)) ++ σ.fz fr) w
       rw [hr.toPur.conc hp hsub]
       have : HA.conc (m ++ [M.val u]) (.blk i b.c b.e (b.cs.set q (.is σ.nx v))) = HA.conc m (.blk i b.c b.e b.cs) := by
         simp only [HA.conc, g1, g2, hm _ _ g1, hm _ _ g2]
       rw [this]
       exact hs
   · cases h
 · cases h
theorem mcs_ok : ∀ {l : List (Nat × Nat)} {σ σ' : Zt} {m : List M}, Zt.mcs l σ = some σ' → Rel E fr σ m K ρ w → ∃ m', Same σ σ' ∧ Rel E fr σ' m' K ρ w
 | [], σ, σ', m, h, hr => by cases h; exact ⟨m, Same.rfl', hr⟩
 | p :: l, σ, σ', m, h, hr => by
   unfold Zt.mcs at h
   split at h
   · rename_i σ1 h1
     obtain ⟨m1, k1, k2⟩ := mc_ok h1 hr
     obtain ⟨m2, k3, k4⟩ := mcs_ok h k2
     exact ⟨m2, k1.trans k3, k4⟩
   · cases h
theorem ms_ok {d : Nat} (hr : Rel E fr σ m K ρ w) : Rel E fr (σ.ms d) (m ++ [.val (ρ d)]) K ρ w := by
 have hp := pre_app m [M.val (ρ d)]
 have hm : ∀ (i : Nat) (x : M), m[i]? = some x → (m ++ [M.val (ρ d)])[i]? = some x := fun _ _ k => pre_get hp k
 have gn : (m ++ [M.val (ρ d)])[σ.nx]? = some (.val (ρ d)) := get_new0 hr.nx
 have h1 : Rel E fr ⟨σ.base, σ.top, σ.H, σ.Hf, σ.nx + 1, σ.kq⟩ (m ++ [.val (ρ d)]) K ρ w := by
   refine ⟨Pur.next hr.toPur hp (Hp.le_refl K) (fun e => ⟨e, rfl⟩) (by simp [hr.nx]) (hr.toPur.okH' hp (Hp.le_refl K)), ?_⟩
   show Sep E K (σ.H.map (HA.conc _) ++ σ.fz fr) w
   rw [hr.toPur.conc hp (fun _ h => h)]
   exact hr.toSep
 exact h1.fine (d := d) (sv := .is σ.nx (σ.get d)) ⟨gn, SV.mono hm (Hp.le_refl K) _ (hr.toPur.get d)⟩
theorem prep_ok {k : Hn P → Zt → Option R} {r : R} : ∀ (h : Hn P) {σ : Zt} {m : List M} {K : Hp}, prep h σ k = some r → Rel E fr σ m K ρ w → ∃ h' σ' m' K', k h' σ' = some r ∧ Same σ σ' ∧ Rel E fr σ' m' K' ρ w
 | .per i cn q, σ, m, K, h, hr => by
   unfold prep at h
   cases hb : σ.hasC i cn with
   | false => rw [hb] at h; exact ⟨_, σ, m, K, h, Same.rfl', hr⟩
   | true =>
     rw [hb] at h
     simp only [cond_true] at h
     split at h
     · rename_i σ1 h1
       obtain ⟨K1, k1, k2, k3⟩ := per_ok h1 hr
       obtain ⟨h', σ', m', K', g1, g2, g3⟩ := prep_ok q h k3
       exact ⟨h', σ', m', K', g1, k2.trans g2, g3⟩
     · cases h
 | .perb i cn tp q, σ, m, K, h, hr => by
   unfold prep at h
   cases hb : σ.hasC i cn with
   | false => rw [hb] at h; exact ⟨_, σ, m, K, h, Same.rfl', hr⟩
   | true =>
     rw [hb] at h
     simp only [cond_true] at h
     split at h
     · rename_i σ1 h1
       obtain ⟨K1, k1, k2, k3⟩ := perb_ok h1 hr
       obtain ⟨h', σ', m', K', g1, g2, g3⟩ := prep_ok q h k3
       exact ⟨h', σ', m', K', g1, k2.trans g2, g3⟩
     · cases h
 | .mc i c cn q, σ, m, K, h, hr => by
   unfold prep at h
   cases hb : σ.hasC i cn with
   | false => rw [hb] at h; exact ⟨_, σ, m, K, h, Same.rfl', hr⟩
   | true =>
     rw [hb] at h
     simp only [cond_true] at h
     split at h
     · rename_i σ1 h1
       obtain ⟨m1, k2, k3⟩ := mc_ok h1 hr
       obtain ⟨h', σ', m', K', g1, g2, g3⟩ := prep_ok q h k3
       exact ⟨h', σ', m', K', g1, k2.trans g2, g3⟩
     · cases h
 | .ms d q, σ, m, K, h, hr => by
   unfold prep at h
   cases hb : σ.hasS d with
   | false => rw [hb] at h; exact ⟨_, σ, m, K, h, Same.rfl', hr⟩
   | true =>
   rw [hb] at h
   simp only [cond_true] at h
   obtain ⟨h', σ', m', K', g1, g2, g3⟩ := prep_ok q h (ms_ok (d := d) hr)
   exact ⟨h', σ', m', K', g1, (show Same σ (σ.ms d) from ⟨rfl, rfl⟩).trans g2, g3⟩
 | .wt d q, σ, m, K, h, hr => by
   unfold prep at h
   cases hb : σ.hasW d with
   | false => rw [hb] at h; exact ⟨_, σ, m, K, h, Same.rfl', hr⟩
   | true =>
   rw [hb] at h
   simp only [cond_true] at h
   exact prep_ok q h hr
 | .opn i d q, σ, m, K, h, hr => by
   unfold prep at h
   split at h
   · obtain ⟨σ1, m1, k1, k2, k3⟩ := opn_ok h hr
     obtain ⟨h', σ', m', K', g1, g2, g3⟩ := prep_ok q k1 k3
     exact ⟨h', σ', m', K', g1, k2.trans g2, g3⟩
   · exact ⟨_, σ, m, K, h, Same.rfl', hr⟩
 | .opb i cn q, σ, m, K, h, hr => by
   unfold prep at h
   cases hb : σ.hasC i cn with
   | false => rw [hb] at h; exact ⟨_, σ, m, K, h, Same.rfl', hr⟩
   | true =>
     rw [hb] at h
     simp only [cond_true] at h
     obtain ⟨σ1, m1, k1, k2, k3⟩ := opb_ok h hr
     obtain ⟨h', σ', m', K', g1, g2, g3⟩ := prep_ok q k1 k3
     exact ⟨h', σ', m', K', g1, k2.trans g2, g3⟩
 | .cls i cn q, σ, m, K, h, hr => by
   unfold prep at h
   cases hb : σ.hasC i cn with
   | false => rw [hb] at h; exact ⟨_, σ, m, K, h, Same.rfl', hr⟩
   | true =>
     rw [hb] at h
     simp only [cond_true] at h
     split at h
     · rename_i σ1 h1
       obtain ⟨m1, k2, k3⟩ := cls_ok h1 hr
       obtain ⟨h', σ', m', K', g1, g2, g3⟩ := prep_ok q h k3
       exact ⟨h', σ', m', K', g1, k2.trans g2, g3⟩
     · cases h
 | .opp s i d q, σ, m, K, h, hr => ⟨_, σ, m, K, h, Same.rfl', hr⟩
 | .ot o q, σ, m, K, h, hr => ⟨_, σ, m, K, h, Same.rfl', hr⟩
 | .cm q l c a, σ, m, K, h, hr => ⟨_, σ, m, K, h, Same.rfl', hr⟩
 | .cm2 q l c a b, σ, m, K, h, hr => ⟨_, σ, m, K, h, Same.rfl', hr⟩
 | .tr t s c a b, σ, m, K, h, hr => ⟨_, σ, m, K, h, Same.rfl', hr⟩
 | .tru q, σ, m, K, h, hr => ⟨_, σ, m, K, h, Same.rfl', hr⟩
 | .yl q r, σ, m, K, h, hr => ⟨_, σ, m, K, h, Same.rfl', hr⟩
 | .rg q r, σ, m, K, h, hr => ⟨_, σ, m, K, h, Same.rfl', hr⟩
 | .nil, σ, m, K, h, hr => ⟨_, σ, m, K, h, Same.rfl', hr⟩
 | .two d a b, σ, m, K, h, hr => ⟨_, σ, m, K, h, Same.rfl', hr⟩
 | .tw d a b, σ, m, K, h, hr => ⟨_, σ, m, K, h, Same.rfl', hr⟩
 | .sq mk s c a b, σ, m, K, h, hr => ⟨_, σ, m, K, h, Same.rfl', hr⟩
 | .sx mk s c a b, σ, m, K, h, hr => ⟨_, σ, m, K, h, Same.rfl', hr⟩
 | .pl q, σ, m, K, h, hr => ⟨_, σ, m, K, h, Same.rfl', hr⟩
 | .jn mk s c a b, σ, m, K, h, hr => ⟨_, σ, m, K, h, Same.rfl', hr⟩
 | .jx mk s c a b, σ, m, K, h, hr => ⟨_, σ, m, K, h, Same.rfl', hr⟩
 | .lp s a, σ, m, K, h, hr => ⟨_, σ, m, K, h, Same.rfl', hr⟩
 | .un c q, σ, m, K, h, hr => ⟨_, σ, m, K, h, Same.rfl', hr⟩
 | .cl q l c, σ, m, K, h, hr => ⟨_, σ, m, K, h, Same.rfl', hr⟩
 | .c2 q l a b, σ, m, K, h, hr => ⟨_, σ, m, K, h, Same.rfl', hr⟩
 | .gp c q, σ, m, K, h, hr => ⟨_, σ, m, K, h, Same.rfl', hr⟩
 | .gj c s l a b, σ, m, K, h, hr => ⟨_, σ, m, K, h, Same.rfl', hr⟩
 | .mix p f l c q, σ, m, K, h, hr => ⟨_, σ, m, K, h, Same.rfl', hr⟩
theorem gate_ok {ops : Array Oper} {dst : Option Nat} {op : Op} {t : TypeId} {pos : String} {af : Array Edge} {g : Option (Nat × Bool)} {h0 : Hn P} {run skip : Hn P → Zt → Option R} {r : R} (h : gate n ops σ ⟨dst, op, t, pos, af, g⟩ h0 run skip = some r) (hr : Rel E fr σ m K ρ w) :
   ∃ h' σ', Same σ σ' ∧ Rel E fr σ' m K ρ w ∧ ((Region.wanted ⟨dst, op, t, pos, af, g⟩ (yielded ops (act1 n ρ).tmps) = true ∧ run h' σ' = some r) ∨ (Region.wanted ⟨dst, op, t, pos, af, g⟩ (yielded ops (act1 n ρ).tmps) = false ∧ skip h' σ' = some r)) := by
 unfold gate at h
 split at h
 · rename_i hg
   have hg : g = none := hg
   subst hg
   exact ⟨h0, σ, Same.rfl', hr, .inl ⟨rfl, h⟩⟩
 · rename_i gi c hg
   have hg : g = some (gi, c) := hg
   subst hg
   split at h
   · cases h
   · rename_i d hd
     have hv := hr.toPur.evr n (.tmp d)
     have fin : ∀ (b : Bool) (hb : ev n ρ (.tmp d) = .bool b) (h1 h2 : Hn P) (σ1 σ2 : Zt), (b = true → Same σ σ1 ∧ Rel E fr σ1 m K ρ w) → (b = false → Same σ σ2 ∧ Rel E fr σ2 m K ρ w) → cond b (bif c then run h1 σ1 else skip h1 σ1) (bif c then skip h2 σ2 else run h2 σ2) = some r →
         ∃ h' σ', Same σ σ' ∧ Rel E fr σ' m K ρ w ∧ ((Region.wanted ⟨dst, op, t, pos, af, some (gi, c)⟩ (yielded ops (act1 n ρ).tmps) = true ∧ run h' σ' = some r) ∨ (Region.wanted ⟨dst, op, t, pos, af, some (gi, c)⟩ (yielded ops (act1 n ρ).tmps) = false ∧ skip h' σ' = some r)) := by
       intro b hb h1 h2 σ1 σ2 r1 r2 h
       cases b with
       | true =>
         obtain ⟨s1, q1⟩ := r1 rfl
         cases c with
         | true => exact ⟨h1, σ1, s1, q1, .inl ⟨wanted_run rfl hd hb rfl, h⟩⟩
         | false => exact ⟨h1, σ1, s1, q1, .inr ⟨wanted_skip rfl hd hb rfl, h⟩⟩
       | false =>
         obtain ⟨s2, q2⟩ := r2 rfl
         cases c with
         | true => exact ⟨h2, σ2, s2, q2, .inr ⟨wanted_skip rfl hd hb rfl, h⟩⟩
         | false => exact ⟨h2, σ2, s2, q2, .inl ⟨wanted_run rfl hd hb rfl, h⟩⟩
     split at h
     · rename_i vs e
       rw [e] at hv
       replace h := bift h; obtain ⟨he, h⟩ := h
       obtain rfl : vs = #[] := by simpa using he
       exact ⟨h0, σ, Same.rfl', hr, .inr ⟨wanted_skipu rfl hd hv, h⟩⟩
     · rename_i b e
       rw [e] at hv
       have hb : ev n ρ (.tmp d) = .bool b := hv
       have hlt : Nat.blt d n = true := by
         cases hh : Nat.blt d n with
         | true => rfl
         | false =>
           have : σ.evr n (.tmp d) = .any := by show (bif Nat.blt d n then σ.get d else .any) = _; rw [hh]; rfl
           rw [this] at e; cases e
       have hρ : ρ d = .bool b := by
         have : ev n ρ (.tmp d) = ρ d := by show (bif Nat.blt d n then ρ d else undef) = _; rw [hlt]; rfl
         rw [← this]; exact hb
       split at h
       · rename_i h1 h2 _
         have hget : σ.get d = .bool b := by
           have : σ.evr n (.tmp d) = σ.get d := by show (bif Nat.blt d n then σ.get d else .any) = _; rw [hlt]; rfl
           rw [← this]; exact e
         exact fin b hb h1 h2 (σ.ref d (.bool true)) (σ.ref d (.bool false)) (fun e => ⟨⟨rfl, ref_H.2⟩, hr.ref (d := d) (sv := .bool true) (fun _ _ u hu => by rw [hget, e] at hu; exact hu) (by rw [hget]; nofun)⟩) (fun e => ⟨⟨rfl, ref_H.2⟩, hr.ref (d := d) (sv := .bool false) (fun _ _ u hu => by rw [hget, e] at hu; exact hu) (by rw [hget]; nofun)⟩) h
       · rename_i h1 h2 _
         exact fin b hb h1 h2 σ σ (fun _ => ⟨Same.rfl', hr⟩) (fun _ => ⟨Same.rfl', hr⟩) h
       · exact fin b hb h0 h0 σ σ (fun _ => ⟨Same.rfl', hr⟩) (fun _ => ⟨Same.rfl', hr⟩) h
     · rename_i jm w0 e
       rw [e] at hv
       obtain ⟨hj, hv⟩ := hv
       split at h
       · rename_i b
         have hb : ev n ρ (.tmp d) = .bool b := hv
         rw [hb] at hj
         split at h
         · rename_i h1 h2 _
           exact fin b hb h1 h2 (σ.fix jm (.bool true)) (σ.fix jm (.bool false)) (fun e => ⟨⟨rfl, rfl⟩, hr.fix hj (by rw [e]; rfl)⟩) (fun e => ⟨⟨rfl, rfl⟩, hr.fix hj (by rw [e]; rfl)⟩) h
         · rename_i h1 h2 _
           exact fin b hb h1 h2 σ σ (fun _ => ⟨Same.rfl', hr⟩) (fun _ => ⟨Same.rfl', hr⟩) h
         · exact fin b hb h0 h0 σ σ (fun _ => ⟨Same.rfl', hr⟩) (fun _ => ⟨Same.rfl', hr⟩) h
       · cases h
     · cases h
theorem runP_ok {ops : Array Oper} {Q : Exit → Act → World → Prop} {k : Hn P → Zt → Option R} {r : R} : ∀ (l : List Oper) {h : Hn P} {σ : Zt} {m : List M} {K : Hp} {ρ : Sl1} {w : World}, runP n ops l h σ k = some r → Rel E fr σ m K ρ w →
   (∀ h' σ' m' K' ρ' w', Rel E fr σ' m' K' ρ' w' → Same σ σ' → k h' σ' = some r → Q .normal (act1 n ρ') w') → wpLs P ops Q l (act1 n ρ) w
 | [], h, σ, m, K, ρ, w, hh, hr, hQ => by
   obtain ⟨h', σ', m', K', g1, g2, g3⟩ := prep_ok h hh hr
   exact hQ h' σ' m' K' ρ w g3 g2 g1
 | ⟨dst, op, t, pos, af, g⟩ :: l, h, σ, m, K, ρ, w, hh, hr, hQ => by
   unfold runP at hh
   obtain ⟨h1, σ1, m1, K1, g1, g2, g3⟩ := prep_ok h hh hr
   obtain ⟨h2, σ2, q1, q2, q3⟩ := gate_ok g1 g3
   unfold wpLs
   rcases q3 with ⟨hw, hrun⟩ | ⟨hw, hskip⟩
   · rw [if_pos hw]
     obtain ⟨h2, σ2', m2, K2, y1, y2, q2⟩ := prep_ok h2 hrun q2
     replace q1 := q1.trans y2
     have hrun' : op1 n ⟨dst, op, t, pos, af, none⟩ h2 σ2' (fun h σ => runP n ops l h σ k) = some r := y1
     have := op1_ok hrun' q2 (wpLs P ops Q l) Q (fun h' σ' m' K' ρ' w' a1 a2 a3 => runP_ok l a3 a1 (fun h'' σ'' m'' K'' ρ'' w'' b1 b2 b3 => hQ h'' σ'' m'' K'' ρ'' w'' b1 (((g2.trans q1).trans a2).trans b2) b3))
     exact this
   · rw [if_neg (by rw [hw]; simp)]
     cases dst with
     | none => exact runP_ok l hskip q2 (fun h'' σ'' m'' K'' ρ'' w'' b1 b2 b3 => hQ h'' σ'' m'' K'' ρ'' w'' b1 ((g2.trans q1).trans b2) b3)
     | some d =>
       show wpLs P ops Q l ((act1 n ρ).put (some d) undef) w
       rw [put_act1]
       exact runP_ok l hskip (q2.set (d := d) (sv := .raw undef) (v := undef) rfl) (fun h'' σ'' m'' K'' ρ'' w'' b1 b2 b3 => hQ h'' σ'' m'' K'' ρ'' w'' b1 (((g2.trans q1).trans ⟨rfl, rfl⟩).trans b2) b3)
theorem upd_ne {ρ : Sl1} {d i : Nat} {v : Value} (h : i ≠ d) : upd1 ρ d v i = ρ i := by
 show (bif Nat.beq i d then v else ρ i) = ρ i
 cases hb : Nat.beq i d with
 | true => exact absurd (Nat.eq_of_beq_eq_true hb) h
 | false => rfl
theorem upd_same {ρ : Sl1} {d : Nat} {v : Value} : upd1 ρ d v d = v := by
 show (bif Nat.beq d d then v else ρ d) = v
 rw [Nat.beq_refl]; rfl
def undefs (W : List Nat) (ρ : Sl1) : Sl1 := ⟨fun i => if i ∈ W then undef else ρ i, ρ.ds⟩
theorem undefs_nil {ρ : Sl1} : undefs [] ρ = ρ := by refine Sl1.ext' (fun i => ?_) rfl; simp [undefs]
theorem undefs_cons {ρ : Sl1} {d : Nat} {W : List Nat} : undefs W (upd1 ρ d undef) = undefs (d :: W) ρ := by
 refine Sl1.ext' (fun i => ?_) rfl
 show (if i ∈ W then undef else upd1 ρ d undef i) = if i ∈ d :: W then undef else ρ i
 by_cases h : i ∈ W
 · simp [h]
 · by_cases hd : i = d
   · subst hd; simp [h, upd_same]
   · simp [h, hd, upd_ne hd]
theorem Rel.anys (hr : Rel E fr σ m K ρ w) {W : List Nat} {ρ' : Sl1} (h : ∀ i, i ∉ W → ρ' i = ρ i) (hd : MOk fr.k0 K ρ'.ds) : Rel E fr ⟨σ.base, anys W ++ σ.top, σ.H, σ.Hf, σ.nx, σ.kq⟩ m K ρ' w where
 hm := hr.hm
 hK := hr.hK
 nx := hr.nx
 kq := hr.kq
 base := hr.base
 dead := hr.dead
 old := fun i hi => by
   change look (Go.Proofs.Ytffmjongaodjgaa.anys W ++ σ.top) i = none at hi
   rw [look_app, look_anys] at hi
   by_cases hW : i ∈ W
   · rw [if_pos hW] at hi; cases hi
   · rw [if_neg hW] at hi
     rw [h i hW]; exact hr.old i hi
 top := fun i sv hi => by
   change look (Go.Proofs.Ytffmjongaodjgaa.anys W ++ σ.top) i = some sv at hi
   rw [look_app, look_anys] at hi
   by_cases hW : i ∈ W
   · rw [if_pos hW] at hi; cases hi; trivial
   · rw [if_neg hW] at hi
     rw [h i hW]; exact hr.top i sv hi
 okH := hr.okH
 okF := hr.okF
 mks := hd
 sep := hr.sep
theorem evs {ρ : Sl1} {t : Nat} : ev n ρ (.tmp t) = (bif Nat.blt t n then ρ t else undef) := rfl
theorem ev_eq {ρ ρ' : Sl1} {t : Nat} (h : ρ' t = ρ t) : ev n ρ' (.tmp t) = ev n ρ (.tmp t) := by rw [evs, evs, h]
theorem ev_undefs {ρ : Sl1} {W : List Nat} {t : Nat} (h : ev n ρ (.tmp t) = undef) : ev n (undefs W ρ) (.tmp t) = undef := by
 rw [evs] at h ⊢
 cases hb : Nat.blt t n with
 | false => rfl
 | true =>
   rw [hb] at h; simp only [cond_true] at h ⊢
   show (if t ∈ W then undef else ρ t) = undef
   split
   · rfl
   · exact h
theorem ev_undefs_mem {ρ : Sl1} {W : List Nat} {t : Nat} (h : t ∈ W) : ev n (undefs W ρ) (.tmp t) = undef := by
 rw [evs]
 cases hb : Nat.blt t n with
 | false => rfl
 | true => simp [undefs, h]
theorem undefs_app {ρ : Sl1} {V W : List Nat} : undefs V (undefs W ρ) = undefs (W ++ V) ρ := by
 refine Sl1.ext' (fun i => ?_) rfl
 unfold undefs
 by_cases h1 : i ∈ V <;> by_cases h2 : i ∈ W <;> simp [h1, h2]
theorem gEq_eq : ∀ {a b : Option (Nat × Bool)}, gEq a b = true → a = b
 | none, none, _ => rfl
 | some (a, b), some (a', b'), h => by
   simp only [gEq, Bool.and_eq_true] at h
   have h1 := Nat.eq_of_beq_eq_true h.1
   have h2 : b = b' := by simpa using h.2
   rw [h1, h2]
 | none, some _, h => by cases h
 | some _, none, h => by cases h
theorem dsts_app {a b : List Oper} : dsts (a ++ b) = dsts a ++ dsts b := by simp [dsts]
def SpRes (P : Program) (E : En) (n : Nat) (ops : Array Oper) (fr : Frz) (m : List M) (K : Hp) (w : World) (g : Nat × Bool) (l : List Oper) (seen : List Nat) (σ : Zt) (ρ : Sl1) (k : Zt → Option R) (r : R) : Prop :=
 (∃ σ' ρ', Rel E fr σ' m K ρ' w ∧ Same σ σ' ∧ (∀ i, i ∉ dsts l → ρ' i = ρ i) ∧ k σ' = some r ∧ ∀ (t : Nat), (ops[g.1]?).bind (·.dst) = some t → t ∉ dsts l → ev n ρ (.tmp t) = .bool g.2 → ∀ (Q : Exit → Act → World → Prop) (rest : List Oper), wpLs P ops Q rest (act1 n ρ') w → wpLs P ops Q (l ++ rest) (act1 n ρ) w) ∧
 (∀ (ρ0 : Sl1) (t : Nat), (ops[g.1]?).bind (·.dst) = some t → t ∉ dsts l → (ev n ρ0 (.tmp t) = .bool (!g.2) ∨ ev n ρ0 (.tmp t) = undef) → (∀ s ∈ seen, ev n ρ0 (.tmp s) = undef) → ∀ (Q : Exit → Act → World → Prop) (rest : List Oper), wpLs P ops Q rest (act1 n (undefs (dsts l) ρ0)) w → wpLs P ops Q (l ++ rest) (act1 n ρ0) w)
def SpFor (P : Program) (n : Nat) (ops : Array Oper) (sp : (Nat × Bool) → List Oper → List Nat → Nat → Zt → (Zt → Option R) → Option R) : Prop :=
 ∀ (E : En) (fr : Frz) (m : List M) (K : Hp) (w : World) (g : Nat × Bool) (l : List Oper) (seen : List Nat) (s : Nat) (σ : Zt) (ρ : Sl1) (k : Zt → Option R) (r : R), sp g l seen s σ k = some r → Rel E fr σ m K ρ w → SpRes P E n ops fr m K w g (l.drop s) seen σ ρ k r
theorem skip1 {op : Op} {ty : TypeId} {pos : String} {af : Array Edge} {g : Nat × Bool} {ops : Array Oper} {t d : Nat} {Q : Exit → Act → World → Prop} {rest : List Oper} {ρ : Sl1} (h1 : (ops[g.1]?).bind (·.dst) = some t) (hv : ev n ρ (.tmp t) = .bool (!g.2) ∨ ev n ρ (.tmp t) = undef) (h : wpLs P ops Q rest (act1 n (upd1 ρ d undef)) w) :
   wpLs P ops Q (⟨some d, op, ty, pos, af, some g⟩ :: rest) (act1 n ρ) w := by
 obtain ⟨gi, c⟩ := g
 have hw : Region.wanted ⟨some d, op, ty, pos, af, some (gi, c)⟩ (yielded ops (act1 n ρ).tmps) = false := by
   rcases hv with hv | hv
   · exact wanted_skip (b := !c) rfl h1 hv rfl
   · exact wanted_skipu rfl h1 hv
 refine wpLs_skip hw ?_
 show wpLs P ops Q rest ((act1 n ρ).put (some d) undef) w
 rw [put_act1]
 exact h
theorem runGd_ok {ops : Array Oper} {sp : (Nat × Bool) → List Oper → List Nat → Nat → Zt → (Zt → Option R) → Option R} (hsp : SpFor P n ops sp) {og : Option (Nat × Bool)} {k : Zt → Option R} {r : R} {l : List Oper} {q : Nat} {ρ : Sl1} (h : runGd P n ops sp og l q σ k = some r) (hr : Rel E fr σ m K ρ w) :
   (∃ σ' ρ', Rel E fr σ' m K ρ' w ∧ Same σ σ' ∧ (∀ i, i ∉ dsts (l.take (q + 1)) → ρ' i = ρ i) ∧ k σ' = some r ∧ ((og = none ∨ ∃ g t, og = some g ∧ (ops[g.1]?).bind (·.dst) = some t ∧ t ∉ dsts (l.take (q + 1)) ∧ ev n ρ (.tmp t) = .bool g.2) → ∀ (Q : Exit → Act → World → Prop) (rest : List Oper), wpLs P ops Q rest (act1 n ρ') w → wpLs P ops Q (l.take (q + 1) ++ rest) (act1 n ρ) w)) ∧
   (∀ (g : Nat × Bool), og = some g → ∀ (ρ0 : Sl1) (t : Nat), (ops[g.1]?).bind (·.dst) = some t → t ∉ dsts (l.take (q + 1)) → (ev n ρ0 (.tmp t) = .bool (!g.2) ∨ ev n ρ0 (.tmp t) = undef) → (∀ o tl g' t', l = o :: tl → o.guard = some g' → (ops[g'.1]?).bind (·.dst) = some t' → ev n ρ0 (.tmp t') = undef) → ∀ (Q : Exit → Act → World → Prop) (rest : List Oper), wpLs P ops Q rest (act1 n (undefs (dsts (l.take (q + 1))) ρ0)) w → wpLs P ops Q (l.take (q + 1) ++ rest) (act1 n ρ0) w) := by
 unfold runGd at h
 split at h
 · rename_i o tl d t x y ty pos af pg rest0 hdr
   replace h := bift h; obtain ⟨hpg, h⟩ := h
   have hpg := gEq_eq hpg
   split at h
   · rename_i gi c hg
     split at h
     · rename_i t' b ht' hb
       replace h := bif_and h; obtain ⟨e1, e2, h⟩ := h
       have e1 := Nat.eq_of_beq_eq_true e1
       subst e1
       have e2 : t ∉ dsts ((o :: tl).take q) := by simpa using e2
       have hvb : ev n ρ (.tmp t) = .bool b := by have := hr.toPur.ev n (.tmp t); rw [hb] at this; exact this
       have htk : (o :: tl).take (q + 1) = (o :: tl).take q ++ [⟨some d, .pick (.tmp t) x y, ty, pos, af, pg⟩] := by
         have h1 : (o :: tl) = (o :: tl).take q ++ (⟨some d, .pick (.tmp t) x y, ty, pos, af, pg⟩ :: rest0) := by rw [← hdr, List.take_append_drop]
         have hq : ((o :: tl).take q).length = q := by
           have : q < (o :: tl).length := by
             by_cases hlt : q < (o :: tl).length
             · exact hlt
             · rw [List.drop_eq_nil_of_le (by omega)] at hdr; cases hdr
           rw [List.length_take]; omega
         rw [List.take_add, hdr]; rfl
       have hds : dsts ((o :: tl).take (q + 1)) = dsts ((o :: tl).take q) ++ [d] := by rw [htk, dsts_app]; rfl
       have hres := hsp E fr m K w (gi, c) ((o :: tl).take q) [] 0 σ ρ _ r h hr
       rw [List.drop_zero] at hres
       obtain ⟨⟨σ1, ρ1, q1, q2, q3, q4, q5⟩, qs⟩ := hres
       refine ⟨?_, ?_⟩
       · have hW := hr.anys (W := dsts ((o :: tl).take q)) (ρ' := undefs (dsts ((o :: tl).take q)) ρ) (fun i hi => by simp [undefs, hi]) hr.mks
         simp only [] at q4
         split at q4
         · rename_i p0 p1 hp0 hp1
           have fin : ∀ (ρ2 : Sl1), MOk fr.k0 K ρ2.ds → (∀ i, i ∉ dsts ((o :: tl).take q) → ρ2 i = ρ i) → (b = true → ev n ρ2 x = .bool p0) → (b = false → ev n ρ2 y = .bool p1) → (∀ Q rest, wpLs P ops Q rest (act1 n ρ2) w → wpLs P ops Q ((o :: tl).take q ++ rest) (act1 n ρ) w) →
               ∃ σ' ρ', Rel E fr σ' m K ρ' w ∧ Same σ σ' ∧ (∀ i, i ∉ dsts ((o :: tl).take (q + 1)) → ρ' i = ρ i) ∧ k σ' = some r ∧ ((og = none ∨ ∃ g t, og = some g ∧ (ops[g.1]?).bind (·.dst) = some t ∧ t ∉ dsts ((o :: tl).take (q + 1)) ∧ ev n ρ (.tmp t) = .bool g.2) → ∀ (Q : Exit → Act → World → Prop) (rest : List Oper), wpLs P ops Q rest (act1 n ρ') w → wpLs P ops Q ((o :: tl).take (q + 1) ++ rest) (act1 n ρ) w) := fun ρ2 f0 f1 f2 f3 f4 => by
             have ht2 : ev n ρ2 (.tmp t) = .bool b := by rw [← hvb]; exact ev_eq (f1 t e2)
             have hrel := hr.anys f1 f0
             have hpick : Val P n (Hold E K (σ.atoms fr m)) ρ2 ⟨some d, .pick (.tmp t) x y, ty, pos, af, pg⟩ (.bool (cond b p0 p1)) := by
               cases b with
               | true => exact V.pickT ht2 rfl (f2 rfl)
               | false => exact V.pickF ht2 rfl (f3 rfl)
             refine ⟨_, upd1 ρ2 d (.bool (cond b p0 p1)), hrel.set (d := d) (sv := .bool (cond b p0 p1)) (v := .bool (cond b p0 p1)) rfl, ⟨rfl, rfl⟩, fun i hi => ?_, q4, fun hog Q rest hk => ?_⟩
             · rw [hds] at hi
               rw [upd_ne (fun e => hi (by rw [e]; simp)), f1 i (fun e => hi (List.mem_append_left _ e))]
             · rw [htk, List.append_assoc]
               refine f4 Q _ ?_
               show wpLs P ops Q (⟨some d, .pick (.tmp t) x y, ty, pos, af, pg⟩ :: rest) (act1 n ρ2) w
               unfold wpLs
               have hwant : Region.wanted ⟨some d, .pick (.tmp t) x y, ty, pos, af, pg⟩ (yielded ops (act1 n ρ2).tmps) = true := by
                 rcases hog with hog | ⟨g2, t2, hog, k1, k2, k3⟩
                 · rw [hpg, hog]; rfl
                 · obtain ⟨g2a, g2b⟩ := g2
                   rw [hpg, hog]
                   rw [hds] at k2
                   exact wanted_run (b := g2b) rfl k1 (by rw [← k3]; exact ev_eq (f1 t2 (fun e => k2 (List.mem_append_left _ e)))) rfl
               rw [if_pos hwant]
               unfold Oper.wp
               rw [eval_act1, hpick w hr.hold, Oper.upon_value, put_act1]
               exact hk
           by_cases hbc : b = c
           · subst hbc
             refine fin ρ1 q1.mks q3 (fun e => ?_) (fun e => ?_) (fun Q rest hk => q5 t ht' e2 hvb Q rest hk)
             · subst e; have := q1.toPur.ev n x; simp only [cond_true] at hp0; rw [hp0] at this; exact this
             · subst e; have := q1.toPur.ev n y; simp only [cond_false] at hp1; rw [hp1] at this; exact this
           · have hbc : b = !c := by cases b <;> cases c <;> first | rfl | exact absurd rfl hbc
             refine fin (undefs (dsts ((o :: tl).take q)) ρ) hr.mks (fun i hi => by simp [undefs, hi]) (fun e => ?_) (fun e => ?_) (fun Q rest hk => qs ρ t ht' e2 (.inl (by rw [hvb, hbc])) (fun s hs => by cases hs) Q rest hk)
             · have hc : c = false := by rw [e] at hbc; cases c <;> first | rfl | cases hbc
               subst hc; have := hW.toPur.ev n x; simp only [cond_false] at hp0; rw [hp0] at this; exact this
             · have hc : c = true := by rw [e] at hbc; cases c <;> first | rfl | cases hbc
               subst hc; have := hW.toPur.ev n y; simp only [cond_true] at hp1; rw [hp1] at this; exact this
         · cases q4
       · intro g hog ρ0 t2 k1 k2 k3 k4 Q rest hk
         have hu : ev n ρ0 (.tmp t) = undef := k4 o tl (gi, c) t rfl hg ht'
         rw [hds] at k2
         rw [htk, List.append_assoc]
         refine qs ρ0 t ht' e2 (.inr hu) (fun s hs => by cases hs) Q _ ?_
         show wpLs P ops Q (⟨some d, .pick (.tmp t) x y, ty, pos, af, pg⟩ :: rest) _ w
         rw [hpg, hog]
         have ht2 : t2 ∉ dsts ((o :: tl).take q) := fun e => k2 (List.mem_append_left _ e)
         refine skip1 (g := g) k1 ?_ ?_
         · rw [ev_eq (ρ := ρ0) (by simp [undefs, ht2])]; exact k3
         · have : upd1 (undefs (dsts ((o :: tl).take q)) ρ0) d undef = undefs (dsts ((o :: tl).take (q + 1))) ρ0 := by
             rw [hds, ← undefs_app]
             refine Sl1.ext' (fun i => ?_) rfl
             show upd1 (undefs (dsts ((o :: tl).take q)) ρ0) d undef i = if i ∈ [d] then undef else undefs (dsts ((o :: tl).take q)) ρ0 i
             by_cases hd : i = d
             · subst hd; simp [upd_same]
             · simp [hd, upd_ne hd]
           rw [this]; exact hk
     · cases h
   · cases h
 · cases h
theorem runSpL_ok {ops : Array Oper} {sp : (Nat × Bool) → List Oper → List Nat → Nat → Zt → (Zt → Option R) → Option R} (hsp : SpFor P n ops sp) {g : Nat × Bool} {r : R} : ∀ {l : List Oper} {seen : List Nat} {s : Nat} {σ : Zt} {ρ : Sl1} {k : Zt → Option R}, runSpL P n ops sp g l seen s σ k = some r → Rel E fr σ m K ρ w → SpRes P E n ops fr m K w g (l.drop s) seen σ ρ k r
 | [], seen, s, σ, ρ, k, h, hr => by
   rw [List.drop_nil]
   exact ⟨⟨σ, ρ, hr, Same.rfl', fun _ _ => rfl, (by unfold runSpL at h; exact h), fun _ _ _ _ _ _ h => h⟩, fun ρ0 t _ _ _ _ Q rest h => by rw [show dsts [] = [] from rfl, undefs_nil] at h; exact h⟩
 | _ :: l, seen, s + 1, σ, ρ, k, h, hr => by
   unfold runSpL at h
   rw [List.drop_succ_cons]
   exact runSpL_ok hsp h hr
 | ⟨dst, op, ty, pos, af, gd⟩ :: l, seen, 0, σ, ρ, k, h, hr => by
   rw [List.drop_zero]
   unfold runSpL at h
   split at h
   · rename_i d g' hd hg
     have hd : dst = some d := hd
     have hg : gd = some g' := hg
     subst hd hg
     have hds : dsts (⟨some d, op, ty, pos, af, some g'⟩ :: l) = d :: dsts l := rfl
     cases hgb : (Nat.beq g.1 g'.1 && (g.2 == g'.2)) with
     | true =>
       rw [hgb] at h; simp only [cond_true] at h
       have hgg : g' = g := by
         obtain ⟨a, b⟩ := g; obtain ⟨a', b'⟩ := g'
         simp only [Bool.and_eq_true] at hgb
         have h1 := Nat.eq_of_beq_eq_true hgb.1
         have h2 : b = b' := by simpa using hgb.2
         simp_all
       subst hgg
       obtain ⟨σ1, sv, v, z1, z2, z3, z4⟩ := vop_ok h hr.toPur hr.cls
       have hr1 := (z2.rel hr).set (d := d) z3
       have hres := runSpL_ok hsp z1 hr1
       rw [List.drop_zero] at hres
       obtain ⟨⟨σ', ρ', q1, q2, q3, q4, q5⟩, qs⟩ := hres
       refine ⟨⟨σ', ρ', q1, (z2.same.trans ⟨rfl, rfl⟩).trans q2, fun i hi => ?_, q4, fun t h1 h2 h3 Q rest h4 => ?_⟩, fun ρ0 t h1 h2 h3 h4 Q rest h5 => ?_⟩
       · rw [hds] at hi
         rw [q3 i (fun h => hi (List.mem_cons_of_mem _ h))]
         exact upd_ne (fun e => hi (by rw [e]; simp))
       · rw [hds] at h2
         have htd : t ≠ d := fun e => h2 (by rw [e]; simp)
         show wpLs P ops Q (_ :: (l ++ rest)) (act1 n ρ) w
         unfold wpLs
         obtain ⟨gi, c⟩ := g'
         have hwn : Region.wanted ⟨some d, op, ty, pos, af, some (gi, c)⟩ (yielded ops (act1 n ρ).tmps) = true := wanted_run (b := c) rfl h1 h3 rfl
         rw [if_pos hwn]
         unfold Oper.wp
         rw [eval_act1]
         have := z4 (some d) ty pos af (some (gi, c)) w hr.hold
         rw [this, Oper.upon_value, put_act1]
         refine q5 t h1 (fun h => h2 (List.mem_cons_of_mem _ h)) ?_ Q rest h4
         rw [← h3]
         exact ev_eq (upd_ne htd)
       · rw [hds] at h2 h5
         have htd : t ≠ d := fun e => h2 (by rw [e]; simp)
         refine skip1 h1 h3 ?_
         refine qs (upd1 ρ0 d undef) t h1 (fun h => h2 (List.mem_cons_of_mem _ h)) ?_ (fun s hs => ?_) Q rest (by rw [undefs_cons]; exact h5)
         · rw [ev_eq (ρ := ρ0) (upd_ne htd)]; exact h3
         · rcases List.mem_cons.1 hs with rfl | hs
           · rw [evs, upd_same]; cases Nat.blt s n <;> rfl
           · by_cases hsd : s = d
             · subst hsd; rw [evs, upd_same]; cases Nat.blt s n <;> rfl
             · rw [ev_eq (ρ := ρ0) (upd_ne hsd)]; exact h4 s hs
     | false =>
       rw [hgb] at h; simp only [cond_false] at h
       split at h
       · rename_i t' ht'
         replace h := bift h; obtain ⟨hseen, h⟩ := h
         have hseen : t' ∈ seen := by simpa using hseen
         split at h
         · rename_i q hq
           generalize hL : (⟨some d, op, ty, pos, af, some g'⟩ :: l : List Oper) = L at h
           have hLl : L.drop (q + 1) = l.drop q := by rw [← hL]; rfl
           obtain ⟨⟨σ1, ρ1, q1, q2, q3, q4, q5⟩, qs⟩ := runGd_ok hsp h hr
           have hres := runSpL_ok hsp q4 q1
           obtain ⟨⟨σ', ρ', a1, a2, a3, a4, a5⟩, qs2⟩ := hres
           have hsp2 : L = L.take (q + 1) ++ l.drop q := by rw [← hLl, List.take_append_drop]
           have hdd : dsts L = dsts (L.take (q + 1)) ++ dsts (l.drop q) := by rw [← dsts_app, ← hsp2]
           refine ⟨⟨σ', ρ', a1, q2.trans a2, fun i hi => ?_, a4, fun t h1 h2 h3 Q rest h4 => ?_⟩, fun ρ0 t h1 h2 h3 h4 Q rest h5 => ?_⟩
           · rw [hdd] at hi
             rw [a3 i (fun h => hi (List.mem_append_right _ h)), q3 i (fun h => hi (List.mem_append_left _ h))]
           · rw [hdd] at h2
             have k1 : t ∉ dsts (L.take (q + 1)) := fun h => h2 (List.mem_append_left _ h)
             rw [hsp2, List.append_assoc]
             refine q5 (.inr ⟨g, t, rfl, h1, k1, h3⟩) Q _ ?_
             exact a5 t h1 (fun h => h2 (List.mem_append_right _ h)) (by rw [← h3]; exact ev_eq (q3 t k1)) Q rest h4
           · rw [hdd] at h2 h5
             have k1 : t ∉ dsts (L.take (q + 1)) := fun h => h2 (List.mem_append_left _ h)
             rw [hsp2, List.append_assoc]
             refine qs g rfl ρ0 t h1 k1 h3 (fun o tl g2 t2 e1 e2 e3 => ?_) Q _ ?_
             · rw [← hL] at e1
               cases e1
               have e2 : g' = g2 := by simpa using e2
               rw [← e2, ht'] at e3
               cases e3
               exact h4 t' hseen
             · refine qs2 (undefs (dsts (L.take (q + 1))) ρ0) t h1 (fun h => h2 (List.mem_append_right _ h)) ?_ (fun s hs => ?_) Q rest (by rw [undefs_app]; exact h5)
               · rw [ev_eq (ρ := ρ0) (by simp [undefs, k1])]; exact h3
               · rcases List.mem_append.1 hs with hs | hs
                 · exact ev_undefs_mem hs
                 · exact ev_undefs (h4 s hs)
         · cases h
       · cases h
   · cases h
theorem runSp_ok {ops : Array Oper} : ∀ (d : Nat), SpFor (R := R) P n ops (runSp P n ops d)
 | 0 => fun E fr m K w g l seen s σ ρ k r h hr => runSpL_ok (fun _ _ _ _ _ _ _ _ _ _ _ _ _ h => by cases h) h hr
 | d + 1 => fun E fr m K w g l seen s σ ρ k r h hr => runSpL_ok (runSp_ok d) h hr
theorem runG_ok {ops : Array Oper} {Q : Exit → Act → World → Prop} {k : Zt → Option R} {r : R} {l : List Oper} {q : Nat} (h : runG P n ops l q σ k = some r) (hr : Rel E fr σ m K ρ w)
   (hQ : ∀ σ' ρ', Rel E fr σ' m K ρ' w → Same σ σ' → k σ' = some r → wpLs P ops Q (l.drop (q + 1)) (act1 n ρ') w) : wpLs P ops Q l (act1 n ρ) w := by
 unfold runG at h
 split at h
 · split at h
   · obtain ⟨⟨σ', ρ', q1, q2, q3, q4, q5⟩, _⟩ := runGd_ok (runSp_ok 6) h hr
     have := q5 (.inl rfl) Q (l.drop (q + 1)) (hQ σ' ρ' q1 q2 q4)
     rw [List.take_append_drop] at this
     exact this
   · rename_i g c heq
     split at h
     · rename_i t ht
       split at h
       · rename_i b hb
         replace h := bif_and h; obtain ⟨e1, e2, h⟩ := h
         have e1 : b = c := by simpa using e1
         have e2 : t ∉ dsts (l.take (q + 1)) := by simpa using e2
         have hvb : ev n ρ (.tmp t) = .bool b := by have := hr.toPur.ev n (.tmp t); rw [hb] at this; exact this
         obtain ⟨⟨σ', ρ', q1, q2, q3, q4, q5⟩, _⟩ := runGd_ok (runSp_ok 6) h hr
         have := q5 (.inr ⟨(g, c), t, rfl, ht, e2, by rw [hvb, e1]⟩) Q (l.drop (q + 1)) (hQ σ' ρ' q1 q2 q4)
         rw [List.take_append_drop] at this
         exact this
       · cases h
     · cases h
 · cases h
def SubFor (P : Program) (n : Nat) (ops : Array Oper) (sub : (R : Type) → List Oper → Hn P → Zt → (Hn P → Zt → Option R) → Option R) : Prop :=
 ∀ (R : Type) (E : En) (fr : Frz) (Q : Exit → Act → World → Prop) (k : Hn P → Zt → Option R) (r : R) (l : List Oper) (h : Hn P) (σ : Zt) (m : List M) (K : Hp) (ρ : Sl1) (w : World), sub R l h σ k = some r → Rel E fr σ m K ρ w →
   (∀ h' σ' m' K' ρ' w', Rel E fr σ' m' K' ρ' w' → Same σ σ' → k h' σ' = some r → Q .normal (act1 n ρ') w') → wpLs P ops Q l (act1 n ρ) w
theorem runLg_ok {ops : Array Oper} {sub : (R : Type) → List Oper → Hn P → Zt → (Hn P → Zt → Option R) → Option R} (hsub : SubFor P n ops sub) {Q : Exit → Act → World → Prop} {k : Hn P → Zt → Option R} {r : R} : ∀ (l : List Oper) (s : Nat) {h : Hn P} {σ : Zt} {m : List M} {K : Hp} {ρ : Sl1} {w : World}, runLg n ops sub l s h σ k = some r → Rel E fr σ m K ρ w →
   (∀ h' σ' m' K' ρ' w', Rel E fr σ' m' K' ρ' w' → Same σ σ' → k h' σ' = some r → Q .normal (act1 n ρ') w') → wpLs P ops Q (l.drop s) (act1 n ρ) w
 | [], s, h, σ, m, K, ρ, w, hh, hr, hQ => by
   unfold runLg at hh
   obtain ⟨h', σ', m', K', g1, g2, g3⟩ := prep_ok h hh hr
   rw [List.drop_nil]
   exact hQ h' σ' m' K' ρ w g3 g2 g1
 | o :: l, s + 1, h, σ, m, K, ρ, w, hh, hr, hQ => by
   unfold runLg at hh
   exact runLg_ok hsub l s hh hr hQ
 | ⟨dst, op, t, pos, af, g⟩ :: l, 0, h, σ, m, K, ρ, w, hh, hr, hQ => by
   unfold runLg at hh
   obtain ⟨h1, σ1, m1, K1, g1, g2, g3⟩ := prep_ok h hh hr
   rw [List.drop_zero]
   have plain : gate n ops σ1 ⟨dst, op, t, pos, af, g⟩ h1 (fun h σ => prep h σ fun h σ => op1 n ⟨dst, op, t, pos, af, g⟩ h σ fun h σ => runLg n ops sub l 0 h σ k) (fun h σ => runLg n ops sub l 0 h (putU dst σ) k) = some r → wpLs P ops Q (⟨dst, op, t, pos, af, g⟩ :: l) (act1 n ρ) w := fun g1 => by
     obtain ⟨h2, σ2, q1, q2, q3⟩ := gate_ok g1 g3
     unfold wpLs
     rcases q3 with ⟨hw, hrun⟩ | ⟨hw, hskip⟩
     · rw [if_pos hw]
       obtain ⟨h2, σ2', m2, K2, y1, y2, q2⟩ := prep_ok h2 hrun q2
       replace q1 := q1.trans y2
       have hrun' : op1 n ⟨dst, op, t, pos, af, none⟩ h2 σ2' (fun h σ => runLg n ops sub l 0 h σ k) = some r := y1
       have := op1_ok hrun' q2 (wpLs P ops Q l) Q (fun h' σ' m' K' ρ' w' a1 a2 a3 => runLg_ok hsub l 0 a3 a1 (fun h'' σ'' m'' K'' ρ'' w'' b1 b2 b3 => hQ h'' σ'' m'' K'' ρ'' w'' b1 (((g2.trans q1).trans a2).trans b2) b3))
       exact this
     · rw [if_neg (by rw [hw]; simp)]
       cases dst with
       | none => exact runLg_ok hsub l 0 hskip q2 (fun h'' σ'' m'' K'' ρ'' w'' b1 b2 b3 => hQ h'' σ'' m'' K'' ρ'' w'' b1 ((g2.trans q1).trans b2) b3)
       | some d =>
         show wpLs P ops Q l ((act1 n ρ).put (some d) undef) w
         rw [put_act1]
         exact runLg_ok hsub l 0 hskip (q2.set (d := d) (sv := .raw undef) (v := undef) rfl) (fun h'' σ'' m'' K'' ρ'' w'' b1 b2 b3 => hQ h'' σ'' m'' K'' ρ'' w'' b1 (((g2.trans q1).trans ⟨rfl, rfl⟩).trans b2) b3)
   generalize (bif fires ops h1 (⟨dst, op, t, pos, af, g⟩ :: l) then h1 else .nil) = h0 at g1
   cases h0 with
   | gp q h2 =>
     refine runG_ok g1 g3 (fun σ2 ρ2 z1 z2 z3 => ?_)
     exact runLg_ok hsub l q z3 z1 (fun h'' σ'' m'' K'' ρ'' w'' b1 b2 b3 => hQ h'' σ'' m'' K'' ρ'' w'' b1 ((g2.trans z2).trans b2) b3)
   | gj q s ac ha hb =>
     have g1 : (sub _ ((⟨dst, op, t, pos, af, g⟩ :: l : List Oper).take (q + 1)) ha (σ1.frz ac) (fun h σ' => σ'.pack s (dsts ((⟨dst, op, t, pos, af, g⟩ :: l : List Oper).take (q + 1))))).bind (fun x => σ1.lay s (dsts ((⟨dst, op, t, pos, af, g⟩ :: l : List Oper).take (q + 1))) (minus σ1.H ac) x fun σ => runLg n ops sub l q hb σ k) = some r := g1
     obtain ⟨x, hx, g1⟩ := ob g1
     have hsp : wpLs P ops Q ((⟨dst, op, t, pos, af, g⟩ :: l : List Oper).take (q + 1) ++ l.drop q) (act1 n ρ) w := by
       refine wpLs_app (hsub _ _ _ _ _ _ _ _ _ _ _ _ _ hx (g3.frz ac) (fun h' σ' m' K' ρ' w' a1 a2 a3 => ?_))
       have hi : Inn σ1 fr ⟨m1, K1, ρ, fun _ => false, fr.F, fr.k0⟩ m1 K1 ρ (minus σ1.H ac) σ' (dsts ((⟨dst, op, t, pos, af, g⟩ :: l : List Oper).take (q + 1))) := ⟨rfl, rfl, rfl, rfl, rfl, a2.2, minus_sub, fun _ _ => rfl⟩
       obtain ⟨σ3, m3, q1, q2, q3⟩ := lay_ok g3 hi a1 a3 g1
       exact runLg_ok hsub l q q1 q3 (fun h'' σ'' m'' K'' ρ'' w'' b1 b2 b3 => hQ h'' σ'' m'' K'' ρ'' w'' b1 ((g2.trans q2).trans b2) b3)
     have : (⟨dst, op, t, pos, af, g⟩ :: l : List Oper).take (q + 1) ++ l.drop q = ⟨dst, op, t, pos, af, g⟩ :: l := by
       rw [List.take_succ_cons, List.cons_append, List.take_append_drop]
     rw [this] at hsp
     exact hsp
   | nil => exact plain g1
   | two d a b => exact plain g1
   | tw d a b => exact plain g1
   | sq mk s c a b => exact plain g1
   | sx mk s c a b => exact plain g1
   | pl q => exact plain g1
   | jn mk s c a b => exact plain g1
   | jx mk s c a b => exact plain g1
   | lp s a => exact plain g1
   | un c q => exact plain g1
   | per c d q => exact plain g1
   | perb c d tp q => exact plain g1
   | mc c d e q => exact plain g1
   | ms d q => exact plain g1
   | wt d q => exact plain g1
   | cl q l c => exact plain g1
   | c2 q l a b => exact plain g1
   | mix p f l c q => exact plain g1
   | opn c d q => exact plain g1
   | opb c d q => exact plain g1
   | cls c d q => exact plain g1
   | opp s i d q => exact plain g1
   | ot o q => exact plain g1
   | cm q l c a => exact plain g1
   | cm2 q l c a b => exact plain g1
   | tr t s c a b => exact plain g1
   | tru q => exact plain g1
   | yl q r => exact plain g1
   | rg q r => exact plain g1
theorem runLd_ok {ops : Array Oper} : ∀ (d : Nat), SubFor P n ops (runLd n ops d)
 | 0 => fun R E fr Q k r l h σ m K ρ w hh hr hQ => runP_ok l hh hr hQ
 | d + 1 => fun R E fr Q k r l h σ m K ρ w hh hr hQ => by
   have := runLg_ok (runLd_ok d) l 0 (Q := Q) hh hr hQ
   rw [List.drop_zero] at this
   exact this
theorem runL_ok {ops : Array Oper} {Q : Exit → Act → World → Prop} {k : Hn P → Zt → Option R} {r : R} (l : List Oper) (s : Nat) {h : Hn P} {σ : Zt} {m : List M} {K : Hp} {ρ : Sl1} {w : World} (hh : runL n ops l s h σ k = some r) (hr : Rel E fr σ m K ρ w)
   (hQ : ∀ h' σ' m' K' ρ' w', Rel E fr σ' m' K' ρ' w' → Same σ σ' → k h' σ' = some r → Q .normal (act1 n ρ') w') : wpLs P ops Q (l.drop s) (act1 n ρ) w := runLg_ok (runLd_ok 4) l s hh hr hQ
def Cfz (E : En) (fr : Frz) (Hf : List HA) : World → Prop := Hold E fr.K (Hf.map (HA.conc fr.m))
theorem Rel.cfz (hr : Rel E fr σ m K ρ w) : Cfz E fr σ.Hf w := by
 refine ⟨K, σ.H.map (HA.conc m) ++ fr.F, hr.hK, ?_⟩
 have := hr.toSep
 unfold Zt.fz at this
 exact Sep.perm (perm3 _ _ _) this
theorem Rel.clsQ (hr : Rel E fr σ m K ρ w) : Cls E (Cfz E fr σ.Hf) σ.kq σ.Hf m K where
 rd := fun a ha => ⟨HA.ok_mono hr.toPur.mono hr.hK (hr.okF a ha), fun w' ⟨K', L', h1, h2⟩ => by
   have hmem : HA.conc m a ∈ σ.Hf.map (HA.conc fr.m) := by
     rw [HA.conc_mono hr.toPur.mono (hr.okF a ha)]
     exact List.mem_map_of_mem ha
   obtain ⟨i, hi, he⟩ := List.getElem_of_mem hmem
   have hg : (σ.Hf.map (HA.conc fr.m) ++ L')[i]? = some (HA.conc m a) := by
     rw [List.getElem?_append_left hi, List.getElem?_eq_getElem hi, he]
   exact ⟨K', _, h2.front i hg⟩⟩
 kn := fun hk b o v hv => by
   have := hr.kq hk
   subst this
   exact Rd.k hv (Hp.le_refl _)
theorem runQ_ok {l : List Oper} {k : Hn P → Zt → Option R} {r : R} {X : Act → Prop} : ∀ (is : List Nat) {h : Hn P} {σ : Zt} {ρ : Sl1} {C : World → Prop}, runQ n l is h σ k = some r → Rel E fr σ m K ρ w → C = Cfz E fr σ.Hf →
   (∀ h' σ' ρ', Rel E fr σ' m K ρ' w → Same σ σ' → k h' σ' = some r → X (act1 n ρ')) → wpQuiet P l.toArray C X (picks l is) (act1 n ρ)
 | [], h, σ, ρ, C, hh, hr, hC, hX => hX h σ ρ hr Same.rfl' hh
 | i :: is, h, σ, ρ, C, hh, hr, hC, hX => by
   unfold runQ at hh
   split at hh
   · rename_i o ho
     rw [picks_cons ho]
     obtain ⟨dst, op, t, pos, af, g⟩ := o
     obtain ⟨h2, σ2, q1, q2, q3⟩ := gate_ok hh hr
     unfold wpQuiet
     rcases q3 with ⟨hw, hrun⟩ | ⟨hw, hskip⟩
     · rw [if_pos hw]
       dsimp only at hrun
       split at hrun
       · rename_i d
         obtain ⟨σ', sv, v, z1, z2, z3, z4⟩ := vop_ok hrun q2.toPur q2.clsQ
         refine ⟨v, fun w' hw' => ?_, ?_⟩
         · unfold Oper.quietAt
           rw [eval_act1]
           rw [hC, ← q1.2] at hw'
           have := z4 (some d) t pos af g w' hw'
           rw [this]
           exact ⟨rfl, rfl⟩
         · show wpQuiet P l.toArray C X (picks l is) ((act1 n ρ).put (some d) v)
           rw [put_act1]
           have hrel := (z2.rel q2).set (d := d) z3
           exact runQ_ok is z1 hrel (by rw [hC]; show Cfz E fr σ.Hf = Cfz E fr σ'.Hf; rw [z2.same.2, q1.2]) (fun h' σ'' ρ' p1 p2 p3 => hX h' σ'' ρ' p1 ((q1.trans z2.same).trans (Same.trans ⟨rfl, rfl⟩ p2)) p3)
       · cases hrun
     · rw [if_neg (by rw [hw]; simp)]
       cases dst with
       | none => exact runQ_ok is hskip q2 (by rw [hC]; show Cfz E fr σ.Hf = Cfz E fr σ2.Hf; rw [q1.2]) (fun h' σ'' ρ' p1 p2 p3 => hX h' σ'' ρ' p1 (q1.trans p2) p3)
       | some d =>
         show wpQuiet P l.toArray C X (picks l is) ((act1 n ρ).put (some d) undef)
         rw [put_act1]
         exact runQ_ok is hskip (q2.set (d := d) (sv := .raw undef) (v := undef) rfl) (by rw [hC]; show Cfz E fr σ.Hf = Cfz E fr σ2.Hf; rw [q1.2]) (fun h' σ'' ρ' p1 p2 p3 => hX h' σ'' ρ' p1 ((q1.trans ⟨rfl, rfl⟩).trans p2) p3)
   · cases hh
theorem quiet_const {l : Array Oper} {C : World → Prop} {p : Prop} : ∀ {os : List Oper} {a : Act}, wpQuiet P l C (fun _ => p) os a → p
 | [], a, h => h
 | o :: os, a, h => by
   unfold wpQuiet at h
   split at h
   · obtain ⟨v, _, h⟩ := h; exact quiet_const h
   · exact quiet_const h
theorem preO_ok {l : List Oper} {k : Hn P → Zt → Option R} {r : R} : ∀ (h : Hn P) {σ : Zt} {m : List M}, preO n l h σ k = some r → Rel E fr σ m K ρ w → ∃ h' σ' m', k h' σ' = some r ∧ Same σ σ' ∧ Rel E fr σ' m' K ρ w
 | .opp s i d q, σ, m, h, hr => by
   unfold preO at h
   have := quiet_const (runQ_ok (E := E) (fr := ⟨m, K, ρ, fun _ => false, fr.F, fr.k0⟩) (m := m) (K := K) (w := w) (X := fun _ => ∃ σ1 : Zt, (match σ1.intAt d with | some j => σ.opn i j fun σ => preO n l q σ k | none => none) = some r) s h (hr.frz []) rfl (fun _ σ1 _ _ _ h => ⟨σ1, h⟩))
   obtain ⟨σ1, h⟩ := this
   split at h
   · obtain ⟨σ2, m2, k1, k2, k3⟩ := opn_ok h hr
     obtain ⟨h', σ', m', g1, g2, g3⟩ := preO_ok q k1 k3
     exact ⟨h', σ', m', g1, k2.trans g2, g3⟩
   · cases h
 | .nil, σ, m, h, hr => ⟨_, σ, m, h, Same.rfl', hr⟩
 | .two d a b, σ, m, h, hr => ⟨_, σ, m, h, Same.rfl', hr⟩
 | .tw d a b, σ, m, h, hr => ⟨_, σ, m, h, Same.rfl', hr⟩
 | .sq mk s c a b, σ, m, h, hr => ⟨_, σ, m, h, Same.rfl', hr⟩
 | .sx mk s c a b, σ, m, h, hr => ⟨_, σ, m, h, Same.rfl', hr⟩
 | .pl q, σ, m, h, hr => ⟨_, σ, m, h, Same.rfl', hr⟩
 | .jn mk s c a b, σ, m, h, hr => ⟨_, σ, m, h, Same.rfl', hr⟩
 | .jx mk s c a b, σ, m, h, hr => ⟨_, σ, m, h, Same.rfl', hr⟩
 | .lp s a, σ, m, h, hr => ⟨_, σ, m, h, Same.rfl', hr⟩
 | .un c q, σ, m, h, hr => ⟨_, σ, m, h, Same.rfl', hr⟩
 | .per i c q, σ, m, h, hr => ⟨_, σ, m, h, Same.rfl', hr⟩
 | .perb i c tt q, σ, m, h, hr => ⟨_, σ, m, h, Same.rfl', hr⟩
 | .mc i c cn q, σ, m, h, hr => ⟨_, σ, m, h, Same.rfl', hr⟩
 | .ms d q, σ, m, h, hr => ⟨_, σ, m, h, Same.rfl', hr⟩
 | .wt d q, σ, m, h, hr => ⟨_, σ, m, h, Same.rfl', hr⟩
 | .cl q l c, σ, m, h, hr => ⟨_, σ, m, h, Same.rfl', hr⟩
 | .c2 q l a b, σ, m, h, hr => ⟨_, σ, m, h, Same.rfl', hr⟩
 | .gp c q, σ, m, h, hr => ⟨_, σ, m, h, Same.rfl', hr⟩
 | .gj c s l a b, σ, m, h, hr => ⟨_, σ, m, h, Same.rfl', hr⟩
 | .mix p f l c q, σ, m, h, hr => ⟨_, σ, m, h, Same.rfl', hr⟩
 | .opn i d q, σ, m, h, hr => ⟨_, σ, m, h, Same.rfl', hr⟩
 | .opb i c q, σ, m, h, hr => ⟨_, σ, m, h, Same.rfl', hr⟩
 | .cls i c q, σ, m, h, hr => ⟨_, σ, m, h, Same.rfl', hr⟩
 | .ot o q, σ, m, h, hr => ⟨_, σ, m, h, Same.rfl', hr⟩
 | .cm q l c a, σ, m, h, hr => ⟨_, σ, m, h, Same.rfl', hr⟩
 | .cm2 q l c a b, σ, m, h, hr => ⟨_, σ, m, h, Same.rfl', hr⟩
 | .tr t s c a b, σ, m, h, hr => ⟨_, σ, m, h, Same.rfl', hr⟩
 | .tru q, σ, m, h, hr => ⟨_, σ, m, h, Same.rfl', hr⟩
 | .yl q r, σ, m, h, hr => ⟨_, σ, m, h, Same.rfl', hr⟩
 | .rg q r, σ, m, h, hr => ⟨_, σ, m, h, Same.rfl', hr⟩
theorem runM_ok {l : List Oper} {fin tail : List Nat} {k : Hn P → Zt → Option R} {r : R} {Q : Exit → Act → World → Prop} : ∀ (plan : List (List Nat × Nat)) {h : Hn P} {σ : Zt} {m : List M} {K : Hp} {ρ : Sl1} {w : World} {C : World → Prop}, runM n l fin plan h σ k = some r → Rel E fr σ m K ρ w → C = Cfz E fr σ.Hf → (∀ s i, (s, i) ∈ plan → i < l.length) →
   (∀ h' σ' m' K' ρ' w', Rel E fr σ' m' K' ρ' w' → Same σ σ' → k h' σ' = some r → wpLs P l.toArray Q (picks l tail) (act1 n ρ') w') →
   wpMix P l.toArray C (fun a' w' => wpQuiet P l.toArray C (fun a' => wpLs P l.toArray Q (picks l tail) a' w') (picks l fin) a') (segs l plan) (act1 n ρ) w
 | [], h, σ, m, K, ρ, w, C, hh, hr, hC, hp, hQ => by
   refine wpMix_nil (runQ_ok fin hh hr hC (fun h' σ' ρ' p1 p2 p3 => ?_))
   exact hQ h' σ' m K ρ' w p1 p2 p3
 | (s, i) :: plan, h, σ, m, K, ρ, w, C, hh, hr, hC, hp, hQ => by
   have hlt := hp s i (by simp)
   have ho : l[i]? = some l[i] := List.getElem?_eq_getElem hlt
   rw [segs_cons ho]
   unfold runM at hh
   refine wpMix_cons (runQ_ok s hh hr hC (fun h1 σ1 ρ1 p1 p2 p3 => ?_))
   obtain ⟨h2, σ2, m2, K2, g1, g2, g3⟩ := prep_ok h1 p3 p1
   rw [ho] at g1
   dsimp only at g1
   generalize l[i] = o at g1
   obtain ⟨dst, op, t, pos, af, g⟩ := o
   obtain ⟨h3, σ3, q1, q2, q3⟩ := gate_ok g1 g3
   have hs3 := (p2.trans g2).trans q1
   unfold aloneOp
   rcases q3 with ⟨hw, hrun⟩ | ⟨hw, hskip⟩
   · rw [if_pos hw]
     obtain ⟨h3, σ3', m3, K3, y1, y2, q2⟩ := prep_ok h3 hrun q2
     replace hs3 := hs3.trans y2
     have hrun' : op1 n ⟨dst, op, t, pos, af, none⟩ h3 σ3' (fun h σ => runM n l fin plan h σ k) = some r := y1
     show Oper.wp P (⟨dst, op, t, pos, af, none⟩ : Oper) (act1 n ρ1) w (fun a' w' => C w' ∧ wpMix P l.toArray C _ (segs l plan) a' w') noExit
     refine op1_ok hrun' q2 _ _ (fun h' σ' m' K' ρ' w' a1 a2 a3 => ?_)
     · have hs' := hs3.trans a2
       refine ⟨?_, runM_ok plan a3 a1 (by rw [hC, hs'.2]) (fun s i hi => hp s i (List.mem_cons_of_mem _ hi)) (fun h'' σ'' m'' K'' ρ'' w'' b1 b2 b3 => hQ h'' σ'' m'' K'' ρ'' w'' b1 (hs'.trans b2) b3)⟩
       rw [hC, ← hs'.2]; exact a1.cfz
   · rw [if_neg (by rw [hw]; simp)]
     cases dst with
     | none => exact runM_ok plan hskip q2 (by rw [hC]; show Cfz E fr σ.Hf = Cfz E fr σ3.Hf; rw [hs3.2]) (fun s i hi => hp s i (List.mem_cons_of_mem _ hi)) (fun h'' σ'' m'' K'' ρ'' w'' b1 b2 b3 => hQ h'' σ'' m'' K'' ρ'' w'' b1 (hs3.trans b2) b3)
     | some d =>
       show wpMix P l.toArray C _ (segs l plan) ((act1 n ρ1).put (some d) undef) w
       rw [put_act1]
       exact runM_ok plan hskip (q2.set (d := d) (sv := .raw undef) (v := undef) rfl) (by rw [hC]; show Cfz E fr σ.Hf = Cfz E fr σ3.Hf; rw [hs3.2]) (fun s i hi => hp s i (List.mem_cons_of_mem _ hi)) (fun h'' σ'' m'' K'' ρ'' w'' b1 b2 b3 => hQ h'' σ'' m'' K'' ρ'' w'' b1 ((hs3.trans ⟨rfl, rfl⟩).trans b2) b3)
theorem mixPlan_lt {ops : Array Oper} {tail : List Nat} : ∀ (plan : List (List Nat × Nat)) (a b : Array Bool), mixPlan .any ops tail plan a = some b → ∀ s i, (s, i) ∈ plan → i < ops.size
 | [], a, b, _, s, i, h => by simp at h
 | (s0, k0) :: plan, a, b, h, s, i, hi => by
   simp only [mixPlan] at h
   split at h
   case h_2 => cases h
   case h_1 l' hl' =>
     split at h
     case isFalse => cases h
     case isTrue hb =>
       simp only [Bool.and_eq_true, beq_iff_eq] at hb
       rcases List.mem_cons.1 hi with e | hi
       · cases e
         have : k0 ∈ Region.ready .any ops l' := by rw [hb.1]; simp
         obtain ⟨_, o, ho, _⟩ := mem_ready.1 this
         exact (Array.getElem?_eq_some_iff.1 ho).1
       · exact mixPlan_lt plan _ _ h s i hi
theorem agr_some {α β : Type} {x y : α} {k : Option β} {r : β} (h : agr x y k = some r) : x = y ∧ k = some r := by
 unfold agr at h
 by_cases e : x = y
 · rw [if_pos e] at h; exact ⟨e, h⟩
 · rw [if_neg e] at h; cases h
theorem runAl_ok {l : List Oper} {i : Nat} {k : Hn P → Zt → Option R} {r : R} {X : Act → World → Prop} {C : World → Prop} {h : Hn P} {o : Oper} (ho : l[i]? = some o) (hh : runAl n l i h σ k = some r) (hr : Rel E fr σ m K ρ w) (hC : C = Cfz E fr σ.Hf)
   (hX : ∀ h' σ' m' K' ρ' w', Rel E fr σ' m' K' ρ' w' → Same σ σ' → k h' σ' = some r → X (act1 n ρ') w') : aloneOp P l.toArray C o X (act1 n ρ) w := by
 unfold runAl at hh
 obtain ⟨h2, σ2, m2, K2, g1, g2, g3⟩ := prep_ok h hh hr
 rw [ho] at g1
 dsimp only at g1
 obtain ⟨dst, op, t, pos, af, g⟩ := o
 obtain ⟨h3, σ3, q1, q2, q3⟩ := gate_ok g1 g3
 have hs3 := g2.trans q1
 unfold aloneOp
 rcases q3 with ⟨hw, hrun⟩ | ⟨hw, hskip⟩
 · rw [if_pos hw]
   obtain ⟨h3, σ3', m3, K3, y1, y2, q2⟩ := prep_ok h3 hrun q2
   replace hs3 := hs3.trans y2
   have hrun' : op1 n ⟨dst, op, t, pos, af, none⟩ h3 σ3' k = some r := y1
   show Oper.wp P (⟨dst, op, t, pos, af, none⟩ : Oper) (act1 n ρ) w (fun a' w' => C w' ∧ X a' w') noExit
   refine op1_ok hrun' q2 _ _ (fun h' σ' m' K' ρ' w' a1 a2 a3 => ?_)
   have hs' := hs3.trans a2
   refine ⟨?_, hX h' σ' m' K' ρ' w' a1 hs' a3⟩
   rw [hC, ← hs'.2]; exact a1.cfz
 · rw [if_neg (by rw [hw]; simp)]
   cases dst with
   | none => exact hX h3 σ3 m2 K2 ρ w q2 hs3 hskip
   | some d =>
     show X ((act1 n ρ).put (some d) undef) w
     rw [put_act1]
     exact hX h3 _ m2 K2 _ w (q2.set (d := d) (sv := .raw undef) (v := undef) rfl) (hs3.trans ⟨rfl, rfl⟩) hskip
theorem runT_ok {l : List Oper} {k : Hn P → Zt → Option R} {r : R} {F : Act → World → Prop} : ∀ (t : MT) {h : Hn P} {σ : Zt} {m : List M} {K : Hp} {ρ : Sl1} {w : World} {C : World → Prop}, runT n l t h σ k = some r → Rel E fr σ m K ρ w → C = Cfz E fr σ.Hf →
   (∀ h' σ' m' K' ρ' w', Rel E fr σ' m' K' ρ' w' → Same σ σ' → k h' σ' = some r → F (act1 n ρ') w') → wpT P C F l t (act1 n ρ) w
 | .leaf fin, h, σ, m, K, ρ, w, C, hh, hr, hC, hF => by
   exact runQ_ok fin hh hr hC (fun h' σ' ρ' p1 p2 p3 => hF h' σ' m K ρ' w p1 p2 p3)
 | .still s t, h, σ, m, K, ρ, w, C, hh, hr, hC, hF => by
   unfold runT at hh
   exact runQ_ok s hh hr hC (fun h' σ' ρ' p1 p2 p3 => runT_ok t p3 p1 (by rw [hC, p2.2]) (fun h'' σ'' m'' K'' ρ'' w'' b1 b2 b3 => hF h'' σ'' m'' K'' ρ'' w'' b1 (p2.trans b2) b3))
 | .alt i t q, h, σ, m, K, ρ, w, C, hh, hr, hC, hF => by
   unfold runT at hh
   have one : ∀ {h : Hn P}, runAl n l i h σ (fun h σ => runT n l t h σ k) = some r → ∀ o, l[i]? = some o → aloneOp P l.toArray C o (wpT P C F l t) (act1 n ρ) w := fun hh o ho =>
     runAl_ok ho hh hr hC (fun h' σ' m' K' ρ' w' a1 a2 a3 => runT_ok t a3 a1 (by rw [hC, a2.2]) (fun h'' σ'' m'' K'' ρ'' w'' b1 b2 b3 => hF h'' σ'' m'' K'' ρ'' w'' b1 (a2.trans b2) b3))
   cases hq : q.over with
   | true =>
     rw [hq] at hh
     refine ⟨one hh, ?_⟩
     cases q with
     | done => trivial
     | leaf _ => cases hq
     | still _ _ => cases hq
     | alt _ _ _ => cases hq
   | false =>
     rw [hq] at hh
     simp only [cond_false] at hh
     split at hh
     · rename_i d a b
       obtain ⟨x, hx, hh⟩ := ob hh
       obtain ⟨y, hy, hh⟩ := ob hh
       have h2 := agr_some hh
       have h3 : x = y := h2.1
       have h4 : x = r := Option.some.inj h2.2
       clear hh h2
       subst h3
       subst h4
       exact ⟨one hx, runT_ok q hy hr hC hF⟩
     · cases hh
 | .done, h, σ, m, K, ρ, w, C, hh, hr, hC, hF => trivial
theorem Rel.drew (hr : Rel E fr σ m K ρ w) : Rel E fr σ m K ρ w.drew := ⟨hr.toPur, hr.sep.drew⟩
end
end
section
variable [BldA]
def Hp.del (K : Hp) (D : Nat) : Hp := fun n => if n = D then none else K n
theorem Hp.cle_del {K : Hp} {D : Nat} {x : Option (List Deferred)} (h : K D = some (.deferred x)) : K.cle (K.del D) := fun g o v e => by
 unfold cellK Hp.del at *
 by_cases hg : g = D
 · subst hg; rw [h] at e; cases e
 · rw [if_neg hg]; exact e
section
variable {P : Program} {E : En} {n : Nat} {m : List M} {K : Hp} {fr : Frz} {σ : Zt} {ρ : Sl1} {w : World}
theorem Rel.unmark (hr : Rel E fr σ m K ρ w) {K2 : Hp} {w2 : World} (hc : K.cle K2) (hk : fr.K.le K2) (h0 : fr.k0.le K2) (hs : Sep E K2 (σ.atoms fr m) w2) : Rel E fr ⟨σ.base, σ.top, σ.H, σ.Hf, σ.nx, false⟩ m K2 ⟨ρ.f, []⟩ w2 where
 hm := hr.hm
 hK := hk
 nx := hr.nx
 kq := fun e => (by cases e)
 base := hr.base
 dead := hr.dead
 old := hr.old
 top := fun i sv hi => SV.monoC (fun _ _ h => h) hc sv (hr.top i sv hi)
 okH := fun a ha => HA.ok_monoC (fun _ _ h => h) hc (hr.okH a ha)
 okF := hr.okF
 mks := MOk.nil hr.mks.1.1 h0
 sep := hs
theorem marks_leave {fn : Func} {tmps : Array Value} {R : Ending → World → Prop} {L : List Atom} {k0 : Hp} : ∀ (ds : List Deferred) {K : Hp} {w : World}, MOk k0 K ds → Sep E K L w →
   (∀ K2 w2, K.cle K2 → k0.le K2 → Sep E K2 L w2 → ∃ v, (results fn tmps).run P w2 = .ok v w2 ∧ R (.returned v) w2) → LeavesInM Fence.wide 0 P fn tmps R ds .returning w
 | [], K, w, hm, hs, h => h K w (Hp.cle_refl K) hm.1.2 hs
 | d :: ds, K, w, hm, hs, h => by
   obtain ⟨D, rfl, hD, h0⟩ := hm.2.1 d (by simp)
   have hw : w.heap[D]? = some (.deferred (some [])) := hs.sub D _ hD
   have hnd := List.nodup_cons.1 hm.2.2
   refine ⟨by simp, .inl ⟨D, w.putObj D (.deferred none), rfl, run_takeDeferred hw, ?_⟩⟩
   have other : ∀ (k : Nat) (o : Obj), k ≠ D → w.heap[k]? = some o → (w.putObj D (.deferred none)).heap[k]? = some o := fun k o hne e => by rw [World.putObj_heap_other hne]; exact e
   have hs1 : Sep E (K.del D) L (w.putObj D (.deferred none)) := by
     refine Sep.move (w := w) (w' := w.putObj D (.deferred none)) (fun e => e) hs (fun k o e => ?_) (fun k o e e1 => ?_)
     · unfold Hp.del at e
       split at e
       · cases e
       · rename_i hne; exact other k o hne (hs.sub k o e)
     · have hne : k ≠ D := fun e2 => by rw [e2, hD] at e1; cases e1
       exact ⟨by unfold Hp.del; rw [if_neg hne]; exact e1, other k o hne e⟩
   refine marks_leave ds ⟨⟨hm.1.1, fun k o e => ?_⟩, fun d' hd' => ?_, hnd.2⟩ hs1 (fun K2 w2 c1 c2 c3 => h K2 w2 ((Hp.cle_del hD).trans c1) c2 c3)
   · unfold Hp.del
     rw [if_neg (fun e2 => by rw [e2, h0] at e; cases e)]
     exact hm.1.2 k o e
   · obtain ⟨D', rfl, h1, h2⟩ := hm.2.1 d' (List.mem_cons_of_mem _ hd')
     refine ⟨D', rfl, ?_, h2⟩
     unfold Hp.del
     rw [if_neg (fun e => hnd.1 (by rw [← e]; exact hd'))]
     exact h1
end
section
variable {P : Program} {E : En} {K : Hp} {L : List Atom} {w : World}
theorem LpA.at {l : Nat} {r : Loop} (h : Sep E K (LpA l r :: L) w) : w.heap[l]? = some (.loop r) := by
 obtain ⟨h1, rfl, hd, hs⟩ := h
 exact hs.sub l _ (Hp.join_right (one_of l _) (hd l _ (one_of l _)))
theorem LpA.put {l : Nat} {r r' : Loop} (h : Sep E K (LpA l r :: L) w) : Sep E K (LpA l r' :: L) (w.putObj l (.loop r')) := by
 have hw := LpA.at h
 have hlt := (Array.getElem?_eq_some_iff.1 hw).1
 refine Sep.turn h (fun e => e) (fun h1 hA hle => ?_)
 obtain rfl := hA
 refine ⟨one l (.loop r'), rfl, fun n o e => ?_, fun n o e e1 => ?_⟩
 · obtain ⟨rfl, rfl⟩ := one_some e
   exact ⟨World.putObj_heap_same hlt, fun e2 => by rw [one_of] at e2; cases e2⟩
 · have hne : n ≠ l := fun e2 => by subst e2; rw [one_of] at e1; cases e1
   rw [World.putObj_heap_other hne]; exact e
theorem enter_inner {l₀ : Nat} {r₀ : Loop} (h : w.heap[l₀]? = some (.loop r₀)) (fn : FuncId) (tmps : Array Value) (ps : Array Tmp) (assign body : Code) :
   (Instr.enterLoop fn tmps ps assign body (some l₀)).run P w =
     .ok (w.heap.size, []) (w.alloc (.loop { state := .ready, pending := none, fn, tmps, params := ps, assign, body, defers := r₀.defers })) := by
 unfold Instr.enterLoop
 simp only [Sem.run_bind, run_getLoop h, run_newObj_alloc, Result.andThen, Sem.run_pure]
theorem Sep.allocO (h : Sep E K L w) (o : Obj) : Sep E K ((fun hh => hh = one w.heap.size o) :: L) (w.alloc o) :=
 Sep.turn h.emp (fun e => e) (fun h0 ha _ => by
   unfold _root_.Go.Proofs.Ytffmjongaodjgaa.emp at ha; subst ha
   refine ⟨one w.heap.size o, rfl, fun n x e => ?_, fun n x e _ => ?_⟩
   · obtain ⟨rfl, rfl⟩ := one_some e
     exact ⟨World.alloc_heap_new w _, fun _ => Array.getElem?_eq_none (Nat.le_refl _)⟩
   · rw [Below.heap_alloc _ _ _ (lt_of_block e)]; exact e)
theorem Sep.known {o : Obj} {b : Nat} (h : Sep E K ((fun hh => hh = one b o) :: L) w) : Sep E (K.join (one b o)) L w ∧ K b = none := by
 obtain ⟨h1, rfl, hd, hs⟩ := h
 exact ⟨hs, hd b _ (one_of b o)⟩
end
def busyR (r : Loop) : Loop := { r with state := .busy, pending := none }
def RdOk (E : En) (fr : Frz) : Prop := ∀ l, E.rd = some l → ∃ r, LpA l r ∈ fr.F
section
variable {R : Type} {P : Program} {E : En} {n : Nat} {m m' : List M} {K K' : Hp} {fr : Frz} {σ σ' : Zt} {ρ ρ' : Sl1} {w w' : World}
def Fok (P : Program) (n : Nat) (c : Code) (f : Hn P → Zt → (R : Type) → (Exit → Hn P → Zt → Option R) → Option R) : Prop :=
 ∀ (R : Type) (E : En) (fr : Frz), RdOk E fr → ∀ (h : Hn P) (σ : Zt) (k : Exit → Hn P → Zt → Option R) (r : R) (m : List M) (K : Hp) (ρ : Sl1) (w : World) (Q : Exit → Act → World → Prop), f h σ R k = some r → Rel E fr σ m K ρ w →
   (∀ e h' σ' m' K' ρ' w', Rel E fr σ' m' K' ρ' w' → Same σ σ' → k e h' σ' = some r → Q e (act1 n ρ') w') → c.wpIn (wideR E.rd) 0 P Q (act1 n ρ) w
def JOk (J : Rn P) : Prop := ∀ n c, Fok P n c (fun h σ R k => J n c R h σ k)
def setV : List Nat → List Value → Sl0 → Sl0
 | p :: ps, x :: xs, f => setV ps xs (upd f p x)
 | _, _, f => f
theorem frm_set {ρ : Sl0} {p : Nat} {v : Value} : (frm n ρ).setIfInBounds p v = frm n (upd ρ p v) := by
 have h := congrArg Act.tmps (Go.Proofs.Ytffmjongaodjgaa.put_act n ρ p v)
 unfold act Act.put at h
 exact h
theorem frm_foldl : ∀ (ps : List Nat) (xs : List Value) (ρ : Sl0), (ps.zip xs).foldl (fun t (q : Nat × Value) => t.setIfInBounds q.1 q.2) (frm n ρ) = frm n (setV ps xs ρ)
 | [], xs, ρ => rfl
 | p :: ps, [], ρ => rfl
 | p :: ps, x :: xs, ρ => by
   show (ps.zip xs).foldl _ ((frm n ρ).setIfInBounds p x) = _
   rw [frm_set]
   exact frm_foldl ps xs (upd ρ p x)
theorem setPs_rel : ∀ (ps : List Nat) {xs : List SV} {us : List Value} {f : Nat → SV} {ρ : Sl0}, SV.relL m K xs us → (∀ i, SV.rel m K (f i) (ρ i)) → ∀ i, SV.rel m K (setPs ps xs f i) (setV ps us ρ i)
 | [], xs, us, f, ρ, h, hf, i => hf i
 | p :: ps, [], us, f, ρ, h, hf, i => by
   obtain rfl := relL_nil h
   exact hf i
 | p :: ps, x :: xs, us, f, ρ, h, hf, i => by
   obtain ⟨u, r, rfl, h1, h2⟩ := relL_cons h
   refine setPs_rel ps (us := r) (ρ := upd ρ p u) h2 (fun j => ?_) i
   show SV.rel m K (bif Nat.beq j p then x else f j) (bif Nat.beq j p then u else ρ j)
   cases Nat.beq j p with
   | true => exact h1
   | false => exact hf j
theorem relL_len2 : ∀ {xs : List SV} {us : List Value}, SV.relL m K xs us → us.length = xs.length
 | [], us, h => by obtain rfl := relL_nil h; rfl
 | x :: xs, us, h => by
   obtain ⟨u, r, rfl, h1, h2⟩ := relL_cons h
   simp [relL_len2 h2]
theorem yldRun_ok {J : Rn P} (hJ : JOk J) {c : SV} {xs : List SV} {h : Hn P} {k : Hn P → Zt → Bool → Option R} {r : R} (hh : yldRun J σ c xs h k = some r) (hr : Rel E fr σ m K ρ w) {us : List Value} {v : Value} (hv : SV.rel m K c v) (hxs : SV.relL m K xs us) {X : Ending → World → Prop}
   (hX : ∀ h' σ' m' K' w' b, Rel E fr σ' m' K' ρ w' → Same σ σ' → k h' σ' b = some r → X (.returned (.bool b)) w') :
   ∃ l, v = .func (.yield l) #[] #[] ∧ ∃ fn tmps ao bo, (Instr.yield l us.toArray).run P w = .ok (.round l fn tmps ao bo) w ∧ RoundIn (wideR E.rd) 0 P l fn tmps ao bo w X := by
 unfold yldRun at hh
 split at hh
 · rename_i i n0 vs0 ps ao bo
   obtain ⟨l, rr, ρ0, rfl, hm, ht, hp, ha, hb, hvs⟩ := hv
   replace hh := bift hh; obtain ⟨hlen, hh⟩ := hh
   have hlen := Nat.eq_of_beq_eq_true hlen
   split at hh
   · rename_i H hq
     obtain ⟨a, ha', hmem, hperm⟩ := pick_spec hq
     obtain rfl := lpR_eq ha'
     have hsub : ∀ a ∈ H, a ∈ σ.H := fun a ha => hperm.symm.subset (List.mem_cons_of_mem _ ha)
     -- the record, ahead
     have hs0 : Sep E K (LpA l (LSt.ready.cr rr) :: (H.map (HA.conc m) ++ σ.fz fr)) w := by
       have := Sep.perm ((hperm.map (HA.conc m)).append_right (σ.fz fr)) hr.toSep
       simpa only [List.map_cons, HA.conc, hm, List.cons_append] using this
     have hw := LpA.at hs0
     have hy := run_yield (P := P) (args := us.toArray) hw (by
       show us.toArray.size = rr.params.size
       rw [hp, List.size_toArray, relL_len2 hxs, hlen])
     refine ⟨l, rfl, _, _, _, _, hy, roundIn_of_wpIn trivial ?_⟩
     have htm : (((LSt.ready.cr rr).params.zip us.toArray).foldl (fun tmps (t, a) => tmps.setIfInBounds t a) (LSt.ready.cr rr).tmps) = frm n0 (setV ps.toList us ρ0) := by
       show ((rr.params.zip us.toArray).foldl _ rr.tmps) = _
       rw [hp, ht, ← Array.foldl_toList, Array.toList_zip]
       exact frm_foldl ps.toList us ρ0
     rw [htm]
     show rr.assign.wpIn (wideR (some l)) 0 P _ (act1 n0 ⟨setV ps.toList us ρ0, []⟩) w
     rw [ha]
     have hE : ∀ (L : List Atom) (K : Hp) (w : World), Sep E K L w → Sep { E with rd := some l } K L w := fun L K w => Sep.rd (E := E) (E' := { E with rd := some l }) (fun w h => h)
     have hE' : ∀ (L : List Atom) (K : Hp) (w : World), Sep { E with rd := some l } K L w → Sep E K L w := fun L K w => Sep.rd (E := { E with rd := some l }) (E' := E) (fun w h => h)
     have mid : ∀ (A B C : List Atom) (x : Atom), (A ++ (B ++ x :: C)).Perm (x :: (A ++ (B ++ C))) := fun A B C x => by
       rw [← List.append_assoc, ← List.append_assoc]; exact List.perm_middle
     have hrel : Rel { E with rd := some l } ⟨m, K, ⟨setV ps.toList us ρ0, []⟩, fun _ => false, LpA l (LSt.ready.cr rr) :: fr.F, K⟩ ⟨setPs ps.toList xs vs0, [], H, σ.Hf, σ.nx, false⟩ m K ⟨setV ps.toList us ρ0, []⟩ w := by
       refine ⟨⟨List.prefix_refl m, Hp.le_refl K, hr.nx, fun e => (by cases e), fun i => setPs_rel ps.toList hxs hvs i, fun i e => (by cases e), fun i _ => .inr rfl, fun i sv e => (by cases e), fun a ha => hr.okH a (hsub a ha), fun a ha => hr.toPur.all a (List.mem_append_right _ ha), MOk.nil hr.mks.gk (Hp.le_refl K)⟩, ?_⟩
       show Sep _ K (H.map (HA.conc m) ++ (σ.Hf.map (HA.conc m) ++ (LpA l (LSt.ready.cr rr) :: fr.F))) w
       refine hE _ _ _ (Sep.perm (mid _ _ _ _).symm ?_)
       rw [hr.toPur.fz']
       exact hs0
     refine hJ n0 ao _ { E with rd := some l } ⟨m, K, ⟨setV ps.toList us ρ0, []⟩, fun _ => false, LpA l (LSt.ready.cr rr) :: fr.F, K⟩ (by intro l2 e; cases e; exact ⟨_, List.mem_cons_self⟩) h _ _ r m K _ w _ hh hrel (fun e h' σ1 m1 K1 ρ1 w1 h1 h2 h3 => ?_)
     cases e with
     | normal =>
       have hs1 : Sep E K1 (LpA l (LSt.ready.cr rr) :: (σ1.H.map (HA.conc m1) ++ (σ1.Hf.map (HA.conc m) ++ fr.F))) w1 := Sep.perm (mid _ _ _ _) (hE' _ _ _ h1.sep)
       have hw1 := LpA.at hs1
       refine ⟨w1.putObj l (.loop (busyR rr)), run_beginRound hw1 rfl, ?_⟩
       have hs2 := LpA.put (r' := (busyR rr)) hs1
       have hrel2 : Rel { E with rd := some l } ⟨m, K, ⟨setV ps.toList us ρ0, []⟩, fun _ => false, LpA l (busyR rr) :: fr.F, K⟩ σ1 m1 K1 ρ1 (w1.putObj l (.loop (busyR rr))) :=
         ⟨⟨h1.hm, h1.hK, h1.nx, h1.kq, h1.base, h1.dead, h1.old, h1.top, h1.okH, h1.okF, h1.mks⟩, hE _ _ _ (Sep.perm (mid _ _ _ _).symm hs2)⟩
       show (LSt.ready.cr rr).body.wpIn (wideR (some l)) 0 P _ (act1 n0 ρ1) _
       rw [show (LSt.ready.cr rr).body = bo from hb]
       refine hJ n0 bo _ { E with rd := some l } ⟨m, K, ⟨setV ps.toList us ρ0, []⟩, fun _ => false, LpA l (busyR rr) :: fr.F, K⟩ (by intro l2 e; cases e; exact ⟨_, List.mem_cons_self⟩) h' σ1 _ r m1 K1 ρ1 _ _ h3 hrel2 (fun e2 h'' σ2 m2 K2 ρ2 w2 g1 g2 g3 => ?_)
       have hs3 : Sep E K2 (LpA l (busyR rr) :: (σ2.H.map (HA.conc m2) ++ (σ2.Hf.map (HA.conc m) ++ fr.F))) w2 := Sep.perm (mid _ _ _ _) (hE' _ _ _ g1.sep)
       have hw3 := LpA.at hs3
       have back : ∀ (s : LSt) (b : Bool) (jump : Option Code), exLst e2 = some (b, s) → b = jump.isNone → s.cr rr = { busyR rr with state := if jump.isNone then .ready else .done, pending := jump } →
           ∃ v w', (Instr.endRound l jump).run P w2 = .ok v w' ∧ X (.returned v) w' := fun s b jump e1 e2 e3 => by
         subst e2
         rw [e1] at g3
         simp only at g3
         refine ⟨_, _, run_endRound jump hw3, ?_⟩
         refine hX h'' ⟨σ.base, σ.top, .lp i s :: σ2.H, σ.Hf, σ2.nx, false⟩ m2 K2 _ _ ?_ ⟨rfl, rfl⟩ g3
         have hm2 : m <+: m2 := g1.hm
         have hK2 : K.le K2 := g1.hK
         have hm2' : ∀ (i : Nat) (x : M), m[i]? = some x → m2[i]? = some x := fun _ _ k => pre_get hm2 k
         refine ⟨⟨hr.hm.trans hm2, hr.hK.trans hK2, g1.nx, fun e => (by cases e), hr.base, hr.dead, hr.old, fun i sv hi => SV.mono hm2' hK2 sv (hr.top i sv hi), fun a ha => ?_, hr.okF, hr.mks.mono hK2⟩, ?_⟩
         · rcases List.mem_cons.1 ha with rfl | ha
           · exact ⟨l, rr, hm2' _ _ hm⟩
           · exact g1.okH a ha
         · have := LpA.put (r' := s.cr rr) hs3
           have hHf : σ2.Hf = σ.Hf := (h2.trans g2).2
           rw [hHf, hr.toPur.fz'] at this
           show Sep E K2 ((HA.lp i s :: σ2.H).map (HA.conc m2) ++ (σ.Hf.map (HA.conc fr.m) ++ fr.F)) _
           simp only [List.map_cons, HA.conc, hm2' _ _ hm, List.cons_append]
           rw [e3] at this ⊢
           exact this
       cases e2 with
       | normal => exact back .ready true none rfl rfl rfl
       | ret => exact back .ret false (some .ret) rfl rfl rfl
       | exit id => exact back (.exit id) false (some (.exit id)) rfl rfl rfl
       | goto t => cases g3
       | panic ch => cases g3
       | outgrown => cases g3
     | exit id => cases h3
     | goto t => cases h3
     | ret => cases h3
     | panic ch => cases h3
     | outgrown => cases h3
   · cases hh
 · cases hh
theorem wpIn_post {F : Fence} {N : Nat} {o : Oper} {a : Act} {w : World} {X : Act → World → Prop} {Q Q' : Exit → Act → World → Prop} (hq : ∀ e a w, Q e a w → e ≠ .normal → Q' e a w) (hh : o.wpIn F N P a w X Q) : o.wpIn F N P a w X Q' := by
 unfold Oper.wpIn at *
 refine ⟨hh.1, ?_⟩
 have hh := hh.2
 have lo : LetsOut Q → LetsOut Q' := fun ⟨a, w, h⟩ => ⟨a, w, hq _ _ _ h nofun⟩
 generalize (o.semAt F.round a.eval).run P w = r at *
 cases r with
 | ok x w' =>
   cases x <;> simp only [Oper.uponIn] at hh ⊢ <;>
     first
       | exact hh
       | exact ⟨hh.1, CallsIn.mono hh.2 (fun e w'' he => by cases e <;> first | exact he | exact hq _ _ _ he nofun | exact lo he)⟩
       | exact ⟨hh.1, RowsIn.mono hh.2 (fun _ _ he => he)⟩
       | exact ⟨hh.1, RoundIn.mono hh.2 (fun e w'' he => by cases e <;> first | exact he | exact hq _ _ _ he nofun | exact lo he)⟩
       | exact hh.elim
 | halt x w' => cases x <;> simp only [Oper.uponIn] at hh ⊢ <;> first | exact hq _ _ _ hh nofun | exact lo hh | exact hh
theorem wpListIn_app {r : Option Nat} {ops : Array Oper} {Q : Exit → Act → World → Prop} {rest : List Oper} : ∀ {l : List Oper} {a : Act} {w : World}, l.all nodf = true → wpLs P ops (fun e a w => e = .normal ∧ wpListIn (wideR r) 0 P ops Q rest a w) l a w → wpListIn (wideR r) 0 P ops Q (l ++ rest) a w
 | [], a, w, _, h => h.2
 | o :: l, a, w, hd, h => by
   simp only [List.all_cons, Bool.and_eq_true] at hd
   unfold wpLs at h
   rw [List.cons_append]
   unfold wpListIn
   split
   · rename_i hw; rw [if_pos hw] at h
     exact wpIn_post (fun e a w h hne => absurd h.1 hne) (Oper.wpIn_mono (fun a w h => wpListIn_app hd.2 h) (wpIn_of_wp hd.1 h))
   · rename_i hw; rw [if_neg hw] at h
     exact ⟨fun _ _ => trivial, wpListIn_app hd.2 h⟩
theorem relL_map {f : Operand → SV} {g : Operand → Value} (hf : ∀ x, SV.rel m K (f x) (g x)) : ∀ l : List Operand, SV.relL m K (l.map f) (l.map g)
 | [] => rfl
 | x :: l => ⟨_, _, rfl, hf x, relL_map hf l⟩
theorem yop_ok {J : Rn P} (hJ : JOk J) {o : Oper} {h : Hn P} {k : Hn P → Zt → Option R} {r : R} {ops : Array Oper} {rest : List Oper} {Q : Exit → Act → World → Prop} (hh : yop J n o h σ k = some r) (hr : Rel E fr σ m K ρ w) (hwt : Region.wanted o (yielded ops (act1 n ρ).tmps) = true)
   (hk : ∀ h' σ' m' K' ρ' w', Rel E fr σ' m' K' ρ' w' → Same σ σ' → k h' σ' = some r → wpListIn (wideR E.rd) 0 P ops Q rest (act1 n ρ') w') : wpListIn (wideR E.rd) 0 P ops Q (o :: rest) (act1 n ρ) w := by
 unfold yop at hh
 split at hh
 · rename_i d c args ats t pos af gu
   obtain ⟨l, hv, fn, tmps, ao, bo, hy, hround⟩ := yldRun_ok hJ hh hr (hr.toPur.ev n c) (relL_map (fun x => hr.toPur.evr n x) args.toList)
     (X := fun e w'' => match e with
       | .returned v => wpListIn (wideR E.rd) 0 P ops Q rest ((act1 n ρ).put (some d) v) w''
       | .panicked chain => Q (.panic chain) (act1 n ρ) w''
       | .outgrown => LetsOut Q)
     (fun h' σ' m' K' w' b h1 h2 h3 => by
       show wpListIn _ _ _ _ _ _ ((act1 n ρ).put (some d) (.bool b)) _
       rw [put_act1]
       exact hk h' _ m' K' _ w' (h1.set (d := d) (sv := .bool b) (v := .bool b) rfl) h2 h3)
   unfold wpListIn
   rw [if_pos hwt]
   refine ⟨fun _ _ => trivial, ?_⟩
   rw [semR rfl, eval_act1]
   have hrun : (execOp (Go.Proofs.Ytffmjongaodjgaa.ev n ρ.f) ⟨some d, .call ⟨.value c, args, ats⟩, t, pos, af, gu⟩).run P w = .ok (.round l fn tmps ao bo) w := by
     have e : (args.toList.map (Go.Proofs.Ytffmjongaodjgaa.ev n ρ.f)).toArray = args.map (Go.Proofs.Ytffmjongaodjgaa.ev n ρ.f) := Array.ext' (by rw [Array.toList_map])
     rw [e] at hy
     have hv' : Go.Proofs.Ytffmjongaodjgaa.ev n ρ.f c = .func (.yield l) #[] #[] := hv
     simp [execOp, resolve, Deferred.ofValue, hv', invoke, hy]
   rw [hrun, Oper.uponIn_round]
   refine ⟨fun hh => (by cases (show false = true from hh)), hround.mono (fun e w'' he => ?_)⟩
   cases e <;> exact he
 · cases hh
theorem slA_look : ∀ {vs : List SV} {us : List Value} {j i : Nat} {sv : SV}, SV.relL m K vs us → look (slA j vs) i = some sv → ∃ k u, i = j + k ∧ us[k]? = some u ∧ SV.rel m K sv u
 | [], us, j, i, sv, h, hl => by cases hl
 | v :: vs, us, j, i, sv, h, hl => by
   obtain ⟨u, q, rfl, h1, h2⟩ := relL_cons h
   change (bif Nat.beq j i then some v else look (slA (j + 1) vs) i) = some sv at hl
   cases hb : Nat.beq j i with
   | true =>
     rw [hb] at hl
     cases hl
     exact ⟨0, u, (Nat.eq_of_beq_eq_true hb).symm, rfl, h1⟩
   | false =>
     rw [hb] at hl
     obtain ⟨k, u', e1, e2, e3⟩ := slA_look (j := j + 1) h2 hl
     exact ⟨k + 1, u', by omega, by simpa using e2, e3⟩
theorem res_none {fn : Func} {tmps : Array Value} (h : fn.results.isEmpty = true) : ∃ v, (results fn tmps).run P w = .ok v w := by
 have h' : fn.results = #[] := by simpa using h
 refine ⟨.tuple #[], ?_⟩
 unfold results
 simp [h']
theorem rg_core {J : Rn P} (hJ : JOk J) {ps : Array Nat} {ao bo : Code} {h0 : Hn P} {k : Exit → Hn P → Zt → Option R} {r : R} {Q : Exit → Act → World → Prop} {q : ItFn P} {c : Code} (hc : q.fn.body = some c) {cs : List SV} {us : List Value} (hus : SV.relL m K cs us)
   (hres : q.fn.results.isEmpty = true) (hlen : cs.length + 1 ≤ q.fn.ntmps)
   (hh : J q.fn.ntmps c R h0 ⟨fun _ => .any, slA 0 (.yld σ.nx n σ.get ps ao bo :: cs), .lp σ.nx .ready :: σ.H, σ.Hf, σ.nx + 1, false⟩ (fun e h σ' =>
         bif exOver e then (match pick (HA.lpR σ.nx) σ'.H with
           | some (s, H) => LSt.go s k h ⟨σ.base, σ.top, H, σ.Hf, σ'.nx, false⟩
           | none => none) else none) = some r)
   (hr : Rel E fr σ m K ρ w) {l : Nat} {mark : List Deferred} {K1 : Hp} {w1 : World} {fn1 : FuncId} {D : Nat}
   (hs1 : Sep E K1 (LpA l { state := .ready, pending := none, fn := fn1, tmps := frm n ρ.f, params := ps, assign := ao, body := bo, defers := D } :: σ.atoms fr m) w1) (hK1 : K.le K1) (hm1 : MOk fr.k0 K1 (mark ++ ρ.ds))
   (hQ : ∀ e h' σ' m' K' ρ' w', Rel E fr σ' m' K' ρ' w' → Same σ σ' → k e h' σ' = some r → Q e (act1 n ρ') w') :
   CallsIn (wideR E.rd) 0 P q.f (#[.func (.yield l) #[] #[]] ++ us.toArray) w1 (rangePost (wideR E.rd) 0 P l Q { act1 n ρ with defers := mark ++ (act1 n ρ).defers }) := by
 obtain ⟨r1, hr1⟩ : ∃ r1 : Loop, r1 = { state := .ready, pending := none, fn := fn1, tmps := frm n ρ.f, params := ps, assign := ao, body := bo, defers := D } := ⟨_, rfl⟩
 rw [← hr1] at hs1
 obtain ⟨args, hargs⟩ : ∃ args : Array Value, args = (Value.func (.yield l) #[] #[] :: us).toArray := ⟨_, rfl⟩
 have hargs' : (#[.func (.yield l) #[] #[]] ++ us.toArray : Array Value) = args := by rw [hargs]; exact Array.ext' (by simp)
 rw [hargs']
 have hp := pre_app m [M.loop l r1]
 have hmm : ∀ (i : Nat) (x : M), m[i]? = some x → (m ++ [M.loop l r1])[i]? = some x := fun _ _ k => pre_get hp k
 have hgn : (m ++ [M.loop l r1])[σ.nx]? = some (.loop l r1) := get_new0 hr.nx
 have hsz : args.size ≤ q.fn.ntmps := by
   rw [hargs, List.size_toArray, List.length_cons, relL_len2 hus]
   exact hlen
 have hall : SV.relL (m ++ [M.loop l r1]) K1 (.yld σ.nx n σ.get ps ao bo :: cs) (Value.func (.yield l) #[] #[] :: us) :=
   ⟨_, _, rfl, ⟨l, r1, ρ.f, rfl, hgn, by rw [hr1], by rw [hr1], by rw [hr1], by rw [hr1], fun j => SV.mono hmm hK1 _ (hr.toPur.get j)⟩, SV.monoL hmm hK1 _ hus⟩
 have hrel : Rel E.out0 ⟨m ++ [M.loop l r1], K1, args1 args, fun _ => false, fr.F, K1⟩ ⟨fun _ => .any, slA 0 (.yld σ.nx n σ.get ps ao bo :: cs), .lp σ.nx .ready :: σ.H, σ.Hf, σ.nx + 1, false⟩ (m ++ [M.loop l r1]) K1 (args1 args) w1 := by
   refine ⟨⟨List.prefix_refl _, Hp.le_refl K1, by simp [hr.nx], fun e => (by cases e), fun i => trivial, fun i e => (by cases e), fun i _ => .inr rfl, fun i sv hi => ?_, fun a ha => ?_, fun a ha => HA.ok_mono hmm hK1 (hr.toPur.all a (List.mem_append_right _ ha)), MOk.nil hm1.gk (Hp.le_refl K1)⟩, ?_⟩
   · obtain ⟨j, u, e1, e2, e3⟩ := slA_look hall hi
     have : args1 args i = u := by
       show args0 args i = u
       unfold args0
       rw [e1, Nat.zero_add, hargs]
       simp [e2]
     rw [this]; exact e3
   · rcases List.mem_cons.1 ha with rfl | ha
     · exact ⟨l, r1, hgn⟩
     · exact HA.ok_mono hmm hK1 (hr.okH a ha)
   · show Sep E.out0 K1 ((HA.lp σ.nx .ready :: σ.H).map (HA.conc (m ++ [M.loop l r1])) ++ (σ.Hf.map (HA.conc (m ++ [M.loop l r1])) ++ fr.F)) w1
     have e1 : σ.H.map (HA.conc (m ++ [M.loop l r1])) = σ.H.map (HA.conc m) := map_conc_mono (K := K) hmm hr.okH
     have e2 : σ.Hf.map (HA.conc (m ++ [M.loop l r1])) = σ.Hf.map (HA.conc fr.m) := (map_conc_mono (K := K) hmm (fun a ha => hr.toPur.all a (List.mem_append_right _ ha))).trans hr.toPur.fz'
     rw [List.map_cons, e1, e2]
     have e3 : HA.conc (m ++ [M.loop l r1]) (.lp σ.nx .ready) = LpA l r1 := by
       simp only [HA.conc, hgn]
       rw [hr1]; rfl
     rw [e3]
     exact hs1.out0
 have key : CallsIn Fence.wide 0 P q.f args w1 (rangePost (wideR E.rd) 0 P l Q { act1 n ρ with defers := mark ++ (act1 n ρ).defers }) := by
   refine callsIn_of_wp_marks (F := Fence.wide) (n := 0) q.at_ hc trivial ?_
   rw [frm_args hsz]
   refine hJ q.fn.ntmps c R E.out0 ⟨m ++ [M.loop l r1], K1, args1 args, fun _ => false, fr.F, K1⟩ (fun l2 e => by cases e) h0 _ _ r _ K1 (args1 args) w1 _ hh hrel (fun e h' σ' m' K' ρ' w' h1 h2 h3 => ?_)
   replace h3 := bift h3; obtain ⟨hov, h3⟩ := h3
   have fini : LeavesInM Fence.wide 0 P q.fn (act1 q.fn.ntmps ρ').tmps (rangePost (wideR E.rd) 0 P l Q { act1 n ρ with defers := mark ++ (act1 n ρ).defers }) ρ'.ds .returning w' := by
     split at h3
     · rename_i s H hq
       obtain ⟨a, ha', hmem, hperm⟩ := pick_spec hq
       obtain rfl := lpR_eq ha'
       have hsub : ∀ a ∈ H, a ∈ σ'.H := fun a ha => hperm.symm.subset (List.mem_cons_of_mem _ ha)
       refine marks_leave ρ'.ds h1.mks h1.toSep (fun K2 w2 c1 c2 c3 => ?_)
       obtain ⟨v, hv⟩ := res_none (P := P) (w := w2) (tmps := (act1 q.fn.ntmps ρ').tmps) hres
       refine ⟨v, hv, ?_⟩
       have g := h1.unmark c1 c2 c2 c3
       have hmp : m ++ [M.loop l r1] <+: m' := g.hm
       have hgn' : m'[σ.nx]? = some (.loop l r1) := pre_get hmp hgn
       have hm2 : m <+: m' := hp.trans hmp
       have hm2' : ∀ (i : Nat) (x : M), m[i]? = some x → m'[i]? = some x := fun _ _ k => pre_get hm2 k
       have e2 : σ'.Hf.map (HA.conc (m ++ [M.loop l r1])) = σ.Hf.map (HA.conc fr.m) := by
         rw [h2.2]
         exact (map_conc_mono (K := K) hmm (fun a ha => hr.toPur.all a (List.mem_append_right _ ha))).trans hr.toPur.fz'
       have hs3 : Sep E K2 (LpA l (s.cr r1) :: (H.map (HA.conc m') ++ (σ.Hf.map (HA.conc fr.m) ++ fr.F))) w2 := by
         have := Sep.perm ((hperm.map (HA.conc m')).append_right (σ'.Hf.map (HA.conc (m ++ [M.loop l r1])) ++ fr.F)) c3.back
         rw [e2] at this
         simpa only [List.map_cons, HA.conc, hgn', List.cons_append] using this
       have hnb : (s.cr r1).state ≠ .busy := by cases s <;> simp [LSt.cr]
       refine ⟨_, _, run_endLoop (LpA.at hs3) hnb, ?_⟩
       have hs4 := (LpA.put (r' := { s.cr r1 with state := .exhausted }) hs3).drop
       have hKK : K.le K2 := hK1.trans c2
       have hrel4 : Rel E fr ⟨σ.base, σ.top, H, σ.Hf, σ'.nx, false⟩ m' K2 ⟨ρ.f, mark ++ ρ.ds⟩ (w2.putObj l (.loop { s.cr r1 with state := .exhausted })) :=
         ⟨⟨hr.hm.trans hm2, hr.hK.trans hKK, g.nx, fun e => (by cases e), hr.base, hr.dead, hr.old, fun i sv hi => SV.mono hm2' hKK sv (hr.top i sv hi), fun a ha => g.okH a (hsub a ha), hr.okF, hm1.mono c2⟩, hs4⟩
       cases s with
       | ready => exact hQ .normal h' _ m' K2 ⟨ρ.f, mark ++ ρ.ds⟩ _ hrel4 ⟨rfl, rfl⟩ h3
       | ret => exact wpIn_ret (hQ .ret h' _ m' K2 ⟨ρ.f, mark ++ ρ.ds⟩ _ hrel4 ⟨rfl, rfl⟩ h3)
       | exit id => exact wpIn_exit (hQ (.exit id) h' _ m' K2 ⟨ρ.f, mark ++ ρ.ds⟩ _ hrel4 ⟨rfl, rfl⟩ h3)
     · cases h3
   cases e with
   | normal => exact fini
   | ret => exact fini
   | exit id => cases hov
   | goto t => cases hov
   | panic ch => cases hov
   | outgrown => cases hov
 exact key
theorem rgRun_ok {J : Rn P} (hJ : JOk J) (hrd : RdOk E fr) {g : Operand} {ps : Array Nat} {ao bo : Code} {h : Hn P} {k : Exit → Hn P → Zt → Option R} {r : R} {Q : Exit → Act → World → Prop} (hh : rgRun J n g ps ao bo h σ k = some r) (hr : Rel E fr σ m K ρ w)
   (hQ : ∀ e h' σ' m' K' ρ' w', Rel E fr σ' m' K' ρ' w' → Same σ σ' → k e h' σ' = some r → Q e (act1 n ρ') w') : (Code.rangeFunc g ps ao bo).wpIn (wideR E.rd) 0 P Q (act1 n ρ) w := by
 unfold rgRun at hh
 split at hh
 · rename_i q h0
   split at hh
   · rename_i f cs e
     split at hh
     · rename_i c hc
       replace hh := bift hh; obtain ⟨hb, hh⟩ := hh
       simp only [Bool.and_eq_true] at hb
       obtain ⟨hb1, hb2, hb3⟩ := hb
       obtain rfl := Nat.eq_of_beq_eq_true hb1
       have hv := hr.toPur.ev n g
       rw [e] at hv
       obtain ⟨us, hv, hus⟩ := hv
       refine wpIn_rangeFunc (fun fn hfn => ?_)
       have tail : ∀ {l : Nat} {mark : List Deferred} {K1 : Hp} {w1 : World} {D : Nat}, (Instr.enterLoop fn (act1 n ρ).tmps ps ao bo E.rd).run P w = .ok (l, mark) w1 →
           Sep E K1 (LpA l { state := .ready, pending := none, fn := fn, tmps := frm n ρ.f, params := ps, assign := ao, body := bo, defers := D } :: σ.atoms fr m) w1 → K.le K1 → MOk fr.k0 K1 (mark ++ ρ.ds) →
           ∃ (l : Nat) (mark : List Deferred) (w₁ : World) (d : Deferred) (w₁' : World) (f : FuncId) (args : Array Value) (w₂ : World),
             (Instr.enterLoop fn (act1 n ρ).tmps ps ao bo (wideR E.rd).round).run P w = .ok (l, mark) w₁ ∧
             (resolve (act1 n ρ).eval (rangeCall g l) 0).run P w₁ = .ok d w₁' ∧
             (∀ f', Target.leads P w₁' d.target d.args = some f' → (wideR E.rd).fn f') ∧
             (invoke d.target d.args).run P w₁' = .ok (.enter f args) w₂ ∧
             ((wideR E.rd).depth.isSome = true → 1 ≤ 0) ∧
             CallsIn (wideR E.rd) (0 - 1) P f args w₂ (rangePost (wideR E.rd) 0 P l Q { act1 n ρ with defers := mark ++ (act1 n ρ).defers }) := fun {l mark K1 w1 D} he hs1 hK1 hm1 => by
         refine ⟨l, mark, w1, { target := .fn (.func q.f) us.toArray, args := #[.func (.yield l) #[] #[]] }, w1, q.f, #[.func (.yield l) #[] #[]] ++ us.toArray, w1, he, ?_, fun _ _ => trivial, ?_, fun hh => (by cases (show false = true from hh)), ?_⟩
         · have hv' : Go.Proofs.Ytffmjongaodjgaa.ev n ρ.f g = .func (.func q.f) #[] us.toArray := hv
           rw [eval_act1]
           have hc2 : Go.Proofs.Ytffmjongaodjgaa.ev n ρ.f (.const (.func (.yield l) #[] #[])) = .func (.yield l) #[] #[] := rfl
           simp [resolve, Deferred.ofValue, hv', hc2]
         · exact q.ent _ _
         · exact rg_core hJ hc hus hb2 (Nat.le_of_ble_eq_true hb3) hh hr hs1 hK1 hm1 hQ
       cases hE : E.rd with
       | none =>
         rw [hE] at tail
         obtain ⟨s1, hD⟩ := (hr.toSep.allocO (.deferred (some []))).known
         have s2 := s1.allocO (.loop { state := .ready, pending := none, fn := fn, tmps := frm n ρ.f, params := ps, assign := ao, body := bo, defers := w.heap.size })
         rw [World.size_alloc] at s2
         refine tail (run_enterLoop_outer fn _ ps ao bo) s2 (Hp.le_join _ _) ⟨⟨hr.mks.1.1, hr.mks.1.2.trans (Hp.le_join _ _)⟩, fun d hd => ?_, ?_⟩
         · rcases List.mem_append.1 hd with hd | hd
           · simp only [List.mem_singleton] at hd
             subst hd
             refine ⟨w.heap.size, rfl, Hp.join_right (one_of _ _) hD, ?_⟩
             cases hk0 : fr.k0 w.heap.size with
             | none => rfl
             | some x => rw [hr.mks.1.2 _ _ hk0] at hD; cases hD
           · obtain ⟨D', e1, e2, e3⟩ := hr.mks.2.1 d hd
             exact ⟨D', e1, Hp.le_join _ _ _ _ e2, e3⟩
         · refine List.nodup_cons.2 ⟨fun hd => ?_, hr.mks.2.2⟩
           obtain ⟨D', e1, e2, e3⟩ := hr.mks.2.1 _ hd
           simp only [Deferred.mk.injEq, Target.collected.injEq, and_true] at e1
           rw [← e1, hD] at e2
           cases e2
       | some l0 =>
         rw [hE] at tail
         obtain ⟨r0, hmem⟩ := hrd l0 hE
         have hw0 : w.heap[l0]? = some (.loop r0) := by
           obtain ⟨i, hi⟩ := List.getElem?_of_mem (show LpA l0 r0 ∈ σ.atoms fr m from List.mem_append_right _ (List.mem_append_right _ hmem))
           exact LpA.at (Sep.front i hi hr.toSep)
         exact tail (enter_inner hw0 fn _ ps ao bo) (hr.toSep.allocO _) (Hp.le_refl K) (by simpa using hr.mks)
     · cases hh
   · cases hh
 · cases hh
end
end
section
variable [BldA]
section
variable {R : Type} {P : Program} {E : En} {n : Nat} {m m' : List M} {K K' : Hp} {fr : Frz} {σ σ' : Zt} {ρ ρ' : Sl1} {w w' : World}
theorem joinN_ok {c : Code} {f : Hn P → Zt → (R : Type) → (Exit → Hn P → Zt → Option R) → Option R} (hf : Fok P n c f) (hrd : RdOk E fr) {s : Sh} {act W : List Nat} {a b : Hn P} {k : Hn P → Zt → Option R} {r : R} {Q : Exit → Act → World → Prop} (h : joinN f s act W a b σ k = some r) (hr : Rel E fr σ m K ρ w)
   (hQ : ∀ h' σ' m' K' ρ' w', Rel E fr σ' m' K' ρ' w' → Same σ σ' → k h' σ' = some r → Q .normal (Go.Proofs.Ytffmjongaodjgaa.act1 n ρ') w') : c.wpIn (wideR E.rd) 0 P Q (Go.Proofs.Ytffmjongaodjgaa.act1 n ρ) w := by
 unfold joinN at h
 obtain ⟨x, hx, h⟩ := ob h
 refine hf _ E ⟨m, K, ρ, fun _ => false, fr.F, fr.k0⟩ hrd a (σ.frz act) _ x m K ρ w Q hx (hr.frz act) (fun e h' σ' m' K' ρ' w' h1 h2 h3 => ?_)
 cases e with
 | normal =>
   obtain ⟨h'', σ2, m2, K2, g1, g2, g3⟩ := prep_ok h' h3 h1
   have hi : Inn σ fr ⟨m, K, ρ, fun _ => false, fr.F, fr.k0⟩ m K ρ (minus σ.H act) σ2 W := ⟨rfl, rfl, rfl, rfl, rfl, (g2.2.trans h2.2), minus_sub, fun _ _ => rfl⟩
   obtain ⟨σ3, m3, q1, q2, q3⟩ := lay_ok hr hi g3 g1 h
   exact hQ b σ3 m3 K2 ρ' w' q3 q2 q1
 | _ => cases h3
theorem joinX_ok {c : Code} {f : Hn P → Zt → (R : Type) → (Exit → Hn P → Zt → Option R) → Option R} (hf : Fok P n c f) (hrd : RdOk E fr) {s : Sh} {act W : List Nat} {a b : Hn P} {k : Exit → Hn P → Zt → Option R} {r : R} {Q : Exit → Act → World → Prop} (h : joinX f s act W a b σ k = some r) (hr : Rel E fr σ m K ρ w)
   (hQ : ∀ e h' σ' m' K' ρ' w', Rel E fr σ' m' K' ρ' w' → Same σ σ' → k e h' σ' = some r → Q e (Go.Proofs.Ytffmjongaodjgaa.act1 n ρ') w') : c.wpIn (wideR E.rd) 0 P Q (Go.Proofs.Ytffmjongaodjgaa.act1 n ρ) w := by
 unfold joinX at h
 obtain ⟨o, ho, h⟩ := ob h
 refine hf _ E ⟨m, K, ρ, fun _ => false, fr.F, fr.k0⟩ hrd a (σ.frz act) _ o m K ρ w Q ho (hr.frz act) (fun e h' σ' m' K' ρ' w' h1 h2 h3 => ?_)
 have other : (k e h' (σ.thaw σ' (minus σ.H act) [])).map Sum.inr = some o → Q e (Go.Proofs.Ytffmjongaodjgaa.act1 n ρ') w' := fun h3 => by
   rw [Option.map_eq_some_iff] at h3
   obtain ⟨r', h4, rfl⟩ := h3
   cases h
   have hi : Inn σ fr ⟨m, K, ρ, fun _ => false, fr.F, fr.k0⟩ m K ρ (minus σ.H act) σ' [] := ⟨rfl, rfl, rfl, rfl, rfl, h2.2, minus_sub, fun _ _ => rfl⟩
   obtain ⟨q1, q2⟩ := thaw_ok hr hi h1
   exact hQ e h' _ m' K' ρ' w' q2 q1 h4
 cases e with
 | normal =>
   obtain ⟨h'', σ2, m2, K2, g1, g2, g3⟩ := prep_ok h' h3 h1
   rw [Option.map_eq_some_iff] at g1
   obtain ⟨x, g1, rfl⟩ := g1
   have hi : Inn σ fr ⟨m, K, ρ, fun _ => false, fr.F, fr.k0⟩ m K ρ (minus σ.H act) σ2 W := ⟨rfl, rfl, rfl, rfl, rfl, (g2.2.trans h2.2), minus_sub, fun _ _ => rfl⟩
   obtain ⟨σ3, m3, q1, q2, q3⟩ := lay_ok hr hi g3 g1 h
   exact hQ .normal b σ3 m3 K2 ρ' w' q3 q2 q1
 | _ => exact other h3
theorem head_ok {s : Sh} {W : List Nat} {rest : List HA} {x : TL s.ts} (hr : Rel E fr σ m K ρ w) {g : Gt} {f : Nat → SV} {H : List HA} {us : List Atom}
   (hg : s.get f H = some g) (hx : TL.of s.ts g.ds = some x) (hok : ∀ a ∈ H, HA.ok m' K' a) (hf : ∀ i, SV.rel m' K' (f i) (ρ' i)) (hmm : m <+: m') (hKK : K.le K') (hrest : ∀ a ∈ rest, a ∈ σ.H) (hs : Sep E K' (H.map (HA.conc m') ++ (us ++ (rest.map (HA.conc m) ++ σ.fz fr))) w')
   (hds : MOk fr.k0 K' ρ'.ds) (hold : ∀ i, i ∉ W → ρ' i = ρ i) {vs : List (Nat × SV)} {u : Un} (hu : s.un (TL.list s.ts x) σ.nx = some (vs, u)) :
   ∃ m'', Rel E ⟨m, K, ρ, fun i => W.contains i, fr.F, fr.k0⟩ ⟨fun i => bif W.contains i then .any else σ.get i, subT (fillF σ) vs, u.H.map (HA.sub (fillF σ)), rest ++ σ.Hf, u.nx, false⟩ m'' K' ρ' w' := by
 rw [TL.of_list hx] at hu
 have hoo : oldOk s.bl m.length = true := by
   unfold Sh.un at hu
   rw [hr.nx]
   cases ho : oldOk s.bl σ.nx with
   | true => rfl
   | false => rw [ho] at hu; cases hu
 obtain ⟨vs', u', ms, e1, e2, e3, e4, e5, e6, e7, e8⟩ := Sh.get_un hg hok hmm hoo
 rw [hr.nx, hu] at e1
 cases e1
 have hp' := pre_app m ms
 refine ⟨m ++ ms, Rel.subs (σ := ⟨fun i => bif W.contains i then .any else σ.get i, vs, u.H, rest ++ σ.Hf, u.nx, false⟩) (fillF_rel hr.toPur (m' := m ++ ms) (fun _ _ k => pre_get hp' k) hKK) ⟨⟨pre_app m ms, hKK, e2, fun e => (by cases e), fun i => ?_, fun i hi => ?_, fun i hi => ?_, fun i sv hi => slC_look e3 hi _ (hf i), e4, fun a ha => ?_, hds⟩, ?_⟩⟩
 · show SV.rel m K (bif W.contains i then .any else σ.get i) (ρ i)
   cases W.contains i with
   | true => exact trivial
   | false => exact hr.toPur.get i
 · show (bif W.contains i then SV.any else σ.get i) = .any
   have hi : W.contains i = true := hi
   rw [hi]; rfl
 · by_cases hW : i ∈ W
   · exact .inl (by simpa using hW)
   · exact .inr (hold i hW)
 · refine hr.toPur.all a ?_
   rcases List.mem_append.1 ha with ha | ha
   · exact List.mem_append_left _ (hrest a ha)
   · exact List.mem_append_right _ ha
 · have s1 := e6 E _ w' hs
   have s2 : Sep E K' ((g.H.map (HA.conc m') ++ us) ++ (u.H.map (HA.conc (m ++ ms)) ++ (rest.map (HA.conc m) ++ σ.fz fr))) w' := Sep.perm (by
     rw [List.append_assoc]
     refine (perm3 _ _ _).trans (List.Perm.append_left _ (perm3 _ _ _)) ) s1
   show Sep E K' (u.H.map (HA.conc (m ++ ms)) ++ ((rest ++ σ.Hf).map (HA.conc m) ++ fr.F)) w'
   rw [List.map_append, hr.toPur.fz', List.append_assoc]
   exact Sep.drops s2
theorem get_oldOk {s : Sh} {ds : List Dat} {nx : Nat} {o : List (Nat × SV) × Un} (h : s.un ds nx = some o) : oldOk s.bl nx = true := by
 unfold Sh.un at h
 cases ho : oldOk s.bl nx with
 | true => rfl
 | false => rw [ho] at h; cases h
theorem lpRun_ok {c : Code} {f : Hn P → Zt → (R : Type) → (Exit → Hn P → Zt → Option R) → Option R} (hf : Fok P n c f) (hrd : RdOk E fr) {s : Sh} {W : List Nat} {a : Hn P} {k : Exit → Hn P → Zt → Option R} {r : R} {Q : Exit → Act → World → Prop} (h : lpRun f s W a σ k = some r) (hr : Rel E fr σ m K ρ w)
   (hQ : ∀ e h' σ' m' K' ρ' w', Rel E fr σ' m' K' ρ' w' → Same σ σ' → k e h' σ' = some r → Q e (Go.Proofs.Ytffmjongaodjgaa.act1 n ρ') w') : (Code.loop c).wpIn (wideR E.rd) 0 P Q (Go.Proofs.Ytffmjongaodjgaa.act1 n ρ) w := by
 unfold lpRun at h
 split at h
 · rename_i g hg
   split at h
   · rename_i x0 hx0
     obtain ⟨N, hN⟩ := loop_iter h
     refine wpIn_loop_rounds N ?_
     -- a round's head
     have round : ∀ (N : Nat) (x : TL s.ts) (m1 : List M) (K1 : Hp) (ρ1 : Sl1) (w1 : World) (vs : List (Nat × SV)) (u : Un), iter (lpRound f s W g a σ k) N x = some r → s.un (TL.list s.ts x) σ.nx = some (vs, u) →
         Rel E ⟨m, K, ρ, fun i => W.contains i, fr.F, fr.k0⟩ ⟨fun i => bif W.contains i then .any else σ.get i, subT (fillF σ) vs, u.H.map (HA.sub (fillF σ)), g.H ++ σ.Hf, u.nx, false⟩ m1 K1 ρ1 w1 → Code.roundsIn (wideR E.rd) 0 P c Q N (Go.Proofs.Ytffmjongaodjgaa.act1 n ρ1) w1 := by
       intro N
       induction N with
       | zero => intro x m1 K1 ρ1 w1 vs u hi; cases hi
       | succ N ih =>
         intro x m1 K1 ρ1 w1 vs u hi hu hrel
         unfold iter at hi
         obtain ⟨o, ho, hi⟩ := ob hi
         rw [roundsIn_succ]
         unfold lpRound at ho
         rw [hu] at ho
         simp only at ho
         have hgsub : ∀ a ∈ g.H, a ∈ σ.H := by
           obtain ⟨_, _, _, _, _, _, _, e5, _⟩ := Sh.get_un (m := m) (K := K) hg hr.okH (List.prefix_refl m) (by rw [hr.nx]; exact get_oldOk hu)
           exact e5
         refine hf _ E ⟨m, K, ρ, fun i => W.contains i, fr.F, fr.k0⟩ hrd a _ _ o m1 K1 ρ1 w1 _ ho hrel (fun e h' σ' m' K' ρ' w' h1 h2 h3 => ?_)
         have other : e ≠ .normal → (k e h' (σ.thaw σ' g.H W)).map Sum.inr = some o → Q e (Go.Proofs.Ytffmjongaodjgaa.act1 n ρ') w' := fun _ h3 => by
           rw [Option.map_eq_some_iff] at h3
           obtain ⟨r', h4, rfl⟩ := h3
           cases hi
           have hii : Inn σ fr ⟨m, K, ρ, fun i => W.contains i, fr.F, fr.k0⟩ m K ρ g.H σ' W := ⟨rfl, rfl, rfl, rfl, rfl, h2.2, hgsub, fun i hi => by simpa using hi⟩
           obtain ⟨q1, q2⟩ := thaw_ok hr hii h1
           exact hQ e h' _ m' K' ρ' w' q2 q1 h4
         cases e with
         | normal =>
           obtain ⟨h'', σ2, m2, K2, g1, g2, g3⟩ := prep_ok h' h3 h1
           rw [Option.map_eq_some_iff] at g1
           obtain ⟨x', g1, rfl⟩ := g1
           have hsame := h2.trans g2
           unfold Zt.pack at g1
           replace g1 := bift g1; obtain ⟨hk, g1⟩ := g1
           split at g1
           · rename_i g' hg'
             cases hu' : s.un (TL.list s.ts x') σ.nx with
             | none =>
               -- the next round would not run
               cases N with
               | zero => cases hi
               | succ N =>
                 unfold iter at hi
                 obtain ⟨o2, ho2, _⟩ := ob hi
                 unfold lpRound at ho2
                 rw [hu'] at ho2
                 cases ho2
             | some q =>
               obtain ⟨vs', u'⟩ := q
               have hii : Inn σ fr ⟨m, K, ρ, fun i => W.contains i, fr.F, fr.k0⟩ m K ρ g.H σ2 W := ⟨rfl, rfl, rfl, rfl, rfl, hsame.2, hgsub, fun i hi => by simpa using hi⟩
               obtain ⟨m'', hrel'⟩ := head_ok (W := W) (rest := g.H) (us := []) hr hg' g1 g3.okH g3.toPur.get g3.hm g3.hK hgsub (by rw [List.nil_append]; exact hii.sep hr g3) g3.mks (fun i hi => by
                 have := g3.old i (keysIn_spec hk hi)
                 rcases this with h4 | h4
                 · exact absurd (by simpa using h4) hi
                 · exact h4) hu'
               exact ih x' m'' K2 ρ' w' vs' u' hi hu' hrel'
           · cases g1
         | exit i => exact other nofun h3
         | goto l => exact other nofun h3
         | ret => exact other nofun h3
         | panic c => exact other nofun h3
         | outgrown => exact other nofun h3
     cases hu : s.un (TL.list s.ts x0) σ.nx with
     | none =>
       cases N with
       | zero => cases hN
       | succ N =>
         unfold iter at hN
         obtain ⟨o2, ho2, _⟩ := ob hN
         unfold lpRound at ho2
         rw [hu] at ho2
         cases ho2
     | some q =>
       obtain ⟨vs, u⟩ := q
       have hu2 := hu
       rw [TL.of_list hx0] at hu2
       obtain ⟨vs', u', ms, e1, e2, e3, e4, e5, e6, e7, e8⟩ := Sh.get_un (m := m) (K := K) hg hr.okH (List.prefix_refl m) (by rw [hr.nx]; exact get_oldOk hu2)
       rw [hr.nx, hu2] at e1
       cases e1
       have hp' := pre_app m ms
       refine round N x0 (m ++ ms) K ρ w vs u hN hu (Rel.subs (σ := ⟨fun i => bif W.contains i then .any else σ.get i, vs, u.H, g.H ++ σ.Hf, u.nx, false⟩) (fillF_rel hr.toPur (m' := m ++ ms) (fun _ _ k => pre_get hp' k) (Hp.le_refl K)) ⟨⟨pre_app m ms, Hp.le_refl K, e2, fun e => (by cases e), fun i => ?_, fun i hi => ?_, fun i hi => .inr rfl, fun i sv hi => slC_look e3 hi _ (hr.toPur.get i), e4, fun a ha => ?_, hr.mks⟩, ?_⟩)
       · show SV.rel m K (bif W.contains i then .any else σ.get i) (ρ i)
         cases W.contains i with
         | true => exact trivial
         | false => exact hr.toPur.get i
       · show (bif W.contains i then SV.any else σ.get i) = .any
         have hi : W.contains i = true := hi
         rw [hi]; rfl
       · refine hr.toPur.all a ?_
         rcases List.mem_append.1 ha with ha | ha
         · exact List.mem_append_left _ (e5 a ha)
         · exact List.mem_append_right _ ha
       · have s1 := e6 E _ w hr.toSep
         show Sep E K (u.H.map (HA.conc (m ++ ms)) ++ ((g.H ++ σ.Hf).map (HA.conc m) ++ fr.F)) w
         rw [List.map_append, hr.toPur.fz', List.append_assoc]
         exact s1
   · cases h
 · cases h
theorem unroll_ok {c : Code} {f : Hn P → Zt → (R : Type) → (Exit → Hn P → Zt → Option R) → Option R} (hf : Fok P n c f) (hrd : RdOk E fr) {k : Exit → Hn P → Zt → Option R} {r : R} {Q : Exit → Act → World → Prop}
   (hQ : ∀ e h' σ' m' K' ρ' w', Rel E fr σ' m' K' ρ' w' → Same σ σ' → k e h' σ' = some r → Q e (Go.Proofs.Ytffmjongaodjgaa.act1 n ρ') w') : ∀ (N : Nat) {h : Hn P} {σ1 : Zt} {m : List M} {K : Hp} {ρ : Sl1} {w : World}, unroll (fun h σ k => f h σ _ k) k N h σ1 = some r → Rel E fr σ1 m K ρ w → Same σ σ1 → Code.roundsIn (wideR E.rd) 0 P c Q N (Go.Proofs.Ytffmjongaodjgaa.act1 n ρ) w
 | 0, h, σ1, m, K, ρ, w, hh, hr, hs => by cases hh
 | N + 1, h, σ1, m, K, ρ, w, hh, hr, hs => by
   rw [roundsIn_succ]
   unfold unroll at hh
   refine hf _ E fr hrd h σ1 _ r m K ρ w _ hh hr (fun e h' σ' m' K' ρ' w' h1 h2 h3 => ?_)
   cases e with
   | normal => exact unroll_ok hf hrd hQ N h3 h1 (hs.trans h2)
   | exit i => exact hQ _ h' σ' m' K' ρ' w' h1 (hs.trans h2) h3
   | goto i => exact hQ _ h' σ' m' K' ρ' w' h1 (hs.trans h2) h3
   | ret => exact hQ _ h' σ' m' K' ρ' w' h1 (hs.trans h2) h3
   | panic i => exact hQ _ h' σ' m' K' ρ' w' h1 (hs.trans h2) h3
   | outgrown => exact hQ _ h' σ' m' K' ρ' w' h1 (hs.trans h2) h3
theorem onNorm_ok {y : Code} {k : Exit → Hn P → Zt → Option R} {f : Hn P → Zt → Option R} {r : R} {Q : Exit → Act → World → Prop} {σ0 : Zt} (hf : ∀ h' σ' m' K' ρ' w', Rel E fr σ' m' K' ρ' w' → Same σ0 σ' → f h' σ' = some r → y.wpIn (wideR E.rd) 0 P Q (Go.Proofs.Ytffmjongaodjgaa.act1 n ρ') w')
   (hQ : ∀ e h' σ' m' K' ρ' w', Rel E fr σ' m' K' ρ' w' → Same σ0 σ' → k e h' σ' = some r → Q e (Go.Proofs.Ytffmjongaodjgaa.act1 n ρ') w') : ∀ e h' σ' m' K' ρ' w', Rel E fr σ' m' K' ρ' w' → Same σ0 σ' → onNorm k f e h' σ' = some r → Exit.then (y.wpIn (wideR E.rd) 0 P Q) Q e (Go.Proofs.Ytffmjongaodjgaa.act1 n ρ') w' := by
 intro e h' σ' m' K' ρ' w' h1 h2 h3
 cases e with
 | normal => exact hf h' σ' m' K' ρ' w' h1 h2 h3
 | exit i => exact hQ _ h' σ' m' K' ρ' w' h1 h2 h3
 | goto i => exact hQ _ h' σ' m' K' ρ' w' h1 h2 h3
 | ret => exact hQ _ h' σ' m' K' ρ' w' h1 h2 h3
 | panic i => exact hQ _ h' σ' m' K' ρ' w' h1 h2 h3
 | outgrown => exact hQ _ h' σ' m' K' ρ' w' h1 h2 h3
theorem Sep.at_out {L : List Atom} {E : En} {K : Hp} {w : World} (h : Sep E K L w) : Sep E K L w := h
theorem exec_ok {J : Rn P} (hJ : JOk J) : ∀ (c : Code), Fok P n c (fun h σ R k => exec J n c h σ k)
 | .skip => fun R E fr hrd h σ k r m K ρ w Q hh hr hQ => wpIn_skip (hQ _ h σ m K ρ w hr Same.rfl' hh)
 | .ret => fun R E fr hrd h σ k r m K ρ w Q hh hr hQ => wpIn_ret (hQ _ h σ m K ρ w hr Same.rfl' hh)
 | .exit id => fun R E fr hrd h σ k r m K ρ w Q hh hr hQ => wpIn_exit (hQ _ h σ m K ρ w hr Same.rfl' hh)
 | .label l => fun R E fr hrd h σ k r m K ρ w Q hh hr hQ => wpIn_label (hQ _ h σ m K ρ w hr Same.rfl' hh)
 | .scope b => fun R E fr hrd h σ k r m K ρ w Q hh hr hQ => by
   refine wpIn_scope_straight (exec_ok hJ b R E fr hrd h σ _ r m K ρ w _ (show exec J n b h σ (onScope k) = some r from hh) hr (fun e h' σ' m' K' ρ' w' h1 h2 h3 => ?_))
   cases e with
   | goto l => cases h3
   | normal => exact hQ _ h' σ' m' K' ρ' w' h1 h2 h3
   | exit i => exact hQ _ h' σ' m' K' ρ' w' h1 h2 h3
   | ret => exact hQ _ h' σ' m' K' ρ' w' h1 h2 h3
   | panic i => exact hQ _ h' σ' m' K' ρ' w' h1 h2 h3
   | outgrown => exact hQ _ h' σ' m' K' ρ' w' h1 h2 h3
 | .region id ops draw => fun R E fr hrd h σ k r m K ρ w Q hh hr hQ => by
   change (bif !ops.toList.all nodf then none else bif draw then prep h σ fun h σ => preO n ops.toList h σ fun h σ => (match h with | .mix plan fin tail act r => mixS n ops plan fin tail act r σ (k .normal) | .tr t s act a b => trS n ops t s act a b σ (k .normal) | _ => none) else prep h σ fun h σ => yreg J n ops h σ (k .normal)) = some r at hh
   replace hh := biff hh; obtain ⟨hn, hh⟩ := hh
   have hn : ops.toList.all nodf = true := by simpa using hn
   cases draw with
   | false =>
     simp only [cond_false] at hh
     obtain ⟨h1, σ1, m1, K1, hh, g1, hr⟩ := prep_ok h hh hr
     replace hQ : ∀ e h' σ' m' K' ρ' w', Rel E fr σ' m' K' ρ' w' → Same σ1 σ' → k e h' σ' = some r → Q e (act1 n ρ') w' := fun e h' σ' m' K' ρ' w' q1 q2 q3 => hQ e h' σ' m' K' ρ' w' q1 (g1.trans q2) q3
     clear g1
     unfold yreg at hh
     split at hh
     · rename_i q h2
       have key : wpListIn (wideR E.rd) 0 P ops Q (ops.toList.take q ++ ops.toList.drop q) (act1 n ρ) w := by
         have hn1 : (ops.toList.take q).all nodf = true := List.all_eq_true.2 (fun x hx => List.all_eq_true.1 hn x (List.mem_of_mem_take hx))
         have hn2 : (ops.toList.drop q).all nodf = true := List.all_eq_true.2 (fun x hx => List.all_eq_true.1 hn x (List.mem_of_mem_drop hx))
         refine wpListIn_app hn1 ?_
         have := runL_ok (ops := ops) (Q := fun e a w => e = .normal ∧ wpListIn (wideR E.rd) 0 P ops Q (ops.toList.drop q) a w) (ops.toList.take q) 0 hh hr (fun h' σ' m' K' ρ' w' h1 h2 h3 => ?_)
         · simpa using this
         · refine ⟨rfl, ?_⟩
           split at h3
           · rename_i o rest hd
             rw [hd] at hn2 ⊢
             simp only [List.all_cons, Bool.and_eq_true] at hn2
             obtain ⟨dst, op, t, pos, af, gu⟩ := o
             obtain ⟨h4, σ4, s4, hr4, hg⟩ := gate_ok h3 h1
             rcases hg with ⟨hw, hg⟩ | ⟨hw, hg⟩
             · refine yop_ok hJ hg hr4 hw (fun h'' σ'' m'' K'' ρ'' w'' g1 g2 g3 => ?_)
               have := runL_ok (ops := ops) (Q := Q) rest 0 g3 g1 (fun h3 σ3 m3 K3 ρ3 w3 b1 b2 b3 => hQ _ h3 σ3 m3 K3 ρ3 w3 b1 (((h2.trans s4).trans g2).trans b2) b3)
               exact wpListIn_of hn2.2 (by simpa using this)
             · unfold wpListIn
               rw [if_neg (by rw [hw]; exact Bool.false_ne_true)]
               refine ⟨fun _ _ => trivial, ?_⟩
               cases dst with
               | none =>
                 have := runL_ok (ops := ops) (Q := Q) rest 0 hg hr4 (fun h3 σ3 m3 K3 ρ3 w3 b1 b2 b3 => hQ _ h3 σ3 m3 K3 ρ3 w3 b1 ((h2.trans s4).trans b2) b3)
                 exact wpListIn_of hn2.2 (by rw [List.drop_zero] at this; exact this)
               | some d =>
                 show wpListIn _ _ _ _ _ _ ((act1 n ρ').put (some d) undef) _
                 rw [put_act1]
                 have := runL_ok (ops := ops) (Q := Q) rest 0 hg (hr4.set (d := d) (sv := .raw undef) (v := undef) rfl) (fun h3 σ3 m3 K3 ρ3 w3 b1 b2 b3 => hQ _ h3 σ3 m3 K3 ρ3 w3 b1 (((h2.trans s4).trans ⟨rfl, rfl⟩).trans b2) b3)
                 exact wpListIn_of hn2.2 (by simpa using this)
           · cases h3
       rw [List.take_append_drop] at key
       have := wpIn_region_lit (id := id) (l := ops.toList) (by simpa using key)
       simpa using this
     · have := wpIn_region_lit (id := id) (wpListIn_of (r := E.rd) (n := 0) hn (runL_ok (Q := Q) (ops := ops.toList.toArray) ops.toList 0 (by simpa using hh) hr (fun h' σ' m' K' ρ' w' h1 h2 h3 => hQ _ h' σ' m' K' ρ' w' h1 h2 h3)))
       simpa using this
   | true =>
     simp only [cond_true] at hh
     obtain ⟨h1, σ1, m1, K1, hh, g1, hr⟩ := prep_ok h hh hr
     obtain ⟨h2, σ2, m2, hh, g2, hr⟩ := preO_ok h1 hh hr
     replace hQ : ∀ e h' σ' m' K' ρ' w', Rel E fr σ' m' K' ρ' w' → Same σ2 σ' → k e h' σ' = some r → Q e (act1 n ρ') w' := fun e h' σ' m' K' ρ' w' q1 q2 q3 => hQ e h' σ' m' K' ρ' w' q1 ((g1.trans g2).trans q2) q3
     clear g1 g2
     generalize K1 = K at hr
     generalize m2 = m at hr
     generalize σ2 = σ at hr hh hQ
     split at hh
     · rename_i plan fin tail act' h0
       unfold mixS at hh
       replace hh := bif_and hh; obtain ⟨hm, hB, hh⟩ := hh
       have hB' : mixB .any ops.toList.toArray plan fin tail = true := by simpa using hB
       have hfr := (hr.frz act').drew
       have hplan : ∀ s i, (s, i) ∈ plan → i < ops.toList.length := by
         intro s i hi
         have h0 := hB
         unfold mixB at h0
         simp only [Bool.and_eq_true] at h0
         obtain ⟨_, h1⟩ := h0
         split at h1
         · rename_i l1 hl1
           simpa using mixPlan_lt plan _ _ hl1 s i hi
         · cases h1
       have key := runM_ok (l := ops.toList) (Q := Q) plan hh hfr rfl hplan (fun h' σ' m' K' ρ' w' h1 h2 h3 => by
         have hi : Inn σ fr ⟨m, K, ρ, fun _ => false, fr.F, fr.k0⟩ m K ρ (minus σ.H act') σ' [] := ⟨rfl, rfl, rfl, rfl, rfl, h2.2, minus_sub, fun _ _ => rfl⟩
         obtain ⟨z1, z2⟩ := thaw_ok hr hi h1
         have := runL_ok (ops := ops.toList.toArray) (Q := Q) (picks ops.toList tail) 0 (by simpa using h3) z2 (fun h'' σ'' m'' K'' ρ'' w'' b1 b2 b3 => hQ .normal h'' σ'' m'' K'' ρ'' w'' b1 (z1.trans b2) b3)
         rwa [List.drop_zero] at this)
       have := wp_region_mix (id := id) (Q := Q) plan fin tail hm hB' _ hfr.cfz rfl rfl rfl key hn (r := E.rd) (n := 0)
       simpa using this
     · rename_i t s act' a b
       unfold trS at hh
       replace hh := bif_and hh; obtain ⟨hm, hB, hh⟩ := hh
       obtain ⟨x, hx, hh⟩ := ob hh
       have hfr := (hr.frz act').drew
       have key := runT_ok (l := ops.toList) (F := fun a' w' => wpLs P ops.toList.toArray Q (picks ops.toList []) a' w') t hx hfr rfl (fun h' σ' m' K' ρ' w' h1 h2 h3 => by
         obtain ⟨h'', σ2, m2, K2, g1, g2, g3⟩ := prep_ok h' h3 h1
         have hi : Inn σ fr ⟨m, K, ρ, fun _ => false, fr.F, fr.k0⟩ m K ρ (minus σ.H act') σ2 (s.sl.map (·.1) ++ dsts ops.toList) := ⟨rfl, rfl, rfl, rfl, rfl, (g2.2.trans h2.2), minus_sub, fun _ _ => rfl⟩
         obtain ⟨σ3, m3, q1, q2, q3⟩ := lay_ok hr hi g3 g1 hh
         exact hQ .normal b σ3 m3 K2 ρ' w' q3 q2 q1)
       have := wp_region_tree (id := id) (Q := Q) t [] hm hB _ hfr.cfz rfl key hn (r := E.rd) (n := 0)
       simpa using this
     · cases hh
 | .seq a b => fun R E fr hrd h σ k r m K ρ w Q hh hr hQ => by
   have plain : ∀ h0, exec J n a h0 σ (onNorm k (fun h σ => exec J n b h σ k)) = some r → (Code.seq a b).wpIn (wideR E.rd) 0 P Q (act1 n ρ) w := fun h0 hh =>
     wpIn_seq (exec_ok hJ a R E fr hrd h0 σ _ r m K ρ w _ hh hr (onNorm_ok (σ0 := σ) (fun h' σ' m' K' ρ' w' h1 h2 h3 => exec_ok hJ b R E fr hrd h' σ' k r m' K' ρ' w' Q h3 h1 (fun e h'' σ'' m'' K'' ρ'' w'' q1 q2 q3 => hQ e h'' σ'' m'' K'' ρ'' w'' q1 (h2.trans q2) q3)) hQ))
   cases h with
   | sq mk s act ha hb =>
     have hh : (match Zt.mcs mk σ with | some σ => joinN (fun h σ R k => exec J n a h σ k) s act (s.sl.map (·.1) ++ writes a) ha hb σ (fun h σ => exec J n b h σ k) | none => none) = some r := hh
     split at hh
     · rename_i σ1 hm
       obtain ⟨m1, k1, k2⟩ := mcs_ok hm hr
       refine wpIn_seq (joinN_ok (exec_ok hJ a) hrd hh k2 (fun h' σ' m' K' ρ' w' h1 h2 h3 => ?_))
       exact exec_ok hJ b R E fr hrd h' σ' k r m' K' ρ' w' Q h3 h1 (fun e h'' σ'' m'' K'' ρ'' w'' q1 q2 q3 => hQ e h'' σ'' m'' K'' ρ'' w'' q1 ((k1.trans h2).trans q2) q3)
     · cases hh
   | sx mk s act ha hb =>
     have hh : (match Zt.mcs mk σ with | some σ => joinX (fun h σ R k => exec J n a h σ k) s act (s.sl.map (·.1) ++ writes a) ha hb σ (onNorm k (fun h σ => exec J n b h σ k)) | none => none) = some r := hh
     split at hh
     · rename_i σ1 hm
       obtain ⟨m1, k1, k2⟩ := mcs_ok hm hr
       refine wpIn_seq (joinX_ok (exec_ok hJ a) hrd hh k2 ?_)
       exact onNorm_ok (σ0 := σ1) (fun h' σ' m' K' ρ' w' h1 h2 h3 => exec_ok hJ b R E fr hrd h' σ' k r m' K' ρ' w' Q h3 h1 (fun e h'' σ'' m'' K'' ρ'' w'' q1 q2 q3 => hQ e h'' σ'' m'' K'' ρ'' w'' q1 ((k1.trans h2).trans q2) q3)) (fun e h' σ' m' K' ρ' w' q1 q2 q3 => hQ e h' σ' m' K' ρ' w' q1 (k1.trans q2) q3)
     · cases hh
   | pl h => exact plain h hh
   | nil => exact plain _ hh
   | two _ _ _ => exact plain _ hh
   | tw _ _ _ => exact plain _ hh
   | jn _ _ _ _ _ => exact plain _ hh
   | jx _ _ _ _ _ => exact plain _ hh
   | lp _ _ => exact plain _ hh
   | un _ _ => exact plain _ hh
   | per _ _ _ => exact plain _ hh
   | perb _ _ _ _ => exact plain _ hh
   | mc _ _ _ _ => exact plain _ hh
   | ms _ _ => exact plain _ hh
   | wt _ _ => exact plain _ hh
   | cl _ _ _ => exact plain _ hh
   | c2 _ _ _ _ => exact plain _ hh
   | gp _ _ => exact plain _ hh
   | gj _ _ _ _ _ => exact plain _ hh
   | mix _ _ _ _ _ => exact plain _ hh
   | opn _ _ _ => exact plain _ hh
   | opb _ _ _ => exact plain _ hh
   | cls _ _ _ => exact plain _ hh
   | opp _ _ _ _ => exact plain _ hh
   | ot _ _ => exact plain _ hh
   | cm _ _ _ _ => exact plain _ hh
   | cm2 _ _ _ _ _ => exact plain _ hh
   | tr _ _ _ _ _ => exact plain _ hh
   | tru _ => exact plain _ hh
   | yl _ _ => exact plain _ hh
   | rg _ _ => exact plain _ hh
 | .cond c x y => fun R E fr hrd h σ k r m K ρ w Q hh hr hQ => by
   obtain ⟨h1, σ1, m1, K1, g1, g2, g3⟩ := prep_ok h (show prep h σ (fun h σ => condS c (σ.evr n c) h σ (fun h σ => exec J n x h σ k) (fun h σ => exec J n y h σ k)) = some r from hh) hr
   have hv := g3.toPur.evr n c
   have goX : ∀ h2 σ2, Rel E fr σ2 m1 K1 ρ w → Same σ σ2 → exec J n x h2 σ2 k = some r → x.wpIn (wideR E.rd) 0 P Q (act1 n ρ) w := fun h2 σ2 q1 q2 q3 =>
     exec_ok hJ x R E fr hrd h2 σ2 k r m1 K1 ρ w Q q3 q1 (fun e h'' σ'' m'' K'' ρ'' w'' p1 p2 p3 => hQ e h'' σ'' m'' K'' ρ'' w'' p1 (q2.trans p2) p3)
   have goY : ∀ h2 σ2, Rel E fr σ2 m1 K1 ρ w → Same σ σ2 → exec J n y h2 σ2 k = some r → y.wpIn (wideR E.rd) 0 P Q (act1 n ρ) w := fun h2 σ2 q1 q2 q3 =>
     exec_ok hJ y R E fr hrd h2 σ2 k r m1 K1 ρ w Q q3 q1 (fun e h'' σ'' m'' K'' ρ'' w'' p1 p2 p3 => hQ e h'' σ'' m'' K'' ρ'' w'' p1 (q2.trans p2) p3)
   have slot : ∀ (d : Nat) (sv : SV), c = .tmp d → σ1.evr n c = sv → sv ≠ .any → σ1.get d = sv := fun d sv hc he hne => by
     subst hc
     cases hh : Nat.blt d n with
     | false =>
       have : σ1.evr n (.tmp d) = .any := by show (bif Nat.blt d n then σ1.get d else .any) = _; rw [hh]; rfl
       rw [this] at he; exact absurd he.symm hne
     | true =>
       have : σ1.evr n (.tmp d) = σ1.get d := by show (bif Nat.blt d n then σ1.get d else .any) = _; rw [hh]; rfl
       rw [← this]; exact he
   unfold condS at g1
   split at g1
   · rename_i jm w0 e
     rw [e] at hv
     obtain ⟨hj, hv⟩ := hv
     split at g1
     · rename_i t
       have hb : ev n ρ c = .bool t := hv
       rw [hb] at hj
       refine wpIn_cond_split (t := t) (by rw [eval_act1]; exact hb) (fun ht => ?_) (fun ht => ?_)
       · subst ht
         split at g1
         · exact goX _ _ (g3.fix (v := .bool true) hj rfl) (g2.trans ⟨rfl, rfl⟩) g1
         · exact goX _ σ1 g3 g2 g1
         · exact goX _ σ1 g3 g2 g1
       · subst ht
         split at g1
         · exact goY _ _ (g3.fix (v := .bool false) hj rfl) (g2.trans ⟨rfl, rfl⟩) g1
         · exact goY _ σ1 g3 g2 g1
         · exact goY _ σ1 g3 g2 g1
     · cases g1
   · rename_i t e
     rw [e] at hv
     have hb : ev n ρ c = .bool t := hv
     refine wpIn_cond_split (t := t) (by rw [eval_act1]; exact hb) (fun ht => ?_) (fun ht => ?_)
     · subst ht
       split at g1
       · rename_i ha hbn d _
         have hg := slot d _ rfl e nofun
         exact goX ha _ (g3.ref (fun _ _ u hu => by rw [hg] at hu; exact hu) (by rw [hg]; nofun)) (g2.trans ⟨rfl, ref_H.2⟩) g1
       · exact goX _ σ1 g3 g2 g1
       · exact goX _ σ1 g3 g2 g1
     · subst ht
       split at g1
       · rename_i ha hbn d _
         have hg := slot d _ rfl e nofun
         exact goY hbn _ (g3.ref (fun _ _ u hu => by rw [hg] at hu; exact hu) (by rw [hg]; nofun)) (g2.trans ⟨rfl, ref_H.2⟩) g1
       · exact goY _ σ1 g3 g2 g1
       · exact goY _ σ1 g3 g2 g1
   · rename_i tp l ng e
     rw [e] at hv
     obtain ⟨q, hb, hl⟩ := hv
     refine wpIn_cond_split (t := q ^^ ng) (by rw [eval_act1]; exact hb) (fun ht => ?_) (fun ht => ?_)
     · split at g1
       · rename_i ha hbn _
         cases ng with
         | true =>
           rw [Bool.xor_true] at ht
           simp only [cond_true] at g1
           exact goX ha _ g3 g2 (nilb_cons g1)
         | false =>
           rw [Bool.xor_false] at ht
           simp only [cond_false] at g1
           exact goX ha _ g3 g2 (nilb_nil (hl ht) g1)
       · cases g1
     · split at g1
       · rename_i ha hbn _
         cases ng with
         | true =>
           rw [Bool.xor_true] at ht
           simp only [cond_true] at g1
           exact goY hbn _ g3 g2 (nilb_nil (hl (by simpa using ht)) g1)
         | false =>
           rw [Bool.xor_false] at ht
           simp only [cond_false] at g1
           exact goY hbn _ g3 g2 (nilb_cons g1)
       · cases g1
   · cases g1
 | .block id b => fun R E fr hrd h σ k r m K ρ w Q hh hr hQ => by
   have blk : ∀ {R : Type} {k : Exit → Hn P → Zt → Option R} {r : R} {Q : Exit → Act → World → Prop} {fr : Frz} {σ : Zt}, (∀ e h' σ' m' K' ρ' w', Rel E fr σ' m' K' ρ' w' → Same σ σ' → k e h' σ' = some r → Q e (act1 n ρ') w') →
       ∀ e h' σ' m' K' ρ' w', Rel E fr σ' m' K' ρ' w' → Same σ σ' → onBlk id k e h' σ' = some r → Exit.inBlock id Q e (act1 n ρ') w' := by
     intro R k r Q fr σ hQ e h' σ' m' K' ρ' w' h1 h2 h3
     cases e with
     | exit i =>
       change (bif Nat.beq i id then k .normal h' σ' else k (.exit i) h' σ') = some r at h3
       show if i = id then _ else _
       cases hb : Nat.beq i id with
       | true =>
         rw [hb] at h3
         rw [if_pos (Nat.eq_of_beq_eq_true hb)]
         exact hQ _ h' σ' m' K' ρ' w' h1 h2 h3
       | false =>
         rw [hb] at h3
         rw [if_neg (fun e => by rw [e, Nat.beq_refl] at hb; cases hb)]
         exact hQ _ h' σ' m' K' ρ' w' h1 h2 h3
     | normal => exact hQ _ h' σ' m' K' ρ' w' h1 h2 h3
     | goto l => exact hQ _ h' σ' m' K' ρ' w' h1 h2 h3
     | ret => exact hQ _ h' σ' m' K' ρ' w' h1 h2 h3
     | panic i => exact hQ _ h' σ' m' K' ρ' w' h1 h2 h3
     | outgrown => exact hQ _ h' σ' m' K' ρ' w' h1 h2 h3
   have fb : Fok P n (.block id b) (fun h σ R k => exec J n b h σ (onBlk id k)) := fun R E fr hrd h σ k r m K ρ w Q hh hr hQ => by
     refine wpIn_block (exec_ok hJ b R E fr hrd h σ _ r m K ρ w _ hh hr ?_)
     intro e h' σ' m' K' ρ' w' h1 h2 h3
     cases e with
     | exit i =>
       change (bif Nat.beq i id then k .normal h' σ' else k (.exit i) h' σ') = some r at h3
       show if i = id then _ else _
       cases hb : Nat.beq i id with
       | true =>
         rw [hb] at h3
         rw [if_pos (Nat.eq_of_beq_eq_true hb)]
         exact hQ _ h' σ' m' K' ρ' w' h1 h2 h3
       | false =>
         rw [hb] at h3
         rw [if_neg (fun e => by rw [e, Nat.beq_refl] at hb; cases hb)]
         exact hQ _ h' σ' m' K' ρ' w' h1 h2 h3
     | normal => exact hQ _ h' σ' m' K' ρ' w' h1 h2 h3
     | goto l => exact hQ _ h' σ' m' K' ρ' w' h1 h2 h3
     | ret => exact hQ _ h' σ' m' K' ρ' w' h1 h2 h3
     | panic i => exact hQ _ h' σ' m' K' ρ' w' h1 h2 h3
     | outgrown => exact hQ _ h' σ' m' K' ρ' w' h1 h2 h3
   have plain : ∀ h0, exec J n b h0 σ (onBlk id k) = some r → (Code.block id b).wpIn (wideR E.rd) 0 P Q (act1 n ρ) w := fun h0 hh => fb R E fr hrd h0 σ k r m K ρ w Q hh hr hQ
   cases h with
   | jn mk s act ha hb =>
     have hh : (match Zt.mcs mk σ with | some σ => joinN (fun h σ R k => exec J n b h σ (onBlk id k)) s act (s.sl.map (·.1) ++ writes b) ha hb σ (k .normal) | none => none) = some r := hh
     split at hh
     · rename_i σ1 hm
       obtain ⟨m1, k1, k2⟩ := mcs_ok hm hr
       exact joinN_ok fb hrd hh k2 (fun h' σ' m' K' ρ' w' h1 h2 h3 => hQ _ h' σ' m' K' ρ' w' h1 (k1.trans h2) h3)
     · cases hh
   | jx mk s act ha hb =>
     have hh : (match Zt.mcs mk σ with | some σ => joinX (fun h σ R k => exec J n b h σ (onBlk id k)) s act (s.sl.map (·.1) ++ writes b) ha hb σ k | none => none) = some r := hh
     split at hh
     · rename_i σ1 hm
       obtain ⟨m1, k1, k2⟩ := mcs_ok hm hr
       exact joinX_ok fb hrd hh k2 (fun e h' σ' m' K' ρ' w' q1 q2 q3 => hQ e h' σ' m' K' ρ' w' q1 (k1.trans q2) q3)
     · cases hh
   | pl h => exact plain _ hh
   | nil => exact plain _ hh
   | two _ _ _ => exact plain _ hh
   | tw _ _ _ => exact plain _ hh
   | sq _ _ _ _ _ => exact plain _ hh
   | sx _ _ _ _ _ => exact plain _ hh
   | lp _ _ => exact plain _ hh
   | un _ _ => exact plain _ hh
   | per _ _ _ => exact plain _ hh
   | perb _ _ _ _ => exact plain _ hh
   | mc _ _ _ _ => exact plain _ hh
   | ms _ _ => exact plain _ hh
   | wt _ _ => exact plain _ hh
   | cl _ _ _ => exact plain _ hh
   | c2 _ _ _ _ => exact plain _ hh
   | gp _ _ => exact plain _ hh
   | gj _ _ _ _ _ => exact plain _ hh
   | mix _ _ _ _ _ => exact plain _ hh
   | opn _ _ _ => exact plain _ hh
   | opb _ _ _ => exact plain _ hh
   | cls _ _ _ => exact plain _ hh
   | opp _ _ _ _ => exact plain _ hh
   | ot _ _ => exact plain _ hh
   | cm _ _ _ _ => exact plain _ hh
   | cm2 _ _ _ _ _ => exact plain _ hh
   | tr _ _ _ _ _ => exact plain _ hh
   | tru _ => exact plain _ hh
   | yl _ _ => exact plain _ hh
   | rg _ _ => exact plain _ hh
 | .loop b => fun R E fr hrd h σ k r m K ρ w Q hh hr hQ => by
   obtain ⟨h1, σ1, m1, K1, g1, g2, g3⟩ := prep_ok h (show prep h σ (fun h σ => match h with
     | .un m r => unroll (fun h σ k => exec J n b h σ k) k m r σ
     | .lp s ha => lpRun (fun h σ R k => exec J n b h σ k) s (s.sl.map (·.1) ++ writes b) ha σ k
     | _ => none) = some r from hh) hr
   have hQ' : ∀ e h' σ' m' K' ρ' w', Rel E fr σ' m' K' ρ' w' → Same σ1 σ' → k e h' σ' = some r → Q e (act1 n ρ') w' := fun e h'' σ'' m'' K'' ρ'' w'' p1 p2 p3 => hQ e h'' σ'' m'' K'' ρ'' w'' p1 (g2.trans p2) p3
   split at g1
   · exact wpIn_loop_rounds _ (unroll_ok (exec_ok hJ b) hrd hQ' _ g1 g3 Same.rfl')
   · exact lpRun_ok (exec_ok hJ b) hrd g1 g3 hQ'
   · cases g1
 | .rangeFunc g ps ao bo => fun R E fr hrd h σ k r m K ρ w Q hh hr hQ => by
   obtain ⟨h1, σ1, m1, K1, g1, g2, g3⟩ := prep_ok h (show prep h σ (fun h σ => rgRun J n g ps ao bo h σ k) = some r from hh) hr
   exact rgRun_ok hJ hrd g1 g3 (fun e h'' σ'' m'' K'' ρ'' w'' p1 p2 p3 => hQ e h'' σ'' m'' K'' ρ'' w'' p1 (g2.trans p2) p3)
 | .goto l => fun R E fr hrd h σ k r m K ρ w Q hh hr hQ => by cases hh
 | .refuse s => fun R E fr hrd h σ k r m K ρ w Q hh hr hQ => by cases hh
theorem execN_ok : ∀ d : Nat, JOk (execN (P := P) d)
 | 0 => fun n c R E fr hrd h σ k r m K ρ w Q hh hr hQ => by cases hh
 | d + 1 => fun n c => exec_ok (execN_ok d) c
end
end
section
variable [BldA]
def resS (P : Program) (n : Nat) (σ : Zt) : List ResultVar → Option (List SV)
 | [] => some []
 | .tmp t :: r => (match resS P n σ r with | some vs => some (σ.ev n (.tmp t) :: vs) | none => none)
 | .cell a ty :: r => (match σ.ev n (.tmp a) with
   | .ptr i o => (match findR (HA.blkR i) (σ.H ++ σ.Hf) with
     | some q => (match ldv P ty q.cs o, resS P n σ r with | some v, some vs => some (v :: vs) | _, _ => none)
     | none => none)
   | _ => none)
def resV : List SV → SV
 | [v] => v
 | vs => .tup vs
def finO (σ : Zt) (rs : List SV) (o : Sh) : Option (TL o.ts) := bif (match rs, o.sl with | [], [] => true | _ :: _, [p] => Nat.beq p.1 0 | _, _ => false) then (match o.get (fun _ => resV rs) σ.H with | some g => TL.of o.ts g.ds | none => none) else none
def finD {P : Program} (σ : Zt) (rs : List SV) : (os : List Sh) → Hn P → Option (OutT os)
 | [a], _ => finO σ rs a
 | [a, b], h => (match h with | .pl _ => (finO σ rs b).map Sum.inr | _ => (finO σ rs a).map Sum.inl)
 | _, _ => none
def finF {P : Program} (n : Nat) (fn : Func) (os : List Sh) (h : Hn P) (σ : Zt) : Option (OutT os) := prep h σ fun h σ => match resS P n σ fn.results.toList with | some rs => finD σ rs os h | none => none
def fin {P : Program} (n : Nat) (fn : Func) (os : List Sh) (e : Exit) (h : Hn P) (σ : Zt) : Option (OutT os) := match e with
 | .normal => finF n fn os h σ
 | .ret => finF n fn os h σ
 | _ => none
noncomputable def runF {P : Program} (n : Nat) (fn : Func) (c : Code) (inn : Sh) (os : List Sh) (h : Hn P) (x : TL inn.ts) : Option (OutT os) := match inn.un (TL.list inn.ts x) 0 with
 | some (vs, u) => prep h ⟨fun _ => .any, vs, u.H, [], u.nx, false⟩ fun h σ => exec (execN 4) n c h σ (fin n fn os)
 | none => none
section
variable {P : Program} {E : En} {n : Nat} {m : List M} {K : Hp} {fr : Frz} {σ : Zt} {ρ : Sl1} {w : World}
theorem resS_ok (hr : Rel E fr σ m K ρ w) : ∀ {l : List ResultVar} {rs : List SV}, resS P n σ l = some rs → ∃ us : List Value, SV.relL m K rs us ∧ l.length = us.length ∧ ∀ (j : Nat) (r : ResultVar) (v : Value), l[j]? = some r → us[j]? = some v → RvOk P n (Hold E K (σ.atoms fr m)) ρ r v
 | [], rs, h => by cases h; exact ⟨[], rfl, rfl, fun j r v h => by simp at h⟩
 | .tmp t :: l, rs, h => by
   unfold resS at h
   split at h
   · rename_i vs hvs
     cases h
     obtain ⟨us, h1, h2, h3⟩ := resS_ok hr hvs
     refine ⟨ev n ρ (.tmp t) :: us, ⟨_, us, rfl, hr.toPur.ev n (.tmp t), h1⟩, by simp [h2], fun j r v hj hv => ?_⟩
     cases j with
     | zero => simp at hj hv; subst hj hv; rfl
     | succ j => exact h3 j r v (by simpa using hj) (by simpa using hv)
   · cases h
 | .cell a ty :: l, rs, h => by
   unfold resS at h
   split at h
   · rename_i i o e
     split at h
     · rename_i q hq
       split at h
       · rename_i v vs hv hvs
         cases h
         obtain ⟨us, h1, h2, h3⟩ := resS_ok hr hvs
         obtain ⟨x, hx, hmem⟩ := findR_spec hq
         obtain rfl := blkR_eq hx
         obtain ⟨b, ws, g1, g2, g3⟩ := hr.cls.blk hmem
         obtain ⟨u, g4, g5⟩ := ldv_ok (P := P) (o0 := 0) hv g2 (fun j u hu => by rw [Nat.zero_add]; exact g3 j u hu)
         rw [Nat.zero_add] at g4
         have hev := hr.toPur.ev n (.tmp a)
         rw [e] at hev
         obtain ⟨b', q1, q2⟩ := hev
         rw [g1] at q1; cases q1
         refine ⟨u :: us, ⟨_, us, rfl, g5, h1⟩, by simp [h2], fun j r v hj hv => ?_⟩
         cases j with
         | zero => simp at hj hv; subst hj hv; exact ⟨b, o, q2, g4⟩
         | succ j => exact h3 j r v (by simpa using hj) (by simpa using hv)
       · cases h
     · cases h
   · cases h
theorem mapM_run {C : World → Prop} {w : World} (hw : C w) : ∀ {l : List ResultVar} {us : List Value}, l.length = us.length → (∀ (j : Nat) (r : ResultVar) (v : Value), l[j]? = some r → us[j]? = some v → RvOk P n C ρ r v) → (l.mapM (rvS (frm n ρ))).run P w = .ok us w
 | [], us, h, _ => by
   obtain rfl : us = [] := List.length_eq_zero_iff.1 h.symm
   simp
 | r :: l, us, h, hr => by
   cases us with
   | nil => cases h
   | cons u us =>
     have h1 := rv_run (hr 0 r u rfl rfl) hw
     have h2 := mapM_run hw (l := l) (us := us) (by simpa using h) (fun j r v hj hv => hr (j + 1) r v (by simpa using hj) (by simpa using hv))
     simp [List.mapM_cons, h1, h2]
def tupV : List Value → Value
 | [v] => v
 | vs => .tuple vs.toArray
theorem res_run {C : World → Prop} {w : World} (hw : C w) {fn : Func} {us : List Value} (hl : fn.results.toList.length = us.length) (h : ∀ (j : Nat) (r : ResultVar) (v : Value), fn.results.toList[j]? = some r → us[j]? = some v → RvOk P n C ρ r v) : (results fn (frm n ρ)).run P w = .ok (tupV us) w := by
 have h1 := mapM_run hw hl h
 rw [results_rvS]
 simp only [Array.mapM_eq_mapM_toList]
 simp only [Sem.run_bind, Sem.run_map, h1, Result.andThen_ok, Sem.run_pure]
 match us with
 | [] => rfl
 | [u] => rfl
 | u :: v :: r =>
   rw [dif_neg (by simp)]
   rfl
theorem resV_rel {rs : List SV} {us : List Value} (h : SV.relL m K rs us) (hne : rs ≠ []) : SV.rel m K (resV rs) (tupV us) := by
 match rs, us, h with
 | [], _, _ => exact absurd rfl hne
 | [v], us, h =>
   obtain ⟨u, q, rfl, h1, h2⟩ := relL_cons h
   obtain rfl := relL_nil h2
   exact h1
 | v :: v2 :: r, us, h =>
   obtain ⟨u, q, rfl, h1, h2⟩ := relL_cons h
   obtain ⟨u2, q2, rfl, h3, h4⟩ := relL_cons h2
   exact ⟨_, rfl, u, _, rfl, h1, u2, q2, rfl, h3, h4⟩
theorem finO_ok {rs : List SV} {us : List Value} {o : Sh} {x : TL o.ts} {K0 : Hp} {m0 : List M} (h : finO σ rs o = some x) (hr : Rel E fr σ m K ρ w) (hrel : SV.relL m K rs us) (hm : m0 <+: m) (ho : oldOk o.bl m0.length = true) (hF : σ.Hf = []) :
   ∃ vs' u' m', o.un (TL.list o.ts x) m0.length = some (vs', u') ∧ m0 <+: m' ∧ m'.length = u'.nx ∧ (∀ a ∈ u'.H, HA.ok m' K a) ∧ resR m' K vs' (tupV us) ∧ Sep E K (u'.H.map (HA.conc m') ++ fr.F) w := by
 unfold finO at h
 replace h := bift h; obtain ⟨hs, h⟩ := h
 split at h
 · rename_i g hg
   obtain ⟨vs, u, ms, e1, e2, e3, e4, e5, e6, e7, e8⟩ := Sh.get_un hg hr.okH hm ho
   rw [TL.of_list h]
   refine ⟨vs, u, m0 ++ ms, e1, pre_app _ _, e2, e4, ?_, ?_⟩
   · split at hs
     · rename_i hsl
       rw [hsl] at e3
       obtain rfl : vs = [] := e3
       obtain rfl := relL_nil hrel
       rfl
     · rename_i v r p hsl
       rw [hsl] at e3
       obtain ⟨sv, q, rfl, g1, g2⟩ := e3
       obtain rfl : q = [] := g2
       exact g1 _ (resV_rel hrel (by simp))
     · cases hs
   · have := e6 E _ w hr.toSep
     have h2 : σ.fz fr = fr.F := by unfold Zt.fz; rw [hF]; rfl
     rw [h2] at this
     have h3 : Sep E K (g.H.map (HA.conc m) ++ (u.H.map (HA.conc (m0 ++ ms)) ++ fr.F)) w := Sep.perm (perm3 _ _ _) this
     exact Sep.drops h3
 · cases h
theorem finD_ok {rs : List SV} {us : List Value} {m0 : List M} (hr : Rel E fr σ m K ρ w) (hrel : SV.relL m K rs us) (hm : m0 <+: m) (hF : σ.Hf = []) : ∀ {os : List Sh} {h0 : Hn P} {r : OutT os}, (∀ o ∈ os, oldOk o.bl m0.length = true) → finD σ rs os h0 = some r →
   ∃ vs' u' m', (outSh os r).1.un (outSh os r).2 m0.length = some (vs', u') ∧ m0 <+: m' ∧ m'.length = u'.nx ∧ (∀ a ∈ u'.H, HA.ok m' K a) ∧ resR m' K vs' (tupV us) ∧ Sep E K (u'.H.map (HA.conc m') ++ fr.F) w
 | [], h0, r, _, h => Empty.elim r
 | [a], h0, r, ho, h => finO_ok (K0 := K) (show finO σ rs a = some r from h) hr hrel hm (ho a (by simp)) hF
 | [a, b], h0, r, ho, h => by
   have key : (finO σ rs b).map Sum.inr = some r ∨ (finO σ rs a).map Sum.inl = some r := by
     cases h0 <;> first | exact .inl h | exact .inr h
   clear h
   rcases key with h | h
   · rw [Option.map_eq_some_iff] at h
     obtain ⟨x, h, rfl⟩ := h
     exact finO_ok (K0 := K) h hr hrel hm (ho b (by simp)) hF
   · rw [Option.map_eq_some_iff] at h
     obtain ⟨x, h, rfl⟩ := h
     exact finO_ok (K0 := K) h hr hrel hm (ho a (by simp)) hF
 | a :: b :: c :: os, h0, r, _, h => by cases h
theorem args_look : ∀ {sl : List (Nat × Kd)} {vs : List (Nat × SV)} {us : List Value} {j N : Nat}, slN j sl N = true → vs.map (·.1) = sl.map (·.1) → slR m K vs us → ∀ i sv, look vs i = some sv → ∃ k u, i = j + k ∧ us[k]? = some u ∧ SV.rel m K sv u
 | [], vs, us, j, N, h1, h2, h3, i, sv, hl => by
   have : vs = [] := by cases vs with | nil => rfl | cons a b => cases h2
   subst this; cases hl
 | p :: sl, vs, us, j, N, h1, h2, h3, i, sv, hl => by
   cases vs with
   | nil => cases h2
   | cons q vs =>
     simp only [List.map_cons, List.cons.injEq] at h2
     simp only [slN, Bool.and_eq_true] at h1
     have hj := Nat.eq_of_beq_eq_true h1.1
     obtain ⟨u, r, rfl, g1, g2⟩ := h3
     change (bif Nat.beq q.1 i then some q.2 else look vs i) = some sv at hl
     cases hb : Nat.beq q.1 i with
     | true =>
       rw [hb] at hl; cases hl
       have := Nat.eq_of_beq_eq_true hb
       exact ⟨0, u, by rw [← this, h2.1, hj]; rfl, rfl, g1⟩
     | false =>
       rw [hb] at hl
       obtain ⟨k, u', e1, e2, e3⟩ := args_look h1.2 h2.2 g2 i sv hl
       exact ⟨k + 1, u', by omega, by simpa using e2, e3⟩
theorem unS_keys {bi : List Nat} : ∀ {sl : List (Nat × Kd)} {u u' : Un} {vs : List (Nat × SV)}, unS bi sl u = some (vs, u') → vs.map (·.1) = sl.map (·.1)
 | [], u, u', vs, h => by cases h; rfl
 | p :: sl, u, u', vs, h => by
   unfold unS at h
   split at h
   · split at h
     · rename_i h2
       cases h
       simp [unS_keys h2]
     · cases h
   · cases h
theorem un_keys {s : Sh} {ds : List Dat} {nx : Nat} {vs : List (Nat × SV)} {u : Un} (h : s.un ds nx = some (vs, u)) : vs.map (·.1) = s.sl.map (·.1) := by
 unfold Sh.un at h
 replace h := (bift h).2
 split at h
 split at h
 · rename_i h1
   split at h
   · cases h; exact unS_keys h1
   · cases h
 · cases h
theorem slR_len : ∀ {vs : List (Nat × SV)} {us : List Value}, slR m K vs us → us.length = vs.length
 | [], us, h => by obtain rfl : us = [] := h; rfl
 | p :: vs, us, ⟨u, r, e, _, h⟩ => by subst e; simp [slR_len h]
end
section
variable {P : Program} {E : En} {n : Nat} {m : List M} {K : Hp} {fr : Frz} {σ : Zt} {ρ : Sl1} {w : World}
theorem resS_kq {b : Bool} : ∀ l : List ResultVar, resS P n ⟨σ.base, σ.top, σ.H, σ.Hf, σ.nx, b⟩ l = resS P n σ l
 | [] => rfl
 | .tmp t :: r => by unfold resS; rw [resS_kq r]; rfl
 | .cell a ty :: r => by unfold resS; rw [resS_kq r]; rfl
theorem finD_kq {b : Bool} {rs : List SV} : ∀ {os : List Sh} {h : Hn P}, finD ⟨σ.base, σ.top, σ.H, σ.Hf, σ.nx, b⟩ rs os h = finD σ rs os h
 | [], h => rfl
 | [a], h => rfl
 | [a, b], h => by cases h <;> rfl
 | a :: b :: c :: os, h => rfl
end
section
variable {P : Program} {n : Nat}
theorem fn_ok {s : Spec} {fn : Func} {c : Code} (hf : P.funcs[s.f]? = some fn) (hb : fn.body = some c) (hn : fn.ntmps = n) (h : Hn P) (hc : (slN 0 s.inn.sl s.inn.sl.length && Nat.ble s.inn.sl.length n) = true) (hold : ∀ ds vs u, s.inn.un ds 0 = some (vs, u) → ∀ o ∈ s.outs, oldOk o.bl u.nx = true)
   (hex : ∀ (x : TL s.inn.ts) r, s.fn x = some r → runF n fn c s.inn s.outs h x = some r) : SpecOk P s := by
 intro x r hx vs u hu m K args hgk hm hok hsl E w F hs
 rw [Bool.and_eq_true] at hc
 obtain ⟨hc1, hc2⟩ := hc
 have hkeys := un_keys hu
 have hlen : args.toArray.size ≤ n := by
   have h1 := slR_len hsl
   have h2 : vs.length = s.inn.sl.length := by have := congrArg List.length hkeys; simpa using this
   simp only [List.size_toArray]
   have := Nat.le_of_ble_eq_true hc2
   omega
 refine callsIn_wide.1 (callsIn_of_wp_marks (F := Fence.wide) (n := 0) hf hb trivial ?_)
 rw [hn, frm_args hlen]
 have hrun := hex x r hx
 unfold runF at hrun
 rw [hu] at hrun
 simp only at hrun
 have hrel : Rel E.out0 ⟨m, K, args1 args.toArray, fun _ => false, F, K⟩ ⟨fun _ => .any, vs, u.H, [], u.nx, false⟩ m K (args1 args.toArray) w := by
   refine ⟨⟨List.prefix_refl m, Hp.le_refl K, hm, fun e => (by cases e), fun i => trivial, fun i e => rfl, fun i _ => .inr rfl, fun i sv hi => ?_, hok, fun a ha => by simp at ha, MOk.nil hgk (Hp.le_refl K)⟩, ?_⟩
   · obtain ⟨k, v, e1, e2, e3⟩ := args_look hc1 hkeys hsl i sv hi
     have : args1 args.toArray i = v := by
       show args0 args.toArray i = v
       unfold args0
       rw [e1, Nat.zero_add]
       simp [e2]
     rw [this]; exact e3
   · exact hs.out0
 obtain ⟨hp, σp, mp, Kp, p1, p2, p3⟩ := prep_ok h hrun hrel
 refine exec_ok (execN_ok 4) c (OutT s.outs) E.out0 ⟨m, K, args1 args.toArray, fun _ => false, F, K⟩ (fun l e => by cases e) hp σp (fin n fn s.outs) r mp Kp _ w _ p1 p3 (fun e h' σ' m' K' ρ' w' h1 h2 h3 => ?_)
 have fini : finF n fn s.outs h' σ' = some r → LeavesInM Fence.wide 0 P fn (act1 n ρ').tmps (fun e w' => ∃ v K' L', e = .returned v ∧ (∃ vs' u' m', (outSh s.outs r).1.un (outSh s.outs r).2 u.nx = some (vs', u') ∧ m <+: m' ∧ m'.length = u'.nx ∧ (∀ a ∈ u'.H, HA.ok m' K' a) ∧ resR m' K' vs' v ∧ L' = u'.H.map (HA.conc m')) ∧ K.le K' ∧ Sep E K' (L' ++ F) w') (act1 n ρ').defers .returning w' := fun h3 => by
   unfold finF at h3
   obtain ⟨h'', σ2, m2, K2, g1, g2, g3⟩ := prep_ok h' h3 h1
   split at g1
   · rename_i rs hrs
     refine marks_leave ρ'.ds g3.mks g3.toSep (fun K3 w3 c1 c2 c3 => ?_)
     have g4 := g3.unmark c1 c2 c2 c3
     rw [← resS_kq (b := false)] at hrs
     rw [← finD_kq (b := false)] at g1
     obtain ⟨us, q1, q2, q3⟩ := resS_ok g4 hrs
     refine ⟨tupV us, res_run (ρ := (⟨ρ'.f, []⟩ : Sl1)) g4.hold q2 q3, ?_⟩
     obtain ⟨vs', u', m'', z1, z2, z3, z4, z5, z6⟩ := finD_ok (m0 := m) g4 q1 g4.hm (((p2.trans h2).trans g2).2) (fun o ho => by rw [hm]; exact hold _ _ _ hu o ho) g1
     rw [hm] at z1
     exact ⟨_, K3, _, rfl, ⟨vs', u', m'', z1, z2, z3, z4, z5, rfl⟩, g4.hK, z6.back⟩
   · cases g1
 cases e with
 | normal => exact fini h3
 | ret => exact fini h3
 | _ => cases h3
end
end
section
variable [BldA]
mutual
theorem un_nx {bi : List Nat} : ∀ (k : Kd) {u u' : Un} {v : SV}, Kd.un bi k u = some (v, u') → u.nx ≤ u'.nx
 | .any, u, u', v, h => by cases h; exact Nat.le_refl _
 | .dat t, u, u', v, h => by unfold Kd.un at h; split at h <;> cases h; exact Nat.le_refl _
 | .nilp, u, u', v, h => by cases h; exact Nat.le_refl _
 | .nils, u, u', v, h => by cases h; exact Nat.le_refl _
 | .nilf, u, u', v, h => by cases h; exact Nat.le_refl _
 | .ptr j o, u, u', v, h => by unfold Kd.un at h; split at h <;> cases h; exact Nat.le_refl _
 | .own e t, u, u', v, h => by unfold Kd.un at h; split at h <;> cases h; exact Nat.le_add_right _ _
 | .al j, u, u', v, h => by unfold Kd.un at h; split at h <;> cases h; exact Nat.le_refl _
 | .fsl j m, u, u', v, h => by unfold Kd.un at h; split at h <;> cases h; exact Nat.le_refl _
 | .agg ks, u, u', v, h => by
   unfold Kd.un at h; split at h
   · cases h; exact unL_nx ks (by assumption)
   · cases h
 | .tup ks, u, u', v, h => by
   unfold Kd.un at h; split at h
   · cases h; exact unL_nx ks (by assumption)
   · cases h
 | .fn f ks, u, u', v, h => by
   unfold Kd.un at h; split at h
   · cases h; exact unL_nx ks (by assumption)
   · cases h
 | .kat t o, u, u', v, h => by
   unfold Kd.un at h; split at h
   · split at h
     · cases h; exact Nat.le_refl _
     · cases h
   · cases h
 | .ifc t k, u, u', v, h => by
   unfold Kd.un at h; split at h
   · cases h; exact un_nx k (by assumption)
   · cases h
 | .lit w, u, u', v, h => by cases h; exact Nat.le_refl _
 | .od o, u, u', v, h => by
   unfold Kd.un at h
   replace h := (bift h).2
   split at h
   · split at h
     · cases h; exact Nat.le_add_right _ _
     · cases h
   · cases h
 | .rp j, u, u', v, h => by unfold Kd.un at h; split at h <;> cases h; exact Nat.le_refl _
 | .is j k, u, u', v, h => by
   unfold Kd.un at h; split at h
   · split at h
     · cases h; exact un_nx k (by assumption)
     · cases h
   · cases h
theorem unL_nx {bi : List Nat} : ∀ (ks : List Kd) {u u' : Un} {vs : List SV}, Kd.unL bi ks u = some (vs, u') → u.nx ≤ u'.nx
 | [], u, u', vs, h => by cases h; exact Nat.le_refl _
 | k :: ks, u, u', vs, h => by
   unfold Kd.unL at h; split at h
   · rename_i h1
     split at h
     · rename_i h2; cases h; exact Nat.le_trans (un_nx k h1) (unL_nx ks h2)
     · cases h
   · cases h
end
theorem unS_nx {bi : List Nat} : ∀ (sl : List (Nat × Kd)) {u u' : Un} {vs : List (Nat × SV)}, unS bi sl u = some (vs, u') → u.nx ≤ u'.nx
 | [], u, u', vs, h => by cases h; exact Nat.le_refl _
 | p :: sl, u, u', vs, h => by
   unfold unS at h; split at h
   · rename_i h1
     split at h
     · rename_i h2; cases h; exact Nat.le_trans (un_nx p.2 h1) (unS_nx sl h2)
     · cases h
   · cases h
theorem unB_nx {bi : List Nat} : ∀ (bl : List Bk) (is : List Nat) {u u' : Un}, unB bi bl is u = some u' → u.nx ≤ u'.nx
 | [], [], u, u', h => by cases h; exact Nat.le_refl _
 | [], i :: is, u, u', h => by cases h
 | b :: bl, [], u, u', h => by cases h
 | b :: bl, i :: is, u, u', h => by
   unfold unB at h; split at h
   · rename_i u1 h1
     refine Nat.le_trans ?_ (unB_nx bl is h)
     unfold unB1 at h1
     cases hn : b.nu with
     | true => rw [hn] at h1; cases h1; exact Nat.le_refl _
     | false =>
       rw [hn] at h1; simp only [cond_false] at h1
       cases hlp : b.lp with
       | true => rw [hlp] at h1; simp only [cond_true] at h1; cases h1; exact Nat.le_refl _
       | false =>
       rw [hlp] at h1; simp only [cond_false] at h1
       cases hr : b.rw with
       | some o =>
         rw [hr] at h1
         dsimp only at h1
         split at h1
         · split at h1
           · cases h1; exact Nat.le_succ _
           · cases h1
         · cases h1
       | none =>
       rw [hr] at h1
       dsimp only at h1
       cases hb : b.bu with
       | true =>
         rw [hb] at h1; simp only [cond_true] at h1
         split at h1 <;> cases h1
         exact Nat.le_refl _
       | false =>
         rw [hb] at h1; simp only [cond_false] at h1
         split at h1
         · rename_i h2
           cases h1
           exact Nat.le_trans (unL_nx b.ks h2) (Nat.le_succ _)
         · cases h1
   · cases h
theorem idsB_nx : ∀ (bl : List Bk) (nx : Nat), allOld bl = true → (idsB bl nx).2 = nx + bl.length
 | [], nx, _ => rfl
 | b :: bl, nx, h => by
   simp only [allOld, Bool.and_eq_true] at h
   cases hb : b.old with
   | some i => rw [hb] at h; cases h.1
   | none =>
     simp only [idsB, hb, List.length_cons]
     rw [idsB_nx bl (nx + 1) h.2]
     omega
theorem sh_nx {s : Sh} {ds : List Dat} {vs : List (Nat × SV)} {u : Un} (h : s.un ds 0 = some (vs, u)) (ho : allOld s.bl = true) : s.bl.length ≤ u.nx := by
 unfold Sh.un at h
 replace h := (bift h).2
 have hn := idsB_nx s.bl 0 ho
 split at h
 rename_i bi nx he
 rw [he] at hn
 simp only [Nat.zero_add] at hn
 split at h
 · rename_i h1
   split at h
   · rename_i h2
     cases h
     have := unS_nx s.sl h1
     have := unB_nx s.bl bi h2
     simp only at *
     omega
   · cases h
 · cases h
theorem oldOk_le : ∀ (bl : List Bk) {a b : Nat}, oldOk bl a = true → a ≤ b → oldOk bl b = true
 | [], a, b, h, hab => rfl
 | x :: bl, a, b, h, hab => by
   simp only [oldOk, Bool.and_eq_true] at h ⊢
   refine ⟨?_, oldOk_le bl h.2 hab⟩
   cases ho : x.old with
   | none => rfl
   | some i =>
     have h1 := h.1
     rw [ho] at h1
     simp only [Nat.blt_eq] at h1 ⊢
     omega
def bodyOf (fn : Func) : Code := match fn.body with | some c => c | none => .skip
def specOk (s : Spec) (fn : Func) : Bool := fn.body.isSome && (slN 0 s.inn.sl s.inn.sl.length && Nat.ble s.inn.sl.length fn.ntmps) && (allOld s.inn.bl && s.outs.all fun o => oldOk o.bl s.inn.bl.length)
theorem fn_is {P : Program} {s : Spec} {fn : Func} (hf : P.funcs[s.f]? = some fn) (h : Hn P) (hc : specOk s fn = true) (hex : (fun x => runF fn.ntmps fn (bodyOf fn) s.inn s.outs h x) = s.fn) : SpecOk P s := by
 unfold specOk at hc
 simp only [Bool.and_eq_true] at hc
 obtain ⟨⟨h1, h2, h2'⟩, h3, h4⟩ := hc
 have hb : fn.body = some (bodyOf fn) := by
   unfold bodyOf
   cases hbd : fn.body with
   | none => rw [hbd] at h1; cases h1
   | some c => rfl
 refine fn_ok hf hb rfl h (by rw [h2, h2']; rfl) (fun ds vs u hu o ho => oldOk_le o.bl (List.all_eq_true.1 h4 o ho) (sh_nx hu h3)) (fun x r hx => ?_)
 rw [← hx]
 exact congrFun hex x
end
theorem walkX [BldA] {P : Program} {s : Spec} {W : World} (hs : SpecOk P s) {x : TL s.inn.ts} {r : OutT s.outs} (hr : s.fn x = some r) (hgk : BldA.gk (Hp.of W)) {vs : List (Nat × SV)} (hun : s.inn.un (TL.list _ x) 0 = some (vs, ⟨[], 0, [], []⟩))
   (hout : (outSh s.outs r).1.un (outSh s.outs r).2 0 = some ([(0, .bool true)], ⟨[], 0, [], []⟩)) {args : List Value} (hsl : slR [] (Hp.of W) vs args) :
   Calls P s.f args.toArray W fun e W' => e = .returned (.bool true) ∧ Below W.heap.size W W' := by
 have h := hs x r hr vs _ hun [] (Hp.of W) args hgk rfl (fun a ha => by cases ha) hsl (En.of W) W [] (Sep.start W)
 refine h.mono fun e W' h => ?_
 obtain ⟨v, K', L', rfl, ⟨vs', u', m', h1, _, _, _, h2, _⟩, h3, h4⟩ := h
 have h1 := h1.symm.trans hout
 cases h1
 obtain rfl : v = .bool true := h2
 exact ⟨rfl, h4.below h3⟩
end Go.Proofs.Ytffmjongaodjgaa
namespace Go.Proofs
open Go.Shelf
def Try.lays169_ren : Go.Shelf.Ren := ⟨fun | 169 => 32 | n => n, fun | 70 => 59 | 9 => 9 | 0 => 0 | 72 => 61 | 37 => 58 | 127 => 68 | 3 => 3 | 5 => 5 | n => n, fun | n => n⟩
theorem Try.lays169 : Go.Proofs.Lays.n169 Try.prog Try.lays169_ren := {
  mixed := by kernel_rfl
  f169 := Try.func32.trans (congrArg some (by kernel_rfl))
  t0 := Try.underlying0
  a0 := Try.isAgg0
  z0 := Try.sizeOf0
  v0 := Try.zeroValue0
  t3 := Try.underlying3
  a3 := Try.isAgg3
  z3 := Try.sizeOf3
  v3 := Try.zeroValue3
  t9 := Try.underlying9
  a9 := Try.isAgg9
  z9 := Try.sizeOf9
  v9 := Try.zeroValue9
  t37 := Try.underlying58
  a37 := Try.isAgg58
  z37 := Try.sizeOf58
  v37 := Try.zeroValue58
  t70 := Try.underlying59
  a70 := Try.isAgg59
  z70 := Try.sizeOf59
  v70 := Try.zeroValue59
  t72 := Try.underlying61
  a72 := Try.isAgg61
  z72 := Try.sizeOf61
  v72 := Try.zeroValue61
  t127 := Try.underlying68
  a127 := Try.isAgg68
  z127 := Try.sizeOf68
  v127 := Try.zeroValue68 }
theorem Try.Builder_Extra_169 : Builder.Extra Try.prog Try.lays169_ren := {
  sizeBuilder := by kernel_rfl
  liesBuilder := by kernel_rfl
  t5 := Try.underlying5
  a5 := Try.isAgg5
  z5 := Try.sizeOf5
  v5 := Try.zeroValue5
  infoByte := by kernel_rfl
  cellsByte := by kernel_rfl
  sizeByte := by kernel_rfl
  neB5 := by decide }
open Go.RowKit in
/-- (*strings.Builder).String: "String returns the accumulated string.": OF A BUILDER THAT HOLDS AT LEAST ONE BYTE. ✋ THE MODEL FREEZES THOSE BYTES IN THE BUFFER (unsafe.String): a later write INTO them ends the model's run without an answer; a later append BEHIND them goes on. The statement's order of evaluation is drawn: one draw. (LAID: no walk: one application.) -/
theorem Try.Builder_String (B b : Nat) (l : List UInt8) (w : World) (h : Lib.IsBuilder 61 5 B b (Lib.byteCells l) w) (h0 : l ≠ []) :
    Calls Try.prog 32 #[.pointer (some ⟨b, 0, none⟩)] w fun e w' => e = .returned (.string ⟨l.toArray⟩) ∧ Below B w w' := Any.Builder_String Try.lays169 Try.Builder_Extra_169 B b l w h h0
open Go.RowKit in
/-- (*strings.Builder).String OF A BUILDER THAT HOLDS NO BYTE: the empty string. (Its buffer is nil, or a row of which it has taken nothing yet; where that row has NO capacity the model lays one new block for unsafe.SliceData's 'some address'.) One draw. (LAID: no walk: one application.) -/
theorem Try.Builder_String_empty (B b : Nat) (w : World) (h : Lib.IsBuilder 61 5 B b [] w) (hBw : B ≤ w.heap.size) :
    Calls Try.prog 32 #[.pointer (some ⟨b, 0, none⟩)] w fun e w' => e = .returned (.string ⟨#[]⟩) ∧ Below B w w' := Any.Builder_String_empty Try.lays169 Try.Builder_Extra_169 B b w h hBw
open Go.RowKit in
/-- (*strings.Builder).String: "String returns the accumulated string.": WHATEVER THE BUILDER HOLDS. (LAID: no walk: one application.) -/
theorem Try.Builder_String_any (B b : Nat) (l : List UInt8) (w : World) (h : Lib.IsBuilder 61 5 B b (Lib.byteCells l) w) (hBw : B ≤ w.heap.size) :
    Calls Try.prog 32 #[.pointer (some ⟨b, 0, none⟩)] w fun e w' => e = .returned (.string ⟨l.toArray⟩) ∧ Below B w w' := Any.Builder_String_any Try.lays169 Try.Builder_Extra_169 B b l w h hBw
def Try.lays241_ren : Go.Shelf.Ren := ⟨fun | 241 => 36 | 277 => 39 | n => n, fun | 70 => 59 | 3 => 3 | 0 => 0 | 72 => 61 | 37 => 58 | 5 => 5 | n => n, fun | n => n⟩
theorem Try.lays241 : Go.Proofs.Lays.n241 Try.prog Try.lays241_ren := {
  mixed := by kernel_rfl
  f241 := Try.func36.trans (congrArg some (by kernel_rfl))
  f277 := Try.func39.trans (congrArg some (by kernel_rfl))
  t0 := Try.underlying0
  a0 := Try.isAgg0
  z0 := Try.sizeOf0
  v0 := Try.zeroValue0
  t3 := Try.underlying3
  a3 := Try.isAgg3
  z3 := Try.sizeOf3
  v3 := Try.zeroValue3
  t37 := Try.underlying58
  a37 := Try.isAgg58
  z37 := Try.sizeOf58
  v37 := Try.zeroValue58
  t70 := Try.underlying59
  a70 := Try.isAgg59
  z70 := Try.sizeOf59
  v70 := Try.zeroValue59
  t72 := Try.underlying61
  a72 := Try.isAgg61
  z72 := Try.sizeOf61
  v72 := Try.zeroValue61 }
theorem Try.Builder_Extra_241 : Builder.Extra Try.prog Try.lays241_ren := {
  sizeBuilder := by kernel_rfl
  liesBuilder := by kernel_rfl
  t5 := Try.underlying5
  a5 := Try.isAgg5
  z5 := Try.sizeOf5
  v5 := Try.zeroValue5
  infoByte := by kernel_rfl
  cellsByte := by kernel_rfl
  sizeByte := by kernel_rfl
  neB5 := by decide }
open Go.RowKit in
/-- (*strings.Builder).grow (no doc but "grow copies the buffer to a new, larger buffer so that there are at least n bytes of capacity beyond len(b.buf)."): AT A BUILDER WITHOUT A BUFFER: a new row of whatever bytes for its buffer, none of them its own yet. Three draws. (LAID: no walk: one application.) -/
theorem Try.Builder_grow_fresh (B b n : Nat) (w : World) (hB : B ≤ b) (hbk : w.heap[b]? = some (.cells #[.pointer (some ⟨b, 0, none⟩), .slice none 0 0] 61 (0, 0))) (hBw : B ≤ w.heap.size) (hn : n ≤ 281474976710656) :
    Calls Try.prog 36 #[.pointer (some ⟨b, 0, none⟩), .int .i64 n] w fun e w' => e = .returned (.tuple #[]) ∧ (Lib.BuilderAt 61 5 B b (.pointer (some ⟨b, 0, none⟩)) [] w' ∧ Below B w w') := Any.Builder_grow_fresh Try.lays241 Try.Builder_Extra_241 B b n w hB hbk hBw hn
def Try.lays165_ren : Go.Shelf.Ren := ⟨fun | 165 => 30 | 240 => 35 | 241 => 36 | 276 => 38 | 277 => 39 | n => n, fun | 70 => 59 | 3 => 3 | 0 => 0 | 4 => 4 | 9 => 9 | 20 => 20 | 72 => 61 | 37 => 58 | 164 => 70 | 5 => 5 | n => n, fun | n => n⟩
theorem Try.lays165 : Go.Proofs.Lays.n165 Try.prog Try.lays165_ren := {
  mixed := by kernel_rfl
  f165 := Try.func30.trans (congrArg some (by kernel_rfl))
  f240 := Try.func35.trans (congrArg some (by kernel_rfl))
  f241 := Try.func36.trans (congrArg some (by kernel_rfl))
  f276 := Try.func38.trans (congrArg some (by kernel_rfl))
  f277 := Try.func39.trans (congrArg some (by kernel_rfl))
  t0 := Try.underlying0
  a0 := Try.isAgg0
  z0 := Try.sizeOf0
  v0 := Try.zeroValue0
  t3 := Try.underlying3
  a3 := Try.isAgg3
  z3 := Try.sizeOf3
  v3 := Try.zeroValue3
  t4 := Try.underlying4
  a4 := Try.isAgg4
  z4 := Try.sizeOf4
  v4 := Try.zeroValue4
  t9 := Try.underlying9
  a9 := Try.isAgg9
  z9 := Try.sizeOf9
  v9 := Try.zeroValue9
  t20 := Try.underlying20
  a20 := Try.isAgg20
  z20 := Try.sizeOf20
  v20 := Try.zeroValue20
  t37 := Try.underlying58
  a37 := Try.isAgg58
  z37 := Try.sizeOf58
  v37 := Try.zeroValue58
  t70 := Try.underlying59
  a70 := Try.isAgg59
  z70 := Try.sizeOf59
  v70 := Try.zeroValue59
  t72 := Try.underlying61
  a72 := Try.isAgg61
  z72 := Try.sizeOf61
  v72 := Try.zeroValue61
  t164 := Try.underlying70
  a164 := Try.isAgg70
  z164 := Try.sizeOf70
  v164 := Try.zeroValue70 }
theorem Try.Builder_Extra_165 : Builder.Extra Try.prog Try.lays165_ren := {
  sizeBuilder := by kernel_rfl
  liesBuilder := by kernel_rfl
  t5 := Try.underlying5
  a5 := Try.isAgg5
  z5 := Try.sizeOf5
  v5 := Try.zeroValue5
  infoByte := by kernel_rfl
  cellsByte := by kernel_rfl
  sizeByte := by kernel_rfl
  neB5 := by decide }
open Go.RowKit in
/-- (*strings.Builder).Grow AT A BUILDER THAT HAS NOT BEEN WRITTEN ('var b strings.Builder; b.Grow(n)'): "Grow grows b's capacity, if necessary, to guarantee space for another n bytes.": it holds no byte behind it as before it. (LAID: no walk: one application.) -/
theorem Try.Builder_Grow_fresh (B b n : Nat) (w : World) (hB : B ≤ b) (hbk : w.heap[b]? = some (.cells #[.pointer none, .slice none 0 0] 61 (0, 0))) (hBw : B ≤ w.heap.size) (hn : n ≤ 281474976710656) :
    Calls Try.prog 30 #[.pointer (some ⟨b, 0, none⟩), .int .i64 n] w fun e w' => e = .returned (.tuple #[]) ∧ (Lib.BuilderAt 61 5 B b (.pointer (some ⟨b, 0, none⟩)) [] w' ∧ Below B w w') := Any.Builder_Grow_fresh Try.lays165 Try.Builder_Extra_165 B b n w hB hbk hBw hn
def Try.lays156_ren : Go.Shelf.Ren := ⟨fun | 156 => 23 | 165 => 30 | 166 => 31 | 169 => 32 | 240 => 35 | 241 => 36 | 276 => 38 | 277 => 39 | n => n, fun | 31 => 25 | 9 => 9 | 3 => 3 | 4 => 4 | 0 => 0 | 20 => 20 | 72 => 61 | 76 => 65 | 70 => 59 | 37 => 58 | 75 => 64 | 127 => 68 | 164 => 70 | 5 => 5 | 80 => 67 | n => n, fun | n => n⟩
theorem Try.lays156 : Go.Proofs.Lays.n156 Try.prog Try.lays156_ren := {
  mixed := by kernel_rfl
  f156 := Try.func23.trans (congrArg some (by kernel_rfl))
  f165 := Try.func30.trans (congrArg some (by kernel_rfl))
  f166 := Try.func31.trans (congrArg some (by kernel_rfl))
  f169 := Try.func32.trans (congrArg some (by kernel_rfl))
  f240 := Try.func35.trans (congrArg some (by kernel_rfl))
  f241 := Try.func36.trans (congrArg some (by kernel_rfl))
  f276 := Try.func38.trans (congrArg some (by kernel_rfl))
  f277 := Try.func39.trans (congrArg some (by kernel_rfl))
  t0 := Try.underlying0
  a0 := Try.isAgg0
  z0 := Try.sizeOf0
  v0 := Try.zeroValue0
  t3 := Try.underlying3
  a3 := Try.isAgg3
  z3 := Try.sizeOf3
  v3 := Try.zeroValue3
  t4 := Try.underlying4
  a4 := Try.isAgg4
  z4 := Try.sizeOf4
  v4 := Try.zeroValue4
  t9 := Try.underlying9
  a9 := Try.isAgg9
  z9 := Try.sizeOf9
  v9 := Try.zeroValue9
  t20 := Try.underlying20
  a20 := Try.isAgg20
  z20 := Try.sizeOf20
  v20 := Try.zeroValue20
  t31 := Try.underlying25
  a31 := Try.isAgg25
  z31 := Try.sizeOf25
  v31 := Try.zeroValue25
  t37 := Try.underlying58
  a37 := Try.isAgg58
  z37 := Try.sizeOf58
  v37 := Try.zeroValue58
  t70 := Try.underlying59
  a70 := Try.isAgg59
  z70 := Try.sizeOf59
  v70 := Try.zeroValue59
  t72 := Try.underlying61
  a72 := Try.isAgg61
  z72 := Try.sizeOf61
  v72 := Try.zeroValue61
  t75 := Try.underlying64
  a75 := Try.isAgg64
  z75 := Try.sizeOf64
  v75 := Try.zeroValue64
  t76 := Try.underlying65
  a76 := Try.isAgg65
  z76 := Try.sizeOf65
  v76 := Try.zeroValue65
  t127 := Try.underlying68
  a127 := Try.isAgg68
  z127 := Try.sizeOf68
  v127 := Try.zeroValue68
  t164 := Try.underlying70
  a164 := Try.isAgg70
  z164 := Try.sizeOf70
  v164 := Try.zeroValue70 }
theorem Try.Builder_Extra_156 : Builder.Extra Try.prog Try.lays156_ren := {
  sizeBuilder := by kernel_rfl
  liesBuilder := by kernel_rfl
  t5 := Try.underlying5
  a5 := Try.isAgg5
  z5 := Try.sizeOf5
  v5 := Try.zeroValue5
  infoByte := by kernel_rfl
  cellsByte := by kernel_rfl
  sizeByte := by kernel_rfl
  neB5 := by decide }
open Go.RowKit in
/-- No element: the empty string; the world is as it was. (Whatever the slice's address and capacity: a nil slice too.) (LAID: no walk: one application.) -/
theorem Try.strings_Join_none (a : Option Addr) (c : Nat) (sep : ByteArray) (w : World) :
    Calls Try.prog 23 #[.slice a 0 c, .string sep] w fun e w' => e = .returned (.string ⟨#[]⟩) ∧ w' = w := Any.strings_Join_none Try.lays156 Try.Builder_Extra_156 a c sep w
open Go.RowKit in
/-- strings.Join: "Join concatenates the elements of its first argument to create a single string. The separator string sep is placed between elements in the resulting string.": HOWEVER MANY ELEMENTS. Below the heap's end the world is as it was. (LAID: no walk: one application.) -/
theorem Try.strings_Join (bk o c : Nat) (xs : List ByteArray) (sep : ByteArray) (w : World) (hcells : ∀ (j : Nat) x, xs[j]? = some x → w.cell? ⟨bk, o + j, none⟩ = some (.string x)) (hbk : bk < w.heap.size) (hN : xs.length ≤ 140737488355328) (hcap : xs.length ≤ c) (hlen : (Lib.join (xs.map (·.data.toList)) sep.data.toList).length ≤ 140737488355328) :
    Calls Try.prog 23 #[.slice (some ⟨bk, o, none⟩) xs.length c, .string sep] w fun e w' => e = .returned (.string ⟨(Lib.join (xs.map (·.data.toList)) sep.data.toList).toArray⟩) ∧ Below w.heap.size w w' := Any.strings_Join Try.lays156 Try.Builder_Extra_156 bk o c xs sep w hcells hbk hN hcap hlen
open Go.RowKit in
/-- (*strings.Builder).String: "String returns the accumulated string.": OF A BUILDER THAT HOLDS AT LEAST ONE BYTE. ✋ THE MODEL FREEZES THOSE BYTES IN THE BUFFER (unsafe.String): a later write INTO them ends the model's run without an answer; a later append BEHIND them goes on. The statement's order of evaluation is drawn: one draw. THE FORM '_f': IT SAYS BESIDES THAT THE BUILDER IS A BUILDER STILL ('Lib.IsBuilderF', the same bytes): SO IT CAN BE WRITTEN ON: 'b.WriteString(b.String()[:k])'. (LAID: no walk: one application.) -/
theorem Try.Builder_String_f (B b : Nat) (l : List UInt8) (w : World) (h : Lib.IsBuilderF 61 5 B b (Lib.byteCells l) w) (h0 : l ≠ []) :
    Calls Try.prog 32 #[.pointer (some ⟨b, 0, none⟩)] w fun e w' => e = .returned (.string ⟨l.toArray⟩) ∧ (Lib.IsBuilderF 61 5 B b (Lib.byteCells l) w' ∧ Below B w w') := Any.Builder_String_f Try.lays169 Try.Builder_Extra_169 B b l w h h0
open Go.RowKit in
/-- (*strings.Builder).String OF A BUILDER THAT HOLDS NO BYTE: the empty string; THE FORM '_f': a builder still. (LAID: no walk: one application.) -/
theorem Try.Builder_String_empty_f (B b : Nat) (w : World) (h : Lib.IsBuilderF 61 5 B b [] w) (hBw : B ≤ w.heap.size) :
    Calls Try.prog 32 #[.pointer (some ⟨b, 0, none⟩)] w fun e w' => e = .returned (.string ⟨#[]⟩) ∧ (Lib.IsBuilderF 61 5 B b [] w' ∧ Below B w w') := Any.Builder_String_empty_f Try.lays169 Try.Builder_Extra_169 B b w h hBw
open Go.RowKit in
/-- (*strings.Builder).String: "String returns the accumulated string.": WHATEVER THE BUILDER HOLDS; THE FORM '_f': OF A BUILDER THAT MAY HAVE BEEN READ BEFORE; AND IT IS A BUILDER STILL, holding the same bytes: it can be written on. (LAID: no walk: one application.) -/
theorem Try.Builder_String_any_f (B b : Nat) (l : List UInt8) (w : World) (h : Lib.IsBuilderF 61 5 B b (Lib.byteCells l) w) (hBw : B ≤ w.heap.size) :
    Calls Try.prog 32 #[.pointer (some ⟨b, 0, none⟩)] w fun e w' => e = .returned (.string ⟨l.toArray⟩) ∧ (Lib.IsBuilderF 61 5 B b (Lib.byteCells l) w' ∧ Below B w w') := Any.Builder_String_any_f Try.lays169 Try.Builder_Extra_169 B b l w h hBw
open Go.RowKit in
/-- (*strings.Builder).String: "String returns the accumulated string.": OF A BUILDER THAT HOLDS AT LEAST ONE BYTE. ✋ THE MODEL FREEZES THOSE BYTES IN THE BUFFER (unsafe.String): a later write INTO them ends the model's run without an answer; a later append BEHIND them goes on. The statement's order of evaluation is drawn: one draw. THE FORM '_k': OVER 'Lib.IsBuilderF' (a builder that 'String()' may have read), AND WITH THE FRAME THAT REACHES ABOVE THE BUILDER: 'Lib.OthersKept': every block that is not b and is no row of uint8's stands as it stood: the iterator of a range among them. (LAID: no walk: one application.) -/
theorem Try.Builder_String_k (B b : Nat) (l : List UInt8) (w : World) (h : Lib.IsBuilderF 61 5 B b (Lib.byteCells l) w) (h0 : l ≠ []) :
    Calls Try.prog 32 #[.pointer (some ⟨b, 0, none⟩)] w fun e w' => e = .returned (.string ⟨l.toArray⟩) ∧ (Lib.IsBuilderF 61 5 B b (Lib.byteCells l) w' ∧ Below B w w' ∧ Lib.OthersKept 5 (some b) w w') := Any.Builder_String_k Try.lays169 Try.Builder_Extra_169 B b l w h h0
open Go.RowKit in
/-- (*strings.Builder).String OF A BUILDER THAT HOLDS NO BYTE: the empty string; THE FORM '_k': OVER 'Lib.IsBuilderF' (a builder that 'String()' may have read), AND WITH THE FRAME THAT REACHES ABOVE THE BUILDER: 'Lib.OthersKept': every block that is not b and is no row of uint8's stands as it stood: the iterator of a range among them. (LAID: no walk: one application.) -/
theorem Try.Builder_String_empty_k (B b : Nat) (w : World) (h : Lib.IsBuilderF 61 5 B b [] w) (hBw : B ≤ w.heap.size) :
    Calls Try.prog 32 #[.pointer (some ⟨b, 0, none⟩)] w fun e w' => e = .returned (.string ⟨#[]⟩) ∧ (Lib.IsBuilderF 61 5 B b [] w' ∧ Below B w w' ∧ Lib.OthersKept 5 (some b) w w') := Any.Builder_String_empty_k Try.lays169 Try.Builder_Extra_169 B b w h hBw
open Go.RowKit in
/-- (*strings.Builder).String: "String returns the accumulated string.": WHATEVER THE BUILDER HOLDS; THE FORM '_k': OVER 'Lib.IsBuilderF' (a builder that 'String()' may have read), AND WITH THE FRAME THAT REACHES ABOVE THE BUILDER: 'Lib.OthersKept': every block that is not b and is no row of uint8's stands as it stood: the iterator of a range among them. (LAID: no walk: one application.) -/
theorem Try.Builder_String_any_k (B b : Nat) (l : List UInt8) (w : World) (h : Lib.IsBuilderF 61 5 B b (Lib.byteCells l) w) (hBw : B ≤ w.heap.size) :
    Calls Try.prog 32 #[.pointer (some ⟨b, 0, none⟩)] w fun e w' => e = .returned (.string ⟨l.toArray⟩) ∧ (Lib.IsBuilderF 61 5 B b (Lib.byteCells l) w' ∧ Below B w w' ∧ Lib.OthersKept 5 (some b) w w') := Any.Builder_String_any_k Try.lays169 Try.Builder_Extra_169 B b l w h hBw
open Go.RowKit in
/-- (*strings.Builder).grow (no doc but "grow copies the buffer to a new, larger buffer so that there are at least n bytes of capacity beyond len(b.buf)."): AT A BUILDER WITHOUT A BUFFER: a new row of whatever bytes for its buffer, none of them its own yet. Three draws. (LAID: no walk: one application.) -/
theorem Try.Builder_grow_fresh_cap (B b n : Nat) (w : World) (hB : B ≤ b) (hbk : w.heap[b]? = some (.cells #[.pointer (some ⟨b, 0, none⟩), .slice none 0 0] 61 (0, 0))) (hBw : B ≤ w.heap.size) (hn : n ≤ 281474976710656) :
    Calls Try.prog 36 #[.pointer (some ⟨b, 0, none⟩), .int .i64 n] w fun e w' => e = .returned (.tuple #[]) ∧ (Lib.BuilderAt 61 5 B b (.pointer (some ⟨b, 0, none⟩)) [] w' ∧ Below B w w') ∧ ∃ p cap, w'.cell? ⟨b, 1, none⟩ = some (.slice p 0 cap) ∧ n ≤ cap := Any.Builder_grow_fresh_cap Try.lays241 Try.Builder_Extra_241 B b n w hB hbk hBw hn
open Go.RowKit in
/-- (*strings.Builder).Grow AT A BUILDER THAT HAS NOT BEEN WRITTEN ('var b strings.Builder; b.Grow(n)'): "Grow grows b's capacity, if necessary, to guarantee space for another n bytes.": it holds no byte behind it as before it. (LAID: no walk: one application.) -/
theorem Try.Builder_Grow_fresh_cap (B b n : Nat) (w : World) (hB : B ≤ b) (hbk : w.heap[b]? = some (.cells #[.pointer none, .slice none 0 0] 61 (0, 0))) (hBw : B ≤ w.heap.size) (hn : n ≤ 281474976710656) :
    Calls Try.prog 30 #[.pointer (some ⟨b, 0, none⟩), .int .i64 n] w fun e w' => e = .returned (.tuple #[]) ∧ (Lib.BuilderAt 61 5 B b (.pointer (some ⟨b, 0, none⟩)) [] w' ∧ Below B w w') ∧ ∃ p cap, w'.cell? ⟨b, 1, none⟩ = some (.slice p 0 cap) ∧ n ≤ cap := Any.Builder_Grow_fresh_cap Try.lays165 Try.Builder_Extra_165 B b n w hB hbk hBw hn
def Try.lays217_ren : Go.Shelf.Ren := ⟨fun | 217 => 40 | 266 => 44 | n => n, fun | 9 => 9 | 5 => 5 | 3 => 3 | n => n, fun | n => n⟩
theorem Try.lays217 : Go.Proofs.Lays.n217 Try.prog Try.lays217_ren := {
  mixed := by kernel_rfl
  f217 := Try.func40.trans (congrArg some (by kernel_rfl))
  f266 := Try.func44.trans (congrArg some (by kernel_rfl))
  t3 := Try.underlying3
  a3 := Try.isAgg3
  z3 := Try.sizeOf3
  v3 := Try.zeroValue3
  t5 := Try.underlying5
  a5 := Try.isAgg5
  z5 := Try.sizeOf5
  v5 := Try.zeroValue5
  t9 := Try.underlying9
  a9 := Try.isAgg9
  z9 := Try.sizeOf9
  v9 := Try.zeroValue9 }
open Go.RowKit Go.Lib in
/-- internal/stringslite.IndexByte (what strings.IndexByte calls): IT RETURNS 'Lib.indexByte s c'; the world is as it was. (LAID: no walk: one application.) -/
theorem Try.stringslite_IndexByte (s : ByteArray) (c : Int) (w : World) :
    Calls Try.prog 40 #[.string s, .int .u8 c] w fun e w' => e = .returned (.int .i64 (Lib.indexByte s.data.toList c.toNat.toUInt8)) ∧ w' = w := Any.stringslite_IndexByte Try.lays217 s c w
def Try.lays224_ren : Go.Shelf.Ren := ⟨fun | 224 => 42 | n => n, fun | 3 => 3 | n => n, fun | n => n⟩
theorem Try.lays224 : Go.Proofs.Lays.n224 Try.prog Try.lays224_ren := {
  mixed := by kernel_rfl
  f224 := Try.func42.trans (congrArg some (by kernel_rfl))
  t3 := Try.underlying3
  a3 := Try.isAgg3
  z3 := Try.sizeOf3
  v3 := Try.zeroValue3 }
open Go.RowKit Go.Lib in
/-- internal/bytealg.Cutover: "Cutover reports the number of failures of IndexByte we should tolerate before switching over to Index. n is the number of bytes processed so far.": on amd64: (n + 16) / 8. (LAID: no walk: one application.) -/
theorem Try.bytealg_Cutover (n : Int) (h0 : 0 ≤ n) (h1 : n < 4611686018427387904) (w : World) :
    Calls Try.prog 42 #[.int .i64 n] w fun e w' => e = .returned (.int .i64 ((n + 16) / 8)) ∧ w' = w := Any.bytealg_Cutover Try.lays224 n h0 h1 w
def Try.lays314_ren : Go.Shelf.Ren := ⟨fun | 314 => 45 | n => n, fun | 9 => 9 | 51 => 75 | 3 => 3 | 4 => 4 | 5 => 5 | 46 => 74 | n => n, fun | n => n⟩
theorem Try.lays314 : Go.Proofs.Lays.n314 Try.prog Try.lays314_ren := {
  mixed := by kernel_rfl
  f314 := Try.func45.trans (congrArg some (by kernel_rfl))
  t3 := Try.underlying3
  a3 := Try.isAgg3
  z3 := Try.sizeOf3
  v3 := Try.zeroValue3
  t4 := Try.underlying4
  a4 := Try.isAgg4
  z4 := Try.sizeOf4
  v4 := Try.zeroValue4
  t5 := Try.underlying5
  a5 := Try.isAgg5
  z5 := Try.sizeOf5
  v5 := Try.zeroValue5
  t9 := Try.underlying9
  a9 := Try.isAgg9
  z9 := Try.sizeOf9
  v9 := Try.zeroValue9
  t46 := Try.underlying74
  a46 := Try.isAgg74
  z46 := Try.sizeOf74
  v46 := Try.zeroValue74
  t51 := Try.underlying75
  a51 := Try.isAgg75
  z51 := Try.sizeOf75
  v51 := Try.zeroValue75 }
open Go.RowKit Go.Lib in
/-- hashStr: "returns the hash and the appropriate multiplicative factor for use in Rabin-Karp algorithm": THE HASH OF ALL OF sep, AND 16777619 ^ len(sep), both in uint32. (LAID: no walk: one application.) -/
theorem Try.bytealg_hashStr (sep : ByteArray) (hs : sep.size < 4294967281) (w : World) :
    Calls Try.prog 45 #[.string sep] w fun e w' => e = .returned (.tuple #[.int .u32 (RK.H sep.data.toList % 4294967296), .int .u32 (16777619 ^ sep.size % 4294967296)]) ∧ w' = w := Any.bytealg_hashStr Try.lays314 sep hs w
def Try.lays267_ren : Go.Shelf.Ren := ⟨fun | 267 => 43 | 314 => 45 | n => n, fun | 9 => 9 | 3 => 3 | 146 => 76 | 51 => 75 | 4 => 4 | 5 => 5 | 46 => 74 | n => n, fun | n => n⟩
theorem Try.lays267 : Go.Proofs.Lays.n267 Try.prog Try.lays267_ren := {
  mixed := by kernel_rfl
  f267 := Try.func43.trans (congrArg some (by kernel_rfl))
  f314 := Try.func45.trans (congrArg some (by kernel_rfl))
  t3 := Try.underlying3
  a3 := Try.isAgg3
  z3 := Try.sizeOf3
  v3 := Try.zeroValue3
  t4 := Try.underlying4
  a4 := Try.isAgg4
  z4 := Try.sizeOf4
  v4 := Try.zeroValue4
  t5 := Try.underlying5
  a5 := Try.isAgg5
  z5 := Try.sizeOf5
  v5 := Try.zeroValue5
  t9 := Try.underlying9
  a9 := Try.isAgg9
  z9 := Try.sizeOf9
  v9 := Try.zeroValue9
  t46 := Try.underlying74
  a46 := Try.isAgg74
  z46 := Try.sizeOf74
  v46 := Try.zeroValue74
  t51 := Try.underlying75
  a51 := Try.isAgg75
  z51 := Try.sizeOf75
  v51 := Try.zeroValue75
  t146 := Try.underlying76
  a146 := Try.isAgg76
  z146 := Try.sizeOf76
  v146 := Try.zeroValue76 }
open Go.RowKit Go.Lib in
theorem Try.bytealg_IndexRabinKarp (s sep : ByteArray) (h1 : 1 ≤ sep.size) (h2 : sep.size ≤ s.size) (hs : s.size < 4294967281) (w : World) :
    Calls Try.prog 43 #[.string s, .string sep] w fun e w' => e = .returned (.int .i64 (Lib.index s.data.toList sep.data.toList)) ∧ w' = w := Any.bytealg_IndexRabinKarp Try.lays267 s sep h1 h2 hs w
def Try.lays219_ren : Go.Shelf.Ren := ⟨fun | 219 => 37 | 217 => 40 | 225 => 41 | 224 => 42 | 267 => 43 | 266 => 44 | 314 => 45 | n => n, fun | 9 => 9 | 3 => 3 | 4 => 4 | 5 => 5 | 46 => 74 | 146 => 76 | 51 => 75 | n => n, fun | 1 => 0 | n => n⟩
theorem Try.lays219 : Go.Proofs.Lays.n219 Try.prog Try.lays219_ren := {
  mixed := by kernel_rfl
  f217 := Try.func40.trans (congrArg some (by kernel_rfl))
  f219 := Try.func37.trans (congrArg some (by kernel_rfl))
  f224 := Try.func42.trans (congrArg some (by kernel_rfl))
  f225 := Try.func41.trans (congrArg some (by kernel_rfl))
  f266 := Try.func44.trans (congrArg some (by kernel_rfl))
  f267 := Try.func43.trans (congrArg some (by kernel_rfl))
  f314 := Try.func45.trans (congrArg some (by kernel_rfl))
  t3 := Try.underlying3
  a3 := Try.isAgg3
  z3 := Try.sizeOf3
  v3 := Try.zeroValue3
  t4 := Try.underlying4
  a4 := Try.isAgg4
  z4 := Try.sizeOf4
  v4 := Try.zeroValue4
  t5 := Try.underlying5
  a5 := Try.isAgg5
  z5 := Try.sizeOf5
  v5 := Try.zeroValue5
  t9 := Try.underlying9
  a9 := Try.isAgg9
  z9 := Try.sizeOf9
  v9 := Try.zeroValue9
  t46 := Try.underlying74
  a46 := Try.isAgg74
  z46 := Try.sizeOf74
  v46 := Try.zeroValue74
  t51 := Try.underlying75
  a51 := Try.isAgg75
  z51 := Try.sizeOf75
  v51 := Try.zeroValue75
  t146 := Try.underlying76
  a146 := Try.isAgg76
  z146 := Try.sizeOf76
  v146 := Try.zeroValue76
  g1 := by kernel_rfl }
open Go.RowKit Go.Lib in
/-- internal/stringslite.Index (what strings.Index calls) AT A substr OF ONE BYTE c: IT RETURNS 'Lib.indexByte s c'; the world is as it was. (LAID: no walk: one application.) -/
theorem Try.stringslite_Index_one (s : ByteArray) (c : UInt8) (w : World) :
    Calls Try.prog 37 #[.string s, .string ⟨#[c]⟩] w fun e w' => e = .returned (.int .i64 (Lib.indexByte s.data.toList c)) ∧ w' = w := Any.stringslite_Index_one Try.lays219 s c w
open Go.RowKit Go.Lib in
/-- internal/stringslite.Index (what strings.Index calls) AT A substr OF WHATEVER LENGTH: IT RETURNS 'Lib.index s substr'; the world is as it was. 'm': what internal/bytealg.MaxLen holds: whatever. (LAID: no walk: one application.) -/
theorem Try.stringslite_Index (s sub : ByteArray) (m : Int) (w : World) (hs : s.size < 4294967281) (hm : w.cell? ⟨0, 0, none⟩ = some (.int .i64 m)) :
    Calls Try.prog 37 #[.string s, .string sub] w fun e w' => e = .returned (.int .i64 (Lib.index s.data.toList sub.data.toList)) ∧ w' = w := Any.stringslite_Index Try.lays219 s sub m w hs hm
def Try.lays220_ren : Go.Shelf.Ren := ⟨fun | 220 => 34 | 219 => 37 | 217 => 40 | 225 => 41 | 224 => 42 | 267 => 43 | 266 => 44 | 314 => 45 | n => n, fun | 9 => 9 | 4 => 4 | 3 => 3 | 5 => 5 | 46 => 74 | 146 => 76 | 51 => 75 | n => n, fun | 1 => 0 | n => n⟩
theorem Try.lays220 : Go.Proofs.Lays.n220 Try.prog Try.lays220_ren := {
  mixed := by kernel_rfl
  f217 := Try.func40.trans (congrArg some (by kernel_rfl))
  f219 := Try.func37.trans (congrArg some (by kernel_rfl))
  f220 := Try.func34.trans (congrArg some (by kernel_rfl))
  f224 := Try.func42.trans (congrArg some (by kernel_rfl))
  f225 := Try.func41.trans (congrArg some (by kernel_rfl))
  f266 := Try.func44.trans (congrArg some (by kernel_rfl))
  f267 := Try.func43.trans (congrArg some (by kernel_rfl))
  f314 := Try.func45.trans (congrArg some (by kernel_rfl))
  t3 := Try.underlying3
  a3 := Try.isAgg3
  z3 := Try.sizeOf3
  v3 := Try.zeroValue3
  t4 := Try.underlying4
  a4 := Try.isAgg4
  z4 := Try.sizeOf4
  v4 := Try.zeroValue4
  t5 := Try.underlying5
  a5 := Try.isAgg5
  z5 := Try.sizeOf5
  v5 := Try.zeroValue5
  t9 := Try.underlying9
  a9 := Try.isAgg9
  z9 := Try.sizeOf9
  v9 := Try.zeroValue9
  t46 := Try.underlying74
  a46 := Try.isAgg74
  z46 := Try.sizeOf74
  v46 := Try.zeroValue74
  t51 := Try.underlying75
  a51 := Try.isAgg75
  z51 := Try.sizeOf75
  v51 := Try.zeroValue75
  t146 := Try.underlying76
  a146 := Try.isAgg76
  z146 := Try.sizeOf76
  v146 := Try.zeroValue76
  g1 := by kernel_rfl }
open Go.RowKit Go.Lib in
/-- internal/stringslite.Cut (what strings.Cut calls): IT RETURNS 'Lib.cut s sep'; the world is as it was but for the count of draws. (LAID: no walk: one application.) -/
theorem Try.stringslite_Cut (s sep : ByteArray) (m : Int) (w : World) (hs : s.size < 4294967281) (hm : w.cell? ⟨0, 0, none⟩ = some (.int .i64 m)) :
    Calls Try.prog 34 #[.string s, .string sep] w fun e w' => e = .returned (.tuple #[.string ⟨(Lib.cut s.data.toList sep.data.toList).1.toArray⟩, .string ⟨(Lib.cut s.data.toList sep.data.toList).2.1.toArray⟩, .bool (Lib.cut s.data.toList sep.data.toList).2.2]) ∧ ∃ n, w' = w.drewN n := Any.stringslite_Cut Try.lays220 s sep m w hs hm
def Try.lays145_ren : Go.Shelf.Ren := ⟨fun | 145 => 27 | 220 => 34 | 219 => 37 | 217 => 40 | 225 => 41 | 224 => 42 | 267 => 43 | 266 => 44 | 314 => 45 | n => n, fun | 9 => 9 | 4 => 4 | 59 => 53 | 3 => 3 | 5 => 5 | 46 => 74 | 146 => 76 | 51 => 75 | n => n, fun | 1 => 0 | n => n⟩
theorem Try.lays145 : Go.Proofs.Lays.n145 Try.prog Try.lays145_ren := {
  mixed := by kernel_rfl
  f145 := Try.func27.trans (congrArg some (by kernel_rfl))
  f217 := Try.func40.trans (congrArg some (by kernel_rfl))
  f219 := Try.func37.trans (congrArg some (by kernel_rfl))
  f220 := Try.func34.trans (congrArg some (by kernel_rfl))
  f224 := Try.func42.trans (congrArg some (by kernel_rfl))
  f225 := Try.func41.trans (congrArg some (by kernel_rfl))
  f266 := Try.func44.trans (congrArg some (by kernel_rfl))
  f267 := Try.func43.trans (congrArg some (by kernel_rfl))
  f314 := Try.func45.trans (congrArg some (by kernel_rfl))
  t3 := Try.underlying3
  a3 := Try.isAgg3
  z3 := Try.sizeOf3
  v3 := Try.zeroValue3
  t4 := Try.underlying4
  a4 := Try.isAgg4
  z4 := Try.sizeOf4
  v4 := Try.zeroValue4
  t5 := Try.underlying5
  a5 := Try.isAgg5
  z5 := Try.sizeOf5
  v5 := Try.zeroValue5
  t9 := Try.underlying9
  a9 := Try.isAgg9
  z9 := Try.sizeOf9
  v9 := Try.zeroValue9
  t46 := Try.underlying74
  a46 := Try.isAgg74
  z46 := Try.sizeOf74
  v46 := Try.zeroValue74
  t51 := Try.underlying75
  a51 := Try.isAgg75
  z51 := Try.sizeOf75
  v51 := Try.zeroValue75
  t59 := Try.underlying53
  a59 := Try.isAgg53
  z59 := Try.sizeOf53
  v59 := Try.zeroValue53
  t146 := Try.underlying76
  a146 := Try.isAgg76
  z146 := Try.sizeOf76
  v146 := Try.zeroValue76
  g1 := by kernel_rfl }
open Go.RowKit Go.Lib in
/-- strings.Cut: "Cut slices s around the first instance of sep, returning the text before and after sep. The found result reports whether sep appears in s. If sep does not appear in s, cut returns s, "", false.": IT RETURNS 'Lib.cut s sep'; the world is as it was but for the count of draws. (LAID: no walk: one application.) -/
theorem Try.strings_Cut (s sep : ByteArray) (m : Int) (w : World) (hs : s.size < 4294967281) (hm : w.cell? ⟨0, 0, none⟩ = some (.int .i64 m)) :
    Calls Try.prog 27 #[.string s, .string sep] w fun e w' => e = .returned (.tuple #[.string ⟨(Lib.cut s.data.toList sep.data.toList).1.toArray⟩, .string ⟨(Lib.cut s.data.toList sep.data.toList).2.1.toArray⟩, .bool (Lib.cut s.data.toList sep.data.toList).2.2]) ∧ ∃ n, w' = w.drewN n := Any.strings_Cut Try.lays145 s sep m w hs hm
def Try.laysM219_ren : Go.Shelf.Ren := ⟨fun | 219 => 37 | 217 => 40 | 225 => 41 | 224 => 42 | 267 => 43 | 266 => 44 | 314 => 45 | n => n, fun | 9 => 9 | 3 => 3 | 4 => 4 | 5 => 5 | 46 => 74 | 146 => 76 | 51 => 75 | n => n, fun | 1 => 0 | n => n⟩
theorem Try.laysM219 : Go.Proofs.LaysM.n219 Try.prog Try.laysM219_ren := {
  mixed := by kernel_rfl
  f217 := Try.func40.trans (congrArg some (by kernel_rfl))
  f219 := Try.func37.trans (congrArg some (by kernel_rfl))
  f224 := Try.func42.trans (congrArg some (by kernel_rfl))
  f225 := Try.func41.trans (congrArg some (by kernel_rfl))
  f266 := Try.func44.trans (congrArg some (by kernel_rfl))
  f267 := Try.func43.trans (congrArg some (by kernel_rfl))
  f314 := Try.func45.trans (congrArg some (by kernel_rfl))
  t3 := Try.underlying3
  a3 := Try.isAgg3
  z3 := Try.sizeOf3
  v3 := Try.zeroValue3
  t4 := Try.underlying4
  a4 := Try.isAgg4
  z4 := Try.sizeOf4
  v4 := Try.zeroValue4
  t5 := Try.underlying5
  a5 := Try.isAgg5
  z5 := Try.sizeOf5
  v5 := Try.zeroValue5
  t9 := Try.underlying9
  a9 := Try.isAgg9
  z9 := Try.sizeOf9
  v9 := Try.zeroValue9
  t46 := Try.underlying74
  a46 := Try.isAgg74
  z46 := Try.sizeOf74
  v46 := Try.zeroValue74
  t51 := Try.underlying75
  a51 := Try.isAgg75
  z51 := Try.sizeOf75
  v51 := Try.zeroValue75
  t146 := Try.underlying76
  a146 := Try.isAgg76
  z146 := Try.sizeOf76
  v146 := Try.zeroValue76
  g1 := by kernel_rfl
  i3 := by kernel_rfl
  i4 := by kernel_rfl
  i5 := by kernel_rfl
  i9 := by kernel_rfl
  i46 := by kernel_rfl
  i51 := by kernel_rfl
  i146 := by kernel_rfl
  m1 := by kernel_rfl
  s1_3 := fun w h => Go.Proofs.cell_of_shapedOpen_int (zero := #[.int .i64 0]) (t := 3) h (of_decide_eq_true (by kernel_rfl)) (by kernel_rfl) rfl (by kernel_rfl) (by kernel_rfl) Try.underlying3 }
open Go.RowKit Go.Lib in
theorem Try.stringslite_Index_shaped (s sub : ByteArray) (w : World) (h : w.ShapedOpen Try.prog) (hs : s.size < 4294967281) :
    Calls Try.prog 37 #[.string s, .string sub] w fun e w' => e = .returned (.int .i64 (Lib.index s.data.toList sub.data.toList)) ∧ w' = w := Any.stringslite_Index_shaped Try.laysM219 s sub w h hs
def Try.laysM220_ren : Go.Shelf.Ren := ⟨fun | 220 => 34 | 219 => 37 | 217 => 40 | 225 => 41 | 224 => 42 | 267 => 43 | 266 => 44 | 314 => 45 | n => n, fun | 9 => 9 | 4 => 4 | 3 => 3 | 5 => 5 | 46 => 74 | 146 => 76 | 51 => 75 | n => n, fun | 1 => 0 | n => n⟩
theorem Try.laysM220 : Go.Proofs.LaysM.n220 Try.prog Try.laysM220_ren := {
  mixed := by kernel_rfl
  f217 := Try.func40.trans (congrArg some (by kernel_rfl))
  f219 := Try.func37.trans (congrArg some (by kernel_rfl))
  f220 := Try.func34.trans (congrArg some (by kernel_rfl))
  f224 := Try.func42.trans (congrArg some (by kernel_rfl))
  f225 := Try.func41.trans (congrArg some (by kernel_rfl))
  f266 := Try.func44.trans (congrArg some (by kernel_rfl))
  f267 := Try.func43.trans (congrArg some (by kernel_rfl))
  f314 := Try.func45.trans (congrArg some (by kernel_rfl))
  t3 := Try.underlying3
  a3 := Try.isAgg3
  z3 := Try.sizeOf3
  v3 := Try.zeroValue3
  t4 := Try.underlying4
  a4 := Try.isAgg4
  z4 := Try.sizeOf4
  v4 := Try.zeroValue4
  t5 := Try.underlying5
  a5 := Try.isAgg5
  z5 := Try.sizeOf5
  v5 := Try.zeroValue5
  t9 := Try.underlying9
  a9 := Try.isAgg9
  z9 := Try.sizeOf9
  v9 := Try.zeroValue9
  t46 := Try.underlying74
  a46 := Try.isAgg74
  z46 := Try.sizeOf74
  v46 := Try.zeroValue74
  t51 := Try.underlying75
  a51 := Try.isAgg75
  z51 := Try.sizeOf75
  v51 := Try.zeroValue75
  t146 := Try.underlying76
  a146 := Try.isAgg76
  z146 := Try.sizeOf76
  v146 := Try.zeroValue76
  g1 := by kernel_rfl
  i3 := by kernel_rfl
  i4 := by kernel_rfl
  i5 := by kernel_rfl
  i9 := by kernel_rfl
  i46 := by kernel_rfl
  i51 := by kernel_rfl
  i146 := by kernel_rfl
  m1 := by kernel_rfl
  s1_3 := fun w h => Go.Proofs.cell_of_shapedOpen_int (zero := #[.int .i64 0]) (t := 3) h (of_decide_eq_true (by kernel_rfl)) (by kernel_rfl) rfl (by kernel_rfl) (by kernel_rfl) Try.underlying3 }
open Go.RowKit Go.Lib in
theorem Try.stringslite_Cut_shaped (s sep : ByteArray) (w : World) (h : w.ShapedOpen Try.prog) (hs : s.size < 4294967281) :
    Calls Try.prog 34 #[.string s, .string sep] w fun e w' => e = .returned (.tuple #[.string ⟨(Lib.cut s.data.toList sep.data.toList).1.toArray⟩, .string ⟨(Lib.cut s.data.toList sep.data.toList).2.1.toArray⟩, .bool (Lib.cut s.data.toList sep.data.toList).2.2]) ∧ ∃ n, w' = w.drewN n := Any.stringslite_Cut_shaped Try.laysM220 s sep w h hs
def Try.laysM145_ren : Go.Shelf.Ren := ⟨fun | 145 => 27 | 220 => 34 | 219 => 37 | 217 => 40 | 225 => 41 | 224 => 42 | 267 => 43 | 266 => 44 | 314 => 45 | n => n, fun | 9 => 9 | 4 => 4 | 59 => 53 | 3 => 3 | 5 => 5 | 46 => 74 | 146 => 76 | 51 => 75 | n => n, fun | 1 => 0 | n => n⟩
theorem Try.laysM145 : Go.Proofs.LaysM.n145 Try.prog Try.laysM145_ren := {
  mixed := by kernel_rfl
  f145 := Try.func27.trans (congrArg some (by kernel_rfl))
  f217 := Try.func40.trans (congrArg some (by kernel_rfl))
  f219 := Try.func37.trans (congrArg some (by kernel_rfl))
  f220 := Try.func34.trans (congrArg some (by kernel_rfl))
  f224 := Try.func42.trans (congrArg some (by kernel_rfl))
  f225 := Try.func41.trans (congrArg some (by kernel_rfl))
  f266 := Try.func44.trans (congrArg some (by kernel_rfl))
  f267 := Try.func43.trans (congrArg some (by kernel_rfl))
  f314 := Try.func45.trans (congrArg some (by kernel_rfl))
  t3 := Try.underlying3
  a3 := Try.isAgg3
  z3 := Try.sizeOf3
  v3 := Try.zeroValue3
  t4 := Try.underlying4
  a4 := Try.isAgg4
  z4 := Try.sizeOf4
  v4 := Try.zeroValue4
  t5 := Try.underlying5
  a5 := Try.isAgg5
  z5 := Try.sizeOf5
  v5 := Try.zeroValue5
  t9 := Try.underlying9
  a9 := Try.isAgg9
  z9 := Try.sizeOf9
  v9 := Try.zeroValue9
  t46 := Try.underlying74
  a46 := Try.isAgg74
  z46 := Try.sizeOf74
  v46 := Try.zeroValue74
  t51 := Try.underlying75
  a51 := Try.isAgg75
  z51 := Try.sizeOf75
  v51 := Try.zeroValue75
  t59 := Try.underlying53
  a59 := Try.isAgg53
  z59 := Try.sizeOf53
  v59 := Try.zeroValue53
  t146 := Try.underlying76
  a146 := Try.isAgg76
  z146 := Try.sizeOf76
  v146 := Try.zeroValue76
  g1 := by kernel_rfl
  i3 := by kernel_rfl
  i4 := by kernel_rfl
  i5 := by kernel_rfl
  i9 := by kernel_rfl
  i46 := by kernel_rfl
  i51 := by kernel_rfl
  i59 := by kernel_rfl
  i146 := by kernel_rfl
  m1 := by kernel_rfl
  s1_3 := fun w h => Go.Proofs.cell_of_shapedOpen_int (zero := #[.int .i64 0]) (t := 3) h (of_decide_eq_true (by kernel_rfl)) (by kernel_rfl) rfl (by kernel_rfl) (by kernel_rfl) Try.underlying3 }
open Go.RowKit Go.Lib in
theorem Try.strings_Cut_shaped (s sep : ByteArray) (w : World) (h : w.ShapedOpen Try.prog) (hs : s.size < 4294967281) :
    Calls Try.prog 27 #[.string s, .string sep] w fun e w' => e = .returned (.tuple #[.string ⟨(Lib.cut s.data.toList sep.data.toList).1.toArray⟩, .string ⟨(Lib.cut s.data.toList sep.data.toList).2.1.toArray⟩, .bool (Lib.cut s.data.toList sep.data.toList).2.2]) ∧ ∃ n, w' = w.drewN n := Any.strings_Cut_shaped Try.laysM145 s sep w h hs
end Go.Proofs
namespace Go.Proofs.Ytffmjongaodjgaa
set_option linter.unusedVariables false
set_option linter.unusedSimpArgs false
set_option linter.unnecessarySimpa false
open Go.RowKit
theorem Sep.ofBelow {E : En} {K : Hp} {L : List Atom} {w w' : World} (h : Sep E K L w) (b : Below w.heap.size w w') : Sep E K L w' := h.fr (Fr.of_below b)
def Gk (K : Hp) : Prop := ∃ m : Int, cellK K 0 0 = some (.int .i64 m)
theorem Gk.mono {K K' : Hp} (h : Gk K) (f : K.le K') : Gk K' := let ⟨m, h⟩ := h; ⟨m, cellK_le f h⟩
theorem Gk.of {W : World} (h : W.ShapedOpen Try.prog) : Gk (Hp.of W) :=
 let ⟨m, hm⟩ := Go.Proofs.cell_of_shapedOpen_int (zero := #[.int .i64 0]) (t := 3) h (of_decide_eq_true (by kernel_rfl)) (by kernel_rfl) rfl (by kernel_rfl) (by kernel_rfl) Try.underlying3
 ⟨m, cellK_of hm⟩
def cutF (s sep : List UInt8) : Option (List UInt8 × List UInt8 × Bool) := if s.length < 4294967281 then some (Lib.cut s sep) else none
theorem strings_Cut_ok {K : Hp} {xa xb : List UInt8} (fG : Gk K) {r : List UInt8 × List UInt8 × Bool} (h : cutF xa xb = some r) :
   Tr Try.prog 27 #[.string ⟨xa.toArray⟩, .string ⟨xb.toArray⟩] K [] (fun v K' L' => (∃ (s1 s2 : List UInt8) (t3 : Bool), (s1, s2, t3) = r ∧ v = .tuple #[.string ⟨s1.toArray⟩, .string ⟨s2.toArray⟩, .bool t3] ∧ L' = []) ∧ K = K') := by
 refine Tr.k (fun E w F hs => ?_)
 unfold cutF at h
 split at h
 · rename_i hlt
   cases h
   obtain ⟨m, hm⟩ := fG
   refine (Try.strings_Cut ⟨xa.toArray⟩ ⟨xb.toArray⟩ m w (by simpa [ByteArray.size] using hlt) (cellK_world hs.sub hm)).mono ?_
   rintro e w' ⟨rfl, n, rfl⟩
   exact ⟨_, K, [], rfl, ⟨_, _, _, rfl, rfl, rfl⟩, Hp.le_refl K, hs.fr ((Fr.refl [] w).drewN n)⟩
 · cases h
def joinF (xs : List (List UInt8)) (sep : List UInt8) : Option (List UInt8) := if (Lib.join xs sep).length ≤ 140737488355328 ∧ xs.length ≤ 140737488355328 then some (Lib.join xs sep) else none
theorem els_strs_eq {K : Hp} : ∀ {xs : List (List UInt8)} {cs : List Value}, Els K .str cs xs → cs = xs.map fun x => Value.string ⟨x.toArray⟩
 | [], cs, h => h
 | x :: xs, cs, h => by
   obtain ⟨es, r, rfl, h1, h2⟩ := h
   simp only [Is] at h1
   subst h1
   rw [els_strs_eq h2]; rfl
theorem strings_Join_ok {K : Hp} {xa : List (List UInt8)} {xb : List UInt8} {ad : Option Addr} {cp : Nat} (fa : Is K (.sl .str) [.slice ad xa.length cp] xa) {r : List UInt8} (h : joinF xa xb = some r) :
   Tr Try.prog 23 #[.slice ad xa.length cp, .string ⟨xb.toArray⟩] K [] (fun v K' L' => (∃ s1 : List UInt8, s1 = r ∧ v = .string ⟨s1.toArray⟩ ∧ L' = []) ∧ K = K') := by
 refine Tr.k (fun E w F hs => ?_)
 unfold joinF at h
 split at h
 · rename_i hlt
   cases h
   by_cases hx : xa = []
   · subst hx
     refine (Try.strings_Join_none ad cp ⟨xb.toArray⟩ w).mono ?_
     rintro e w' ⟨rfl, rfl⟩
     exact ⟨_, K, [], rfl, ⟨[], rfl, rfl, rfl⟩, Hp.le_refl K, hs⟩
   · have fa' := fa
     simp only [Is] at fa
     obtain ⟨ad', cp', e0, a1, a2, a3⟩ := fa
     simp only [List.cons.injEq, Value.slice.injEq, and_true] at e0
     obtain ⟨rfl, _, rfl⟩ := e0
     obtain ⟨b, o, rfl, a4⟩ := a3 hx
     obtain ⟨cs, c1, c2, c3⟩ := fa'.cells (by decide)
     obtain rfl := els_strs_eq c1
     have hc : ∀ (j : Nat) x, (xa.map fun x => (⟨x.toArray⟩ : ByteArray))[j]? = some x → w.cell? ⟨b, o + j, none⟩ = some (.string x) := fun j x hj => by
       have := c3 w hs.sub j (.string x) (by rw [List.getElem?_map] at hj ⊢; cases hq : xa[j]? with
         | none => rw [hq] at hj; simp at hj
         | some q => rw [hq] at hj; simp at hj ⊢; exact hj)
       rwa [addr_add] at this
     have hb : b < w.heap.size := by
       cases xa with
       | nil => exact absurd rfl hx
       | cons q xs =>
         have := hc 0 _ rfl
         unfold World.cell? at this
         simp only at this
         split at this
         · rename_i e; exact lt_of_block e
         · cases this
     have hm : (xa.map fun x => (⟨x.toArray⟩ : ByteArray)).map (·.data.toList) = xa := by simp [Function.comp_def]
     have hl : (xa.map fun x => (⟨x.toArray⟩ : ByteArray)).length = xa.length := by simp
     have := Try.strings_Join b o cp (xa.map fun x => (⟨x.toArray⟩ : ByteArray)) ⟨xb.toArray⟩ w hc hb (by rw [hl]; exact hlt.2) (by rw [hl]; exact a1) (by rw [hm]; exact hlt.1)
     rw [hl, hm] at this
     refine this.mono ?_
     rintro e w' ⟨rfl, hbl⟩
     exact ⟨_, K, [], rfl, ⟨_, rfl, rfl, rfl⟩, Hp.le_refl K, hs.ofBelow hbl⟩
 · cases h
set_option linter.unusedSectionVars false
section
theorem Gk.monoC {K K' : Hp} (h : K.cle K') (g : Gk K) : Gk K' := let ⟨m, e⟩ := g; ⟨m, h _ _ _ e⟩
variable [BldA]
noncomputable def sp_Cut : Spec := ⟨27, ⟨[(0, .dat .str), (1, .dat .str)], []⟩, [⟨[(0, .tup [.dat .str, .dat .str, .dat .bool])], []⟩], fun x => cutF x.1 x.2⟩
theorem Cut_is (hg : ∀ K, BldA.gk K → Gk K) : SpecOk Try.prog sp_Cut := by
 intro x r hr vs u hu m K args hgk hm hH hsl E w F hs
 have hu' : sp_Cut.inn.un (TL.list _ x) 0 = some ([(0, .str x.1), (1, .str x.2)], ⟨[], 0, [], []⟩) := rfl
 rw [hu'] at hu
 cases hu
 obtain ⟨v, q, rfl, h1, v2, q2, rfl, h2, rfl⟩ := hsl
 obtain rfl : v = .string ⟨List.toArray (α := UInt8) x.1⟩ := h1
 obtain rfl : v2 = .string ⟨List.toArray (α := UInt8) x.2⟩ := h2
 refine (strings_Cut_ok (K := K) (hg K hgk) hr E w F hs).mono ?_
 rintro e w' ⟨v, K', L', rfl, ⟨⟨s1, s2, t3, rfl, rfl, rfl⟩, rfl⟩, h1, h2⟩
 exact ⟨_, K, [], rfl, ⟨[(0, .tup [.str s1, .str s2, .bool t3])], ⟨[], 0, [], []⟩, m, rfl, List.prefix_rfl, hm, fun a h => (by cases h), ⟨_, rfl, _, _, rfl, rfl, _, _, rfl, rfl, _, _, rfl, rfl, rfl⟩, rfl⟩, h1, h2⟩
end
section
section
variable {E : En} {K K0 : Hp} {L : List Atom} {w : World}
theorem Sep.arr {b : Nat} {e : TypeId} {t : Tp} {m : Nat} {cs : List Value} {xs : List t.den} (he : Els Hp.nil t cs xs) (hl : xs.length = m) (hm : Nat.ble m 1048576 = true) (hs : Sep E K (Cl b e cs :: L) w) : Sep E K (Row Hp.nil e t (.slice (some ⟨b, 0, none⟩) m m) xs :: L) w := by
 have hm := Nat.le_of_ble_eq_true hm
 subst hl
 refine hs.mono (fun h ha => ?_)
 obtain rfl : h = _ := ha
 exact ⟨cs, he, he.len, .inr ⟨b, xs.length, cs.toArray, rfl, rfl, Nat.le_refl _, by unfold maxLen; omega, by rw [List.size_toArray]; exact he.len, by simp [← he.len]⟩⟩
end
section
variable {P : Program} {K0 : Hp}
theorem V.subA {tx e : TypeId} {tp : Tp} {b m : Nat} {s z : List tp.den} {l h : Int} (ht : P.underlying tx = some (.array m e)) (hz : (P.info? e).map (·.size) = some tp.size) (hl : s.length = m) (hs : Is K0 (.sl tp) [.slice (some ⟨b, 0, none⟩) m m] s) (hy : subL s l h = some z) :
   ∃ ad' cp', (∀ {n : Nat} {C : World → Prop} {ρ : Sl0} {d : Option Nat} {t : TypeId} {pos : String} {af : Array Edge} {g : Option (Nat × Bool)} {x : Operand} {lo hi : Option Operand}, ev n ρ x = .pointer (some ⟨b, 0, none⟩) → (∀ q, lo = some q → ∃ k, ev n ρ q = .int k l) → (lo = none → l = 0) → (∀ q, hi = some q → ∃ k, ev n ρ q = .int k h) → (hi = none → h = (m : Nat)) →
     Val P n C ρ ⟨d, .slice tx x lo hi none, t, pos, af, g⟩ (.slice ad' z.length cp')) ∧ Is K0 (.sl tp) [.slice ad' z.length cp'] z := by
 subst hl
 obtain ⟨a1, a2, a3, rfl⟩ := subL_some hy
 obtain ⟨l, rfl⟩ := Int.eq_ofNat_of_zero_le a1
 obtain ⟨h, rfl⟩ := Int.eq_ofNat_of_zero_le (show 0 ≤ h by omega)
 have b1 : l ≤ h := by omega
 have b2 : h ≤ s.length := by omega
 simp only [Int.toNat_natCast]
 have hlen : ((s.take h).drop l).length = h - l := by rw [List.length_drop, List.length_take]; omega
 refine ⟨some (if s.length = l then ⟨b, 0, none⟩ else ⟨b, 0 + l * tp.size, none⟩), s.length - l, ?_, by rw [hlen]; exact hs.part l h b1 b2⟩
 intro n C ρ d t pos af g x lo hi hx hl hl0 hh hh0 w _
 rw [hlen]
 cases hi' : P.info? e with
 | none => rw [hi'] at hz; simp at hz
 | some i' =>
   rw [hi'] at hz
   simp at hz
   cases lo with
   | none =>
     have := hl0 rfl
     obtain rfl : l = 0 := by omega
     cases hi with
     | none =>
       have := hh0 rfl
       obtain rfl : h = s.length := by omega
       simp [execOp, hx, Instr.sliceAt, run_underlying ht, Instr.sureAddr, Instr.sliceBounds, sizeOf, typeInfo, hi', hz, addr_add]
     | some q =>
       obtain ⟨k, hq⟩ := hh q rfl
       simp [execOp, hx, hq, Instr.sliceAt, run_underlying ht, Instr.sureAddr, Instr.sliceBounds, Instr.sliceBound, asIntOf, b2, sizeOf, typeInfo, hi', hz, addr_add]
       try (by_cases q : s.length = 0 <;> simp [q])
   | some ql =>
     obtain ⟨k1, hq1⟩ := hl ql rfl
     cases hi with
     | none =>
       have := hh0 rfl
       obtain rfl : h = s.length := by omega
       simp [execOp, hx, hq1, Instr.sliceAt, run_underlying ht, Instr.sureAddr, Instr.sliceBounds, Instr.sliceBound, asIntOf, b1, sizeOf, typeInfo, hi', hz, addr_add]
       try (by_cases q : s.length = l <;> simp [q])
     | some q =>
       obtain ⟨k, hq⟩ := hh q rfl
       simp [execOp, hx, hq, hq1, Instr.sliceAt, run_underlying ht, Instr.sureAddr, Instr.sliceBounds, Instr.sliceBound, asIntOf, b1, b2, sizeOf, typeInfo, hi', hz, addr_add]
       try (by_cases q : s.length = l <;> simp [q])
theorem lt_cap {α : Type} {xs : List α} {i : Int} {m : Nat} (h : i < (xs.length : Nat)) (hl : xs.length = m) : i < (m : Nat) := by subst hl; exact h
end
end
set_option maxRecDepth 20000
section
theorem inf57 : Inf Try.prog 57 (.agg #[.int .u8 0, .int .u8 0, .int .u8 0, .int .u8 0, .int .u8 0, .int .u8 0, .int .u8 0, .int .u8 0, .int .u8 0, .int .u8 0, .int .u8 0, .int .u8 0, .int .u8 0, .int .u8 0, .int .u8 0, .int .u8 0, .int .u8 0, .int .u8 0, .int .u8 0, .int .u8 0]) 20 20 := by unfold Inf; kernel_rfl
theorem sz5 : (Try.prog.info? 5).map (·.size) = some 1 := by kernel_rfl
theorem mixO : Try.prog.follows .mixedOrders = true := by kernel_rfl
noncomputable def fn_numeral_Text_l1  : (Int × (List Int) × Int) → Option ((Int × (List Int) × Int) ⊕ List UInt8) := fun ((i262, l263, i266) : (Int × (List Int) × Int)) => (getI l263 (IntKind.wrap .i64 (i266 - 1))).bind fun x295 => (some (l263.set (IntKind.wrap .i64 (i266 - 1)).toNat (IntKind.wrap .u8 (IntKind.wrap .i64 (48 + (Int.tmod i262 10)))))).bind fun z300 => cond (decide ((IntKind.wrap .i64 (Int.tdiv i262 10)) = 0)) ((subL z300 (IntKind.wrap .i64 (i266 - 1)) (((20 : Nat) : Int))).bind fun y308 => some (.inr (toU8 y308))) (some (.inl ((IntKind.wrap .i64 (Int.tdiv i262 10), z300, IntKind.wrap .i64 (i266 - 1)))))
noncomputable def fn_numeral_Text (xa : Int) : Option (List UInt8) :=
  cond (decide (xa < 0)) (some (([] : List UInt8))) (loop (fn_numeral_Text_l1) ((xa, ([0, 0, 0, 0, 0, 0, 0, 0, 0, 0, 0, 0, 0, 0, 0, 0, 0, 0, 0, 0] : List Int), 20)))
set_option maxRecDepth 100000 in
set_option maxHeartbeats 4000000 in
theorem numeral_Text_ok {K : Hp} {xa : Int}   {r : List UInt8} (h : fn_numeral_Text xa = some r) :
    Tr Try.prog 20 #[ii xa] K [] (fun v K' L' => (∃ (s157 : List UInt8), s157 = r ∧ .string ⟨s157.toArray⟩ = v ∧ L' = []) ∧ K = K') := by
 refine Tr.k <| Tr.of Try.func20 rfl Try.ntmps20 rfl fun E F => ?_
 unfold fn_numeral_Text at h
 refine cr <| ja (.string ⟨([] : List UInt8).toArray⟩) rfl <| J.nil <| CJ.seq <| CJ.seq <| CJ.region ?_
 refine jm (ii xa) rfl <| jv (.bool (decide (xa < 0))) (V.lss rfl rfl) <| J.nil <| cc rfl h (fun hc158 h => ?_) fun hc158 h => ?_
 · refine cr <| ja (.string ⟨([] : List UInt8).toArray⟩) rfl <| J.nil <| CJ.ret ?_
   obtain rfl := si h
   exact ⟨_, _, Res.one rfl rfl, ⟨([] : List UInt8), rfl, rfl, rfl⟩, (Hp.le_refl _), fun w hs => hs⟩
 refine CJ.skip <| cr <| jal inf57 [.int .u8 0, .int .u8 0, .int .u8 0, .int .u8 0, .int .u8 0, .int .u8 0, .int .u8 0, .int .u8 0, .int .u8 0, .int .u8 0, .int .u8 0, .int .u8 0, .int .u8 0, .int .u8 0, .int .u8 0, .int .u8 0, .int .u8 0, .int .u8 0, .int .u8 0, .int .u8 0] rfl fun b159 => ?_
 have hl160 : ([0, 0, 0, 0, 0, 0, 0, 0, 0, 0, 0, 0, 0, 0, 0, 0, 0, 0, 0, 0] : List Int).length = 20 := rfl
 refine J.by (fun w hs => Sep.arr (t := (.int .u8)) (xs := ([0, 0, 0, 0, 0, 0, 0, 0, 0, 0, 0, 0, 0, 0, 0, 0, 0, 0, 0, 0] : List Int)) ⟨_, _, rfl, rfl, ⟨_, _, rfl, rfl, ⟨_, _, rfl, rfl, ⟨_, _, rfl, rfl, ⟨_, _, rfl, rfl, ⟨_, _, rfl, rfl, ⟨_, _, rfl, rfl, ⟨_, _, rfl, rfl, ⟨_, _, rfl, rfl, ⟨_, _, rfl, rfl, ⟨_, _, rfl, rfl, ⟨_, _, rfl, rfl, ⟨_, _, rfl, rfl, ⟨_, _, rfl, rfl, ⟨_, _, rfl, rfl, ⟨_, _, rfl, rfl, ⟨_, _, rfl, rfl, ⟨_, _, rfl, rfl, ⟨_, _, rfl, rfl, ⟨_, _, rfl, rfl, rfl⟩⟩⟩⟩⟩⟩⟩⟩⟩⟩⟩⟩⟩⟩⟩⟩⟩⟩⟩⟩ hl160 rfl hs) <| J.nil <| cr <| ja (ii 20) rfl <| J.nil <| CJ.block ?_
 refine CJ.loop (fun s ρ K' L' => ∃ (i262 : Int) (l263 : (List Int)) (i266 : Int), (i262, l263, i266) = s ∧ Fits [(0, ii i262), (3, .pointer (some ⟨b159, 0, none⟩)), (4, ii i266)] ρ ∧ K = K' ∧ L' = Row Hp.nil 57 (.int .u8) (.slice (some ⟨b159, 0, none⟩) 20 20) l263 :: F) h ⟨xa, ([0, 0, 0, 0, 0, 0, 0, 0, 0, 0, 0, 0, 0, 0, 0, 0, 0, 0, 0, 0] : List Int), 20, rfl, ⟨rfl, rfl, rfl, trivial⟩, rfl, rfl⟩ ?_
 rintro s ρ _ _ r294 ⟨i262, l263, i266, rfl, hf292, rfl, rfl⟩ h291
 obtain ⟨ρ, rfl⟩ := hf292.ex
 refine CJ.wit Row.len fun hl265 => CJ.block <| cr <| jm (ii i266) rfl <| jv (ii (IntKind.wrap .i64 (i266 - 1))) (V.sub rfl rfl) <| ja (ii (IntKind.wrap .i64 (i266 - 1))) rfl ?_
 refine J.nil <| cr <| jm (ii (IntKind.wrap .i64 (i266 - 1))) rfl <| jm (ii i262) rfl <| jv (ii (Int.tmod i262 10)) (V.rem rfl rfl (by decide)) <| jv (ii (IntKind.wrap .i64 (48 + (Int.tmod i262 10)))) (V.add rfl rfl) ?_
 refine jv (.int .u8 (IntKind.wrap .u8 (IntKind.wrap .i64 (48 + (Int.tmod i262 10))))) (V.conv Try.underlying3 Try.underlying5 rfl) ?_
 obtain ⟨x295, hx296, h291⟩ := ob h291
 obtain ⟨p297, p298, p299⟩ := getI_some hx296
 refine jv _ (V.iadA Try.underlying57 sz5 rfl rfl p297 (lt_cap p299 hl265)) ?_
 obtain ⟨z300, hz301, h291⟩ := ob h291
 have e302 := Option.some.inj hz301
 have hl303 : z300.length = 20 := by rw [← e302, List.length_set]; exact hl265
 refine J.op rfl (A.storeR (ty := (.int .u8)) (q := 0) (y0 := IntKind.wrap .u8 (IntKind.wrap .i64 (48 + (Int.tmod i262 10)))) (zs := z300) sz5 rfl rfl rfl rfl rfl p298 (by simp [Tp.size]) (by decide) (by rintro _ rfl; exact rfl) e302) ?_
 rintro _ _ _ ⟨rfl, rfl, rfl⟩
 refine J.nil <| cr <| jm (ii i262) rfl <| jv (ii (IntKind.wrap .i64 (Int.tdiv i262 10))) (V.quo rfl rfl (by decide)) <| ja (ii (IntKind.wrap .i64 (Int.tdiv i262 10))) rfl <| J.nil ?_
 refine cr <| jm (ii (IntKind.wrap .i64 (Int.tdiv i262 10))) rfl <| jv (.bool (decide ((IntKind.wrap .i64 (Int.tdiv i262 10)) = 0))) (V.eql rfl rfl) <| J.nil <| cc rfl h291 (fun hc304 h291 => ?_) fun hc304 h291 => ?_
 · refine cr <| jm (ii (IntKind.wrap .i64 (i266 - 1))) rfl <| J.persist (Hp.nil_le _) (by decide) fun K305 hK306 f307 => ?_
   obtain ⟨y308, hy309, h291⟩ := ob h291
   obtain ⟨ad310, cp311, hv312, f313⟩ := V.subA (tp := (.int .u8)) Try.underlying57 sz5 hl303 f307 hy309
   refine jv (.slice ad310 y308.length cp311) (hv312 rfl (fun _ h => by cases h; exact ⟨_, rfl⟩) nofun nofun (fun _ => rfl)) <| jv (.string ⟨(toU8 y308).toArray⟩) (V.b2sK Try.underlying58 Try.underlying5 Try.underlying9 rfl f313 (Hp.le_refl _)) <| ja (.string ⟨(toU8 y308).toArray⟩) rfl <| J.nil <| CJ.ret ?_
   obtain rfl := si h291
   refine ⟨nofun, fun e => ?_⟩
   subst e
   exact ⟨_, _, Res.one rfl rfl, ⟨toU8 y308, rfl, rfl, rfl⟩, hK306, fun w hs => hs⟩
 refine CJ.skip ?_
 obtain rfl := si h291
 exact ⟨rfl, ⟨IntKind.wrap .i64 (Int.tdiv i262 10), z300, IntKind.wrap .i64 (i266 - 1), rfl, ⟨rfl, rfl, rfl, trivial⟩, rfl, rfl⟩⟩

noncomputable def fnr_ref01_Text : Nat → Int → Option (List UInt8)
  | 0, _ => none
  | fuel + 1, xa => cond (decide (xa < 0)) (some (([] : List UInt8))) (cond (decide (xa < 10)) ((subL ([48, 49, 50, 51, 52, 53, 54, 55, 56, 57] : List UInt8) xa (IntKind.wrap .i64 (xa + 1))).bind fun y37 => some (y37)) ((subL ([48, 49, 50, 51, 52, 53, 54, 55, 56, 57] : List UInt8) (Int.tmod xa 10) (IntKind.wrap .i64 ((Int.tmod xa 10) + 1))).bind fun y49 => (fnr_ref01_Text fuel (IntKind.wrap .i64 (Int.tdiv xa 10))).bind fun s53 => (app s53 y49).bind fun z57 => some (z57)))
noncomputable def fn_ref01_Text (xa : Int) : Option (List UInt8) := lev (fun n => fnr_ref01_Text n xa)
set_option maxRecDepth 100000 in
set_option maxHeartbeats 4000000 in
theorem ref01_Text_okr : ∀ (fuel : Nat) {K : Hp} {xa : Int}   {r : List UInt8} (h : fnr_ref01_Text fuel xa = some r),
    Tr Try.prog 24 #[ii xa] K [] (fun v K' L' => (∃ (s34 : List UInt8), s34 = r ∧ .string ⟨s34.toArray⟩ = v ∧ L' = []) ∧ K = K') := by
  intro fuel
  induction fuel with
  | zero => intro K xa r h; rw [fnr_ref01_Text] at h; cases h
  | succ fuel ih =>
    intro K xa r h
    refine Tr.k <| Tr.of Try.func24 rfl Try.ntmps24 rfl fun E F => ?_
    rw [fnr_ref01_Text] at h
    refine cr <| ja (.string ⟨([] : List UInt8).toArray⟩) rfl <| J.nil <| CJ.seq <| CJ.seq <| CJ.region ?_
    refine jm (ii xa) rfl <| jv (.bool (decide (xa < 0))) (V.lss rfl rfl) <| J.nil <| cc rfl h (fun hc35 h => ?_) fun hc35 h => ?_
    · refine cr <| ja (.string ⟨([] : List UInt8).toArray⟩) rfl <| J.nil <| CJ.ret ?_
      obtain rfl := si h
      exact ⟨_, _, Res.one rfl rfl, ⟨([] : List UInt8), rfl, rfl, rfl⟩, (Hp.le_refl _), fun w hs => hs⟩
    refine CJ.skip <| CJ.seq <| cr <| jm (ii xa) rfl <| jv (.bool (decide (xa < 10))) (V.lss rfl rfl) <| J.nil ?_
    refine cc rfl h (fun hc36 h => ?_) fun hc36 h => ?_
    · refine cr <| jm (ii xa) rfl <| jm (ii xa) rfl <| jv (ii (IntKind.wrap .i64 (xa + 1))) (V.add rfl rfl) ?_
      obtain ⟨y37, hy38, h⟩ := ob h
      refine jv (.string ⟨y37.toArray⟩) (V.subs Try.underlying9 rfl (fun _ h => by cases h; exact ⟨_, rfl⟩) nofun (fun _ h => by cases h; exact ⟨_, rfl⟩) nofun hy38) <| ja (.string ⟨y37.toArray⟩) rfl <| J.nil <| CJ.ret ?_
      obtain rfl := si h
      exact ⟨_, _, Res.one rfl rfl, ⟨y37, rfl, rfl, rfl⟩, (Hp.le_refl _), fun w hs => hs⟩
    refine CJ.skip <| CJ.seq <| CJ.mix [] [([0, 1, 3, 4, 5, 6, 7, 8], 2)] [9, 10] [] mixO (by decide +kernel) trivial rfl rfl rfl <| JM.cons <| qm (ii xa) rfl <| qv (ii (IntKind.wrap .i64 (Int.tdiv xa 10))) (V.quo rfl rfl (by decide)) <| qm (ii xa) rfl ?_
    refine qv (ii (Int.tmod xa 10)) (V.rem rfl rfl (by decide)) <| qm (ii xa) rfl <| qv (ii (Int.tmod xa 10)) (V.rem rfl rfl (by decide)) <| qv (ii (IntKind.wrap .i64 ((Int.tmod xa 10) + 1))) (V.add rfl rfl) ?_
    obtain ⟨y49, hy50, h⟩ := ob h
    refine qv (.string ⟨y49.toArray⟩) (V.subs Try.underlying9 rfl (fun _ h => by cases h; exact ⟨_, rfl⟩) nofun (fun _ h => by cases h; exact ⟨_, rfl⟩) nofun hy50) <| JQ.nil ?_
    obtain ⟨r51, hr52, h⟩ := ob h
    refine JA.op rfl (A.call (L1 := []) Try.call24 rfl (ih hr52) rfl rfl) ?_
    rintro _ _ _ ⟨v54, _, rfl, ⟨⟨s53, rfl, rfl, rfl⟩, rfl⟩, _, rfl⟩
    refine ⟨fun w hs => Hold.sub (Hp.le_refl _) trivial hs, ?_⟩
    refine JM.nil ?_
    obtain ⟨z57, hz58, h⟩ := ob h
    refine qv (.string ⟨z57.toArray⟩) (V.cat rfl rfl hz58) <| qa (.string ⟨z57.toArray⟩) rfl <| JQ.nil <| J.nil <| CJ.ret ?_
    obtain rfl := si h
    exact ⟨_, _, Res.one rfl rfl, ⟨z57, rfl, rfl, rfl⟩, (Hp.le_refl _), fun w hs => hs⟩
set_option maxRecDepth 100000 in
set_option maxHeartbeats 4000000 in
theorem ref01_Text_ok {K : Hp} {xa : Int}   {r : List UInt8} (h : fn_ref01_Text xa = some r) :
    Tr Try.prog 24 #[ii xa] K [] (fun v K' L' => (∃ (s34 : List UInt8), s34 = r ∧ .string ⟨s34.toArray⟩ = v ∧ L' = []) ∧ K = K') := by
  obtain ⟨n, hn⟩ := lev_some h
  exact ref01_Text_okr n  hn
variable [BldA]
theorem text1_is {P : Program} {f : Nat} {fn : Int → Option (List UInt8)} (ok : ∀ {K : Hp} {xa : Int} {r : List UInt8}, fn xa = some r → Tr P f #[ii xa] K [] (fun v K' L' => (∃ s : List UInt8, s = r ∧ .string ⟨s.toArray⟩ = v ∧ L' = []) ∧ K = K')) : SpecOk P ⟨f, ⟨[(0, .dat (.int .i64))], []⟩, [⟨[(0, .dat .str)], []⟩], fn⟩ := by
  intro x r hr vs u hu m K args hgk hm hH hsl E w F hs
  have hu' : Sh.un ⟨[(0, .dat (.int .i64))], []⟩ (TL.list [Tp.int .i64] x) 0 = some ([(0, .int .i64 x)], ⟨[], 0, [], []⟩) := rfl
  rw [show (Spec.inn ⟨f, ⟨[(0, .dat (.int .i64))], []⟩, [⟨[(0, .dat .str)], []⟩], fn⟩).un (TL.list _ x) 0 = _ from hu'] at hu
  cases hu
  obtain ⟨v, q, rfl, h1, rfl⟩ := hsl
  obtain rfl : v = ii x := h1
  refine (ok (K := K) hr E w F hs).mono ?_
  rintro e w' ⟨v, K', L', rfl, ⟨⟨s, rfl, rfl, rfl⟩, rfl⟩, h1, h2⟩
  exact ⟨_, K, [], rfl, ⟨[(0, .str s)], ⟨[], 0, [], []⟩, m, rfl, List.prefix_rfl, hm, fun a h => (by cases h), rfl, rfl⟩, h1, h2⟩
theorem join_is {P : Program} {f : Nat} {fn : List (List UInt8) → List UInt8 → Option (List UInt8)} (ok : ∀ {K : Hp} {xa : List (List UInt8)} {xb : List UInt8} {ad : Option Addr} {cp : Nat} (fa : Is K (.sl .str) [.slice ad xa.length cp] xa) {r : List UInt8}, fn xa xb = some r → Tr P f #[.slice ad xa.length cp, .string ⟨xb.toArray⟩] K [] (fun v K' L' => (∃ s1 : List UInt8, s1 = r ∧ v = .string ⟨s1.toArray⟩ ∧ L' = []) ∧ K = K')) : SpecOk P ⟨f, ⟨[(0, .dat (.sl .str)), (1, .dat .str)], []⟩, [⟨[(0, .dat .str)], []⟩], fun x => fn x.1 x.2⟩ := by
  intro x r hr vs u hu m K args hgk hm hH hsl E w F hs
  have hu' : Sh.un ⟨[(0, .dat (.sl .str)), (1, .dat .str)], []⟩ (TL.list [Tp.sl .str, Tp.str] x) 0 = some ([(0, .row .str x.1 (List.length (α := List UInt8) x.1)), (1, .str x.2)], ⟨[], 0, [], []⟩) := rfl
  rw [show (Spec.inn ⟨f, ⟨[(0, .dat (.sl .str)), (1, .dat .str)], []⟩, [⟨[(0, .dat .str)], []⟩], fun x => fn x.1 x.2⟩).un (TL.list _ x) 0 = _ from hu'] at hu
  cases hu
  obtain ⟨v, q, rfl, h1, v2, q2, rfl, h2, rfl⟩ := hsl
  obtain rfl : v2 = .string ⟨x.2.toArray⟩ := h2
  obtain ⟨fa, _⟩ := h1
  have fa0 := fa
  simp only [Is] at fa
  obtain ⟨ad, cp, e0, _⟩ := fa
  simp only [List.cons.injEq, and_true] at e0
  subst e0
  refine (ok (K := K) fa0 hr E w F hs).mono ?_
  rintro e w' ⟨v, K', L', rfl, ⟨⟨s, rfl, rfl, rfl⟩, rfl⟩, h1, h2⟩
  exact ⟨_, K, [], rfl, ⟨[(0, .str s)], ⟨[], 0, [], []⟩, m, rfl, List.prefix_rfl, hm, fun a h => (by cases h), rfl, rfl⟩, h1, h2⟩
noncomputable def sp_numeral_Text : Spec := ⟨20, ⟨[(0, .dat (.int .i64))], []⟩, [⟨[(0, .dat .str)], []⟩], fn_numeral_Text⟩
theorem numeral_Text_is : SpecOk Try.prog sp_numeral_Text := text1_is fun h => numeral_Text_ok h
noncomputable def ok_numeral_Text : OkSpec Try.prog := ⟨sp_numeral_Text, numeral_Text_is, Try.call20⟩
noncomputable def sp_ref01_Text : Spec := ⟨24, ⟨[(0, .dat (.int .i64))], []⟩, [⟨[(0, .dat .str)], []⟩], fn_ref01_Text⟩
theorem ref01_Text_is : SpecOk Try.prog sp_ref01_Text := text1_is fun h => ref01_Text_ok h
noncomputable def ok_ref01_Text : OkSpec Try.prog := ⟨sp_ref01_Text, ref01_Text_is, Try.call24⟩
noncomputable def sp_Join : Spec := ⟨23, ⟨[(0, .dat (.sl .str)), (1, .dat .str)], []⟩, [⟨[(0, .dat .str)], []⟩], fun x => joinF x.1 x.2⟩
theorem Join_is : SpecOk Try.prog sp_Join := join_is strings_Join_ok
noncomputable def ok_Join : OkSpec Try.prog := ⟨sp_Join, Join_is, Try.call23⟩
end
set_option maxRecDepth 100000
set_option maxHeartbeats 4000000
section
instance nob : BldA := ⟨1000000000, fun b _ => Cl b 1000000000 [.pointer none, .slice none 0 0], fun h => h, Gk, Gk.monoC⟩
noncomputable def ok_Cut : OkSpec Try.prog := ⟨sp_Cut, Cut_is (fun _ h => h), Try.call27⟩

noncomputable def fn_script_names  : Option ((List (List UInt8))) :=
 some (([([99, 104, 101, 99, 107] : List UInt8), ([99, 111, 110, 115] : List UInt8), ([108, 105, 118, 101] : List UInt8), ([118, 97, 108, 117, 101] : List UInt8), ([119, 104, 121] : List UInt8), ([115, 117, 103, 103, 101, 115, 116] : List UInt8), ([116, 114, 105, 109] : List UInt8), ([101, 100, 105, 116] : List UInt8), ([112, 114, 111, 118, 101] : List UInt8), ([112, 114, 105, 110, 116] : List UInt8)] : List (List UInt8)))
noncomputable def h_script_names : Hn Try.prog := .nil
noncomputable def sp_script_names : Spec := ⟨10, ⟨[], []⟩, [⟨[(0, .own 9 .str)], []⟩], fun x => fn_script_names⟩
theorem script_names_is : SpecOk Try.prog sp_script_names := fn_is Try.func10 h_script_names (by kernel_rfl) (by kernel_rfl)
noncomputable def ok_script_names : OkSpec Try.prog := ⟨sp_script_names, script_names_is, Try.call10⟩

noncomputable def fn_script_Command_1_sp0_k (xa : (List UInt8)) (qa0 : (List (List UInt8))) : Option Bool :=
 (getI qa0 0).bind fun x11 => some (decide (xa = x11))
noncomputable def h_script_Command_1_sp0_k : Hn Try.prog := .nil
noncomputable def sp_script_Command_1_sp0_k : Spec := ⟨11, ⟨[(0, .dat .str), (1, .ptr 0 0)], [⟨none, 25, [.is 1 (.dat (.sl .str))], false, false, none, false⟩, ⟨none, 0, [], false, true, none, false⟩]⟩, [⟨[(0, .dat .bool)], [⟨(some 0), 25, [.is 1 (.any)], false, false, none, false⟩, ⟨(some 1), 0, [], false, true, none, false⟩]⟩], fun x => fn_script_Command_1_sp0_k x.1 x.2⟩
theorem script_Command_1_sp0_k_is : SpecOk Try.prog sp_script_Command_1_sp0_k := fn_is Try.func11 h_script_Command_1_sp0_k (by kernel_rfl) (by kernel_rfl)
noncomputable def ok_script_Command_1_sp0_k : OkSpec Try.prog := ⟨sp_script_Command_1_sp0_k, script_Command_1_sp0_k_is, Try.call11⟩
noncomputable def fn_slices_IndexFunc_string_string_k_script_Command_1_p0_k_l1 (xa : (List (List UInt8))) (qa0 : (List (List UInt8))) : Int → Option (Int ⊕ (Unit ⊕ Int)) := fun (i185 : Int) => cond (decide (i185 < (((xa.length : Nat) : Int)))) ((getI xa i185).bind fun x206 => (fn_script_Command_1_sp0_k x206 qa0).bind fun t217 => cond (t217) (some (.inr ((.inr (i185))))) (some (.inl (IntKind.wrap .i64 (i185 + 1))))) (some (.inr ((.inl ()))))
noncomputable def fn_slices_IndexFunc_string_string_k_script_Command_1_p0_k (xa : (List (List UInt8))) (qa0 : (List (List UInt8))) : Option Int :=
 (loop (fn_slices_IndexFunc_string_string_k_script_Command_1_p0_k_l1 xa qa0) 0 : Option (Unit ⊕ Int)).bind fun o => match o with | .inr r => some r | .inl () => some ((-1))
noncomputable def h_slices_IndexFunc_string_string_k_script_Command_1_p0_k : Hn Try.prog := .jx [] ⟨[], [⟨(some 0), 25, [.is 1 (.any)], false, false, none, false⟩, ⟨(some 1), 0, [], false, true, none, false⟩]⟩ [0] (.lp ⟨[(8, .dat (.int .i64))], [⟨(some 0), 25, [.is 1 (.any)], false, false, none, false⟩, ⟨(some 1), 0, [], false, true, none, false⟩]⟩ (.tw 9 (.cl ok_script_Command_1_sp0_k [] (.tw 16 (.nil) (.nil))) (.nil))) (.nil)
noncomputable def sp_slices_IndexFunc_string_string_k_script_Command_1_p0_k : Spec := ⟨9, ⟨[(0, .dat (.sl .str)), (1, .fn 11 [.ptr 0 0])], [⟨none, 25, [.is 1 (.dat (.sl .str))], false, false, none, false⟩, ⟨none, 0, [], false, true, none, false⟩]⟩, [⟨[(0, .dat (.int .i64))], [⟨(some 0), 25, [.is 1 (.any)], false, false, none, false⟩, ⟨(some 1), 0, [], false, true, none, false⟩]⟩], fun x => fn_slices_IndexFunc_string_string_k_script_Command_1_p0_k x.1 x.2⟩
theorem slices_IndexFunc_string_string_k_script_Command_1_p0_k_is : SpecOk Try.prog sp_slices_IndexFunc_string_string_k_script_Command_1_p0_k := fn_is Try.func9 h_slices_IndexFunc_string_string_k_script_Command_1_p0_k (by kernel_rfl) (by kernel_rfl)
noncomputable def ok_slices_IndexFunc_string_string_k_script_Command_1_p0_k : OkSpec Try.prog := ⟨sp_slices_IndexFunc_string_string_k_script_Command_1_p0_k, slices_IndexFunc_string_string_k_script_Command_1_p0_k_is, Try.call9⟩

noncomputable def fn_script_many (xa : Int) : Option Int :=
 cond (decide (xa = 2)) (some (2)) (cond (decide (xa = 3)) (some (2)) (cond (decide (xa = 4)) (some (2)) (cond (decide (xa = 7)) (some (5)) (some (1)))))
noncomputable def h_script_many : Hn Try.prog := .two 4 (.nil) (.two 4 (.nil) (.tw 4 (.nil) (.tw 8 (.nil) (.nil))))
noncomputable def sp_script_many : Spec := ⟨12, ⟨[(0, .dat (.int .i64))], []⟩, [⟨[(0, .dat (.int .i64))], []⟩], fun x => fn_script_many x⟩
theorem script_many_is : SpecOk Try.prog sp_script_many := fn_is Try.func12 h_script_many (by kernel_rfl) (by kernel_rfl)
noncomputable def ok_script_many : OkSpec Try.prog := ⟨sp_script_many, script_many_is, Try.call12⟩
noncomputable def fn_numeral_isNumber_l1 (xa : (List UInt8)) : Int → Option (Int ⊕ (Unit ⊕ Bool)) := fun (i275 : Int) => cond (decide (i275 < (((xa.length : Nat) : Int)))) ((getI xa i275).bind fun x299 => (cond (decide ((((x299.toNat : Nat) : Int)) < 48)) (some (true)) ((getI xa i275).bind fun x312 => some (decide (57 < (((x312.toNat : Nat) : Int)))))).bind fun t310 => cond (t310) (some (.inr ((.inr (false))))) (some (.inl (IntKind.wrap .i64 (i275 + 1))))) (some (.inr ((.inl ()))))
noncomputable def fn_numeral_isNumber (xa : (List UInt8)) : Option Bool :=
 (cond (decide (xa = ([] : List UInt8))) (some (true)) ((cond (decide (1 < (((xa.length : Nat) : Int)))) ((getI xa 0).bind fun x184 => some (decide ((((x184.toNat : Nat) : Int)) = 48))) (some (false))).bind fun t182 => some (t182))).bind fun t174 => cond (t174) (some (false)) ((loop (fn_numeral_isNumber_l1 xa) 0 : Option (Unit ⊕ Bool)).bind fun o => match o with | .inr r => some r | .inl () => some (true))
noncomputable def h_numeral_isNumber : Hn Try.prog := .gj 8 ⟨[(15, .dat .bool)], []⟩ [] (.two 6 (.nil) (.wt 10 (.gj 3 ⟨[(14, .dat .bool)], []⟩ [] (.two 10 (.nil) (.nil)) (.nil)))) (.tw 15 (.nil) (.jx [] ⟨[], []⟩ [] (.lp ⟨[(3, .dat (.int .i64))], []⟩ (.tw 19 (.gj 4 ⟨[(31, .dat .bool)], []⟩ [] (.two 26 (.nil) (.nil)) (.tw 31 (.nil) (.nil))) (.nil))) (.nil)))
noncomputable def sp_numeral_isNumber : Spec := ⟨33, ⟨[(0, .dat .str)], []⟩, [⟨[(0, .dat .bool)], []⟩], fun x => fn_numeral_isNumber x⟩
theorem numeral_isNumber_is : SpecOk Try.prog sp_numeral_isNumber := fn_is Try.func33 h_numeral_isNumber (by kernel_rfl) (by kernel_rfl)
noncomputable def ok_numeral_isNumber : OkSpec Try.prog := ⟨sp_numeral_isNumber, numeral_isNumber_is, Try.call33⟩
noncomputable def fn_numeral_Parse_l1 (xa : (List UInt8)) (xb : Int) : (Int × Int) → Option ((Int × Int) ⊕ (Int ⊕ (Int × Int))) := fun ((i143, i144) : (Int × Int)) => cond (decide (i144 < (((xa.length : Nat) : Int)))) ((getI xa i144).bind fun x159 => cond ((decide (xb < (IntKind.wrap .i64 (IntKind.wrap .u8 ((((x159.toNat : Nat) : Int)) - 48))))) || (decide ((IntKind.wrap .i64 (Int.tdiv (IntKind.wrap .i64 (xb - (IntKind.wrap .i64 (IntKind.wrap .u8 ((((x159.toNat : Nat) : Int)) - 48))))) 10)) < i143))) (some (.inr ((.inr ((0, 5)))))) (some (.inl ((IntKind.wrap .i64 ((IntKind.wrap .i64 (i143 * 10)) + (IntKind.wrap .i64 (IntKind.wrap .u8 ((((x159.toNat : Nat) : Int)) - 48)))), IntKind.wrap .i64 (i144 + 1)))))) (some (.inr (.inl i143)))
noncomputable def fn_numeral_Parse (xa : (List UInt8)) (xb : Int) : Option (Int × Int) :=
 (fn_numeral_isNumber xa).bind fun t88 => cond (!t88) (some ((0, 3))) ((loop (fn_numeral_Parse_l1 xa xb) (0, 0) : Option (Int ⊕ (Int × Int))).bind fun o => match o with | .inr r => some r | .inl i130 => some ((i130, 0)))
noncomputable def h_numeral_Parse : Hn Try.prog := .cl ok_numeral_isNumber [] (.tw 11 (.nil) (.jx [] ⟨[(6, .dat (.int .i64))], []⟩ [] (.lp ⟨[(6, .dat (.int .i64)), (7, .dat (.int .i64))], []⟩ (.tw 15 (.gp 6 (.tw 33 (.nil) (.nil))) (.nil))) (.nil)))
noncomputable def sp_numeral_Parse : Spec := ⟨26, ⟨[(0, .dat .str), (1, .dat (.int .i64))], []⟩, [⟨[(0, .tup [.dat (.int .i64), .dat (.int .i64)])], []⟩], fun x => fn_numeral_Parse x.1 x.2⟩
theorem numeral_Parse_is : SpecOk Try.prog sp_numeral_Parse := fn_is Try.func26 h_numeral_Parse (by kernel_rfl) (by kernel_rfl)
noncomputable def ok_numeral_Parse : OkSpec Try.prog := ⟨sp_numeral_Parse, numeral_Parse_is, Try.call26⟩

noncomputable def fn_script_number (xa : (List UInt8)) : Option (Int × Int) :=
 (fn_numeral_Parse xa 1048576).bind fun (i13, i14) => some ((i13, i14))
noncomputable def h_script_number : Hn Try.prog := .cl ok_numeral_Parse [] (.nil)
noncomputable def sp_script_number : Spec := ⟨13, ⟨[(0, .dat .str)], []⟩, [⟨[(0, .tup [.dat (.int .i64), .dat (.int .i64)])], []⟩], fun x => fn_script_number x⟩
theorem script_number_is : SpecOk Try.prog sp_script_number := fn_is Try.func13 h_script_number (by kernel_rfl) (by kernel_rfl)
noncomputable def ok_script_number : OkSpec Try.prog := ⟨sp_script_number, script_number_is, Try.call13⟩

noncomputable def fn_numeral_ParsePair (xa : (List UInt8)) (xb : Int) : Option (Int × Int × Int) :=
 (cutF xa ([58] : List UInt8)).bind fun (s33, s34, t35) => cond (!t35) (some ((0, 0, 3))) ((fn_numeral_Parse s33 xb).bind fun (i42, i43) => cond (!decide (i43 = 0)) (some ((0, 0, i43))) ((fn_numeral_Parse s34 xb).bind fun (i50, i51) => cond (!decide (i51 = 0)) (some ((0, 0, i51))) (some ((i42, i50, 0)))))
noncomputable def h_numeral_ParsePair : Hn Try.prog := .cl ok_Cut [] (.tw 19 (.nil) (.cl ok_numeral_Parse [] (.tw 28 (.nil) (.cl ok_numeral_Parse [] (.tw 38 (.nil) (.nil))))))
noncomputable def sp_numeral_ParsePair : Spec := ⟨14, ⟨[(0, .dat .str), (1, .dat (.int .i64))], []⟩, [⟨[(0, .tup [.agg [.dat (.int .i64), .dat (.int .i64)], .dat (.int .i64)])], []⟩], fun x => fn_numeral_ParsePair x.1 x.2⟩
theorem numeral_ParsePair_is : SpecOk Try.prog sp_numeral_ParsePair := fn_is Try.func14 h_numeral_ParsePair (by kernel_rfl) (by kernel_rfl)
noncomputable def ok_numeral_ParsePair : OkSpec Try.prog := ⟨sp_numeral_ParsePair, numeral_ParsePair_is, Try.call14⟩

noncomputable def fn_edit_Name (xa : Int) : Option (List UInt8) :=
 cond (decide (xa = 1)) (some (([98, 108, 97, 110, 107] : List UInt8))) (cond (decide (xa = 2)) (some (([100, 114, 111, 112] : List UInt8))) (cond (decide (xa = 3)) (some (([116, 119, 105, 99, 101] : List UInt8))) (cond (decide (xa = 4)) (some (([115, 119, 97, 112] : List UInt8))) (cond (decide (xa = 5)) (some (([114, 101, 103, 105, 111, 110] : List UInt8))) (cond (decide (xa = 6)) (some (([108, 111, 110, 101] : List UInt8))) (cond (decide (xa = 7)) (some (([100, 101, 99, 108, 97, 114, 101] : List UInt8))) (cond (decide (xa = 8)) (some (([117, 110, 100, 101, 99, 108, 97, 114, 101] : List UInt8))) (some (([63] : List UInt8))))))))))
noncomputable def h_edit_Name : Hn Try.prog := .tw 4 (.nil) (.tw 6 (.nil) (.tw 8 (.nil) (.tw 10 (.nil) (.tw 12 (.nil) (.tw 14 (.nil) (.tw 16 (.nil) (.tw 18 (.nil) (.nil))))))))
noncomputable def sp_edit_Name : Spec := ⟨22, ⟨[(0, .dat (.int .i64))], []⟩, [⟨[(0, .dat .str)], []⟩], fun x => fn_edit_Name x⟩
theorem edit_Name_is : SpecOk Try.prog sp_edit_Name := fn_is Try.func22 h_edit_Name (by kernel_rfl) (by kernel_rfl)
noncomputable def ok_edit_Name : OkSpec Try.prog := ⟨sp_edit_Name, edit_Name_is, Try.call22⟩
noncomputable def fn_edit_Kind_l1 (xa : (List UInt8)) : Int → Option (Int ⊕ (Unit ⊕ (Int × Bool))) := fun (i96 : Int) => cond (decide (i96 ≤ 8)) ((fn_edit_Name i96).bind fun s110 => cond (decide (s110 = xa)) (some (.inr ((.inr ((i96, true)))))) (some (.inl (IntKind.wrap .i64 (i96 + 1))))) (some (.inr ((.inl ()))))
noncomputable def fn_edit_Kind (xa : (List UInt8)) : Option (Int × Bool) :=
 (loop (fn_edit_Kind_l1 xa) 1 : Option (Unit ⊕ (Int × Bool))).bind fun o => match o with | .inr r => some r | .inl () => some ((0, false))
noncomputable def h_edit_Kind : Hn Try.prog := .jx [] ⟨[], []⟩ [] (.lp ⟨[(4, .dat (.int .i64))], []⟩ (.tw 6 (.cl ok_edit_Name [] (.tw 12 (.nil) (.nil))) (.nil))) (.nil)
noncomputable def sp_edit_Kind : Spec := ⟨28, ⟨[(0, .dat .str)], []⟩, [⟨[(0, .tup [.dat (.int .i64), .dat .bool])], []⟩], fun x => fn_edit_Kind x⟩
theorem edit_Kind_is : SpecOk Try.prog sp_edit_Kind := fn_is Try.func28 h_edit_Kind (by kernel_rfl) (by kernel_rfl)
noncomputable def ok_edit_Kind : OkSpec Try.prog := ⟨sp_edit_Kind, edit_Kind_is, Try.call28⟩
noncomputable def fn_script_change_l1 (y194 : List (List UInt8)) : (Int × Int × Int × Int × Int) → Option ((Int × Int × Int × Int × Int) ⊕ ((Int × Int × Int × Int) ⊕ (Int × Int × Int × Int × Int))) := fun ((i297, i298, i299, i300, i301) : (Int × Int × Int × Int × Int)) => cond (decide (i297 < (((y194.length : Nat) : Int)))) ((getI y194 i297).bind fun x327 => (fn_script_number x327).bind fun (i338, i339) => cond (!decide (i339 = 0)) (some (.inr ((.inr ((i298, i299, i300, i301, i339)))))) (cond (decide (IntKind.wrap .i64 (i297 + 1) = ((0 : Nat) : Int))) (some (.inl ((IntKind.wrap .i64 (i297 + 1), i338, i299, i300, i301)))) (cond (decide (IntKind.wrap .i64 (i297 + 1) = ((1 : Nat) : Int))) (some (.inl ((IntKind.wrap .i64 (i297 + 1), i298, i338, i300, i301)))) (cond (decide (IntKind.wrap .i64 (i297 + 1) = ((2 : Nat) : Int))) (some (.inl ((IntKind.wrap .i64 (i297 + 1), i298, i299, i338, i301)))) (cond (decide (IntKind.wrap .i64 (i297 + 1) = ((3 : Nat) : Int))) (some (.inl ((IntKind.wrap .i64 (i297 + 1), i298, i299, i300, i338)))) (none)))))) (some (.inr ((.inl (i298, i299, i300, i301)))))
noncomputable def fn_script_change (xa : (List (List UInt8))) : Option (Int × Int × Int × Int × Int) :=
 (getI xa 0).bind fun x177 => (fn_edit_Kind x177).bind fun (i188, t189) => cond (!t189) (some ((0, 0, 0, 0, 3))) ((subL xa 1 (((xa.length : Nat) : Int))).bind fun y194 => (loop (fn_script_change_l1 y194) (0, i188, 0, 0, 0) : Option ((Int × Int × Int × Int) ⊕ (Int × Int × Int × Int × Int))).bind fun o => match o with | .inr r => some r | .inl (i270, i271, i272, i273) => some ((i270, i271, i272, i273, 0)))
noncomputable def h_script_change : Hn Try.prog := .cl ok_edit_Kind [] (.tw 19 (.nil) (.jx [] ⟨[], [⟨(some 0), 22, [.lit (.int .i64 0), .lit (.int .i64 0), .lit (.int .i64 0), .lit (.int .i64 0)], false, false, none, false⟩, ⟨(some 2), 22, [.dat (.int .i64), .dat (.int .i64), .dat (.int .i64), .dat (.int .i64)], false, false, none, false⟩]⟩ [2, 0] (.lp ⟨[(26, .dat (.int .i64))], [⟨(some 0), 22, [.lit (.int .i64 0), .lit (.int .i64 0), .lit (.int .i64 0), .lit (.int .i64 0)], false, false, none, false⟩, ⟨(some 2), 22, [.dat (.int .i64), .dat (.int .i64), .dat (.int .i64), .dat (.int .i64)], false, false, none, false⟩]⟩ (.tw 27 (.cl ok_script_number [] (.tw 37 (.nil) (.nil))) (.nil))) (.nil)))
noncomputable def sp_script_change : Spec := ⟨15, ⟨[(0, .dat (.sl .str))], []⟩, [⟨[(0, .tup [.agg [.dat (.int .i64), .dat (.int .i64), .dat (.int .i64), .dat (.int .i64)], .dat (.int .i64)])], []⟩], fun x => fn_script_change x⟩
theorem script_change_is : SpecOk Try.prog sp_script_change := fn_is Try.func15 h_script_change (by kernel_rfl) (by kernel_rfl)
noncomputable def ok_script_change : OkSpec Try.prog := ⟨sp_script_change, script_change_is, Try.call15⟩

noncomputable def fn_script_Command (xa : (List (List UInt8))) : Option (Int × Int × Int × Int × Int × Int) :=
 cond (decide ((((xa.length : Nat) : Int)) = 0)) (some ((0, 0, 0, 0, 0, 3))) ((fn_script_names).bind fun l239 => (fn_slices_IndexFunc_string_string_k_script_Command_1_p0_k l239 xa).bind fun i252 => cond (decide (i252 < 0)) (some ((0, 0, 0, 0, 0, 3))) ((fn_script_many i252).bind fun i281 => cond (!decide ((((xa.length : Nat) : Int)) = i281)) (some ((0, 0, 0, 0, 0, 3))) (((cond (decide (i252 = 2)) (some (decide (i252 = 2))) (some (decide (i252 = 3))) : Option Bool).bind fun t348 => cond (t348) ((getI xa 1).bind fun x351 => (fn_script_number x351).bind fun (i362, i363) => some ((i363, i362, 0, 0, 0))) (cond (decide (i252 = 4)) ((getI xa 1).bind fun x369 => (fn_numeral_ParsePair x369 1048576).bind fun (i380, i381, i382) => some ((i382, i380, i381, 0, 0))) (cond (decide (i252 = 7)) ((subL xa 1 (((xa.length : Nat) : Int))).bind fun y387 => (fn_script_change y387).bind fun (i395, i396, i397, i398, i399) => some ((i399, i395, i396, i397, i398))) (some ((0, 0, 0, 0, 0))))) : Option (Int × Int × Int × Int × Int)).bind fun (i342, i343, i344, i345, i346) => cond (!decide (i342 = 0)) (some ((0, 0, 0, 0, 0, i342))) (some ((i252, i343, i344, i345, i346, 0))))))
noncomputable def h_script_Command : Hn Try.prog := .tw 9 (.nil) (.cl ok_script_names [] (.wt 1000006 (.mc 0 0 1 (.cl ok_slices_IndexFunc_string_string_k_script_Command_1_p0_k [4] (.mix [([0, 1, 2, 3, 4, 5, 6, 7], 8)] [9, 10] [] [] (.two 18 (.nil) (.cl ok_script_many [] (.tw 25 (.nil) (.pl (.sq [(9, 0)] ⟨[(5, .dat (.int .i64))], [⟨(some 9), 27, [.is 1 (.any), .dat (.int .i64), .dat (.int .i64), .dat (.int .i64), .dat (.int .i64)], false, false, none, false⟩, ⟨(some 12), 0, [], false, true, none, false⟩]⟩ [9] (.pl (.sq [] ⟨[(29, .dat .bool)], []⟩ [] (.tw 29 (.nil) (.nil)) (.tw 29 (.cl ok_script_number [] (.nil)) (.tw 41 (.cl ok_numeral_ParsePair [] (.mix [([0, 1, 2, 3, 4, 5, 7], 6)] [8] [9] [9] (.nil))) (.tw 58 (.cl ok_script_change [] (.nil)) (.nil)))))) (.tw 68 (.nil) (.nil))))))))))))
noncomputable def sp_script_Command : Spec := ⟨5, ⟨[(0, .dat (.sl .str))], []⟩, [⟨[(0, .tup [.agg [.dat (.int .i64), .dat (.int .i64), .dat (.int .i64), .dat (.int .i64), .dat (.int .i64)], .dat (.int .i64)])], []⟩], fun x => fn_script_Command x⟩
theorem script_Command_is : SpecOk Try.prog sp_script_Command := fn_is Try.func5 h_script_Command (by kernel_rfl) (by kernel_rfl)
noncomputable def ok_script_Command : OkSpec Try.prog := ⟨sp_script_Command, script_Command_is, Try.call5⟩

noncomputable def fn_numeral_Pair (xa : (Int × Int)) : Option (List UInt8) :=
 cond ((decide (xa.1 < 0)) || (decide (xa.2 < 0))) (some (([] : List UInt8))) ((fn_numeral_Text xa.1).bind fun s124 => (app s124 ([58] : List UInt8)).bind fun z128 => (fn_numeral_Text xa.2).bind fun s132 => (app z128 s132).bind fun z136 => some (z136))
noncomputable def h_numeral_Pair : Hn Try.prog := .gp 3 (.tw 10 (.nil) (.mix [([0, 1, 4, 5], 2), ([3], 6)] [7, 8] [] [] (.cl ok_numeral_Text [] (.cl ok_numeral_Text [] (.nil)))))
noncomputable def sp_numeral_Pair : Spec := ⟨21, ⟨[(0, .dat (.cons (.int .i64) (.one (.int .i64))))], []⟩, [⟨[(0, .dat .str)], []⟩], fun x => fn_numeral_Pair x⟩
theorem numeral_Pair_is : SpecOk Try.prog sp_numeral_Pair := fn_is Try.func21 h_numeral_Pair (by kernel_rfl) (by kernel_rfl)
noncomputable def ok_numeral_Pair : OkSpec Try.prog := ⟨sp_numeral_Pair, numeral_Pair_is, Try.call21⟩

noncomputable def fn_script_Line (xa : (Int × (Int × Int × Int × Int))) : Option (List UInt8) :=
 (fn_script_names).bind fun l162 => cond ((decide (xa.1 < 0)) || (decide ((((l162.length : Nat) : Int)) ≤ xa.1))) (some (([63] : List UInt8))) ((getI l162 xa.1).bind fun x173 => (cond (decide (xa.1 = 2)) (some (decide (xa.1 = 2))) (some (decide (xa.1 = 3))) : Option Bool).bind fun t184 => cond (t184) ((fn_numeral_Text xa.2.1).bind fun s189 => (app (([x173] : List (List UInt8))) (([s189] : List (List UInt8)))).bind fun z196 => (joinF z196 ([32] : List UInt8)).bind fun s207 => some (s207)) (cond (decide (xa.1 = 4)) ((fn_numeral_Pair (xa.2.1, xa.2.2.1)).bind fun s214 => (app (([x173] : List (List UInt8))) (([s214] : List (List UInt8)))).bind fun z221 => (joinF z221 ([32] : List UInt8)).bind fun s232 => some (s232)) (cond (decide (xa.1 = 7)) ((fn_edit_Name xa.2.1).bind fun s239 => (app (([x173] : List (List UInt8))) (([s239] : List (List UInt8)))).bind fun z246 => (fn_numeral_Text xa.2.2.1).bind fun s254 => (app z246 (([s254] : List (List UInt8)))).bind fun z261 => (fn_numeral_Text xa.2.2.2.1).bind fun s269 => (app z261 (([s269] : List (List UInt8)))).bind fun z276 => (fn_numeral_Text xa.2.2.2.2).bind fun s284 => (app z276 (([s284] : List (List UInt8)))).bind fun z291 => (joinF z291 ([32] : List UInt8)).bind fun s302 => some (s302)) ((joinF (([x173] : List (List UInt8))) ([32] : List UInt8)).bind fun s311 => some (s311)))))
noncomputable def h_script_Line : Hn Try.prog := .cl ok_script_names [] (.gp 5 (.tw 17 (.nil) (.pl (.pl (.pl (.sq [] ⟨[(26, .dat .bool)], []⟩ [] (.tw 26 (.nil) (.nil)) (.tw 26 (.cl ok_numeral_Text [] (.cl ok_Join [8] (.nil))) (.tw 36 (.cl ok_numeral_Pair [] (.cl ok_Join [8] (.nil))) (.tw 49 (.cl ok_edit_Name [] (.un 64 (.cl ok_numeral_Text [] (.cl ok_numeral_Text [] (.cl ok_numeral_Text [] (.cl ok_Join [20] (.nil))))))) (.cl ok_Join [4] (.nil)))))))))))
noncomputable def sp_script_Line : Spec := ⟨7, ⟨[(0, .dat (.cons (.int .i64) (.one (.cons (.int .i64) (.cons (.int .i64) (.cons (.int .i64) (.one (.int .i64))))))))], []⟩, [⟨[(0, .dat .str)], []⟩], fun x => fn_script_Line x⟩
theorem script_Line_is : SpecOk Try.prog sp_script_Line := fn_is Try.func7 h_script_Line (by kernel_rfl) (by kernel_rfl)
noncomputable def ok_script_Line : OkSpec Try.prog := ⟨sp_script_Line, script_Line_is, Try.call7⟩

noncomputable def fn_law42_awake  : Option Bool :=
 (fn_script_Command (([([119, 104, 121] : List UInt8), ([49, 58, 50] : List UInt8)] : List (List UInt8)))).bind fun (i69, i70, i71, i72, i73, i74) => (fn_script_Command (([([101, 100, 105, 116] : List UInt8), ([100, 114, 111, 112] : List UInt8), ([48] : List UInt8), ([49] : List UInt8), ([48] : List UInt8)] : List (List UInt8)))).bind fun (i87, i88, i89, i90, i91, i92) => (cond ((((decide (i74 = 0)) && (decide (i92 = 0))) && ((decide (i69 = 4)) && (((decide (i70 = 1)) && ((decide (i71 = 2)) && ((decide (i72 = 0)) && ((decide (i73 = 0))))))))) && ((decide (i87 = 7)) && (((decide (i88 = 2)) && ((decide (i89 = 0)) && ((decide (i90 = 1)) && ((decide (i91 = 0))))))))) ((fn_script_Line ((i87, (i88, i89, i90, i91)))).bind fun s114 => some (decide (s114 = ([101, 100, 105, 116, 32, 100, 114, 111, 112, 32, 48, 32, 49, 32, 48] : List UInt8)))) (some (false))).bind fun t110 => some (t110)
noncomputable def h_law42_awake : Hn Try.prog := .cl ok_script_Command [0] (.cl ok_script_Command [5] (.gp 2 (.wt 21 (.gp 4 (.wt 27 (.gp 4 (.wt 33 (.gj 3 ⟨[(37, .dat .bool)], []⟩ [] (.two 33 (.cl ok_script_Line [] (.nil)) (.nil)) (.nil)))))))))
noncomputable def sp_law42_awake : Spec := ⟨4, ⟨[], []⟩, [⟨[(0, .dat .bool)], []⟩], fun x => fn_law42_awake⟩
theorem law42_awake_is : SpecOk Try.prog sp_law42_awake := fn_is Try.func4 h_law42_awake (by kernel_rfl) (by kernel_rfl)
noncomputable def ok_law42_awake : OkSpec Try.prog := ⟨sp_law42_awake, law42_awake_is, Try.call4⟩

noncomputable def fn_ref42_names  : Option ((List (List UInt8))) :=
 some (([([99, 104, 101, 99, 107] : List UInt8), ([99, 111, 110, 115] : List UInt8), ([108, 105, 118, 101] : List UInt8), ([118, 97, 108, 117, 101] : List UInt8), ([119, 104, 121] : List UInt8), ([115, 117, 103, 103, 101, 115, 116] : List UInt8), ([116, 114, 105, 109] : List UInt8), ([101, 100, 105, 116] : List UInt8), ([112, 114, 111, 118, 101] : List UInt8), ([112, 114, 105, 110, 116] : List UInt8)] : List (List UInt8)))
noncomputable def h_ref42_names : Hn Try.prog := .nil
noncomputable def sp_ref42_names : Spec := ⟨16, ⟨[], []⟩, [⟨[(0, .own 9 .str)], []⟩], fun x => fn_ref42_names⟩
theorem ref42_names_is : SpecOk Try.prog sp_ref42_names := fn_is Try.func16 h_ref42_names (by kernel_rfl) (by kernel_rfl)
noncomputable def ok_ref42_names : OkSpec Try.prog := ⟨sp_ref42_names, ref42_names_is, Try.call16⟩
noncomputable def fn_ref01_Form_l1 (xa : (List UInt8)) : Int → Option (Int ⊕ (Unit ⊕ Bool)) := fun (i244 : Int) => cond (decide (i244 < (((xa.length : Nat) : Int)))) ((getI xa i244).bind fun x268 => (cond (decide ((((x268.toNat : Nat) : Int)) < 48)) (some (true)) ((getI xa i244).bind fun x281 => some (decide (57 < (((x281.toNat : Nat) : Int)))))).bind fun t279 => cond (t279) (some (.inr ((.inr (false))))) (some (.inl (IntKind.wrap .i64 (i244 + 1))))) (some (.inr ((.inl ()))))
noncomputable def fn_ref01_Form (xa : (List UInt8)) : Option Bool :=
 (loop (fn_ref01_Form_l1 xa) 0 : Option (Unit ⊕ Bool)).bind fun o => match o with | .inr r => some r | .inl () => (cond (decide ((((xa.length : Nat) : Int)) = 1)) (some (true)) ((cond (decide (1 < (((xa.length : Nat) : Int)))) ((getI xa 0).bind fun x311 => some (!decide ((((x311.toNat : Nat) : Int)) = 48))) (some (false))).bind fun t309 => some (t309))).bind fun t301 => some (t301)
noncomputable def h_ref01_Form : Hn Try.prog := .jx [] ⟨[], []⟩ [] (.lp ⟨[(3, .dat (.int .i64))], []⟩ (.tw 7 (.gj 4 ⟨[(19, .dat .bool)], []⟩ [] (.two 14 (.nil) (.nil)) (.tw 19 (.nil) (.nil))) (.nil))) (.gj 8 ⟨[(32, .dat .bool)], []⟩ [] (.two 23 (.nil) (.wt 27 (.gj 3 ⟨[(31, .dat .bool)], []⟩ [] (.two 27 (.nil) (.nil)) (.nil)))) (.nil))
noncomputable def sp_ref01_Form : Spec := ⟨29, ⟨[(0, .dat .str)], []⟩, [⟨[(0, .dat .bool)], []⟩], fun x => fn_ref01_Form x⟩
theorem ref01_Form_is : SpecOk Try.prog sp_ref01_Form := fn_is Try.func29 h_ref01_Form (by kernel_rfl) (by kernel_rfl)
noncomputable def ok_ref01_Form : OkSpec Try.prog := ⟨sp_ref01_Form, ref01_Form_is, Try.call29⟩
noncomputable def fn_ref01_Parse_l1 (xa : (List UInt8)) : (Int × Int) → Option ((Int × Int) ⊕ (Int ⊕ (Int × Int))) := fun ((i203, i204) : (Int × Int)) => cond (decide (i204 < (((xa.length : Nat) : Int)))) ((getI xa i204).bind fun x225 => cond ((decide (922337203685477580 < i203)) || ((decide (i203 = 922337203685477580)) && (decide (7 < (IntKind.wrap .i64 (IntKind.wrap .u8 ((((x225.toNat : Nat) : Int)) - 48))))))) (some (.inr ((.inr ((0, 5)))))) (some (.inl ((IntKind.wrap .i64 ((IntKind.wrap .i64 (i203 * 10)) + (IntKind.wrap .i64 (IntKind.wrap .u8 ((((x225.toNat : Nat) : Int)) - 48)))), IntKind.wrap .i64 (i204 + 1)))))) (some (.inr (.inl i203)))
noncomputable def fn_ref01_Parse (xa : (List UInt8)) (xb : Int) : Option (Int × Int) :=
 (fn_ref01_Form xa).bind fun t124 => cond (!t124) (some ((0, 3))) ((loop (fn_ref01_Parse_l1 xa) (0, 0) : Option (Int ⊕ (Int × Int))).bind fun o => match o with | .inr r => some r | .inl i184 => cond (decide (xb < i184)) (some ((0, 5))) (some ((i184, 0))))
noncomputable def h_ref01_Parse : Hn Try.prog := .cl ok_ref01_Form [] (.tw 11 (.nil) (.jx [] ⟨[(6, .dat (.int .i64))], []⟩ [] (.lp ⟨[(6, .dat (.int .i64)), (7, .dat (.int .i64))], []⟩ (.tw 15 (.gp 6 (.tw 32 (.nil) (.nil))) (.nil))) (.tw 39 (.nil) (.nil))))
noncomputable def sp_ref01_Parse : Spec := ⟨19, ⟨[(0, .dat .str), (1, .dat (.int .i64))], []⟩, [⟨[(0, .tup [.dat (.int .i64), .dat (.int .i64)])], []⟩], fun x => fn_ref01_Parse x.1 x.2⟩
theorem ref01_Parse_is : SpecOk Try.prog sp_ref01_Parse := fn_is Try.func19 h_ref01_Parse (by kernel_rfl) (by kernel_rfl)
noncomputable def ok_ref01_Parse : OkSpec Try.prog := ⟨sp_ref01_Parse, ref01_Parse_is, Try.call19⟩
noncomputable def fn_ref01_ParsePair_l1 (xa : (List UInt8)) (xb : Int) : Int → Option (Int ⊕ (Unit ⊕ (Int × Int × Int))) := fun (i289 : Int) => cond (decide (i289 < (((xa.length : Nat) : Int)))) ((getI xa i289).bind fun x320 => cond (!decide ((((x320.toNat : Nat) : Int)) = 58)) (some (.inl (IntKind.wrap .i64 (i289 + 1)))) ((subL xa 0 i289).bind fun y326 => (fn_ref01_Parse y326 xb).bind fun (i330, i331) => cond (!decide (i331 = 0)) (some (.inr ((.inr ((0, 0, i331)))))) ((subL xa (IntKind.wrap .i64 (i289 + 1)) (((xa.length : Nat) : Int))).bind fun y336 => (fn_ref01_Parse y336 xb).bind fun (i340, i341) => cond (!decide (i341 = 0)) (some (.inr ((.inr ((0, 0, i341)))))) (some (.inr ((.inr ((i330, i340, 0))))))))) (some (.inr ((.inl ()))))
noncomputable def fn_ref01_ParsePair (xa : (List UInt8)) (xb : Int) : Option (Int × Int × Int) :=
 (loop (fn_ref01_ParsePair_l1 xa xb) 0 : Option (Unit ⊕ (Int × Int × Int))).bind fun o => match o with | .inr r => some r | .inl () => some ((0, 0, 3))
noncomputable def h_ref01_ParsePair : Hn Try.prog := .jx [] ⟨[], [⟨(some 0), 43, [.lit (.int .i64 0), .lit (.int .i64 0)], false, false, none, false⟩]⟩ [0] (.lp ⟨[(6, .dat (.int .i64))], [⟨(some 0), 43, [.lit (.int .i64 0), .lit (.int .i64 0)], false, false, none, false⟩]⟩ (.tw 14 (.tw 20 (.nil) (.cl ok_ref01_Parse [] (.tw 30 (.nil) (.cl ok_ref01_Parse [] (.tw 43 (.nil) (.nil)))))) (.nil))) (.nil)
noncomputable def sp_ref01_ParsePair : Spec := ⟨17, ⟨[(0, .dat .str), (1, .dat (.int .i64))], []⟩, [⟨[(0, .tup [.agg [.dat (.int .i64), .dat (.int .i64)], .dat (.int .i64)])], []⟩], fun x => fn_ref01_ParsePair x.1 x.2⟩
theorem ref01_ParsePair_is : SpecOk Try.prog sp_ref01_ParsePair := fn_is Try.func17 h_ref01_ParsePair (by kernel_rfl) (by kernel_rfl)
noncomputable def ok_ref01_ParsePair : OkSpec Try.prog := ⟨sp_ref01_ParsePair, ref01_ParsePair_is, Try.call17⟩

noncomputable def fn_ref41_Name (xa : Int) : Option (List UInt8) :=
 cond ((decide (xa < 1)) || (decide (8 < xa))) (some (([63] : List UInt8))) ((getI (([([98, 108, 97, 110, 107] : List UInt8), ([100, 114, 111, 112] : List UInt8), ([116, 119, 105, 99, 101] : List UInt8), ([115, 119, 97, 112] : List UInt8), ([114, 101, 103, 105, 111, 110] : List UInt8), ([108, 111, 110, 101] : List UInt8), ([100, 101, 99, 108, 97, 114, 101] : List UInt8), ([117, 110, 100, 101, 99, 108, 97, 114, 101] : List UInt8)] : List (List UInt8))) (IntKind.wrap .i64 (xa - 1))).bind fun x21 => some (x21))
noncomputable def h_ref41_Name : Hn Try.prog := .gp 2 (.tw 8 (.nil) (.nil))
noncomputable def sp_ref41_Name : Spec := ⟨18, ⟨[(0, .dat (.int .i64))], []⟩, [⟨[(0, .dat .str)], []⟩], fun x => fn_ref41_Name x⟩
theorem ref41_Name_is : SpecOk Try.prog sp_ref41_Name := fn_is Try.func18 h_ref41_Name (by kernel_rfl) (by kernel_rfl)
noncomputable def ok_ref41_Name : OkSpec Try.prog := ⟨sp_ref41_Name, ref41_Name_is, Try.call18⟩
noncomputable def fn_ref42_Command_l1 (xa : (List (List UInt8))) : (Int × Int) → Option ((Int × Int) ⊕ Int) := fun ((i2109, i2110) : (Int × Int)) => cond (decide (i2110 < 10)) ((getI xa 0).bind fun x2299 => (fn_ref42_names).bind fun l2310 => (getI l2310 i2110).bind fun x2318 => cond (decide (x2318 = x2299)) (some (.inl ((i2110, IntKind.wrap .i64 (i2110 + 1))))) (some (.inl ((i2109, IntKind.wrap .i64 (i2110 + 1)))))) (some (.inr (i2109)))
noncomputable def fn_ref42_Command_l2 (xa : (List (List UInt8))) : (Int × Int) → Option ((Int × Int) ⊕ Int) := fun ((i3013, i3014) : (Int × Int)) => cond (decide (i3013 ≤ 8)) ((getI xa 1).bind fun x3126 => (fn_ref41_Name i3013).bind fun s3137 => cond (decide (s3137 = x3126)) (some (.inl ((IntKind.wrap .i64 (i3013 + 1), i3013)))) (some (.inl ((IntKind.wrap .i64 (i3013 + 1), i3014))))) (some (.inr (i3014)))
noncomputable def fn_ref42_Command_l3 (xa : (List (List UInt8))) (i2336 : Int) : (Int × Int × Int × Int × Int) → Option ((Int × Int × Int × Int × Int) ⊕ ((Int × Int × Int × Int) ⊕ (Int × Int × Int × Int × Int × Int))) := fun ((i3240, i3241, i3242, i3243, i3244) : (Int × Int × Int × Int × Int)) => cond (decide (i3240 < i2336)) ((getI xa i3240).bind fun x3270 => (fn_ref01_Parse x3270 1048576).bind fun (i3281, i3282) => cond (!decide (i3282 = 0)) (some (.inr ((.inr ((0, 0, 0, 0, 0, i3282)))))) (cond (decide (IntKind.wrap .i64 (i3240 - 1) = ((0 : Nat) : Int))) (some (.inl ((IntKind.wrap .i64 (i3240 + 1), i3281, i3242, i3243, i3244)))) (cond (decide (IntKind.wrap .i64 (i3240 - 1) = ((1 : Nat) : Int))) (some (.inl ((IntKind.wrap .i64 (i3240 + 1), i3241, i3281, i3243, i3244)))) (cond (decide (IntKind.wrap .i64 (i3240 - 1) = ((2 : Nat) : Int))) (some (.inl ((IntKind.wrap .i64 (i3240 + 1), i3241, i3242, i3281, i3244)))) (cond (decide (IntKind.wrap .i64 (i3240 - 1) = ((3 : Nat) : Int))) (some (.inl ((IntKind.wrap .i64 (i3240 + 1), i3241, i3242, i3243, i3281)))) (none)))))) (some (.inr ((.inl (i3241, i3242, i3243, i3244)))))
noncomputable def fn_ref42_Command (xa : (List (List UInt8))) : Option (Int × Int × Int × Int × Int × Int) :=
 cond (decide ((((xa.length : Nat) : Int)) = 0)) (some ((0, 0, 0, 0, 0, 3))) ((loop (fn_ref42_Command_l1 xa) (((-1), 0)) : Option Int).bind fun i2000 => (cond ((decide (2 ≤ i2000)) && (decide (i2000 ≤ 4))) (some (2)) (some (1)) : Option Int).bind fun i2330 => (cond (decide (i2000 = 7)) (some (5)) (some (i2330)) : Option Int).bind fun i2336 => cond ((decide (i2000 < 0)) || (!decide ((((xa.length : Nat) : Int)) = i2336))) (some ((0, 0, 0, 0, 0, 3))) (cond (decide (i2000 = 4)) ((getI xa 1).bind fun x2344 => (fn_ref01_ParsePair x2344 1048576).bind fun (i2355, i2356, i2357) => cond (!decide (i2357 = 0)) (some ((0, 0, 0, 0, 0, i2357))) (some ((i2000, i2355, i2356, 0, 0, 0)))) ((cond (decide (i2000 = 7)) ((loop (fn_ref42_Command_l2 xa) (1, 0) : Option Int).bind fun i2948 => cond (decide (i2948 = 0)) (some (.inr ((0, 0, 0, 0, 0, 3)))) (some (.inl (2, i2948)))) (some (.inl (1, 0))) : Option ((Int × Int) ⊕ (Int × Int × Int × Int × Int × Int))).bind fun o => match o with | .inr r => some r | .inl (i2752, i2753) => (loop (fn_ref42_Command_l3 xa i2336) (i2752, i2753, 0, 0, 0) : Option ((Int × Int × Int × Int) ⊕ (Int × Int × Int × Int × Int × Int))).bind fun o => match o with | .inr r => some r | .inl (i3213, i3214, i3215, i3216) => some ((i2000, i3213, i3214, i3215, i3216, 0)))))
noncomputable def h_ref42_Command : Hn Try.prog := .tw 17 (.nil) (.jn [] ⟨[(4, .dat (.int .i64))], []⟩ [] (.lp ⟨[(4, .dat (.int .i64)), (5, .dat (.int .i64))], []⟩ (.tw 20 (.mix [([1, 4, 5, 6], 0), ([2], 3)] [7] [] [] (.cl ok_ref42_names [] (.tw 30 (.nil) (.nil)))) (.nil))) (.pl (.sq [] ⟨[(6, .dat (.int .i64))], []⟩ [] (.gp 2 (.tw 37 (.nil) (.nil))) (.sq [] ⟨[(6, .dat (.int .i64))], []⟩ [] (.tw 39 (.nil) (.nil)) (.gp 4 (.tw 47 (.nil) (.tw 52 (.cl ok_ref01_ParsePair [] (.tw 69 (.nil) (.nil))) (.pl (.sx [(2, 0)] ⟨[(10, .dat (.int .i64))], [⟨(some 0), 24, [.lit (.int .i64 0), .lit (.int .i64 0), .lit (.int .i64 0), .lit (.int .i64 0), .lit (.int .i64 0)], false, false, none, false⟩, ⟨(some 2), 24, [.is 2 (.any), .dat (.int .i64), .lit (.int .i64 0), .lit (.int .i64 0), .lit (.int .i64 0)], false, false, none, false⟩, ⟨(some 5), 0, [], false, true, none, false⟩]⟩ [2, 0] (.tw 74 (.jn [] ⟨[], [⟨(some 2), 24, [.is 1 (.any), .dat (.int .i64), .lit (.int .i64 0), .lit (.int .i64 0), .lit (.int .i64 0)], false, false, none, false⟩, ⟨(some 5), 0, [], false, true, none, false⟩]⟩ [2] (.lp ⟨[(11, .dat (.int .i64))], [⟨(some 2), 24, [.is 1 (.any), .dat (.int .i64), .lit (.int .i64 0), .lit (.int .i64 0), .lit (.int .i64 0)], false, false, none, false⟩, ⟨(some 5), 0, [], false, true, none, false⟩]⟩ (.tw 76 (.mix [([0, 2, 3, 4], 1)] [5] [] [] (.cl ok_ref41_Name [] (.tw 84 (.nil) (.nil)))) (.nil))) (.tw 91 (.nil) (.nil))) (.nil)) (.jx [] ⟨[], [⟨(some 0), 24, [.lit (.int .i64 0), .lit (.int .i64 0), .lit (.int .i64 0), .lit (.int .i64 0), .lit (.int .i64 0)], false, false, none, false⟩, ⟨(some 2), 24, [.is 2 (.any), .dat (.int .i64), .dat (.int .i64), .dat (.int .i64), .dat (.int .i64)], false, false, none, false⟩, ⟨(some 5), 0, [], false, true, none, false⟩]⟩ [0, 2] (.lp ⟨[(12, .dat (.int .i64))], [⟨(some 0), 24, [.lit (.int .i64 0), .lit (.int .i64 0), .lit (.int .i64 0), .lit (.int .i64 0), .lit (.int .i64 0)], false, false, none, false⟩, ⟨(some 2), 24, [.is 2 (.any), .dat (.int .i64), .dat (.int .i64), .dat (.int .i64), .dat (.int .i64)], false, false, none, false⟩, ⟨(some 5), 0, [], false, true, none, false⟩]⟩ (.tw 96 (.cl ok_ref01_Parse [] (.tw 108 (.nil) (.nil))) (.nil))) (.nil)))))))))))
noncomputable def sp_ref42_Command : Spec := ⟨6, ⟨[(0, .dat (.sl .str))], []⟩, [⟨[(0, .tup [.agg [.dat (.int .i64), .dat (.int .i64), .dat (.int .i64), .dat (.int .i64), .dat (.int .i64)], .dat (.int .i64)])], []⟩], fun x => fn_ref42_Command x⟩
theorem ref42_Command_is : SpecOk Try.prog sp_ref42_Command := fn_is Try.func6 h_ref42_Command (by kernel_rfl) (by kernel_rfl)
noncomputable def ok_ref42_Command : OkSpec Try.prog := ⟨sp_ref42_Command, ref42_Command_is, Try.call6⟩

noncomputable def fn_ref01_Pair (xa : (Int × Int)) : Option (List UInt8) :=
 cond ((decide (xa.1 < 0)) || (decide (xa.2 < 0))) (some (([] : List UInt8))) ((fn_ref01_Text xa.1).bind fun s124 => (app s124 ([58] : List UInt8)).bind fun z128 => (fn_ref01_Text xa.2).bind fun s132 => (app z128 s132).bind fun z136 => some (z136))
noncomputable def h_ref01_Pair : Hn Try.prog := .gp 3 (.tw 10 (.nil) (.mix [([0, 1, 4, 5], 2), ([3], 6)] [7, 8] [] [] (.cl ok_ref01_Text [] (.cl ok_ref01_Text [] (.nil)))))
noncomputable def sp_ref01_Pair : Spec := ⟨25, ⟨[(0, .dat (.cons (.int .i64) (.one (.int .i64))))], []⟩, [⟨[(0, .dat .str)], []⟩], fun x => fn_ref01_Pair x⟩
theorem ref01_Pair_is : SpecOk Try.prog sp_ref01_Pair := fn_is Try.func25 h_ref01_Pair (by kernel_rfl) (by kernel_rfl)
noncomputable def ok_ref01_Pair : OkSpec Try.prog := ⟨sp_ref01_Pair, ref01_Pair_is, Try.call25⟩
noncomputable def fn_ref42_Line_l1 (xa : (Int × (Int × Int × Int × Int))) : (List UInt8 × Int) → Option ((List UInt8 × Int) ⊕ List UInt8) := fun ((s531, i532) : (List UInt8 × Int)) => cond (decide (i532 < 4)) ((app s531 ([32] : List UInt8)).bind fun z572 => cond (decide (i532 = ((0 : Nat) : Int))) ((fn_ref01_Text xa.2.1).bind fun s576 => (app z572 s576).bind fun z580 => some (.inl ((z580, IntKind.wrap .i64 (i532 + 1))))) (cond (decide (i532 = ((1 : Nat) : Int))) ((fn_ref01_Text xa.2.2.1).bind fun s584 => (app z572 s584).bind fun z588 => some (.inl ((z588, IntKind.wrap .i64 (i532 + 1))))) (cond (decide (i532 = ((2 : Nat) : Int))) ((fn_ref01_Text xa.2.2.2.1).bind fun s592 => (app z572 s592).bind fun z596 => some (.inl ((z596, IntKind.wrap .i64 (i532 + 1))))) (cond (decide (i532 = ((3 : Nat) : Int))) ((fn_ref01_Text xa.2.2.2.2).bind fun s600 => (app z572 s600).bind fun z604 => some (.inl ((z604, IntKind.wrap .i64 (i532 + 1))))) (none))))) (some (.inr (s531)))
noncomputable def fn_ref42_Line (xa : (Int × (Int × Int × Int × Int))) : Option (List UInt8) :=
 cond ((decide (xa.1 < 0)) || (decide (9 < xa.1))) (some (([63] : List UInt8))) ((fn_ref42_names).bind fun l378 => (getI l378 xa.1).bind fun x386 => cond ((decide (xa.1 = 2)) || (decide (xa.1 = 3))) ((app x386 ([32] : List UInt8)).bind fun z397 => (fn_ref01_Text xa.2.1).bind fun s401 => (app z397 s401).bind fun z405 => some (z405)) (cond (decide (xa.1 = 4)) ((app x386 ([32] : List UInt8)).bind fun z408 => (fn_ref01_Pair (xa.2.1, xa.2.2.1)).bind fun s412 => (app z408 s412).bind fun z416 => some (z416)) (cond (decide (xa.1 = 7)) ((app x386 ([32] : List UInt8)).bind fun z419 => (fn_ref41_Name xa.2.1).bind fun s423 => (app z419 s423).bind fun z427 => (loop (fn_ref42_Line_l1 xa) (z427, 1) : Option (List UInt8)).bind fun s517 => some (s517)) (some (x386)))))
noncomputable def h_ref42_Line : Hn Try.prog := .gp 3 (.tw 12 (.nil) (.mix [([1, 2], 0), ([3], 4)] [5] [] [] (.cl ok_ref42_names [] (.gp 3 (.tw 25 (.cl ok_ref01_Text [] (.nil)) (.tw 35 (.cl ok_ref01_Pair [] (.nil)) (.tw 49 (.cl ok_ref41_Name [] (.jn [] ⟨[(3, .dat .str)], []⟩ [2] (.lp ⟨[(3, .dat .str), (4, .dat (.int .i64))], []⟩ (.tw 58 (.cl ok_ref01_Text [] (.nil)) (.nil))) (.nil))) (.nil))))))))
noncomputable def sp_ref42_Line : Spec := ⟨8, ⟨[(0, .dat (.cons (.int .i64) (.one (.cons (.int .i64) (.cons (.int .i64) (.cons (.int .i64) (.one (.int .i64))))))))], []⟩, [⟨[(0, .dat .str)], []⟩], fun x => fn_ref42_Line x⟩
theorem ref42_Line_is : SpecOk Try.prog sp_ref42_Line := fn_is Try.func8 h_ref42_Line (by kernel_rfl) (by kernel_rfl)
noncomputable def ok_ref42_Line : OkSpec Try.prog := ⟨sp_ref42_Line, ref42_Line_is, Try.call8⟩
noncomputable def fn_law42_ScriptCommands_l1 (xb : (List (List UInt8))) : Int → Option (Int ⊕ (Unit ⊕ Bool)) := fun (i292 : Int) => cond (decide (i292 < (((xb.length : Nat) : Int)))) ((getI xb i292).bind fun x313 => cond (decide (40 < (((x313.length : Nat) : Int)))) ((fn_law42_awake).bind fun t325 => some (.inr ((.inr (t325))))) (some (.inl (IntKind.wrap .i64 (i292 + 1))))) (some (.inr ((.inl ()))))
noncomputable def fn_law42_ScriptCommands (xa : (Int × (Int × Int × Int × Int))) (xb : (List (List UInt8))) : Option Bool :=
 cond (decide (10 < (((xb.length : Nat) : Int)))) ((fn_law42_awake).bind fun t215 => some (t215)) ((loop (fn_law42_ScriptCommands_l1 xb) 0 : Option (Unit ⊕ Bool)).bind fun o => match o with | .inr r => some r | .inl () => (fn_script_Command xb).bind fun (i331, i332, i333, i334, i335, i336) => (fn_ref42_Command xb).bind fun (i343, i344, i345, i346, i347, i348) => (fn_script_Line ((xa.1, (xa.2.1, xa.2.2.1, xa.2.2.2.1, xa.2.2.2.2)))).bind fun s400 => (fn_ref42_Line ((xa.1, (xa.2.1, xa.2.2.1, xa.2.2.2.1, xa.2.2.2.2)))).bind fun s406 => cond (decide (s400 = s406)) (cond (decide (i331 = i343)) (cond ((decide (i332 = i344)) && ((decide (i333 = i345)) && ((decide (i334 = i346)) && ((decide (i335 = i347)))))) (cond (decide (i336 = i348)) ((fn_law42_awake).bind fun t416 => some (t416)) (some (false))) (some (false))) (some (false))) (some (false)))
noncomputable def h_law42_ScriptCommands : Hn Try.prog := .tw 12 (.cl ok_law42_awake [] (.nil)) (.jx [] ⟨[], []⟩ [] (.lp ⟨[(5, .dat (.int .i64))], []⟩ (.tw 17 (.tw 25 (.cl ok_law42_awake [] (.nil)) (.nil)) (.nil))) (.cl ok_script_Command [] (.cl ok_ref42_Command [] (.mix [([0, 1, 2, 3, 4, 6], 5), ([], 7)] [8, 9, 10, 11, 12, 13, 14, 15, 16, 17, 18, 19, 20, 21, 22, 23, 24, 25, 26, 27, 28] [29, 30, 31] [] (.cl ok_script_Line [] (.cl ok_ref42_Line [] (.two 46 (.two 53 (.two 60 (.two 65 (.cl ok_law42_awake [] (.nil)) (.nil)) (.nil)) (.nil)) (.nil))))))))
noncomputable def sp_law42_ScriptCommands : Spec := ⟨3, ⟨[(0, .dat (.cons (.int .i64) (.one (.cons (.int .i64) (.cons (.int .i64) (.cons (.int .i64) (.one (.int .i64)))))))), (1, .dat (.sl .str))], []⟩, [⟨[(0, .dat .bool)], []⟩], fun x => fn_law42_ScriptCommands x.1 x.2⟩
theorem law42_ScriptCommands_is : SpecOk Try.prog sp_law42_ScriptCommands := fn_is Try.func3 h_law42_ScriptCommands (by kernel_rfl) (by kernel_rfl)
noncomputable def ok_law42_ScriptCommands : OkSpec Try.prog := ⟨sp_law42_ScriptCommands, law42_ScriptCommands_is, Try.call3⟩
end
section
section
variable {σ β : Type} {body : σ → Option (σ ⊕ β)}
theorem loop_nat (st : Nat → σ) (n : Nat) {b : β} (h : ∀ k, k < n → body (st k) = some (.inl (st (k + 1)))) (he : body (st n) = some (.inr b)) : loop body (st 0) = some b := by
 have : ∀ m k, k + m = n → loop body (st k) = some b := by
   intro m
   induction m with
   | zero => intro k hk; have : k = n := by omega
             subst this; exact loop_end he
   | succ m ih => intro k hk; rw [loop_next (h k (by omega))]; exact ih (k + 1) (by omega)
 exact this n 0 (by omega)
theorem least (p : Nat → Prop) : ∀ n, (∃ k, k < n ∧ p k ∧ ∀ j, j < k → ¬ p j) ∨ ∀ j, j < n → ¬ p j
 | 0 => .inr (fun j hj => by omega)
 | n + 1 => by
   rcases least p n with ⟨k, h1, h2, h3⟩ | h
   · exact .inl ⟨k, by omega, h2, h3⟩
   · by_cases hp : p n
     · exact .inl ⟨n, by omega, hp, h⟩
     · exact .inr (fun j hj => if e : j = n then e ▸ hp else h j (by omega))
theorem loop_find (p : Nat → Prop) (st : Nat → σ) (n : Nat) (hit : Nat → β) (e : β) (hgo : ∀ k, k < n → ¬ p k → body (st k) = some (.inl (st (k + 1)))) (hhit : ∀ k, k < n → p k → body (st k) = some (.inr (hit k))) (hend : body (st n) = some (.inr e)) :
   (∃ k, k < n ∧ p k ∧ (∀ j, j < k → ¬ p j) ∧ loop body (st 0) = some (hit k)) ∨ ((∀ j, j < n → ¬ p j) ∧ loop body (st 0) = some e) := by
 rcases least p n with ⟨k, h1, h2, h3⟩ | h
 · exact .inl ⟨k, h1, h2, h3, loop_nat st k (fun j hj => hgo j (by omega) (h3 j hj)) (hhit k h1 h2)⟩
 · exact .inr ⟨h, loop_nat st n (fun k hk => hgo k hk (h k hk)) hend⟩
open Classical in
theorem loop_any (p : Nat → Prop) (st : Nat → σ) (n : Nat) (b e : β) (hgo : ∀ k, k < n → ¬ p k → body (st k) = some (.inl (st (k + 1)))) (hhit : ∀ k, k < n → p k → body (st k) = some (.inr b)) (hend : body (st n) = some (.inr e)) :
   loop body (st 0) = some (if ∃ k, k < n ∧ p k then b else e) := by
 rcases loop_find p st n (fun _ => b) e hgo hhit hend with ⟨k, h1, h2, h3, h4⟩ | ⟨h1, h2⟩
 · rw [if_pos ⟨k, h1, h2⟩]; exact h4
 · rw [if_neg (fun ⟨k, h3, h4⟩ => h1 k h3 h4)]; exact h2
end
theorem w64 {x : Int} (h1 : -9223372036854775808 ≤ x) (h2 : x ≤ 9223372036854775807) : IntKind.wrap .i64 x = x := by
 rw [IntWalk.i64_left, IntWalk.wrap64_in _ ⟨h1, h2⟩]
theorem w64s {k n : Nat} (h : k < n) (hn : n ≤ 9223372036854775807) : IntKind.wrap .i64 ((k : Int) + 1) = ((k + 1 : Nat) : Int) := by
 rw [w64 (by omega) (by omega)]; rfl
theorem ne_list {α : Type} {xs ys : List α} (h : xs.length = ys.length) : (∃ k, k < xs.length ∧ xs[k]? ≠ ys[k]?) ↔ xs ≠ ys := by
 constructor
 · rintro ⟨k, _, h2⟩ rfl; exact h2 rfl
 · intro hne
   rcases least (fun k => xs[k]? ≠ ys[k]?) xs.length with ⟨k, h1, h2, _⟩ | h'
   · exact ⟨k, h1, h2⟩
   · exfalso; apply hne
     apply List.ext_getElem? 
     intro k
     by_cases hk : k < xs.length
     · exact Classical.byContradiction (fun hc => h' k hk hc)
     · rw [List.getElem?_eq_none (by omega), List.getElem?_eq_none (by omega)]
theorem getN {α : Type} {l : List α} {k : Nat} (h : k < l.length) : getI l (k : Int) = some l[k] := getI_eq rfl h
theorem any_ex {α : Type} {t : α → Bool} {l : List α} : l.any t = true ↔ ∃ k, k < l.length ∧ (l[k]?.map t) = some true := by
 rw [List.any_eq_true]
 constructor
 · rintro ⟨x, hx, h⟩
   obtain ⟨k, hk, rfl⟩ := List.getElem_of_mem hx
   exact ⟨k, hk, by simp [hk, h]⟩
 · rintro ⟨k, hk, h⟩
   exact ⟨l[k], List.getElem_mem hk, by simpa [hk] using h⟩
theorem loop_one {α β : Type} (xa : List α) (t : α → Bool) (hit e : β) (hn : xa.length ≤ 9223372036854775807) :
   loop (fun (i : Int) => (cond (decide (i < ((xa.length : Nat) : Int))) ((getI xa i).bind fun x => cond (t x) (some (.inr hit)) (some (.inl (IntKind.wrap .i64 (i + 1))))) (some (.inr e)) : Option (Int ⊕ β))) 0 = some (if xa.any t then hit else e) := by
 classical
 have h := loop_any (body := fun (i : Int) => (cond (decide (i < ((xa.length : Nat) : Int))) ((getI xa i).bind fun x => cond (t x) (some (.inr hit)) (some (.inl (IntKind.wrap .i64 (i + 1))))) (some (.inr e)) : Option (Int ⊕ β)))
   (fun k => (xa[k]?.map t) = some true) (fun k : Nat => (k : Int)) xa.length hit e ?_ ?_ ?_
 · refine h.trans ?_
   by_cases hh : xa.any t = true
   · rw [if_pos (any_ex.1 hh), if_pos hh]
   · rw [if_neg (fun h => hh (any_ex.2 h)), if_neg hh]
 · intro k hk hp
   simp [hk] at hp
   simp [hk, getN hk, hp, w64s hk hn]
 · intro k hk hp
   simp [hk] at hp
   simp [hk, getN hk, hp]
 · simp
theorem loop_two {α γ β : Type} (xa : List α) (xb : List γ) (t : α → γ → Bool) (hit e : β) (hl : xa.length = xb.length) (hn : xa.length ≤ 9223372036854775807) :
   loop (fun (i : Int) => (cond (decide (i < ((xa.length : Nat) : Int))) ((getI xa i).bind fun x => (getI xb i).bind fun y => cond (t x y) (some (.inr hit)) (some (.inl (IntKind.wrap .i64 (i + 1))))) (some (.inr e)) : Option (Int ⊕ β))) 0 = some (if (xa.zip xb).any (fun p => t p.1 p.2) then hit else e) := by
 classical
 have hz : (xa.zip xb).length = xa.length := by simp [hl]
 have h := loop_any (body := fun (i : Int) => (cond (decide (i < ((xa.length : Nat) : Int))) ((getI xa i).bind fun x => (getI xb i).bind fun y => cond (t x y) (some (.inr hit)) (some (.inl (IntKind.wrap .i64 (i + 1))))) (some (.inr e)) : Option (Int ⊕ β)))
   (fun k => ((xa.zip xb)[k]?.map fun p => t p.1 p.2) = some true) (fun k : Nat => (k : Int)) xa.length hit e ?_ ?_ ?_
 · refine h.trans ?_
   have ha := any_ex (t := fun p : α × γ => t p.1 p.2) (l := xa.zip xb)
   rw [hz] at ha
   by_cases hh : (xa.zip xb).any (fun p => t p.1 p.2) = true
   · rw [if_pos (ha.1 hh), if_pos hh]
   · rw [if_neg (fun h => hh (ha.2 h)), if_neg hh]
 · intro k hk hp
   have hk2 : k < xb.length := by omega
   have hk3 : k < (xa.zip xb).length := by omega
   have hz3 : (xa.zip xb)[k]? = some (xa[k], xb[k]) := by rw [List.getElem?_eq_getElem hk3, List.getElem_zip]
   rw [hz3] at hp
   simp at hp
   simp [hk, getN hk, getN hk2, hp, w64s hk hn]
 · intro k hk hp
   have hk2 : k < xb.length := by omega
   have hk3 : k < (xa.zip xb).length := by omega
   have hz3 : (xa.zip xb)[k]? = some (xa[k], xb[k]) := by rw [List.getElem?_eq_getElem hk3, List.getElem_zip]
   rw [hz3] at hp
   simp at hp
   simp [hk, getN hk, getN hk2, hp]
 · simp
theorem zip_any_ne {α : Type} [DecidableEq α] {xs ys : List α} (h : xs.length = ys.length) : (xs.zip ys).any (fun p => !decide (p.1 = p.2)) = !decide (xs = ys) := by
 induction xs generalizing ys with
 | nil => cases ys with
   | nil => rfl
   | cons => cases h
 | cons x xs ih => cases ys with
   | nil => cases h
   | cons y ys =>
     simp only [List.zip_cons_cons, List.any_cons, ih (by simpa using h), List.cons.injEq]
     by_cases h1 : x = y <;> simp [h1]
theorem loop_idx {α γ : Type} (xa : List α) (t : α → γ → Bool) (q : γ) (hn : xa.length ≤ 9223372036854775807) :
   ∃ r, loop (fun ((i, c) : Int × γ) => (cond (decide (i < ((xa.length : Nat) : Int))) ((getI xa i).bind fun x => cond (t x c) (some (.inr (.inr (i, c)))) (some (.inl (IntKind.wrap .i64 (i + 1), c)))) (some (.inr (.inl c))) : Option ((Int × γ) ⊕ (γ ⊕ (Int × γ))))) (0, q) = some r ∧ ((r = .inl q ∧ xa.any (t · q) = false) ∨ ∃ k : Nat, r = .inr ((k : Int), q) ∧ xa.any (t · q) = true) := by
 have h := loop_find (body := fun ((i, c) : Int × γ) => (cond (decide (i < ((xa.length : Nat) : Int))) ((getI xa i).bind fun x => cond (t x c) (some (.inr (.inr (i, c)))) (some (.inl (IntKind.wrap .i64 (i + 1), c)))) (some (.inr (.inl c))) : Option ((Int × γ) ⊕ (γ ⊕ (Int × γ)))))
   (fun k => (xa[k]?.map (t · q)) = some true) (fun k : Nat => ((k : Int), q)) xa.length (fun k => .inr ((k : Int), q)) (.inl q) ?_ ?_ ?_
 · rcases h with ⟨k, h1, h2, _, h3⟩ | ⟨h1, h2⟩
   · exact ⟨_, h3, .inr ⟨k, rfl, any_ex.2 ⟨k, h1, h2⟩⟩⟩
   · refine ⟨_, h2, .inl ⟨rfl, ?_⟩⟩
     cases hh : xa.any (t · q) with
     | false => rfl
     | true => obtain ⟨k, h3, h4⟩ := any_ex.1 hh; exact absurd h4 (h1 k h3)
 · intro k hk hp
   simp [hk] at hp
   simp [hk, getN hk, hp, w64s hk hn]
 · intro k hk hp
   simp [hk] at hp
   simp [hk, getN hk, hp]
 · simp
theorem loop_fold {α γ : Type} (xa : List α) (f : γ → α → γ) (c0 : γ) (hn : xa.length ≤ 9223372036854775807) {body : γ × Int → Option ((γ × Int) ⊕ γ)}
   (hb : ∀ k x, xa[k]? = some x → body ((xa.take k).foldl f c0, (k : Int)) = some (.inl (f ((xa.take k).foldl f c0) x, IntKind.wrap .i64 ((k : Int) + 1)))) (he : body (xa.foldl f c0, (xa.length : Int)) = some (.inr (xa.foldl f c0))) : loop body (c0, 0) = some (xa.foldl f c0) := by
 have h := loop_nat (body := body) (fun k : Nat => ((xa.take k).foldl f c0, (k : Int))) xa.length (b := xa.foldl f c0) ?_ ?_
 · simpa using h
 · intro k hk
   rw [hb k xa[k] (by simp [hk]), w64s hk hn]
   congr 3
   rw [List.take_succ_eq_append_getElem hk, List.foldl_append]; rfl
 · simpa using he
theorem foldl_snoc {α γ : Type} (g : α → γ) (xa : List α) (c : List γ) : xa.foldl (fun c x => c ++ [g x]) c = c ++ xa.map g := by
 induction xa generalizing c with
 | nil => simp
 | cons x xa ih => simp [ih]
theorem loop_map {α γ : Type} (xa : List α) (g : α → γ) (c0 : List γ) (hn : c0.length + xa.length ≤ 1073741824) {body : List γ × Int → Option ((List γ × Int) ⊕ List γ)}
   (hb : ∀ (c : List γ) (i : Int), body (c, i) = cond (decide (i < ((xa.length : Nat) : Int))) ((getI xa i).bind fun x => (app c [g x]).bind fun z => some (.inl (z, IntKind.wrap .i64 (i + 1)))) (some (.inr c))) : loop body (c0, 0) = some (c0 ++ xa.map g) := by
 rw [← foldl_snoc]
 refine loop_fold xa (fun c x => c ++ [g x]) c0 (by omega) (fun k x hx => ?_) ?_
 · have hk := (List.getElem?_eq_some_iff.1 hx).1
   rw [hb, foldl_snoc]
   have hx' : xa[k] = x := by rw [List.getElem?_eq_getElem hk] at hx; exact Option.some.inj hx
   have ha := app_eq (a := c0 ++ (xa.take k).map g) (b := [g x]) (by simp; omega)
   simp only [Option.bind_some, getN hk, hx', ha, Int.ofNat_lt.2 hk, decide_true, cond_true]
 · rw [hb]; simp
end
section
theorem bind_of {α β : Type} {m : Option α} {f : α → Option β} {y : β} {Q : α → Prop} (h : ∃ r, m = some r ∧ Q r) (k : ∀ r, Q r → f r = some y) : m.bind f = some y := by
 obtain ⟨r, rfl, h2⟩ := h; exact k r h2
theorem bind_ex {α β : Type} {m : Option α} {f : α → Option β} {Q : α → Prop} {R : β → Prop} (h : ∃ r, m = some r ∧ Q r) (k : ∀ r, Q r → ∃ y, f r = some y ∧ R y) : ∃ y, m.bind f = some y ∧ R y := by
 obtain ⟨r, rfl, h2⟩ := h; exact k r h2
theorem getZ {α : Type} {l : List α} {i : Int} (h0 : 0 ≤ i) (h1 : i < (l.length : Nat)) : getI l i = some (l[i.toNat]'(by omega)) := by
 unfold getI; rw [if_pos h0]; simp
theorem getN1 {α : Type} {l : List α} {k : Nat} (h : k + 1 < l.length) : getI l ((k : Int) + 1) = some l[k + 1] := getI_eq rfl h
theorem dlt {k n : Nat} (h : k < n) : decide ((k : Int) < (n : Int)) = true := by simp; omega
theorem dge {k n : Nat} (h : ¬ k < n) : decide ((k : Int) < (n : Int)) = false := by simp; omega
theorem beq_dec {α : Type} [DecidableEq α] (a b : α) : (a == b) = decide (a = b) := Bool.beq_eq_decide_eq a b
section
variable {α β γ σ : Type}
theorem loop_stop {body : σ → Option (σ ⊕ β)} (n : Nat) (st : Nat → σ) (stop : Nat → Option β) (e : β) (h : ∀ k, k < n → body (st k) = some (match stop k with | none => .inl (st (k + 1)) | some b => .inr b)) (he : body (st n) = some (.inr e)) :
   loop body (st 0) = some (((List.range n).findSome? stop).getD e) := by
 rcases loop_find (fun k => (stop k).isSome = true) st n (fun k => (stop k).getD e) e (fun k hk hp => by
     rw [h k hk]; cases hs : stop k with
     | none => rfl
     | some b => simp [hs] at hp) (fun k hk hp => by
     rw [h k hk]; cases hs : stop k with
     | none => simp [hs] at hp
     | some b => rfl) he with ⟨k, h1, h2, h3, h4⟩ | ⟨h1, h2⟩
 · rw [h4]
   obtain ⟨b, hb⟩ := Option.isSome_iff_exists.1 h2
   have : (List.range n).findSome? stop = some b := by
     rw [List.findSome?_eq_some_iff]
     refine ⟨List.range k, k, (List.range' (k + 1) (n - k - 1)), ?_, hb, fun a ha => ?_⟩
     · rw [List.range_eq_range', List.range_eq_range', ← List.range'_succ (s := k) (n := n - k - 1)]
       rw [show n - k - 1 + 1 = n - k by omega]
       have := List.range'_append_1 (s := 0) (m := k) (n := n - k)
       rw [Nat.zero_add, show k + (n - k) = n by omega] at this
       exact this.symm
     · have := h3 a (List.mem_range.1 ha)
       cases hs : stop a with
       | none => rfl
       | some b => simp [hs] at this
   rw [this, hb]
 · rw [h2]
   have : (List.range n).findSome? stop = none := by
     rw [List.findSome?_eq_none_iff]
     intro a ha
     have := h1 a (List.mem_range.1 ha)
     cases hs : stop a with
     | none => rfl
     | some b => simp [hs] at this
   rw [this]; rfl
theorem loop_search {body : Int → Option (Int ⊕ β)} (xa : List α) (t : α → Bool) (hit : Nat → β) (e : β) (hb : ∀ (k : Nat) (h : k < xa.length), body (k : Int) = some (if t xa[k] then .inr (hit k) else .inl ((k + 1 : Nat) : Int))) (he : body (xa.length : Int) = some (.inr e)) :
   loop body 0 = some (match xa.findIdx? t with | some k => hit k | none => e) := by
 rcases loop_find (fun k => ∃ h : k < xa.length, t xa[k] = true) (fun k : Nat => (k : Int)) xa.length hit e (fun k hk hp => by
     rw [hb k hk, if_neg (fun h => hp ⟨hk, h⟩)]) (fun k hk ⟨_, hp⟩ => by rw [hb k hk, if_pos hp]) he with ⟨k, h1, ⟨_, h2⟩, h3, h4⟩ | ⟨h1, h2⟩
 · rw [show ((0 : Int)) = ((0 : Nat) : Int) from rfl, h4]
   have : xa.findIdx? t = some k := by
     rw [List.findIdx?_eq_some_iff_getElem]
     exact ⟨h1, h2, fun j hj => fun hc => h3 j hj ⟨by omega, by simpa using hc⟩⟩
   rw [this]
 · rw [show ((0 : Int)) = ((0 : Nat) : Int) from rfl, h2]
   have : xa.findIdx? t = none := by
     rw [List.findIdx?_eq_none_iff]
     intro x hx
     obtain ⟨k, hk, rfl⟩ := List.getElem_of_mem hx
     cases hc : t xa[k] with
     | false => rfl
     | true => exact absurd ⟨hk, hc⟩ (h1 k hk)
   rw [this]
theorem loop_some {body : Int → Option (Int ⊕ β)} (xa : List α) (t : α → Bool) (hit e : β) (hb : ∀ (k : Nat) (h : k < xa.length), body (k : Int) = some (if t xa[k] then .inr hit else .inl ((k + 1 : Nat) : Int))) (he : body (xa.length : Int) = some (.inr e)) :
   loop body 0 = some (if xa.any t then hit else e) := by
 rw [loop_search xa t (fun _ => hit) e hb he]
 cases h : xa.findIdx? t with
 | none =>
   have : xa.any t = false := by
     rw [List.any_eq_false]; intro x hx; have := List.findIdx?_eq_none_iff.1 h x hx; simp [this]
   rw [this]; rfl
 | some k =>
   obtain ⟨hk, h1, _⟩ := List.findIdx?_eq_some_iff_getElem.1 h
   have : xa.any t = true := List.any_eq_true.2 ⟨_, List.getElem_mem hk, h1⟩
   rw [this]; rfl
theorem loop_carry {δ : Type} {body : (γ × Int) → Option ((γ × Int) ⊕ δ)} (xa : List α) (acc : Nat → γ) (out : δ) (hb : ∀ (k : Nat) (h : k < xa.length), body (acc k, (k : Int)) = some (.inl (acc (k + 1), ((k + 1 : Nat) : Int)))) (he : body (acc xa.length, (xa.length : Int)) = some (.inr out)) :
   loop body (acc 0, 0) = some out := loop_nat (fun k => (acc k, (k : Int))) xa.length hb he
theorem loop_alike [DecidableEq α] {body : Int → Option (Int ⊕ β)} (xa xb : List α) (hit e : β) (hl : xa.length = xb.length) (hb : ∀ (k : Nat) (h : k < xa.length), body (k : Int) = some (if xa[k] = (xb[k]'(by omega)) then .inl ((k + 1 : Nat) : Int) else .inr hit)) (he : body (xa.length : Int) = some (.inr e)) :
   loop body 0 = some (if xa = xb then e else hit) := by
 rw [loop_search (List.range xa.length) (fun k => decide (xa[k]? ≠ xb[k]?)) (fun _ => hit) e (fun k h => by
     simp at h
     rw [hb k h]
     have h2 : k < xb.length := by omega
     by_cases hq : xa[k] = xb[k] <;> simp [h, h2, hq]) (by simpa using he)]
 by_cases hq : xa = xb
 · subst hq
   have : (List.range xa.length).findIdx? (fun k => decide (xa[k]? ≠ xa[k]?)) = none := by rw [List.findIdx?_eq_none_iff]; simp
   rw [this]; simp
 · cases h : (List.range xa.length).findIdx? (fun k => decide (xa[k]? ≠ xb[k]?)) with
   | some k => simp [hq]
   | none =>
     exfalso; apply hq
     rw [List.findIdx?_eq_none_iff] at h
     apply List.ext_getElem?
     intro k
     by_cases hk : k < xa.length
     · simpa using h k (List.mem_range.2 hk)
     · rw [List.getElem?_eq_none (by omega), List.getElem?_eq_none (by omega)]
theorem take_snoc {l : List α} {k : Nat} (h : k < l.length) : l.take (k + 1) = l.take k ++ [l[k]] := List.take_succ_eq_append_getElem h
theorem dlen {a b : Nat} (h : a = b) : (!decide ((a : Int) = (b : Int))) = false := by simp [h]
theorem dlen' {a b : Nat} (h : ¬ a = b) : (!decide ((a : Int) = (b : Int))) = true := by simp; omega
end
theorem ok64 {x : Int} (h : Tp.Ok (.int .i64) x) : -9223372036854775808 ≤ x ∧ x ≤ 9223372036854775807 := by
 have h' : (Lit.int .i64 x).wf = true := h
 simp only [Lit.wf, IntKind.min, IntKind.max, IntKind.signed, IntKind.bits, Bool.and_eq_true, decide_eq_true_eq] at h'
 simp at h'; omega
theorem sub1 {α : Type} {l : List α} (h : 1 ≤ l.length) : subL l 1 ((l.length : Nat) : Int) = some (l.drop 1) := by
 rw [subL_eq (by omega) (by omega) (by omega)]; simp
end
end Go.Proofs.Ytffmjongaodjgaa

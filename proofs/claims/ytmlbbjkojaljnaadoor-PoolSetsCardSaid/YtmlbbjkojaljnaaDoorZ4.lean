/- A part of the proof: what lies ahead of the law. Nothing is claimed here. -/
import Derived.Test.YtmlbbjkojaljnaaDoorZ3
import Derived.RangeFuncRecord
import Derived.Shelf.Spec.TrailingZeros
import Derived.Test.YtmlbbjkojaljnaaDoorProg
import Derived.Conc.LoneCalls
import Derived.Tactics
import Derived.Tactics2
import Derived.Laws.Rows
namespace Go.Proofs.YtmlbbjkojaljnaaDoor
set_option linter.unusedVariables false
set_option linter.unusedSimpArgs false
set_option linter.unnecessarySimpa false
set_option linter.unusedSectionVars false
open Go.RowKit
section
variable [BldA]
theorem allOld_ok : ∀ (bl : List Bk) (nx : Nat), allOld bl = true → oldOk bl nx = true ∧ ∀ k n0 : Nat, k < bl.length → (idsB bl n0).1[k]? = some (n0 + k)
 | [], nx, h => ⟨rfl, fun k n0 hk => by simp at hk⟩
 | b :: bl, nx, h => by
   simp only [allOld, Bool.and_eq_true] at h
   obtain ⟨h1, h2⟩ := h
   obtain ⟨q1, q2⟩ := allOld_ok bl nx h2
   cases hb : b.old with
   | some i => rw [hb] at h1; cases h1
   | none =>
     refine ⟨by simp [oldOk, hb, q1], fun k n0 hk => ?_⟩
     simp only [idsB, hb]
     cases k with
     | zero => rfl
     | succ k =>
       have := q2 k (n0 + 1) (by simpa using hk)
       simpa [Nat.add_assoc, Nat.add_comm 1 k] using this
section
variable {R : Type} {P : Program} {E : En} {n : Nat} {m : List M} {K : Hp} {fr : Frz} {σ : Zt} {ρ : Sl1} {w : World}
theorem slN_ok {mu : List M} {vs : List SV} {us : List Value} {K1 : Hp} (hr : SV.relL m K1 vs us) : ∀ {sl : List (Nat × Kd)} {j : Nat} {ws : List (Nat × SV)}, slN j sl vs.length = true → slC m K1 (argf vs) mu sl ws → slR mu K1 ws (us.drop j)
 | [], j, ws, h, hc => by
   obtain rfl : ws = [] := hc
   have := Nat.eq_of_beq_eq_true (show Nat.beq j vs.length = true from h)
   show us.drop j = []
   rw [this, ← relL_len hr, List.drop_length]
 | p :: sl, j, ws, h, hc => by
   simp only [slN, Bool.and_eq_true] at h
   obtain ⟨h1, h2⟩ := h
   have h1 := Nat.eq_of_beq_eq_true h1
   obtain ⟨sv, q, rfl, g1, g2⟩ := hc
   have ih := slN_ok (j := j + 1) hr h2 g2
   have hj : j < vs.length := by
     have gen : ∀ (sl : List (Nat × Kd)) (j n : Nat), slN j sl n = true → j ≤ n := by
       intro sl
       induction sl with
       | nil => intro j n h; exact Nat.le_of_eq (Nat.eq_of_beq_eq_true h)
       | cons p sl ih => intro j n h; simp only [slN, Bool.and_eq_true] at h; have := ih (j + 1) n h.2; omega
     have := gen sl (j + 1) vs.length h2
     omega
   have hl := relL_len hr
   have hd : us.drop j = us[j] :: us.drop (j + 1) := List.drop_eq_getElem_cons (by omega)
   refine ⟨us[j]'(by omega), us.drop (j + 1), hd, g1 _ ?_, ih⟩
   obtain ⟨u, hu, hru⟩ := relL_get hr (List.getElem?_eq_getElem hj)
   rw [List.getElem?_eq_getElem (by omega)] at hu
   cases hu
   have : argf vs p.1 = vs[j] := by unfold argf; rw [h1, List.getElem?_eq_getElem hj]
   rw [this]; exact hru
theorem disp_after {k : Hn P → Zt → Option R} {r : R} {nin : Nat} {H : List HA} {bm : List (Nat × Nat)} {nb : Nat} {d : Option Nat} {ln : Bool} : ∀ {os : List Sh} {x : OutT os} {h1 h2 : Hn P}, disp nin σ H bm nb d ln os x h1 h2 k = some r → ∃ hx, after nin σ H bm nb d ln (outSh os x).1 (outSh os x).2 (k hx) = some r
 | [], x, h1, h2, h => Empty.elim x
 | [a], x, h1, h2, h => ⟨h1, h⟩
 | [a, b], x, h1, h2, h => by
   cases x with
   | inl x => exact ⟨h1, h⟩
   | inr x => exact ⟨h2, h⟩
 | a :: b :: c :: r, x, h1, h2, h => by cases h
def CallP (E : En) (fr : Frz) (σ : Zt) (ρ : Sl1) (d : Option Nat) (k : Hn P → Zt → Option R) (r : R) (e : Ending) (w' : World) : Prop :=
 ∃ v σ' h' m' K', e = .returned v ∧ k h' σ' = some r ∧ Same σ σ' ∧ Rel E fr σ' m' K' (match d with | some d => upd1 ρ d v | none => ρ) w'
theorem callC_ok {k : Hn P → Zt → Option R} {r : R} {d : Option Nat} {vs : List SV} {us : List Value} {H back : List HA} {ln em : Bool} {q : OkSpec P} {h1 h2 : Hn P} {K1 : Hp} {FF : List Atom} (h : callC σ d vs H back ln em q h1 h2 k = some r) (hr : Rel E fr σ m K ρ w)
   (hold : allOld q.s.inn.bl = true) (hsl : slN 0 q.s.inn.sl vs.length = true) (hK : K.le K1) (hrel : SV.relL m K1 vs us) (hHk : ∀ a ∈ H, HA.ok m K1 a) (hH : em = false → ∀ a ∈ H, a ∈ σ.H) (hback : ∀ a ∈ back, a ∈ σ.H) (hs : Sep E K1 (H.map (HA.conc m) ++ FF) w)
   (hclose : ∀ w' L', Sep E K1 (L' ++ FF) w' → Sep E K (L' ++ (back.map (HA.conc m) ++ σ.fz fr)) w') (hln : ln = false → K1 = K ∧ back = [] ∧ FF = σ.fz fr) :
   Calls P q.s.f us.toArray w (CallP E fr σ ρ d k r) := by
 unfold callC at h
 split at h
 · rename_i g hg
   split at h
   · rename_i x vsx u hx hu
     replace h := biff h; obtain ⟨hvl, h⟩ := h
     rw [Bool.or_eq_false_iff] at hvl
     obtain ⟨hvl, hem⟩ := hvl
     have hvl : valsLt σ.nx g.bm = true := by simpa using hvl
     replace h := ob h; obtain ⟨y, hy, h⟩ := h
     obtain ⟨hold1, hids⟩ := allOld_ok q.s.inn.bl 0 hold
     obtain ⟨ws, u', ms, e1, e2, e3, e4, e5, e6, e7, e8⟩ := Sh.get_un (m := m) (K := K1) hg hHk (m0 := []) (List.nil_prefix) hold1
     rw [List.nil_append] at e2 e3 e4 e6
     simp only [List.nil_append] at e7
     have eu : some (vsx, u) = some (ws, u') := hu.symm.trans e1
     cases eu
     have htr := q.ok x y hy vsx u (by rw [TL.of_list hx]; exact e1) ms K1 us (BldA.gkm hK.cle hr.mks.gk) e2 e4 (slN_ok hrel (j := 0) hsl e3)
     refine (htr E w _ (e6 E FF w hs)).mono ?_
     rintro e w' ⟨v, K', L', rfl, ⟨vs2, u2, m2, f1, f2, f3, f4, f5, rfl⟩, hK', hs'⟩
     obtain ⟨hx', h⟩ := disp_after h
     unfold after at h
     rw [f1] at h
     simp only at h
     replace h := biff h; obtain ⟨hk, h⟩ := h
     -- numbers
     have hnb : q.s.inn.bl.length ≤ m2.length := by
       rcases Nat.eq_zero_or_pos q.s.inn.bl.length with h0 | h0
       · omega
       · obtain ⟨i, hi⟩ := e8 (q.s.inn.bl.length - 1) (by omega)
         have hlt' := valsLt_ok hvl hi
         have g2 := e7 _ i _ hi (hids (q.s.inn.bl.length - 1) 0 (by omega)) _ (List.getElem?_eq_getElem (by rw [hr.nx]; exact hlt'))
         have : ms[0 + (q.s.inn.bl.length - 1)]? ≠ none := by rw [g2]; simp
         have hlt : 0 + (q.s.inn.bl.length - 1) < ms.length := by
           rcases Nat.lt_or_ge (0 + (q.s.inn.bl.length - 1)) ms.length with h' | h'
           · exact h'
           · exact absurd (List.getElem?_eq_none h') this
         obtain ⟨t, rfl⟩ := f2
         simp; omega
     have hφ : ∀ (j : Nat) (e : M), m2[j]? = some e → (m ++ m2.drop q.s.inn.bl.length)[renN g.bm q.s.inn.bl.length σ.nx j]? = some e := by
       intro j e hj
       unfold renN
       cases hb : Nat.blt j q.s.inn.bl.length with
       | true =>
         rw [Nat.blt_eq] at hb
         obtain ⟨i, hi⟩ := e8 j hb
         have hlt' := valsLt_ok hvl hi
         have g1 : m[i]? ≠ none := by rw [List.getElem?_eq_getElem (by rw [hr.nx]; exact hlt')]; simp
         have g2 := e7 j i _ hi (hids j 0 hb)
         rw [hi]
         simp only [cond_true]
         cases hm : m[i]? with
         | none => exact absurd hm g1
         | some e' =>
           replace g2 := g2 _ hm
           rw [Nat.zero_add] at g2
           have := pre_get f2 g2
           rw [this] at hj; cases hj
           exact pre_get (pre_app m _) hm
       | false =>
         have hb : ¬ j < q.s.inn.bl.length := by rw [← Nat.blt_eq, hb]; simp
         simp only [cond_false]
         rw [get_new hr.nx, List.getElem?_drop]
         rw [← hj]; congr 1; omega
     have hp := pre_app m (m2.drop q.s.inn.bl.length)
     have hnx : (m ++ m2.drop q.s.inn.bl.length).length = σ.nx + (u2.nx - q.s.inn.bl.length) := by
       rw [List.length_append, List.length_drop, hr.nx, f3]
     have hgs : ∀ a ∈ g.H ++ back, a ∈ σ.H := fun a ha => by
       rcases List.mem_append.1 ha with ha | ha
       · cases em with
         | false => exact hH rfl a (e5 a ha)
         | true =>
           have : g.H = [] := by simpa using hem
           rw [this] at ha; cases ha
       · exact hback a ha
     -- what is known, at last
     have fin : ∃ Kn, K.le Kn ∧ (allKf vs2 u2.H = true → Kn = K) ∧ (∀ a ∈ u2.H, HA.ok m2 Kn a) ∧ resR m2 Kn vs2 v ∧ Sep E Kn (u2.H.map (HA.conc m2) ++ ((g.H ++ back).map (HA.conc m) ++ σ.fz fr)) w' := by
       have key : ∀ Kn, Sep E Kn ((u2.H.map (HA.conc m2) ++ g.H.map (HA.conc m)) ++ (back.map (HA.conc m) ++ σ.fz fr)) w' → Sep E Kn (u2.H.map (HA.conc m2) ++ ((g.H ++ back).map (HA.conc m) ++ σ.fz fr)) w' := fun Kn h => by
         simpa [List.append_assoc] using h
       cases ha : allKf vs2 u2.H with
       | true =>
         have ha' := ha
         simp only [allKf, Bool.and_eq_true, List.all_eq_true] at ha'
         refine ⟨K, Hp.le_refl K, fun _ => rfl, fun a h => kf_ok (ha'.2 a h) (f4 a h), ?_, key K (hclose w' _ ?_)⟩
         · unfold resR at f5 ⊢
           split at f5
           · exact f5
           · rename_i j sv
             exact kf_rel sv (ha'.1 (j, sv) (by simp)) f5
           · exact f5.elim
         · rw [List.append_assoc]
           exact hs'.weaken hK'
       | false =>
         rw [ha] at hk
         obtain ⟨rfl, rfl, rfl⟩ := hln (by cases ln; rfl; cases hk)
         refine ⟨K', hK', fun h => (by cases h), f4, f5, ?_⟩
         rw [List.append_nil]
         exact hs'
     obtain ⟨Kn, k1, k2, k3, k4, k5⟩ := fin
     have hfil := fillF_rel hr.toPur (m' := m ++ m2.drop q.s.inn.bl.length) (fun _ _ k => pre_get hp k) k1
     have hpur : Pur fr ⟨σ.base, σ.top, (u2.H.map (HA.ren (renN g.bm q.s.inn.bl.length σ.nx))).map (HA.sub (fillF σ)) ++ (g.H ++ back), σ.Hf, σ.nx + (u2.nx - q.s.inn.bl.length), σ.kq && allKf vs2 u2.H⟩ (m ++ m2.drop q.s.inn.bl.length) Kn ρ := by
       refine Pur.next hr.toPur hp k1 (fun e => ?_) hnx ?_
       · rw [Bool.and_eq_true] at e; exact ⟨e.1, k2 e.2⟩
       · intro a ha
         rcases List.mem_append.1 ha with ha | ha
         · obtain ⟨a1, h1, rfl⟩ := List.mem_map.1 ha
           obtain ⟨a0, h0, rfl⟩ := List.mem_map.1 h1
           exact ok_sub hfil (ren_ok hφ (k3 a0 h0))
         · exact hr.toPur.okH' hp k1 a (hgs a ha)
     have hsep : Sep E Kn (((u2.H.map (HA.ren (renN g.bm q.s.inn.bl.length σ.nx))).map (HA.sub (fillF σ)) ++ (g.H ++ back)).map (HA.conc (m ++ m2.drop q.s.inn.bl.length)) ++ σ.fz fr) w' := by
       rw [List.map_append, map_conc_sub, ren_map (K := Kn) hφ k3, hr.toPur.conc hp hgs, List.append_assoc]
       exact k5
     split at h
     · exact ⟨v, _, hx', _, Kn, rfl, h, ⟨rfl, rfl⟩, hpur.set (sub_rel hfil _ (ren_rel hφ _ k4)), hsep⟩
     · have hv : v = .tuple #[] := k4
       exact ⟨v, _, hx', _, Kn, rfl, h, ⟨rfl, rfl⟩, hpur.set (sv := .tup []) ⟨[], hv, rfl⟩, hsep⟩
     · exact ⟨v, _, hx', _, Kn, rfl, h, ⟨rfl, rfl⟩, hpur, hsep⟩
     · cases h
   · cases h
 · cases h
theorem filt_sep {K1 : Hp} {H : List HA} {FF : List Atom} (p : HA → Bool) (hs : Sep E K1 (H.map (HA.conc m) ++ FF) w) : Sep E K1 ((H.filter p).map (HA.conc m) ++ ((H.filter fun a => !p a).map (HA.conc m) ++ FF)) w := by
 refine Sep.perm ?_ hs
 rw [← List.append_assoc, ← List.map_append]
 exact ((List.filter_append_perm p H).symm.map _).append_right _
theorem Cl.at_ {b : Nat} {e : TypeId} {vs : List Value} {hh K2 : Hp} {t : Tp} {x : t.den} (h : Cl b e vs hh) (k : hh.le K2) (hi : Is K2 t vs x) : At K2 t b 0 x := by
 refine ⟨vs, hi.len, hi, fun j hj => ?_⟩
 obtain rfl := h
 have := k b _ (one_of b _)
 rw [Nat.zero_add]
 unfold cellK
 rw [this]
 simp
theorem blkF_rel {i b : Nat} {t : Tp} {x : t.den} {K2 : Hp} (h1 : m[i]? = some (.val (.pointer (some ⟨b, 0, none⟩)))) (h2 : At K2 t b 0 x) : ∀ a b' v, blkF i t x a = some b' → SV.rel m K2 a v → SV.rel m K2 b' v := by
 intro a b' v hf hrel
 unfold blkF at hf
 split at hf
 · replace hf := bift hf; obtain ⟨hb, hf⟩ := hf
   have hb := Nat.eq_of_beq_eq_true hb
   subst hb
   cases hf
   obtain ⟨bb, h3, rfl⟩ := hrel
   rw [h1] at h3; cases h3
   exact ⟨b, 0, by rw [Nat.zero_add], h2⟩
 · cases hf
theorem knB_ok {i : Nat} {a : HA} {d0 : Dat} {K1 : Hp} (h : knB P i a = some d0) (hok : HA.ok m K1 a) : ∃ b us, m[i]? = some (.val (.pointer (some ⟨b, 0, none⟩))) ∧ HA.conc m a = Cl b (match a with | .blk _ _ e _ => e | _ => 0) us ∧ Is K1 d0.t us d0.x := by
 unfold knB at h
 split at h
 · rename_i j c e cs
   replace h := bift h; obtain ⟨hb, h⟩ := h
   have hb := Nat.eq_of_beq_eq_true hb
   subst hb
   split at h
   · rename_i t ht
     split at h
     · rename_i x hx
       cases h
       obtain ⟨b, us, h1, h2, h3, h4⟩ := HA.ok_blk hok
       obtain ⟨c1, c2, e1, e2, e3⟩ := dt_is t hx (stL_rel cs h3)
       obtain rfl := relL_nil e3
       rw [List.append_nil] at e1; subst e1
       exact ⟨b, _, h1, h4, e2⟩
     · cases h
   · cases h
 · cases h
theorem callL_ok {k : Hn P → Zt → Option R} {r : R} {d : Option Nat} {ln : Bool} {am : Option (List Nat)} {q : OkSpec P} {h1 h2 : Hn P} (hr : Rel E fr σ m K ρ w) (hold : allOld q.s.inn.bl = true) : ∀ (lend : List Nat) {vs : List SV} {us : List Value} {H Hf back : List HA} {Fh : HA → HA} {K1 : Hp},
   callL σ d ln am q h1 h2 k lend vs H Hf back Fh = some r → slN 0 q.s.inn.sl vs.length = true → K.le K1 → SV.relL m K1 vs us → (∀ a ∈ H, a ∈ σ.H) → (∀ a ∈ Hf, a ∈ σ.Hf) → (∀ a ∈ back, a ∈ σ.H) → (∀ a, HA.conc m (Fh a) = HA.conc m a) → (∀ K2, K1.le K2 → ∀ a, HA.ok m K2 a → HA.ok m K2 (Fh a)) → Sep E K1 (H.map (HA.conc m) ++ (Hf.map (HA.conc fr.m) ++ fr.F)) w →
   (∀ w' L', Sep E K1 (L' ++ (Hf.map (HA.conc fr.m) ++ fr.F)) w' → Sep E K (L' ++ (back.map (HA.conc m) ++ σ.fz fr)) w') → (ln = false → lend = [] ∧ am = none ∧ K1 = K ∧ back = [] ∧ Hf = σ.Hf) →
   Calls P q.s.f us.toArray w (CallP E fr σ ρ d k r)
 | [], vs, us, H, Hf, back, Fh, K1, h, hsl, hK, hrel, hH, hF, hB, hFc, hFo, hs, hclose, hln => by
   unfold callL at h
   split at h
   · exact callC_ok h hr hold hsl hK hrel (fun a ha => HA.ok_mono (fun _ _ h => h) hK (hr.okH a (hH a ha))) (fun _ => hH) hB hs hclose (fun e => by obtain ⟨_, _, h1, h2, h3⟩ := hln e; exact ⟨h1, h2, by rw [h3]; rfl⟩)
   · rename_i act
     refine callC_ok h hr hold hsl hK hrel (fun a ha => ?_) (fun e => by cases e) (fun a ha => ?_) (FF := (H.filter fun a => !act.contains a.id).map (HA.conc m) ++ (Hf.map (HA.conc fr.m) ++ fr.F)) ?_ (fun w' L' hs' => ?_) (fun e => by obtain ⟨_, h2, _⟩ := hln e; cases h2)
     · obtain ⟨a0, h0, rfl⟩ := List.mem_map.1 ha
       exact hFo K1 (Hp.le_refl K1) a0 (HA.ok_mono (fun _ _ h => h) hK (hr.okH a0 (hH a0 (List.mem_filter.1 h0).1)))
     · rcases List.mem_append.1 ha with ha | ha
       · exact hH a (List.mem_filter.1 ha).1
       · exact hB a ha
     · have : ((H.filter fun a => act.contains a.id).map Fh).map (HA.conc m) = (H.filter fun a => act.contains a.id).map (HA.conc m) := by
         rw [List.map_map]; exact List.map_congr_left (fun a _ => hFc a)
       rw [this]
       exact filt_sep _ hs
     · have := hclose w' (L' ++ (H.filter fun a => !act.contains a.id).map (HA.conc m)) (by rw [List.append_assoc]; exact hs')
       rw [List.append_assoc] at this
       rw [List.map_append, List.append_assoc]
       exact this
 | i :: is, vs, us, H, Hf, back, Fh, K1, h, hsl, hK, hrel, hH, hF, hB, hFc, hFo, hs, hclose, hln => by
   have hlt : ln = true := by
     cases ln with
     | true => rfl
     | false => have := (hln rfl).1; cases this
   -- what is lent: by its value, its atom and what it is known as
   have lendH : ∀ {a : HA} {H' : List HA} {f : SV → Option SV} {A : Atom} (hmem : a ∈ H) (hperm : H.Perm (a :: H')) (hA : HA.conc m a = A) (hf : ∀ hh, A hh → ∀ K2, K1.le K2 → hh.le K2 → ∀ a b v, f a = some b → SV.rel m K2 a v → SV.rel m K2 b v),
       callL σ d ln am q h1 h2 k is (SV.subL f vs) H' Hf (a :: back) (fun a => HA.sub f (Fh a)) = some r → Calls P q.s.f us.toArray w (CallP E fr σ ρ d k r) := by
     intro a H' f A hmem hperm hA hf h
     have hs1 := Sep.perm ((hperm.map (HA.conc m)).append_right _) hs
     rw [List.map_cons, hA] at hs1
     obtain ⟨hh, hrw, hd, hs2⟩ := hs1
     have hle := Hp.le_join K1 hh
     have hhle : hh.le (K1.join hh) := fun n o e => Hp.join_right e (hd n o e)
     have hf' := hf hh hrw
     refine callL_ok hr hold is (us := us) h (by rw [subL_len]; exact hsl) (hK.trans hle) (subL_rel (hf' _ hle hhle) vs (SV.monoL (fun _ _ h => h) hle vs hrel)) (fun a ha => hH a (hperm.symm.subset (List.mem_cons_of_mem _ ha))) hF (fun a' ha => ?_) (fun a => by rw [conc_sub, hFc]) (fun K2 hK2 a ha => ok_sub (hf' K2 (hle.trans hK2) (hhle.trans hK2)) (hFo K2 (hle.trans hK2) a ha)) hs2 (fun w' L' hs' => ?_) (fun e => by rw [hlt] at e; cases e)
     · rcases List.mem_cons.1 ha with rfl | ha
       · exact hH _ hmem
       · exact hB a' ha
     · have s1 : Sep E K1 (A :: (L' ++ (Hf.map (HA.conc fr.m) ++ fr.F))) w' := ⟨hh, hrw, hd, hs'⟩
       have s2 : Sep E K1 ((L' ++ [A]) ++ (Hf.map (HA.conc fr.m) ++ fr.F)) w' := Sep.perm (by
         rw [List.append_assoc]; exact List.perm_middle.symm) s1
       have s3 := hclose w' _ s2
       rw [List.map_cons, hA]
       simpa [List.append_assoc] using s3
   have lendF : ∀ {a : HA} {Hf' : List HA} {f : SV → Option SV} {A : Atom} (hmem : a ∈ Hf) (hperm : Hf.Perm (a :: Hf')) (hA : HA.conc fr.m a = A) (hf : ∀ hh, A hh → ∀ K2, K1.le K2 → hh.le K2 → ∀ a b v, f a = some b → SV.rel m K2 a v → SV.rel m K2 b v),
       callL σ d ln am q h1 h2 k is (SV.subL f vs) H Hf' back (fun a => HA.sub f (Fh a)) = some r → Calls P q.s.f us.toArray w (CallP E fr σ ρ d k r) := by
     intro a Hf' f A hmem hperm hA hf h
     have hs1 : Sep E K1 (A :: (H.map (HA.conc m) ++ (Hf'.map (HA.conc fr.m) ++ fr.F))) w := Sep.perm (by
       refine ((((hperm.map (HA.conc fr.m)).append_right fr.F).append_left _)).trans ?_
       rw [List.map_cons, hA]
       exact List.perm_middle) hs
     obtain ⟨hh, hrw, hd, hs2⟩ := hs1
     have hle := Hp.le_join K1 hh
     have hhle : hh.le (K1.join hh) := fun n o e => Hp.join_right e (hd n o e)
     have hf' := hf hh hrw
     refine callL_ok hr hold is (us := us) h (by rw [subL_len]; exact hsl) (hK.trans hle) (subL_rel (hf' _ hle hhle) vs (SV.monoL (fun _ _ h => h) hle vs hrel)) hH (fun a ha => hF a (hperm.symm.subset (List.mem_cons_of_mem _ ha))) hB (fun a => by rw [conc_sub, hFc]) (fun K2 hK2 a ha => ok_sub (hf' K2 (hle.trans hK2) (hhle.trans hK2)) (hFo K2 (hle.trans hK2) a ha)) hs2 (fun w' L' hs' => ?_) (fun e => by rw [hlt] at e; cases e)
     have s1 : Sep E K1 (A :: (L' ++ (Hf'.map (HA.conc fr.m) ++ fr.F))) w' := ⟨hh, hrw, hd, hs'⟩
     have s2 : Sep E K1 (L' ++ (Hf.map (HA.conc fr.m) ++ fr.F)) w' := Sep.perm (by
       refine List.perm_middle.symm.trans ?_
       refine List.Perm.append_left _ ?_
       have := ((hperm.map (HA.conc fr.m)).append_right fr.F).symm
       rw [List.map_cons, hA] at this
       exact this) s1
     exact hclose w' _ s2
   unfold callL at h
   split at h
   · rename_i rr H' hq
     replace h := bift h; obtain ⟨h0, h⟩ := h
     rw [Nat.blt_eq] at h0
     obtain ⟨a, ha, hmem, hperm⟩ := pick_spec hq
     obtain rfl := rowR_eq ha
     obtain ⟨ad, cap, cs, g1, g2, g3, g4, g5, g6⟩ := HA.ok_row (hr.okH _ (hH _ hmem))
     exact lendH hmem hperm g6 (fun hh hrw K2 k1 k2 => rowF_rel (c := rr.c) (e := rr.e) g1 g4 (Rw.is g3 (by rw [g4]; exact hrw) (hK.trans k1) k2 h0)) h
   · split at h
     · rename_i rr Hf' hq
       replace h := bift h; obtain ⟨h0, h⟩ := h
       rw [Nat.blt_eq] at h0
       obtain ⟨a, ha, hmem, hperm⟩ := pick_spec hq
       obtain rfl := rowR_eq ha
       obtain ⟨ad, cap, cs, g1, g2, g3, g4, g5, g6⟩ := HA.ok_row (hr.okF _ (hF _ hmem))
       exact lendF hmem hperm g6 (fun hh hrw K2 k1 k2 => rowF_rel (c := rr.c) (e := rr.e) (pre_get hr.hm g1) g4 (Rw.is g3 (by rw [g4]; exact hrw) ((hr.hK.trans hK).trans k1) k2 h0)) h
     · split at h
       · rename_i rr H' hq
         replace h := bift h; obtain ⟨h0, h⟩ := h
         split at h
         · rename_i ww hkn
           obtain ⟨a, ha, hmem, hperm⟩ := pick_spec hq
           obtain rfl := odR_eq ha
           obtain ⟨v, K0, g1, g2, g3, g4⟩ := hr.okH _ (hH _ hmem)
           exact lendH hmem hperm (A := rr.o.own K0 [v] rr.x) (by simp only [HA.conc, g1, g2]) (fun hh hrw K2 k1 k2 => svF_rel g1 (kn_ok hkn (OT.own_is (Hp.le_refl K2) rr.o h0 (KOk.own (g3.mono (hK.trans k1)) hrw) k2))) h
         · cases h
       · split at h
         · rename_i rr Hf' hq
           replace h := bift h; obtain ⟨h0, h⟩ := h
           split at h
           · rename_i ww hkn
             obtain ⟨a, ha, hmem, hperm⟩ := pick_spec hq
             obtain rfl := odR_eq ha
             obtain ⟨v, K0, g1, g2, g3, g4⟩ := hr.okF _ (hF _ hmem)
             exact lendF hmem hperm (A := rr.o.own K0 [v] rr.x) (by simp only [HA.conc, g1, g2]) (fun hh hrw K2 k1 k2 => svF_rel (pre_get hr.hm g1) (kn_ok hkn (OT.own_is (Hp.le_refl K2) rr.o h0 (KOk.own (g3.mono ((hr.hK.trans hK).trans k1)) hrw) k2))) h
           · cases h
         · split at h
           · rename_i rr H' hq
             split at h
             · rename_i d0 hkn
               obtain ⟨a, ha, hmem, hperm⟩ := pick_spec hq
               obtain rfl := blkR_eq ha
               have hok1 := HA.ok_mono (fun _ _ h => h) hK (hr.okH _ (hH _ hmem))
               obtain ⟨b, us', g1, g2, g3⟩ := knB_ok hkn (hFo K1 (Hp.le_refl K1) _ hok1)
               exact lendH hmem hperm (by rw [← hFc]; exact g2) (fun hh hrw K2 k1 k2 => blkF_rel g1 (Cl.at_ hrw k2 (g3.mono k1))) h
             · cases h
           · split at h
             · rename_i rr Hf' hq
               split at h
               · rename_i d0 hkn
                 obtain ⟨a, ha, hmem, hperm⟩ := pick_spec hq
                 obtain rfl := blkR_eq ha
                 have hokf := hr.okF _ (hF _ hmem)
                 have hok1 : HA.ok m K1 (.blk i rr.c rr.e rr.cs) := HA.ok_mono hr.toPur.mono (hr.hK.trans hK) hokf
                 obtain ⟨b, us', g1, g2, g3⟩ := knB_ok hkn (hFo K1 (Hp.le_refl K1) _ hok1)
                 exact lendF hmem hperm (by rw [← HA.conc_mono hr.toPur.mono hokf, ← hFc]; exact g2) (fun hh hrw K2 k1 k2 => blkF_rel g1 (Cl.at_ hrw k2 (g3.mono k1))) h
               · cases h
             · cases h
theorem map_evr (hp : Pur fr σ m K ρ) : ∀ xs : List Operand, SV.relL m K (xs.map (σ.evr n)) (xs.map (ev n ρ))
 | [] => rfl
 | x :: xs => ⟨_, _, rfl, hp.evr n x, map_evr hp xs⟩
def OpOk2 (P : Program) (E : En) (n : Nat) (fr : Frz) (σ : Zt) (ρ : Sl1) (w : World) (o : Oper) (Ψ : Hn P → Zt → Prop) : Prop :=
 ∀ (X : Act → World → Prop) (Q : Exit → Act → World → Prop), (∀ h' σ' m' K' ρ' w', Rel E fr σ' m' K' ρ' w' → Same σ σ' → Ψ h' σ' → X (act1 n ρ') w') → o.wp P (act1 n ρ) w X Q
theorem callS_ok {k : Hn P → Zt → Option R} {r : R} {d : Option Nat} {q : OkSpec P} {lend : List Nat} {am : Option (List Nat)} {h1 h2 : Hn P} {fo : Operand} {xs : Array Operand} {ts : Array TypeId} {f : Nat} {cs : List SV} {t : TypeId} {pos : String} {af : Array Edge} 
   (hf : σ.ev n fo = .fn f cs) (h : callS σ d f (xs.toList.map (σ.evr n) ++ cs) q lend am h1 h2 k = some r) (hr : Rel E fr σ m K ρ w) : OpOk2 P E n fr σ ρ w ⟨d, .call ⟨.value fo, xs, ts⟩, t, pos, af, none⟩ (fun h' σ' => k h' σ' = some r) := fun X Q hX => by
 unfold callS at h
 replace h := bif_and h; obtain ⟨h3, h4, h⟩ := h
 rw [Bool.and_eq_true] at h3
 have hq := Nat.eq_of_beq_eq_true h3.1
 have hv := hr.toPur.ev n fo
 rw [hf] at hv
 obtain ⟨us, hv, hcs⟩ := hv
 subst hq
 have hrel := relL_app (map_evr hr.toPur xs.toList (n := n)) hcs
 have hcall := callL_ok hr h3.2 lend (us := xs.toList.map (ev n ρ) ++ us) h h4 (Hp.le_refl K) hrel (fun _ h => h) (fun _ h => h) (fun a h => by simp at h) (fun _ => rfl) (fun _ _ _ h => h) hr.toSep (fun w' L' h => h) (fun e => by rw [Bool.or_eq_false_iff] at e; exact ⟨by simpa using e.1, by simpa using e.2, rfl, rfl, rfl⟩)
 unfold Oper.wp
 have hrun : (execOp (act1 n ρ).eval ⟨d, .call ⟨.value fo, xs, ts⟩, t, pos, af, none⟩).run P w = .ok (.enter q.s.f (xs.map (ev n ρ) ++ us.toArray)) w := by
   rw [eval_act1]
   have := q.ent (xs.map (ev n ρ) ++ us.toArray) w
   simp [execOp, resolve, Deferred.ofValue, hv, invoke, this]
 rw [hrun, Oper.upon_enter]
 have hargs : xs.map (ev n ρ) ++ us.toArray = (xs.toList.map (ev n ρ) ++ us).toArray := by apply Array.ext'; simp
 rw [hargs]
 refine hcall.mono ?_
 rintro e w' ⟨v, σ', h', m', K', rfl, g1, g2, g3⟩
 show X _ _
 cases d with
 | some d => rw [put_act1]; exact hX _ _ _ _ _ _ g3 g2 g1
 | none => exact hX _ _ _ _ _ _ g3 g2 g1
theorem mthOk_ok {t : TypeId} {nm : String} {f : Nat} (h : mthOk P t nm f = true) (v : Value) (args : Array Value) (w : World) : (callMethod (.iface t v) nm args).run P w = (callFunc f (#[v] ++ args)).run P w := by
 unfold mthOk at h
 split at h
 · rename_i i d hi hd
   split at h
   · rename_i mt hm
     rw [Bool.and_eq_true] at h
     obtain ⟨h2, h3⟩ := h
     split at h3
     · rename_i g p hg
       rw [Bool.and_eq_true] at h3
       obtain ⟨h3, h4⟩ := h3
       obtain rfl := Nat.eq_of_beq_eq_true h3
       have hp : mt.path = #[] := by simpa using h2
       have hrec : ∀ o : Option String, (receiverAt t (.val v) p o).run P w = .ok v w := by
         intro o
         unfold receiverAt
         simp only [Sem.run_bind, run_underlying hd, Result.andThen]
         cases d <;> cases p <;> first | rfl | (simp at h4; done)
       have hmth : (method (P.types.size + Made.depth) t v nm).run P w = .ok (g, v) w := by
         obtain ⟨k, hk⟩ : ∃ k, P.types.size + Made.depth = k + 1 := ⟨P.types.size + (Made.depth - 1), by simp [Made.depth]⟩
         rw [hk]
         simp [method, typeInfo, hi, hm, hp, hg, follow, hrec, Result.andThen]
       simp [callMethod, hmth, Result.andThen]
     · cases h3
   · cases h
 · cases h
theorem mthLd_ok {t e : TypeId} {nm : String} {f b o : Nat} {u : Value} (h : mthLd P t nm f = some e) (args : Array Value) (w : World) (hl : (loadVar e ⟨b, o, none⟩).run P w = .ok u w) :
   (callMethod (.iface t (.pointer (some ⟨b, o, none⟩))) nm args).run P w = (callFunc f (#[u] ++ args)).run P w := by
 unfold mthLd at h
 split at h
 · rename_i i e' hi hd
   split at h
   · rename_i mt hm
     replace h := bift h; obtain ⟨h2, h⟩ := h
     cases h
     rw [Bool.and_eq_true] at h2
     obtain ⟨h2, h3⟩ := h2
     split at h3
     · rename_i g p hg
       rw [Bool.and_eq_true] at h3
       obtain ⟨h3, h4⟩ := h3
       obtain rfl := Nat.eq_of_beq_eq_true h3
       obtain rfl : p = false := by simpa using h4
       have hp : mt.path = #[] := by simpa using h2
       have hrec : ∀ o' : Option String, (receiverAt t (.val (.pointer (some ⟨b, o, none⟩))) false o').run P w = .ok u w := by
         intro o'
         unfold receiverAt
         simp only [Sem.run_bind, run_underlying hd, Result.andThen]
         cases o' with
         | none => simp [Place.get, asAddr, hl, Result.andThen]
         | some s =>
           have hc : (Builtin.ssaWrapNilChk_ #[t] t #[.pointer (some ⟨b, o, none⟩), strVal "", strVal s]).run P w = .ok (.pointer (some ⟨b, o, none⟩)) w := rfl
           simp [Place.get, asAddr, hl, Result.andThen, hc]
       have hmth : (method (P.types.size + Made.depth) t (.pointer (some ⟨b, o, none⟩)) nm).run P w = .ok (g, u) w := by
         obtain ⟨k, hk⟩ : ∃ k, P.types.size + Made.depth = k + 1 := ⟨P.types.size + (Made.depth - 1), by simp [Made.depth]⟩
         rw [hk]
         simp [method, typeInfo, hi, hm, hp, hg, follow, hrec, Result.andThen]
       simp [callMethod, hmth, Result.andThen]
     · cases h3
   · cases h
 · cases h
theorem callI1_ok {k : Hn P → Zt → Option R} {r : R} {d : Option Nat} {q : OkSpec P} {lend : List Nat} {am : Option (List Nat)} {h1 h2 : Hn P} {fo : Operand} {ut : TypeId} {nm : String} {sv : SV} {u0 u : Value} {xs : Array Operand} {ts : Array TypeId} {t : TypeId} {pos : String} {af : Array Edge} 
   (hv : ev n ρ.f fo = .iface ut u0) (hcs : SV.rel m K sv u) (hcm : ∀ args, (callMethod (.iface ut u0) nm args).run P w = (callFunc q.s.f (#[u] ++ args)).run P w) (h : callS σ d q.s.f (sv :: xs.toList.map (σ.evr n)) q lend am h1 h2 k = some r) (hr : Rel E fr σ m K ρ w) : OpOk2 P E n fr σ ρ w ⟨d, .call ⟨.invoke fo nm, xs, ts⟩, t, pos, af, none⟩ (fun h' σ' => k h' σ' = some r) := fun X Q hX => by
 unfold callS at h
 replace h := bif_and h; obtain ⟨h3, h4, h⟩ := h
 rw [Bool.and_eq_true] at h3
 have hrel : SV.relL m K (sv :: xs.toList.map (σ.evr n)) (u :: xs.toList.map (ev n ρ)) := ⟨u, _, rfl, hcs, map_evr hr.toPur xs.toList (n := n)⟩
 have hcall := callL_ok hr h3.2 lend (us := u :: xs.toList.map (ev n ρ)) h h4 (Hp.le_refl K) hrel (fun _ h => h) (fun _ h => h) (fun a h => by simp at h) (fun _ => rfl) (fun _ _ _ h => h) hr.toSep (fun w' L' h => h) (fun e => by rw [Bool.or_eq_false_iff] at e; exact ⟨by simpa using e.1, by simpa using e.2, rfl, rfl, rfl⟩)
 unfold Oper.wp
 have hrun : (execOp (act1 n ρ).eval ⟨d, .call ⟨.invoke fo nm, xs, ts⟩, t, pos, af, none⟩).run P w = .ok (.enter q.s.f (#[u] ++ xs.map (ev n ρ))) w := by
   rw [eval_act1]
   have := q.ent (#[u] ++ xs.map (ev n ρ)) w
   have h9 := (hcm (xs.map (ev n ρ))).trans this
   have e9 : (#[Value.iface ut u0] ++ xs.map (ev n ρ)).extract 1 (#[Value.iface ut u0] ++ xs.map (ev n ρ)).size = xs.map (ev n ρ) := by
     apply Array.ext'
     simp
     exact List.take_of_length_le (by simp)
   have e8 : (#[Value.iface ut u0] ++ xs.map (ev n ρ))[0]? = some (Value.iface ut u0) := by
     simp [Array.getElem?_append]
   have hinv : (invoke (.fn (.method nm) #[]) (#[Value.iface ut u0] ++ xs.map (ev n ρ))).run P w = .ok (.enter q.s.f (#[u] ++ xs.map (ev n ρ))) w := by
     unfold invoke
     rw [e8]
     simp only [e9]
     exact h9
   simp only [execOp, resolve, hv, Sem.run_bind, Sem.run_pure, Result.andThen]
   exact hinv
 rw [hrun, Oper.upon_enter]
 have hargs : #[u] ++ xs.map (ev n ρ) = (u :: xs.toList.map (ev n ρ)).toArray := by apply Array.ext'; simp
 rw [hargs]
 refine hcall.mono ?_
 rintro e w' ⟨v, σ', h', m', K', rfl, g1, g2, g3⟩
 show X _ _
 cases d with
 | some d => rw [put_act1]; exact hX _ _ _ _ _ _ g3 g2 g1
 | none => exact hX _ _ _ _ _ _ g3 g2 g1
theorem callI_ok {k : Hn P → Zt → Option R} {r : R} {d : Option Nat} {q : OkSpec P} {lend : List Nat} {h1 h2 : Hn P} {fo : Operand} {ut : TypeId} {nm : String} {sv : SV} {xs : Array Operand} {ts : Array TypeId} {t : TypeId} {pos : String} {af : Array Edge} 
   (hf : σ.ev n fo = .ifc ut sv) (h : callI n ⟨d, .call ⟨.invoke fo nm, xs, ts⟩, t, pos, af, none⟩ xs.toList nm ut sv q lend h1 h2 σ k = some r) (hr : Rel E fr σ m K ρ w) : OpOk2 P E n fr σ ρ w ⟨d, .call ⟨.invoke fo nm, xs, ts⟩, t, pos, af, none⟩ (fun h' σ' => k h' σ' = some r) := by
 have hv := hr.toPur.ev n fo
 rw [hf] at hv
 obtain ⟨u, hv, hcs⟩ := hv
 unfold callI at h
 cases hm : mthOk P ut nm q.s.f with
 | true =>
   rw [hm] at h
   exact callI1_ok hv hcs (fun args => mthOk_ok hm u args w) h hr
 | false =>
   rw [hm] at h
   simp only [cond_false] at h
   split at h
   · rename_i e he
     obtain ⟨sv', b, o, u', h, rfl, hld, hcs'⟩ := load_ok h (fun _ _ _ _ => rfl) hr.cls hcs
     exact callI1_ok hv hcs' (fun args => mthLd_ok he args w (hld w hr.hold)) h hr
   · cases h
end
end
section
variable [BldA]
section
variable {R : Type} {P : Program} {E : En} {n : Nat} {m m' : List M} {K K' : Hp} {fr : Frz} {σ σ' : Zt} {ρ ρ' : Sl1} {w w' : World}
theorem look_app : ∀ (l r : List (Nat × SV)) (i : Nat), look (l ++ r) i = match look l i with | some v => some v | none => look r i
 | [], r, i => rfl
 | p :: l, r, i => by
   show (bif Nat.beq p.1 i then some p.2 else look (l ++ r) i) = _
   show _ = match (bif Nat.beq p.1 i then some p.2 else look l i) with | some v => some v | none => look r i
   cases Nat.beq p.1 i with
   | true => rfl
   | false => exact look_app l r i
theorem look_anys : ∀ (W : List Nat) (i : Nat), look (anys W) i = if i ∈ W then some .any else none
 | [], i => by simp [anys, look]
 | j :: W, i => by
   show (bif Nat.beq j i then some SV.any else look (anys W) i) = _
   cases hb : Nat.beq j i with
   | true => have := Nat.eq_of_beq_eq_true hb; subst this; simp
   | false =>
     have : ¬ i = j := fun e => by subst e; rw [Nat.beq_refl] at hb; cases hb
     simp [look_anys W i, this]
theorem keysIn_spec {W : List Nat} : ∀ {l : List (Nat × SV)} {i : Nat}, keysIn W l = true → i ∉ W → look l i = none
 | [], i, _, _ => rfl
 | p :: l, i, h, hi => by
   simp only [keysIn, Bool.and_eq_true] at h
   show (bif Nat.beq p.1 i then some p.2 else look l i) = none
   cases hb : Nat.beq p.1 i with
   | true =>
     have := Nat.eq_of_beq_eq_true hb
     subst this
     exact absurd (by simpa using h.1) hi
   | false => exact keysIn_spec h.2 hi
theorem slC_look {f : Nat → SV} {mu : List M} : ∀ {sl : List (Nat × Kd)} {vs : List (Nat × SV)} {i : Nat} {sv : SV}, slC m K f mu sl vs → look vs i = some sv → ∀ u, SV.rel m K (f i) u → SV.rel mu K sv u
 | [], vs, i, sv, h, hl => by obtain rfl : vs = [] := h; cases hl
 | p :: sl, vs, i, sv, h, hl => by
   obtain ⟨s, r, rfl, h1, h2⟩ := h
   change (bif Nat.beq p.1 i then some s else look r i) = some sv at hl
   cases hb : Nat.beq p.1 i with
   | true =>
     rw [hb] at hl; cases hl
     have := Nat.eq_of_beq_eq_true hb
     subst this; exact h1
   | false => rw [hb] at hl; exact slC_look h2 hl
theorem Rel.subs {f : SV → Option SV} (hf : ∀ a b v, f a = some b → SV.rel m K a v → SV.rel m K b v) (h : Rel E fr σ m K ρ w) : Rel E fr ⟨σ.base, subT f σ.top, σ.H.map (HA.sub f), σ.Hf, σ.nx, σ.kq⟩ m K ρ w where
 hm := h.hm
 hK := h.hK
 nx := h.nx
 kq := h.kq
 base := h.base
 dead := h.dead
 old := fun i hi => by
   rw [show look (subT f σ.top) i = _ from look_sub σ.top i] at hi
   cases hl : look σ.top i with
   | none => exact h.old i hl
   | some x => rw [hl] at hi; cases hi
 top := fun i sv hi => by
   rw [show look (subT f σ.top) i = _ from look_sub σ.top i] at hi
   cases hl : look σ.top i with
   | none => rw [hl] at hi; cases hi
   | some x =>
     rw [hl] at hi; cases hi
     exact sub_rel hf x (h.top i x hl)
 okH := fun a ha => by
   obtain ⟨a0, h0, rfl⟩ := List.mem_map.1 ha
   exact ok_sub hf (h.okH a0 h0)
 okF := h.okF
 mks := h.mks
 sep := by
   have := h.sep
   unfold Zt.atoms at this ⊢
   rw [show (⟨σ.base, subT f σ.top, σ.H.map (HA.sub f), σ.Hf, σ.nx, σ.kq⟩ : Zt).H = σ.H.map (HA.sub f) from rfl, map_conc_sub]
   exact this
theorem minus_sub {H : List HA} {act : List Nat} : ∀ a ∈ minus H act, a ∈ H := fun a ha => (List.mem_filter.1 ha).1
theorem only_sub {H : List HA} {act : List Nat} : ∀ a ∈ only H act, a ∈ H := fun a ha => (List.mem_filter.1 ha).1
theorem split_perm (H : List HA) (act : List Nat) : H.Perm (only H act ++ minus H act) := (List.filter_append_perm (fun a : HA => act.contains a.id) H).symm
theorem Rel.frz (hr : Rel E fr σ m K ρ w) (act : List Nat) : Rel E ⟨m, K, ρ, fun _ => false, fr.F, fr.k0⟩ (σ.frz act) m K ρ w where
 hm := List.prefix_refl m
 hK := Hp.le_refl K
 nx := hr.nx
 kq := fun _ => rfl
 base := hr.toPur.get
 dead := fun i h => (by cases h)
 old := fun i _ => .inr rfl
 top := fun i sv h => (by cases h)
 okH := fun a ha => hr.okH a (only_sub a ha)
 okF := fun a ha => hr.toPur.all a (by
   rcases List.mem_append.1 ha with ha | ha
   · exact List.mem_append_left _ (minus_sub a ha)
   · exact List.mem_append_right _ ha)
 mks := hr.mks
 sep := by
   show Sep E K ((only σ.H act).map (HA.conc m) ++ ((minus σ.H act ++ σ.Hf).map (HA.conc m) ++ fr.F)) w
   rw [List.map_append, hr.toPur.fz', List.append_assoc, ← List.append_assoc, ← List.map_append]
   exact Sep.perm (((split_perm σ.H act).map _).append_right _) hr.toSep
structure Inn (σ : Zt) (fr fr' : Frz) (m : List M) (K : Hp) (ρ : Sl1) (rest : List HA) (σ' : Zt) (W : List Nat) : Prop where
 fm : fr'.m = m
 fK : fr'.K = K
 fρ : fr'.ρ = ρ
 fF : fr'.F = fr.F
 fk : fr'.k0 = fr.k0
 hf : σ'.Hf = rest ++ σ.Hf
 rest : ∀ a ∈ rest, a ∈ σ.H
 base : ∀ i, i ∉ W → fr'.dead i = false
theorem Inn.sep (hr : Rel E fr σ m K ρ w) {fr' : Frz} {rest : List HA} {W : List Nat} (hi : Inn σ fr fr' m K ρ rest σ' W) (h : Rel E fr' σ' m' K' ρ' w') : Sep E K' (σ'.H.map (HA.conc m') ++ (rest.map (HA.conc m) ++ σ.fz fr)) w' := by
 have := h.toSep
 unfold Zt.fz at this
 rw [hi.hf, hi.fm, hi.fF, List.map_append, hr.toPur.fz', List.append_assoc] at this
 exact this
theorem lay_ok {s : Sh} {W : List Nat} {rest : List HA} {x : TL s.ts} {k : Zt → Option R} {r : R} (hr : Rel E fr σ m K ρ w) {fr' : Frz} (hi : Inn σ fr fr' m K ρ rest σ' W) (h : Rel E fr' σ' m' K' ρ' w') (hp : σ'.pack s W = some x) (hl : σ.lay s W rest x k = some r) :
   ∃ σ'' m'', k σ'' = some r ∧ Same σ σ'' ∧ Rel E fr σ'' m'' K' ρ' w' := by
 unfold Zt.pack at hp
 replace hp := bift hp; obtain ⟨hk, hp⟩ := hp
 split at hp
 · rename_i g hg
   unfold Zt.lay at hl
   rw [TL.of_list hp] at hl
   split at hl
   · rename_i vs u hu
     have hmm : m <+: m' := by have := h.hm; rwa [hi.fm] at this
     have hKK : K.le K' := by have := h.hK; rwa [hi.fK] at this
     have hoo : oldOk s.bl m.length = true := by
       unfold Sh.un at hu
       rw [hr.nx]
       cases ho : oldOk s.bl σ.nx with
       | true => rfl
       | false => rw [ho] at hu; cases hu
     obtain ⟨vs', u', ms, e1, e2, e3, e4, e5, e6, e7, e8⟩ := Sh.get_un hg h.okH hmm hoo
     rw [hr.nx, hu] at e1
     cases e1
     have hp' := pre_app m ms
     have hfil := fillF_rel hr.toPur (m' := m ++ ms) (fun _ _ k => pre_get hp' k) hKK
     refine ⟨_, m ++ ms, hl, ⟨rfl, rfl⟩, ⟨⟨hr.hm.trans hp', hr.hK.trans hKK, e2, fun e => (by cases e), hr.base, hr.dead, fun i hi' => ?_, fun i sv hi' => ?_, fun a ha => ?_, hr.okF, (by have := h.mks; rwa [hi.fk] at this)⟩, ?_⟩⟩
     · change look (subT (fillF σ) vs ++ (anys W ++ σ.top)) i = none at hi'
       rw [look_app] at hi'
       split at hi'
       · cases hi'
       · rw [look_app, look_anys] at hi'
         by_cases hW : i ∈ W
         · rw [if_pos hW] at hi'; cases hi'
         · rw [if_neg hW] at hi'
           have h1 := h.old i (keysIn_spec hk hW)
           rw [hi.base i hW, hi.fρ] at h1
           rcases h1 with h1 | h1
           · cases h1
           · rw [h1]; exact hr.old i hi'
     · change look (subT (fillF σ) vs ++ (anys W ++ σ.top)) i = some sv at hi'
       rw [look_app] at hi'
       split at hi'
       · rename_i v hv
         cases hi'
         rw [look_sub] at hv
         cases hl : look vs i with
         | none => rw [hl] at hv; cases hv
         | some v0 => rw [hl] at hv; cases hv; exact sub_rel hfil _ (slC_look e3 hl _ (h.toPur.get i))
       · rw [look_app, look_anys] at hi'
         by_cases hW : i ∈ W
         · rw [if_pos hW] at hi'; cases hi'; trivial
         · rw [if_neg hW] at hi'
           have h1 := h.old i (keysIn_spec hk hW)
           rw [hi.base i hW, hi.fρ] at h1
           rcases h1 with h1 | h1
           · cases h1
           · rw [h1]; exact SV.mono (fun _ _ k => pre_get hp' k) hKK _ (hr.top i sv hi')
     · rcases List.mem_append.1 ha with ha | ha
       · obtain ⟨a0, h0, rfl⟩ := List.mem_map.1 ha
         exact ok_sub hfil (e4 a0 h0)
       · exact HA.ok_mono (fun _ _ k => pre_get hp' k) hKK (hr.okH a (hi.rest a ha))
     · have s1 := e6 E _ w' (hi.sep hr h)
       have s2 : Sep E K' (u.H.map (HA.conc (m ++ ms)) ++ (rest.map (HA.conc m) ++ σ.fz fr)) w' := by
         have s3 : Sep E K' (g.H.map (HA.conc m') ++ (u.H.map (HA.conc (m ++ ms)) ++ (rest.map (HA.conc m) ++ σ.fz fr))) w' := Sep.perm (perm3 _ _ _) s1
         exact Sep.drops s3
       show Sep E K' ((u.H.map (HA.sub (fillF σ)) ++ rest).map (HA.conc (m ++ ms)) ++ σ.fz fr) w'
       rw [List.map_append, map_conc_sub, hr.toPur.conc hp' hi.rest, List.append_assoc]
       exact s2
   · cases hl
 · cases hp
theorem thaw_ok {W : List Nat} {rest : List HA} (hr : Rel E fr σ m K ρ w) {fr' : Frz} (hi : Inn σ fr fr' m K ρ rest σ' W) (h : Rel E fr' σ' m' K' ρ' w') : Same σ (σ.thaw σ' rest W) ∧ Rel E fr (σ.thaw σ' rest W) m' K' ρ' w' := by
 have hmm : m <+: m' := by have := h.hm; rwa [hi.fm] at this
 have hKK : K.le K' := by have := h.hK; rwa [hi.fK] at this
 have old : ∀ i, look σ'.top i = none → i ∉ W → ρ' i = ρ i := fun i h1 h2 => by
   have := h.old i h1
   rw [hi.base i h2, hi.fρ] at this
   rcases this with h3 | h3
   · cases h3
   · exact h3
 refine ⟨⟨rfl, rfl⟩, ⟨⟨hr.hm.trans hmm, hr.hK.trans hKK, h.nx, fun e => (by cases e), hr.base, hr.dead, fun i hi' => ?_, fun i sv hi' => ?_, fun a ha => ?_, hr.okF, (by have := h.mks; rwa [hi.fk] at this)⟩, ?_⟩⟩
 · change look (σ'.top ++ (anys W ++ σ.top)) i = none at hi'
   rw [look_app] at hi'
   split at hi'
   · cases hi'
   · rename_i hn
     rw [look_app, look_anys] at hi'
     by_cases hW : i ∈ W
     · rw [if_pos hW] at hi'; cases hi'
     · rw [if_neg hW] at hi'
       rw [old i hn hW]; exact hr.old i hi'
 · change look (σ'.top ++ (anys W ++ σ.top)) i = some sv at hi'
   rw [look_app] at hi'
   split at hi'
   · rename_i v hv; cases hi'; exact h.top i _ hv
   · rename_i hn
     rw [look_app, look_anys] at hi'
     by_cases hW : i ∈ W
     · rw [if_pos hW] at hi'; cases hi'; trivial
     · rw [if_neg hW] at hi'
       rw [old i hn hW]; exact SV.mono (fun _ _ k => pre_get hmm k) hKK _ (hr.top i sv hi')
 · rcases List.mem_append.1 ha with ha | ha
   · exact h.okH a ha
   · exact HA.ok_mono (fun _ _ k => pre_get hmm k) hKK (hr.okH a (hi.rest a ha))
 · show Sep E K' ((σ'.H ++ rest).map (HA.conc m') ++ σ.fz fr) w'
   rw [List.map_append, hr.toPur.conc hmm hi.rest, List.append_assoc]
   exact hi.sep hr h
end
end
section
variable [BldA]
section
variable {R : Type} {P : Program} {E : En} {n : Nat} {m : List M} {K : Hp} {fr : Frz} {σ : Zt} {ρ : Sl1} {w : World} {t : TypeId} {pos : String} {af : Array Edge} {d : Option Nat}
theorem takeE {K : Hp} {t : Tp} : ∀ {xs : List t.den} {cs : List Value} (k : Nat), Els K t cs xs → Els K t (cs.take (k * t.size)) (xs.take k)
 | xs, cs, 0, h => by simp [Els]
 | [], cs, k + 1, h => by rw [show cs = [] from h, List.take_nil, List.take_nil]; exact rfl
 | x :: xs, cs, k + 1, h => by
   obtain ⟨es, r, rfl, h1, h2⟩ := h
   refine ⟨es, r.take (k * t.size), ?_, h1, takeE k h2⟩
   rw [Nat.succ_mul, Nat.add_comm, ← h1.len, List.take_length_add_append]
theorem Row.two2 {K : Hp} {e : TypeId} {t : Tp} {ad : Option Addr} {m cp : Nat} {xs : List t.den} : ∀ h, Row K e t (.slice ad m cp) xs h → ((ad = none ∧ cp = 0 ∧ m = 0) ∨ ∃ g, ad = some ⟨g, 0, none⟩) ∧ m ≤ cp ∧ xs.length = m := by
 rintro h ⟨cs, h1, h2, h3⟩
 rcases h3 with ⟨h3, h4, _⟩ | ⟨g, cap, cur, h3, _, h4, h5, _⟩
 · simp only [Value.slice.injEq] at h3
   obtain ⟨rfl, e1, rfl⟩ := h3
   exact ⟨.inl ⟨rfl, rfl, by omega⟩, by omega, e1.symm⟩
 · simp only [Value.slice.injEq] at h3
   obtain ⟨rfl, e1, rfl⟩ := h3
   exact ⟨.inr ⟨g, rfl⟩, by omega, e1.symm⟩
theorem Row.cut {K : Hp} {e : TypeId} {t : Tp} {ad : Option Addr} {m cp : Nat} {xs z : List t.den} {hi : Int} (hz : subL xs 0 hi = some z) : ∀ h, Row K e t (.slice ad m cp) xs h → Row K e t (.slice ad z.length cp) z h := by
 rintro h ⟨cs, h1, h2, h3⟩
 obtain ⟨a1, a2, a3, rfl⟩ := subL_some hz
 obtain ⟨k, rfl⟩ := Int.eq_ofNat_of_zero_le (show 0 ≤ hi by omega)
 simp only [Int.toNat_natCast, Int.toNat_zero, List.drop_zero]
 have hk : k ≤ xs.length := by omega
 have hl : (xs.take k).length = k := by rw [List.length_take]; omega
 refine ⟨cs.take (k * t.size), takeE k h1, ?_, ?_⟩
 · rw [hl, List.length_take, h2, Nat.min_eq_left (Nat.mul_le_mul_right _ hk)]
 · rcases h3 with ⟨h3, h4, h5⟩ | ⟨g, cap, cur, h3, h5, h6, h7, h8, h9⟩
   · simp only [Value.slice.injEq] at h3
     obtain ⟨rfl, e1, rfl⟩ := h3
     exact .inl ⟨by rw [hl], by omega, h5⟩
   · simp only [Value.slice.injEq] at h3
     obtain ⟨rfl, e1, rfl⟩ := h3
     refine .inr ⟨g, cp, cur, rfl, h5, by omega, h7, h8, ?_⟩
     rw [← h9, List.take_take, hl, Nat.min_eq_left (Nat.mul_le_mul_right _ hk)]
theorem V.cut {C : World → Prop} {ρ : Sl0} {d : Option Nat} {g : Option (Nat × Bool)} {x y : Operand} {tx e : TypeId} {sz : Nat} {α : Type} {ad : Option Addr} {m cp : Nat} {xs z : List α} {hi : Int} {k : IntKind}
   (ht : P.underlying tx = some (.slice e)) (hz : (P.info? e).map (·.size) = some sz) (hd : ((ad = none ∧ cp = 0 ∧ m = 0) ∨ ∃ g, ad = some ⟨g, 0, none⟩) ∧ m ≤ cp ∧ xs.length = m) (hy : subL xs 0 hi = some z) (hx : ev n ρ x = .slice ad m cp) (hh : ev n ρ y = .int k hi) :
   Val P n C ρ ⟨d, .slice tx x none (some y) none, t, pos, af, g⟩ (.slice ad z.length cp) := by
 obtain ⟨hd, hm, hl⟩ := hd
 obtain ⟨a1, a2, a3, rfl⟩ := subL_some hy
 obtain ⟨h, rfl⟩ := Int.eq_ofNat_of_zero_le (show 0 ≤ hi by omega)
 simp only [Int.toNat_natCast, Int.toNat_zero, List.drop_zero]
 have e1 : (xs.take h).length = h := by rw [List.length_take]; omega
 rw [e1]
 rcases hd with ⟨rfl, rfl, rfl⟩ | ⟨g, rfl⟩
 · have h0 : h = 0 := by omega
   subst h0
   intro w _
   cases hi' : P.info? e with
   | none => rw [hi'] at hz; simp at hz
   | some i' => simp [execOp, hx, hh, Instr.sliceAt, run_underlying ht, Instr.slice, Instr.sliceBounds, Instr.sliceBound, asIntOf, sizeOf, typeInfo, hi']
 · have := V.slc (P := P) (n := n) (C := C) (ρ := ρ) (d := d) (t := t) (pos := pos) (af := af) (g := ‹Option (Nat × Bool)›) (lo := none) (hi := some y) (l := 0) (h := h) ht hz hx nofun (fun _ => rfl) (fun q hq => by cases hq; exact ⟨k, hh⟩) nofun (by omega) (by omega) hm
   simpa using this
theorem opTrn_some {s : TypeId} {x y : SV} {k : Zt → Option R} {r : R} (h : opTrn P σ d s x y k = some r) : ∃ d0, d = some d0 := by
 unfold opTrn at h
 split at h
 · split at h
   · split at h
     · replace h := ob h; obtain ⟨z, _, h⟩ := h
       obtain ⟨d0, e, _⟩ := newR_some h; exact ⟨d0, e⟩
     · cases h
   · cases h
 · cases h
theorem opTrn_ok {d : Nat} {s : TypeId} {x y : Operand} {k : Zt → Option R} {r : R} (h : opTrn P σ (some d) s (σ.ev n x) (σ.ev n y) k = some r) (hr : Rel E fr σ m K ρ w) : OpOk P E n fr σ ρ w ⟨some d, .slice s x none (some y) none, t, pos, af, none⟩ (fun σ' => k σ' = some r) := fun X Q hX => by
 have hx := hr.toPur.ev n x
 have hy := hr.toPur.ev n y
 unfold opTrn at h
 split at h
 · rename_i e i kq b hs e1 e2
   rw [e1] at hx; rw [e2] at hy
   split at h
   · rename_i q H hq
     split at h
     · rename_i hz
       replace h := ob h; obtain ⟨z, hzl, h⟩ := h
       obtain ⟨d0, hd0, h⟩ := newR_some h
       cases hd0
       obtain ⟨a, ha, hmem, hsub, hsep⟩ := hr.take hq
       obtain rfl := rowR_eq ha
       obtain ⟨ad, cap, cs, g1, g2, g3, g4, g5, g6⟩ := HA.ok_row (hr.okH _ hmem)
       have hx0 := hx.1
       rw [g1] at hx0
       have hxe : ev n ρ.f x = .slice ad q.n cap := by simpa using hx0.symm
       rw [g6] at hsep
       have hrow : Sep E K (Row K q.e q.t (.slice ad q.n cap) q.l :: (H.map (HA.conc m) ++ σ.fz fr)) w := hsep.mono (fun h k => Row.of_rw g3 h (by rw [g4]; exact k))
       have h2 := hrow.fact (fun h k => Row.two2 h k)
       have hv := V.cut (P := P) (n := n) (C := fun w' => w' = w) (ρ := ρ.f) (d := some d) (t := t) (pos := pos) (af := af) (g := none) hs hz h2 hzl hxe hy
       unfold Oper.wp
       rw [eval_act1, hv w rfl, Oper.upon_value, put_act1]
       obtain ⟨m', hrel⟩ := hr.newR (d := d) hsub (Hp.le_refl K) (hrow.mono (Row.cut hzl))
       exact hX _ _ _ _ _ hrel ⟨rfl, rfl⟩ h
     · cases h
   · cases h
 · cases h
theorem A.clearRw {s e : TypeId} {lo dl dc m cap bt : Nat} {z : Value} {cs : List Value} {adr adx : Option Addr} {L : List Atom} {x : Operand} (hs : P.underlying s = some (.slice e)) (hi : Inf P e z 1 bt) (hzs : z.cells.size = 1)
   (hx : ev n ρ x = .slice adx dl dc) (ho : dl = 0 ∨ ∃ b, adr = some ⟨b, 0, none⟩ ∧ adx = some ⟨b, lo, none⟩) (hlo : lo + dl ≤ m) (h1 : ∀ u ∈ z.cells.toList, u.oneCell' = true) :
   Ao P E n ⟨d, .call ⟨.builtin .clear, #[x], #[s]⟩, t, pos, af, none⟩ ρ.f K (Rw e 1 (.slice adr m cap) m cs :: L)
     (fun ρ' K' L' => ρ' = (match d with | some d => upd ρ.f d (.tuple #[]) | none => ρ.f) ∧ K = K' ∧ L' = Rw e 1 (.slice adr m cap) m (cs.take lo ++ (zrow dl z.cells.toList ++ cs.drop (lo + dl))) :: L) := by
 refine ⟨fun w hsep X Q hX => ?_⟩
 have hrun : ∃ w', (Builtin.clear_ #[s] t #[.slice adx dl dc]).run P w = .ok (.tuple #[]) w' ∧ Sep E K (Rw e 1 (.slice adr m cap) m (cs.take lo ++ (zrow dl z.cells.toList ++ cs.drop (lo + dl))) :: L) w' := by
   by_cases h0 : dl = 0
   · subst h0
     refine ⟨w, ?_, ?_⟩
     · cases adx <;> simp [Builtin.clear_, run_underlying hs, Result.andThen]
     · have e1 : zrow 0 z.cells.toList = [] := rfl
       rw [e1, List.nil_append, Nat.add_zero, List.take_append_drop]
       exact hsep
   · obtain ⟨b, rfl, rfl⟩ := ho.resolve_left h0
     obtain ⟨h, ⟨hlen, h3⟩, hd0, hs2⟩ := hsep
     rcases h3 with ⟨h3, _⟩ | ⟨gb, cp, cur, h3, rfl, h4, h5, h6, h7⟩
     · cases h3
     simp only [Value.slice.injEq, Option.some.injEq, Addr.mk.injEq, and_true, true_and] at h3
     obtain ⟨rfl, rfl⟩ := h3
     rw [Nat.mul_one] at h6 h7 hlen
     have hblk : w.heap[b]? = some (.cells cur e (0, 0)) := hs2.sub b _ (Hp.join_right (one_of b _) (hd0 b _ (one_of b _)))
     have hcz : cur.toList.length = cap := by rw [Array.length_toList]; exact h6
     have hzl : (zrow dl z.cells.toList).length = dl := by rw [zrow_len, Array.length_toList, hzs, Nat.mul_one]
     have hst := run_storeCells_at P b lo e (zrow dl z.cells.toList) 0 cur w hblk (by rw [← Array.length_toList, hcz, hzl]; omega) (fun v hv => zeroCells_one h1 dl (by omega) v (by rw [zeroCells_zrow (by omega)]; exact hv))
     simp only [Nat.add_zero] at hst
     rw [hzl] at hst
     refine ⟨w.setRow b (cur.toList.take lo ++ zrow dl z.cells.toList ++ cur.toList.drop (lo + dl)).toArray, ?_, ?_⟩
     · obtain ⟨i, hi1, hi2⟩ : ∃ i, P.info? e = some i ∧ i.zero = some z := by
         unfold Inf at hi
         cases hq : P.info? e with
         | none => rw [hq] at hi; simp at hi
         | some i => rw [hq] at hi; exact ⟨i, rfl, by simp at hi; exact hi.1⟩
       have hzv : (zeroValue e).run P w = .ok z w := by simp [zeroValue, typeInfo, hi1, hi2, Result.andThen]
       have hne : ∃ k, dl = k + 1 := ⟨dl - 1, by omega⟩
       obtain ⟨k, rfl⟩ := hne
       simp [Builtin.clear_, run_underlying hs, Result.andThen, hzv, zeroCells_zrow (show 0 < z.cells.size by omega), hst]
     · have L1 : (cur.toList.take lo).length = lo := by rw [List.length_take, hcz]; omega
       have L2 : (cs.take lo).length = lo := by rw [List.length_take]; omega
       generalize hds : zrow dl z.cells.toList = es at *
       refine Sep.turn (A := fun h => h = one b (.cells cur e (0, 0))) ⟨_, rfl, hd0, hs2⟩ (fun e => e) (fun h0 ha _ => ?_)
       obtain rfl : h0 = _ := ha
       refine ⟨one b (.cells (cur.toList.take lo ++ es ++ cur.toList.drop (lo + dl)).toArray e (0, 0)), ⟨?_, .inr ⟨b, cap, _, rfl, rfl, h4, h5, ?_, ?_⟩⟩, fun n o' e' => ?_, fun n o' e' h1 => ?_⟩
       · rw [List.length_append, List.length_append, L2, List.length_drop]; omega
       · rw [List.size_toArray, List.length_append, List.length_append, L1, List.length_drop, hcz]; omega
       · rw [← h7, Nat.mul_one]
         rw [List.take_take, Nat.min_eq_left (by omega), List.append_assoc, List.take_append, List.take_append, L1, List.take_take, Nat.min_eq_right (by omega), List.take_of_length_le (l := es) (by omega), List.drop_take, hzl, Nat.sub_sub]
       · obtain ⟨rfl, rfl⟩ := one_some e'
         exact ⟨setRow_heap w n _ _ e (0, 0) hblk, fun h => by rw [one_of] at h; cases h⟩
       · have hn : n ≠ b := fun e => by subst e; rw [one_of] at h1; cases h1
         rw [setRow_other w b n _ hn]; exact e'
 obtain ⟨w', hr, hsw⟩ := hrun
 unfold Oper.wp
 have he : (execOp (ev n ρ) ⟨d, .call ⟨.builtin .clear, #[x], #[s]⟩, t, pos, af, none⟩).run P w = .ok (.value (.tuple #[])) w' := by
   simp [execOp, resolve, invoke, builtin, hx] at hr ⊢
   rw [hr]; rfl
 rw [eval_act, he, Oper.upon_value]
 cases d with
 | none => exact hX ρ.f K _ w' ⟨rfl, rfl, rfl⟩ hsw
 | some d => rw [put_act]; exact hX _ K _ w' ⟨rfl, rfl, rfl⟩ hsw
theorem opClr_ok {s : TypeId} {x : Operand} {k : Zt → Option R} {r : R} (h : opClr P σ d s (σ.ev n x) k = some r) (hr : Rel E fr σ m K ρ w) : OpOk P E n fr σ ρ w ⟨d, .call ⟨.builtin .clear, #[x], #[s]⟩, t, pos, af, none⟩ (fun σ' => k σ' = some r) := fun X Q hX => by
 have hx := hr.toPur.ev n x
 unfold opClr at h
 split at h
 · rename_i e i z lo hi hs e1
   rw [e1] at hx
   split at h
   · rename_i q H zc hq hzc
     replace h := bif_and h; obtain ⟨hb, hb2, h⟩ := h
     rw [Bool.and_eq_true] at hb hb2
     obtain ⟨hz1, hb⟩ := hb
     obtain rfl := Nat.eq_of_beq_eq_true hz1
     have hb := Nat.eq_of_beq_eq_true hb
     have h1 := Nat.eq_of_beq_eq_true hb2.2
     obtain ⟨zv, bt, i1, i2, i3, i4⟩ := infOk_ok hb2.1
     obtain ⟨zv', sz', bt', j1, j2⟩ := zeroS_ok (m := m) (K := K) hzc
     obtain ⟨rfl, rfl, rfl⟩ := i1.zero_eq j1
     split at h
     · rename_i x0 hd
       obtain ⟨c1, c2, q1, q2, q3⟩ := dt_is q.t hd j2
       obtain rfl := relL_nil q3
       rw [List.append_nil] at q1
       rw [← q1] at q2
       obtain ⟨zs, hzs, h⟩ := ob h
       cases hzs
       obtain ⟨a, ha, hmem, hsub, hsep⟩ := hr.take hq
       obtain rfl := rowR_eq ha
       obtain ⟨c0, e0, t0, l0, n0⟩ := q
       change e0 = e at hb
       subst hb
       change HA.row i c0 e0 t0 l0 n0 ∈ σ.H at hmem
       obtain ⟨ad, cap, cs, g1, g2, g3, g4, g5, g6⟩ := HA.ok_row (hr.okH _ hmem)
       obtain ⟨_, _, _, k1, _, _, _, k5, k6, _⟩ := hr.okH _ hmem
       rw [g1] at k1
       simp only [Option.some.injEq, M.val.injEq, Value.slice.injEq, true_and] at k1
       obtain ⟨_, rfl⟩ := k1
       dsimp only at h1 h q2
       obtain ⟨ad0, nn, cap', ad1, p1, p2, p3, p4, p5, hv⟩ := hx
       rw [g1] at p1
       simp only [Option.some.injEq, M.val.injEq, Value.slice.injEq] at p1
       obtain ⟨rfl, rfl, rfl⟩ := p1
       have hln : l0.length = n0 := g4
       have ho : hi.toNat - lo.toNat = 0 ∨ ∃ b, ad = some ⟨b, 0, none⟩ ∧ ad1 = some ⟨b, lo.toNat, none⟩ := by
         by_cases c : lo < hi
         · obtain ⟨g, eg⟩ := g5 (fun e => by rw [show l0 = _ from e] at hln; simp at hln; omega)
           exact .inr ⟨g, eg, by rw [p5 g c eg, Nat.mul_one]⟩
         · exact .inl (by omega)
       rw [g6, h1] at hsep
       have hone : ∀ u ∈ zv.cells.toList, u.oneCell' = true := q2.one'
       refine wp_ds ((A.clearRw (t := t) (pos := pos) (af := af) (d := d) (cs := cs) hs i1 i2 hv ho (by omega) hone).go w hsep _ _ ?_)
       rintro ρ' K' L' w' ⟨e, rfl, rfl⟩ hs'
       generalize hcn : cs.take lo.toNat ++ (zrow (hi.toNat - lo.toNat) zv.cells.toList ++ cs.drop (lo.toNat + (hi.toNat - lo.toNat))) = cn at hs'
       generalize hnl0 : cpy l0 lo.toNat (List.replicate (hi.toNat - lo.toNat) x0) = nl at h
       have hp := pre_app m [.cont t0 nl cn]
       have gn : (m ++ [.cont t0 nl cn])[σ.nx]? = some (.cont t0 nl cn) := get_new0 hr.nx
       have hel : Els K t0 cn nl := by
         rw [← hcn, ← hnl0]
         unfold cpy
         rw [List.length_replicate]
         exact (Els.take1 h1 _ g3).app ((Els.zrow q2 _).app (Els.drop1 h1 _ g3))
       have hnl : nl.length = n0 := by
         rw [← hnl0]
         unfold cpy
         rw [List.length_append, List.length_append, List.length_take, List.length_drop, List.length_replicate, hln]
         omega
       have hat : ∀ a ∈ (HA.row i σ.nx e0 t0 nl n0 :: H), a.ok (m ++ [.cont t0 nl cn]) K := by
         intro a ha
         rcases List.mem_cons.1 ha with rfl | ha
         · refine ⟨_, _, _, pre_get hp g1, gn, hel, hnl, k5, k6, fun hne => g5 (fun e => hne (List.length_eq_zero_iff.1 ?_))⟩
           rw [hnl, ← hln, show l0 = _ from e]; rfl
         · exact hr.toPur.okH' hp (Hp.le_refl K) a (hsub a ha)
       have hsp : Sep E K ((HA.conc (m ++ [.cont t0 nl cn]) (.row i σ.nx e0 t0 nl n0) :: H.map (HA.conc (m ++ [.cont t0 nl cn]))) ++ σ.fz fr) w' := by
         rw [hr.toPur.conc hp hsub]
         simp only [HA.conc, pre_get hp g1, gn]
         rw [h1]
         exact hs'
       have hbs : Rel E fr ⟨σ.base, σ.top, .row i σ.nx e0 t0 nl n0 :: H, σ.Hf, σ.nx + 1, σ.kq⟩ (m ++ [.cont t0 nl cn]) K ρ w' := ⟨Pur.next hr.toPur hp (Hp.le_refl K) (fun e => ⟨e, rfl⟩) (by simp [hr.nx]) hat, hsp⟩
       cases d with
       | none =>
         subst e
         exact hX ⟨σ.base, [] ++ σ.top, .row i σ.nx e0 t0 nl n0 :: H, σ.Hf, σ.nx + 1, σ.kq⟩ (m ++ [.cont t0 nl cn]) K _ w' hbs ⟨rfl, rfl⟩ h
       | some d =>
         subst e
         have hs2 := hbs.set (d := d) (sv := .tup []) (v := .tuple #[]) ⟨[], rfl, rfl⟩
         have h : k ((⟨σ.base, σ.top, .row i σ.nx e0 t0 nl n0 :: H, σ.Hf, σ.nx + 1, σ.kq⟩ : Zt).set d (.tup [])) = some r := h
         show X (act1 n (upd1 ρ d (.tuple #[]))) w'
         exact hX ((⟨σ.base, σ.top, .row i σ.nx e0 t0 nl n0 :: H, σ.Hf, σ.nx + 1, σ.kq⟩ : Zt).set d (.tup [])) (m ++ [.cont t0 nl cn]) K _ w' hs2 ⟨rfl, rfl⟩ h
     · cases h
   · cases h
 · cases h
end
end
section
variable [BldA]
section
variable {R : Type} {P : Program} {E : En} {n : Nat} {m : List M} {K : Hp} {fr : Frz} {σ : Zt} {ρ : Sl1} {w : World}
theorem OpOk.two {o : Oper} {k : Hn P → Zt → Option R} {h0 : Hn P} {r : R} (h : OpOk P E n fr σ ρ w o (fun σ' => k h0 σ' = some r)) : OpOk2 P E n fr σ ρ w o (fun h' σ' => k h' σ' = some r) := fun X Q hX => h X Q (fun σ' m' K' ρ' w' h1 h2 h3 => hX h0 σ' m' K' ρ' w' h1 h2 h3)
theorem newB_some {e : TypeId} {cs : List SV} {d : Option Nat} {k : Zt → Option R} {r : R} (h : newB σ d e cs k = some r) : ∃ d0, d = some d0 := by
 unfold newB at h
 split at h
 · exact ⟨_, rfl⟩
 · cases h
theorem op1_ok {k : Hn P → Zt → Option R} {r : R} {h0 : Hn P} {dst : Option Nat} {op : Op} {t : TypeId} {pos : String} {af : Array Edge} (h : op1 n ⟨dst, op, t, pos, af, none⟩ h0 σ k = some r) (hr : Rel E fr σ m K ρ w) :
   OpOk2 P E n fr σ ρ w ⟨dst, op, t, pos, af, none⟩ (fun h' σ' => k h' σ' = some r) := by
 have val : opVal n ⟨dst, op, t, pos, af, none⟩ h0 σ k = some r → OpOk2 P E n fr σ ρ w ⟨dst, op, t, pos, af, none⟩ (fun h' σ' => k h' σ' = some r) := fun h => by
   cases dst with
   | none => cases h
   | some d => exact OpOk.two (opVal_ok h hr)
 cases op with
 | alloc e =>
   dsimp only [op1] at h
   cases dst with
   | none =>
     exfalso
     unfold opAlloc at h
     cases hb : Nat.beq e BldA.t with
     | true => rw [hb] at h; cases h
     | false =>
       rw [hb] at h
       simp only [cond_false] at h
       split at h
       · obtain ⟨_, e⟩ := newB_some h; cases e
       · cases h
   | some d => exact OpOk.two (k := k) (opAlloc_ok h hr)
 | box e x =>
   dsimp only [op1] at h
   split at h
   · rename_i cs hcs
     obtain ⟨d, rfl⟩ := newB_some h
     exact OpOk.two (k := k) (opBox_ok hcs h hr)
   · cases h
 | store s x y =>
   dsimp only [op1] at h
   cases dst with
   | some d => cases h
   | none =>
     obtain ⟨σ', v', h, hf, hv⟩ := der_ok h hr.toPur
     have hr' := hf.rel hr
     have hev : Zt.ev n σ' y = σ'.ev n y := rfl
     exact fun X Q hX => (sto_ok h hr' hv) X Q (fun σ2 m' K' ρ' w' h1 h2 h3 => hX h0 σ2 m' K' ρ' w' h1 (hf.same.trans h2) h3)
 | buildSlice s len ps =>
   dsimp only [op1] at h
   split at h
   · rename_i q hq
     cases dst with
     | none =>
       exfalso
       unfold opLitO at h
       split at h
       · split at h
         · split at h
           · replace h := (bift h).2
             split at h
             · obtain ⟨_, e, _⟩ := newO_some h; cases e
             · cases h
           · cases h
         · cases h
       · cases h
     | some d => exact OpOk.two (k := k) (opLitO_ok h hr)
   · cases dst with
     | none =>
       exfalso
       unfold opLit at h
       split at h
       · split at h
         · split at h
           · split at h
             · replace h := (bift h).2; cases h
             · split at h
               · replace h := (bift h).2
                 split at h
                 · obtain ⟨_, e, _⟩ := newR_some h; cases e
                 · cases h
               · cases h
           · cases h
         · cases h
       · cases h
     | some d => exact OpOk.two (k := k) (opLit_ok h hr)
 | slice s x lo hi mx =>
   cases lo <;> cases hi <;> cases mx <;> first | (exact val h) | skip
   rename_i y
   dsimp only [op1] at h
   split at h
   · obtain ⟨d, rfl⟩ := opTrn_some h
     exact OpOk.two (k := k) (opTrn_ok h hr)
   · exact val h
 | mapUpdate s x y z =>
   dsimp only [op1] at h
   cases dst with
   | some d =>
     exfalso
     unfold opMapUp at h
     replace h := (bift h).2
     cases h
   | none => exact OpOk.two (k := k) (opMapUp_ok h hr)
 | makeMap s x =>
   cases x with
   | some x => exact val h
   | none =>
     dsimp only [op1] at h
     split at h
     · rename_i u q
       cases dst with
       | none => obtain ⟨_, e⟩ := opMap_some h; cases e
       | some d => exact OpOk.two (k := k) (opMap_ok h hr)
     · cases h
 | makeSlice s x y =>
   have plain : ∀ h', opMake P σ dst s (σ.ev n x) (σ.ev n y) (k h') = some r → OpOk2 P E n fr σ ρ w ⟨dst, .makeSlice s x y, t, pos, af, none⟩ (fun h' σ' => k h' σ' = some r) := fun h' h => by
     cases dst with
     | none =>
       exfalso
       unfold opMake at h
       split at h
       · split at h
         · replace h := (bift h).2
           split at h
           · replace h := ob h; obtain ⟨l, _, h⟩ := h
             obtain ⟨_, e, _⟩ := newR_some h; cases e
           · cases h
         · cases h
       · cases h
     | some d => exact OpOk.two (k := k) (opMake_ok h hr)
   dsimp only [op1] at h
   split at h
   · rename_i q hq
     cases hf : otFit P s q with
     | false => rw [hf] at h; exact plain _ h
     | true =>
     rw [hf] at h
     simp only [cond_true] at h
     cases dst with
     | none =>
       exfalso
       unfold opMakeO at h
       split at h
       · split at h
         · replace h := (bift h).2
           split at h
           · replace h := ob h; obtain ⟨l, _, h⟩ := h
             obtain ⟨_, e, _⟩ := newO_some h; cases e
           · cases h
         · cases h
       · cases h
     | some d => exact OpOk.two (k := k) (opMakeO_ok h hr)
   · exact plain _ h
 | call c =>
   obtain ⟨cal, args, ats⟩ := c
   dsimp only [op1] at h
   split at h
   · rename_i x y s u e1 e2
     obtain rfl : args = #[x, y] := by simpa using congrArg List.toArray e1
     obtain rfl : ats = #[s, u] := by simpa using congrArg List.toArray e2
     cases dst with
     | none => cases h
     | some d =>
       dsimp only at h
       split at h
       · exact OpOk.two (k := k) (opAppO_ok h hr)
       · exact OpOk.two (k := k) (opApp_ok h hr)
   · rename_i x y s u e1 e2
     obtain rfl : args = #[x, y] := by simpa using congrArg List.toArray e1
     obtain rfl : ats = #[s, u] := by simpa using congrArg List.toArray e2
     exact OpOk.two (k := k) (opCopy_ok h hr)
   · rename_i x s e1 e2
     obtain rfl : args = #[x] := by simpa using congrArg List.toArray e1
     obtain rfl : ats = #[s] := by simpa using congrArg List.toArray e2
     exact OpOk.two (k := k) (opClr_ok h hr)
   · rename_i fo xs _ _
     split at h
     · rename_i f cs hf
       split at h
       · exact callS_ok hf h hr
       · exact callS_ok hf h hr
       · exact callS_ok hf h hr
       · exact callS_ok hf h hr
       · cases h
     · cases h
   · rename_i x nm xs _ _
     split at h
     · rename_i ut sv hf
       split at h
       · exact callI_ok hf h hr
       · exact callI_ok hf h hr
       · cases h
     · cases h
   · exact val h
 | makeChan s x =>
   dsimp only [op1] at h
   split at h
   · rename_i u q
     cases dst with
     | none => obtain ⟨_, e⟩ := opChan_some h; cases e
     | some d => exact OpOk.two (k := k) (opChan_ok h hr)
   · rename_i u q
     cases dst with
     | none => obtain ⟨_, e⟩ := opChnO_some h; cases e
     | some d => exact OpOk.two (k := k) (opChnO_ok h hr)
   · cases h
 | binOp bo s x y tx =>
   cases bo with
   | eql =>
     dsimp only [op1] at h
     split at h
     · rename_i i j e1 e2
       cases dst with
       | none =>
         unfold opPeq at h
         split at h
         · rename_i e; cases e
         · cases h
       | some d => exact OpOk.two (k := k) (opPeq_ok h hr e1 e2)
     · rename_i j e1 e2
       cases dst with
       | none =>
         unfold opPn at h
         split at h
         · rename_i e; cases e
         · cases h
       | some d => exact OpOk.two (k := k) (opPn_ok h hr e1 e2)
     · exact val h
   | _ => exact val h
 | _ => exact val h
theorem Rel.subst {f : SV → Option SV} {H : List HA} {K' : Hp} (hr : Rel E fr σ m K ρ w) (hK : K.le K') (hf : ∀ a b v, f a = some b → SV.rel m K' a v → SV.rel m K' b v) (hH : ∀ a ∈ H, a ∈ σ.H) (hs : Sep E K' (H.map (HA.conc m) ++ σ.fz fr) w) :
   Rel E fr ⟨σ.base, subT f σ.top, H.map (HA.sub f), σ.Hf, σ.nx, false⟩ m K' ρ w where
 hm := hr.hm
 hK := hr.hK.trans hK
 nx := hr.nx
 kq := fun e => (by cases e)
 base := hr.base
 dead := hr.dead
 old := fun i hi => by
   rw [show look (subT f σ.top) i = _ from look_sub σ.top i] at hi
   cases hl : look σ.top i with
   | none => exact hr.old i hl
   | some x => rw [hl] at hi; cases hi
 top := fun i sv hi => by
   rw [show look (subT f σ.top) i = _ from look_sub σ.top i] at hi
   cases hl : look σ.top i with
   | none => rw [hl] at hi; cases hi
   | some x =>
     rw [hl] at hi; cases hi
     exact sub_rel hf x (SV.mono (fun _ _ h => h) hK x (hr.top i x hl))
 okH := fun a ha => by
   obtain ⟨a0, h0, rfl⟩ := List.mem_map.1 ha
   exact ok_sub hf (HA.ok_mono (fun _ _ h => h) hK (hr.okH a0 (hH a0 h0)))
 okF := hr.okF
 mks := hr.mks.mono hK
 sep := by
   show Sep E K' ((H.map (HA.sub f)).map (HA.conc m) ++ _) w
   rw [map_conc_sub]; exact hs
theorem per_ok {i : Nat} {σ' : Zt} (h : σ.per i = some σ') (hr : Rel E fr σ m K ρ w) : ∃ K', K.le K' ∧ Same σ σ' ∧ Rel E fr σ' m K' ρ w := by
 unfold Zt.per at h
 split at h
 · rename_i q H hq
   replace h := bift h; obtain ⟨h0, h⟩ := h
   rw [Nat.blt_eq] at h0
   cases h
   obtain ⟨a, ha, hmem, hsub, hs⟩ := hr.take hq
   obtain rfl := rowR_eq ha
   obtain ⟨ad, cap, cs, g1, g2, g3, g4, g5, g6⟩ := HA.ok_row (hr.okH _ hmem)
   rw [g6] at hs
   obtain ⟨hh, hrw, hd, hs2⟩ := hs
   have hle := Hp.le_join K hh
   have his : Is (K.join hh) (.sl q.t) [.slice ad q.n cap] q.l := Rw.is g3 (by rw [g4]; exact hrw) hle (fun n o e => Hp.join_right e (hd n o e)) h0
   exact ⟨_, hle, ⟨rfl, rfl⟩, hr.subst hle (rowF_rel (c := q.c) (e := q.e) g1 g4 his) hsub hs2⟩
 · split at h
   · rename_i q H hq
     replace h := bift h; obtain ⟨h0, h⟩ := h
     split at h
     · rename_i ww hkn
       cases h
       obtain ⟨a, ha, hmem, hsub, hs⟩ := hr.take hq
       obtain rfl := odR_eq ha
       obtain ⟨v, g1, g2, g3⟩ := od_own (hr.okH _ hmem)
       obtain ⟨hh, hrw, hd, hs2⟩ := g3 hs
       have hle := Hp.le_join K hh
       exact ⟨_, hle, ⟨rfl, rfl⟩, hr.subst hle (svF_rel g1 (kn_ok hkn (OT.own_is hle q.o h0 hrw (fun n o e => Hp.join_right e (hd n o e))))) hsub hs2⟩
     · cases h
   · cases h
theorem perb_ok {i : Nat} {tp : Tp} {σ' : Zt} (h : σ.perb i tp = some σ') (hr : Rel E fr σ m K ρ w) : ∃ K', K.le K' ∧ Same σ σ' ∧ Rel E fr σ' m K' ρ w := by
 unfold Zt.perb at h
 split at h
 · rename_i q H hq
   split at h
   · rename_i x hx
     cases h
     obtain ⟨a, ha, hmem, hsub, hs⟩ := hr.take hq
     obtain rfl := blkR_eq ha
     obtain ⟨b, vs, g1, g2, g3, g4⟩ := HA.ok_blk (hr.okH _ hmem)
     rw [g4] at hs
     obtain ⟨c1, c2, e1, e2, e3⟩ := dt_is tp hx g3
     obtain rfl := relL_nil e3
     rw [List.append_nil] at e1; subst e1
     obtain ⟨K', k1, k2, k3⟩ := hs.persistAt e2
     refine ⟨K', k1, ⟨rfl, rfl⟩, hr.subst k1 (fun a b' v hf hrel => ?_) hsub k3⟩
     unfold blkF at hf
     split at hf
     · replace hf := bift hf; obtain ⟨hb, hf⟩ := hf
       have hb := Nat.eq_of_beq_eq_true hb
       subst hb
       cases hf
       obtain ⟨bb, h1, rfl⟩ := hrel
       rw [g1] at h1; cases h1
       exact ⟨b, 0, by rw [Nat.zero_add], k2⟩
     · cases hf
   · cases h
 · cases h
theorem relL_set {vs : List SV} {us : List Value} {q : Nat} {v : SV} {u : Value} (h : SV.relL m K vs us) (hu : us[q]? = some u) (hv : SV.rel m K v u) : SV.relL m K (vs.set q v) us := by
 induction vs generalizing us q with
 | nil => exact h
 | cons w vs ih =>
   obtain ⟨x, r, rfl, h1, h2⟩ := relL_cons h
   cases q with
   | zero => simp at hu; subst hu; exact ⟨x, r, rfl, hv, h2⟩
   | succ q => exact ⟨x, r, rfl, h1, ih h2 (by simpa using hu)⟩
theorem mc_ok {i q : Nat} {σ' : Zt} (h : σ.mc i q = some σ') (hr : Rel E fr σ m K ρ w) : ∃ m', Same σ σ' ∧ Rel E fr σ' m' K ρ w := by
 unfold Zt.mc at h
 split at h
 · rename_i b H hb
   split at h
   · rename_i v hv
     cases h
     obtain ⟨a, ha, hmem, hsub, hs⟩ := hr.take hb
     obtain rfl := blkR_eq ha
     obtain ⟨bb, vs, g1, g2, g3, g4⟩ := HA.ok_blk (hr.okH _ hmem)
     obtain ⟨u, hu, hvu⟩ := relL_get g3 hv
     have hp := pre_app m [M.val u]
     have hm : ∀ (i : Nat) (x : M), m[i]? = some x → (m ++ [M.val u])[i]? = some x := fun _ _ k => pre_get hp k
     have gn : (m ++ [M.val u])[σ.nx]? = some (.val u) := get_new0 hr.nx
     have ok1 : HA.ok (m ++ [M.val u]) K (.blk i b.c b.e (b.cs.set q (.is σ.nx v))) := ⟨bb, vs, hm _ _ g1, hm _ _ g2, relL_set (SV.monoL hm (Hp.le_refl K) _ g3) hu ⟨gn, SV.mono hm (Hp.le_refl K) _ hvu⟩⟩
     refine ⟨m ++ [.val u], ⟨rfl, rfl⟩, ⟨Pur.next hr.toPur hp (Hp.le_refl K) (fun e => ⟨e, rfl⟩) (by simp [hr.nx]) (fun a ha => ?_), ?_⟩⟩
     · rcases List.mem_cons.1 ha with rfl | ha
       · exact ok1
       · exact hr.toPur.okH' hp (Hp.le_refl K) a (hsub a ha)
     · show Sep E K ((HA.conc _ _ :: H.map (HA.conc _)) ++ σ.fz fr) w
       rw [hr.toPur.conc hp hsub]
       have : HA.conc (m ++ [M.val u]) (.blk i b.c b.e (b.cs.set q (.is σ.nx v))) = HA.conc m (.blk i b.c b.e b.cs) := by
         simp only [HA.conc, g1, g2, hm _ _ g1, hm _ _ g2]
       rw [this]
       exact hs
   · cases h
 · cases h
theorem mcs_ok : ∀ {l : List (Nat × Nat)} {σ σ' : Zt} {m : List M}, Zt.mcs l σ = some σ' → Rel E fr σ m K ρ w → ∃ m', Same σ σ' ∧ Rel E fr σ' m' K ρ w
 | [], σ, σ', m, h, hr => by cases h; exact ⟨m, Same.rfl', hr⟩
 | p :: l, σ, σ', m, h, hr => by
   unfold Zt.mcs at h
   split at h
   · rename_i σ1 h1
     obtain ⟨m1, k1, k2⟩ := mc_ok h1 hr
     obtain ⟨m2, k3, k4⟩ := mcs_ok h k2
     exact ⟨m2, k1.trans k3, k4⟩
   · cases h
theorem ms_ok {d : Nat} (hr : Rel E fr σ m K ρ w) : Rel E fr (σ.ms d) (m ++ [.val (ρ d)]) K ρ w := by
 have hp := pre_app m [M.val (ρ d)]
 have hm : ∀ (i : Nat) (x : M), m[i]? = some x → (m ++ [M.val (ρ d)])[i]? = some x := fun _ _ k => pre_get hp k
 have gn : (m ++ [M.val (ρ d)])[σ.nx]? = some (.val (ρ d)) := get_new0 hr.nx
 have h1 : Rel E fr ⟨σ.base, σ.top, σ.H, σ.Hf, σ.nx + 1, σ.kq⟩ (m ++ [.val (ρ d)]) K ρ w := by
   refine ⟨Pur.next hr.toPur hp (Hp.le_refl K) (fun e => ⟨e, rfl⟩) (by simp [hr.nx]) (hr.toPur.okH' hp (Hp.le_refl K)), ?_⟩
   show Sep E K (σ.H.map (HA.conc _) ++ σ.fz fr) w
   rw [hr.toPur.conc hp (fun _ h => h)]
   exact hr.toSep
 exact h1.fine (d := d) (sv := .is σ.nx (σ.get d)) ⟨gn, SV.mono hm (Hp.le_refl K) _ (hr.toPur.get d)⟩
theorem prep_ok {k : Hn P → Zt → Option R} {r : R} : ∀ (h : Hn P) {σ : Zt} {m : List M} {K : Hp}, prep h σ k = some r → Rel E fr σ m K ρ w → ∃ h' σ' m' K', k h' σ' = some r ∧ Same σ σ' ∧ Rel E fr σ' m' K' ρ w
 | .per i cn q, σ, m, K, h, hr => by
   unfold prep at h
   cases hb : σ.hasC i cn with
   | false => rw [hb] at h; exact ⟨_, σ, m, K, h, Same.rfl', hr⟩
   | true =>
     rw [hb] at h
     simp only [cond_true] at h
     split at h
     · rename_i σ1 h1
       obtain ⟨K1, k1, k2, k3⟩ := per_ok h1 hr
       obtain ⟨h', σ', m', K', g1, g2, g3⟩ := prep_ok q h k3
       exact ⟨h', σ', m', K', g1, k2.trans g2, g3⟩
     · cases h
 | .perb i cn tp q, σ, m, K, h, hr => by
   unfold prep at h
   cases hb : σ.hasC i cn with
   | false => rw [hb] at h; exact ⟨_, σ, m, K, h, Same.rfl', hr⟩
   | true =>
     rw [hb] at h
     simp only [cond_true] at h
     split at h
     · rename_i σ1 h1
       obtain ⟨K1, k1, k2, k3⟩ := perb_ok h1 hr
       obtain ⟨h', σ', m', K', g1, g2, g3⟩ := prep_ok q h k3
       exact ⟨h', σ', m', K', g1, k2.trans g2, g3⟩
     · cases h
 | .mc i c cn q, σ, m, K, h, hr => by
   unfold prep at h
   cases hb : σ.hasC i cn with
   | false => rw [hb] at h; exact ⟨_, σ, m, K, h, Same.rfl', hr⟩
   | true =>
     rw [hb] at h
     simp only [cond_true] at h
     split at h
     · rename_i σ1 h1
       obtain ⟨m1, k2, k3⟩ := mc_ok h1 hr
       obtain ⟨h', σ', m', K', g1, g2, g3⟩ := prep_ok q h k3
       exact ⟨h', σ', m', K', g1, k2.trans g2, g3⟩
     · cases h
 | .ms d q, σ, m, K, h, hr => by
   unfold prep at h
   cases hb : σ.hasS d with
   | false => rw [hb] at h; exact ⟨_, σ, m, K, h, Same.rfl', hr⟩
   | true =>
   rw [hb] at h
   simp only [cond_true] at h
   obtain ⟨h', σ', m', K', g1, g2, g3⟩ := prep_ok q h (ms_ok (d := d) hr)
   exact ⟨h', σ', m', K', g1, (show Same σ (σ.ms d) from ⟨rfl, rfl⟩).trans g2, g3⟩
 | .wt d q, σ, m, K, h, hr => by
   unfold prep at h
   cases hb : σ.hasW d with
   | false => rw [hb] at h; exact ⟨_, σ, m, K, h, Same.rfl', hr⟩
   | true =>
   rw [hb] at h
   simp only [cond_true] at h
   exact prep_ok q h hr
 | .opn i d q, σ, m, K, h, hr => by
   unfold prep at h
   split at h
   · obtain ⟨σ1, m1, k1, k2, k3⟩ := opn_ok h hr
     obtain ⟨h', σ', m', K', g1, g2, g3⟩ := prep_ok q k1 k3
     exact ⟨h', σ', m', K', g1, k2.trans g2, g3⟩
   · exact ⟨_, σ, m, K, h, Same.rfl', hr⟩
 | .opb i cn q, σ, m, K, h, hr => by
   unfold prep at h
   cases hb : σ.hasC i cn with
   | false => rw [hb] at h; exact ⟨_, σ, m, K, h, Same.rfl', hr⟩
   | true =>
     rw [hb] at h
     simp only [cond_true] at h
     obtain ⟨σ1, m1, k1, k2, k3⟩ := opb_ok h hr
     obtain ⟨h', σ', m', K', g1, g2, g3⟩ := prep_ok q k1 k3
     exact ⟨h', σ', m', K', g1, k2.trans g2, g3⟩
 | .cls i cn q, σ, m, K, h, hr => by
   unfold prep at h
   cases hb : σ.hasC i cn with
   | false => rw [hb] at h; exact ⟨_, σ, m, K, h, Same.rfl', hr⟩
   | true =>
     rw [hb] at h
     simp only [cond_true] at h
     split at h
     · rename_i σ1 h1
       obtain ⟨m1, k2, k3⟩ := cls_ok h1 hr
       obtain ⟨h', σ', m', K', g1, g2, g3⟩ := prep_ok q h k3
       exact ⟨h', σ', m', K', g1, k2.trans g2, g3⟩
     · cases h
 | .opp s i d q, σ, m, K, h, hr => ⟨_, σ, m, K, h, Same.rfl', hr⟩
 | .ot o q, σ, m, K, h, hr => ⟨_, σ, m, K, h, Same.rfl', hr⟩
 | .cm q l c a, σ, m, K, h, hr => ⟨_, σ, m, K, h, Same.rfl', hr⟩
 | .cm2 q l c a b, σ, m, K, h, hr => ⟨_, σ, m, K, h, Same.rfl', hr⟩
 | .tr t s c a b, σ, m, K, h, hr => ⟨_, σ, m, K, h, Same.rfl', hr⟩
 | .tru q, σ, m, K, h, hr => ⟨_, σ, m, K, h, Same.rfl', hr⟩
 | .yl q r, σ, m, K, h, hr => ⟨_, σ, m, K, h, Same.rfl', hr⟩
 | .rg q r, σ, m, K, h, hr => ⟨_, σ, m, K, h, Same.rfl', hr⟩
 | .il q r, σ, m, K, h, hr => ⟨_, σ, m, K, h, Same.rfl', hr⟩
 | .nil, σ, m, K, h, hr => ⟨_, σ, m, K, h, Same.rfl', hr⟩
 | .two d a b, σ, m, K, h, hr => ⟨_, σ, m, K, h, Same.rfl', hr⟩
 | .tw d a b, σ, m, K, h, hr => ⟨_, σ, m, K, h, Same.rfl', hr⟩
 | .sq mk s c a b, σ, m, K, h, hr => ⟨_, σ, m, K, h, Same.rfl', hr⟩
 | .sx mk s c a b, σ, m, K, h, hr => ⟨_, σ, m, K, h, Same.rfl', hr⟩
 | .pl q, σ, m, K, h, hr => ⟨_, σ, m, K, h, Same.rfl', hr⟩
 | .jn mk s c a b, σ, m, K, h, hr => ⟨_, σ, m, K, h, Same.rfl', hr⟩
 | .jx mk s c a b, σ, m, K, h, hr => ⟨_, σ, m, K, h, Same.rfl', hr⟩
 | .lp s a, σ, m, K, h, hr => ⟨_, σ, m, K, h, Same.rfl', hr⟩
 | .un c q, σ, m, K, h, hr => ⟨_, σ, m, K, h, Same.rfl', hr⟩
 | .cl q l c, σ, m, K, h, hr => ⟨_, σ, m, K, h, Same.rfl', hr⟩
 | .c2 q l a b, σ, m, K, h, hr => ⟨_, σ, m, K, h, Same.rfl', hr⟩
 | .gp c q, σ, m, K, h, hr => ⟨_, σ, m, K, h, Same.rfl', hr⟩
 | .gj c s l a b, σ, m, K, h, hr => ⟨_, σ, m, K, h, Same.rfl', hr⟩
 | .mix p f l c q, σ, m, K, h, hr => ⟨_, σ, m, K, h, Same.rfl', hr⟩
theorem gate_ok {ops : Array Oper} {dst : Option Nat} {op : Op} {t : TypeId} {pos : String} {af : Array Edge} {g : Option (Nat × Bool)} {h0 : Hn P} {run skip : Hn P → Zt → Option R} {r : R} (h : gate n ops σ ⟨dst, op, t, pos, af, g⟩ h0 run skip = some r) (hr : Rel E fr σ m K ρ w) :
   ∃ h' σ', Same σ σ' ∧ Rel E fr σ' m K ρ w ∧ ((Region.wanted ⟨dst, op, t, pos, af, g⟩ (yielded ops (act1 n ρ).tmps) = true ∧ run h' σ' = some r) ∨ (Region.wanted ⟨dst, op, t, pos, af, g⟩ (yielded ops (act1 n ρ).tmps) = false ∧ skip h' σ' = some r)) := by
 unfold gate at h
 split at h
 · rename_i hg
   have hg : g = none := hg
   subst hg
   exact ⟨h0, σ, Same.rfl', hr, .inl ⟨rfl, h⟩⟩
 · rename_i gi c hg
   have hg : g = some (gi, c) := hg
   subst hg
   split at h
   · cases h
   · rename_i d hd
     have hv := hr.toPur.evr n (.tmp d)
     have fin : ∀ (b : Bool) (hb : ev n ρ (.tmp d) = .bool b) (h1 h2 : Hn P) (σ1 σ2 : Zt), (b = true → Same σ σ1 ∧ Rel E fr σ1 m K ρ w) → (b = false → Same σ σ2 ∧ Rel E fr σ2 m K ρ w) → cond b (bif c then run h1 σ1 else skip h1 σ1) (bif c then skip h2 σ2 else run h2 σ2) = some r →
         ∃ h' σ', Same σ σ' ∧ Rel E fr σ' m K ρ w ∧ ((Region.wanted ⟨dst, op, t, pos, af, some (gi, c)⟩ (yielded ops (act1 n ρ).tmps) = true ∧ run h' σ' = some r) ∨ (Region.wanted ⟨dst, op, t, pos, af, some (gi, c)⟩ (yielded ops (act1 n ρ).tmps) = false ∧ skip h' σ' = some r)) := by
       intro b hb h1 h2 σ1 σ2 r1 r2 h
       cases b with
       | true =>
         obtain ⟨s1, q1⟩ := r1 rfl
         cases c with
         | true => exact ⟨h1, σ1, s1, q1, .inl ⟨wanted_run rfl hd hb rfl, h⟩⟩
         | false => exact ⟨h1, σ1, s1, q1, .inr ⟨wanted_skip rfl hd hb rfl, h⟩⟩
       | false =>
         obtain ⟨s2, q2⟩ := r2 rfl
         cases c with
         | true => exact ⟨h2, σ2, s2, q2, .inr ⟨wanted_skip rfl hd hb rfl, h⟩⟩
         | false => exact ⟨h2, σ2, s2, q2, .inl ⟨wanted_run rfl hd hb rfl, h⟩⟩
     split at h
     · rename_i vs e
       rw [e] at hv
       replace h := bift h; obtain ⟨he, h⟩ := h
       obtain rfl : vs = #[] := by simpa using he
       exact ⟨h0, σ, Same.rfl', hr, .inr ⟨wanted_skipu rfl hd hv, h⟩⟩
     · rename_i b e
       rw [e] at hv
       have hb : ev n ρ (.tmp d) = .bool b := hv
       have hlt : Nat.blt d n = true := by
         cases hh : Nat.blt d n with
         | true => rfl
         | false =>
           have : σ.evr n (.tmp d) = .any := by show (bif Nat.blt d n then σ.get d else .any) = _; rw [hh]; rfl
           rw [this] at e; cases e
       have hρ : ρ d = .bool b := by
         have : ev n ρ (.tmp d) = ρ d := by show (bif Nat.blt d n then ρ d else undef) = _; rw [hlt]; rfl
         rw [← this]; exact hb
       split at h
       · rename_i h1 h2 _
         have hget : σ.get d = .bool b := by
           have : σ.evr n (.tmp d) = σ.get d := by show (bif Nat.blt d n then σ.get d else .any) = _; rw [hlt]; rfl
           rw [← this]; exact e
         exact fin b hb h1 h2 (σ.ref d (.bool true)) (σ.ref d (.bool false)) (fun e => ⟨⟨rfl, ref_H.2⟩, hr.ref (d := d) (sv := .bool true) (fun _ _ u hu => by rw [hget, e] at hu; exact hu) (by rw [hget]; nofun)⟩) (fun e => ⟨⟨rfl, ref_H.2⟩, hr.ref (d := d) (sv := .bool false) (fun _ _ u hu => by rw [hget, e] at hu; exact hu) (by rw [hget]; nofun)⟩) h
       · rename_i h1 h2 _
         exact fin b hb h1 h2 σ σ (fun _ => ⟨Same.rfl', hr⟩) (fun _ => ⟨Same.rfl', hr⟩) h
       · exact fin b hb h0 h0 σ σ (fun _ => ⟨Same.rfl', hr⟩) (fun _ => ⟨Same.rfl', hr⟩) h
     · rename_i jm w0 e
       rw [e] at hv
       obtain ⟨hj, hv⟩ := hv
       split at h
       · rename_i b
         have hb : ev n ρ (.tmp d) = .bool b := hv
         rw [hb] at hj
         split at h
         · rename_i h1 h2 _
           exact fin b hb h1 h2 (σ.fix jm (.bool true)) (σ.fix jm (.bool false)) (fun e => ⟨⟨rfl, rfl⟩, hr.fix hj (by rw [e]; rfl)⟩) (fun e => ⟨⟨rfl, rfl⟩, hr.fix hj (by rw [e]; rfl)⟩) h
         · rename_i h1 h2 _
           exact fin b hb h1 h2 σ σ (fun _ => ⟨Same.rfl', hr⟩) (fun _ => ⟨Same.rfl', hr⟩) h
         · exact fin b hb h0 h0 σ σ (fun _ => ⟨Same.rfl', hr⟩) (fun _ => ⟨Same.rfl', hr⟩) h
       · cases h
     · cases h
theorem runP_ok {ops : Array Oper} {Q : Exit → Act → World → Prop} {k : Hn P → Zt → Option R} {r : R} : ∀ (l : List Oper) {h : Hn P} {σ : Zt} {m : List M} {K : Hp} {ρ : Sl1} {w : World}, runP n ops l h σ k = some r → Rel E fr σ m K ρ w →
   (∀ h' σ' m' K' ρ' w', Rel E fr σ' m' K' ρ' w' → Same σ σ' → k h' σ' = some r → Q .normal (act1 n ρ') w') → wpLs P ops Q l (act1 n ρ) w
 | [], h, σ, m, K, ρ, w, hh, hr, hQ => by
   obtain ⟨h', σ', m', K', g1, g2, g3⟩ := prep_ok h hh hr
   exact hQ h' σ' m' K' ρ w g3 g2 g1
 | ⟨dst, op, t, pos, af, g⟩ :: l, h, σ, m, K, ρ, w, hh, hr, hQ => by
   unfold runP at hh
   obtain ⟨h1, σ1, m1, K1, g1, g2, g3⟩ := prep_ok h hh hr
   obtain ⟨h2, σ2, q1, q2, q3⟩ := gate_ok g1 g3
   unfold wpLs
   rcases q3 with ⟨hw, hrun⟩ | ⟨hw, hskip⟩
   · rw [if_pos hw]
     obtain ⟨h2, σ2', m2, K2, y1, y2, q2⟩ := prep_ok h2 hrun q2
     replace q1 := q1.trans y2
     have hrun' : op1 n ⟨dst, op, t, pos, af, none⟩ h2 σ2' (fun h σ => runP n ops l h σ k) = some r := y1
     have := op1_ok hrun' q2 (wpLs P ops Q l) Q (fun h' σ' m' K' ρ' w' a1 a2 a3 => runP_ok l a3 a1 (fun h'' σ'' m'' K'' ρ'' w'' b1 b2 b3 => hQ h'' σ'' m'' K'' ρ'' w'' b1 (((g2.trans q1).trans a2).trans b2) b3))
     exact this
   · rw [if_neg (by rw [hw]; simp)]
     cases dst with
     | none => exact runP_ok l hskip q2 (fun h'' σ'' m'' K'' ρ'' w'' b1 b2 b3 => hQ h'' σ'' m'' K'' ρ'' w'' b1 ((g2.trans q1).trans b2) b3)
     | some d =>
       show wpLs P ops Q l ((act1 n ρ).put (some d) undef) w
       rw [put_act1]
       exact runP_ok l hskip (q2.set (d := d) (sv := .raw undef) (v := undef) rfl) (fun h'' σ'' m'' K'' ρ'' w'' b1 b2 b3 => hQ h'' σ'' m'' K'' ρ'' w'' b1 (((g2.trans q1).trans ⟨rfl, rfl⟩).trans b2) b3)
theorem upd_ne {ρ : Sl1} {d i : Nat} {v : Value} (h : i ≠ d) : upd1 ρ d v i = ρ i := by
 show (bif Nat.beq i d then v else ρ i) = ρ i
 cases hb : Nat.beq i d with
 | true => exact absurd (Nat.eq_of_beq_eq_true hb) h
 | false => rfl
theorem upd_same {ρ : Sl1} {d : Nat} {v : Value} : upd1 ρ d v d = v := by
 show (bif Nat.beq d d then v else ρ d) = v
 rw [Nat.beq_refl]; rfl
def undefs (W : List Nat) (ρ : Sl1) : Sl1 := ⟨fun i => if i ∈ W then undef else ρ i, ρ.ds⟩
theorem undefs_nil {ρ : Sl1} : undefs [] ρ = ρ := by refine Sl1.ext' (fun i => ?_) rfl; simp [undefs]
theorem undefs_cons {ρ : Sl1} {d : Nat} {W : List Nat} : undefs W (upd1 ρ d undef) = undefs (d :: W) ρ := by
 refine Sl1.ext' (fun i => ?_) rfl
 show (if i ∈ W then undef else upd1 ρ d undef i) = if i ∈ d :: W then undef else ρ i
 by_cases h : i ∈ W
 · simp [h]
 · by_cases hd : i = d
   · subst hd; simp [h, upd_same]
   · simp [h, hd, upd_ne hd]
theorem Rel.anys (hr : Rel E fr σ m K ρ w) {W : List Nat} {ρ' : Sl1} (h : ∀ i, i ∉ W → ρ' i = ρ i) (hd : MOk fr.k0 K ρ'.ds) : Rel E fr ⟨σ.base, anys W ++ σ.top, σ.H, σ.Hf, σ.nx, σ.kq⟩ m K ρ' w where
 hm := hr.hm
 hK := hr.hK
 nx := hr.nx
 kq := hr.kq
 base := hr.base
 dead := hr.dead
 old := fun i hi => by
   change look (Go.Proofs.YtmlbbjkojaljnaaDoor.anys W ++ σ.top) i = none at hi
   rw [look_app, look_anys] at hi
   by_cases hW : i ∈ W
   · rw [if_pos hW] at hi; cases hi
   · rw [if_neg hW] at hi
     rw [h i hW]; exact hr.old i hi
 top := fun i sv hi => by
   change look (Go.Proofs.YtmlbbjkojaljnaaDoor.anys W ++ σ.top) i = some sv at hi
   rw [look_app, look_anys] at hi
   by_cases hW : i ∈ W
   · rw [if_pos hW] at hi; cases hi; trivial
   · rw [if_neg hW] at hi
     rw [h i hW]; exact hr.top i sv hi
 okH := hr.okH
 okF := hr.okF
 mks := hd
 sep := hr.sep
theorem evs {ρ : Sl1} {t : Nat} : ev n ρ (.tmp t) = (bif Nat.blt t n then ρ t else undef) := rfl
theorem ev_eq {ρ ρ' : Sl1} {t : Nat} (h : ρ' t = ρ t) : ev n ρ' (.tmp t) = ev n ρ (.tmp t) := by rw [evs, evs, h]
theorem ev_undefs {ρ : Sl1} {W : List Nat} {t : Nat} (h : ev n ρ (.tmp t) = undef) : ev n (undefs W ρ) (.tmp t) = undef := by
 rw [evs] at h ⊢
 cases hb : Nat.blt t n with
 | false => rfl
 | true =>
   rw [hb] at h; simp only [cond_true] at h ⊢
   show (if t ∈ W then undef else ρ t) = undef
   split
   · rfl
   · exact h
theorem ev_undefs_mem {ρ : Sl1} {W : List Nat} {t : Nat} (h : t ∈ W) : ev n (undefs W ρ) (.tmp t) = undef := by
 rw [evs]
 cases hb : Nat.blt t n with
 | false => rfl
 | true => simp [undefs, h]
theorem undefs_app {ρ : Sl1} {V W : List Nat} : undefs V (undefs W ρ) = undefs (W ++ V) ρ := by
 refine Sl1.ext' (fun i => ?_) rfl
 unfold undefs
 by_cases h1 : i ∈ V <;> by_cases h2 : i ∈ W <;> simp [h1, h2]
theorem gEq_eq : ∀ {a b : Option (Nat × Bool)}, gEq a b = true → a = b
 | none, none, _ => rfl
 | some (a, b), some (a', b'), h => by
   simp only [gEq, Bool.and_eq_true] at h
   have h1 := Nat.eq_of_beq_eq_true h.1
   have h2 : b = b' := by simpa using h.2
   rw [h1, h2]
 | none, some _, h => by cases h
 | some _, none, h => by cases h
theorem dsts_app {a b : List Oper} : dsts (a ++ b) = dsts a ++ dsts b := by simp [dsts]
def SpRes (P : Program) (E : En) (n : Nat) (ops : Array Oper) (fr : Frz) (m : List M) (K : Hp) (w : World) (g : Nat × Bool) (l : List Oper) (seen : List Nat) (σ : Zt) (ρ : Sl1) (k : Zt → Option R) (r : R) : Prop :=
 (∃ σ' ρ', Rel E fr σ' m K ρ' w ∧ Same σ σ' ∧ (∀ i, i ∉ dsts l → ρ' i = ρ i) ∧ k σ' = some r ∧ ∀ (t : Nat), (ops[g.1]?).bind (·.dst) = some t → t ∉ dsts l → ev n ρ (.tmp t) = .bool g.2 → ∀ (Q : Exit → Act → World → Prop) (rest : List Oper), wpLs P ops Q rest (act1 n ρ') w → wpLs P ops Q (l ++ rest) (act1 n ρ) w) ∧
 (∀ (ρ0 : Sl1) (t : Nat), (ops[g.1]?).bind (·.dst) = some t → t ∉ dsts l → (ev n ρ0 (.tmp t) = .bool (!g.2) ∨ ev n ρ0 (.tmp t) = undef) → (∀ s ∈ seen, ev n ρ0 (.tmp s) = undef) → ∀ (Q : Exit → Act → World → Prop) (rest : List Oper), wpLs P ops Q rest (act1 n (undefs (dsts l) ρ0)) w → wpLs P ops Q (l ++ rest) (act1 n ρ0) w)
def SpFor (P : Program) (n : Nat) (ops : Array Oper) (sp : (Nat × Bool) → List Oper → List Nat → Nat → Zt → (Zt → Option R) → Option R) : Prop :=
 ∀ (E : En) (fr : Frz) (m : List M) (K : Hp) (w : World) (g : Nat × Bool) (l : List Oper) (seen : List Nat) (s : Nat) (σ : Zt) (ρ : Sl1) (k : Zt → Option R) (r : R), sp g l seen s σ k = some r → Rel E fr σ m K ρ w → SpRes P E n ops fr m K w g (l.drop s) seen σ ρ k r
theorem skip1 {op : Op} {ty : TypeId} {pos : String} {af : Array Edge} {g : Nat × Bool} {ops : Array Oper} {t d : Nat} {Q : Exit → Act → World → Prop} {rest : List Oper} {ρ : Sl1} (h1 : (ops[g.1]?).bind (·.dst) = some t) (hv : ev n ρ (.tmp t) = .bool (!g.2) ∨ ev n ρ (.tmp t) = undef) (h : wpLs P ops Q rest (act1 n (upd1 ρ d undef)) w) :
   wpLs P ops Q (⟨some d, op, ty, pos, af, some g⟩ :: rest) (act1 n ρ) w := by
 obtain ⟨gi, c⟩ := g
 have hw : Region.wanted ⟨some d, op, ty, pos, af, some (gi, c)⟩ (yielded ops (act1 n ρ).tmps) = false := by
   rcases hv with hv | hv
   · exact wanted_skip (b := !c) rfl h1 hv rfl
   · exact wanted_skipu rfl h1 hv
 refine wpLs_skip hw ?_
 show wpLs P ops Q rest ((act1 n ρ).put (some d) undef) w
 rw [put_act1]
 exact h
theorem runGd_ok {ops : Array Oper} {sp : (Nat × Bool) → List Oper → List Nat → Nat → Zt → (Zt → Option R) → Option R} (hsp : SpFor P n ops sp) {og : Option (Nat × Bool)} {k : Zt → Option R} {r : R} {l : List Oper} {q : Nat} {ρ : Sl1} (h : runGd P n ops sp og l q σ k = some r) (hr : Rel E fr σ m K ρ w) :
   (∃ σ' ρ', Rel E fr σ' m K ρ' w ∧ Same σ σ' ∧ (∀ i, i ∉ dsts (l.take (q + 1)) → ρ' i = ρ i) ∧ k σ' = some r ∧ ((og = none ∨ ∃ g t, og = some g ∧ (ops[g.1]?).bind (·.dst) = some t ∧ t ∉ dsts (l.take (q + 1)) ∧ ev n ρ (.tmp t) = .bool g.2) → ∀ (Q : Exit → Act → World → Prop) (rest : List Oper), wpLs P ops Q rest (act1 n ρ') w → wpLs P ops Q (l.take (q + 1) ++ rest) (act1 n ρ) w)) ∧
   (∀ (g : Nat × Bool), og = some g → ∀ (ρ0 : Sl1) (t : Nat), (ops[g.1]?).bind (·.dst) = some t → t ∉ dsts (l.take (q + 1)) → (ev n ρ0 (.tmp t) = .bool (!g.2) ∨ ev n ρ0 (.tmp t) = undef) → (∀ o tl g' t', l = o :: tl → o.guard = some g' → (ops[g'.1]?).bind (·.dst) = some t' → ev n ρ0 (.tmp t') = undef) → ∀ (Q : Exit → Act → World → Prop) (rest : List Oper), wpLs P ops Q rest (act1 n (undefs (dsts (l.take (q + 1))) ρ0)) w → wpLs P ops Q (l.take (q + 1) ++ rest) (act1 n ρ0) w) := by
 unfold runGd at h
 split at h
 · rename_i o tl d t x y ty pos af pg rest0 hdr
   replace h := bift h; obtain ⟨hpg, h⟩ := h
   have hpg := gEq_eq hpg
   split at h
   · rename_i gi c hg
     split at h
     · rename_i t' b ht' hb
       replace h := bif_and h; obtain ⟨e1, e2, h⟩ := h
       have e1 := Nat.eq_of_beq_eq_true e1
       subst e1
       have e2 : t ∉ dsts ((o :: tl).take q) := by simpa using e2
       have hvb : ev n ρ (.tmp t) = .bool b := by have := hr.toPur.ev n (.tmp t); rw [hb] at this; exact this
       have htk : (o :: tl).take (q + 1) = (o :: tl).take q ++ [⟨some d, .pick (.tmp t) x y, ty, pos, af, pg⟩] := by
         have h1 : (o :: tl) = (o :: tl).take q ++ (⟨some d, .pick (.tmp t) x y, ty, pos, af, pg⟩ :: rest0) := by rw [← hdr, List.take_append_drop]
         have hq : ((o :: tl).take q).length = q := by
           have : q < (o :: tl).length := by
             by_cases hlt : q < (o :: tl).length
             · exact hlt
             · rw [List.drop_eq_nil_of_le (by omega)] at hdr; cases hdr
           rw [List.length_take]; omega
         rw [List.take_add, hdr]; rfl
       have hds : dsts ((o :: tl).take (q + 1)) = dsts ((o :: tl).take q) ++ [d] := by rw [htk, dsts_app]; rfl
       have hres := hsp E fr m K w (gi, c) ((o :: tl).take q) [] 0 σ ρ _ r h hr
       rw [List.drop_zero] at hres
       obtain ⟨⟨σ1, ρ1, q1, q2, q3, q4, q5⟩, qs⟩ := hres
       refine ⟨?_, ?_⟩
       · have hW := hr.anys (W := dsts ((o :: tl).take q)) (ρ' := undefs (dsts ((o :: tl).take q)) ρ) (fun i hi => by simp [undefs, hi]) hr.mks
         simp only [] at q4
         split at q4
         · rename_i p0 p1 hp0 hp1
           have fin : ∀ (ρ2 : Sl1), MOk fr.k0 K ρ2.ds → (∀ i, i ∉ dsts ((o :: tl).take q) → ρ2 i = ρ i) → (b = true → ev n ρ2 x = .bool p0) → (b = false → ev n ρ2 y = .bool p1) → (∀ Q rest, wpLs P ops Q rest (act1 n ρ2) w → wpLs P ops Q ((o :: tl).take q ++ rest) (act1 n ρ) w) →
               ∃ σ' ρ', Rel E fr σ' m K ρ' w ∧ Same σ σ' ∧ (∀ i, i ∉ dsts ((o :: tl).take (q + 1)) → ρ' i = ρ i) ∧ k σ' = some r ∧ ((og = none ∨ ∃ g t, og = some g ∧ (ops[g.1]?).bind (·.dst) = some t ∧ t ∉ dsts ((o :: tl).take (q + 1)) ∧ ev n ρ (.tmp t) = .bool g.2) → ∀ (Q : Exit → Act → World → Prop) (rest : List Oper), wpLs P ops Q rest (act1 n ρ') w → wpLs P ops Q ((o :: tl).take (q + 1) ++ rest) (act1 n ρ) w) := fun ρ2 f0 f1 f2 f3 f4 => by
             have ht2 : ev n ρ2 (.tmp t) = .bool b := by rw [← hvb]; exact ev_eq (f1 t e2)
             have hrel := hr.anys f1 f0
             have hpick : Val P n (Hold E K (σ.atoms fr m)) ρ2 ⟨some d, .pick (.tmp t) x y, ty, pos, af, pg⟩ (.bool (cond b p0 p1)) := by
               cases b with
               | true => exact V.pickT ht2 rfl (f2 rfl)
               | false => exact V.pickF ht2 rfl (f3 rfl)
             refine ⟨_, upd1 ρ2 d (.bool (cond b p0 p1)), hrel.set (d := d) (sv := .bool (cond b p0 p1)) (v := .bool (cond b p0 p1)) rfl, ⟨rfl, rfl⟩, fun i hi => ?_, q4, fun hog Q rest hk => ?_⟩
             · rw [hds] at hi
               rw [upd_ne (fun e => hi (by rw [e]; simp)), f1 i (fun e => hi (List.mem_append_left _ e))]
             · rw [htk, List.append_assoc]
               refine f4 Q _ ?_
               show wpLs P ops Q (⟨some d, .pick (.tmp t) x y, ty, pos, af, pg⟩ :: rest) (act1 n ρ2) w
               unfold wpLs
               have hwant : Region.wanted ⟨some d, .pick (.tmp t) x y, ty, pos, af, pg⟩ (yielded ops (act1 n ρ2).tmps) = true := by
                 rcases hog with hog | ⟨g2, t2, hog, k1, k2, k3⟩
                 · rw [hpg, hog]; rfl
                 · obtain ⟨g2a, g2b⟩ := g2
                   rw [hpg, hog]
                   rw [hds] at k2
                   exact wanted_run (b := g2b) rfl k1 (by rw [← k3]; exact ev_eq (f1 t2 (fun e => k2 (List.mem_append_left _ e)))) rfl
               rw [if_pos hwant]
               unfold Oper.wp
               rw [eval_act1, hpick w hr.hold, Oper.upon_value, put_act1]
               exact hk
           by_cases hbc : b = c
           · subst hbc
             refine fin ρ1 q1.mks q3 (fun e => ?_) (fun e => ?_) (fun Q rest hk => q5 t ht' e2 hvb Q rest hk)
             · subst e; have := q1.toPur.ev n x; simp only [cond_true] at hp0; rw [hp0] at this; exact this
             · subst e; have := q1.toPur.ev n y; simp only [cond_false] at hp1; rw [hp1] at this; exact this
           · have hbc : b = !c := by cases b <;> cases c <;> first | rfl | exact absurd rfl hbc
             refine fin (undefs (dsts ((o :: tl).take q)) ρ) hr.mks (fun i hi => by simp [undefs, hi]) (fun e => ?_) (fun e => ?_) (fun Q rest hk => qs ρ t ht' e2 (.inl (by rw [hvb, hbc])) (fun s hs => by cases hs) Q rest hk)
             · have hc : c = false := by rw [e] at hbc; cases c <;> first | rfl | cases hbc
               subst hc; have := hW.toPur.ev n x; simp only [cond_false] at hp0; rw [hp0] at this; exact this
             · have hc : c = true := by rw [e] at hbc; cases c <;> first | rfl | cases hbc
               subst hc; have := hW.toPur.ev n y; simp only [cond_true] at hp1; rw [hp1] at this; exact this
         · cases q4
       · intro g hog ρ0 t2 k1 k2 k3 k4 Q rest hk
         have hu : ev n ρ0 (.tmp t) = undef := k4 o tl (gi, c) t rfl hg ht'
         rw [hds] at k2
         rw [htk, List.append_assoc]
         refine qs ρ0 t ht' e2 (.inr hu) (fun s hs => by cases hs) Q _ ?_
         show wpLs P ops Q (⟨some d, .pick (.tmp t) x y, ty, pos, af, pg⟩ :: rest) _ w
         rw [hpg, hog]
         have ht2 : t2 ∉ dsts ((o :: tl).take q) := fun e => k2 (List.mem_append_left _ e)
         refine skip1 (g := g) k1 ?_ ?_
         · rw [ev_eq (ρ := ρ0) (by simp [undefs, ht2])]; exact k3
         · have : upd1 (undefs (dsts ((o :: tl).take q)) ρ0) d undef = undefs (dsts ((o :: tl).take (q + 1))) ρ0 := by
             rw [hds, ← undefs_app]
             refine Sl1.ext' (fun i => ?_) rfl
             show upd1 (undefs (dsts ((o :: tl).take q)) ρ0) d undef i = if i ∈ [d] then undef else undefs (dsts ((o :: tl).take q)) ρ0 i
             by_cases hd : i = d
             · subst hd; simp [upd_same]
             · simp [hd, upd_ne hd]
           rw [this]; exact hk
     · cases h
   · cases h
 · cases h
theorem runSpL_ok {ops : Array Oper} {sp : (Nat × Bool) → List Oper → List Nat → Nat → Zt → (Zt → Option R) → Option R} (hsp : SpFor P n ops sp) {g : Nat × Bool} {r : R} : ∀ {l : List Oper} {seen : List Nat} {s : Nat} {σ : Zt} {ρ : Sl1} {k : Zt → Option R}, runSpL P n ops sp g l seen s σ k = some r → Rel E fr σ m K ρ w → SpRes P E n ops fr m K w g (l.drop s) seen σ ρ k r
 | [], seen, s, σ, ρ, k, h, hr => by
   rw [List.drop_nil]
   exact ⟨⟨σ, ρ, hr, Same.rfl', fun _ _ => rfl, (by unfold runSpL at h; exact h), fun _ _ _ _ _ _ h => h⟩, fun ρ0 t _ _ _ _ Q rest h => by rw [show dsts [] = [] from rfl, undefs_nil] at h; exact h⟩
 | _ :: l, seen, s + 1, σ, ρ, k, h, hr => by
   unfold runSpL at h
   rw [List.drop_succ_cons]
   exact runSpL_ok hsp h hr
 | ⟨dst, op, ty, pos, af, gd⟩ :: l, seen, 0, σ, ρ, k, h, hr => by
   rw [List.drop_zero]
   unfold runSpL at h
   split at h
   · rename_i d g' hd hg
     have hd : dst = some d := hd
     have hg : gd = some g' := hg
     subst hd hg
     have hds : dsts (⟨some d, op, ty, pos, af, some g'⟩ :: l) = d :: dsts l := rfl
     cases hgb : (Nat.beq g.1 g'.1 && (g.2 == g'.2)) with
     | true =>
       rw [hgb] at h; simp only [cond_true] at h
       have hgg : g' = g := by
         obtain ⟨a, b⟩ := g; obtain ⟨a', b'⟩ := g'
         simp only [Bool.and_eq_true] at hgb
         have h1 := Nat.eq_of_beq_eq_true hgb.1
         have h2 : b = b' := by simpa using hgb.2
         simp_all
       subst hgg
       obtain ⟨σ1, sv, v, z1, z2, z3, z4⟩ := vop_ok h hr.toPur hr.cls
       have hr1 := (z2.rel hr).set (d := d) z3
       have hres := runSpL_ok hsp z1 hr1
       rw [List.drop_zero] at hres
       obtain ⟨⟨σ', ρ', q1, q2, q3, q4, q5⟩, qs⟩ := hres
       refine ⟨⟨σ', ρ', q1, (z2.same.trans ⟨rfl, rfl⟩).trans q2, fun i hi => ?_, q4, fun t h1 h2 h3 Q rest h4 => ?_⟩, fun ρ0 t h1 h2 h3 h4 Q rest h5 => ?_⟩
       · rw [hds] at hi
         rw [q3 i (fun h => hi (List.mem_cons_of_mem _ h))]
         exact upd_ne (fun e => hi (by rw [e]; simp))
       · rw [hds] at h2
         have htd : t ≠ d := fun e => h2 (by rw [e]; simp)
         show wpLs P ops Q (_ :: (l ++ rest)) (act1 n ρ) w
         unfold wpLs
         obtain ⟨gi, c⟩ := g'
         have hwn : Region.wanted ⟨some d, op, ty, pos, af, some (gi, c)⟩ (yielded ops (act1 n ρ).tmps) = true := wanted_run (b := c) rfl h1 h3 rfl
         rw [if_pos hwn]
         unfold Oper.wp
         rw [eval_act1]
         have := z4 (some d) ty pos af (some (gi, c)) w hr.hold
         rw [this, Oper.upon_value, put_act1]
         refine q5 t h1 (fun h => h2 (List.mem_cons_of_mem _ h)) ?_ Q rest h4
         rw [← h3]
         exact ev_eq (upd_ne htd)
       · rw [hds] at h2 h5
         have htd : t ≠ d := fun e => h2 (by rw [e]; simp)
         refine skip1 h1 h3 ?_
         refine qs (upd1 ρ0 d undef) t h1 (fun h => h2 (List.mem_cons_of_mem _ h)) ?_ (fun s hs => ?_) Q rest (by rw [undefs_cons]; exact h5)
         · rw [ev_eq (ρ := ρ0) (upd_ne htd)]; exact h3
         · rcases List.mem_cons.1 hs with rfl | hs
           · rw [evs, upd_same]; cases Nat.blt s n <;> rfl
           · by_cases hsd : s = d
             · subst hsd; rw [evs, upd_same]; cases Nat.blt s n <;> rfl
             · rw [ev_eq (ρ := ρ0) (upd_ne hsd)]; exact h4 s hs
     | false =>
       rw [hgb] at h; simp only [cond_false] at h
       split at h
       · rename_i t' ht'
         replace h := bift h; obtain ⟨hseen, h⟩ := h
         have hseen : t' ∈ seen := by simpa using hseen
         split at h
         · rename_i q hq
           generalize hL : (⟨some d, op, ty, pos, af, some g'⟩ :: l : List Oper) = L at h
           have hLl : L.drop (q + 1) = l.drop q := by rw [← hL]; rfl
           obtain ⟨⟨σ1, ρ1, q1, q2, q3, q4, q5⟩, qs⟩ := runGd_ok hsp h hr
           have hres := runSpL_ok hsp q4 q1
           obtain ⟨⟨σ', ρ', a1, a2, a3, a4, a5⟩, qs2⟩ := hres
           have hsp2 : L = L.take (q + 1) ++ l.drop q := by rw [← hLl, List.take_append_drop]
           have hdd : dsts L = dsts (L.take (q + 1)) ++ dsts (l.drop q) := by rw [← dsts_app, ← hsp2]
           refine ⟨⟨σ', ρ', a1, q2.trans a2, fun i hi => ?_, a4, fun t h1 h2 h3 Q rest h4 => ?_⟩, fun ρ0 t h1 h2 h3 h4 Q rest h5 => ?_⟩
           · rw [hdd] at hi
             rw [a3 i (fun h => hi (List.mem_append_right _ h)), q3 i (fun h => hi (List.mem_append_left _ h))]
           · rw [hdd] at h2
             have k1 : t ∉ dsts (L.take (q + 1)) := fun h => h2 (List.mem_append_left _ h)
             rw [hsp2, List.append_assoc]
             refine q5 (.inr ⟨g, t, rfl, h1, k1, h3⟩) Q _ ?_
             exact a5 t h1 (fun h => h2 (List.mem_append_right _ h)) (by rw [← h3]; exact ev_eq (q3 t k1)) Q rest h4
           · rw [hdd] at h2 h5
             have k1 : t ∉ dsts (L.take (q + 1)) := fun h => h2 (List.mem_append_left _ h)
             rw [hsp2, List.append_assoc]
             refine qs g rfl ρ0 t h1 k1 h3 (fun o tl g2 t2 e1 e2 e3 => ?_) Q _ ?_
             · rw [← hL] at e1
               cases e1
               have e2 : g' = g2 := by simpa using e2
               rw [← e2, ht'] at e3
               cases e3
               exact h4 t' hseen
             · refine qs2 (undefs (dsts (L.take (q + 1))) ρ0) t h1 (fun h => h2 (List.mem_append_right _ h)) ?_ (fun s hs => ?_) Q rest (by rw [undefs_app]; exact h5)
               · rw [ev_eq (ρ := ρ0) (by simp [undefs, k1])]; exact h3
               · rcases List.mem_append.1 hs with hs | hs
                 · exact ev_undefs_mem hs
                 · exact ev_undefs (h4 s hs)
         · cases h
       · cases h
   · cases h
theorem runSp_ok {ops : Array Oper} : ∀ (d : Nat), SpFor (R := R) P n ops (runSp P n ops d)
 | 0 => fun E fr m K w g l seen s σ ρ k r h hr => runSpL_ok (fun _ _ _ _ _ _ _ _ _ _ _ _ _ h => by cases h) h hr
 | d + 1 => fun E fr m K w g l seen s σ ρ k r h hr => runSpL_ok (runSp_ok d) h hr
theorem runG_ok {ops : Array Oper} {Q : Exit → Act → World → Prop} {k : Zt → Option R} {r : R} {l : List Oper} {q : Nat} (h : runG P n ops l q σ k = some r) (hr : Rel E fr σ m K ρ w)
   (hQ : ∀ σ' ρ', Rel E fr σ' m K ρ' w → Same σ σ' → k σ' = some r → wpLs P ops Q (l.drop (q + 1)) (act1 n ρ') w) : wpLs P ops Q l (act1 n ρ) w := by
 unfold runG at h
 split at h
 · split at h
   · obtain ⟨⟨σ', ρ', q1, q2, q3, q4, q5⟩, _⟩ := runGd_ok (runSp_ok 6) h hr
     have := q5 (.inl rfl) Q (l.drop (q + 1)) (hQ σ' ρ' q1 q2 q4)
     rw [List.take_append_drop] at this
     exact this
   · rename_i g c heq
     split at h
     · rename_i t ht
       split at h
       · rename_i b hb
         replace h := bif_and h; obtain ⟨e1, e2, h⟩ := h
         have e1 : b = c := by simpa using e1
         have e2 : t ∉ dsts (l.take (q + 1)) := by simpa using e2
         have hvb : ev n ρ (.tmp t) = .bool b := by have := hr.toPur.ev n (.tmp t); rw [hb] at this; exact this
         obtain ⟨⟨σ', ρ', q1, q2, q3, q4, q5⟩, _⟩ := runGd_ok (runSp_ok 6) h hr
         have := q5 (.inr ⟨(g, c), t, rfl, ht, e2, by rw [hvb, e1]⟩) Q (l.drop (q + 1)) (hQ σ' ρ' q1 q2 q4)
         rw [List.take_append_drop] at this
         exact this
       · cases h
     · cases h
 · cases h
def SubFor (P : Program) (n : Nat) (ops : Array Oper) (sub : (R : Type) → List Oper → Hn P → Zt → (Hn P → Zt → Option R) → Option R) : Prop :=
 ∀ (R : Type) (E : En) (fr : Frz) (Q : Exit → Act → World → Prop) (k : Hn P → Zt → Option R) (r : R) (l : List Oper) (h : Hn P) (σ : Zt) (m : List M) (K : Hp) (ρ : Sl1) (w : World), sub R l h σ k = some r → Rel E fr σ m K ρ w →
   (∀ h' σ' m' K' ρ' w', Rel E fr σ' m' K' ρ' w' → Same σ σ' → k h' σ' = some r → Q .normal (act1 n ρ') w') → wpLs P ops Q l (act1 n ρ) w
theorem runLg_ok {ops : Array Oper} {sub : (R : Type) → List Oper → Hn P → Zt → (Hn P → Zt → Option R) → Option R} (hsub : SubFor P n ops sub) {Q : Exit → Act → World → Prop} {k : Hn P → Zt → Option R} {r : R} : ∀ (l : List Oper) (s : Nat) {h : Hn P} {σ : Zt} {m : List M} {K : Hp} {ρ : Sl1} {w : World}, runLg n ops sub l s h σ k = some r → Rel E fr σ m K ρ w →
   (∀ h' σ' m' K' ρ' w', Rel E fr σ' m' K' ρ' w' → Same σ σ' → k h' σ' = some r → Q .normal (act1 n ρ') w') → wpLs P ops Q (l.drop s) (act1 n ρ) w
 | [], s, h, σ, m, K, ρ, w, hh, hr, hQ => by
   unfold runLg at hh
   obtain ⟨h', σ', m', K', g1, g2, g3⟩ := prep_ok h hh hr
   rw [List.drop_nil]
   exact hQ h' σ' m' K' ρ w g3 g2 g1
 | o :: l, s + 1, h, σ, m, K, ρ, w, hh, hr, hQ => by
   unfold runLg at hh
   exact runLg_ok hsub l s hh hr hQ
 | ⟨dst, op, t, pos, af, g⟩ :: l, 0, h, σ, m, K, ρ, w, hh, hr, hQ => by
   unfold runLg at hh
   obtain ⟨h1, σ1, m1, K1, g1, g2, g3⟩ := prep_ok h hh hr
   rw [List.drop_zero]
   have plain : gate n ops σ1 ⟨dst, op, t, pos, af, g⟩ h1 (fun h σ => prep h σ fun h σ => op1 n ⟨dst, op, t, pos, af, g⟩ h σ fun h σ => runLg n ops sub l 0 h σ k) (fun h σ => runLg n ops sub l 0 h (putU dst σ) k) = some r → wpLs P ops Q (⟨dst, op, t, pos, af, g⟩ :: l) (act1 n ρ) w := fun g1 => by
     obtain ⟨h2, σ2, q1, q2, q3⟩ := gate_ok g1 g3
     unfold wpLs
     rcases q3 with ⟨hw, hrun⟩ | ⟨hw, hskip⟩
     · rw [if_pos hw]
       obtain ⟨h2, σ2', m2, K2, y1, y2, q2⟩ := prep_ok h2 hrun q2
       replace q1 := q1.trans y2
       have hrun' : op1 n ⟨dst, op, t, pos, af, none⟩ h2 σ2' (fun h σ => runLg n ops sub l 0 h σ k) = some r := y1
       have := op1_ok hrun' q2 (wpLs P ops Q l) Q (fun h' σ' m' K' ρ' w' a1 a2 a3 => runLg_ok hsub l 0 a3 a1 (fun h'' σ'' m'' K'' ρ'' w'' b1 b2 b3 => hQ h'' σ'' m'' K'' ρ'' w'' b1 (((g2.trans q1).trans a2).trans b2) b3))
       exact this
     · rw [if_neg (by rw [hw]; simp)]
       cases dst with
       | none => exact runLg_ok hsub l 0 hskip q2 (fun h'' σ'' m'' K'' ρ'' w'' b1 b2 b3 => hQ h'' σ'' m'' K'' ρ'' w'' b1 ((g2.trans q1).trans b2) b3)
       | some d =>
         show wpLs P ops Q l ((act1 n ρ).put (some d) undef) w
         rw [put_act1]
         exact runLg_ok hsub l 0 hskip (q2.set (d := d) (sv := .raw undef) (v := undef) rfl) (fun h'' σ'' m'' K'' ρ'' w'' b1 b2 b3 => hQ h'' σ'' m'' K'' ρ'' w'' b1 (((g2.trans q1).trans ⟨rfl, rfl⟩).trans b2) b3)
   generalize (bif fires ops h1 (⟨dst, op, t, pos, af, g⟩ :: l) then h1 else .nil) = h0 at g1
   cases h0 with
   | gp q h2 =>
     refine runG_ok g1 g3 (fun σ2 ρ2 z1 z2 z3 => ?_)
     exact runLg_ok hsub l q z3 z1 (fun h'' σ'' m'' K'' ρ'' w'' b1 b2 b3 => hQ h'' σ'' m'' K'' ρ'' w'' b1 ((g2.trans z2).trans b2) b3)
   | gj q s ac ha hb =>
     have g1 : (sub _ ((⟨dst, op, t, pos, af, g⟩ :: l : List Oper).take (q + 1)) ha (σ1.frz ac) (fun h σ' => σ'.pack s (dsts ((⟨dst, op, t, pos, af, g⟩ :: l : List Oper).take (q + 1))))).bind (fun x => σ1.lay s (dsts ((⟨dst, op, t, pos, af, g⟩ :: l : List Oper).take (q + 1))) (minus σ1.H ac) x fun σ => runLg n ops sub l q hb σ k) = some r := g1
     obtain ⟨x, hx, g1⟩ := ob g1
     have hsp : wpLs P ops Q ((⟨dst, op, t, pos, af, g⟩ :: l : List Oper).take (q + 1) ++ l.drop q) (act1 n ρ) w := by
       refine wpLs_app (hsub _ _ _ _ _ _ _ _ _ _ _ _ _ hx (g3.frz ac) (fun h' σ' m' K' ρ' w' a1 a2 a3 => ?_))
       have hi : Inn σ1 fr ⟨m1, K1, ρ, fun _ => false, fr.F, fr.k0⟩ m1 K1 ρ (minus σ1.H ac) σ' (dsts ((⟨dst, op, t, pos, af, g⟩ :: l : List Oper).take (q + 1))) := ⟨rfl, rfl, rfl, rfl, rfl, a2.2, minus_sub, fun _ _ => rfl⟩
       obtain ⟨σ3, m3, q1, q2, q3⟩ := lay_ok g3 hi a1 a3 g1
       exact runLg_ok hsub l q q1 q3 (fun h'' σ'' m'' K'' ρ'' w'' b1 b2 b3 => hQ h'' σ'' m'' K'' ρ'' w'' b1 ((g2.trans q2).trans b2) b3)
     have : (⟨dst, op, t, pos, af, g⟩ :: l : List Oper).take (q + 1) ++ l.drop q = ⟨dst, op, t, pos, af, g⟩ :: l := by
       rw [List.take_succ_cons, List.cons_append, List.take_append_drop]
     rw [this] at hsp
     exact hsp
   | nil => exact plain g1
   | two d a b => exact plain g1
   | tw d a b => exact plain g1
   | sq mk s c a b => exact plain g1
   | sx mk s c a b => exact plain g1
   | pl q => exact plain g1
   | jn mk s c a b => exact plain g1
   | jx mk s c a b => exact plain g1
   | lp s a => exact plain g1
   | un c q => exact plain g1
   | per c d q => exact plain g1
   | perb c d tp q => exact plain g1
   | mc c d e q => exact plain g1
   | ms d q => exact plain g1
   | wt d q => exact plain g1
   | cl q l c => exact plain g1
   | c2 q l a b => exact plain g1
   | mix p f l c q => exact plain g1
   | opn c d q => exact plain g1
   | opb c d q => exact plain g1
   | cls c d q => exact plain g1
   | opp s i d q => exact plain g1
   | ot o q => exact plain g1
   | cm q l c a => exact plain g1
   | cm2 q l c a b => exact plain g1
   | tr t s c a b => exact plain g1
   | tru q => exact plain g1
   | yl q r => exact plain g1
   | rg q r => exact plain g1
   | il q r => exact plain g1
theorem runLd_ok {ops : Array Oper} : ∀ (d : Nat), SubFor P n ops (runLd n ops d)
 | 0 => fun R E fr Q k r l h σ m K ρ w hh hr hQ => runP_ok l hh hr hQ
 | d + 1 => fun R E fr Q k r l h σ m K ρ w hh hr hQ => by
   have := runLg_ok (runLd_ok d) l 0 (Q := Q) hh hr hQ
   rw [List.drop_zero] at this
   exact this
theorem runL_ok {ops : Array Oper} {Q : Exit → Act → World → Prop} {k : Hn P → Zt → Option R} {r : R} (l : List Oper) (s : Nat) {h : Hn P} {σ : Zt} {m : List M} {K : Hp} {ρ : Sl1} {w : World} (hh : runL n ops l s h σ k = some r) (hr : Rel E fr σ m K ρ w)
   (hQ : ∀ h' σ' m' K' ρ' w', Rel E fr σ' m' K' ρ' w' → Same σ σ' → k h' σ' = some r → Q .normal (act1 n ρ') w') : wpLs P ops Q (l.drop s) (act1 n ρ) w := runLg_ok (runLd_ok 4) l s hh hr hQ
def Cfz (E : En) (fr : Frz) (Hf : List HA) : World → Prop := Hold E fr.K (Hf.map (HA.conc fr.m))
theorem Rel.cfz (hr : Rel E fr σ m K ρ w) : Cfz E fr σ.Hf w := by
 refine ⟨K, σ.H.map (HA.conc m) ++ fr.F, hr.hK, ?_⟩
 have := hr.toSep
 unfold Zt.fz at this
 exact Sep.perm (perm3 _ _ _) this
theorem Rel.clsQ (hr : Rel E fr σ m K ρ w) : Cls E (Cfz E fr σ.Hf) σ.kq σ.Hf m K where
 rd := fun a ha => ⟨HA.ok_mono hr.toPur.mono hr.hK (hr.okF a ha), fun w' ⟨K', L', h1, h2⟩ => by
   have hmem : HA.conc m a ∈ σ.Hf.map (HA.conc fr.m) := by
     rw [HA.conc_mono hr.toPur.mono (hr.okF a ha)]
     exact List.mem_map_of_mem ha
   obtain ⟨i, hi, he⟩ := List.getElem_of_mem hmem
   have hg : (σ.Hf.map (HA.conc fr.m) ++ L')[i]? = some (HA.conc m a) := by
     rw [List.getElem?_append_left hi, List.getElem?_eq_getElem hi, he]
   exact ⟨K', _, h2.front i hg⟩⟩
 kn := fun hk b o v hv => by
   have := hr.kq hk
   subst this
   exact Rd.k hv (Hp.le_refl _)
theorem runQ_ok {l : List Oper} {k : Hn P → Zt → Option R} {r : R} {X : Act → Prop} : ∀ (is : List Nat) {h : Hn P} {σ : Zt} {ρ : Sl1} {C : World → Prop}, runQ n l is h σ k = some r → Rel E fr σ m K ρ w → C = Cfz E fr σ.Hf →
   (∀ h' σ' ρ', Rel E fr σ' m K ρ' w → Same σ σ' → k h' σ' = some r → X (act1 n ρ')) → wpQuiet P l.toArray C X (picks l is) (act1 n ρ)
 | [], h, σ, ρ, C, hh, hr, hC, hX => hX h σ ρ hr Same.rfl' hh
 | i :: is, h, σ, ρ, C, hh, hr, hC, hX => by
   unfold runQ at hh
   split at hh
   · rename_i o ho
     rw [picks_cons ho]
     obtain ⟨dst, op, t, pos, af, g⟩ := o
     obtain ⟨h2, σ2, q1, q2, q3⟩ := gate_ok hh hr
     unfold wpQuiet
     rcases q3 with ⟨hw, hrun⟩ | ⟨hw, hskip⟩
     · rw [if_pos hw]
       dsimp only at hrun
       split at hrun
       · rename_i d
         obtain ⟨σ', sv, v, z1, z2, z3, z4⟩ := vop_ok hrun q2.toPur q2.clsQ
         refine ⟨v, fun w' hw' => ?_, ?_⟩
         · unfold Oper.quietAt
           rw [eval_act1]
           rw [hC, ← q1.2] at hw'
           have := z4 (some d) t pos af g w' hw'
           rw [this]
           exact ⟨rfl, rfl⟩
         · show wpQuiet P l.toArray C X (picks l is) ((act1 n ρ).put (some d) v)
           rw [put_act1]
           have hrel := (z2.rel q2).set (d := d) z3
           exact runQ_ok is z1 hrel (by rw [hC]; show Cfz E fr σ.Hf = Cfz E fr σ'.Hf; rw [z2.same.2, q1.2]) (fun h' σ'' ρ' p1 p2 p3 => hX h' σ'' ρ' p1 ((q1.trans z2.same).trans (Same.trans ⟨rfl, rfl⟩ p2)) p3)
       · cases hrun
     · rw [if_neg (by rw [hw]; simp)]
       cases dst with
       | none => exact runQ_ok is hskip q2 (by rw [hC]; show Cfz E fr σ.Hf = Cfz E fr σ2.Hf; rw [q1.2]) (fun h' σ'' ρ' p1 p2 p3 => hX h' σ'' ρ' p1 (q1.trans p2) p3)
       | some d =>
         show wpQuiet P l.toArray C X (picks l is) ((act1 n ρ).put (some d) undef)
         rw [put_act1]
         exact runQ_ok is hskip (q2.set (d := d) (sv := .raw undef) (v := undef) rfl) (by rw [hC]; show Cfz E fr σ.Hf = Cfz E fr σ2.Hf; rw [q1.2]) (fun h' σ'' ρ' p1 p2 p3 => hX h' σ'' ρ' p1 ((q1.trans ⟨rfl, rfl⟩).trans p2) p3)
   · cases hh
theorem quiet_const {l : Array Oper} {C : World → Prop} {p : Prop} : ∀ {os : List Oper} {a : Act}, wpQuiet P l C (fun _ => p) os a → p
 | [], a, h => h
 | o :: os, a, h => by
   unfold wpQuiet at h
   split at h
   · obtain ⟨v, _, h⟩ := h; exact quiet_const h
   · exact quiet_const h
theorem preO_ok {l : List Oper} {k : Hn P → Zt → Option R} {r : R} : ∀ (h : Hn P) {σ : Zt} {m : List M}, preO n l h σ k = some r → Rel E fr σ m K ρ w → ∃ h' σ' m', k h' σ' = some r ∧ Same σ σ' ∧ Rel E fr σ' m' K ρ w
 | .opp s i d q, σ, m, h, hr => by
   unfold preO at h
   have := quiet_const (runQ_ok (E := E) (fr := ⟨m, K, ρ, fun _ => false, fr.F, fr.k0⟩) (m := m) (K := K) (w := w) (X := fun _ => ∃ σ1 : Zt, (match σ1.intAt d with | some j => σ.opn i j fun σ => preO n l q σ k | none => none) = some r) s h (hr.frz []) rfl (fun _ σ1 _ _ _ h => ⟨σ1, h⟩))
   obtain ⟨σ1, h⟩ := this
   split at h
   · obtain ⟨σ2, m2, k1, k2, k3⟩ := opn_ok h hr
     obtain ⟨h', σ', m', g1, g2, g3⟩ := preO_ok q k1 k3
     exact ⟨h', σ', m', g1, k2.trans g2, g3⟩
   · cases h
 | .nil, σ, m, h, hr => ⟨_, σ, m, h, Same.rfl', hr⟩
 | .two d a b, σ, m, h, hr => ⟨_, σ, m, h, Same.rfl', hr⟩
 | .tw d a b, σ, m, h, hr => ⟨_, σ, m, h, Same.rfl', hr⟩
 | .sq mk s c a b, σ, m, h, hr => ⟨_, σ, m, h, Same.rfl', hr⟩
 | .sx mk s c a b, σ, m, h, hr => ⟨_, σ, m, h, Same.rfl', hr⟩
 | .pl q, σ, m, h, hr => ⟨_, σ, m, h, Same.rfl', hr⟩
 | .jn mk s c a b, σ, m, h, hr => ⟨_, σ, m, h, Same.rfl', hr⟩
 | .jx mk s c a b, σ, m, h, hr => ⟨_, σ, m, h, Same.rfl', hr⟩
 | .lp s a, σ, m, h, hr => ⟨_, σ, m, h, Same.rfl', hr⟩
 | .un c q, σ, m, h, hr => ⟨_, σ, m, h, Same.rfl', hr⟩
 | .per i c q, σ, m, h, hr => ⟨_, σ, m, h, Same.rfl', hr⟩
 | .perb i c tt q, σ, m, h, hr => ⟨_, σ, m, h, Same.rfl', hr⟩
 | .mc i c cn q, σ, m, h, hr => ⟨_, σ, m, h, Same.rfl', hr⟩
 | .ms d q, σ, m, h, hr => ⟨_, σ, m, h, Same.rfl', hr⟩
 | .wt d q, σ, m, h, hr => ⟨_, σ, m, h, Same.rfl', hr⟩
 | .cl q l c, σ, m, h, hr => ⟨_, σ, m, h, Same.rfl', hr⟩
 | .c2 q l a b, σ, m, h, hr => ⟨_, σ, m, h, Same.rfl', hr⟩
 | .gp c q, σ, m, h, hr => ⟨_, σ, m, h, Same.rfl', hr⟩
 | .gj c s l a b, σ, m, h, hr => ⟨_, σ, m, h, Same.rfl', hr⟩
 | .mix p f l c q, σ, m, h, hr => ⟨_, σ, m, h, Same.rfl', hr⟩
 | .opn i d q, σ, m, h, hr => ⟨_, σ, m, h, Same.rfl', hr⟩
 | .opb i c q, σ, m, h, hr => ⟨_, σ, m, h, Same.rfl', hr⟩
 | .cls i c q, σ, m, h, hr => ⟨_, σ, m, h, Same.rfl', hr⟩
 | .ot o q, σ, m, h, hr => ⟨_, σ, m, h, Same.rfl', hr⟩
 | .cm q l c a, σ, m, h, hr => ⟨_, σ, m, h, Same.rfl', hr⟩
 | .cm2 q l c a b, σ, m, h, hr => ⟨_, σ, m, h, Same.rfl', hr⟩
 | .tr t s c a b, σ, m, h, hr => ⟨_, σ, m, h, Same.rfl', hr⟩
 | .tru q, σ, m, h, hr => ⟨_, σ, m, h, Same.rfl', hr⟩
 | .yl q r, σ, m, h, hr => ⟨_, σ, m, h, Same.rfl', hr⟩
 | .rg q r, σ, m, h, hr => ⟨_, σ, m, h, Same.rfl', hr⟩
 | .il q r, σ, m, h, hr => ⟨_, σ, m, h, Same.rfl', hr⟩
theorem runM_ok {l : List Oper} {fin tail : List Nat} {k : Hn P → Zt → Option R} {r : R} {Q : Exit → Act → World → Prop} : ∀ (plan : List (List Nat × Nat)) {h : Hn P} {σ : Zt} {m : List M} {K : Hp} {ρ : Sl1} {w : World} {C : World → Prop}, runM n l fin plan h σ k = some r → Rel E fr σ m K ρ w → C = Cfz E fr σ.Hf → (∀ s i, (s, i) ∈ plan → i < l.length) →
   (∀ h' σ' m' K' ρ' w', Rel E fr σ' m' K' ρ' w' → Same σ σ' → k h' σ' = some r → wpLs P l.toArray Q (picks l tail) (act1 n ρ') w') →
   wpMix P l.toArray C (fun a' w' => wpQuiet P l.toArray C (fun a' => wpLs P l.toArray Q (picks l tail) a' w') (picks l fin) a') (segs l plan) (act1 n ρ) w
 | [], h, σ, m, K, ρ, w, C, hh, hr, hC, hp, hQ => by
   refine wpMix_nil (runQ_ok fin hh hr hC (fun h' σ' ρ' p1 p2 p3 => ?_))
   exact hQ h' σ' m K ρ' w p1 p2 p3
 | (s, i) :: plan, h, σ, m, K, ρ, w, C, hh, hr, hC, hp, hQ => by
   have hlt := hp s i (by simp)
   have ho : l[i]? = some l[i] := List.getElem?_eq_getElem hlt
   rw [segs_cons ho]
   unfold runM at hh
   refine wpMix_cons (runQ_ok s hh hr hC (fun h1 σ1 ρ1 p1 p2 p3 => ?_))
   obtain ⟨h2, σ2, m2, K2, g1, g2, g3⟩ := prep_ok h1 p3 p1
   rw [ho] at g1
   dsimp only at g1
   generalize l[i] = o at g1
   obtain ⟨dst, op, t, pos, af, g⟩ := o
   obtain ⟨h3, σ3, q1, q2, q3⟩ := gate_ok g1 g3
   have hs3 := (p2.trans g2).trans q1
   unfold aloneOp
   rcases q3 with ⟨hw, hrun⟩ | ⟨hw, hskip⟩
   · rw [if_pos hw]
     obtain ⟨h3, σ3', m3, K3, y1, y2, q2⟩ := prep_ok h3 hrun q2
     replace hs3 := hs3.trans y2
     have hrun' : op1 n ⟨dst, op, t, pos, af, none⟩ h3 σ3' (fun h σ => runM n l fin plan h σ k) = some r := y1
     show Oper.wp P (⟨dst, op, t, pos, af, none⟩ : Oper) (act1 n ρ1) w (fun a' w' => C w' ∧ wpMix P l.toArray C _ (segs l plan) a' w') noExit
     refine op1_ok hrun' q2 _ _ (fun h' σ' m' K' ρ' w' a1 a2 a3 => ?_)
     · have hs' := hs3.trans a2
       refine ⟨?_, runM_ok plan a3 a1 (by rw [hC, hs'.2]) (fun s i hi => hp s i (List.mem_cons_of_mem _ hi)) (fun h'' σ'' m'' K'' ρ'' w'' b1 b2 b3 => hQ h'' σ'' m'' K'' ρ'' w'' b1 (hs'.trans b2) b3)⟩
       rw [hC, ← hs'.2]; exact a1.cfz
   · rw [if_neg (by rw [hw]; simp)]
     cases dst with
     | none => exact runM_ok plan hskip q2 (by rw [hC]; show Cfz E fr σ.Hf = Cfz E fr σ3.Hf; rw [hs3.2]) (fun s i hi => hp s i (List.mem_cons_of_mem _ hi)) (fun h'' σ'' m'' K'' ρ'' w'' b1 b2 b3 => hQ h'' σ'' m'' K'' ρ'' w'' b1 (hs3.trans b2) b3)
     | some d =>
       show wpMix P l.toArray C _ (segs l plan) ((act1 n ρ1).put (some d) undef) w
       rw [put_act1]
       exact runM_ok plan hskip (q2.set (d := d) (sv := .raw undef) (v := undef) rfl) (by rw [hC]; show Cfz E fr σ.Hf = Cfz E fr σ3.Hf; rw [hs3.2]) (fun s i hi => hp s i (List.mem_cons_of_mem _ hi)) (fun h'' σ'' m'' K'' ρ'' w'' b1 b2 b3 => hQ h'' σ'' m'' K'' ρ'' w'' b1 ((hs3.trans ⟨rfl, rfl⟩).trans b2) b3)
theorem mixPlan_lt {ops : Array Oper} {tail : List Nat} : ∀ (plan : List (List Nat × Nat)) (a b : Array Bool), mixPlan .any ops tail plan a = some b → ∀ s i, (s, i) ∈ plan → i < ops.size
 | [], a, b, _, s, i, h => by simp at h
 | (s0, k0) :: plan, a, b, h, s, i, hi => by
   simp only [mixPlan] at h
   split at h
   case h_2 => cases h
   case h_1 l' hl' =>
     split at h
     case isFalse => cases h
     case isTrue hb =>
       simp only [Bool.and_eq_true, beq_iff_eq] at hb
       rcases List.mem_cons.1 hi with e | hi
       · cases e
         have : k0 ∈ Region.ready .any ops l' := by rw [hb.1]; simp
         obtain ⟨_, o, ho, _⟩ := mem_ready.1 this
         exact (Array.getElem?_eq_some_iff.1 ho).1
       · exact mixPlan_lt plan _ _ h s i hi
theorem agr_some {α β : Type} {x y : α} {k : Option β} {r : β} (h : agr x y k = some r) : x = y ∧ k = some r := by
 unfold agr at h
 by_cases e : x = y
 · rw [if_pos e] at h; exact ⟨e, h⟩
 · rw [if_neg e] at h; cases h
theorem runAl_ok {l : List Oper} {i : Nat} {k : Hn P → Zt → Option R} {r : R} {X : Act → World → Prop} {C : World → Prop} {h : Hn P} {o : Oper} (ho : l[i]? = some o) (hh : runAl n l i h σ k = some r) (hr : Rel E fr σ m K ρ w) (hC : C = Cfz E fr σ.Hf)
   (hX : ∀ h' σ' m' K' ρ' w', Rel E fr σ' m' K' ρ' w' → Same σ σ' → k h' σ' = some r → X (act1 n ρ') w') : aloneOp P l.toArray C o X (act1 n ρ) w := by
 unfold runAl at hh
 obtain ⟨h2, σ2, m2, K2, g1, g2, g3⟩ := prep_ok h hh hr
 rw [ho] at g1
 dsimp only at g1
 obtain ⟨dst, op, t, pos, af, g⟩ := o
 obtain ⟨h3, σ3, q1, q2, q3⟩ := gate_ok g1 g3
 have hs3 := g2.trans q1
 unfold aloneOp
 rcases q3 with ⟨hw, hrun⟩ | ⟨hw, hskip⟩
 · rw [if_pos hw]
   obtain ⟨h3, σ3', m3, K3, y1, y2, q2⟩ := prep_ok h3 hrun q2
   replace hs3 := hs3.trans y2
   have hrun' : op1 n ⟨dst, op, t, pos, af, none⟩ h3 σ3' k = some r := y1
   show Oper.wp P (⟨dst, op, t, pos, af, none⟩ : Oper) (act1 n ρ) w (fun a' w' => C w' ∧ X a' w') noExit
   refine op1_ok hrun' q2 _ _ (fun h' σ' m' K' ρ' w' a1 a2 a3 => ?_)
   have hs' := hs3.trans a2
   refine ⟨?_, hX h' σ' m' K' ρ' w' a1 hs' a3⟩
   rw [hC, ← hs'.2]; exact a1.cfz
 · rw [if_neg (by rw [hw]; simp)]
   cases dst with
   | none => exact hX h3 σ3 m2 K2 ρ w q2 hs3 hskip
   | some d =>
     show X ((act1 n ρ).put (some d) undef) w
     rw [put_act1]
     exact hX h3 _ m2 K2 _ w (q2.set (d := d) (sv := .raw undef) (v := undef) rfl) (hs3.trans ⟨rfl, rfl⟩) hskip
theorem runT_ok {l : List Oper} {k : Hn P → Zt → Option R} {r : R} {F : Act → World → Prop} : ∀ (t : MT) {h : Hn P} {σ : Zt} {m : List M} {K : Hp} {ρ : Sl1} {w : World} {C : World → Prop}, runT n l t h σ k = some r → Rel E fr σ m K ρ w → C = Cfz E fr σ.Hf →
   (∀ h' σ' m' K' ρ' w', Rel E fr σ' m' K' ρ' w' → Same σ σ' → k h' σ' = some r → F (act1 n ρ') w') → wpT P C F l t (act1 n ρ) w
 | .leaf fin, h, σ, m, K, ρ, w, C, hh, hr, hC, hF => by
   exact runQ_ok fin hh hr hC (fun h' σ' ρ' p1 p2 p3 => hF h' σ' m K ρ' w p1 p2 p3)
 | .still s t, h, σ, m, K, ρ, w, C, hh, hr, hC, hF => by
   unfold runT at hh
   exact runQ_ok s hh hr hC (fun h' σ' ρ' p1 p2 p3 => runT_ok t p3 p1 (by rw [hC, p2.2]) (fun h'' σ'' m'' K'' ρ'' w'' b1 b2 b3 => hF h'' σ'' m'' K'' ρ'' w'' b1 (p2.trans b2) b3))
 | .alt i t q, h, σ, m, K, ρ, w, C, hh, hr, hC, hF => by
   unfold runT at hh
   have one : ∀ {h : Hn P}, runAl n l i h σ (fun h σ => runT n l t h σ k) = some r → ∀ o, l[i]? = some o → aloneOp P l.toArray C o (wpT P C F l t) (act1 n ρ) w := fun hh o ho =>
     runAl_ok ho hh hr hC (fun h' σ' m' K' ρ' w' a1 a2 a3 => runT_ok t a3 a1 (by rw [hC, a2.2]) (fun h'' σ'' m'' K'' ρ'' w'' b1 b2 b3 => hF h'' σ'' m'' K'' ρ'' w'' b1 (a2.trans b2) b3))
   cases hq : q.over with
   | true =>
     rw [hq] at hh
     refine ⟨one hh, ?_⟩
     cases q with
     | done => trivial
     | leaf _ => cases hq
     | still _ _ => cases hq
     | alt _ _ _ => cases hq
   | false =>
     rw [hq] at hh
     simp only [cond_false] at hh
     split at hh
     · rename_i d a b
       obtain ⟨x, hx, hh⟩ := ob hh
       obtain ⟨y, hy, hh⟩ := ob hh
       have h2 := agr_some hh
       have h3 : x = y := h2.1
       have h4 : x = r := Option.some.inj h2.2
       clear hh h2
       subst h3
       subst h4
       exact ⟨one hx, runT_ok q hy hr hC hF⟩
     · cases hh
 | .done, h, σ, m, K, ρ, w, C, hh, hr, hC, hF => trivial
theorem Rel.drew (hr : Rel E fr σ m K ρ w) : Rel E fr σ m K ρ w.drew := ⟨hr.toPur, hr.sep.drew⟩
end
end
section
variable [BldA]
def Hp.del (K : Hp) (D : Nat) : Hp := fun n => if n = D then none else K n
theorem Hp.cle_del {K : Hp} {D : Nat} {x : Option (List Deferred)} (h : K D = some (.deferred x)) : K.cle (K.del D) := fun g o v e => by
 unfold cellK Hp.del at *
 by_cases hg : g = D
 · subst hg; rw [h] at e; cases e
 · rw [if_neg hg]; exact e
section
variable {P : Program} {E : En} {n : Nat} {m : List M} {K : Hp} {fr : Frz} {σ : Zt} {ρ : Sl1} {w : World}
theorem Rel.unmark (hr : Rel E fr σ m K ρ w) {K2 : Hp} {w2 : World} (hc : K.cle K2) (hk : fr.K.le K2) (h0 : fr.k0.le K2) (hs : Sep E K2 (σ.atoms fr m) w2) : Rel E fr ⟨σ.base, σ.top, σ.H, σ.Hf, σ.nx, false⟩ m K2 ⟨ρ.f, []⟩ w2 where
 hm := hr.hm
 hK := hk
 nx := hr.nx
 kq := fun e => (by cases e)
 base := hr.base
 dead := hr.dead
 old := hr.old
 top := fun i sv hi => SV.monoC (fun _ _ h => h) hc sv (hr.top i sv hi)
 okH := fun a ha => HA.ok_monoC (fun _ _ h => h) hc (hr.okH a ha)
 okF := hr.okF
 mks := MOk.nil hr.mks.1.1 h0
 sep := hs
theorem marks_leave {fn : Func} {tmps : Array Value} {R : Ending → World → Prop} {L : List Atom} {k0 : Hp} : ∀ (ds : List Deferred) {K : Hp} {w : World}, MOk k0 K ds → Sep E K L w →
   (∀ K2 w2, K.cle K2 → k0.le K2 → Sep E K2 L w2 → ∃ v, (results fn tmps).run P w2 = .ok v w2 ∧ R (.returned v) w2) → LeavesInM Fence.wide 0 P fn tmps R ds .returning w
 | [], K, w, hm, hs, h => h K w (Hp.cle_refl K) hm.1.2 hs
 | d :: ds, K, w, hm, hs, h => by
   obtain ⟨D, rfl, hD, h0⟩ := hm.2.1 d (by simp)
   have hw : w.heap[D]? = some (.deferred (some [])) := hs.sub D _ hD
   have hnd := List.nodup_cons.1 hm.2.2
   refine ⟨by simp, .inl ⟨D, w.putObj D (.deferred none), rfl, run_takeDeferred hw, ?_⟩⟩
   have other : ∀ (k : Nat) (o : Obj), k ≠ D → w.heap[k]? = some o → (w.putObj D (.deferred none)).heap[k]? = some o := fun k o hne e => by rw [World.putObj_heap_other hne]; exact e
   have hs1 : Sep E (K.del D) L (w.putObj D (.deferred none)) := by
     refine Sep.move (w := w) (w' := w.putObj D (.deferred none)) (fun e => e) hs (fun k o e => ?_) (fun k o e e1 => ?_)
     · unfold Hp.del at e
       split at e
       · cases e
       · rename_i hne; exact other k o hne (hs.sub k o e)
     · have hne : k ≠ D := fun e2 => by rw [e2, hD] at e1; cases e1
       exact ⟨by unfold Hp.del; rw [if_neg hne]; exact e1, other k o hne e⟩
   refine marks_leave ds ⟨⟨hm.1.1, fun k o e => ?_⟩, fun d' hd' => ?_, hnd.2⟩ hs1 (fun K2 w2 c1 c2 c3 => h K2 w2 ((Hp.cle_del hD).trans c1) c2 c3)
   · unfold Hp.del
     rw [if_neg (fun e2 => by rw [e2, h0] at e; cases e)]
     exact hm.1.2 k o e
   · obtain ⟨D', rfl, h1, h2⟩ := hm.2.1 d' (List.mem_cons_of_mem _ hd')
     refine ⟨D', rfl, ?_, h2⟩
     unfold Hp.del
     rw [if_neg (fun e => hnd.1 (by rw [← e]; exact hd'))]
     exact h1
end
section
variable {P : Program} {E : En} {K : Hp} {L : List Atom} {w : World}
theorem LpA.at {l : Nat} {r : Loop} (h : Sep E K (LpA l r :: L) w) : w.heap[l]? = some (.loop r) := by
 obtain ⟨h1, rfl, hd, hs⟩ := h
 exact hs.sub l _ (Hp.join_right (one_of l _) (hd l _ (one_of l _)))
theorem LpA.put {l : Nat} {r r' : Loop} (h : Sep E K (LpA l r :: L) w) : Sep E K (LpA l r' :: L) (w.putObj l (.loop r')) := by
 have hw := LpA.at h
 have hlt := (Array.getElem?_eq_some_iff.1 hw).1
 refine Sep.turn h (fun e => e) (fun h1 hA hle => ?_)
 obtain rfl := hA
 refine ⟨one l (.loop r'), rfl, fun n o e => ?_, fun n o e e1 => ?_⟩
 · obtain ⟨rfl, rfl⟩ := one_some e
   exact ⟨World.putObj_heap_same hlt, fun e2 => by rw [one_of] at e2; cases e2⟩
 · have hne : n ≠ l := fun e2 => by subst e2; rw [one_of] at e1; cases e1
   rw [World.putObj_heap_other hne]; exact e
theorem enter_inner {l₀ : Nat} {r₀ : Loop} (h : w.heap[l₀]? = some (.loop r₀)) (fn : FuncId) (tmps : Array Value) (ps : Array Tmp) (assign body : Code) :
   (Instr.enterLoop fn tmps ps assign body (some l₀)).run P w =
     .ok (w.heap.size, []) (w.alloc (.loop { state := .ready, pending := none, fn, tmps, params := ps, assign, body, defers := r₀.defers })) := by
 unfold Instr.enterLoop
 simp only [Sem.run_bind, run_getLoop h, run_newObj_alloc, Result.andThen, Sem.run_pure]
theorem Sep.allocO (h : Sep E K L w) (o : Obj) : Sep E K ((fun hh => hh = one w.heap.size o) :: L) (w.alloc o) :=
 Sep.turn h.emp (fun e => e) (fun h0 ha _ => by
   unfold _root_.Go.Proofs.YtmlbbjkojaljnaaDoor.emp at ha; subst ha
   refine ⟨one w.heap.size o, rfl, fun n x e => ?_, fun n x e _ => ?_⟩
   · obtain ⟨rfl, rfl⟩ := one_some e
     exact ⟨World.alloc_heap_new w _, fun _ => Array.getElem?_eq_none (Nat.le_refl _)⟩
   · rw [Below.heap_alloc _ _ _ (lt_of_block e)]; exact e)
theorem Sep.known {o : Obj} {b : Nat} (h : Sep E K ((fun hh => hh = one b o) :: L) w) : Sep E (K.join (one b o)) L w ∧ K b = none := by
 obtain ⟨h1, rfl, hd, hs⟩ := h
 exact ⟨hs, hd b _ (one_of b o)⟩
end
def busyR (r : Loop) : Loop := { r with state := .busy, pending := none }
def RdOk (E : En) (fr : Frz) : Prop := ∀ l, E.rd = some l → ∃ r, LpA l r ∈ fr.F
section
variable {R : Type} {P : Program} {E : En} {n : Nat} {m m' : List M} {K K' : Hp} {fr : Frz} {σ σ' : Zt} {ρ ρ' : Sl1} {w w' : World}
def Fok (P : Program) (n : Nat) (c : Code) (f : Hn P → Zt → (R : Type) → (Exit → Hn P → Zt → Option R) → Option R) : Prop :=
 ∀ (R : Type) (E : En) (fr : Frz), RdOk E fr → ∀ (h : Hn P) (σ : Zt) (k : Exit → Hn P → Zt → Option R) (r : R) (m : List M) (K : Hp) (ρ : Sl1) (w : World) (Q : Exit → Act → World → Prop), f h σ R k = some r → Rel E fr σ m K ρ w →
   (∀ e h' σ' m' K' ρ' w', Rel E fr σ' m' K' ρ' w' → Same σ σ' → k e h' σ' = some r → Q e (act1 n ρ') w') → c.wpIn (wideR E.rd) 0 P Q (act1 n ρ) w
def JOk (J : Rn P) : Prop := ∀ n c, Fok P n c (fun h σ R k => J n c R h σ k)
def setV : List Nat → List Value → Sl0 → Sl0
 | p :: ps, x :: xs, f => setV ps xs (upd f p x)
 | _, _, f => f
theorem frm_set {ρ : Sl0} {p : Nat} {v : Value} : (frm n ρ).setIfInBounds p v = frm n (upd ρ p v) := by
 have h := congrArg Act.tmps (Go.Proofs.YtmlbbjkojaljnaaDoor.put_act n ρ p v)
 unfold act Act.put at h
 exact h
theorem frm_foldl : ∀ (ps : List Nat) (xs : List Value) (ρ : Sl0), (ps.zip xs).foldl (fun t (q : Nat × Value) => t.setIfInBounds q.1 q.2) (frm n ρ) = frm n (setV ps xs ρ)
 | [], xs, ρ => rfl
 | p :: ps, [], ρ => rfl
 | p :: ps, x :: xs, ρ => by
   show (ps.zip xs).foldl _ ((frm n ρ).setIfInBounds p x) = _
   rw [frm_set]
   exact frm_foldl ps xs (upd ρ p x)
theorem setPs_rel : ∀ (ps : List Nat) {xs : List SV} {us : List Value} {f : Nat → SV} {ρ : Sl0}, SV.relL m K xs us → (∀ i, SV.rel m K (f i) (ρ i)) → ∀ i, SV.rel m K (setPs ps xs f i) (setV ps us ρ i)
 | [], xs, us, f, ρ, h, hf, i => hf i
 | p :: ps, [], us, f, ρ, h, hf, i => by
   obtain rfl := relL_nil h
   exact hf i
 | p :: ps, x :: xs, us, f, ρ, h, hf, i => by
   obtain ⟨u, r, rfl, h1, h2⟩ := relL_cons h
   refine setPs_rel ps (us := r) (ρ := upd ρ p u) h2 (fun j => ?_) i
   show SV.rel m K (bif Nat.beq j p then x else f j) (bif Nat.beq j p then u else ρ j)
   cases Nat.beq j p with
   | true => exact h1
   | false => exact hf j
theorem relL_len2 : ∀ {xs : List SV} {us : List Value}, SV.relL m K xs us → us.length = xs.length
 | [], us, h => by obtain rfl := relL_nil h; rfl
 | x :: xs, us, h => by
   obtain ⟨u, r, rfl, h1, h2⟩ := relL_cons h
   simp [relL_len2 h2]
theorem yldRun_ok {J : Rn P} (hJ : JOk J) {c : SV} {xs : List SV} {h : Hn P} {k : Hn P → Zt → Bool → Option R} {r : R} (hh : yldRun J σ c xs h k = some r) (hr : Rel E fr σ m K ρ w) {us : List Value} {v : Value} (hv : SV.rel m K c v) (hxs : SV.relL m K xs us) {X : Ending → World → Prop}
   (hX : ∀ h' σ' m' K' w' b, Rel E fr σ' m' K' ρ w' → Same σ σ' → k h' σ' b = some r → X (.returned (.bool b)) w') :
   ∃ l, v = .func (.yield l) #[] #[] ∧ ∃ fn tmps ao bo, (Instr.yield l us.toArray).run P w = .ok (.round l fn tmps ao bo) w ∧ RoundIn (wideR E.rd) 0 P l fn tmps ao bo w X := by
 unfold yldRun at hh
 split at hh
 · rename_i i n0 vs0 ps ao bo
   obtain ⟨l, rr, ρ0, rfl, hm, ht, hp, ha, hb, hvs⟩ := hv
   replace hh := bift hh; obtain ⟨hlen, hh⟩ := hh
   have hlen := Nat.eq_of_beq_eq_true hlen
   split at hh
   · rename_i H hq
     obtain ⟨a, ha', hmem, hperm⟩ := pick_spec hq
     obtain rfl := lpR_eq ha'
     have hsub : ∀ a ∈ H, a ∈ σ.H := fun a ha => hperm.symm.subset (List.mem_cons_of_mem _ ha)
     -- the record, ahead
     have hs0 : Sep E K (LpA l (LSt.ready.cr rr) :: (H.map (HA.conc m) ++ σ.fz fr)) w := by
       have := Sep.perm ((hperm.map (HA.conc m)).append_right (σ.fz fr)) hr.toSep
       simpa only [List.map_cons, HA.conc, hm, List.cons_append] using this
     have hw := LpA.at hs0
     have hy := run_yield (P := P) (args := us.toArray) hw (by
       show us.toArray.size = rr.params.size
       rw [hp, List.size_toArray, relL_len2 hxs, hlen])
     refine ⟨l, rfl, _, _, _, _, hy, roundIn_of_wpIn trivial ?_⟩
     have htm : (((LSt.ready.cr rr).params.zip us.toArray).foldl (fun tmps (t, a) => tmps.setIfInBounds t a) (LSt.ready.cr rr).tmps) = frm n0 (setV ps.toList us ρ0) := by
       show ((rr.params.zip us.toArray).foldl _ rr.tmps) = _
       rw [hp, ht, ← Array.foldl_toList, Array.toList_zip]
       exact frm_foldl ps.toList us ρ0
     rw [htm]
     show rr.assign.wpIn (wideR (some l)) 0 P _ (act1 n0 ⟨setV ps.toList us ρ0, []⟩) w
     rw [ha]
     have hE : ∀ (L : List Atom) (K : Hp) (w : World), Sep E K L w → Sep { E with rd := some l } K L w := fun L K w => Sep.rd (E := E) (E' := { E with rd := some l }) (fun w h => h)
     have hE' : ∀ (L : List Atom) (K : Hp) (w : World), Sep { E with rd := some l } K L w → Sep E K L w := fun L K w => Sep.rd (E := { E with rd := some l }) (E' := E) (fun w h => h)
     have mid : ∀ (A B C : List Atom) (x : Atom), (A ++ (B ++ x :: C)).Perm (x :: (A ++ (B ++ C))) := fun A B C x => by
       rw [← List.append_assoc, ← List.append_assoc]; exact List.perm_middle
     have hrel : Rel { E with rd := some l } ⟨m, K, ⟨setV ps.toList us ρ0, []⟩, fun _ => false, LpA l (LSt.ready.cr rr) :: fr.F, K⟩ ⟨setPs ps.toList xs vs0, [], H, σ.Hf, σ.nx, false⟩ m K ⟨setV ps.toList us ρ0, []⟩ w := by
       refine ⟨⟨List.prefix_refl m, Hp.le_refl K, hr.nx, fun e => (by cases e), fun i => setPs_rel ps.toList hxs hvs i, fun i e => (by cases e), fun i _ => .inr rfl, fun i sv e => (by cases e), fun a ha => hr.okH a (hsub a ha), fun a ha => hr.toPur.all a (List.mem_append_right _ ha), MOk.nil hr.mks.gk (Hp.le_refl K)⟩, ?_⟩
       show Sep _ K (H.map (HA.conc m) ++ (σ.Hf.map (HA.conc m) ++ (LpA l (LSt.ready.cr rr) :: fr.F))) w
       refine hE _ _ _ (Sep.perm (mid _ _ _ _).symm ?_)
       rw [hr.toPur.fz']
       exact hs0
     refine hJ n0 ao _ { E with rd := some l } ⟨m, K, ⟨setV ps.toList us ρ0, []⟩, fun _ => false, LpA l (LSt.ready.cr rr) :: fr.F, K⟩ (by intro l2 e; cases e; exact ⟨_, List.mem_cons_self⟩) h _ _ r m K _ w _ hh hrel (fun e h' σ1 m1 K1 ρ1 w1 h1 h2 h3 => ?_)
     cases e with
     | normal =>
       have hs1 : Sep E K1 (LpA l (LSt.ready.cr rr) :: (σ1.H.map (HA.conc m1) ++ (σ1.Hf.map (HA.conc m) ++ fr.F))) w1 := Sep.perm (mid _ _ _ _) (hE' _ _ _ h1.sep)
       have hw1 := LpA.at hs1
       refine ⟨w1.putObj l (.loop (busyR rr)), run_beginRound hw1 rfl, ?_⟩
       have hs2 := LpA.put (r' := (busyR rr)) hs1
       have hrel2 : Rel { E with rd := some l } ⟨m, K, ⟨setV ps.toList us ρ0, []⟩, fun _ => false, LpA l (busyR rr) :: fr.F, K⟩ σ1 m1 K1 ρ1 (w1.putObj l (.loop (busyR rr))) :=
         ⟨⟨h1.hm, h1.hK, h1.nx, h1.kq, h1.base, h1.dead, h1.old, h1.top, h1.okH, h1.okF, h1.mks⟩, hE _ _ _ (Sep.perm (mid _ _ _ _).symm hs2)⟩
       show (LSt.ready.cr rr).body.wpIn (wideR (some l)) 0 P _ (act1 n0 ρ1) _
       rw [show (LSt.ready.cr rr).body = bo from hb]
       refine hJ n0 bo _ { E with rd := some l } ⟨m, K, ⟨setV ps.toList us ρ0, []⟩, fun _ => false, LpA l (busyR rr) :: fr.F, K⟩ (by intro l2 e; cases e; exact ⟨_, List.mem_cons_self⟩) h' σ1 _ r m1 K1 ρ1 _ _ h3 hrel2 (fun e2 h'' σ2 m2 K2 ρ2 w2 g1 g2 g3 => ?_)
       have hs3 : Sep E K2 (LpA l (busyR rr) :: (σ2.H.map (HA.conc m2) ++ (σ2.Hf.map (HA.conc m) ++ fr.F))) w2 := Sep.perm (mid _ _ _ _) (hE' _ _ _ g1.sep)
       have hw3 := LpA.at hs3
       have back : ∀ (s : LSt) (b : Bool) (jump : Option Code), exLst e2 = some (b, s) → b = jump.isNone → s.cr rr = { busyR rr with state := if jump.isNone then .ready else .done, pending := jump } →
           ∃ v w', (Instr.endRound l jump).run P w2 = .ok v w' ∧ X (.returned v) w' := fun s b jump e1 e2 e3 => by
         subst e2
         rw [e1] at g3
         simp only at g3
         refine ⟨_, _, run_endRound jump hw3, ?_⟩
         refine hX h'' ⟨σ.base, σ.top, .lp i s :: σ2.H, σ.Hf, σ2.nx, false⟩ m2 K2 _ _ ?_ ⟨rfl, rfl⟩ g3
         have hm2 : m <+: m2 := g1.hm
         have hK2 : K.le K2 := g1.hK
         have hm2' : ∀ (i : Nat) (x : M), m[i]? = some x → m2[i]? = some x := fun _ _ k => pre_get hm2 k
         refine ⟨⟨hr.hm.trans hm2, hr.hK.trans hK2, g1.nx, fun e => (by cases e), hr.base, hr.dead, hr.old, fun i sv hi => SV.mono hm2' hK2 sv (hr.top i sv hi), fun a ha => ?_, hr.okF, hr.mks.mono hK2⟩, ?_⟩
         · rcases List.mem_cons.1 ha with rfl | ha
           · exact ⟨l, rr, hm2' _ _ hm⟩
           · exact g1.okH a ha
         · have := LpA.put (r' := s.cr rr) hs3
           have hHf : σ2.Hf = σ.Hf := (h2.trans g2).2
           rw [hHf, hr.toPur.fz'] at this
           show Sep E K2 ((HA.lp i s :: σ2.H).map (HA.conc m2) ++ (σ.Hf.map (HA.conc fr.m) ++ fr.F)) _
           simp only [List.map_cons, HA.conc, hm2' _ _ hm, List.cons_append]
           rw [e3] at this ⊢
           exact this
       cases e2 with
       | normal => exact back .ready true none rfl rfl rfl
       | ret => exact back .ret false (some .ret) rfl rfl rfl
       | exit id => exact back (.exit id) false (some (.exit id)) rfl rfl rfl
       | goto t => cases g3
       | panic ch => cases g3
       | outgrown => cases g3
     | exit id => cases h3
     | goto t => cases h3
     | ret => cases h3
     | panic ch => cases h3
     | outgrown => cases h3
   · cases hh
 · cases hh
theorem wpIn_post {F : Fence} {N : Nat} {o : Oper} {a : Act} {w : World} {X : Act → World → Prop} {Q Q' : Exit → Act → World → Prop} (hq : ∀ e a w, Q e a w → e ≠ .normal → Q' e a w) (hh : o.wpIn F N P a w X Q) : o.wpIn F N P a w X Q' := by
 unfold Oper.wpIn at *
 refine ⟨hh.1, ?_⟩
 have hh := hh.2
 have lo : LetsOut Q → LetsOut Q' := fun ⟨a, w, h⟩ => ⟨a, w, hq _ _ _ h nofun⟩
 generalize (o.semAt F.round a.eval).run P w = r at *
 cases r with
 | ok x w' =>
   cases x <;> simp only [Oper.uponIn] at hh ⊢ <;>
     first
       | exact hh
       | exact ⟨hh.1, CallsIn.mono hh.2 (fun e w'' he => by cases e <;> first | exact he | exact hq _ _ _ he nofun | exact lo he)⟩
       | exact ⟨hh.1, RowsIn.mono hh.2 (fun _ _ he => he)⟩
       | exact ⟨hh.1, RoundIn.mono hh.2 (fun e w'' he => by cases e <;> first | exact he | exact hq _ _ _ he nofun | exact lo he)⟩
       | exact hh.elim
 | halt x w' => cases x <;> simp only [Oper.uponIn] at hh ⊢ <;> first | exact hq _ _ _ hh nofun | exact lo hh | exact hh
theorem wpListIn_app {r : Option Nat} {ops : Array Oper} {Q : Exit → Act → World → Prop} {rest : List Oper} : ∀ {l : List Oper} {a : Act} {w : World}, l.all nodf = true → wpLs P ops (fun e a w => e = .normal ∧ wpListIn (wideR r) 0 P ops Q rest a w) l a w → wpListIn (wideR r) 0 P ops Q (l ++ rest) a w
 | [], a, w, _, h => h.2
 | o :: l, a, w, hd, h => by
   simp only [List.all_cons, Bool.and_eq_true] at hd
   unfold wpLs at h
   rw [List.cons_append]
   unfold wpListIn
   split
   · rename_i hw; rw [if_pos hw] at h
     exact wpIn_post (fun e a w h hne => absurd h.1 hne) (Oper.wpIn_mono (fun a w h => wpListIn_app hd.2 h) (wpIn_of_wp hd.1 h))
   · rename_i hw; rw [if_neg hw] at h
     exact ⟨fun _ _ => trivial, wpListIn_app hd.2 h⟩
theorem relL_map {f : Operand → SV} {g : Operand → Value} (hf : ∀ x, SV.rel m K (f x) (g x)) : ∀ l : List Operand, SV.relL m K (l.map f) (l.map g)
 | [] => rfl
 | x :: l => ⟨_, _, rfl, hf x, relL_map hf l⟩
theorem slA_look : ∀ {vs : List SV} {us : List Value} {j i : Nat} {sv : SV}, SV.relL m K vs us → look (slA j vs) i = some sv → ∃ k u, i = j + k ∧ us[k]? = some u ∧ SV.rel m K sv u
 | [], us, j, i, sv, h, hl => by cases hl
 | v :: vs, us, j, i, sv, h, hl => by
   obtain ⟨u, q, rfl, h1, h2⟩ := relL_cons h
   change (bif Nat.beq j i then some v else look (slA (j + 1) vs) i) = some sv at hl
   cases hb : Nat.beq j i with
   | true =>
     rw [hb] at hl
     cases hl
     exact ⟨0, u, (Nat.eq_of_beq_eq_true hb).symm, rfl, h1⟩
   | false =>
     rw [hb] at hl
     obtain ⟨k, u', e1, e2, e3⟩ := slA_look (j := j + 1) h2 hl
     exact ⟨k + 1, u', by omega, by simpa using e2, e3⟩
theorem res_tmp {fn : Func} {ρ : Sl0} {j : Nat} (h : fn.results.toList = [.tmp j]) : (results fn (frm n ρ)).run P w = .ok (Go.Proofs.YtmlbbjkojaljnaaDoor.ev n ρ (.tmp j)) w := by
 have h' : fn.results = #[.tmp j] := Array.ext' (by rw [h])
 exact Res.one (C := fun _ => True) (v1 := Go.Proofs.YtmlbbjkojaljnaaDoor.ev n ρ (.tmp j)) h' rfl w trivial
theorem inl_core {J : Rn P} (hJ : JOk J) {q : ItFn P} {c : Code} (hc : q.fn.body = some c) {vs : List SV} {us : List Value} (hus : SV.relL m K vs us) {j d : Nat} (hres : q.fn.results.toList = [.tmp j]) (hlen : vs.length ≤ q.fn.ntmps) {h0 : Hn P} {k : Hn P → Zt → Option R} {r : R}
   (hh : J q.fn.ntmps c R h0 ⟨fun _ => .any, slA 0 vs, σ.H, σ.Hf, σ.nx, false⟩ (fun e h σ' => bif exOver e then k h.unw (Zt.set ⟨σ.base, σ.top, σ'.H, σ.Hf, σ'.nx, false⟩ d (σ'.ev q.fn.ntmps (.tmp j))) else none) = some r)
   (hr : Rel E fr σ m K ρ w) {X : Ending → World → Prop}
   (hX : ∀ h' σ1 sv v m' K' w', Rel E fr σ1 m' K' ρ w' → Same σ σ1 → SV.rel m' K' sv v → k h' (σ1.set d sv) = some r → X (.returned v) w') :
   CallsIn (wideR E.rd) 0 P q.f us.toArray w X := by
 obtain ⟨args, hargs⟩ : ∃ args : Array Value, args = us.toArray := ⟨_, rfl⟩
 rw [← hargs]
 have hsz : args.size ≤ q.fn.ntmps := by rw [hargs, List.size_toArray, relL_len2 hus]; exact hlen
 have hrel : Rel E.out0 ⟨m, K, args1 args, fun _ => false, fr.F, K⟩ ⟨fun _ => .any, slA 0 vs, σ.H, σ.Hf, σ.nx, false⟩ m K (args1 args) w := by
   refine ⟨⟨List.prefix_refl _, Hp.le_refl K, hr.nx, fun e => (by cases e), fun i => trivial, fun i e => (by cases e), fun i _ => .inr rfl, fun i sv hi => ?_, fun a ha => hr.okH a ha, fun a ha => hr.toPur.all a (List.mem_append_right _ ha), MOk.nil hr.mks.gk (Hp.le_refl K)⟩, ?_⟩
   · obtain ⟨j', u, e1, e2, e3⟩ := slA_look hus hi
     have : args1 args i = u := by
       show args0 args i = u
       unfold args0
       rw [e1, Nat.zero_add, hargs]
       simp [e2]
     rw [this]; exact e3
   · show Sep E.out0 K (σ.H.map (HA.conc m) ++ (σ.Hf.map (HA.conc m) ++ fr.F)) w
     rw [hr.toPur.fz']
     exact hr.toSep.out0
 have key : CallsIn Fence.wide 0 P q.f args w X := by
   refine callsIn_of_wp_marks (F := Fence.wide) (n := 0) q.at_ hc trivial ?_
   rw [frm_args hsz]
   refine hJ q.fn.ntmps c R E.out0 ⟨m, K, args1 args, fun _ => false, fr.F, K⟩ (fun l2 e => by cases e) h0 _ _ r _ K (args1 args) w _ hh hrel (fun e h' σ' m' K' ρ' w' h1 h2 h3 => ?_)
   replace h3 := bift h3; obtain ⟨hov, h3⟩ := h3
   have fini : LeavesInM Fence.wide 0 P q.fn (act1 q.fn.ntmps ρ').tmps X ρ'.ds .returning w' := by
     refine marks_leave ρ'.ds h1.mks h1.toSep (fun K2 w2 c1 c2 c3 => ?_)
     refine ⟨_, res_tmp (n := q.fn.ntmps) (ρ := ρ'.f) hres, ?_⟩
     have g := h1.unmark c1 c2 c2 c3
     have hm2 : m <+: m' := g.hm
     have hm2' : ∀ (i : Nat) (x : M), m[i]? = some x → m'[i]? = some x := fun _ _ k => pre_get hm2 k
     have hv : SV.rel m' K2 (σ'.ev q.fn.ntmps (.tmp j)) (Go.Proofs.YtmlbbjkojaljnaaDoor.ev q.fn.ntmps ρ'.f (.tmp j)) := SV.monoC (fun _ _ h => h) c1 _ (h1.toPur.ev q.fn.ntmps (.tmp j))
     have e2 : σ'.Hf.map (HA.conc m) = σ.Hf.map (HA.conc fr.m) := by rw [h2.2]; exact hr.toPur.fz'
     have hs3 : Sep E K2 (σ'.H.map (HA.conc m') ++ (σ.Hf.map (HA.conc fr.m) ++ fr.F)) w2 := by
       have := c3.back (E := E)
       rw [← e2]; exact this
     refine hX h'.unw ⟨σ.base, σ.top, σ'.H, σ.Hf, σ'.nx, false⟩ _ _ m' K2 w2 ⟨⟨hr.hm.trans hm2, hr.hK.trans c2, g.nx, fun e => (by cases e), hr.base, hr.dead, hr.old, fun i sv hi => SV.mono hm2' c2 sv (hr.top i sv hi), fun a ha => g.okH a ha, hr.okF, hr.mks.mono c2⟩, hs3⟩ ⟨rfl, rfl⟩ hv h3
   cases e with
   | normal => exact fini
   | ret => exact fini
   | exit id => cases hov
   | goto t => cases hov
   | panic ch => cases hov
   | outgrown => cases hov
 exact key
theorem yop_ok {J : Rn P} (hJ : JOk J) {o : Oper} {h : Hn P} {k : Hn P → Zt → Option R} {r : R} {ops : Array Oper} {rest : List Oper} {Q : Exit → Act → World → Prop} (hh : yop J n o h σ k = some r) (hr : Rel E fr σ m K ρ w) (hwt : Region.wanted o (yielded ops (act1 n ρ).tmps) = true)
   (hk : ∀ h' σ' m' K' ρ' w', Rel E fr σ' m' K' ρ' w' → Same σ σ' → k h' σ' = some r → wpListIn (wideR E.rd) 0 P ops Q rest (act1 n ρ') w') : wpListIn (wideR E.rd) 0 P ops Q (o :: rest) (act1 n ρ) w := by
 unfold yop at hh
 split at hh
 · rename_i d c args ats t pos af gu
   split at hh
   · rename_i q h1
     split at hh
     · rename_i f e
       have hv := hr.toPur.ev n c
       rw [e] at hv
       obtain ⟨caps, hv, hcaps⟩ := hv
       obtain rfl := relL_nil hcaps
       unfold inlRun at hh
       split at hh
       · rename_i cc j hcc hres
         replace hh := bift hh; obtain ⟨hb, hh⟩ := hh
         rw [Bool.and_eq_true] at hb
         obtain rfl := Nat.eq_of_beq_eq_true hb.1
         unfold wpListIn
         rw [if_pos hwt]
         refine ⟨fun _ _ => trivial, ?_⟩
         rw [semR rfl, eval_act1]
         have hrun : (execOp (Go.Proofs.YtmlbbjkojaljnaaDoor.ev n ρ.f) ⟨some d, .call ⟨.value c, args, ats⟩, t, pos, af, gu⟩).run P w = .ok (.enter q.f (args.toList.map (Go.Proofs.YtmlbbjkojaljnaaDoor.ev n ρ.f)).toArray) w := by
           have e2 : (args.toList.map (Go.Proofs.YtmlbbjkojaljnaaDoor.ev n ρ.f)).toArray = args.map (Go.Proofs.YtmlbbjkojaljnaaDoor.ev n ρ.f) := Array.ext' (by rw [Array.toList_map])
           have hv' : Go.Proofs.YtmlbbjkojaljnaaDoor.ev n ρ.f c = .func (.func q.f) #[] #[] := hv
           have := q.ent (args.map (Go.Proofs.YtmlbbjkojaljnaaDoor.ev n ρ.f)) w
           rw [e2]
           simp [execOp, resolve, Deferred.ofValue, hv', invoke, this]
         rw [hrun, Oper.uponIn_enter]
         refine ⟨fun hh => (by cases (show false = true from hh)), ?_⟩
         refine inl_core hJ hcc (relL_map (fun x => hr.toPur.evr n x) args.toList) hres (Nat.le_of_ble_eq_true hb.2) hh hr (fun h' σ1 sv v m' K' w' g1 g2 g3 g4 => ?_)
         show wpListIn _ _ _ _ _ _ ((act1 n ρ).put (some d) v) _
         rw [put_act1]
         exact hk h' _ m' K' _ w' (g1.set (d := d) (sv := sv) (v := v) g3) g2 g4
       · cases hh
     · cases hh
   · obtain ⟨l, hv, fn, tmps, ao, bo, hy, hround⟩ := yldRun_ok hJ hh hr (hr.toPur.ev n c) (relL_map (fun x => hr.toPur.evr n x) args.toList)
       (X := fun e w'' => match e with
         | .returned v => wpListIn (wideR E.rd) 0 P ops Q rest ((act1 n ρ).put (some d) v) w''
         | .panicked chain => Q (.panic chain) (act1 n ρ) w''
         | .outgrown => LetsOut Q)
       (fun h' σ' m' K' w' b h1 h2 h3 => by
         show wpListIn _ _ _ _ _ _ ((act1 n ρ).put (some d) (.bool b)) _
         rw [put_act1]
         exact hk h' _ m' K' _ w' (h1.set (d := d) (sv := .bool b) (v := .bool b) rfl) h2 h3)
     unfold wpListIn
     rw [if_pos hwt]
     refine ⟨fun _ _ => trivial, ?_⟩
     rw [semR rfl, eval_act1]
     have hrun : (execOp (Go.Proofs.YtmlbbjkojaljnaaDoor.ev n ρ.f) ⟨some d, .call ⟨.value c, args, ats⟩, t, pos, af, gu⟩).run P w = .ok (.round l fn tmps ao bo) w := by
       have e : (args.toList.map (Go.Proofs.YtmlbbjkojaljnaaDoor.ev n ρ.f)).toArray = args.map (Go.Proofs.YtmlbbjkojaljnaaDoor.ev n ρ.f) := Array.ext' (by rw [Array.toList_map])
       rw [e] at hy
       have hv' : Go.Proofs.YtmlbbjkojaljnaaDoor.ev n ρ.f c = .func (.yield l) #[] #[] := hv
       simp [execOp, resolve, Deferred.ofValue, hv', invoke, hy]
     rw [hrun, Oper.uponIn_round]
     refine ⟨fun hh => (by cases (show false = true from hh)), hround.mono (fun e w'' he => ?_)⟩
     cases e <;> exact he
 · cases hh
theorem res_none {fn : Func} {tmps : Array Value} (h : fn.results.isEmpty = true) : ∃ v, (results fn tmps).run P w = .ok v w := by
 have h' : fn.results = #[] := by simpa using h
 refine ⟨.tuple #[], ?_⟩
 unfold results
 simp [h']
theorem rg_core {J : Rn P} (hJ : JOk J) {ps : Array Nat} {ao bo : Code} {h0 : Hn P} {k : Exit → Hn P → Zt → Option R} {r : R} {Q : Exit → Act → World → Prop} {q : ItFn P} {c : Code} (hc : q.fn.body = some c) {cs : List SV} {us : List Value} (hus : SV.relL m K cs us)
   (hres : q.fn.results.isEmpty = true) (hlen : cs.length + 1 ≤ q.fn.ntmps)
   (hh : J q.fn.ntmps c R h0 ⟨fun _ => .any, slA 0 (.yld σ.nx n σ.get ps ao bo :: cs), .lp σ.nx .ready :: σ.H, σ.Hf, σ.nx + 1, false⟩ (fun e h σ' =>
         bif exOver e then (match pick (HA.lpR σ.nx) σ'.H with
           | some (s, H) => LSt.go s k h ⟨σ.base, σ.top, H, σ.Hf, σ'.nx, false⟩
           | none => none) else none) = some r)
   (hr : Rel E fr σ m K ρ w) {l : Nat} {mark : List Deferred} {K1 : Hp} {w1 : World} {fn1 : FuncId} {D : Nat}
   (hs1 : Sep E K1 (LpA l { state := .ready, pending := none, fn := fn1, tmps := frm n ρ.f, params := ps, assign := ao, body := bo, defers := D } :: σ.atoms fr m) w1) (hK1 : K.le K1) (hm1 : MOk fr.k0 K1 (mark ++ ρ.ds))
   (hQ : ∀ e h' σ' m' K' ρ' w', Rel E fr σ' m' K' ρ' w' → Same σ σ' → k e h' σ' = some r → Q e (act1 n ρ') w') :
   CallsIn (wideR E.rd) 0 P q.f (#[.func (.yield l) #[] #[]] ++ us.toArray) w1 (rangePost (wideR E.rd) 0 P l Q { act1 n ρ with defers := mark ++ (act1 n ρ).defers }) := by
 obtain ⟨r1, hr1⟩ : ∃ r1 : Loop, r1 = { state := .ready, pending := none, fn := fn1, tmps := frm n ρ.f, params := ps, assign := ao, body := bo, defers := D } := ⟨_, rfl⟩
 rw [← hr1] at hs1
 obtain ⟨args, hargs⟩ : ∃ args : Array Value, args = (Value.func (.yield l) #[] #[] :: us).toArray := ⟨_, rfl⟩
 have hargs' : (#[.func (.yield l) #[] #[]] ++ us.toArray : Array Value) = args := by rw [hargs]; exact Array.ext' (by simp)
 rw [hargs']
 have hp := pre_app m [M.loop l r1]
 have hmm : ∀ (i : Nat) (x : M), m[i]? = some x → (m ++ [M.loop l r1])[i]? = some x := fun _ _ k => pre_get hp k
 have hgn : (m ++ [M.loop l r1])[σ.nx]? = some (.loop l r1) := get_new0 hr.nx
 have hsz : args.size ≤ q.fn.ntmps := by
   rw [hargs, List.size_toArray, List.length_cons, relL_len2 hus]
   exact hlen
 have hall : SV.relL (m ++ [M.loop l r1]) K1 (.yld σ.nx n σ.get ps ao bo :: cs) (Value.func (.yield l) #[] #[] :: us) :=
   ⟨_, _, rfl, ⟨l, r1, ρ.f, rfl, hgn, by rw [hr1], by rw [hr1], by rw [hr1], by rw [hr1], fun j => SV.mono hmm hK1 _ (hr.toPur.get j)⟩, SV.monoL hmm hK1 _ hus⟩
 have hrel : Rel E.out0 ⟨m ++ [M.loop l r1], K1, args1 args, fun _ => false, fr.F, K1⟩ ⟨fun _ => .any, slA 0 (.yld σ.nx n σ.get ps ao bo :: cs), .lp σ.nx .ready :: σ.H, σ.Hf, σ.nx + 1, false⟩ (m ++ [M.loop l r1]) K1 (args1 args) w1 := by
   refine ⟨⟨List.prefix_refl _, Hp.le_refl K1, by simp [hr.nx], fun e => (by cases e), fun i => trivial, fun i e => (by cases e), fun i _ => .inr rfl, fun i sv hi => ?_, fun a ha => ?_, fun a ha => HA.ok_mono hmm hK1 (hr.toPur.all a (List.mem_append_right _ ha)), MOk.nil hm1.gk (Hp.le_refl K1)⟩, ?_⟩
   · obtain ⟨j, u, e1, e2, e3⟩ := slA_look hall hi
     have : args1 args i = u := by
       show args0 args i = u
       unfold args0
       rw [e1, Nat.zero_add, hargs]
       simp [e2]
     rw [this]; exact e3
   · rcases List.mem_cons.1 ha with rfl | ha
     · exact ⟨l, r1, hgn⟩
     · exact HA.ok_mono hmm hK1 (hr.okH a ha)
   · show Sep E.out0 K1 ((HA.lp σ.nx .ready :: σ.H).map (HA.conc (m ++ [M.loop l r1])) ++ (σ.Hf.map (HA.conc (m ++ [M.loop l r1])) ++ fr.F)) w1
     have e1 : σ.H.map (HA.conc (m ++ [M.loop l r1])) = σ.H.map (HA.conc m) := map_conc_mono (K := K) hmm hr.okH
     have e2 : σ.Hf.map (HA.conc (m ++ [M.loop l r1])) = σ.Hf.map (HA.conc fr.m) := (map_conc_mono (K := K) hmm (fun a ha => hr.toPur.all a (List.mem_append_right _ ha))).trans hr.toPur.fz'
     rw [List.map_cons, e1, e2]
     have e3 : HA.conc (m ++ [M.loop l r1]) (.lp σ.nx .ready) = LpA l r1 := by
       simp only [HA.conc, hgn]
       rw [hr1]; rfl
     rw [e3]
     exact hs1.out0
 have key : CallsIn Fence.wide 0 P q.f args w1 (rangePost (wideR E.rd) 0 P l Q { act1 n ρ with defers := mark ++ (act1 n ρ).defers }) := by
   refine callsIn_of_wp_marks (F := Fence.wide) (n := 0) q.at_ hc trivial ?_
   rw [frm_args hsz]
   refine hJ q.fn.ntmps c R E.out0 ⟨m ++ [M.loop l r1], K1, args1 args, fun _ => false, fr.F, K1⟩ (fun l2 e => by cases e) h0 _ _ r _ K1 (args1 args) w1 _ hh hrel (fun e h' σ' m' K' ρ' w' h1 h2 h3 => ?_)
   replace h3 := bift h3; obtain ⟨hov, h3⟩ := h3
   have fini : LeavesInM Fence.wide 0 P q.fn (act1 q.fn.ntmps ρ').tmps (rangePost (wideR E.rd) 0 P l Q { act1 n ρ with defers := mark ++ (act1 n ρ).defers }) ρ'.ds .returning w' := by
     split at h3
     · rename_i s H hq
       obtain ⟨a, ha', hmem, hperm⟩ := pick_spec hq
       obtain rfl := lpR_eq ha'
       have hsub : ∀ a ∈ H, a ∈ σ'.H := fun a ha => hperm.symm.subset (List.mem_cons_of_mem _ ha)
       refine marks_leave ρ'.ds h1.mks h1.toSep (fun K2 w2 c1 c2 c3 => ?_)
       obtain ⟨v, hv⟩ := res_none (P := P) (w := w2) (tmps := (act1 q.fn.ntmps ρ').tmps) hres
       refine ⟨v, hv, ?_⟩
       have g := h1.unmark c1 c2 c2 c3
       have hmp : m ++ [M.loop l r1] <+: m' := g.hm
       have hgn' : m'[σ.nx]? = some (.loop l r1) := pre_get hmp hgn
       have hm2 : m <+: m' := hp.trans hmp
       have hm2' : ∀ (i : Nat) (x : M), m[i]? = some x → m'[i]? = some x := fun _ _ k => pre_get hm2 k
       have e2 : σ'.Hf.map (HA.conc (m ++ [M.loop l r1])) = σ.Hf.map (HA.conc fr.m) := by
         rw [h2.2]
         exact (map_conc_mono (K := K) hmm (fun a ha => hr.toPur.all a (List.mem_append_right _ ha))).trans hr.toPur.fz'
       have hs3 : Sep E K2 (LpA l (s.cr r1) :: (H.map (HA.conc m') ++ (σ.Hf.map (HA.conc fr.m) ++ fr.F))) w2 := by
         have := Sep.perm ((hperm.map (HA.conc m')).append_right (σ'.Hf.map (HA.conc (m ++ [M.loop l r1])) ++ fr.F)) c3.back
         rw [e2] at this
         simpa only [List.map_cons, HA.conc, hgn', List.cons_append] using this
       have hnb : (s.cr r1).state ≠ .busy := by cases s <;> simp [LSt.cr]
       refine ⟨_, _, run_endLoop (LpA.at hs3) hnb, ?_⟩
       have hs4 := (LpA.put (r' := { s.cr r1 with state := .exhausted }) hs3).drop
       have hKK : K.le K2 := hK1.trans c2
       have hrel4 : Rel E fr ⟨σ.base, σ.top, H, σ.Hf, σ'.nx, false⟩ m' K2 ⟨ρ.f, mark ++ ρ.ds⟩ (w2.putObj l (.loop { s.cr r1 with state := .exhausted })) :=
         ⟨⟨hr.hm.trans hm2, hr.hK.trans hKK, g.nx, fun e => (by cases e), hr.base, hr.dead, hr.old, fun i sv hi => SV.mono hm2' hKK sv (hr.top i sv hi), fun a ha => g.okH a (hsub a ha), hr.okF, hm1.mono c2⟩, hs4⟩
       cases s with
       | ready => exact hQ .normal h' _ m' K2 ⟨ρ.f, mark ++ ρ.ds⟩ _ hrel4 ⟨rfl, rfl⟩ h3
       | ret => exact wpIn_ret (hQ .ret h' _ m' K2 ⟨ρ.f, mark ++ ρ.ds⟩ _ hrel4 ⟨rfl, rfl⟩ h3)
       | exit id => exact wpIn_exit (hQ (.exit id) h' _ m' K2 ⟨ρ.f, mark ++ ρ.ds⟩ _ hrel4 ⟨rfl, rfl⟩ h3)
     · cases h3
   cases e with
   | normal => exact fini
   | ret => exact fini
   | exit id => cases hov
   | goto t => cases hov
   | panic ch => cases hov
   | outgrown => cases hov
 exact key
theorem rgRun_ok {J : Rn P} (hJ : JOk J) (hrd : RdOk E fr) {g : Operand} {ps : Array Nat} {ao bo : Code} {h : Hn P} {k : Exit → Hn P → Zt → Option R} {r : R} {Q : Exit → Act → World → Prop} (hh : rgRun J n g ps ao bo h σ k = some r) (hr : Rel E fr σ m K ρ w)
   (hQ : ∀ e h' σ' m' K' ρ' w', Rel E fr σ' m' K' ρ' w' → Same σ σ' → k e h' σ' = some r → Q e (act1 n ρ') w') : (Code.rangeFunc g ps ao bo).wpIn (wideR E.rd) 0 P Q (act1 n ρ) w := by
 unfold rgRun at hh
 split at hh
 · rename_i q h0
   split at hh
   · rename_i f cs e
     split at hh
     · rename_i c hc
       replace hh := bift hh; obtain ⟨hb, hh⟩ := hh
       simp only [Bool.and_eq_true] at hb
       obtain ⟨hb1, hb2, hb3⟩ := hb
       obtain rfl := Nat.eq_of_beq_eq_true hb1
       have hv := hr.toPur.ev n g
       rw [e] at hv
       obtain ⟨us, hv, hus⟩ := hv
       refine wpIn_rangeFunc (fun fn hfn => ?_)
       have tail : ∀ {l : Nat} {mark : List Deferred} {K1 : Hp} {w1 : World} {D : Nat}, (Instr.enterLoop fn (act1 n ρ).tmps ps ao bo E.rd).run P w = .ok (l, mark) w1 →
           Sep E K1 (LpA l { state := .ready, pending := none, fn := fn, tmps := frm n ρ.f, params := ps, assign := ao, body := bo, defers := D } :: σ.atoms fr m) w1 → K.le K1 → MOk fr.k0 K1 (mark ++ ρ.ds) →
           ∃ (l : Nat) (mark : List Deferred) (w₁ : World) (d : Deferred) (w₁' : World) (f : FuncId) (args : Array Value) (w₂ : World),
             (Instr.enterLoop fn (act1 n ρ).tmps ps ao bo (wideR E.rd).round).run P w = .ok (l, mark) w₁ ∧
             (resolve (act1 n ρ).eval (rangeCall g l) 0).run P w₁ = .ok d w₁' ∧
             (∀ f', Target.leads P w₁' d.target d.args = some f' → (wideR E.rd).fn f') ∧
             (invoke d.target d.args).run P w₁' = .ok (.enter f args) w₂ ∧
             ((wideR E.rd).depth.isSome = true → 1 ≤ 0) ∧
             CallsIn (wideR E.rd) (0 - 1) P f args w₂ (rangePost (wideR E.rd) 0 P l Q { act1 n ρ with defers := mark ++ (act1 n ρ).defers }) := fun {l mark K1 w1 D} he hs1 hK1 hm1 => by
         refine ⟨l, mark, w1, { target := .fn (.func q.f) us.toArray, args := #[.func (.yield l) #[] #[]] }, w1, q.f, #[.func (.yield l) #[] #[]] ++ us.toArray, w1, he, ?_, fun _ _ => trivial, ?_, fun hh => (by cases (show false = true from hh)), ?_⟩
         · have hv' : Go.Proofs.YtmlbbjkojaljnaaDoor.ev n ρ.f g = .func (.func q.f) #[] us.toArray := hv
           rw [eval_act1]
           have hc2 : Go.Proofs.YtmlbbjkojaljnaaDoor.ev n ρ.f (.const (.func (.yield l) #[] #[])) = .func (.yield l) #[] #[] := rfl
           simp [resolve, Deferred.ofValue, hv', hc2]
         · exact q.ent _ _
         · exact rg_core hJ hc hus hb2 (Nat.le_of_ble_eq_true hb3) hh hr hs1 hK1 hm1 hQ
       cases hE : E.rd with
       | none =>
         rw [hE] at tail
         obtain ⟨s1, hD⟩ := (hr.toSep.allocO (.deferred (some []))).known
         have s2 := s1.allocO (.loop { state := .ready, pending := none, fn := fn, tmps := frm n ρ.f, params := ps, assign := ao, body := bo, defers := w.heap.size })
         rw [World.size_alloc] at s2
         refine tail (run_enterLoop_outer fn _ ps ao bo) s2 (Hp.le_join _ _) ⟨⟨hr.mks.1.1, hr.mks.1.2.trans (Hp.le_join _ _)⟩, fun d hd => ?_, ?_⟩
         · rcases List.mem_append.1 hd with hd | hd
           · simp only [List.mem_singleton] at hd
             subst hd
             refine ⟨w.heap.size, rfl, Hp.join_right (one_of _ _) hD, ?_⟩
             cases hk0 : fr.k0 w.heap.size with
             | none => rfl
             | some x => rw [hr.mks.1.2 _ _ hk0] at hD; cases hD
           · obtain ⟨D', e1, e2, e3⟩ := hr.mks.2.1 d hd
             exact ⟨D', e1, Hp.le_join _ _ _ _ e2, e3⟩
         · refine List.nodup_cons.2 ⟨fun hd => ?_, hr.mks.2.2⟩
           obtain ⟨D', e1, e2, e3⟩ := hr.mks.2.1 _ hd
           simp only [Deferred.mk.injEq, Target.collected.injEq, and_true] at e1
           rw [← e1, hD] at e2
           cases e2
       | some l0 =>
         rw [hE] at tail
         obtain ⟨r0, hmem⟩ := hrd l0 hE
         have hw0 : w.heap[l0]? = some (.loop r0) := by
           obtain ⟨i, hi⟩ := List.getElem?_of_mem (show LpA l0 r0 ∈ σ.atoms fr m from List.mem_append_right _ (List.mem_append_right _ hmem))
           exact LpA.at (Sep.front i hi hr.toSep)
         exact tail (enter_inner hw0 fn _ ps ao bo) (hr.toSep.allocO _) (Hp.le_refl K) (by simpa using hr.mks)
     · cases hh
   · cases hh
 · cases hh
end
end
section
variable [BldA]
section
variable {R : Type} {P : Program} {E : En} {n : Nat} {m m' : List M} {K K' : Hp} {fr : Frz} {σ σ' : Zt} {ρ ρ' : Sl1} {w w' : World}
theorem joinN_ok {c : Code} {f : Hn P → Zt → (R : Type) → (Exit → Hn P → Zt → Option R) → Option R} (hf : Fok P n c f) (hrd : RdOk E fr) {s : Sh} {act W : List Nat} {a b : Hn P} {k : Hn P → Zt → Option R} {r : R} {Q : Exit → Act → World → Prop} (h : joinN f s act W a b σ k = some r) (hr : Rel E fr σ m K ρ w)
   (hQ : ∀ h' σ' m' K' ρ' w', Rel E fr σ' m' K' ρ' w' → Same σ σ' → k h' σ' = some r → Q .normal (Go.Proofs.YtmlbbjkojaljnaaDoor.act1 n ρ') w') : c.wpIn (wideR E.rd) 0 P Q (Go.Proofs.YtmlbbjkojaljnaaDoor.act1 n ρ) w := by
 unfold joinN at h
 obtain ⟨x, hx, h⟩ := ob h
 refine hf _ E ⟨m, K, ρ, fun _ => false, fr.F, fr.k0⟩ hrd a (σ.frz act) _ x m K ρ w Q hx (hr.frz act) (fun e h' σ' m' K' ρ' w' h1 h2 h3 => ?_)
 cases e with
 | normal =>
   obtain ⟨h'', σ2, m2, K2, g1, g2, g3⟩ := prep_ok h' h3 h1
   have hi : Inn σ fr ⟨m, K, ρ, fun _ => false, fr.F, fr.k0⟩ m K ρ (minus σ.H act) σ2 W := ⟨rfl, rfl, rfl, rfl, rfl, (g2.2.trans h2.2), minus_sub, fun _ _ => rfl⟩
   obtain ⟨σ3, m3, q1, q2, q3⟩ := lay_ok hr hi g3 g1 h
   exact hQ b σ3 m3 K2 ρ' w' q3 q2 q1
 | _ => cases h3
theorem joinX_ok {c : Code} {f : Hn P → Zt → (R : Type) → (Exit → Hn P → Zt → Option R) → Option R} (hf : Fok P n c f) (hrd : RdOk E fr) {s : Sh} {act W : List Nat} {a b : Hn P} {k : Exit → Hn P → Zt → Option R} {r : R} {Q : Exit → Act → World → Prop} (h : joinX f s act W a b σ k = some r) (hr : Rel E fr σ m K ρ w)
   (hQ : ∀ e h' σ' m' K' ρ' w', Rel E fr σ' m' K' ρ' w' → Same σ σ' → k e h' σ' = some r → Q e (Go.Proofs.YtmlbbjkojaljnaaDoor.act1 n ρ') w') : c.wpIn (wideR E.rd) 0 P Q (Go.Proofs.YtmlbbjkojaljnaaDoor.act1 n ρ) w := by
 unfold joinX at h
 obtain ⟨o, ho, h⟩ := ob h
 refine hf _ E ⟨m, K, ρ, fun _ => false, fr.F, fr.k0⟩ hrd a (σ.frz act) _ o m K ρ w Q ho (hr.frz act) (fun e h' σ' m' K' ρ' w' h1 h2 h3 => ?_)
 have other : (k e h' (σ.thaw σ' (minus σ.H act) [])).map Sum.inr = some o → Q e (Go.Proofs.YtmlbbjkojaljnaaDoor.act1 n ρ') w' := fun h3 => by
   rw [Option.map_eq_some_iff] at h3
   obtain ⟨r', h4, rfl⟩ := h3
   cases h
   have hi : Inn σ fr ⟨m, K, ρ, fun _ => false, fr.F, fr.k0⟩ m K ρ (minus σ.H act) σ' [] := ⟨rfl, rfl, rfl, rfl, rfl, h2.2, minus_sub, fun _ _ => rfl⟩
   obtain ⟨q1, q2⟩ := thaw_ok hr hi h1
   exact hQ e h' _ m' K' ρ' w' q2 q1 h4
 cases e with
 | normal =>
   obtain ⟨h'', σ2, m2, K2, g1, g2, g3⟩ := prep_ok h' h3 h1
   rw [Option.map_eq_some_iff] at g1
   obtain ⟨x, g1, rfl⟩ := g1
   have hi : Inn σ fr ⟨m, K, ρ, fun _ => false, fr.F, fr.k0⟩ m K ρ (minus σ.H act) σ2 W := ⟨rfl, rfl, rfl, rfl, rfl, (g2.2.trans h2.2), minus_sub, fun _ _ => rfl⟩
   obtain ⟨σ3, m3, q1, q2, q3⟩ := lay_ok hr hi g3 g1 h
   exact hQ .normal b σ3 m3 K2 ρ' w' q3 q2 q1
 | _ => exact other h3
theorem head_ok {s : Sh} {W : List Nat} {rest : List HA} {x : TL s.ts} (hr : Rel E fr σ m K ρ w) {g : Gt} {f : Nat → SV} {H : List HA} {us : List Atom}
   (hg : s.get f H = some g) (hx : TL.of s.ts g.ds = some x) (hok : ∀ a ∈ H, HA.ok m' K' a) (hf : ∀ i, SV.rel m' K' (f i) (ρ' i)) (hmm : m <+: m') (hKK : K.le K') (hrest : ∀ a ∈ rest, a ∈ σ.H) (hs : Sep E K' (H.map (HA.conc m') ++ (us ++ (rest.map (HA.conc m) ++ σ.fz fr))) w')
   (hds : MOk fr.k0 K' ρ'.ds) (hold : ∀ i, i ∉ W → ρ' i = ρ i) {vs : List (Nat × SV)} {u : Un} (hu : s.un (TL.list s.ts x) σ.nx = some (vs, u)) :
   ∃ m'', Rel E ⟨m, K, ρ, fun i => W.contains i, fr.F, fr.k0⟩ ⟨fun i => bif W.contains i then .any else σ.get i, subT (fillF σ) vs, u.H.map (HA.sub (fillF σ)), rest ++ σ.Hf, u.nx, false⟩ m'' K' ρ' w' := by
 rw [TL.of_list hx] at hu
 have hoo : oldOk s.bl m.length = true := by
   unfold Sh.un at hu
   rw [hr.nx]
   cases ho : oldOk s.bl σ.nx with
   | true => rfl
   | false => rw [ho] at hu; cases hu
 obtain ⟨vs', u', ms, e1, e2, e3, e4, e5, e6, e7, e8⟩ := Sh.get_un hg hok hmm hoo
 rw [hr.nx, hu] at e1
 cases e1
 have hp' := pre_app m ms
 refine ⟨m ++ ms, Rel.subs (σ := ⟨fun i => bif W.contains i then .any else σ.get i, vs, u.H, rest ++ σ.Hf, u.nx, false⟩) (fillF_rel hr.toPur (m' := m ++ ms) (fun _ _ k => pre_get hp' k) hKK) ⟨⟨pre_app m ms, hKK, e2, fun e => (by cases e), fun i => ?_, fun i hi => ?_, fun i hi => ?_, fun i sv hi => slC_look e3 hi _ (hf i), e4, fun a ha => ?_, hds⟩, ?_⟩⟩
 · show SV.rel m K (bif W.contains i then .any else σ.get i) (ρ i)
   cases W.contains i with
   | true => exact trivial
   | false => exact hr.toPur.get i
 · show (bif W.contains i then SV.any else σ.get i) = .any
   have hi : W.contains i = true := hi
   rw [hi]; rfl
 · by_cases hW : i ∈ W
   · exact .inl (by simpa using hW)
   · exact .inr (hold i hW)
 · refine hr.toPur.all a ?_
   rcases List.mem_append.1 ha with ha | ha
   · exact List.mem_append_left _ (hrest a ha)
   · exact List.mem_append_right _ ha
 · have s1 := e6 E _ w' hs
   have s2 : Sep E K' ((g.H.map (HA.conc m') ++ us) ++ (u.H.map (HA.conc (m ++ ms)) ++ (rest.map (HA.conc m) ++ σ.fz fr))) w' := Sep.perm (by
     rw [List.append_assoc]
     refine (perm3 _ _ _).trans (List.Perm.append_left _ (perm3 _ _ _)) ) s1
   show Sep E K' (u.H.map (HA.conc (m ++ ms)) ++ ((rest ++ σ.Hf).map (HA.conc m) ++ fr.F)) w'
   rw [List.map_append, hr.toPur.fz', List.append_assoc]
   exact Sep.drops s2
theorem get_oldOk {s : Sh} {ds : List Dat} {nx : Nat} {o : List (Nat × SV) × Un} (h : s.un ds nx = some o) : oldOk s.bl nx = true := by
 unfold Sh.un at h
 cases ho : oldOk s.bl nx with
 | true => rfl
 | false => rw [ho] at h; cases h
theorem lpRun_ok {c : Code} {f : Hn P → Zt → (R : Type) → (Exit → Hn P → Zt → Option R) → Option R} (hf : Fok P n c f) (hrd : RdOk E fr) {s : Sh} {W : List Nat} {a : Hn P} {k : Exit → Hn P → Zt → Option R} {r : R} {Q : Exit → Act → World → Prop} (h : lpRun f s W a σ k = some r) (hr : Rel E fr σ m K ρ w)
   (hQ : ∀ e h' σ' m' K' ρ' w', Rel E fr σ' m' K' ρ' w' → Same σ σ' → k e h' σ' = some r → Q e (Go.Proofs.YtmlbbjkojaljnaaDoor.act1 n ρ') w') : (Code.loop c).wpIn (wideR E.rd) 0 P Q (Go.Proofs.YtmlbbjkojaljnaaDoor.act1 n ρ) w := by
 unfold lpRun at h
 split at h
 · rename_i g hg
   split at h
   · rename_i x0 hx0
     obtain ⟨N, hN⟩ := loop_iter h
     refine wpIn_loop_rounds N ?_
     -- a round's head
     have round : ∀ (N : Nat) (x : TL s.ts) (m1 : List M) (K1 : Hp) (ρ1 : Sl1) (w1 : World) (vs : List (Nat × SV)) (u : Un), iter (lpRound f s W g a σ k) N x = some r → s.un (TL.list s.ts x) σ.nx = some (vs, u) →
         Rel E ⟨m, K, ρ, fun i => W.contains i, fr.F, fr.k0⟩ ⟨fun i => bif W.contains i then .any else σ.get i, subT (fillF σ) vs, u.H.map (HA.sub (fillF σ)), g.H ++ σ.Hf, u.nx, false⟩ m1 K1 ρ1 w1 → Code.roundsIn (wideR E.rd) 0 P c Q N (Go.Proofs.YtmlbbjkojaljnaaDoor.act1 n ρ1) w1 := by
       intro N
       induction N with
       | zero => intro x m1 K1 ρ1 w1 vs u hi; cases hi
       | succ N ih =>
         intro x m1 K1 ρ1 w1 vs u hi hu hrel
         unfold iter at hi
         obtain ⟨o, ho, hi⟩ := ob hi
         rw [roundsIn_succ]
         unfold lpRound at ho
         rw [hu] at ho
         simp only at ho
         have hgsub : ∀ a ∈ g.H, a ∈ σ.H := by
           obtain ⟨_, _, _, _, _, _, _, e5, _⟩ := Sh.get_un (m := m) (K := K) hg hr.okH (List.prefix_refl m) (by rw [hr.nx]; exact get_oldOk hu)
           exact e5
         refine hf _ E ⟨m, K, ρ, fun i => W.contains i, fr.F, fr.k0⟩ hrd a _ _ o m1 K1 ρ1 w1 _ ho hrel (fun e h' σ' m' K' ρ' w' h1 h2 h3 => ?_)
         have other : e ≠ .normal → (k e h' (σ.thaw σ' g.H W)).map Sum.inr = some o → Q e (Go.Proofs.YtmlbbjkojaljnaaDoor.act1 n ρ') w' := fun _ h3 => by
           rw [Option.map_eq_some_iff] at h3
           obtain ⟨r', h4, rfl⟩ := h3
           cases hi
           have hii : Inn σ fr ⟨m, K, ρ, fun i => W.contains i, fr.F, fr.k0⟩ m K ρ g.H σ' W := ⟨rfl, rfl, rfl, rfl, rfl, h2.2, hgsub, fun i hi => by simpa using hi⟩
           obtain ⟨q1, q2⟩ := thaw_ok hr hii h1
           exact hQ e h' _ m' K' ρ' w' q2 q1 h4
         cases e with
         | normal =>
           obtain ⟨h'', σ2, m2, K2, g1, g2, g3⟩ := prep_ok h' h3 h1
           rw [Option.map_eq_some_iff] at g1
           obtain ⟨x', g1, rfl⟩ := g1
           have hsame := h2.trans g2
           unfold Zt.pack at g1
           replace g1 := bift g1; obtain ⟨hk, g1⟩ := g1
           split at g1
           · rename_i g' hg'
             cases hu' : s.un (TL.list s.ts x') σ.nx with
             | none =>
               -- the next round would not run
               cases N with
               | zero => cases hi
               | succ N =>
                 unfold iter at hi
                 obtain ⟨o2, ho2, _⟩ := ob hi
                 unfold lpRound at ho2
                 rw [hu'] at ho2
                 cases ho2
             | some q =>
               obtain ⟨vs', u'⟩ := q
               have hii : Inn σ fr ⟨m, K, ρ, fun i => W.contains i, fr.F, fr.k0⟩ m K ρ g.H σ2 W := ⟨rfl, rfl, rfl, rfl, rfl, hsame.2, hgsub, fun i hi => by simpa using hi⟩
               obtain ⟨m'', hrel'⟩ := head_ok (W := W) (rest := g.H) (us := []) hr hg' g1 g3.okH g3.toPur.get g3.hm g3.hK hgsub (by rw [List.nil_append]; exact hii.sep hr g3) g3.mks (fun i hi => by
                 have := g3.old i (keysIn_spec hk hi)
                 rcases this with h4 | h4
                 · exact absurd (by simpa using h4) hi
                 · exact h4) hu'
               exact ih x' m'' K2 ρ' w' vs' u' hi hu' hrel'
           · cases g1
         | exit i => exact other nofun h3
         | goto l => exact other nofun h3
         | ret => exact other nofun h3
         | panic c => exact other nofun h3
         | outgrown => exact other nofun h3
     cases hu : s.un (TL.list s.ts x0) σ.nx with
     | none =>
       cases N with
       | zero => cases hN
       | succ N =>
         unfold iter at hN
         obtain ⟨o2, ho2, _⟩ := ob hN
         unfold lpRound at ho2
         rw [hu] at ho2
         cases ho2
     | some q =>
       obtain ⟨vs, u⟩ := q
       have hu2 := hu
       rw [TL.of_list hx0] at hu2
       obtain ⟨vs', u', ms, e1, e2, e3, e4, e5, e6, e7, e8⟩ := Sh.get_un (m := m) (K := K) hg hr.okH (List.prefix_refl m) (by rw [hr.nx]; exact get_oldOk hu2)
       rw [hr.nx, hu2] at e1
       cases e1
       have hp' := pre_app m ms
       refine round N x0 (m ++ ms) K ρ w vs u hN hu (Rel.subs (σ := ⟨fun i => bif W.contains i then .any else σ.get i, vs, u.H, g.H ++ σ.Hf, u.nx, false⟩) (fillF_rel hr.toPur (m' := m ++ ms) (fun _ _ k => pre_get hp' k) (Hp.le_refl K)) ⟨⟨pre_app m ms, Hp.le_refl K, e2, fun e => (by cases e), fun i => ?_, fun i hi => ?_, fun i hi => .inr rfl, fun i sv hi => slC_look e3 hi _ (hr.toPur.get i), e4, fun a ha => ?_, hr.mks⟩, ?_⟩)
       · show SV.rel m K (bif W.contains i then .any else σ.get i) (ρ i)
         cases W.contains i with
         | true => exact trivial
         | false => exact hr.toPur.get i
       · show (bif W.contains i then SV.any else σ.get i) = .any
         have hi : W.contains i = true := hi
         rw [hi]; rfl
       · refine hr.toPur.all a ?_
         rcases List.mem_append.1 ha with ha | ha
         · exact List.mem_append_left _ (e5 a ha)
         · exact List.mem_append_right _ ha
       · have s1 := e6 E _ w hr.toSep
         show Sep E K (u.H.map (HA.conc (m ++ ms)) ++ ((g.H ++ σ.Hf).map (HA.conc m) ++ fr.F)) w
         rw [List.map_append, hr.toPur.fz', List.append_assoc]
         exact s1
   · cases h
 · cases h
theorem unroll_ok {c : Code} {f : Hn P → Zt → (R : Type) → (Exit → Hn P → Zt → Option R) → Option R} (hf : Fok P n c f) (hrd : RdOk E fr) {k : Exit → Hn P → Zt → Option R} {r : R} {Q : Exit → Act → World → Prop}
   (hQ : ∀ e h' σ' m' K' ρ' w', Rel E fr σ' m' K' ρ' w' → Same σ σ' → k e h' σ' = some r → Q e (Go.Proofs.YtmlbbjkojaljnaaDoor.act1 n ρ') w') : ∀ (N : Nat) {h : Hn P} {σ1 : Zt} {m : List M} {K : Hp} {ρ : Sl1} {w : World}, unroll (fun h σ k => f h σ _ k) k N h σ1 = some r → Rel E fr σ1 m K ρ w → Same σ σ1 → Code.roundsIn (wideR E.rd) 0 P c Q N (Go.Proofs.YtmlbbjkojaljnaaDoor.act1 n ρ) w
 | 0, h, σ1, m, K, ρ, w, hh, hr, hs => by cases hh
 | N + 1, h, σ1, m, K, ρ, w, hh, hr, hs => by
   rw [roundsIn_succ]
   unfold unroll at hh
   refine hf _ E fr hrd h σ1 _ r m K ρ w _ hh hr (fun e h' σ' m' K' ρ' w' h1 h2 h3 => ?_)
   cases e with
   | normal => exact unroll_ok hf hrd hQ N h3 h1 (hs.trans h2)
   | exit i => exact hQ _ h' σ' m' K' ρ' w' h1 (hs.trans h2) h3
   | goto i => exact hQ _ h' σ' m' K' ρ' w' h1 (hs.trans h2) h3
   | ret => exact hQ _ h' σ' m' K' ρ' w' h1 (hs.trans h2) h3
   | panic i => exact hQ _ h' σ' m' K' ρ' w' h1 (hs.trans h2) h3
   | outgrown => exact hQ _ h' σ' m' K' ρ' w' h1 (hs.trans h2) h3
theorem onNorm_ok {y : Code} {k : Exit → Hn P → Zt → Option R} {f : Hn P → Zt → Option R} {r : R} {Q : Exit → Act → World → Prop} {σ0 : Zt} (hf : ∀ h' σ' m' K' ρ' w', Rel E fr σ' m' K' ρ' w' → Same σ0 σ' → f h' σ' = some r → y.wpIn (wideR E.rd) 0 P Q (Go.Proofs.YtmlbbjkojaljnaaDoor.act1 n ρ') w')
   (hQ : ∀ e h' σ' m' K' ρ' w', Rel E fr σ' m' K' ρ' w' → Same σ0 σ' → k e h' σ' = some r → Q e (Go.Proofs.YtmlbbjkojaljnaaDoor.act1 n ρ') w') : ∀ e h' σ' m' K' ρ' w', Rel E fr σ' m' K' ρ' w' → Same σ0 σ' → onNorm k f e h' σ' = some r → Exit.then (y.wpIn (wideR E.rd) 0 P Q) Q e (Go.Proofs.YtmlbbjkojaljnaaDoor.act1 n ρ') w' := by
 intro e h' σ' m' K' ρ' w' h1 h2 h3
 cases e with
 | normal => exact hf h' σ' m' K' ρ' w' h1 h2 h3
 | exit i => exact hQ _ h' σ' m' K' ρ' w' h1 h2 h3
 | goto i => exact hQ _ h' σ' m' K' ρ' w' h1 h2 h3
 | ret => exact hQ _ h' σ' m' K' ρ' w' h1 h2 h3
 | panic i => exact hQ _ h' σ' m' K' ρ' w' h1 h2 h3
 | outgrown => exact hQ _ h' σ' m' K' ρ' w' h1 h2 h3
theorem Sep.at_out {L : List Atom} {E : En} {K : Hp} {w : World} (h : Sep E K L w) : Sep E K L w := h
theorem exec_ok {J : Rn P} (hJ : JOk J) : ∀ (c : Code), Fok P n c (fun h σ R k => exec J n c h σ k)
 | .skip => fun R E fr hrd h σ k r m K ρ w Q hh hr hQ => wpIn_skip (hQ _ h σ m K ρ w hr Same.rfl' hh)
 | .ret => fun R E fr hrd h σ k r m K ρ w Q hh hr hQ => wpIn_ret (hQ _ h σ m K ρ w hr Same.rfl' hh)
 | .exit id => fun R E fr hrd h σ k r m K ρ w Q hh hr hQ => wpIn_exit (hQ _ h σ m K ρ w hr Same.rfl' hh)
 | .label l => fun R E fr hrd h σ k r m K ρ w Q hh hr hQ => wpIn_label (hQ _ h σ m K ρ w hr Same.rfl' hh)
 | .scope b => fun R E fr hrd h σ k r m K ρ w Q hh hr hQ => by
   refine wpIn_scope_straight (exec_ok hJ b R E fr hrd h σ _ r m K ρ w _ (show exec J n b h σ (onScope k) = some r from hh) hr (fun e h' σ' m' K' ρ' w' h1 h2 h3 => ?_))
   cases e with
   | goto l => cases h3
   | normal => exact hQ _ h' σ' m' K' ρ' w' h1 h2 h3
   | exit i => exact hQ _ h' σ' m' K' ρ' w' h1 h2 h3
   | ret => exact hQ _ h' σ' m' K' ρ' w' h1 h2 h3
   | panic i => exact hQ _ h' σ' m' K' ρ' w' h1 h2 h3
   | outgrown => exact hQ _ h' σ' m' K' ρ' w' h1 h2 h3
 | .region id ops draw => fun R E fr hrd h σ k r m K ρ w Q hh hr hQ => by
   change (bif !ops.toList.all nodf then none else bif draw then prep h σ fun h σ => preO n ops.toList h σ fun h σ => (match h with | .mix plan fin tail act r => mixS n ops plan fin tail act r σ (k .normal) | .tr t s act a b => trS n ops t s act a b σ (k .normal) | _ => none) else prep h σ fun h σ => yreg J n ops h σ (k .normal)) = some r at hh
   replace hh := biff hh; obtain ⟨hn, hh⟩ := hh
   have hn : ops.toList.all nodf = true := by simpa using hn
   cases draw with
   | false =>
     simp only [cond_false] at hh
     obtain ⟨h1, σ1, m1, K1, hh, g1, hr⟩ := prep_ok h hh hr
     replace hQ : ∀ e h' σ' m' K' ρ' w', Rel E fr σ' m' K' ρ' w' → Same σ1 σ' → k e h' σ' = some r → Q e (act1 n ρ') w' := fun e h' σ' m' K' ρ' w' q1 q2 q3 => hQ e h' σ' m' K' ρ' w' q1 (g1.trans q2) q3
     clear g1
     unfold yreg at hh
     split at hh
     · rename_i q h2
       have key : wpListIn (wideR E.rd) 0 P ops Q (ops.toList.take q ++ ops.toList.drop q) (act1 n ρ) w := by
         have hn1 : (ops.toList.take q).all nodf = true := List.all_eq_true.2 (fun x hx => List.all_eq_true.1 hn x (List.mem_of_mem_take hx))
         have hn2 : (ops.toList.drop q).all nodf = true := List.all_eq_true.2 (fun x hx => List.all_eq_true.1 hn x (List.mem_of_mem_drop hx))
         refine wpListIn_app hn1 ?_
         have := runL_ok (ops := ops) (Q := fun e a w => e = .normal ∧ wpListIn (wideR E.rd) 0 P ops Q (ops.toList.drop q) a w) (ops.toList.take q) 0 hh hr (fun h' σ' m' K' ρ' w' h1 h2 h3 => ?_)
         · simpa using this
         · refine ⟨rfl, ?_⟩
           split at h3
           · rename_i o rest hd
             rw [hd] at hn2 ⊢
             simp only [List.all_cons, Bool.and_eq_true] at hn2
             obtain ⟨dst, op, t, pos, af, gu⟩ := o
             obtain ⟨h4, σ4, s4, hr4, hg⟩ := gate_ok h3 h1
             rcases hg with ⟨hw, hg⟩ | ⟨hw, hg⟩
             · refine yop_ok hJ hg hr4 hw (fun h'' σ'' m'' K'' ρ'' w'' g1 g2 g3 => ?_)
               have := runL_ok (ops := ops) (Q := Q) rest 0 g3 g1 (fun h3 σ3 m3 K3 ρ3 w3 b1 b2 b3 => hQ _ h3 σ3 m3 K3 ρ3 w3 b1 (((h2.trans s4).trans g2).trans b2) b3)
               exact wpListIn_of hn2.2 (by simpa using this)
             · unfold wpListIn
               rw [if_neg (by rw [hw]; exact Bool.false_ne_true)]
               refine ⟨fun _ _ => trivial, ?_⟩
               cases dst with
               | none =>
                 have := runL_ok (ops := ops) (Q := Q) rest 0 hg hr4 (fun h3 σ3 m3 K3 ρ3 w3 b1 b2 b3 => hQ _ h3 σ3 m3 K3 ρ3 w3 b1 ((h2.trans s4).trans b2) b3)
                 exact wpListIn_of hn2.2 (by rw [List.drop_zero] at this; exact this)
               | some d =>
                 show wpListIn _ _ _ _ _ _ ((act1 n ρ').put (some d) undef) _
                 rw [put_act1]
                 have := runL_ok (ops := ops) (Q := Q) rest 0 hg (hr4.set (d := d) (sv := .raw undef) (v := undef) rfl) (fun h3 σ3 m3 K3 ρ3 w3 b1 b2 b3 => hQ _ h3 σ3 m3 K3 ρ3 w3 b1 (((h2.trans s4).trans ⟨rfl, rfl⟩).trans b2) b3)
                 exact wpListIn_of hn2.2 (by simpa using this)
           · cases h3
       rw [List.take_append_drop] at key
       have := wpIn_region_lit (id := id) (l := ops.toList) (by simpa using key)
       simpa using this
     · have := wpIn_region_lit (id := id) (wpListIn_of (r := E.rd) (n := 0) hn (runL_ok (Q := Q) (ops := ops.toList.toArray) ops.toList 0 (by simpa using hh) hr (fun h' σ' m' K' ρ' w' h1 h2 h3 => hQ _ h' σ' m' K' ρ' w' h1 h2 h3)))
       simpa using this
   | true =>
     simp only [cond_true] at hh
     obtain ⟨h1, σ1, m1, K1, hh, g1, hr⟩ := prep_ok h hh hr
     obtain ⟨h2, σ2, m2, hh, g2, hr⟩ := preO_ok h1 hh hr
     replace hQ : ∀ e h' σ' m' K' ρ' w', Rel E fr σ' m' K' ρ' w' → Same σ2 σ' → k e h' σ' = some r → Q e (act1 n ρ') w' := fun e h' σ' m' K' ρ' w' q1 q2 q3 => hQ e h' σ' m' K' ρ' w' q1 ((g1.trans g2).trans q2) q3
     clear g1 g2
     generalize K1 = K at hr
     generalize m2 = m at hr
     generalize σ2 = σ at hr hh hQ
     split at hh
     · rename_i plan fin tail act' h0
       unfold mixS at hh
       replace hh := bif_and hh; obtain ⟨hm, hB, hh⟩ := hh
       have hB' : mixB .any ops.toList.toArray plan fin tail = true := by simpa using hB
       have hfr := (hr.frz act').drew
       have hplan : ∀ s i, (s, i) ∈ plan → i < ops.toList.length := by
         intro s i hi
         have h0 := hB
         unfold mixB at h0
         simp only [Bool.and_eq_true] at h0
         obtain ⟨_, h1⟩ := h0
         split at h1
         · rename_i l1 hl1
           simpa using mixPlan_lt plan _ _ hl1 s i hi
         · cases h1
       have key := runM_ok (l := ops.toList) (Q := Q) plan hh hfr rfl hplan (fun h' σ' m' K' ρ' w' h1 h2 h3 => by
         have hi : Inn σ fr ⟨m, K, ρ, fun _ => false, fr.F, fr.k0⟩ m K ρ (minus σ.H act') σ' [] := ⟨rfl, rfl, rfl, rfl, rfl, h2.2, minus_sub, fun _ _ => rfl⟩
         obtain ⟨z1, z2⟩ := thaw_ok hr hi h1
         have := runL_ok (ops := ops.toList.toArray) (Q := Q) (picks ops.toList tail) 0 (by simpa using h3) z2 (fun h'' σ'' m'' K'' ρ'' w'' b1 b2 b3 => hQ .normal h'' σ'' m'' K'' ρ'' w'' b1 (z1.trans b2) b3)
         rwa [List.drop_zero] at this)
       have := wp_region_mix (id := id) (Q := Q) plan fin tail hm hB' _ hfr.cfz rfl rfl rfl key hn (r := E.rd) (n := 0)
       simpa using this
     · rename_i t s act' a b
       unfold trS at hh
       replace hh := bif_and hh; obtain ⟨hm, hB, hh⟩ := hh
       obtain ⟨x, hx, hh⟩ := ob hh
       have hfr := (hr.frz act').drew
       have key := runT_ok (l := ops.toList) (F := fun a' w' => wpLs P ops.toList.toArray Q (picks ops.toList []) a' w') t hx hfr rfl (fun h' σ' m' K' ρ' w' h1 h2 h3 => by
         obtain ⟨h'', σ2, m2, K2, g1, g2, g3⟩ := prep_ok h' h3 h1
         have hi : Inn σ fr ⟨m, K, ρ, fun _ => false, fr.F, fr.k0⟩ m K ρ (minus σ.H act') σ2 (s.sl.map (·.1) ++ dsts ops.toList) := ⟨rfl, rfl, rfl, rfl, rfl, (g2.2.trans h2.2), minus_sub, fun _ _ => rfl⟩
         obtain ⟨σ3, m3, q1, q2, q3⟩ := lay_ok hr hi g3 g1 hh
         exact hQ .normal b σ3 m3 K2 ρ' w' q3 q2 q1)
       have := wp_region_tree (id := id) (Q := Q) t [] hm hB _ hfr.cfz rfl key hn (r := E.rd) (n := 0)
       simpa using this
     · cases hh
 | .seq a b => fun R E fr hrd h σ k r m K ρ w Q hh hr hQ => by
   have plain : ∀ h0, exec J n a h0 σ (onNorm k (fun h σ => exec J n b h σ k)) = some r → (Code.seq a b).wpIn (wideR E.rd) 0 P Q (act1 n ρ) w := fun h0 hh =>
     wpIn_seq (exec_ok hJ a R E fr hrd h0 σ _ r m K ρ w _ hh hr (onNorm_ok (σ0 := σ) (fun h' σ' m' K' ρ' w' h1 h2 h3 => exec_ok hJ b R E fr hrd h' σ' k r m' K' ρ' w' Q h3 h1 (fun e h'' σ'' m'' K'' ρ'' w'' q1 q2 q3 => hQ e h'' σ'' m'' K'' ρ'' w'' q1 (h2.trans q2) q3)) hQ))
   cases h with
   | sq mk s act ha hb =>
     have hh : (match Zt.mcs mk σ with | some σ => joinN (fun h σ R k => exec J n a h σ k) s act (s.sl.map (·.1) ++ writes a) ha hb σ (fun h σ => exec J n b h σ k) | none => none) = some r := hh
     split at hh
     · rename_i σ1 hm
       obtain ⟨m1, k1, k2⟩ := mcs_ok hm hr
       refine wpIn_seq (joinN_ok (exec_ok hJ a) hrd hh k2 (fun h' σ' m' K' ρ' w' h1 h2 h3 => ?_))
       exact exec_ok hJ b R E fr hrd h' σ' k r m' K' ρ' w' Q h3 h1 (fun e h'' σ'' m'' K'' ρ'' w'' q1 q2 q3 => hQ e h'' σ'' m'' K'' ρ'' w'' q1 ((k1.trans h2).trans q2) q3)
     · cases hh
   | sx mk s act ha hb =>
     have hh : (match Zt.mcs mk σ with | some σ => joinX (fun h σ R k => exec J n a h σ k) s act (s.sl.map (·.1) ++ writes a) ha hb σ (onNorm k (fun h σ => exec J n b h σ k)) | none => none) = some r := hh
     split at hh
     · rename_i σ1 hm
       obtain ⟨m1, k1, k2⟩ := mcs_ok hm hr
       refine wpIn_seq (joinX_ok (exec_ok hJ a) hrd hh k2 ?_)
       exact onNorm_ok (σ0 := σ1) (fun h' σ' m' K' ρ' w' h1 h2 h3 => exec_ok hJ b R E fr hrd h' σ' k r m' K' ρ' w' Q h3 h1 (fun e h'' σ'' m'' K'' ρ'' w'' q1 q2 q3 => hQ e h'' σ'' m'' K'' ρ'' w'' q1 ((k1.trans h2).trans q2) q3)) (fun e h' σ' m' K' ρ' w' q1 q2 q3 => hQ e h' σ' m' K' ρ' w' q1 (k1.trans q2) q3)
     · cases hh
   | pl h => exact plain h hh
   | nil => exact plain _ hh
   | two _ _ _ => exact plain _ hh
   | tw _ _ _ => exact plain _ hh
   | jn _ _ _ _ _ => exact plain _ hh
   | jx _ _ _ _ _ => exact plain _ hh
   | lp _ _ => exact plain _ hh
   | un _ _ => exact plain _ hh
   | per _ _ _ => exact plain _ hh
   | perb _ _ _ _ => exact plain _ hh
   | mc _ _ _ _ => exact plain _ hh
   | ms _ _ => exact plain _ hh
   | wt _ _ => exact plain _ hh
   | cl _ _ _ => exact plain _ hh
   | c2 _ _ _ _ => exact plain _ hh
   | gp _ _ => exact plain _ hh
   | gj _ _ _ _ _ => exact plain _ hh
   | mix _ _ _ _ _ => exact plain _ hh
   | opn _ _ _ => exact plain _ hh
   | opb _ _ _ => exact plain _ hh
   | cls _ _ _ => exact plain _ hh
   | opp _ _ _ _ => exact plain _ hh
   | ot _ _ => exact plain _ hh
   | cm _ _ _ _ => exact plain _ hh
   | cm2 _ _ _ _ _ => exact plain _ hh
   | tr _ _ _ _ _ => exact plain _ hh
   | tru _ => exact plain _ hh
   | yl _ _ => exact plain _ hh
   | rg _ _ => exact plain _ hh
   | il _ _ => exact plain _ hh
 | .cond c x y => fun R E fr hrd h σ k r m K ρ w Q hh hr hQ => by
   obtain ⟨h1, σ1, m1, K1, g1, g2, g3⟩ := prep_ok h (show prep h σ (fun h σ => condS c (σ.evr n c) h σ (fun h σ => exec J n x h σ k) (fun h σ => exec J n y h σ k)) = some r from hh) hr
   have hv := g3.toPur.evr n c
   have goX : ∀ h2 σ2, Rel E fr σ2 m1 K1 ρ w → Same σ σ2 → exec J n x h2 σ2 k = some r → x.wpIn (wideR E.rd) 0 P Q (act1 n ρ) w := fun h2 σ2 q1 q2 q3 =>
     exec_ok hJ x R E fr hrd h2 σ2 k r m1 K1 ρ w Q q3 q1 (fun e h'' σ'' m'' K'' ρ'' w'' p1 p2 p3 => hQ e h'' σ'' m'' K'' ρ'' w'' p1 (q2.trans p2) p3)
   have goY : ∀ h2 σ2, Rel E fr σ2 m1 K1 ρ w → Same σ σ2 → exec J n y h2 σ2 k = some r → y.wpIn (wideR E.rd) 0 P Q (act1 n ρ) w := fun h2 σ2 q1 q2 q3 =>
     exec_ok hJ y R E fr hrd h2 σ2 k r m1 K1 ρ w Q q3 q1 (fun e h'' σ'' m'' K'' ρ'' w'' p1 p2 p3 => hQ e h'' σ'' m'' K'' ρ'' w'' p1 (q2.trans p2) p3)
   have slot : ∀ (d : Nat) (sv : SV), c = .tmp d → σ1.evr n c = sv → sv ≠ .any → σ1.get d = sv := fun d sv hc he hne => by
     subst hc
     cases hh : Nat.blt d n with
     | false =>
       have : σ1.evr n (.tmp d) = .any := by show (bif Nat.blt d n then σ1.get d else .any) = _; rw [hh]; rfl
       rw [this] at he; exact absurd he.symm hne
     | true =>
       have : σ1.evr n (.tmp d) = σ1.get d := by show (bif Nat.blt d n then σ1.get d else .any) = _; rw [hh]; rfl
       rw [← this]; exact he
   unfold condS at g1
   split at g1
   · rename_i jm w0 e
     rw [e] at hv
     obtain ⟨hj, hv⟩ := hv
     split at g1
     · rename_i t
       have hb : ev n ρ c = .bool t := hv
       rw [hb] at hj
       refine wpIn_cond_split (t := t) (by rw [eval_act1]; exact hb) (fun ht => ?_) (fun ht => ?_)
       · subst ht
         split at g1
         · exact goX _ _ (g3.fix (v := .bool true) hj rfl) (g2.trans ⟨rfl, rfl⟩) g1
         · exact goX _ σ1 g3 g2 g1
         · exact goX _ σ1 g3 g2 g1
       · subst ht
         split at g1
         · exact goY _ _ (g3.fix (v := .bool false) hj rfl) (g2.trans ⟨rfl, rfl⟩) g1
         · exact goY _ σ1 g3 g2 g1
         · exact goY _ σ1 g3 g2 g1
     · cases g1
   · rename_i t e
     rw [e] at hv
     have hb : ev n ρ c = .bool t := hv
     refine wpIn_cond_split (t := t) (by rw [eval_act1]; exact hb) (fun ht => ?_) (fun ht => ?_)
     · subst ht
       split at g1
       · rename_i ha hbn d _
         have hg := slot d _ rfl e nofun
         exact goX ha _ (g3.ref (fun _ _ u hu => by rw [hg] at hu; exact hu) (by rw [hg]; nofun)) (g2.trans ⟨rfl, ref_H.2⟩) g1
       · exact goX _ σ1 g3 g2 g1
       · exact goX _ σ1 g3 g2 g1
     · subst ht
       split at g1
       · rename_i ha hbn d _
         have hg := slot d _ rfl e nofun
         exact goY hbn _ (g3.ref (fun _ _ u hu => by rw [hg] at hu; exact hu) (by rw [hg]; nofun)) (g2.trans ⟨rfl, ref_H.2⟩) g1
       · exact goY _ σ1 g3 g2 g1
       · exact goY _ σ1 g3 g2 g1
   · rename_i tp l ng e
     rw [e] at hv
     obtain ⟨q, hb, hl⟩ := hv
     refine wpIn_cond_split (t := q ^^ ng) (by rw [eval_act1]; exact hb) (fun ht => ?_) (fun ht => ?_)
     · split at g1
       · rename_i ha hbn _
         cases ng with
         | true =>
           rw [Bool.xor_true] at ht
           simp only [cond_true] at g1
           exact goX ha _ g3 g2 (nilb_cons g1)
         | false =>
           rw [Bool.xor_false] at ht
           simp only [cond_false] at g1
           exact goX ha _ g3 g2 (nilb_nil (hl ht) g1)
       · cases g1
     · split at g1
       · rename_i ha hbn _
         cases ng with
         | true =>
           rw [Bool.xor_true] at ht
           simp only [cond_true] at g1
           exact goY hbn _ g3 g2 (nilb_nil (hl (by simpa using ht)) g1)
         | false =>
           rw [Bool.xor_false] at ht
           simp only [cond_false] at g1
           exact goY hbn _ g3 g2 (nilb_cons g1)
       · cases g1
   · cases g1
 | .block id b => fun R E fr hrd h σ k r m K ρ w Q hh hr hQ => by
   have blk : ∀ {R : Type} {k : Exit → Hn P → Zt → Option R} {r : R} {Q : Exit → Act → World → Prop} {fr : Frz} {σ : Zt}, (∀ e h' σ' m' K' ρ' w', Rel E fr σ' m' K' ρ' w' → Same σ σ' → k e h' σ' = some r → Q e (act1 n ρ') w') →
       ∀ e h' σ' m' K' ρ' w', Rel E fr σ' m' K' ρ' w' → Same σ σ' → onBlk id k e h' σ' = some r → Exit.inBlock id Q e (act1 n ρ') w' := by
     intro R k r Q fr σ hQ e h' σ' m' K' ρ' w' h1 h2 h3
     cases e with
     | exit i =>
       change (bif Nat.beq i id then k .normal h' σ' else k (.exit i) h' σ') = some r at h3
       show if i = id then _ else _
       cases hb : Nat.beq i id with
       | true =>
         rw [hb] at h3
         rw [if_pos (Nat.eq_of_beq_eq_true hb)]
         exact hQ _ h' σ' m' K' ρ' w' h1 h2 h3
       | false =>
         rw [hb] at h3
         rw [if_neg (fun e => by rw [e, Nat.beq_refl] at hb; cases hb)]
         exact hQ _ h' σ' m' K' ρ' w' h1 h2 h3
     | normal => exact hQ _ h' σ' m' K' ρ' w' h1 h2 h3
     | goto l => exact hQ _ h' σ' m' K' ρ' w' h1 h2 h3
     | ret => exact hQ _ h' σ' m' K' ρ' w' h1 h2 h3
     | panic i => exact hQ _ h' σ' m' K' ρ' w' h1 h2 h3
     | outgrown => exact hQ _ h' σ' m' K' ρ' w' h1 h2 h3
   have fb : Fok P n (.block id b) (fun h σ R k => exec J n b h σ (onBlk id k)) := fun R E fr hrd h σ k r m K ρ w Q hh hr hQ => by
     refine wpIn_block (exec_ok hJ b R E fr hrd h σ _ r m K ρ w _ hh hr ?_)
     intro e h' σ' m' K' ρ' w' h1 h2 h3
     cases e with
     | exit i =>
       change (bif Nat.beq i id then k .normal h' σ' else k (.exit i) h' σ') = some r at h3
       show if i = id then _ else _
       cases hb : Nat.beq i id with
       | true =>
         rw [hb] at h3
         rw [if_pos (Nat.eq_of_beq_eq_true hb)]
         exact hQ _ h' σ' m' K' ρ' w' h1 h2 h3
       | false =>
         rw [hb] at h3
         rw [if_neg (fun e => by rw [e, Nat.beq_refl] at hb; cases hb)]
         exact hQ _ h' σ' m' K' ρ' w' h1 h2 h3
     | normal => exact hQ _ h' σ' m' K' ρ' w' h1 h2 h3
     | goto l => exact hQ _ h' σ' m' K' ρ' w' h1 h2 h3
     | ret => exact hQ _ h' σ' m' K' ρ' w' h1 h2 h3
     | panic i => exact hQ _ h' σ' m' K' ρ' w' h1 h2 h3
     | outgrown => exact hQ _ h' σ' m' K' ρ' w' h1 h2 h3
   have plain : ∀ h0, exec J n b h0 σ (onBlk id k) = some r → (Code.block id b).wpIn (wideR E.rd) 0 P Q (act1 n ρ) w := fun h0 hh => fb R E fr hrd h0 σ k r m K ρ w Q hh hr hQ
   cases h with
   | jn mk s act ha hb =>
     have hh : (match Zt.mcs mk σ with | some σ => joinN (fun h σ R k => exec J n b h σ (onBlk id k)) s act (s.sl.map (·.1) ++ writes b) ha hb σ (k .normal) | none => none) = some r := hh
     split at hh
     · rename_i σ1 hm
       obtain ⟨m1, k1, k2⟩ := mcs_ok hm hr
       exact joinN_ok fb hrd hh k2 (fun h' σ' m' K' ρ' w' h1 h2 h3 => hQ _ h' σ' m' K' ρ' w' h1 (k1.trans h2) h3)
     · cases hh
   | jx mk s act ha hb =>
     have hh : (match Zt.mcs mk σ with | some σ => joinX (fun h σ R k => exec J n b h σ (onBlk id k)) s act (s.sl.map (·.1) ++ writes b) ha hb σ k | none => none) = some r := hh
     split at hh
     · rename_i σ1 hm
       obtain ⟨m1, k1, k2⟩ := mcs_ok hm hr
       exact joinX_ok fb hrd hh k2 (fun e h' σ' m' K' ρ' w' q1 q2 q3 => hQ e h' σ' m' K' ρ' w' q1 (k1.trans q2) q3)
     · cases hh
   | pl h => exact plain _ hh
   | nil => exact plain _ hh
   | two _ _ _ => exact plain _ hh
   | tw _ _ _ => exact plain _ hh
   | sq _ _ _ _ _ => exact plain _ hh
   | sx _ _ _ _ _ => exact plain _ hh
   | lp _ _ => exact plain _ hh
   | un _ _ => exact plain _ hh
   | per _ _ _ => exact plain _ hh
   | perb _ _ _ _ => exact plain _ hh
   | mc _ _ _ _ => exact plain _ hh
   | ms _ _ => exact plain _ hh
   | wt _ _ => exact plain _ hh
   | cl _ _ _ => exact plain _ hh
   | c2 _ _ _ _ => exact plain _ hh
   | gp _ _ => exact plain _ hh
   | gj _ _ _ _ _ => exact plain _ hh
   | mix _ _ _ _ _ => exact plain _ hh
   | opn _ _ _ => exact plain _ hh
   | opb _ _ _ => exact plain _ hh
   | cls _ _ _ => exact plain _ hh
   | opp _ _ _ _ => exact plain _ hh
   | ot _ _ => exact plain _ hh
   | cm _ _ _ _ => exact plain _ hh
   | cm2 _ _ _ _ _ => exact plain _ hh
   | tr _ _ _ _ _ => exact plain _ hh
   | tru _ => exact plain _ hh
   | yl _ _ => exact plain _ hh
   | rg _ _ => exact plain _ hh
   | il _ _ => exact plain _ hh
 | .loop b => fun R E fr hrd h σ k r m K ρ w Q hh hr hQ => by
   obtain ⟨h1, σ1, m1, K1, g1, g2, g3⟩ := prep_ok h (show prep h σ (fun h σ => match h with
     | .un m r => unroll (fun h σ k => exec J n b h σ k) k m r σ
     | .lp s ha => lpRun (fun h σ R k => exec J n b h σ k) s (s.sl.map (·.1) ++ writes b) ha σ k
     | _ => none) = some r from hh) hr
   have hQ' : ∀ e h' σ' m' K' ρ' w', Rel E fr σ' m' K' ρ' w' → Same σ1 σ' → k e h' σ' = some r → Q e (act1 n ρ') w' := fun e h'' σ'' m'' K'' ρ'' w'' p1 p2 p3 => hQ e h'' σ'' m'' K'' ρ'' w'' p1 (g2.trans p2) p3
   split at g1
   · exact wpIn_loop_rounds _ (unroll_ok (exec_ok hJ b) hrd hQ' _ g1 g3 Same.rfl')
   · exact lpRun_ok (exec_ok hJ b) hrd g1 g3 hQ'
   · cases g1
 | .rangeFunc g ps ao bo => fun R E fr hrd h σ k r m K ρ w Q hh hr hQ => by
   obtain ⟨h1, σ1, m1, K1, g1, g2, g3⟩ := prep_ok h (show prep h σ (fun h σ => rgRun J n g ps ao bo h σ k) = some r from hh) hr
   exact rgRun_ok hJ hrd g1 g3 (fun e h'' σ'' m'' K'' ρ'' w'' p1 p2 p3 => hQ e h'' σ'' m'' K'' ρ'' w'' p1 (g2.trans p2) p3)
 | .goto l => fun R E fr hrd h σ k r m K ρ w Q hh hr hQ => by cases hh
 | .refuse s => fun R E fr hrd h σ k r m K ρ w Q hh hr hQ => by cases hh
theorem execN_ok : ∀ d : Nat, JOk (execN (P := P) d)
 | 0 => fun n c R E fr hrd h σ k r m K ρ w Q hh hr hQ => by cases hh
 | d + 1 => fun n c => exec_ok (execN_ok d) c
end
end
section
variable [BldA]
def resS (P : Program) (n : Nat) (σ : Zt) : List ResultVar → Option (List SV)
 | [] => some []
 | .tmp t :: r => (match resS P n σ r with | some vs => some (σ.ev n (.tmp t) :: vs) | none => none)
 | .cell a ty :: r => (match σ.ev n (.tmp a) with
   | .ptr i o => (match findR (HA.blkR i) (σ.H ++ σ.Hf) with
     | some q => (match ldv P ty q.cs o, resS P n σ r with | some v, some vs => some (v :: vs) | _, _ => none)
     | none => none)
   | _ => none)
def resV : List SV → SV
 | [v] => v
 | vs => .tup vs
def finO (σ : Zt) (rs : List SV) (o : Sh) : Option (TL o.ts) := bif (match rs, o.sl with | [], [] => true | _ :: _, [p] => Nat.beq p.1 0 | _, _ => false) then (match o.get (fun _ => resV rs) σ.H with | some g => TL.of o.ts g.ds | none => none) else none
def finD {P : Program} (σ : Zt) (rs : List SV) : (os : List Sh) → Hn P → Option (OutT os)
 | [a], _ => finO σ rs a
 | [a, b], h => (match h with | .pl _ => (finO σ rs b).map Sum.inr | _ => (finO σ rs a).map Sum.inl)
 | _, _ => none
def finF {P : Program} (n : Nat) (fn : Func) (os : List Sh) (h : Hn P) (σ : Zt) : Option (OutT os) := prep h σ fun h σ => match resS P n σ fn.results.toList with | some rs => finD σ rs os h | none => none
def fin {P : Program} (n : Nat) (fn : Func) (os : List Sh) (e : Exit) (h : Hn P) (σ : Zt) : Option (OutT os) := match e with
 | .normal => finF n fn os h σ
 | .ret => finF n fn os h σ
 | _ => none
noncomputable def runF {P : Program} (n : Nat) (fn : Func) (c : Code) (inn : Sh) (os : List Sh) (h : Hn P) (x : TL inn.ts) : Option (OutT os) := match inn.un (TL.list inn.ts x) 0 with
 | some (vs, u) => prep h ⟨fun _ => .any, vs, u.H, [], u.nx, false⟩ fun h σ => exec (execN 4) n c h σ (fin n fn os)
 | none => none
section
variable {P : Program} {E : En} {n : Nat} {m : List M} {K : Hp} {fr : Frz} {σ : Zt} {ρ : Sl1} {w : World}
theorem resS_ok (hr : Rel E fr σ m K ρ w) : ∀ {l : List ResultVar} {rs : List SV}, resS P n σ l = some rs → ∃ us : List Value, SV.relL m K rs us ∧ l.length = us.length ∧ ∀ (j : Nat) (r : ResultVar) (v : Value), l[j]? = some r → us[j]? = some v → RvOk P n (Hold E K (σ.atoms fr m)) ρ r v
 | [], rs, h => by cases h; exact ⟨[], rfl, rfl, fun j r v h => by simp at h⟩
 | .tmp t :: l, rs, h => by
   unfold resS at h
   split at h
   · rename_i vs hvs
     cases h
     obtain ⟨us, h1, h2, h3⟩ := resS_ok hr hvs
     refine ⟨ev n ρ (.tmp t) :: us, ⟨_, us, rfl, hr.toPur.ev n (.tmp t), h1⟩, by simp [h2], fun j r v hj hv => ?_⟩
     cases j with
     | zero => simp at hj hv; subst hj hv; rfl
     | succ j => exact h3 j r v (by simpa using hj) (by simpa using hv)
   · cases h
 | .cell a ty :: l, rs, h => by
   unfold resS at h
   split at h
   · rename_i i o e
     split at h
     · rename_i q hq
       split at h
       · rename_i v vs hv hvs
         cases h
         obtain ⟨us, h1, h2, h3⟩ := resS_ok hr hvs
         obtain ⟨x, hx, hmem⟩ := findR_spec hq
         obtain rfl := blkR_eq hx
         obtain ⟨b, ws, g1, g2, g3⟩ := hr.cls.blk hmem
         obtain ⟨u, g4, g5⟩ := ldv_ok (P := P) (o0 := 0) hv g2 (fun j u hu => by rw [Nat.zero_add]; exact g3 j u hu)
         rw [Nat.zero_add] at g4
         have hev := hr.toPur.ev n (.tmp a)
         rw [e] at hev
         obtain ⟨b', q1, q2⟩ := hev
         rw [g1] at q1; cases q1
         refine ⟨u :: us, ⟨_, us, rfl, g5, h1⟩, by simp [h2], fun j r v hj hv => ?_⟩
         cases j with
         | zero => simp at hj hv; subst hj hv; exact ⟨b, o, q2, g4⟩
         | succ j => exact h3 j r v (by simpa using hj) (by simpa using hv)
       · cases h
     · cases h
   · cases h
theorem mapM_run {C : World → Prop} {w : World} (hw : C w) : ∀ {l : List ResultVar} {us : List Value}, l.length = us.length → (∀ (j : Nat) (r : ResultVar) (v : Value), l[j]? = some r → us[j]? = some v → RvOk P n C ρ r v) → (l.mapM (rvS (frm n ρ))).run P w = .ok us w
 | [], us, h, _ => by
   obtain rfl : us = [] := List.length_eq_zero_iff.1 h.symm
   simp
 | r :: l, us, h, hr => by
   cases us with
   | nil => cases h
   | cons u us =>
     have h1 := rv_run (hr 0 r u rfl rfl) hw
     have h2 := mapM_run hw (l := l) (us := us) (by simpa using h) (fun j r v hj hv => hr (j + 1) r v (by simpa using hj) (by simpa using hv))
     simp [List.mapM_cons, h1, h2]
def tupV : List Value → Value
 | [v] => v
 | vs => .tuple vs.toArray
theorem res_run {C : World → Prop} {w : World} (hw : C w) {fn : Func} {us : List Value} (hl : fn.results.toList.length = us.length) (h : ∀ (j : Nat) (r : ResultVar) (v : Value), fn.results.toList[j]? = some r → us[j]? = some v → RvOk P n C ρ r v) : (results fn (frm n ρ)).run P w = .ok (tupV us) w := by
 have h1 := mapM_run hw hl h
 rw [results_rvS]
 simp only [Array.mapM_eq_mapM_toList]
 simp only [Sem.run_bind, Sem.run_map, h1, Result.andThen_ok, Sem.run_pure]
 match us with
 | [] => rfl
 | [u] => rfl
 | u :: v :: r =>
   rw [dif_neg (by simp)]
   rfl
theorem resV_rel {rs : List SV} {us : List Value} (h : SV.relL m K rs us) (hne : rs ≠ []) : SV.rel m K (resV rs) (tupV us) := by
 match rs, us, h with
 | [], _, _ => exact absurd rfl hne
 | [v], us, h =>
   obtain ⟨u, q, rfl, h1, h2⟩ := relL_cons h
   obtain rfl := relL_nil h2
   exact h1
 | v :: v2 :: r, us, h =>
   obtain ⟨u, q, rfl, h1, h2⟩ := relL_cons h
   obtain ⟨u2, q2, rfl, h3, h4⟩ := relL_cons h2
   exact ⟨_, rfl, u, _, rfl, h1, u2, q2, rfl, h3, h4⟩
theorem finO_ok {rs : List SV} {us : List Value} {o : Sh} {x : TL o.ts} {K0 : Hp} {m0 : List M} (h : finO σ rs o = some x) (hr : Rel E fr σ m K ρ w) (hrel : SV.relL m K rs us) (hm : m0 <+: m) (ho : oldOk o.bl m0.length = true) (hF : σ.Hf = []) :
   ∃ vs' u' m', o.un (TL.list o.ts x) m0.length = some (vs', u') ∧ m0 <+: m' ∧ m'.length = u'.nx ∧ (∀ a ∈ u'.H, HA.ok m' K a) ∧ resR m' K vs' (tupV us) ∧ Sep E K (u'.H.map (HA.conc m') ++ fr.F) w := by
 unfold finO at h
 replace h := bift h; obtain ⟨hs, h⟩ := h
 split at h
 · rename_i g hg
   obtain ⟨vs, u, ms, e1, e2, e3, e4, e5, e6, e7, e8⟩ := Sh.get_un hg hr.okH hm ho
   rw [TL.of_list h]
   refine ⟨vs, u, m0 ++ ms, e1, pre_app _ _, e2, e4, ?_, ?_⟩
   · split at hs
     · rename_i hsl
       rw [hsl] at e3
       obtain rfl : vs = [] := e3
       obtain rfl := relL_nil hrel
       rfl
     · rename_i v r p hsl
       rw [hsl] at e3
       obtain ⟨sv, q, rfl, g1, g2⟩ := e3
       obtain rfl : q = [] := g2
       exact g1 _ (resV_rel hrel (by simp))
     · cases hs
   · have := e6 E _ w hr.toSep
     have h2 : σ.fz fr = fr.F := by unfold Zt.fz; rw [hF]; rfl
     rw [h2] at this
     have h3 : Sep E K (g.H.map (HA.conc m) ++ (u.H.map (HA.conc (m0 ++ ms)) ++ fr.F)) w := Sep.perm (perm3 _ _ _) this
     exact Sep.drops h3
 · cases h
theorem finD_ok {rs : List SV} {us : List Value} {m0 : List M} (hr : Rel E fr σ m K ρ w) (hrel : SV.relL m K rs us) (hm : m0 <+: m) (hF : σ.Hf = []) : ∀ {os : List Sh} {h0 : Hn P} {r : OutT os}, (∀ o ∈ os, oldOk o.bl m0.length = true) → finD σ rs os h0 = some r →
   ∃ vs' u' m', (outSh os r).1.un (outSh os r).2 m0.length = some (vs', u') ∧ m0 <+: m' ∧ m'.length = u'.nx ∧ (∀ a ∈ u'.H, HA.ok m' K a) ∧ resR m' K vs' (tupV us) ∧ Sep E K (u'.H.map (HA.conc m') ++ fr.F) w
 | [], h0, r, _, h => Empty.elim r
 | [a], h0, r, ho, h => finO_ok (K0 := K) (show finO σ rs a = some r from h) hr hrel hm (ho a (by simp)) hF
 | [a, b], h0, r, ho, h => by
   have key : (finO σ rs b).map Sum.inr = some r ∨ (finO σ rs a).map Sum.inl = some r := by
     cases h0 <;> first | exact .inl h | exact .inr h
   clear h
   rcases key with h | h
   · rw [Option.map_eq_some_iff] at h
     obtain ⟨x, h, rfl⟩ := h
     exact finO_ok (K0 := K) h hr hrel hm (ho b (by simp)) hF
   · rw [Option.map_eq_some_iff] at h
     obtain ⟨x, h, rfl⟩ := h
     exact finO_ok (K0 := K) h hr hrel hm (ho a (by simp)) hF
 | a :: b :: c :: os, h0, r, _, h => by cases h
theorem args_look : ∀ {sl : List (Nat × Kd)} {vs : List (Nat × SV)} {us : List Value} {j N : Nat}, slN j sl N = true → vs.map (·.1) = sl.map (·.1) → slR m K vs us → ∀ i sv, look vs i = some sv → ∃ k u, i = j + k ∧ us[k]? = some u ∧ SV.rel m K sv u
 | [], vs, us, j, N, h1, h2, h3, i, sv, hl => by
   have : vs = [] := by cases vs with | nil => rfl | cons a b => cases h2
   subst this; cases hl
 | p :: sl, vs, us, j, N, h1, h2, h3, i, sv, hl => by
   cases vs with
   | nil => cases h2
   | cons q vs =>
     simp only [List.map_cons, List.cons.injEq] at h2
     simp only [slN, Bool.and_eq_true] at h1
     have hj := Nat.eq_of_beq_eq_true h1.1
     obtain ⟨u, r, rfl, g1, g2⟩ := h3
     change (bif Nat.beq q.1 i then some q.2 else look vs i) = some sv at hl
     cases hb : Nat.beq q.1 i with
     | true =>
       rw [hb] at hl; cases hl
       have := Nat.eq_of_beq_eq_true hb
       exact ⟨0, u, by rw [← this, h2.1, hj]; rfl, rfl, g1⟩
     | false =>
       rw [hb] at hl
       obtain ⟨k, u', e1, e2, e3⟩ := args_look h1.2 h2.2 g2 i sv hl
       exact ⟨k + 1, u', by omega, by simpa using e2, e3⟩
theorem unS_keys {bi : List Nat} : ∀ {sl : List (Nat × Kd)} {u u' : Un} {vs : List (Nat × SV)}, unS bi sl u = some (vs, u') → vs.map (·.1) = sl.map (·.1)
 | [], u, u', vs, h => by cases h; rfl
 | p :: sl, u, u', vs, h => by
   unfold unS at h
   split at h
   · split at h
     · rename_i h2
       cases h
       simp [unS_keys h2]
     · cases h
   · cases h
theorem un_keys {s : Sh} {ds : List Dat} {nx : Nat} {vs : List (Nat × SV)} {u : Un} (h : s.un ds nx = some (vs, u)) : vs.map (·.1) = s.sl.map (·.1) := by
 unfold Sh.un at h
 replace h := (bift h).2
 split at h
 split at h
 · rename_i h1
   split at h
   · cases h; exact unS_keys h1
   · cases h
 · cases h
theorem slR_len : ∀ {vs : List (Nat × SV)} {us : List Value}, slR m K vs us → us.length = vs.length
 | [], us, h => by obtain rfl : us = [] := h; rfl
 | p :: vs, us, ⟨u, r, e, _, h⟩ => by subst e; simp [slR_len h]
end
section
variable {P : Program} {E : En} {n : Nat} {m : List M} {K : Hp} {fr : Frz} {σ : Zt} {ρ : Sl1} {w : World}
theorem resS_kq {b : Bool} : ∀ l : List ResultVar, resS P n ⟨σ.base, σ.top, σ.H, σ.Hf, σ.nx, b⟩ l = resS P n σ l
 | [] => rfl
 | .tmp t :: r => by unfold resS; rw [resS_kq r]; rfl
 | .cell a ty :: r => by unfold resS; rw [resS_kq r]; rfl
theorem finD_kq {b : Bool} {rs : List SV} : ∀ {os : List Sh} {h : Hn P}, finD ⟨σ.base, σ.top, σ.H, σ.Hf, σ.nx, b⟩ rs os h = finD σ rs os h
 | [], h => rfl
 | [a], h => rfl
 | [a, b], h => by cases h <;> rfl
 | a :: b :: c :: os, h => rfl
end
section
variable {P : Program} {n : Nat}
theorem fn_ok {s : Spec} {fn : Func} {c : Code} (hf : P.funcs[s.f]? = some fn) (hb : fn.body = some c) (hn : fn.ntmps = n) (h : Hn P) (hc : (slN 0 s.inn.sl s.inn.sl.length && Nat.ble s.inn.sl.length n) = true) (hold : ∀ ds vs u, s.inn.un ds 0 = some (vs, u) → ∀ o ∈ s.outs, oldOk o.bl u.nx = true)
   (hex : ∀ (x : TL s.inn.ts) r, s.fn x = some r → runF n fn c s.inn s.outs h x = some r) : SpecOk P s := by
 intro x r hx vs u hu m K args hgk hm hok hsl E w F hs
 rw [Bool.and_eq_true] at hc
 obtain ⟨hc1, hc2⟩ := hc
 have hkeys := un_keys hu
 have hlen : args.toArray.size ≤ n := by
   have h1 := slR_len hsl
   have h2 : vs.length = s.inn.sl.length := by have := congrArg List.length hkeys; simpa using this
   simp only [List.size_toArray]
   have := Nat.le_of_ble_eq_true hc2
   omega
 refine callsIn_wide.1 (callsIn_of_wp_marks (F := Fence.wide) (n := 0) hf hb trivial ?_)
 rw [hn, frm_args hlen]
 have hrun := hex x r hx
 unfold runF at hrun
 rw [hu] at hrun
 simp only at hrun
 have hrel : Rel E.out0 ⟨m, K, args1 args.toArray, fun _ => false, F, K⟩ ⟨fun _ => .any, vs, u.H, [], u.nx, false⟩ m K (args1 args.toArray) w := by
   refine ⟨⟨List.prefix_refl m, Hp.le_refl K, hm, fun e => (by cases e), fun i => trivial, fun i e => rfl, fun i _ => .inr rfl, fun i sv hi => ?_, hok, fun a ha => by simp at ha, MOk.nil hgk (Hp.le_refl K)⟩, ?_⟩
   · obtain ⟨k, v, e1, e2, e3⟩ := args_look hc1 hkeys hsl i sv hi
     have : args1 args.toArray i = v := by
       show args0 args.toArray i = v
       unfold args0
       rw [e1, Nat.zero_add]
       simp [e2]
     rw [this]; exact e3
   · exact hs.out0
 obtain ⟨hp, σp, mp, Kp, p1, p2, p3⟩ := prep_ok h hrun hrel
 refine exec_ok (execN_ok 4) c (OutT s.outs) E.out0 ⟨m, K, args1 args.toArray, fun _ => false, F, K⟩ (fun l e => by cases e) hp σp (fin n fn s.outs) r mp Kp _ w _ p1 p3 (fun e h' σ' m' K' ρ' w' h1 h2 h3 => ?_)
 have fini : finF n fn s.outs h' σ' = some r → LeavesInM Fence.wide 0 P fn (act1 n ρ').tmps (fun e w' => ∃ v K' L', e = .returned v ∧ (∃ vs' u' m', (outSh s.outs r).1.un (outSh s.outs r).2 u.nx = some (vs', u') ∧ m <+: m' ∧ m'.length = u'.nx ∧ (∀ a ∈ u'.H, HA.ok m' K' a) ∧ resR m' K' vs' v ∧ L' = u'.H.map (HA.conc m')) ∧ K.le K' ∧ Sep E K' (L' ++ F) w') (act1 n ρ').defers .returning w' := fun h3 => by
   unfold finF at h3
   obtain ⟨h'', σ2, m2, K2, g1, g2, g3⟩ := prep_ok h' h3 h1
   split at g1
   · rename_i rs hrs
     refine marks_leave ρ'.ds g3.mks g3.toSep (fun K3 w3 c1 c2 c3 => ?_)
     have g4 := g3.unmark c1 c2 c2 c3
     rw [← resS_kq (b := false)] at hrs
     rw [← finD_kq (b := false)] at g1
     obtain ⟨us, q1, q2, q3⟩ := resS_ok g4 hrs
     refine ⟨tupV us, res_run (ρ := (⟨ρ'.f, []⟩ : Sl1)) g4.hold q2 q3, ?_⟩
     obtain ⟨vs', u', m'', z1, z2, z3, z4, z5, z6⟩ := finD_ok (m0 := m) g4 q1 g4.hm (((p2.trans h2).trans g2).2) (fun o ho => by rw [hm]; exact hold _ _ _ hu o ho) g1
     rw [hm] at z1
     exact ⟨_, K3, _, rfl, ⟨vs', u', m'', z1, z2, z3, z4, z5, rfl⟩, g4.hK, z6.back⟩
   · cases g1
 cases e with
 | normal => exact fini h3
 | ret => exact fini h3
 | _ => cases h3
end
end
section
variable [BldA]
mutual
theorem un_nx {bi : List Nat} : ∀ (k : Kd) {u u' : Un} {v : SV}, Kd.un bi k u = some (v, u') → u.nx ≤ u'.nx
 | .any, u, u', v, h => by cases h; exact Nat.le_refl _
 | .dat t, u, u', v, h => by unfold Kd.un at h; split at h <;> cases h; exact Nat.le_refl _
 | .nilp, u, u', v, h => by cases h; exact Nat.le_refl _
 | .nils, u, u', v, h => by cases h; exact Nat.le_refl _
 | .nilf, u, u', v, h => by cases h; exact Nat.le_refl _
 | .ptr j o, u, u', v, h => by unfold Kd.un at h; split at h <;> cases h; exact Nat.le_refl _
 | .own e t, u, u', v, h => by unfold Kd.un at h; split at h <;> cases h; exact Nat.le_add_right _ _
 | .al j, u, u', v, h => by unfold Kd.un at h; split at h <;> cases h; exact Nat.le_refl _
 | .fsl j m, u, u', v, h => by unfold Kd.un at h; split at h <;> cases h; exact Nat.le_refl _
 | .agg ks, u, u', v, h => by
   unfold Kd.un at h; split at h
   · cases h; exact unL_nx ks (by assumption)
   · cases h
 | .tup ks, u, u', v, h => by
   unfold Kd.un at h; split at h
   · cases h; exact unL_nx ks (by assumption)
   · cases h
 | .fn f ks, u, u', v, h => by
   unfold Kd.un at h; split at h
   · cases h; exact unL_nx ks (by assumption)
   · cases h
 | .kat t o, u, u', v, h => by
   unfold Kd.un at h; split at h
   · split at h
     · cases h; exact Nat.le_refl _
     · cases h
   · cases h
 | .ifc t k, u, u', v, h => by
   unfold Kd.un at h; split at h
   · cases h; exact un_nx k (by assumption)
   · cases h
 | .lit w, u, u', v, h => by cases h; exact Nat.le_refl _
 | .od o, u, u', v, h => by
   unfold Kd.un at h
   replace h := (bift h).2
   split at h
   · split at h
     · cases h; exact Nat.le_add_right _ _
     · cases h
   · cases h
 | .rp j, u, u', v, h => by unfold Kd.un at h; split at h <;> cases h; exact Nat.le_refl _
 | .is j k, u, u', v, h => by
   unfold Kd.un at h; split at h
   · split at h
     · cases h; exact un_nx k (by assumption)
     · cases h
   · cases h
theorem unL_nx {bi : List Nat} : ∀ (ks : List Kd) {u u' : Un} {vs : List SV}, Kd.unL bi ks u = some (vs, u') → u.nx ≤ u'.nx
 | [], u, u', vs, h => by cases h; exact Nat.le_refl _
 | k :: ks, u, u', vs, h => by
   unfold Kd.unL at h; split at h
   · rename_i h1
     split at h
     · rename_i h2; cases h; exact Nat.le_trans (un_nx k h1) (unL_nx ks h2)
     · cases h
   · cases h
end
theorem unS_nx {bi : List Nat} : ∀ (sl : List (Nat × Kd)) {u u' : Un} {vs : List (Nat × SV)}, unS bi sl u = some (vs, u') → u.nx ≤ u'.nx
 | [], u, u', vs, h => by cases h; exact Nat.le_refl _
 | p :: sl, u, u', vs, h => by
   unfold unS at h; split at h
   · rename_i h1
     split at h
     · rename_i h2; cases h; exact Nat.le_trans (un_nx p.2 h1) (unS_nx sl h2)
     · cases h
   · cases h
theorem unB_nx {bi : List Nat} : ∀ (bl : List Bk) (is : List Nat) {u u' : Un}, unB bi bl is u = some u' → u.nx ≤ u'.nx
 | [], [], u, u', h => by cases h; exact Nat.le_refl _
 | [], i :: is, u, u', h => by cases h
 | b :: bl, [], u, u', h => by cases h
 | b :: bl, i :: is, u, u', h => by
   unfold unB at h; split at h
   · rename_i u1 h1
     refine Nat.le_trans ?_ (unB_nx bl is h)
     unfold unB1 at h1
     cases hn : b.nu with
     | true => rw [hn] at h1; cases h1; exact Nat.le_refl _
     | false =>
       rw [hn] at h1; simp only [cond_false] at h1
       cases hlp : b.lp with
       | true => rw [hlp] at h1; simp only [cond_true] at h1; cases h1; exact Nat.le_refl _
       | false =>
       rw [hlp] at h1; simp only [cond_false] at h1
       cases hr : b.rw with
       | some o =>
         rw [hr] at h1
         dsimp only at h1
         cases hb : b.bu with
         | true =>
           rw [hb] at h1; simp only [cond_true] at h1
           split at h1
           · split at h1
             · split at h1
               · rename_i h2
                 cases h1
                 have h3 := unL_nx b.ks h2
                 exact Nat.le_trans (show u.nx ≤ _ from h3) (Nat.le_succ _)
               · cases h1
             · cases h1
           · cases h1
         | false =>
         rw [hb] at h1; simp only [cond_false] at h1
         split at h1
         · split at h1
           · cases h1; exact Nat.le_succ _
           · cases h1
         · cases h1
       | none =>
       rw [hr] at h1
       dsimp only at h1
       cases hb : b.bu with
       | true =>
         rw [hb] at h1; simp only [cond_true] at h1
         split at h1 <;> cases h1
         exact Nat.le_refl _
       | false =>
         rw [hb] at h1; simp only [cond_false] at h1
         split at h1
         · rename_i h2
           cases h1
           exact Nat.le_trans (unL_nx b.ks h2) (Nat.le_succ _)
         · cases h1
   · cases h
theorem idsB_nx : ∀ (bl : List Bk) (nx : Nat), allOld bl = true → (idsB bl nx).2 = nx + bl.length
 | [], nx, _ => rfl
 | b :: bl, nx, h => by
   simp only [allOld, Bool.and_eq_true] at h
   cases hb : b.old with
   | some i => rw [hb] at h; cases h.1
   | none =>
     simp only [idsB, hb, List.length_cons]
     rw [idsB_nx bl (nx + 1) h.2]
     omega
theorem sh_nx {s : Sh} {ds : List Dat} {vs : List (Nat × SV)} {u : Un} (h : s.un ds 0 = some (vs, u)) (ho : allOld s.bl = true) : s.bl.length ≤ u.nx := by
 unfold Sh.un at h
 replace h := (bift h).2
 have hn := idsB_nx s.bl 0 ho
 split at h
 rename_i bi nx he
 rw [he] at hn
 simp only [Nat.zero_add] at hn
 split at h
 · rename_i h1
   split at h
   · rename_i h2
     cases h
     have := unS_nx s.sl h1
     have := unB_nx s.bl bi h2
     simp only at *
     omega
   · cases h
 · cases h
theorem oldOk_le : ∀ (bl : List Bk) {a b : Nat}, oldOk bl a = true → a ≤ b → oldOk bl b = true
 | [], a, b, h, hab => rfl
 | x :: bl, a, b, h, hab => by
   simp only [oldOk, Bool.and_eq_true] at h ⊢
   refine ⟨?_, oldOk_le bl h.2 hab⟩
   cases ho : x.old with
   | none => rfl
   | some i =>
     have h1 := h.1
     rw [ho] at h1
     simp only [Nat.blt_eq] at h1 ⊢
     omega
def bodyOf (fn : Func) : Code := match fn.body with | some c => c | none => .skip
def specOk (s : Spec) (fn : Func) : Bool := fn.body.isSome && (slN 0 s.inn.sl s.inn.sl.length && Nat.ble s.inn.sl.length fn.ntmps) && (allOld s.inn.bl && s.outs.all fun o => oldOk o.bl s.inn.bl.length)
theorem fn_is {P : Program} {s : Spec} {fn : Func} (hf : P.funcs[s.f]? = some fn) (h : Hn P) (hc : specOk s fn = true) (hex : (fun x => runF fn.ntmps fn (bodyOf fn) s.inn s.outs h x) = s.fn) : SpecOk P s := by
 unfold specOk at hc
 simp only [Bool.and_eq_true] at hc
 obtain ⟨⟨h1, h2, h2'⟩, h3, h4⟩ := hc
 have hb : fn.body = some (bodyOf fn) := by
   unfold bodyOf
   cases hbd : fn.body with
   | none => rw [hbd] at h1; cases h1
   | some c => rfl
 refine fn_ok hf hb rfl h (by rw [h2, h2']; rfl) (fun ds vs u hu o ho => oldOk_le o.bl (List.all_eq_true.1 h4 o ho) (sh_nx hu h3)) (fun x r hx => ?_)
 rw [← hx]
 exact congrFun hex x
end
theorem walkX [BldA] {P : Program} {s : Spec} {W : World} (hs : SpecOk P s) {x : TL s.inn.ts} {r : OutT s.outs} (hr : s.fn x = some r) (hgk : BldA.gk (Hp.of W)) {vs : List (Nat × SV)} (hun : s.inn.un (TL.list _ x) 0 = some (vs, ⟨[], 0, [], []⟩))
   (hout : (outSh s.outs r).1.un (outSh s.outs r).2 0 = some ([(0, .bool true)], ⟨[], 0, [], []⟩)) {args : List Value} (hsl : slR [] (Hp.of W) vs args) :
   Calls P s.f args.toArray W fun e W' => e = .returned (.bool true) ∧ Below W.heap.size W W' := by
 have h := hs x r hr vs _ hun [] (Hp.of W) args hgk rfl (fun a ha => by cases ha) hsl (En.of W) W [] (Sep.start W)
 refine h.mono fun e W' h => ?_
 obtain ⟨v, K', L', rfl, ⟨vs', u', m', h1, _, _, _, h2, _⟩, h3, h4⟩ := h
 have h1 := h1.symm.trans hout
 cases h1
 obtain rfl : v = .bool true := h2
 exact ⟨rfl, h4.below h3⟩
end Go.Proofs.YtmlbbjkojaljnaaDoor
namespace Go.Proofs
open Go.Shelf
def Tryd.lays29_ren : Go.Shelf.Ren := ⟨fun | 29 => 35 | n => n, fun | 22 => 58 | 3 => 3 | 4 => 4 | 25 => 72 | 54 => 74 | 0 => 0 | 5 => 5 | n => n, fun | 1 => 0 | n => n⟩
theorem Tryd.lays29 : Go.Proofs.Lays7.n29 Tryd.prog Tryd.lays29_ren := {
  mixed := by kernel_rfl
  f29 := Tryd.func35.trans (congrArg some (by kernel_rfl))
  t0 := Tryd.underlying0
  a0 := Tryd.isAgg0
  z0 := Tryd.sizeOf0
  v0 := Tryd.zeroValue0
  i0 := by kernel_rfl
  t3 := Tryd.underlying3
  a3 := Tryd.isAgg3
  z3 := Tryd.sizeOf3
  v3 := Tryd.zeroValue3
  i3 := by kernel_rfl
  t4 := Tryd.underlying4
  a4 := Tryd.isAgg4
  z4 := Tryd.sizeOf4
  v4 := Tryd.zeroValue4
  i4 := by kernel_rfl
  t5 := Tryd.underlying5
  a5 := Tryd.isAgg5
  z5 := Tryd.sizeOf5
  v5 := Tryd.zeroValue5
  i5 := by kernel_rfl
  t22 := Tryd.underlying58
  a22 := Tryd.isAgg58
  z22 := Tryd.sizeOf58
  v22 := Tryd.zeroValue58
  i22 := by kernel_rfl
  t25 := Tryd.underlying72
  a25 := Tryd.isAgg72
  z25 := Tryd.sizeOf72
  v25 := Tryd.zeroValue72
  i25 := by kernel_rfl
  t54 := Tryd.underlying74
  a54 := Tryd.isAgg74
  z54 := Tryd.sizeOf74
  g1 := by kernel_rfl }
end Go.Proofs
namespace Go.Proofs.YtmlbbjkojaljnaaDoor
set_option linter.unusedVariables false
set_option linter.unnecessarySimpa false
set_option linter.unusedSectionVars false
set_option linter.unusedSimpArgs false
open Go.RowKit
def tzF (x : Int) : Option Int := if 0 ≤ x ∧ x < 18446744073709551616 then some ((Lib.ctz 64 x.toNat : Nat) : Int) else none
def tzGk (K : Hp) : Prop := ∀ j, j < 64 → cellK K 0 j = some (.int .u8 ((Lib.deBruijn64tab.getD j 0 : Nat) : Int))
theorem tzGk.mono {K K' : Hp} (h : K.cle K') (g : tzGk K) : tzGk K' := fun j hj => h _ _ _ (g j hj)
def sp_TZ : Spec := ⟨35, ⟨[(0, .dat (.int .u64))], []⟩, [⟨[(0, .dat (.int .i64))], []⟩], tzF⟩
theorem TZ_is [BldA] (hg : ∀ K, BldA.gk K → tzGk K) : SpecOk Tryd.prog sp_TZ := by
 intro x r hr vs u hu m K args hgk hm hH hsl E w F hs
 have hu' : sp_TZ.inn.un (TL.list _ x) 0 = some ([(0, .int .u64 x)], ⟨[], 0, [], []⟩) := rfl
 rw [hu'] at hu
 cases hu
 obtain ⟨v, q, rfl, h1, rfl⟩ := hsl
 obtain rfl : v = .int .u64 x := h1
 replace hr : tzF x = some r := hr
 unfold tzF at hr
 split at hr
 · rename_i hx
   cases hr
   have hxe : ((x.toNat : Nat) : Int) = x := Int.toNat_of_nonneg hx.1
   have hc := Any7.bits_TrailingZeros64 Tryd.lays29 x.toNat (by omega) w (fun _ j hj => cellK_world hs.sub (hg K hgk j hj))
   rw [hxe] at hc
   refine Calls.mono (show Calls Tryd.prog 35 #[.int .u64 x] w _ from hc) ?_
   rintro e w' ⟨rfl, rfl⟩
   exact ⟨_, K, [], rfl, ⟨[(0, .int .i64 _)], ⟨[], 0, [], []⟩, m, rfl, List.prefix_rfl, hm, fun a h => (by cases h), rfl, rfl⟩, Hp.le_refl K, hs⟩
 · cases hr
section
open Go.RowKit Go.Conc
section
variable {P : Program} {fr : Frame} {cs : List Frame} {w w₁ : World} {es : Array Event} {c cap s r : Nat} {buf : Array Value} {z z' v : Value} {tm closed : Bool}
theorem step_sel_send_room (h : stepG P true (G fr cs) w = .comm (G fr cs) #[scase c v z'] false .select w₁ es) (hc : w₁.heap[c]? = some (.chan cap buf false s r tm)) (hroom : buf.size < cap) :
   step P (solo (G fr cs) w) = .next (solo (G (fr.finish (.tuple #[goInt 0, .bool false])) cs) (w₁.setChan c cap (buf.push v) false (s + 1) r tm)) := by
 have hp := partners_alone (c := c) false
 rw [step, stepT_solo rfl]
 simp [Go.runT, solo, G, Array.swapAt!, Array.swapAt, h, GStep.es, communicate, ways, scase, hc, hp, hroom, choose, Sem.run, Question.forced, bind, Sem.bind, pure, Goroutine.finishComm, commResult, World.setChan] at h ⊢
 done
theorem step_sel_send_full (h : stepG P true (G fr cs) w = .comm (G fr cs) #[scase c v z'] false .select w₁ es) (hc : w₁.heap[c]? = some (.chan cap buf false s r tm)) (hroom : ¬ buf.size < cap) :
   step P (solo (G fr cs) w) = .next (solo (G (fr.finish (.tuple #[goInt (-1), .bool false])) cs) w₁) := by
 have hp := partners_alone (c := c) false
 rw [step, stepT_solo rfl]
 simp [Go.runT, solo, G, Array.swapAt!, Array.swapAt, h, GStep.es, communicate, ways, scase, hc, hp, hroom, Goroutine.finishComm, commResult] at h ⊢
 done
theorem step_sel_recv_buf (h : stepG P true (G fr cs) w = .comm (G fr cs) #[rcase c z] false .select w₁ es) (hc : w₁.heap[c]? = some (.chan cap buf closed s r tm)) (hsome : 0 < buf.size) :
   step P (solo (G fr cs) w) = .next (solo (G (fr.finish (.tuple #[goInt 0, .bool true, buf.getD 0 undef])) cs) (w₁.setChan c cap (buf.extract 1 buf.size) closed s (r + 1) tm)) := by
 have hp := partners_alone (c := c) true
 rw [step, stepT_solo rfl]
 simp [Go.runT, solo, G, Array.swapAt!, Array.swapAt, h, GStep.es, communicate, ways, rcase, hc, hp, hsome, choose, Sem.run, Question.forced, bind, Sem.bind, pure, Goroutine.finishComm, commResult, World.setChan] at h ⊢
 done
end
end
set_option maxRecDepth 100000
set_option maxHeartbeats 4000000
section
open Go.RowKit Go.Conc
def putF {α : Type} (v : α) (x : Option (Int × List α)) : Option (Bool × Option (Int × List α)) := x.bind fun y => some (decide (((y.2.length : Nat) : Int) < y.1), some (if ((y.2.length : Nat) : Int) < y.1 then (y.1, y.2 ++ [v]) else y))
def getF {α : Type} (d : α) (x : Option (Int × List α)) : Option (α × Bool × Option (Int × List α)) := x.bind fun y => some (y.2.headD d, !y.2.isEmpty, some (y.1, y.2.tail))
theorem onl_chan {w : World} {c cap cap' s r s' r' : Nat} {buf buf' : Array Value} (h : w.heap[c]? = some (.chan cap buf false s r false)) : Onl w (w.setChan c cap' buf' false s' r' false) c (.chan cap' buf' false s' r' false) :=
 ⟨heap_setChan w c cap' buf' false s' r' false (lt_of_block h), fun n x hn hx => by simp only [World.setChan]; rw [Array.getElem?_setIfInBounds_ne (fun e => hn e.symm)]; exact hx, rfl, rfl, rfl⟩
theorem onl_self {w : World} {c : Nat} {o : Obj} (h : w.heap[c]? = some o) : Onl w w c o := ⟨h, fun _ _ _ hx => hx, rfl, rfl, rfl⟩
section
variable (p c : Nat) {T : TypeId} {cap s r : Nat} {buf : Array Value} (w : World)
theorem put_int_room (v : Int) (hp : w.heap[p]? = some (.cells #[.chan (some c)] T (0, 0))) (hc : w.heap[c]? = some (.chan cap buf false s r false)) (hroom : buf.size < cap) :
   Calls Tryd.prog 15 #[.pointer (some ⟨p, 0, none⟩), .int .i64 v] w fun e w' => e = .returned (.bool true) ∧ w' = w.setChan c cap (buf.push (.int .i64 v)) false (s + 1) r false := by
 have hld : w.cell? ⟨p, 0, none⟩ = some (.chan (some c)) := by simp [World.cell?, hp]
 have hfz : w.frozen? ⟨p, 0, none⟩ = false := by simp [World.frozen?, hp]
 refine calls_of_loneTo fun cs => ?_
 have e : Frame.enter Tryd.prog 15 #[.pointer (some ⟨p, 0, none⟩), .int .i64 v] .normal = (base 15).at ⟨#[.pointer (some ⟨p, 0, none⟩), .int .i64 v, undef, undef, undef, undef, undef, undef, undef, undef, undef, undef, undef, undef, undef], []⟩ [.code (Tryd.f15.body.getD .skip)] := by
   simp [Frame.enter, Frame.at, Tryd.func15, base, Tryd.f15]
   try rfl
 rw [e]
 refine LoneTo.goes (n := 60) ?_
 simp only [Tryd.f15, Option.getD_some]
 s_c stepG_seq
 s_reg
 s_op
 s_c stepG_region_end
 s_c stepG_seq
 s_c stepG_seq
 s_reg
 s_op
 s_op
 s_c stepG_region_end
 s_cond false
 s_c stepG_skip
 s_c stepG_seq
 s_c stepG_seq
 s_reg
 s_op
 s_op
 s_op
 s_op
 s_c stepG_region_end
 s_reg
 s_op
 s_c stepG_region_end
 s_c stepG_seq
 s_reg
 s_stop
 refine LoneTo.step (step_sel_send_room (c := c) (cap := cap) (buf := buf) (s := s) (r := r) (tm := false) (stepG_comm (cases := #[scase c (.int .i64 v) (.int .i64 0)]) (blocking := false) (shape := .select) (w' := w) rfl rfl (by decide) (by simp [go_sem, execOp, scase, Act.eval])) hc hroom) ?_
 rw [Frame.finish_at]
 walk_nrm
 refine LoneTo.goes (n := 30) ?_
 s_op
 s_op
 s_c stepG_region_end
 s_c stepG_block
 s_cond true
 s_c stepG_seq
 s_reg
 s_op
 s_c stepG_region_end
 s_c stepG_ret'
 s_stop
 refine LoneTo.done ⟨.returned (.bool true), _, rfl, ⟨rfl, rfl⟩, rfl, rfl, rfl, rfl, _, Tryd.func15, by simp [results, Tryd.f15, Frame.at]⟩
theorem put_int_full (v : Int) (hp : w.heap[p]? = some (.cells #[.chan (some c)] T (0, 0))) (hc : w.heap[c]? = some (.chan cap buf false s r false)) (hroom : ¬ buf.size < cap) :
   Calls Tryd.prog 15 #[.pointer (some ⟨p, 0, none⟩), .int .i64 v] w fun e w' => e = .returned (.bool false) ∧ w' = w := by
 have hld : w.cell? ⟨p, 0, none⟩ = some (.chan (some c)) := by simp [World.cell?, hp]
 have hfz : w.frozen? ⟨p, 0, none⟩ = false := by simp [World.frozen?, hp]
 refine calls_of_loneTo fun cs => ?_
 have e : Frame.enter Tryd.prog 15 #[.pointer (some ⟨p, 0, none⟩), .int .i64 v] .normal = (base 15).at ⟨#[.pointer (some ⟨p, 0, none⟩), .int .i64 v, undef, undef, undef, undef, undef, undef, undef, undef, undef, undef, undef, undef, undef], []⟩ [.code (Tryd.f15.body.getD .skip)] := by
   simp [Frame.enter, Frame.at, Tryd.func15, base, Tryd.f15]
   try rfl
 rw [e]
 refine LoneTo.goes (n := 60) ?_
 simp only [Tryd.f15, Option.getD_some]
 s_c stepG_seq
 s_reg
 s_op
 s_c stepG_region_end
 s_c stepG_seq
 s_c stepG_seq
 s_reg
 s_op
 s_op
 s_c stepG_region_end
 s_cond false
 s_c stepG_skip
 s_c stepG_seq
 s_c stepG_seq
 s_reg
 s_op
 s_op
 s_op
 s_op
 s_c stepG_region_end
 s_reg
 s_op
 s_c stepG_region_end
 s_c stepG_seq
 s_reg
 s_stop
 refine LoneTo.step (step_sel_send_full (c := c) (cap := cap) (buf := buf) (s := s) (r := r) (tm := false) (stepG_comm (cases := #[scase c (.int .i64 v) (.int .i64 0)]) (blocking := false) (shape := .select) (w' := w) rfl rfl (by decide) (by simp [go_sem, execOp, scase, Act.eval])) hc hroom) ?_
 rw [Frame.finish_at]
 walk_nrm
 refine LoneTo.goes (n := 30) ?_
 s_op
 s_op
 s_c stepG_region_end
 s_c stepG_block
 s_cond false
 s_c stepG_seq
 s_reg
 s_op
 s_c stepG_region_end
 s_c stepG_ret'
 s_stop
 refine LoneTo.done ⟨.returned (.bool false), _, rfl, ⟨rfl, rfl⟩, rfl, rfl, rfl, rfl, _, Tryd.func15, by simp [results, Tryd.f15, Frame.at]⟩
theorem get_int_some (hp : w.heap[p]? = some (.cells #[.chan (some c)] T (0, 0))) (hc : w.heap[c]? = some (.chan cap buf false s r false)) (hsome : 0 < buf.size) (a0 : Value) (h0 : buf.getD 0 undef = a0) :
   Calls Tryd.prog 14 #[.pointer (some ⟨p, 0, none⟩)] w fun e w' => e = .returned (.tuple #[a0, .bool true]) ∧ w' = w.setChan c cap (buf.extract 1 buf.size) false s (r + 1) false := by
 have hld : w.cell? ⟨p, 0, none⟩ = some (.chan (some c)) := by simp [World.cell?, hp]
 have hfz : w.frozen? ⟨p, 0, none⟩ = false := by simp [World.frozen?, hp]
 refine calls_of_loneTo fun cs => ?_
 have e : Frame.enter Tryd.prog 14 #[.pointer (some ⟨p, 0, none⟩)] .normal = (base 14).at ⟨#[.pointer (some ⟨p, 0, none⟩), undef, undef, undef, undef, undef, undef, undef, undef, undef, undef, undef, undef, undef, undef, undef, undef, undef, undef], []⟩ [.code (Tryd.f14.body.getD .skip)] := by
   simp [Frame.enter, Frame.at, Tryd.func14, base, Tryd.f14]
   try rfl
 rw [e]
 refine LoneTo.goes (n := 60) ?_
 simp only [Tryd.f14, Option.getD_some]
 s_c stepG_seq
 s_reg
 s_op
 s_op
 s_c stepG_region_end
 s_c stepG_seq
 s_reg
 s_op
 s_c stepG_region_end
 s_c stepG_seq
 s_c stepG_seq
 s_reg
 s_op
 s_op
 s_c stepG_region_end
 s_cond false
 s_c stepG_skip
 s_c stepG_seq
 s_reg
 s_op
 s_op
 s_op
 s_op
 s_c stepG_region_end
 s_c stepG_seq
 s_reg
 s_stop
 refine LoneTo.step (step_sel_recv_buf (c := c) (z := .int .i64 0) (cap := cap) (buf := buf) (s := s) (r := r) (tm := false) (closed := false) (stepG_comm (cases := #[rcase c (.int .i64 0)]) (blocking := false) (shape := .select) (w' := w) rfl rfl (by decide) (by simp [go_sem, execOp, rcase, Act.eval])) hc hsome) ?_
 rw [Frame.finish_at]
 rw [h0]
 walk_nrm
 refine LoneTo.goes (n := 30) ?_
 s_op
 s_op
 s_c stepG_region_end
 s_c stepG_block
 s_cond true
 s_c stepG_seq
 s_reg
 s_op
 s_op
 s_c stepG_region_end
 s_c stepG_seq
 s_reg
 s_op
 s_op
 s_op
 s_c stepG_region_end
 s_c stepG_ret'
 s_stop
 refine LoneTo.done ⟨.returned (.tuple #[a0, .bool true]), _, rfl, ⟨rfl, rfl⟩, rfl, rfl, rfl, rfl, _, Tryd.func14, by simp [results, Tryd.f14, Frame.at]⟩
theorem get_int_none (hp : w.heap[p]? = some (.cells #[.chan (some c)] T (0, 0))) (hc : w.heap[c]? = some (.chan cap #[] false s r false)) :
   Calls Tryd.prog 14 #[.pointer (some ⟨p, 0, none⟩)] w fun e w' => e = .returned (.tuple #[.int .i64 0, .bool false]) ∧ w' = w := by
 have hld : w.cell? ⟨p, 0, none⟩ = some (.chan (some c)) := by simp [World.cell?, hp]
 have hfz : w.frozen? ⟨p, 0, none⟩ = false := by simp [World.frozen?, hp]
 refine calls_of_loneTo fun cs => ?_
 have e : Frame.enter Tryd.prog 14 #[.pointer (some ⟨p, 0, none⟩)] .normal = (base 14).at ⟨#[.pointer (some ⟨p, 0, none⟩), undef, undef, undef, undef, undef, undef, undef, undef, undef, undef, undef, undef, undef, undef, undef, undef, undef, undef], []⟩ [.code (Tryd.f14.body.getD .skip)] := by
   simp [Frame.enter, Frame.at, Tryd.func14, base, Tryd.f14]
   try rfl
 rw [e]
 refine LoneTo.goes (n := 60) ?_
 simp only [Tryd.f14, Option.getD_some]
 s_c stepG_seq
 s_reg
 s_op
 s_op
 s_c stepG_region_end
 s_c stepG_seq
 s_reg
 s_op
 s_c stepG_region_end
 s_c stepG_seq
 s_c stepG_seq
 s_reg
 s_op
 s_op
 s_c stepG_region_end
 s_cond false
 s_c stepG_skip
 s_c stepG_seq
 s_reg
 s_op
 s_op
 s_op
 s_op
 s_c stepG_region_end
 s_c stepG_seq
 s_reg
 s_stop
 refine LoneTo.step (step_lone_select_default (c := c) (z := .int .i64 0) (cap := cap) (s := s) (r := r) (tm := false) (stepG_comm (cases := #[rcase c (.int .i64 0)]) (blocking := false) (shape := .select) (w' := w) rfl rfl (by decide) (by simp [go_sem, execOp, rcase, Act.eval])) hc) ?_
 rw [Frame.finish_at]
 walk_nrm
 refine LoneTo.goes (n := 30) ?_
 s_op
 s_op
 s_c stepG_region_end
 s_c stepG_block
 s_cond false
 s_c stepG_seq
 s_reg
 s_op
 s_op
 s_op
 s_c stepG_region_end
 s_c stepG_ret'
 s_stop
 refine LoneTo.done ⟨.returned (.tuple #[.int .i64 0, .bool false]), _, rfl, ⟨rfl, rfl⟩, rfl, rfl, rfl, rfl, _, Tryd.func14, by simp [results, Tryd.f14, Frame.at]⟩
end
abbrev Och_int : OT := .obj 1 (.cons (.int .i64) (.one (.sl (.int .i64))))
theorem put_int_tr {K K0 : Hp} {b : Nat} {mv : Value} (v : Int) (y : Int × List Int) :
   Tr Tryd.prog 15 #[.pointer (some ⟨b, 0, none⟩), .int .i64 v] K [Cl b 65 [mv], OT.own K0 Och_int [mv] (some y : Option (Int × List Int))] (fun u K' L' => (u = .bool (decide (((y.2.length : Nat) : Int) < y.1)) ∧ L' = [Cl b 65 [mv], OT.own K0 Och_int [mv] (some (if ((y.2.length : Nat) : Int) < y.1 then (y.1, y.2 ++ [v]) else y) : Option (Int × List Int))]) ∧ K = K') := by
 intro E w F hs
 have hs : Sep E K (Cl b 65 [mv] :: OT.own K0 Och_int [mv] (some y : Option (Int × List Int)) :: F) w := hs
 have hp := hs.cl
 have hs0 := hs.swap
 obtain ⟨c, o, e1, _⟩ := hs0.fact (p := ∃ r o, [mv] = [Value.chan (some r)] ∧ ObjR 1 (.cons (.int .i64) (.one (.sl (.int .i64)))) y o) (fun h k => by obtain ⟨r, o, a, b, _⟩ := k; exact ⟨r, o, a, b⟩)
 cases e1
 have hs1 : Sep E K ((fun h => ∃ buf s r, h = one c (.chan (Int.toNat y.1) buf false s r false) ∧ (0 : Int) ≤ y.1 ∧ buf.toList = List.map (keyV (.int .i64)) y.2) :: Cl b 65 [.chan (some c)] :: F) w :=
   hs0.mono (fun h k => by obtain ⟨r', o, a, ⟨buf, s, r, rfl, h1, h2⟩, c⟩ := k; cases a; exact ⟨buf, s, r, c, h1, h2⟩)
 obtain ⟨h0, ⟨buf, s, r, rfl, h1, h2⟩, hd, hs1⟩ := hs1
 have hs2 : Sep E K ((fun h => h = one c (.chan (Int.toNat y.1) buf false s r false)) :: Cl b 65 [.chan (some c)] :: F) w := ⟨_, rfl, hd, hs1⟩
 have hc := hs2.obj
 have hsz : buf.size = y.2.length := by rw [← Array.length_toList, h2, List.length_map]
 by_cases hr : ((y.2.length : Nat) : Int) < y.1
 · rw [if_pos hr, decide_eq_true hr]
   refine (put_int_room b c w v hp hc (by rw [hsz]; omega)).mono ?_
   rintro e w' ⟨rfl, rfl⟩
   refine ⟨_, K, _, rfl, ⟨⟨rfl, rfl⟩, rfl⟩, Hp.le_refl K, ?_⟩
   exact ((hs2.onl (onl_chan hc)).mono (fun h k => ⟨c, _, rfl, ⟨_, _, _, rfl, h1, by rw [Array.toList_push, h2, List.map_append]; rfl⟩, k⟩) : Sep E K (OT.own K0 Och_int [.chan (some c)] (some (y.1, y.2 ++ [v]) : Option (Int × List Int)) :: Cl b 65 [.chan (some c)] :: F) _).swap
 · rw [if_neg hr, decide_eq_false hr]
   refine (put_int_full b c w v hp hc (by rw [hsz]; omega)).mono ?_
   rintro e w' ⟨rfl, rfl⟩
   refine ⟨_, K, _, rfl, ⟨⟨rfl, rfl⟩, rfl⟩, Hp.le_refl K, ?_⟩
   exact hs
theorem get_int_tr {K K0 : Hp} {b : Nat} {mv : Value} (y : Int × List Int) :
   Tr Tryd.prog 14 #[.pointer (some ⟨b, 0, none⟩)] K [Cl b 65 [mv], OT.own K0 Och_int [mv] (some y : Option (Int × List Int))] (fun u K' L' => (u = .tuple #[keyV (.int .i64) (y.2.headD 0), .bool (!y.2.isEmpty)] ∧ L' = [Cl b 65 [mv], OT.own K0 Och_int [mv] (some (y.1, y.2.tail) : Option (Int × List Int))]) ∧ K = K') := by
 intro E w F hs
 have hs : Sep E K (Cl b 65 [mv] :: OT.own K0 Och_int [mv] (some y : Option (Int × List Int)) :: F) w := hs
 have hp := hs.cl
 have hs0 := hs.swap
 obtain ⟨c, o, e1, _⟩ := hs0.fact (p := ∃ r o, [mv] = [Value.chan (some r)] ∧ ObjR 1 (.cons (.int .i64) (.one (.sl (.int .i64)))) y o) (fun h k => by obtain ⟨r, o, a, b, _⟩ := k; exact ⟨r, o, a, b⟩)
 cases e1
 have hs1 : Sep E K ((fun h => ∃ buf s r, h = one c (.chan (Int.toNat y.1) buf false s r false) ∧ (0 : Int) ≤ y.1 ∧ buf.toList = List.map (keyV (.int .i64)) y.2) :: Cl b 65 [.chan (some c)] :: F) w :=
   hs0.mono (fun h k => by obtain ⟨r', o, a, ⟨buf, s, r, rfl, h1, h2⟩, c⟩ := k; cases a; exact ⟨buf, s, r, c, h1, h2⟩)
 obtain ⟨h0, ⟨buf, s, r, rfl, h1, h2⟩, hd, hs1⟩ := hs1
 have hs2 : Sep E K ((fun h => h = one c (.chan (Int.toNat y.1) buf false s r false)) :: Cl b 65 [.chan (some c)] :: F) w := ⟨_, rfl, hd, hs1⟩
 have hc := hs2.obj
 have hsz : buf.size = y.2.length := by rw [← Array.length_toList, h2, List.length_map]
 obtain ⟨rm, l⟩ := y
 dsimp only at hsz h1 h2 hs hc
 cases l with
 | nil =>
   obtain rfl : buf = #[] := Array.eq_empty_of_size_eq_zero (by simpa using hsz)
   refine (get_int_none b c w hp hc).mono ?_
   rintro e w' ⟨rfl, rfl⟩
   refine ⟨_, K, _, rfl, ⟨⟨rfl, rfl⟩, rfl⟩, Hp.le_refl K, ?_⟩
   exact hs
 | cons a l =>
   refine (get_int_some b c w hp hc (by rw [hsz]; simp) (keyV (.int .i64) a) (by
       obtain ⟨bl⟩ := buf
       replace h2 : bl = List.map (keyV (.int .i64)) (a :: l) := h2
       subst h2; rfl)).mono ?_
   rintro e w' ⟨rfl, rfl⟩
   refine ⟨_, K, _, rfl, ⟨⟨rfl, rfl⟩, rfl⟩, Hp.le_refl K, ?_⟩
   · exact ((hs2.onl (onl_chan hc)).mono (fun h k => ⟨c, _, rfl, ⟨_, _, _, rfl, h1, by
       obtain ⟨bl⟩ := buf
       replace h2 : bl = List.map (keyV (.int .i64)) (a :: l) := h2
       subst h2; simp [List.take_of_length_le]⟩, k⟩) : Sep E K (OT.own K0 Och_int [.chan (some c)] (some (rm, l) : Option (Int × List Int)) :: Cl b 65 [.chan (some c)] :: F) _).swap
noncomputable def sp_put_int : Spec := ⟨15, ⟨[(0, .ptr 0 0), (1, .dat (.int .i64))], [⟨none, 65, [.od Och_int], false, false, none, false⟩]⟩, [⟨[(0, .dat .bool)], [⟨some 0, 65, [.od Och_int], false, false, none, false⟩]⟩], fun x => putF x.1 x.2⟩
theorem put_int_is [BldA] : SpecOk Tryd.prog sp_put_int := by
 intro x r hr vv u hu m K args hgk hm hH hsl E w F hs
 have hu' : sp_put_int.inn.un (TL.list _ x) 0 = some ([(0, .ptr 0 0), (1, .int .i64 x.1)], ⟨[], 4, [.blk 0 3 65 [.own 1], .od 1 2 Och_int x.2], []⟩) := rfl
 rw [hu'] at hu
 cases hu
 replace hm : m.length = 4 := hm
 obtain ⟨v1, u1, rfl, ⟨b, e1, rfl⟩, v2, u2, rfl, rfl, rfl⟩ := hsl
 obtain ⟨b', vs, g0, g3, v0, r0, rfl, ⟨h1, h1o⟩, rfl⟩ := hH (.blk 0 3 65 [.own 1]) (by simp)
 rw [g0] at e1; cases e1
 obtain ⟨mv, K0, g1, g2, hk, hf⟩ := hH (.od 1 2 Och_int x.2) (by simp)
 rw [g1] at h1
 have e0 : v0 = mv := by cases h1; rfl
 subst e0
 have hs' : Sep E K (HA.conc m (.blk 0 3 65 [.own 1]) :: HA.conc m (.od 1 2 Och_int x.2) :: F) w := hs
 simp only [HA.conc, g0, g1, g2, g3] at hs'
 cases hy : (x.2 : Option (Int × List Int)) with
 | none => exact absurd hr (by show putF x.1 x.2 ≠ some r; rw [hy]; exact nofun)
 | some y =>
 rw [hy] at hs' hf
 have hr' : putF x.1 x.2 = some r := hr
 rw [hy] at hr'
 refine (put_int_tr x.1 y E w F hs').mono ?_
 rintro e w' ⟨v, K', L', rfl, ⟨⟨rfl, rfl⟩, rfl⟩, hle, hs2⟩
 obtain rfl : r = (decide (((y.2.length : Nat) : Int) < y.1), (some (if ((y.2.length : Nat) : Int) < y.1 then (y.1, y.2 ++ [x.1]) else y) : Option (Int × List Int))) := (Option.some.inj hr').symm
 let ms : List M := [M.val v0, M.hp K0, M.cells [v0]]
 have f0 : (m ++ ms)[0]? = some (.val (.pointer (some ⟨b, 0, none⟩))) := by rw [List.getElem?_append_left (by omega)]; exact g0
 have f4 : (m ++ ms)[4]? = some (.val v0) := by rw [List.getElem?_append_right (by omega), hm]; rfl
 have f5 : (m ++ ms)[5]? = some (.hp K0) := by rw [List.getElem?_append_right (by omega), hm]; rfl
 have f6 : (m ++ ms)[6]? = some (.cells [v0]) := by rw [List.getElem?_append_right (by omega), hm]; rfl
 obtain ⟨c, rfl⟩ : ∃ c, v0 = .chan (some c) := by
   rcases hf with ⟨hf, _⟩ | ⟨y', c, _, hb⟩
   · cases hf
   · exact ⟨c, hb⟩
 refine ⟨_, K, _, rfl, ⟨[(0, .bool (decide (((y.2.length : Nat) : Int) < y.1)))], ⟨[], 7, [.blk 0 6 65 [.own 4], .od 4 5 Och_int (some (if ((y.2.length : Nat) : Int) < y.1 then (y.1, y.2 ++ [x.1]) else y) : Option (Int × List Int))], []⟩, m ++ ms, rfl, List.prefix_append _ _, by simp [hm, ms], ?_, rfl, rfl⟩, hle, ?_⟩
 · intro a ha
   simp only [List.mem_cons, List.mem_nil_iff, or_false] at ha
   rcases ha with rfl | rfl
   · exact ⟨b, _, f0, f6, _, _, rfl, ⟨f4, h1o⟩, rfl⟩
   · exact ⟨_, K0, f4, f5, hk, .inr ⟨_, c, rfl, rfl⟩⟩
 · show Sep E K (HA.conc _ (.blk 0 6 65 [.own 4]) :: HA.conc _ (.od 4 5 Och_int (some (if ((y.2.length : Nat) : Int) < y.1 then (y.1, y.2 ++ [x.1]) else y) : Option (Int × List Int))) :: F) w'
   simp only [HA.conc, f0, f4, f5, f6]
   exact hs2
noncomputable def ok_put_int [BldA] : OkSpec Tryd.prog := ⟨sp_put_int, put_int_is, Tryd.call15⟩
noncomputable def sp_get_int : Spec := ⟨14, ⟨[(0, .ptr 0 0)], [⟨none, 65, [.od Och_int], false, false, none, false⟩]⟩, [⟨[(0, .tup [.dat (.int .i64), .dat .bool])], [⟨some 0, 65, [.od Och_int], false, false, none, false⟩]⟩], fun x => getF (0 : Int) x⟩
theorem get_int_is [BldA] : SpecOk Tryd.prog sp_get_int := by
 intro x r hr vv u hu m K args hgk hm hH hsl E w F hs
 have hu' : sp_get_int.inn.un (TL.list _ x) 0 = some ([(0, .ptr 0 0)], ⟨[], 4, [.blk 0 3 65 [.own 1], .od 1 2 Och_int x], []⟩) := rfl
 rw [hu'] at hu
 cases hu
 replace hm : m.length = 4 := hm
 obtain ⟨v1, u1, rfl, ⟨b, e1, rfl⟩, rfl⟩ := hsl
 obtain ⟨b', vs, g0, g3, v0, r0, rfl, ⟨h1, h1o⟩, rfl⟩ := hH (.blk 0 3 65 [.own 1]) (by simp)
 rw [g0] at e1; cases e1
 obtain ⟨mv, K0, g1, g2, hk, hf⟩ := hH (.od 1 2 Och_int x) (by simp)
 rw [g1] at h1
 have e0 : v0 = mv := by cases h1; rfl
 subst e0
 have hs' : Sep E K (HA.conc m (.blk 0 3 65 [.own 1]) :: HA.conc m (.od 1 2 Och_int x) :: F) w := hs
 simp only [HA.conc, g0, g1, g2, g3] at hs'
 cases hy : (x : Option (Int × List Int)) with
 | none => exact absurd hr (by show getF (0 : Int) x ≠ some r; rw [hy]; exact nofun)
 | some y =>
 rw [hy] at hs' hf
 have hr' : getF (0 : Int) x = some r := hr
 rw [hy] at hr'
 refine (get_int_tr y E w F hs').mono ?_
 rintro e w' ⟨v, K', L', rfl, ⟨⟨rfl, rfl⟩, rfl⟩, hle, hs2⟩
 obtain rfl : r = (y.2.headD 0, !y.2.isEmpty, (some (y.1, y.2.tail) : Option (Int × List Int))) := (Option.some.inj hr').symm
 let ms : List M := [M.val v0, M.hp K0, M.cells [v0]]
 have f0 : (m ++ ms)[0]? = some (.val (.pointer (some ⟨b, 0, none⟩))) := by rw [List.getElem?_append_left (by omega)]; exact g0
 have f4 : (m ++ ms)[4]? = some (.val v0) := by rw [List.getElem?_append_right (by omega), hm]; rfl
 have f5 : (m ++ ms)[5]? = some (.hp K0) := by rw [List.getElem?_append_right (by omega), hm]; rfl
 have f6 : (m ++ ms)[6]? = some (.cells [v0]) := by rw [List.getElem?_append_right (by omega), hm]; rfl
 obtain ⟨c, rfl⟩ : ∃ c, v0 = .chan (some c) := by
   rcases hf with ⟨hf, _⟩ | ⟨y', c, _, hb⟩
   · cases hf
   · exact ⟨c, hb⟩
 refine ⟨_, K, _, rfl, ⟨[(0, .tup [.int .i64 (y.2.headD 0), .bool (!y.2.isEmpty)])], ⟨[], 7, [.blk 0 6 65 [.own 4], .od 4 5 Och_int (some (y.1, y.2.tail) : Option (Int × List Int))], []⟩, m ++ ms, rfl, List.prefix_append _ _, by simp [hm, ms], ?_, ⟨_, rfl, _, _, rfl, rfl, _, _, rfl, rfl, rfl⟩, rfl⟩, hle, ?_⟩
 · intro a ha
   simp only [List.mem_cons, List.mem_nil_iff, or_false] at ha
   rcases ha with rfl | rfl
   · exact ⟨b, _, f0, f6, _, _, rfl, ⟨f4, h1o⟩, rfl⟩
   · exact ⟨_, K0, f4, f5, hk, .inr ⟨_, c, rfl, rfl⟩⟩
 · show Sep E K (HA.conc _ (.blk 0 6 65 [.own 4]) :: HA.conc _ (.od 4 5 Och_int (some (y.1, y.2.tail) : Option (Int × List Int))) :: F) w'
   simp only [HA.conc, f0, f4, f5, f6]
   exact hs2
noncomputable def ok_get_int [BldA] : OkSpec Tryd.prog := ⟨sp_get_int, get_int_is, Tryd.call14⟩
section
variable (p c : Nat) {T : TypeId} {cap s r : Nat} {buf : Array Value} (w : World)
theorem put_str_room (v : (List UInt8)) (hp : w.heap[p]? = some (.cells #[.chan (some c)] T (0, 0))) (hc : w.heap[c]? = some (.chan cap buf false s r false)) (hroom : buf.size < cap) :
   Calls Tryd.prog 23 #[.pointer (some ⟨p, 0, none⟩), .string ⟨v.toArray⟩] w fun e w' => e = .returned (.bool true) ∧ w' = w.setChan c cap (buf.push (.string ⟨v.toArray⟩)) false (s + 1) r false := by
 have hld : w.cell? ⟨p, 0, none⟩ = some (.chan (some c)) := by simp [World.cell?, hp]
 have hfz : w.frozen? ⟨p, 0, none⟩ = false := by simp [World.frozen?, hp]
 refine calls_of_loneTo fun cs => ?_
 have e : Frame.enter Tryd.prog 23 #[.pointer (some ⟨p, 0, none⟩), .string ⟨v.toArray⟩] .normal = (base 23).at ⟨#[.pointer (some ⟨p, 0, none⟩), .string ⟨v.toArray⟩, undef, undef, undef, undef, undef, undef, undef, undef, undef, undef, undef, undef, undef], []⟩ [.code (Tryd.f23.body.getD .skip)] := by
   simp [Frame.enter, Frame.at, Tryd.func23, base, Tryd.f23]
   try rfl
 rw [e]
 refine LoneTo.goes (n := 60) ?_
 simp only [Tryd.f23, Option.getD_some]
 s_c stepG_seq
 s_reg
 s_op
 s_c stepG_region_end
 s_c stepG_seq
 s_c stepG_seq
 s_reg
 s_op
 s_op
 s_c stepG_region_end
 s_cond false
 s_c stepG_skip
 s_c stepG_seq
 s_c stepG_seq
 s_reg
 s_op
 s_op
 s_op
 s_op
 s_c stepG_region_end
 s_reg
 s_op
 s_c stepG_region_end
 s_c stepG_seq
 s_reg
 s_stop
 refine LoneTo.step (step_sel_send_room (c := c) (cap := cap) (buf := buf) (s := s) (r := r) (tm := false) (stepG_comm (cases := #[scase c (.string ⟨v.toArray⟩) (.string ⟨#[]⟩)]) (blocking := false) (shape := .select) (w' := w) rfl rfl (by decide) (by simp [go_sem, execOp, scase, Act.eval])) hc hroom) ?_
 rw [Frame.finish_at]
 walk_nrm
 refine LoneTo.goes (n := 30) ?_
 s_op
 s_op
 s_c stepG_region_end
 s_c stepG_block
 s_cond true
 s_c stepG_seq
 s_reg
 s_op
 s_c stepG_region_end
 s_c stepG_ret'
 s_stop
 refine LoneTo.done ⟨.returned (.bool true), _, rfl, ⟨rfl, rfl⟩, rfl, rfl, rfl, rfl, _, Tryd.func23, by simp [results, Tryd.f23, Frame.at]⟩
theorem put_str_full (v : (List UInt8)) (hp : w.heap[p]? = some (.cells #[.chan (some c)] T (0, 0))) (hc : w.heap[c]? = some (.chan cap buf false s r false)) (hroom : ¬ buf.size < cap) :
   Calls Tryd.prog 23 #[.pointer (some ⟨p, 0, none⟩), .string ⟨v.toArray⟩] w fun e w' => e = .returned (.bool false) ∧ w' = w := by
 have hld : w.cell? ⟨p, 0, none⟩ = some (.chan (some c)) := by simp [World.cell?, hp]
 have hfz : w.frozen? ⟨p, 0, none⟩ = false := by simp [World.frozen?, hp]
 refine calls_of_loneTo fun cs => ?_
 have e : Frame.enter Tryd.prog 23 #[.pointer (some ⟨p, 0, none⟩), .string ⟨v.toArray⟩] .normal = (base 23).at ⟨#[.pointer (some ⟨p, 0, none⟩), .string ⟨v.toArray⟩, undef, undef, undef, undef, undef, undef, undef, undef, undef, undef, undef, undef, undef], []⟩ [.code (Tryd.f23.body.getD .skip)] := by
   simp [Frame.enter, Frame.at, Tryd.func23, base, Tryd.f23]
   try rfl
 rw [e]
 refine LoneTo.goes (n := 60) ?_
 simp only [Tryd.f23, Option.getD_some]
 s_c stepG_seq
 s_reg
 s_op
 s_c stepG_region_end
 s_c stepG_seq
 s_c stepG_seq
 s_reg
 s_op
 s_op
 s_c stepG_region_end
 s_cond false
 s_c stepG_skip
 s_c stepG_seq
 s_c stepG_seq
 s_reg
 s_op
 s_op
 s_op
 s_op
 s_c stepG_region_end
 s_reg
 s_op
 s_c stepG_region_end
 s_c stepG_seq
 s_reg
 s_stop
 refine LoneTo.step (step_sel_send_full (c := c) (cap := cap) (buf := buf) (s := s) (r := r) (tm := false) (stepG_comm (cases := #[scase c (.string ⟨v.toArray⟩) (.string ⟨#[]⟩)]) (blocking := false) (shape := .select) (w' := w) rfl rfl (by decide) (by simp [go_sem, execOp, scase, Act.eval])) hc hroom) ?_
 rw [Frame.finish_at]
 walk_nrm
 refine LoneTo.goes (n := 30) ?_
 s_op
 s_op
 s_c stepG_region_end
 s_c stepG_block
 s_cond false
 s_c stepG_seq
 s_reg
 s_op
 s_c stepG_region_end
 s_c stepG_ret'
 s_stop
 refine LoneTo.done ⟨.returned (.bool false), _, rfl, ⟨rfl, rfl⟩, rfl, rfl, rfl, rfl, _, Tryd.func23, by simp [results, Tryd.f23, Frame.at]⟩
theorem get_str_some (hp : w.heap[p]? = some (.cells #[.chan (some c)] T (0, 0))) (hc : w.heap[c]? = some (.chan cap buf false s r false)) (hsome : 0 < buf.size) (a0 : Value) (h0 : buf.getD 0 undef = a0) :
   Calls Tryd.prog 24 #[.pointer (some ⟨p, 0, none⟩)] w fun e w' => e = .returned (.tuple #[a0, .bool true]) ∧ w' = w.setChan c cap (buf.extract 1 buf.size) false s (r + 1) false := by
 have hld : w.cell? ⟨p, 0, none⟩ = some (.chan (some c)) := by simp [World.cell?, hp]
 have hfz : w.frozen? ⟨p, 0, none⟩ = false := by simp [World.frozen?, hp]
 refine calls_of_loneTo fun cs => ?_
 have e : Frame.enter Tryd.prog 24 #[.pointer (some ⟨p, 0, none⟩)] .normal = (base 24).at ⟨#[.pointer (some ⟨p, 0, none⟩), undef, undef, undef, undef, undef, undef, undef, undef, undef, undef, undef, undef, undef, undef, undef, undef, undef, undef], []⟩ [.code (Tryd.f24.body.getD .skip)] := by
   simp [Frame.enter, Frame.at, Tryd.func24, base, Tryd.f24]
   try rfl
 rw [e]
 refine LoneTo.goes (n := 60) ?_
 simp only [Tryd.f24, Option.getD_some]
 s_c stepG_seq
 s_reg
 s_op
 s_op
 s_c stepG_region_end
 s_c stepG_seq
 s_reg
 s_op
 s_c stepG_region_end
 s_c stepG_seq
 s_c stepG_seq
 s_reg
 s_op
 s_op
 s_c stepG_region_end
 s_cond false
 s_c stepG_skip
 s_c stepG_seq
 s_reg
 s_op
 s_op
 s_op
 s_op
 s_c stepG_region_end
 s_c stepG_seq
 s_reg
 s_stop
 refine LoneTo.step (step_sel_recv_buf (c := c) (z := .string ⟨#[]⟩) (cap := cap) (buf := buf) (s := s) (r := r) (tm := false) (closed := false) (stepG_comm (cases := #[rcase c (.string ⟨#[]⟩)]) (blocking := false) (shape := .select) (w' := w) rfl rfl (by decide) (by simp [go_sem, execOp, rcase, Act.eval])) hc hsome) ?_
 rw [Frame.finish_at]
 rw [h0]
 walk_nrm
 refine LoneTo.goes (n := 30) ?_
 s_op
 s_op
 s_c stepG_region_end
 s_c stepG_block
 s_cond true
 s_c stepG_seq
 s_reg
 s_op
 s_op
 s_c stepG_region_end
 s_c stepG_seq
 s_reg
 s_op
 s_op
 s_op
 s_c stepG_region_end
 s_c stepG_ret'
 s_stop
 refine LoneTo.done ⟨.returned (.tuple #[a0, .bool true]), _, rfl, ⟨rfl, rfl⟩, rfl, rfl, rfl, rfl, _, Tryd.func24, by simp [results, Tryd.f24, Frame.at]⟩
theorem get_str_none (hp : w.heap[p]? = some (.cells #[.chan (some c)] T (0, 0))) (hc : w.heap[c]? = some (.chan cap #[] false s r false)) :
   Calls Tryd.prog 24 #[.pointer (some ⟨p, 0, none⟩)] w fun e w' => e = .returned (.tuple #[.string ⟨#[]⟩, .bool false]) ∧ w' = w := by
 have hld : w.cell? ⟨p, 0, none⟩ = some (.chan (some c)) := by simp [World.cell?, hp]
 have hfz : w.frozen? ⟨p, 0, none⟩ = false := by simp [World.frozen?, hp]
 refine calls_of_loneTo fun cs => ?_
 have e : Frame.enter Tryd.prog 24 #[.pointer (some ⟨p, 0, none⟩)] .normal = (base 24).at ⟨#[.pointer (some ⟨p, 0, none⟩), undef, undef, undef, undef, undef, undef, undef, undef, undef, undef, undef, undef, undef, undef, undef, undef, undef, undef], []⟩ [.code (Tryd.f24.body.getD .skip)] := by
   simp [Frame.enter, Frame.at, Tryd.func24, base, Tryd.f24]
   try rfl
 rw [e]
 refine LoneTo.goes (n := 60) ?_
 simp only [Tryd.f24, Option.getD_some]
 s_c stepG_seq
 s_reg
 s_op
 s_op
 s_c stepG_region_end
 s_c stepG_seq
 s_reg
 s_op
 s_c stepG_region_end
 s_c stepG_seq
 s_c stepG_seq
 s_reg
 s_op
 s_op
 s_c stepG_region_end
 s_cond false
 s_c stepG_skip
 s_c stepG_seq
 s_reg
 s_op
 s_op
 s_op
 s_op
 s_c stepG_region_end
 s_c stepG_seq
 s_reg
 s_stop
 refine LoneTo.step (step_lone_select_default (c := c) (z := .string ⟨#[]⟩) (cap := cap) (s := s) (r := r) (tm := false) (stepG_comm (cases := #[rcase c (.string ⟨#[]⟩)]) (blocking := false) (shape := .select) (w' := w) rfl rfl (by decide) (by simp [go_sem, execOp, rcase, Act.eval])) hc) ?_
 rw [Frame.finish_at]
 walk_nrm
 refine LoneTo.goes (n := 30) ?_
 s_op
 s_op
 s_c stepG_region_end
 s_c stepG_block
 s_cond false
 s_c stepG_seq
 s_reg
 s_op
 s_op
 s_op
 s_c stepG_region_end
 s_c stepG_ret'
 s_stop
 refine LoneTo.done ⟨.returned (.tuple #[.string ⟨#[]⟩, .bool false]), _, rfl, ⟨rfl, rfl⟩, rfl, rfl, rfl, rfl, _, Tryd.func24, by simp [results, Tryd.f24, Frame.at]⟩
end
abbrev Och_str : OT := .obj 1 (.cons (.int .i64) (.one (.sl (.str))))
theorem put_str_tr {K K0 : Hp} {b : Nat} {mv : Value} (v : (List UInt8)) (y : Int × List (List UInt8)) :
   Tr Tryd.prog 23 #[.pointer (some ⟨b, 0, none⟩), .string ⟨v.toArray⟩] K [Cl b 71 [mv], OT.own K0 Och_str [mv] (some y : Option (Int × List (List UInt8)))] (fun u K' L' => (u = .bool (decide (((y.2.length : Nat) : Int) < y.1)) ∧ L' = [Cl b 71 [mv], OT.own K0 Och_str [mv] (some (if ((y.2.length : Nat) : Int) < y.1 then (y.1, y.2 ++ [v]) else y) : Option (Int × List (List UInt8)))]) ∧ K = K') := by
 intro E w F hs
 have hs : Sep E K (Cl b 71 [mv] :: OT.own K0 Och_str [mv] (some y : Option (Int × List (List UInt8))) :: F) w := hs
 have hp := hs.cl
 have hs0 := hs.swap
 obtain ⟨c, o, e1, _⟩ := hs0.fact (p := ∃ r o, [mv] = [Value.chan (some r)] ∧ ObjR 1 (.cons (.int .i64) (.one (.sl (.str)))) y o) (fun h k => by obtain ⟨r, o, a, b, _⟩ := k; exact ⟨r, o, a, b⟩)
 cases e1
 have hs1 : Sep E K ((fun h => ∃ buf s r, h = one c (.chan (Int.toNat y.1) buf false s r false) ∧ (0 : Int) ≤ y.1 ∧ buf.toList = List.map (keyV (.str)) y.2) :: Cl b 71 [.chan (some c)] :: F) w :=
   hs0.mono (fun h k => by obtain ⟨r', o, a, ⟨buf, s, r, rfl, h1, h2⟩, c⟩ := k; cases a; exact ⟨buf, s, r, c, h1, h2⟩)
 obtain ⟨h0, ⟨buf, s, r, rfl, h1, h2⟩, hd, hs1⟩ := hs1
 have hs2 : Sep E K ((fun h => h = one c (.chan (Int.toNat y.1) buf false s r false)) :: Cl b 71 [.chan (some c)] :: F) w := ⟨_, rfl, hd, hs1⟩
 have hc := hs2.obj
 have hsz : buf.size = y.2.length := by rw [← Array.length_toList, h2, List.length_map]
 by_cases hr : ((y.2.length : Nat) : Int) < y.1
 · rw [if_pos hr, decide_eq_true hr]
   refine (put_str_room b c w v hp hc (by rw [hsz]; omega)).mono ?_
   rintro e w' ⟨rfl, rfl⟩
   refine ⟨_, K, _, rfl, ⟨⟨rfl, rfl⟩, rfl⟩, Hp.le_refl K, ?_⟩
   exact ((hs2.onl (onl_chan hc)).mono (fun h k => ⟨c, _, rfl, ⟨_, _, _, rfl, h1, by rw [Array.toList_push, h2, List.map_append]; rfl⟩, k⟩) : Sep E K (OT.own K0 Och_str [.chan (some c)] (some (y.1, y.2 ++ [v]) : Option (Int × List (List UInt8))) :: Cl b 71 [.chan (some c)] :: F) _).swap
 · rw [if_neg hr, decide_eq_false hr]
   refine (put_str_full b c w v hp hc (by rw [hsz]; omega)).mono ?_
   rintro e w' ⟨rfl, rfl⟩
   refine ⟨_, K, _, rfl, ⟨⟨rfl, rfl⟩, rfl⟩, Hp.le_refl K, ?_⟩
   exact hs
theorem get_str_tr {K K0 : Hp} {b : Nat} {mv : Value} (y : Int × List (List UInt8)) :
   Tr Tryd.prog 24 #[.pointer (some ⟨b, 0, none⟩)] K [Cl b 71 [mv], OT.own K0 Och_str [mv] (some y : Option (Int × List (List UInt8)))] (fun u K' L' => (u = .tuple #[keyV (.str) (y.2.headD []), .bool (!y.2.isEmpty)] ∧ L' = [Cl b 71 [mv], OT.own K0 Och_str [mv] (some (y.1, y.2.tail) : Option (Int × List (List UInt8)))]) ∧ K = K') := by
 intro E w F hs
 have hs : Sep E K (Cl b 71 [mv] :: OT.own K0 Och_str [mv] (some y : Option (Int × List (List UInt8))) :: F) w := hs
 have hp := hs.cl
 have hs0 := hs.swap
 obtain ⟨c, o, e1, _⟩ := hs0.fact (p := ∃ r o, [mv] = [Value.chan (some r)] ∧ ObjR 1 (.cons (.int .i64) (.one (.sl (.str)))) y o) (fun h k => by obtain ⟨r, o, a, b, _⟩ := k; exact ⟨r, o, a, b⟩)
 cases e1
 have hs1 : Sep E K ((fun h => ∃ buf s r, h = one c (.chan (Int.toNat y.1) buf false s r false) ∧ (0 : Int) ≤ y.1 ∧ buf.toList = List.map (keyV (.str)) y.2) :: Cl b 71 [.chan (some c)] :: F) w :=
   hs0.mono (fun h k => by obtain ⟨r', o, a, ⟨buf, s, r, rfl, h1, h2⟩, c⟩ := k; cases a; exact ⟨buf, s, r, c, h1, h2⟩)
 obtain ⟨h0, ⟨buf, s, r, rfl, h1, h2⟩, hd, hs1⟩ := hs1
 have hs2 : Sep E K ((fun h => h = one c (.chan (Int.toNat y.1) buf false s r false)) :: Cl b 71 [.chan (some c)] :: F) w := ⟨_, rfl, hd, hs1⟩
 have hc := hs2.obj
 have hsz : buf.size = y.2.length := by rw [← Array.length_toList, h2, List.length_map]
 obtain ⟨rm, l⟩ := y
 dsimp only at hsz h1 h2 hs hc
 cases l with
 | nil =>
   obtain rfl : buf = #[] := Array.eq_empty_of_size_eq_zero (by simpa using hsz)
   refine (get_str_none b c w hp hc).mono ?_
   rintro e w' ⟨rfl, rfl⟩
   refine ⟨_, K, _, rfl, ⟨⟨rfl, rfl⟩, rfl⟩, Hp.le_refl K, ?_⟩
   exact hs
 | cons a l =>
   refine (get_str_some b c w hp hc (by rw [hsz]; simp) (keyV (.str) a) (by
       obtain ⟨bl⟩ := buf
       replace h2 : bl = List.map (keyV (.str)) (a :: l) := h2
       subst h2; rfl)).mono ?_
   rintro e w' ⟨rfl, rfl⟩
   refine ⟨_, K, _, rfl, ⟨⟨rfl, rfl⟩, rfl⟩, Hp.le_refl K, ?_⟩
   · exact ((hs2.onl (onl_chan hc)).mono (fun h k => ⟨c, _, rfl, ⟨_, _, _, rfl, h1, by
       obtain ⟨bl⟩ := buf
       replace h2 : bl = List.map (keyV (.str)) (a :: l) := h2
       subst h2; simp [List.take_of_length_le]⟩, k⟩) : Sep E K (OT.own K0 Och_str [.chan (some c)] (some (rm, l) : Option (Int × List (List UInt8))) :: Cl b 71 [.chan (some c)] :: F) _).swap
noncomputable def sp_put_str : Spec := ⟨23, ⟨[(0, .ptr 0 0), (1, .dat (.str))], [⟨none, 71, [.od Och_str], false, false, none, false⟩]⟩, [⟨[(0, .dat .bool)], [⟨some 0, 71, [.od Och_str], false, false, none, false⟩]⟩], fun x => putF x.1 x.2⟩
theorem put_str_is [BldA] : SpecOk Tryd.prog sp_put_str := by
 intro x r hr vv u hu m K args hgk hm hH hsl E w F hs
 have hu' : sp_put_str.inn.un (TL.list _ x) 0 = some ([(0, .ptr 0 0), (1, .str x.1)], ⟨[], 4, [.blk 0 3 71 [.own 1], .od 1 2 Och_str x.2], []⟩) := rfl
 rw [hu'] at hu
 cases hu
 replace hm : m.length = 4 := hm
 obtain ⟨v1, u1, rfl, ⟨b, e1, rfl⟩, v2, u2, rfl, rfl, rfl⟩ := hsl
 obtain ⟨b', vs, g0, g3, v0, r0, rfl, ⟨h1, h1o⟩, rfl⟩ := hH (.blk 0 3 71 [.own 1]) (by simp)
 rw [g0] at e1; cases e1
 obtain ⟨mv, K0, g1, g2, hk, hf⟩ := hH (.od 1 2 Och_str x.2) (by simp)
 rw [g1] at h1
 have e0 : v0 = mv := by cases h1; rfl
 subst e0
 have hs' : Sep E K (HA.conc m (.blk 0 3 71 [.own 1]) :: HA.conc m (.od 1 2 Och_str x.2) :: F) w := hs
 simp only [HA.conc, g0, g1, g2, g3] at hs'
 cases hy : (x.2 : Option (Int × List (List UInt8))) with
 | none => exact absurd hr (by show putF x.1 x.2 ≠ some r; rw [hy]; exact nofun)
 | some y =>
 rw [hy] at hs' hf
 have hr' : putF x.1 x.2 = some r := hr
 rw [hy] at hr'
 refine (put_str_tr x.1 y E w F hs').mono ?_
 rintro e w' ⟨v, K', L', rfl, ⟨⟨rfl, rfl⟩, rfl⟩, hle, hs2⟩
 obtain rfl : r = (decide (((y.2.length : Nat) : Int) < y.1), (some (if ((y.2.length : Nat) : Int) < y.1 then (y.1, y.2 ++ [x.1]) else y) : Option (Int × List (List UInt8)))) := (Option.some.inj hr').symm
 let ms : List M := [M.val v0, M.hp K0, M.cells [v0]]
 have f0 : (m ++ ms)[0]? = some (.val (.pointer (some ⟨b, 0, none⟩))) := by rw [List.getElem?_append_left (by omega)]; exact g0
 have f4 : (m ++ ms)[4]? = some (.val v0) := by rw [List.getElem?_append_right (by omega), hm]; rfl
 have f5 : (m ++ ms)[5]? = some (.hp K0) := by rw [List.getElem?_append_right (by omega), hm]; rfl
 have f6 : (m ++ ms)[6]? = some (.cells [v0]) := by rw [List.getElem?_append_right (by omega), hm]; rfl
 obtain ⟨c, rfl⟩ : ∃ c, v0 = .chan (some c) := by
   rcases hf with ⟨hf, _⟩ | ⟨y', c, _, hb⟩
   · cases hf
   · exact ⟨c, hb⟩
 refine ⟨_, K, _, rfl, ⟨[(0, .bool (decide (((y.2.length : Nat) : Int) < y.1)))], ⟨[], 7, [.blk 0 6 71 [.own 4], .od 4 5 Och_str (some (if ((y.2.length : Nat) : Int) < y.1 then (y.1, y.2 ++ [x.1]) else y) : Option (Int × List (List UInt8)))], []⟩, m ++ ms, rfl, List.prefix_append _ _, by simp [hm, ms], ?_, rfl, rfl⟩, hle, ?_⟩
 · intro a ha
   simp only [List.mem_cons, List.mem_nil_iff, or_false] at ha
   rcases ha with rfl | rfl
   · exact ⟨b, _, f0, f6, _, _, rfl, ⟨f4, h1o⟩, rfl⟩
   · exact ⟨_, K0, f4, f5, hk, .inr ⟨_, c, rfl, rfl⟩⟩
 · show Sep E K (HA.conc _ (.blk 0 6 71 [.own 4]) :: HA.conc _ (.od 4 5 Och_str (some (if ((y.2.length : Nat) : Int) < y.1 then (y.1, y.2 ++ [x.1]) else y) : Option (Int × List (List UInt8)))) :: F) w'
   simp only [HA.conc, f0, f4, f5, f6]
   exact hs2
noncomputable def ok_put_str [BldA] : OkSpec Tryd.prog := ⟨sp_put_str, put_str_is, Tryd.call23⟩
noncomputable def sp_get_str : Spec := ⟨24, ⟨[(0, .ptr 0 0)], [⟨none, 71, [.od Och_str], false, false, none, false⟩]⟩, [⟨[(0, .tup [.dat (.str), .dat .bool])], [⟨some 0, 71, [.od Och_str], false, false, none, false⟩]⟩], fun x => getF ([] : List UInt8) x⟩
theorem get_str_is [BldA] : SpecOk Tryd.prog sp_get_str := by
 intro x r hr vv u hu m K args hgk hm hH hsl E w F hs
 have hu' : sp_get_str.inn.un (TL.list _ x) 0 = some ([(0, .ptr 0 0)], ⟨[], 4, [.blk 0 3 71 [.own 1], .od 1 2 Och_str x], []⟩) := rfl
 rw [hu'] at hu
 cases hu
 replace hm : m.length = 4 := hm
 obtain ⟨v1, u1, rfl, ⟨b, e1, rfl⟩, rfl⟩ := hsl
 obtain ⟨b', vs, g0, g3, v0, r0, rfl, ⟨h1, h1o⟩, rfl⟩ := hH (.blk 0 3 71 [.own 1]) (by simp)
 rw [g0] at e1; cases e1
 obtain ⟨mv, K0, g1, g2, hk, hf⟩ := hH (.od 1 2 Och_str x) (by simp)
 rw [g1] at h1
 have e0 : v0 = mv := by cases h1; rfl
 subst e0
 have hs' : Sep E K (HA.conc m (.blk 0 3 71 [.own 1]) :: HA.conc m (.od 1 2 Och_str x) :: F) w := hs
 simp only [HA.conc, g0, g1, g2, g3] at hs'
 cases hy : (x : Option (Int × List (List UInt8))) with
 | none => exact absurd hr (by show getF ([] : List UInt8) x ≠ some r; rw [hy]; exact nofun)
 | some y =>
 rw [hy] at hs' hf
 have hr' : getF ([] : List UInt8) x = some r := hr
 rw [hy] at hr'
 refine (get_str_tr y E w F hs').mono ?_
 rintro e w' ⟨v, K', L', rfl, ⟨⟨rfl, rfl⟩, rfl⟩, hle, hs2⟩
 obtain rfl : r = (y.2.headD [], !y.2.isEmpty, (some (y.1, y.2.tail) : Option (Int × List (List UInt8)))) := (Option.some.inj hr').symm
 let ms : List M := [M.val v0, M.hp K0, M.cells [v0]]
 have f0 : (m ++ ms)[0]? = some (.val (.pointer (some ⟨b, 0, none⟩))) := by rw [List.getElem?_append_left (by omega)]; exact g0
 have f4 : (m ++ ms)[4]? = some (.val v0) := by rw [List.getElem?_append_right (by omega), hm]; rfl
 have f5 : (m ++ ms)[5]? = some (.hp K0) := by rw [List.getElem?_append_right (by omega), hm]; rfl
 have f6 : (m ++ ms)[6]? = some (.cells [v0]) := by rw [List.getElem?_append_right (by omega), hm]; rfl
 obtain ⟨c, rfl⟩ : ∃ c, v0 = .chan (some c) := by
   rcases hf with ⟨hf, _⟩ | ⟨y', c, _, hb⟩
   · cases hf
   · exact ⟨c, hb⟩
 refine ⟨_, K, _, rfl, ⟨[(0, .tup [.str (y.2.headD []), .bool (!y.2.isEmpty)])], ⟨[], 7, [.blk 0 6 71 [.own 4], .od 4 5 Och_str (some (y.1, y.2.tail) : Option (Int × List (List UInt8)))], []⟩, m ++ ms, rfl, List.prefix_append _ _, by simp [hm, ms], ?_, ⟨_, rfl, _, _, rfl, rfl, _, _, rfl, rfl, rfl⟩, rfl⟩, hle, ?_⟩
 · intro a ha
   simp only [List.mem_cons, List.mem_nil_iff, or_false] at ha
   rcases ha with rfl | rfl
   · exact ⟨b, _, f0, f6, _, _, rfl, ⟨f4, h1o⟩, rfl⟩
   · exact ⟨_, K0, f4, f5, hk, .inr ⟨_, c, rfl, rfl⟩⟩
 · show Sep E K (HA.conc _ (.blk 0 6 71 [.own 4]) :: HA.conc _ (.od 4 5 Och_str (some (y.1, y.2.tail) : Option (Int × List (List UInt8)))) :: F) w'
   simp only [HA.conc, f0, f4, f5, f6]
   exact hs2
noncomputable def ok_get_str [BldA] : OkSpec Tryd.prog := ⟨sp_get_str, get_str_is, Tryd.call24⟩
end
end Go.Proofs.YtmlbbjkojaljnaaDoor

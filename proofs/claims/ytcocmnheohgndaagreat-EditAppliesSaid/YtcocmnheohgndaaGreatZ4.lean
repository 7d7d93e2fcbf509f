/- A part of the proof: what lies ahead of the law. Nothing is claimed here. -/
import Derived.Test.YtcocmnheohgndaaGreatZ3
import Derived.RangeFuncRecord
import Derived.Test.YtcocmnheohgndaaGreatRows
import Derived.Lib.Builder
import Derived.RegionTactic
import Derived.Shelf.Spec.SlicesInsert
import Derived.Lib.AppendZerosOnto
import Derived.Laws.NewBlocks
import Derived.Shelf.SlicesE.Kit
import Derived.Deep.LoopGhost
import Derived.Deep.RegionLaw
import Derived.Sort.WalkB12
import Derived.Lib.SliceRun
open Array renaming ext' → Q9, foldl_toList → bD0, getElem?_eq_getElem → T5, getElem?_eq_none → S3, getElem?_eq_some_iff → Y9, getElem?_modify → br0, getElem?_toList → P6, length_toList → M1, mapM_eq_mapM_toList → Z8, toList_map → aG0
open Bool renaming and_eq_true → Q0, xor_false → aU0, xor_true → be0
open Empty renaming elim → bM0
open Int renaming eq_ofNat_of_zero_le → Y0, le_of_lt → ap0, toNat_natCast → O1
open List renaming all_append → ao0, all_cons → ai0, all_eq_true → W5, append_assoc → O0, cons_append → N4, drop_append → bR0, drop_append_of_le_length → T9, drop_drop → M4, drop_eq_nil_of_le → bj0, drop_left' → bZ0, drop_nil → bc0, drop_of_length_le → bi0, drop_succ_cons → Y6, drop_zero → X2, ext_getElem? → bL0, getElem?_append_right → W2, getElem?_drop → W4, getElem?_eq_getElem → R0, getElem?_eq_none → R3, getElem?_eq_some_iff → T1, getElem?_take → V4, getElem_of_mem → X3, length → N1, length_cons → V1, length_drop → T0, length_eq_zero_iff → V0, length_map → U8, length_range → bI0, length_take → Z0, mapM_cons → aS0, map_append → Y2, map_cons → Z1, mem_append → M2, mem_append_left → T4, mem_append_right → Q3, mem_cons → T2, mem_cons_of_mem → R2, mem_cons_self → ab0, mem_map → Z4, mem_of_mem_drop → V7, mem_of_mem_take → U7, mem_range → W8, mem_singleton → X1, nil_append → O4, nodup_cons → bX0, perm_middle → P5, prefix_append → ay0, prefix_refl → O7, prefix_rfl → aN0, size_toArray → R5, take_append → N7, take_append_drop → O3, take_append_of_le_length → P8, take_left' → S8, take_nil → aZ0, take_of_length_le → Z2, take_succ_cons → av0, take_succ_eq_append_getElem → Y3, take_take → T6, take_zero → S6, toArray → S4
open List.Perm renaming append_left → R9
open List.cons renaming injEq → O5
open Nat renaming add_comm → U5, add_sub_cancel_left → M8, add_zero → Z3, beq → S0, beq_refl → R8, ble → M5, blt → X4, blt_eq → V5, eq_of_beq_eq_true → N0, eq_zero_or_pos → aa0, le_add_right → bO0, le_of_ble_eq_true → P2, le_refl → S2, le_succ → bu0, le_trans → M9, min → aX0, min_def → aM0, min_eq_left → U4, succ_mul → Q4, zero_add → O2, zero_mul → P7
open Option renaming map_eq_some_iff → Y1
open Option.some renaming inj → P4, injEq → W0
open Sum renaming inl → bS0, inr → aK0
open UInt8 renaming ofNat → aJ0
namespace Go.Proofs.YtcocmnheohgndaaGreat
noncomputable section
set_option linter.unusedVariables false
set_option linter.unusedSimpArgs false
set_option linter.unnecessarySimpa false
set_option linter.unusedSectionVars false
open Go.RowKit
section
variable [BldA]
def Hp.del (K:Hp) (D:Nat):Hp:=fun n=>if n=D then none else K n
theorem Hp.cle_del {K:Hp} {D:Nat} {x:Option (List Deferred)} (h:K D=some (.deferred x)):K.cle (K.del D):=fun g o v e=>by
 unfold ba Hp.del at *;by_cases hg:g=D
 . subst hg; rw [h] at e; cases e
 . rw [if_neg hg]; exact e
section
variable {P:Program} {E:En} {n:Nat} {m:List M} {K:Hp} {fr:Frz} {σ:Zt} {ρ:Sl1} {w:World}
theorem Rel.unmark (hr:Rel E fr σ m K ρ w) {K2:Hp} {w2:World} (hc:K.cle K2) (hk:fr.K.le K2) (h0:fr.k0.le K2) (hs:Sep E K2 (σ.atoms fr m) w2):Rel E fr ⟨σ.base,σ.top,σ.H,σ.Hf,σ.nx,false⟩ m K2 ⟨ρ.f,[]⟩ w2 where
 hm:=hr.hm
 hK:=hk
 nx:=hr.nx
 kq:=fun e=>(by cases e)
 base:=hr.base
 dead:=hr.dead
 old:=hr.old
 top:=fun i sv hi=>SV.monoC (fun _ _ h=>h) hc sv (hr.top i sv hi)
 okH:=fun a ha=>HA.ok_monoC (fun _ _ h=>h) hc (hr.okH a ha)
 okF:=hr.okF
 mks:=MOk.nil hr.mks.1.1 h0
 sep:=hs
theorem nK {fn:Func} {tmps:Array Value} {R:Ending->World->Prop} {L:List ab} {k0:Hp}:∀ (ds:List Deferred) {K:Hp} {w:World},MOk k0 K ds->Sep E K L w ->
   (∀ K2 w2,K.cle K2->k0.le K2->Sep E K2 L w2->∃ v,(results fn tmps).run P w2 = .ok v w2/\R (.returned v) w2)->LeavesInM Fence.wide 0 P fn tmps R ds .returning w
 | [],K,w,hm,hs,h=>h K w (Hp.cle_refl K) hm.1.2 hs
 | d :: ds,K,w,hm,hs,h=>by
   obtain ⟨D,rfl,hD,h0⟩:=hm.2.1 d (by simp);have hw:w.heap[D]? = some (.deferred (some [])):=hs.sub D _ hD;have hnd:=bX0.1 hm.2.2;refine ⟨by simp,.inl ⟨D,w.putObj D (.deferred none),rfl,run_takeDeferred hw,?_⟩⟩;have other:∀ (k:Nat) (o:Obj),k≠D->w.heap[k]? = some o->(w.putObj D (.deferred none)).heap[k]? = some o:=fun k o hne e=>by rw [World.putObj_heap_other hne]; exact e
   have hs1:Sep E (K.del D) L (w.putObj D (.deferred none)):=by
     refine Sep.move (w:=w) (w':=w.putObj D (.deferred none)) (fun e=>e) hs (fun k o e=>?_) (fun k o e e1=>?_)
     . unfold Hp.del at e;split at e
       . cases e
       . rename_i hne; exact other k o hne (hs.sub k o e)
     . have hne:k≠D:=fun e2=>by rw [e2,hD] at e1; cases e1
       exact ⟨by unfold Hp.del; rw [if_neg hne]; exact e1,other k o hne e⟩
   refine nK ds ⟨⟨hm.1.1,fun k o e=>?_⟩,fun d' hd'=>?_,hnd.2⟩ hs1 (fun K2 w2 c1 c2 c3=>h K2 w2 ((Hp.cle_del hD).trans c1) c2 c3)
   . unfold Hp.del;rw [if_neg (fun e2=>by rw [e2,h0] at e; cases e)];exact hm.1.2 k o e
   . obtain ⟨D',rfl,h1,h2⟩:=hm.2.1 d' (R2 _ hd');refine ⟨D',rfl,?_,h2⟩;unfold Hp.del;rw [if_neg (fun e=>hnd.1 (by rw [<- e]; exact hd'))];exact h1
end
section
variable {P:Program} {E:En} {K:Hp} {L:List ab} {w:World}
theorem LpA.at {l:Nat} {r:Loop} (h:Sep E K (LpA l r :: L) w):w.heap[l]? = some (.loop r):=by
 obtain ⟨h1,rfl,hd,hs⟩:=h;exact hs.sub l _ (Hp.join_right (aZ l _) (hd l _ (aZ l _)))
theorem LpA.put {l:Nat} {r r':Loop} (h:Sep E K (LpA l r :: L) w):Sep E K (LpA l r' :: L) (w.putObj l (.loop r')):=by
 have hw:=LpA.at h;have hlt:=(Y9.1 hw).1;refine Sep.turn h (fun e=>e) (fun h1 hA hle=>?_);obtain rfl:=hA;refine ⟨one l (.loop r'),rfl,fun n o e=>?_,fun n o e e1=>?_⟩
 . obtain ⟨rfl,rfl⟩:=cC e;exact ⟨World.putObj_heap_same hlt,fun e2=>by rw [aZ] at e2; cases e2⟩
 . have hne:n≠l:=fun e2=>by subst e2; rw [aZ] at e1; cases e1
   rw [World.putObj_heap_other hne]; exact e
theorem Bc {l₀:Nat} {r₀:Loop} (h:w.heap[l₀]? = some (.loop r₀)) (fn:FuncId) (tmps:Array Value) (ps:Array Tmp) (assign body:Code) :
   (Instr.enterLoop fn tmps ps assign body (some l₀)).run P w =
     .ok (w.heap.size,[]) (w.alloc (.loop { state := .ready,pending:=none,fn,tmps,params:=ps,assign,body,defers:=r₀.defers })):=by
 unfold Instr.enterLoop;simp only [Sem.run_bind,run_getLoop h,run_newObj_alloc,Result.andThen,Sem.run_pure]
theorem Sep.allocO (h:Sep E K L w) (o:Obj):Sep E K ((fun hh=>hh=one w.heap.size o) :: L) (w.alloc o) :=
 Sep.turn h.emp (fun e=>e) (fun h0 ha _=>by
   unfold _root_.Go.Proofs.YtcocmnheohgndaaGreat.emp at ha; subst ha;refine ⟨one w.heap.size o,rfl,fun n x e=>?_,fun n x e _=>?_⟩
   . obtain ⟨rfl,rfl⟩:=cC e;exact ⟨World.alloc_heap_new w _,fun _=>S3 (S2 _)⟩
   . rw [Below.heap_alloc _ _ _ (lt_of_block e)]; exact e)
theorem Sep.known {o:Obj} {b:Nat} (h:Sep E K ((fun hh=>hh=one b o) :: L) w):Sep E (K.join (one b o)) L w/\K b=none:=by
 obtain ⟨h1,rfl,hd,hs⟩:=h;exact ⟨hs,hd b _ (aZ b o)⟩
end
def ij (r:Loop):Loop:={ r with state := .busy,pending:=none }
def jU (E:En) (fr:Frz):Prop:=∀ l,E.rd=some l->∃ r,LpA l r∈fr.F
section
variable {R:Type} {P:Program} {E:En} {n:Nat} {m m':List M} {K K':Hp} {fr:Frz} {σ σ':Zt} {ρ ρ':Sl1} {w w':World}
def Fok (P:Program) (n:Nat) (c:Code) (f:Hn P->Zt->(R:Type)->(Exit->Hn P->Zt->Option R)->Option R):Prop :=
 ∀ (R:Type) (E:En) (fr:Frz),jU E fr->∀ (h:Hn P) (σ:Zt) (k:Exit->Hn P->Zt->Option R) (r:R) (m:List M) (K:Hp) (ρ:Sl1) (w:World) (Q:Exit->Act->World->Prop),f h σ R k=some r->Rel E fr σ m K ρ w ->
   (∀ e h' σ' m' K' ρ' w',Rel E fr σ' m' K' ρ' w'->Same σ σ'->k e h' σ'=some r->Q e (act1 n ρ') w')->c.wpIn (az E.rd) 0 P Q (act1 n ρ) w
def JOk (J:Rn P):Prop:=∀ n c,Fok P n c (fun h σ R k=>J n c R h σ k)
def dY:List Nat->List Value->Sl0->Sl0
 | p :: ps,x :: xs,f=>dY ps xs (upd f p x)
 | _,_,f=>f
theorem EB {ρ:Sl0} {p:Nat} {v:Value}:(frm n ρ).setIfInBounds p v=frm n (upd ρ p v):=by
 have h:=congrArg Act.tmps (Go.Proofs.YtcocmnheohgndaaGreat.put_act n ρ p v);unfold act Act.put at h;exact h
theorem wd:∀ (ps:List Nat) (xs:List Value) (ρ:Sl0),(ps.zip xs).foldl (fun t (q:Nat×Value)=>t.setIfInBounds q.1 q.2) (frm n ρ)=frm n (dY ps xs ρ)
 | [],xs,ρ=>rfl
 | p :: ps,[],ρ=>rfl
 | p :: ps,x :: xs,ρ=>by
   show (ps.zip xs).foldl _ ((frm n ρ).setIfInBounds p x)=_;rw [EB];exact wd ps xs (upd ρ p x)
theorem wD:∀ (ps:List Nat) {xs:List SV} {us:List Value} {f:Nat->SV} {ρ:Sl0},SV.relL m K xs us->(∀ i,SV.rel m K (f i) (ρ i))->∀ i,SV.rel m K (pq ps xs f i) (dY ps us ρ i)
 | [],xs,us,f,ρ,h,hf,i=>hf i
 | p :: ps,[],us,f,ρ,h,hf,i=>by
   obtain rfl:=aR h;exact hf i
 | p :: ps,x :: xs,us,f,ρ,h,hf,i=>by
   obtain ⟨u,r,rfl,h1,h2⟩:=aG h;refine wD ps (us:=r) (ρ:=upd ρ p u) h2 (fun j=>?_) i;show SV.rel m K (bif S0 j p then x else f j) (bif S0 j p then u else ρ j);cases S0 j p with
   | true=>exact h1
   | false=>exact hf j
theorem n6:∀ {xs:List SV} {us:List Value},SV.relL m K xs us->us.length=xs.length
 | [],us,h=>by obtain rfl:=aR h; rfl
 | x :: xs,us,h=>by
   obtain ⟨u,r,rfl,h1,h2⟩:=aG h;simp [n6 h2]
theorem CD {J:Rn P} (hJ:JOk J) {c:SV} {xs:List SV} {h:Hn P} {k:Hn P->Zt->Bool->Option R} {r:R} (hh:tg J σ c xs h k=some r) (hr:Rel E fr σ m K ρ w) {us:List Value} {v:Value} (hv:SV.rel m K c v) (hxs:SV.relL m K xs us) {X:Ending->World->Prop}
   (hX:∀ h' σ' m' K' w' b,Rel E fr σ' m' K' ρ w'->Same σ σ'->k h' σ' b=some r->X (.returned (.bool b)) w') :
   ∃ l,v = .func (.yield l) #[] #[]/\∃ fn tmps ao bo,(Instr.yield l us.toArray).run P w = .ok (.round l fn tmps ao bo) w/\RoundIn (az E.rd) 0 P l fn tmps ao bo w X:=by
 unfold tg at hh;split at hh
 . rename_i i n0 vs0 ps ao bo;obtain ⟨l,rr,ρ0,rfl,hm,ht,hp,ha,hb,hvs⟩:=hv;replace hh:=ai hh; obtain ⟨hlen,hh⟩:=hh;have hlen:=N0 hlen;split at hh
   . rename_i H hq;obtain ⟨a,ha',hmem,hperm⟩:=bD hq;obtain rfl:=td ha';have hsub:∀ a∈H,a∈σ.H:=fun a ha=>hperm.symm.subset (R2 _ ha)
     -- the record, ahead
     have hs0:Sep E K (LpA l (LSt.ready.cr rr) :: (H.map (HA.conc m)++σ.fz fr)) w:=by
       have:=Sep.perm ((hperm.map (HA.conc m)).append_right (σ.fz fr)) hr.toSep;simpa only [Z1,HA.conc,hm,N4] using this
     have hw:=LpA.at hs0;have hy:=run_yield (P:=P) (args:=us.toArray) hw (by
       show us.toArray.size=rr.params.size;rw [hp,R5,n6 hxs,hlen])
     refine ⟨l,rfl,_,_,_,_,hy,roundIn_of_wpIn trivial ?_⟩;have htm:(((LSt.ready.cr rr).params.zip us.toArray).foldl (fun tmps (t,a)=>tmps.setIfInBounds t a) (LSt.ready.cr rr).tmps)=frm n0 (dY ps.toList us ρ0):=by
       show ((rr.params.zip us.toArray).foldl _ rr.tmps)=_;rw [hp,ht,<- bD0,Array.toList_zip];exact wd ps.toList us ρ0
     rw [htm];show rr.assign.wpIn (az (some l)) 0 P _ (act1 n0 ⟨dY ps.toList us ρ0,[]⟩) w;rw [ha];have hE:∀ (L:List ab) (K:Hp) (w:World),Sep E K L w->Sep { E with rd:=some l } K L w:=fun L K w=>Sep.rd (E:=E) (E':={ E with rd:=some l }) (fun w h=>h)
     have hE':∀ (L:List ab) (K:Hp) (w:World),Sep { E with rd:=some l } K L w->Sep E K L w:=fun L K w=>Sep.rd (E:={ E with rd:=some l }) (E':=E) (fun w h=>h)
     have mid:∀ (A B C:List ab) (x:ab),(A++(B++x :: C)).Perm (x :: (A++(B++C))):=fun A B C x=>by
       rw [<- O0,<- O0]; exact P5
     have hrel:Rel { E with rd:=some l } ⟨m,K,⟨dY ps.toList us ρ0,[]⟩,fun _=>false,LpA l (LSt.ready.cr rr) :: fr.F,K⟩ ⟨pq ps.toList xs vs0,[],H,σ.Hf,σ.nx,false⟩ m K ⟨dY ps.toList us ρ0,[]⟩ w:=by
       refine ⟨⟨O7 m,Hp.le_refl K,hr.nx,fun e=>(by cases e),fun i=>wD ps.toList hxs hvs i,fun i e=>(by cases e),fun i _ => .inr rfl,fun i sv e=>(by cases e),fun a ha=>hr.okH a (hsub a ha),fun a ha=>hr.toPur.all a (Q3 _ ha),MOk.nil hr.mks.gk (Hp.le_refl K)⟩,?_⟩;show Sep _ K (H.map (HA.conc m)++(σ.Hf.map (HA.conc m)++(LpA l (LSt.ready.cr rr) :: fr.F))) w;refine hE _ _ _ (Sep.perm (mid _ _ _ _).symm ?_);rw [hr.toPur.fz'];exact hs0
     refine hJ n0 ao _ { E with rd:=some l } ⟨m,K,⟨dY ps.toList us ρ0,[]⟩,fun _=>false,LpA l (LSt.ready.cr rr) :: fr.F,K⟩ (by intro l2 e; cases e; exact ⟨_,ab0⟩) h _ _ r m K _ w _ hh hrel (fun e h' σ1 m1 K1 ρ1 w1 h1 h2 h3=>?_);cases e with
     | normal =>
       have hs1:Sep E K1 (LpA l (LSt.ready.cr rr) :: (σ1.H.map (HA.conc m1)++(σ1.Hf.map (HA.conc m)++fr.F))) w1:=Sep.perm (mid _ _ _ _) (hE' _ _ _ h1.sep);have hw1:=LpA.at hs1;refine ⟨w1.putObj l (.loop (ij rr)),run_beginRound hw1 rfl,?_⟩;have hs2:=LpA.put (r':=(ij rr)) hs1;have hrel2:Rel { E with rd:=some l } ⟨m,K,⟨dY ps.toList us ρ0,[]⟩,fun _=>false,LpA l (ij rr) :: fr.F,K⟩ σ1 m1 K1 ρ1 (w1.putObj l (.loop (ij rr))) :=
         ⟨⟨h1.hm,h1.hK,h1.nx,h1.kq,h1.base,h1.dead,h1.old,h1.top,h1.okH,h1.okF,h1.mks⟩,hE _ _ _ (Sep.perm (mid _ _ _ _).symm hs2)⟩
       show (LSt.ready.cr rr).body.wpIn (az (some l)) 0 P _ (act1 n0 ρ1) _;rw [show (LSt.ready.cr rr).body=bo from hb];refine hJ n0 bo _ { E with rd:=some l } ⟨m,K,⟨dY ps.toList us ρ0,[]⟩,fun _=>false,LpA l (ij rr) :: fr.F,K⟩ (by intro l2 e; cases e; exact ⟨_,ab0⟩) h' σ1 _ r m1 K1 ρ1 _ _ h3 hrel2 (fun e2 h'' σ2 m2 K2 ρ2 w2 g1 g2 g3=>?_);have hs3:Sep E K2 (LpA l (ij rr) :: (σ2.H.map (HA.conc m2)++(σ2.Hf.map (HA.conc m)++fr.F))) w2:=Sep.perm (mid _ _ _ _) (hE' _ _ _ g1.sep);have hw3:=LpA.at hs3;have back:∀ (s:LSt) (b:Bool) (jump:Option Code),zG e2=some (b,s)->b=jump.isNone->s.cr rr = { ij rr with state:=if jump.isNone then .ready else .done,pending:=jump } ->
           ∃ v w',(Instr.endRound l jump).run P w2 = .ok v w'/\X (.returned v) w':=fun s b jump e1 e2 e3=>by
         subst e2;rw [e1] at g3;simp only at g3;refine ⟨_,_,run_endRound jump hw3,?_⟩;refine hX h'' ⟨σ.base,σ.top,.lp i s :: σ2.H,σ.Hf,σ2.nx,false⟩ m2 K2 _ _ ?_ ⟨rfl,rfl⟩ g3;have hm2:m <+: m2:=g1.hm;have hK2:K.le K2:=g1.hK;have hm2':∀ (i:Nat) (x:M),m[i]? = some x->m2[i]? = some x:=fun _ _ k=>aj hm2 k
         refine ⟨⟨hr.hm.trans hm2,hr.hK.trans hK2,g1.nx,fun e=>(by cases e),hr.base,hr.dead,hr.old,fun i sv hi=>SV.mono hm2' hK2 sv (hr.top i sv hi),fun a ha=>?_,hr.okF,hr.mks.mono hK2⟩,?_⟩
         . rcases T2.1 ha with rfl | ha
           . exact ⟨l,rr,hm2' _ _ hm⟩
           . exact g1.okH a ha
         . have:=LpA.put (r':=s.cr rr) hs3;have hHf:σ2.Hf=σ.Hf:=(h2.trans g2).2;rw [hHf,hr.toPur.fz'] at this;show Sep E K2 ((HA.lp i s :: σ2.H).map (HA.conc m2)++(σ.Hf.map (HA.conc fr.m)++fr.F)) _;simp only [Z1,HA.conc,hm2' _ _ hm,N4];rw [e3] at this ⊢;exact this
       cases e2 with
       | normal=>exact back .ready true none rfl rfl rfl
       | ret=>exact back .ret false (some .ret) rfl rfl rfl
       | exit id=>exact back (.exit id) false (some (.exit id)) rfl rfl rfl
       | goto t=>cases g3
       | panic ch=>cases g3
       | outgrown=>cases g3
     | exit id=>cases h3
     | goto t=>cases h3
     | ret=>cases h3
     | panic ch=>cases h3
     | outgrown=>cases h3
   . cases hh
 . cases hh
theorem Cc {F:Fence} {N:Nat} {o:Oper} {a:Act} {w:World} {X:Act->World->Prop} {Q Q':Exit->Act->World->Prop} (hq:∀ e a w,Q e a w->e ≠ .normal->Q' e a w) (hh:o.wpIn F N P a w X Q):o.wpIn F N P a w X Q':=by
 unfold Oper.wpIn at *;refine ⟨hh.1,?_⟩;have hh:=hh.2;have lo:LetsOut Q->LetsOut Q':=fun ⟨a,w,h⟩=>⟨a,w,hq _ _ _ h nofun⟩
 generalize (o.semAt F.round a.eval).run P w=r at *;cases r with
 | ok x w' =>
   cases x <;> simp only [Oper.uponIn] at hh ⊢ <;>
     first
       | exact hh
       | exact ⟨hh.1,CallsIn.mono hh.2 (fun e w'' he=>by cases e <;> first | exact he | exact hq _ _ _ he nofun | exact lo he)⟩
       | exact ⟨hh.1,RowsIn.mono hh.2 (fun _ _ he=>he)⟩
       | exact ⟨hh.1,RoundIn.mono hh.2 (fun e w'' he=>by cases e <;> first | exact he | exact hq _ _ _ he nofun | exact lo he)⟩
       | exact hh.elim
 | halt x w'=>cases x <;> simp only [Oper.uponIn] at hh ⊢ <;> first | exact hq _ _ _ hh nofun | exact lo hh | exact hh
theorem rb {r:Option Nat} {ops:Array Oper} {Q:Exit->Act->World->Prop} {rest:List Oper}:∀ {l:List Oper} {a:Act} {w:World},l.all b8=true->an P ops (fun e a w=>e = .normal/\wpListIn (az r) 0 P ops Q rest a w) l a w->wpListIn (az r) 0 P ops Q (l++rest) a w
 | [],a,w,_,h=>h.2
 | o :: l,a,w,hd,h=>by
   simp only [ai0,Q0] at hd;unfold an at h;rw [N4];unfold wpListIn;split
   . rename_i hw; rw [if_pos hw] at h;exact Cc (fun e a w h hne=>absurd h.1 hne) (Oper.wpIn_mono (fun a w h=>rb hd.2 h) (nT hd.1 h))
   . rename_i hw; rw [if_neg hw] at h;exact ⟨fun _ _=>trivial,rb hd.2 h⟩
theorem sB {f:Operand->SV} {g:Operand->Value} (hf:∀ x,SV.rel m K (f x) (g x)):∀ l:List Operand,SV.relL m K (l.map f) (l.map g)
 | []=>rfl
 | x :: l=>⟨_,_,rfl,hf x,sB hf l⟩
theorem sA:∀ {vs:List SV} {us:List Value} {j i:Nat} {sv:SV},SV.relL m K vs us->ar (slA j vs) i=some sv->∃ k u,i=j + k/\us[k]? = some u/\SV.rel m K sv u
 | [],us,j,i,sv,h,hl=>by cases hl
 | v :: vs,us,j,i,sv,h,hl=>by
   obtain ⟨u,q,rfl,h1,h2⟩:=aG h;change (bif S0 j i then some v else ar (slA (j + 1) vs) i)=some sv at hl;cases hb:S0 j i with
   | true =>
     rw [hb] at hl;cases hl;exact ⟨0,u,(N0 hb).symm,rfl,h1⟩
   | false =>
     rw [hb] at hl;obtain ⟨k,u',e1,e2,e3⟩:=sA (j:=j + 1) h2 hl;exact ⟨k + 1,u',by omega,by simpa using e2,e3⟩
theorem Ek {fn:Func} {ρ:Sl0} {j:Nat} (h:fn.results.toList=[.tmp j]):(results fn (frm n ρ)).run P w = .ok (Go.Proofs.YtcocmnheohgndaaGreat.ev n ρ (.tmp j)) w:=by
 have h':fn.results = #[.tmp j]:=Q9 (by rw [h]);exact Res.one (C:=fun _=>True) (v1:=Go.Proofs.YtcocmnheohgndaaGreat.ev n ρ (.tmp j)) h' rfl w trivial
theorem Dr {J:Rn P} (hJ:JOk J) {q:ItFn P} {c:Code} (hc:q.fn.body=some c) {vs:List SV} {us:List Value} (hus:SV.relL m K vs us) {j d:Nat} (hres:q.fn.results.toList=[.tmp j]) (hlen:vs.length<=q.fn.ntmps) {h0:Hn P} {k:Hn P->Zt->Option R} {r:R}
   (hh:J q.fn.ntmps c R h0 ⟨fun _ => .any,slA 0 vs,σ.H,σ.Hf,σ.nx,false⟩ (fun e h σ'=>bif pf e then k h.unw (Zt.set ⟨σ.base,σ.top,σ'.H,σ.Hf,σ'.nx,false⟩ d (σ'.ev q.fn.ntmps (.tmp j))) else none)=some r)
   (hr:Rel E fr σ m K ρ w) {X:Ending->World->Prop}
   (hX:∀ h' σ1 sv v m' K' w',Rel E fr σ1 m' K' ρ w'->Same σ σ1->SV.rel m' K' sv v->k h' (σ1.set d sv)=some r->X (.returned v) w') :
   CallsIn (az E.rd) 0 P q.f us.toArray w X:=by
 obtain ⟨args,hargs⟩:∃ args:Array Value,args=us.toArray:=⟨_,rfl⟩
 rw [<- hargs];have hsz:args.size<=q.fn.ntmps:=by rw [hargs,R5,n6 hus]; exact hlen
 have hrel:Rel E.out0 ⟨m,K,cz args,fun _=>false,fr.F,K⟩ ⟨fun _ => .any,slA 0 vs,σ.H,σ.Hf,σ.nx,false⟩ m K (cz args) w:=by
   refine ⟨⟨O7 _,Hp.le_refl K,hr.nx,fun e=>(by cases e),fun i=>trivial,fun i e=>(by cases e),fun i _ => .inr rfl,fun i sv hi=>?_,fun a ha=>hr.okH a ha,fun a ha=>hr.toPur.all a (Q3 _ ha),MOk.nil hr.mks.gk (Hp.le_refl K)⟩,?_⟩
   . obtain ⟨j',u,e1,e2,e3⟩:=sA hus hi;have:cz args i=u:=by
       show dQ args i=u;unfold dQ;rw [e1,O2,hargs];simp [e2]
     rw [this]; exact e3
   . show Sep E.out0 K (σ.H.map (HA.conc m)++(σ.Hf.map (HA.conc m)++fr.F)) w;rw [hr.toPur.fz'];exact hr.toSep.out0
 have key:CallsIn Fence.wide 0 P q.f args w X:=by
   refine callsIn_of_wp_marks (F:=Fence.wide) (n:=0) q.at_ hc trivial ?_;rw [oh hsz];refine hJ q.fn.ntmps c R E.out0 ⟨m,K,cz args,fun _=>false,fr.F,K⟩ (fun l2 e=>by cases e) h0 _ _ r _ K (cz args) w _ hh hrel (fun e h' σ' m' K' ρ' w' h1 h2 h3=>?_);replace h3:=ai h3; obtain ⟨hov,h3⟩:=h3;have fini:LeavesInM Fence.wide 0 P q.fn (act1 q.fn.ntmps ρ').tmps X ρ'.ds .returning w':=by
     refine nK ρ'.ds h1.mks h1.toSep (fun K2 w2 c1 c2 c3=>?_);refine ⟨_,Ek (n:=q.fn.ntmps) (ρ:=ρ'.f) hres,?_⟩;have g:=h1.unmark c1 c2 c2 c3;have hm2:m <+: m':=g.hm;have hm2':∀ (i:Nat) (x:M),m[i]? = some x->m'[i]? = some x:=fun _ _ k=>aj hm2 k
     have hv:SV.rel m' K2 (σ'.ev q.fn.ntmps (.tmp j)) (Go.Proofs.YtcocmnheohgndaaGreat.ev q.fn.ntmps ρ'.f (.tmp j)):=SV.monoC (fun _ _ h=>h) c1 _ (h1.toPur.ev q.fn.ntmps (.tmp j));have e2:σ'.Hf.map (HA.conc m)=σ.Hf.map (HA.conc fr.m):=by rw [h2.2]; exact hr.toPur.fz'
     have hs3:Sep E K2 (σ'.H.map (HA.conc m')++(σ.Hf.map (HA.conc fr.m)++fr.F)) w2:=by
       have:=c3.back (E:=E);rw [<- e2]; exact this
     refine hX h'.unw ⟨σ.base,σ.top,σ'.H,σ.Hf,σ'.nx,false⟩ _ _ m' K2 w2 ⟨⟨hr.hm.trans hm2,hr.hK.trans c2,g.nx,fun e=>(by cases e),hr.base,hr.dead,hr.old,fun i sv hi=>SV.mono hm2' c2 sv (hr.top i sv hi),fun a ha=>g.okH a ha,hr.okF,hr.mks.mono c2⟩,hs3⟩ ⟨rfl,rfl⟩ hv h3
   cases e with
   | normal=>exact fini
   | ret=>exact fini
   | exit id=>cases hov
   | goto t=>cases hov
   | panic ch=>cases hov
   | outgrown=>cases hov
 exact key
theorem Fo {J:Rn P} (hJ:JOk J) {o:Oper} {h:Hn P} {k:Hn P->Zt->Option R} {r:R} {ops:Array Oper} {rest:List Oper} {Q:Exit->Act->World->Prop} (hh:yop J n o h σ k=some r) (hr:Rel E fr σ m K ρ w) (hwt:Region.wanted o (yielded ops (act1 n ρ).tmps)=true)
   (hk:∀ h' σ' m' K' ρ' w',Rel E fr σ' m' K' ρ' w'->Same σ σ'->k h' σ'=some r->wpListIn (az E.rd) 0 P ops Q rest (act1 n ρ') w'):wpListIn (az E.rd) 0 P ops Q (o :: rest) (act1 n ρ) w:=by
 unfold yop at hh;split at hh
 . rename_i d c args ats t pos af gu;split at hh
   . rename_i q h1;split at hh
     . rename_i f e;have hv:=hr.toPur.ev n c;rw [e] at hv;obtain ⟨caps,hv,hcaps⟩:=hv;obtain rfl:=aR hcaps;unfold yG at hh;split at hh
       . rename_i cc j hcc hres;replace hh:=ai hh; obtain ⟨hb,hh⟩:=hh;rw [Q0] at hb;obtain rfl:=N0 hb.1;unfold wpListIn;rw [if_pos hwt];refine ⟨fun _ _=>trivial,?_⟩;rw [uD rfl,bS];have hrun:(execOp (Go.Proofs.YtcocmnheohgndaaGreat.ev n ρ.f) ⟨some d,.call ⟨.value c,args,ats⟩,t,pos,af,gu⟩).run P w = .ok (.enter q.f (args.toList.map (Go.Proofs.YtcocmnheohgndaaGreat.ev n ρ.f)).toArray) w:=by
           have e2:(args.toList.map (Go.Proofs.YtcocmnheohgndaaGreat.ev n ρ.f)).toArray=args.map (Go.Proofs.YtcocmnheohgndaaGreat.ev n ρ.f):=Q9 (by rw [aG0]);have hv':Go.Proofs.YtcocmnheohgndaaGreat.ev n ρ.f c = .func (.func q.f) #[] #[]:=hv;have:=q.ent (args.map (Go.Proofs.YtcocmnheohgndaaGreat.ev n ρ.f)) w;rw [e2];simp [execOp,resolve,Deferred.ofValue,hv',invoke,this]
         rw [hrun,Oper.uponIn_enter];refine ⟨fun hh=>(by cases (show false=true from hh)),?_⟩;refine Dr hJ hcc (sB (fun x=>hr.toPur.evr n x) args.toList) hres (P2 hb.2) hh hr (fun h' σ1 sv v m' K' w' g1 g2 g3 g4=>?_);show wpListIn _ _ _ _ _ _ ((act1 n ρ).put (some d) v) _;rw [bI];exact hk h' _ m' K' _ w' (g1.set (d:=d) (sv:=sv) (v:=v) g3) g2 g4
       . cases hh
     . cases hh
   . obtain ⟨l,hv,fn,tmps,ao,bo,hy,hround⟩:=CD hJ hh hr (hr.toPur.ev n c) (sB (fun x=>hr.toPur.evr n x) args.toList)
       (X:=fun e w''=>match e with
         | .returned v=>wpListIn (az E.rd) 0 P ops Q rest ((act1 n ρ).put (some d) v) w''
         | .panicked chain=>Q (.panic chain) (act1 n ρ) w''
         | .outgrown=>LetsOut Q)
       (fun h' σ' m' K' w' b h1 h2 h3=>by
         show wpListIn _ _ _ _ _ _ ((act1 n ρ).put (some d) (.bool b)) _;rw [bI];exact hk h' _ m' K' _ w' (h1.set (d:=d) (sv := .bool b) (v := .bool b) rfl) h2 h3)
     unfold wpListIn;rw [if_pos hwt];refine ⟨fun _ _=>trivial,?_⟩;rw [uD rfl,bS];have hrun:(execOp (Go.Proofs.YtcocmnheohgndaaGreat.ev n ρ.f) ⟨some d,.call ⟨.value c,args,ats⟩,t,pos,af,gu⟩).run P w = .ok (.round l fn tmps ao bo) w:=by
       have e:(args.toList.map (Go.Proofs.YtcocmnheohgndaaGreat.ev n ρ.f)).toArray=args.map (Go.Proofs.YtcocmnheohgndaaGreat.ev n ρ.f):=Q9 (by rw [aG0]);rw [e] at hy;have hv':Go.Proofs.YtcocmnheohgndaaGreat.ev n ρ.f c = .func (.yield l) #[] #[]:=hv;simp [execOp,resolve,Deferred.ofValue,hv',invoke,hy]
     rw [hrun,Oper.uponIn_round];refine ⟨fun hh=>(by cases (show false=true from hh)),hround.mono (fun e w'' he=>?_)⟩;cases e <;> exact he
 . cases hh
theorem Dv {fn:Func} {tmps:Array Value} (h:fn.results.isEmpty=true):∃ v,(results fn tmps).run P w = .ok v w:=by
 have h':fn.results = #[]:=by simpa using h
 refine ⟨.tuple #[],?_⟩;unfold results;simp [h']
theorem Eo {J:Rn P} (hJ:JOk J) {ps:Array Nat} {ao bo:Code} {h0:Hn P} {k:Exit->Hn P->Zt->Option R} {r:R} {Q:Exit->Act->World->Prop} {q:ItFn P} {c:Code} (hc:q.fn.body=some c) {cs:List SV} {us:List Value} (hus:SV.relL m K cs us)
   (hres:q.fn.results.isEmpty=true) (hlen:cs.length + 1<=q.fn.ntmps)
   (hh : J q.fn.ntmps c R h0 ⟨fun _ => .any, slA 0 (.yld σ.nx n σ.get ps ao bo :: cs), .lp σ.nx .ready :: σ.H, σ.Hf, σ.nx + 1, false⟩ (fun e h σ' =>
         bif pf e then (match pick (HA.lpR σ.nx) σ'.H with
           | some (s,H)=>LSt.go s k h ⟨σ.base,σ.top,H,σ.Hf,σ'.nx,false⟩
           | none=>none) else none)=some r)
   (hr:Rel E fr σ m K ρ w) {l:Nat} {mark:List Deferred} {K1:Hp} {w1:World} {fn1:FuncId} {D:Nat}
   (hs1:Sep E K1 (LpA l { state := .ready,pending:=none,fn:=fn1,tmps:=frm n ρ.f,params:=ps,assign:=ao,body:=bo,defers:=D } :: σ.atoms fr m) w1) (hK1:K.le K1) (hm1:MOk fr.k0 K1 (mark++ρ.ds))
   (hQ:∀ e h' σ' m' K' ρ' w',Rel E fr σ' m' K' ρ' w'->Same σ σ'->k e h' σ'=some r->Q e (act1 n ρ') w') :
   CallsIn (az E.rd) 0 P q.f (#[.func (.yield l) #[] #[]]++us.toArray) w1 (rangePost (az E.rd) 0 P l Q { act1 n ρ with defers:=mark++(act1 n ρ).defers }):=by
 obtain ⟨r1,hr1⟩:∃ r1:Loop,r1 = { state := .ready,pending:=none,fn:=fn1,tmps:=frm n ρ.f,params:=ps,assign:=ao,body:=bo,defers:=D }:=⟨_,rfl⟩
 rw [<- hr1] at hs1;obtain ⟨args,hargs⟩:∃ args:Array Value,args=(Value.func (.yield l) #[] #[] :: us).toArray:=⟨_,rfl⟩
 have hargs':(#[.func (.yield l) #[] #[]]++us.toArray:Array Value)=args:=by rw [hargs]; exact Q9 (by simp)
 rw [hargs'];have hp:=av m [M.loop l r1];have hmm:∀ (i:Nat) (x:M),m[i]? = some x->(m++[M.loop l r1])[i]? = some x:=fun _ _ k=>aj hp k
 have hgn:(m++[M.loop l r1])[σ.nx]? = some (.loop l r1):=aK hr.nx;have hsz:args.size<=q.fn.ntmps:=by
   rw [hargs,R5,V1,n6 hus];exact hlen
 have hall:SV.relL (m++[M.loop l r1]) K1 (.yld σ.nx n σ.get ps ao bo :: cs) (Value.func (.yield l) #[] #[] :: us) :=
   ⟨_,_,rfl,⟨l,r1,ρ.f,rfl,hgn,by rw [hr1],by rw [hr1],by rw [hr1],by rw [hr1],fun j=>SV.mono hmm hK1 _ (hr.toPur.get j)⟩,SV.monoL hmm hK1 _ hus⟩
 have hrel:Rel E.out0 ⟨m++[M.loop l r1],K1,cz args,fun _=>false,fr.F,K1⟩ ⟨fun _ => .any,slA 0 (.yld σ.nx n σ.get ps ao bo :: cs),.lp σ.nx .ready :: σ.H,σ.Hf,σ.nx + 1,false⟩ (m++[M.loop l r1]) K1 (cz args) w1:=by
   refine ⟨⟨O7 _,Hp.le_refl K1,by simp [hr.nx],fun e=>(by cases e),fun i=>trivial,fun i e=>(by cases e),fun i _ => .inr rfl,fun i sv hi=>?_,fun a ha=>?_,fun a ha=>HA.ok_mono hmm hK1 (hr.toPur.all a (Q3 _ ha)),MOk.nil hm1.gk (Hp.le_refl K1)⟩,?_⟩
   . obtain ⟨j,u,e1,e2,e3⟩:=sA hall hi;have:cz args i=u:=by
       show dQ args i=u;unfold dQ;rw [e1,O2,hargs];simp [e2]
     rw [this]; exact e3
   . rcases T2.1 ha with rfl | ha
     . exact ⟨l,r1,hgn⟩
     . exact HA.ok_mono hmm hK1 (hr.okH a ha)
   . show Sep E.out0 K1 ((HA.lp σ.nx .ready :: σ.H).map (HA.conc (m++[M.loop l r1]))++(σ.Hf.map (HA.conc (m++[M.loop l r1]))++fr.F)) w1;have e1:σ.H.map (HA.conc (m++[M.loop l r1]))=σ.H.map (HA.conc m):=c9 (K:=K) hmm hr.okH;have e2:σ.Hf.map (HA.conc (m++[M.loop l r1]))=σ.Hf.map (HA.conc fr.m):=(c9 (K:=K) hmm (fun a ha=>hr.toPur.all a (Q3 _ ha))).trans hr.toPur.fz';rw [Z1,e1,e2];have e3:HA.conc (m++[M.loop l r1]) (.lp σ.nx .ready)=LpA l r1:=by
       simp only [HA.conc,hgn];rw [hr1]; rfl
     rw [e3];exact hs1.out0
 have key:CallsIn Fence.wide 0 P q.f args w1 (rangePost (az E.rd) 0 P l Q { act1 n ρ with defers:=mark++(act1 n ρ).defers }):=by
   refine callsIn_of_wp_marks (F:=Fence.wide) (n:=0) q.at_ hc trivial ?_;rw [oh hsz];refine hJ q.fn.ntmps c R E.out0 ⟨m++[M.loop l r1],K1,cz args,fun _=>false,fr.F,K1⟩ (fun l2 e=>by cases e) h0 _ _ r _ K1 (cz args) w1 _ hh hrel (fun e h' σ' m' K' ρ' w' h1 h2 h3=>?_);replace h3:=ai h3; obtain ⟨hov,h3⟩:=h3;have fini:LeavesInM Fence.wide 0 P q.fn (act1 q.fn.ntmps ρ').tmps (rangePost (az E.rd) 0 P l Q { act1 n ρ with defers:=mark++(act1 n ρ).defers }) ρ'.ds .returning w':=by
     split at h3
     . rename_i s H hq;obtain ⟨a,ha',hmem,hperm⟩:=bD hq;obtain rfl:=td ha';have hsub:∀ a∈H,a∈σ'.H:=fun a ha=>hperm.symm.subset (R2 _ ha)
       refine nK ρ'.ds h1.mks h1.toSep (fun K2 w2 c1 c2 c3=>?_);obtain ⟨v,hv⟩:=Dv (P:=P) (w:=w2) (tmps:=(act1 q.fn.ntmps ρ').tmps) hres;refine ⟨v,hv,?_⟩;have g:=h1.unmark c1 c2 c2 c3;have hmp:m++[M.loop l r1] <+: m':=g.hm;have hgn':m'[σ.nx]? = some (.loop l r1):=aj hmp hgn;have hm2:m <+: m':=hp.trans hmp;have hm2':∀ (i:Nat) (x:M),m[i]? = some x->m'[i]? = some x:=fun _ _ k=>aj hm2 k
       have e2:σ'.Hf.map (HA.conc (m++[M.loop l r1]))=σ.Hf.map (HA.conc fr.m):=by
         rw [h2.2];exact (c9 (K:=K) hmm (fun a ha=>hr.toPur.all a (Q3 _ ha))).trans hr.toPur.fz'
       have hs3:Sep E K2 (LpA l (s.cr r1) :: (H.map (HA.conc m')++(σ.Hf.map (HA.conc fr.m)++fr.F))) w2:=by
         have:=Sep.perm ((hperm.map (HA.conc m')).append_right (σ'.Hf.map (HA.conc (m++[M.loop l r1]))++fr.F)) c3.back;rw [e2] at this;simpa only [Z1,HA.conc,hgn',N4] using this
       have hnb:(s.cr r1).state ≠ .busy:=by cases s <;> simp [LSt.cr]
       refine ⟨_,_,run_endLoop (LpA.at hs3) hnb,?_⟩;have hs4:=(LpA.put (r':={ s.cr r1 with state := .exhausted }) hs3).drop;have hKK:K.le K2:=hK1.trans c2;have hrel4:Rel E fr ⟨σ.base,σ.top,H,σ.Hf,σ'.nx,false⟩ m' K2 ⟨ρ.f,mark++ρ.ds⟩ (w2.putObj l (.loop { s.cr r1 with state := .exhausted })) :=
         ⟨⟨hr.hm.trans hm2,hr.hK.trans hKK,g.nx,fun e=>(by cases e),hr.base,hr.dead,hr.old,fun i sv hi=>SV.mono hm2' hKK sv (hr.top i sv hi),fun a ha=>g.okH a (hsub a ha),hr.okF,hm1.mono c2⟩,hs4⟩
       cases s with
       | ready=>exact hQ .normal h' _ m' K2 ⟨ρ.f,mark++ρ.ds⟩ _ hrel4 ⟨rfl,rfl⟩ h3
       | ret=>exact wpIn_ret (hQ .ret h' _ m' K2 ⟨ρ.f,mark++ρ.ds⟩ _ hrel4 ⟨rfl,rfl⟩ h3)
       | exit id=>exact wpIn_exit (hQ (.exit id) h' _ m' K2 ⟨ρ.f,mark++ρ.ds⟩ _ hrel4 ⟨rfl,rfl⟩ h3)
     . cases h3
   cases e with
   | normal=>exact fini
   | ret=>exact fini
   | exit id=>cases hov
   | goto t=>cases hov
   | panic ch=>cases hov
   | outgrown=>cases hov
 exact key
theorem DF {J:Rn P} (hJ:JOk J) (hrd:jU E fr) {g:Operand} {ps:Array Nat} {ao bo:Code} {h:Hn P} {k:Exit->Hn P->Zt->Option R} {r:R} {Q:Exit->Act->World->Prop} (hh:pM J n g ps ao bo h σ k=some r) (hr:Rel E fr σ m K ρ w)
   (hQ:∀ e h' σ' m' K' ρ' w',Rel E fr σ' m' K' ρ' w'->Same σ σ'->k e h' σ'=some r->Q e (act1 n ρ') w'):(Code.rangeFunc g ps ao bo).wpIn (az E.rd) 0 P Q (act1 n ρ) w:=by
 unfold pM at hh;split at hh
 . rename_i q h0;split at hh
   . rename_i f cs e;split at hh
     . rename_i c hc;replace hh:=ai hh; obtain ⟨hb,hh⟩:=hh;simp only [Q0] at hb;obtain ⟨hb1,hb2,hb3⟩:=hb;obtain rfl:=N0 hb1;have hv:=hr.toPur.ev n g;rw [e] at hv;obtain ⟨us,hv,hus⟩:=hv;refine wpIn_rangeFunc (fun fn hfn=>?_);have tail:∀ {l:Nat} {mark:List Deferred} {K1:Hp} {w1:World} {D:Nat},(Instr.enterLoop fn (act1 n ρ).tmps ps ao bo E.rd).run P w = .ok (l,mark) w1 ->
           Sep E K1 (LpA l { state := .ready,pending:=none,fn:=fn,tmps:=frm n ρ.f,params:=ps,assign:=ao,body:=bo,defers:=D } :: σ.atoms fr m) w1->K.le K1->MOk fr.k0 K1 (mark++ρ.ds) ->
           ∃ (l:Nat) (mark:List Deferred) (w₁:World) (d:Deferred) (w₁':World) (f:FuncId) (args:Array Value) (w₂:World),
             (Instr.enterLoop fn (act1 n ρ).tmps ps ao bo (az E.rd).round).run P w = .ok (l,mark) w₁ /\
             (resolve (act1 n ρ).eval (rangeCall g l) 0).run P w₁ = .ok d w₁' /\
             (∀ f',Target.leads P w₁' d.target d.args=some f'->(az E.rd).fn f') /\
             (invoke d.target d.args).run P w₁' = .ok (.enter f args) w₂ /\
             ((az E.rd).depth.isSome=true->1<=0) /\
             CallsIn (az E.rd) (0 - 1) P f args w₂ (rangePost (az E.rd) 0 P l Q { act1 n ρ with defers:=mark++(act1 n ρ).defers }):=fun {l mark K1 w1 D} he hs1 hK1 hm1=>by
         refine ⟨l,mark,w1,{ target := .fn (.func q.f) us.toArray,args:=#[.func (.yield l) #[] #[]] },w1,q.f,#[.func (.yield l) #[] #[]]++us.toArray,w1,he,?_,fun _ _=>trivial,?_,fun hh=>(by cases (show false=true from hh)),?_⟩
         . have hv':Go.Proofs.YtcocmnheohgndaaGreat.ev n ρ.f g = .func (.func q.f) #[] us.toArray:=hv;rw [bS];have hc2:Go.Proofs.YtcocmnheohgndaaGreat.ev n ρ.f (.const (.func (.yield l) #[] #[])) = .func (.yield l) #[] #[]:=rfl;simp [resolve,Deferred.ofValue,hv',hc2]
         . exact q.ent _ _
         . exact Eo hJ hc hus hb2 (P2 hb3) hh hr hs1 hK1 hm1 hQ
       cases hE:E.rd with
       | none =>
         rw [hE] at tail;obtain ⟨s1,hD⟩:=(hr.toSep.allocO (.deferred (some []))).known;have s2:=s1.allocO (.loop { state := .ready,pending:=none,fn:=fn,tmps:=frm n ρ.f,params:=ps,assign:=ao,body:=bo,defers:=w.heap.size });rw [World.size_alloc] at s2;refine tail (run_enterLoop_outer fn _ ps ao bo) s2 (Hp.le_join _ _) ⟨⟨hr.mks.1.1,hr.mks.1.2.trans (Hp.le_join _ _)⟩,fun d hd=>?_,?_⟩
         . rcases M2.1 hd with hd | hd
           . simp only [X1] at hd;subst hd;refine ⟨w.heap.size,rfl,Hp.join_right (aZ _ _) hD,?_⟩;cases hk0:fr.k0 w.heap.size with
             | none=>rfl
             | some x=>rw [hr.mks.1.2 _ _ hk0] at hD; cases hD
           . obtain ⟨D',e1,e2,e3⟩:=hr.mks.2.1 d hd;exact ⟨D',e1,Hp.le_join _ _ _ _ e2,e3⟩
         . refine bX0.2 ⟨fun hd=>?_,hr.mks.2.2⟩;obtain ⟨D',e1,e2,e3⟩:=hr.mks.2.1 _ hd;simp only [Deferred.mk.injEq,Target.collected.injEq,and_true] at e1;rw [<- e1,hD] at e2;cases e2
       | some l0 =>
         rw [hE] at tail;obtain ⟨r0,hmem⟩:=hrd l0 hE;have hw0:w.heap[l0]? = some (.loop r0):=by
           obtain ⟨i,hi⟩:=List.getElem?_of_mem (show LpA l0 r0∈σ.atoms fr m from Q3 _ (Q3 _ hmem));exact LpA.at (Sep.front i hi hr.toSep)
         exact tail (Bc hw0 fn _ ps ao bo) (hr.toSep.allocO _) (Hp.le_refl K) (by simpa using hr.mks)
     . cases hh
   . cases hh
 . cases hh
end
end
section
variable [BldA]
section
variable {R:Type} {P:Program} {E:En} {n:Nat} {m m':List M} {K K':Hp} {fr:Frz} {σ σ':Zt} {ρ ρ':Sl1} {w w':World}
theorem wZ {c:Code} {f:Hn P->Zt->(R:Type)->(Exit->Hn P->Zt->Option R)->Option R} (hf:Fok P n c f) (hrd:jU E fr) {s:Sh} {act W:List Nat} {a b:Hn P} {k:Hn P->Zt->Option R} {r:R} {Q:Exit->Act->World->Prop} (h:jO f s act W a b σ k=some r) (hr:Rel E fr σ m K ρ w)
   (hQ:∀ h' σ' m' K' ρ' w',Rel E fr σ' m' K' ρ' w'->Same σ σ'->k h' σ'=some r->Q .normal (Go.Proofs.YtcocmnheohgndaaGreat.act1 n ρ') w'):c.wpIn (az E.rd) 0 P Q (Go.Proofs.YtcocmnheohgndaaGreat.act1 n ρ) w:=by
 unfold jO at h;obtain ⟨x,hx,h⟩:=ob h;refine hf _ E ⟨m,K,ρ,fun _=>false,fr.F,fr.k0⟩ hrd a (σ.frz act) _ x m K ρ w Q hx (hr.frz act) (fun e h' σ' m' K' ρ' w' h1 h2 h3=>?_);cases e with
 | normal =>
   obtain ⟨h'',σ2,m2,K2,g1,g2,g3⟩:=aM h' h3 h1;have hi:Inn σ fr ⟨m,K,ρ,fun _=>false,fr.F,fr.k0⟩ m K ρ (bK σ.H act) σ2 W:=⟨rfl,rfl,rfl,rfl,rfl,(g2.2.trans h2.2),hM,fun _ _=>rfl⟩;obtain ⟨σ3,m3,q1,q2,q3⟩:=oX hr hi g3 g1 h;exact hQ b σ3 m3 K2 ρ' w' q3 q2 q1
 | _=>cases h3
theorem wP {c:Code} {f:Hn P->Zt->(R:Type)->(Exit->Hn P->Zt->Option R)->Option R} (hf:Fok P n c f) (hrd:jU E fr) {s:Sh} {act W:List Nat} {a b:Hn P} {k:Exit->Hn P->Zt->Option R} {r:R} {Q:Exit->Act->World->Prop} (h:jL f s act W a b σ k=some r) (hr:Rel E fr σ m K ρ w)
   (hQ:∀ e h' σ' m' K' ρ' w',Rel E fr σ' m' K' ρ' w'->Same σ σ'->k e h' σ'=some r->Q e (Go.Proofs.YtcocmnheohgndaaGreat.act1 n ρ') w'):c.wpIn (az E.rd) 0 P Q (Go.Proofs.YtcocmnheohgndaaGreat.act1 n ρ) w:=by
 unfold jL at h;obtain ⟨o,ho,h⟩:=ob h;refine hf _ E ⟨m,K,ρ,fun _=>false,fr.F,fr.k0⟩ hrd a (σ.frz act) _ o m K ρ w Q ho (hr.frz act) (fun e h' σ' m' K' ρ' w' h1 h2 h3=>?_);have other:(k e h' (σ.thaw σ' (bK σ.H act) [])).map aK0=some o->Q e (Go.Proofs.YtcocmnheohgndaaGreat.act1 n ρ') w':=fun h3=>by
   rw [Y1] at h3;obtain ⟨r',h4,rfl⟩:=h3;cases h;have hi:Inn σ fr ⟨m,K,ρ,fun _=>false,fr.F,fr.k0⟩ m K ρ (bK σ.H act) σ' []:=⟨rfl,rfl,rfl,rfl,rfl,h2.2,hM,fun _ _=>rfl⟩;obtain ⟨q1,q2⟩:=sD hr hi h1;exact hQ e h' _ m' K' ρ' w' q2 q1 h4
 cases e with
 | normal =>
   obtain ⟨h'',σ2,m2,K2,g1,g2,g3⟩:=aM h' h3 h1;rw [Y1] at g1;obtain ⟨x,g1,rfl⟩:=g1;have hi:Inn σ fr ⟨m,K,ρ,fun _=>false,fr.F,fr.k0⟩ m K ρ (bK σ.H act) σ2 W:=⟨rfl,rfl,rfl,rfl,rfl,(g2.2.trans h2.2),hM,fun _ _=>rfl⟩;obtain ⟨σ3,m3,q1,q2,q3⟩:=oX hr hi g3 g1 h;exact hQ .normal b σ3 m3 K2 ρ' w' q3 q2 q1
 | _=>exact other h3
theorem EQ {s:Sh} {W:List Nat} {rest:List HA} {x:TL s.ts} (hr:Rel E fr σ m K ρ w) {g:Gt} {f:Nat->SV} {H:List HA} {us:List ab}
   (hg:s.get f H=some g) (hx:TL.of s.ts g.ds=some x) (hok:∀ a∈H,HA.ok m' K' a) (hf:∀ i,SV.rel m' K' (f i) (ρ' i)) (hmm:m <+: m') (hKK:K.le K') (hrest:∀ a∈rest,a∈σ.H) (hs:Sep E K' (H.map (HA.conc m')++(us++(rest.map (HA.conc m)++σ.fz fr))) w')
   (hds:MOk fr.k0 K' ρ'.ds) (hold:∀ i,i∉W->ρ' i=ρ i) {vs:List (Nat×SV)} {u:Un} (hu:s.un (TL.list s.ts x) σ.nx=some (vs,u)) :
   ∃ m'',Rel E ⟨m,K,ρ,fun i=>W.contains i,fr.F,fr.k0⟩ ⟨fun i=>bif W.contains i then .any else σ.get i,bp (bG σ) vs,u.H.map (HA.sub (bG σ)),rest++σ.Hf,u.nx,false⟩ m'' K' ρ' w':=by
 rw [TL.of_list hx] at hu;have hoo:bC s.bl m.length=true:=by
   unfold Sh.un at hu;rw [hr.nx];cases ho:bC s.bl σ.nx with
   | true=>rfl
   | false=>rw [ho] at hu; cases hu
 obtain ⟨vs',u',ms,e1,e2,e3,e4,e5,e6,e7,e8⟩:=Sh.get_un hg hok hmm hoo;rw [hr.nx,hu] at e1;cases e1;have hp':=av m ms;refine ⟨m++ms,Rel.subs (σ:=⟨fun i=>bif W.contains i then .any else σ.get i,vs,u.H,rest++σ.Hf,u.nx,false⟩) (nZ hr.toPur (m':=m++ms) (fun _ _ k=>aj hp' k) hKK) ⟨⟨av m ms,hKK,e2,fun e=>(by cases e),fun i=>?_,fun i hi=>?_,fun i hi=>?_,fun i sv hi=>ov e3 hi _ (hf i),e4,fun a ha=>?_,hds⟩,?_⟩⟩
 . show SV.rel m K (bif W.contains i then .any else σ.get i) (ρ i);cases W.contains i with
   | true=>exact trivial
   | false=>exact hr.toPur.get i
 . show (bif W.contains i then SV.any else σ.get i) = .any;have hi:W.contains i=true:=hi;rw [hi]; rfl
 . by_cases hW:i∈W
   . exact .inl (by simpa using hW)
   . exact .inr (hold i hW)
 . refine hr.toPur.all a ?_
   rcases M2.1 ha with ha | ha
   . exact T4 _ (hrest a ha)
   . exact Q3 _ ha
 . have s1:=e6 E _ w' hs;have s2:Sep E K' ((g.H.map (HA.conc m')++us)++(u.H.map (HA.conc (m++ms))++(rest.map (HA.conc m)++σ.fz fr))) w':=Sep.perm (by
     rw [O0];refine (jK _ _ _).trans (R9 _ (jK _ _ _)) ) s1
   show Sep E K' (u.H.map (HA.conc (m++ms))++((rest++σ.Hf).map (HA.conc m)++fr.F)) w';rw [Y2,hr.toPur.fz',O0];exact Sep.drops s2
theorem wm {s:Sh} {ds:List Dat} {nx:Nat} {o:List (Nat×SV)×Un} (h:s.un ds nx=some o):bC s.bl nx=true:=by
 unfold Sh.un at h;cases ho:bC s.bl nx with
 | true=>rfl
 | false=>rw [ho] at h; cases h
theorem CU {c:Code} {f:Hn P->Zt->(R:Type)->(Exit->Hn P->Zt->Option R)->Option R} (hf:Fok P n c f) (hrd:jU E fr) {s:Sh} {W:List Nat} {a:Hn P} {k:Exit->Hn P->Zt->Option R} {r:R} {Q:Exit->Act->World->Prop} (h:pR f s W a σ k=some r) (hr:Rel E fr σ m K ρ w)
   (hQ:∀ e h' σ' m' K' ρ' w',Rel E fr σ' m' K' ρ' w'->Same σ σ'->k e h' σ'=some r->Q e (Go.Proofs.YtcocmnheohgndaaGreat.act1 n ρ') w'):(Code.loop c).wpIn (az E.rd) 0 P Q (Go.Proofs.YtcocmnheohgndaaGreat.act1 n ρ) w:=by
 unfold pR at h;split at h
 . rename_i g hg;split at h
   . rename_i x0 hx0;obtain ⟨N,hN⟩:=rS h;refine wpIn_loop_rounds N ?_
     -- a round's head
     have round:∀ (N:Nat) (x:TL s.ts) (m1:List M) (K1:Hp) (ρ1:Sl1) (w1:World) (vs:List (Nat×SV)) (u:Un),cA (ly f s W g a σ k) N x=some r->s.un (TL.list s.ts x) σ.nx=some (vs,u) ->
         Rel E ⟨m,K,ρ,fun i=>W.contains i,fr.F,fr.k0⟩ ⟨fun i=>bif W.contains i then .any else σ.get i,bp (bG σ) vs,u.H.map (HA.sub (bG σ)),g.H++σ.Hf,u.nx,false⟩ m1 K1 ρ1 w1->Code.roundsIn (az E.rd) 0 P c Q N (Go.Proofs.YtcocmnheohgndaaGreat.act1 n ρ1) w1:=by
       intro N
       induction N with
       | zero=>intro x m1 K1 ρ1 w1 vs u hi; cases hi
       | succ N ih =>
         intro x m1 K1 ρ1 w1 vs u hi hu hrel;unfold cA at hi;obtain ⟨o,ho,hi⟩:=ob hi;rw [roundsIn_succ];unfold ly at ho;rw [hu] at ho;simp only at ho;have hgsub:∀ a∈g.H,a∈σ.H:=by
           obtain ⟨_,_,_,_,_,_,_,e5,_⟩:=Sh.get_un (m:=m) (K:=K) hg hr.okH (O7 m) (by rw [hr.nx]; exact wm hu);exact e5
         refine hf _ E ⟨m,K,ρ,fun i=>W.contains i,fr.F,fr.k0⟩ hrd a _ _ o m1 K1 ρ1 w1 _ ho hrel (fun e h' σ' m' K' ρ' w' h1 h2 h3=>?_);have other:e ≠ .normal->(k e h' (σ.thaw σ' g.H W)).map aK0=some o->Q e (Go.Proofs.YtcocmnheohgndaaGreat.act1 n ρ') w':=fun _ h3=>by
           rw [Y1] at h3;obtain ⟨r',h4,rfl⟩:=h3;cases hi;have hii:Inn σ fr ⟨m,K,ρ,fun i=>W.contains i,fr.F,fr.k0⟩ m K ρ g.H σ' W:=⟨rfl,rfl,rfl,rfl,rfl,h2.2,hgsub,fun i hi=>by simpa using hi⟩;obtain ⟨q1,q2⟩:=sD hr hii h1;exact hQ e h' _ m' K' ρ' w' q2 q1 h4
         cases e with
         | normal =>
           obtain ⟨h'',σ2,m2,K2,g1,g2,g3⟩:=aM h' h3 h1;rw [Y1] at g1;obtain ⟨x',g1,rfl⟩:=g1;have hsame:=h2.trans g2;unfold Zt.pack at g1;replace g1:=ai g1; obtain ⟨hk,g1⟩:=g1;split at g1
           . rename_i g' hg';cases hu':s.un (TL.list s.ts x') σ.nx with
             | none =>
               -- the next round would not run
               cases N with
               | zero=>cases hi
               | succ N =>
                 unfold cA at hi;obtain ⟨o2,ho2,_⟩:=ob hi;unfold ly at ho2;rw [hu'] at ho2;cases ho2
             | some q =>
               obtain ⟨vs',u'⟩:=q;have hii:Inn σ fr ⟨m,K,ρ,fun i=>W.contains i,fr.F,fr.k0⟩ m K ρ g.H σ2 W:=⟨rfl,rfl,rfl,rfl,rfl,hsame.2,hgsub,fun i hi=>by simpa using hi⟩;obtain ⟨m'',hrel'⟩:=EQ (W:=W) (rest:=g.H) (us:=[]) hr hg' g1 g3.okH g3.toPur.get g3.hm g3.hK hgsub (by rw [O4]; exact hii.sep hr g3) g3.mks (fun i hi=>by
                 have:=g3.old i (nP hk hi)
                 rcases this with h4 | h4
                 . exact absurd (by simpa using h4) hi
                 . exact h4) hu'
               exact ih x' m'' K2 ρ' w' vs' u' hi hu' hrel'
           . cases g1
         | exit i=>exact other nofun h3
         | goto l=>exact other nofun h3
         | ret=>exact other nofun h3
         | panic c=>exact other nofun h3
         | outgrown=>exact other nofun h3
     cases hu:s.un (TL.list s.ts x0) σ.nx with
     | none =>
       cases N with
       | zero=>cases hN
       | succ N =>
         unfold cA at hN;obtain ⟨o2,ho2,_⟩:=ob hN;unfold ly at ho2;rw [hu] at ho2;cases ho2
     | some q =>
       obtain ⟨vs,u⟩:=q;have hu2:=hu;rw [TL.of_list hx0] at hu2;obtain ⟨vs',u',ms,e1,e2,e3,e4,e5,e6,e7,e8⟩:=Sh.get_un (m:=m) (K:=K) hg hr.okH (O7 m) (by rw [hr.nx]; exact wm hu2);rw [hr.nx,hu2] at e1;cases e1;have hp':=av m ms;refine round N x0 (m++ms) K ρ w vs u hN hu (Rel.subs (σ:=⟨fun i=>bif W.contains i then .any else σ.get i,vs,u.H,g.H++σ.Hf,u.nx,false⟩) (nZ hr.toPur (m':=m++ms) (fun _ _ k=>aj hp' k) (Hp.le_refl K)) ⟨⟨av m ms,Hp.le_refl K,e2,fun e=>(by cases e),fun i=>?_,fun i hi=>?_,fun i hi => .inr rfl,fun i sv hi=>ov e3 hi _ (hr.toPur.get i),e4,fun a ha=>?_,hr.mks⟩,?_⟩)
       . show SV.rel m K (bif W.contains i then .any else σ.get i) (ρ i);cases W.contains i with
         | true=>exact trivial
         | false=>exact hr.toPur.get i
       . show (bif W.contains i then SV.any else σ.get i) = .any;have hi:W.contains i=true:=hi;rw [hi]; rfl
       . refine hr.toPur.all a ?_
         rcases M2.1 ha with ha | ha
         . exact T4 _ (e5 a ha)
         . exact Q3 _ ha
       . have s1:=e6 E _ w hr.toSep;show Sep E K (u.H.map (HA.conc (m++ms))++((g.H++σ.Hf).map (HA.conc m)++fr.F)) w;rw [Y2,hr.toPur.fz',O0];exact s1
   . cases h
 . cases h
theorem wA {c:Code} {f:Hn P->Zt->(R:Type)->(Exit->Hn P->Zt->Option R)->Option R} (hf:Fok P n c f) (hrd:jU E fr) {k:Exit->Hn P->Zt->Option R} {r:R} {Q:Exit->Act->World->Prop}
   (hQ:∀ e h' σ' m' K' ρ' w',Rel E fr σ' m' K' ρ' w'->Same σ σ'->k e h' σ'=some r->Q e (Go.Proofs.YtcocmnheohgndaaGreat.act1 n ρ') w'):∀ (N:Nat) {h:Hn P} {σ1:Zt} {m:List M} {K:Hp} {ρ:Sl1} {w:World},lD (fun h σ k=>f h σ _ k) k N h σ1=some r->Rel E fr σ1 m K ρ w->Same σ σ1->Code.roundsIn (az E.rd) 0 P c Q N (Go.Proofs.YtcocmnheohgndaaGreat.act1 n ρ) w
 | 0,h,σ1,m,K,ρ,w,hh,hr,hs=>by cases hh
 | N + 1,h,σ1,m,K,ρ,w,hh,hr,hs=>by
   rw [roundsIn_succ];unfold lD at hh;refine hf _ E fr hrd h σ1 _ r m K ρ w _ hh hr (fun e h' σ' m' K' ρ' w' h1 h2 h3=>?_);cases e with
   | normal=>exact wA hf hrd hQ N h3 h1 (hs.trans h2)
   | exit i=>exact hQ _ h' σ' m' K' ρ' w' h1 (hs.trans h2) h3
   | goto i=>exact hQ _ h' σ' m' K' ρ' w' h1 (hs.trans h2) h3
   | ret=>exact hQ _ h' σ' m' K' ρ' w' h1 (hs.trans h2) h3
   | panic i=>exact hQ _ h' σ' m' K' ρ' w' h1 (hs.trans h2) h3
   | outgrown=>exact hQ _ h' σ' m' K' ρ' w' h1 (hs.trans h2) h3
theorem wi {y:Code} {k:Exit->Hn P->Zt->Option R} {f:Hn P->Zt->Option R} {r:R} {Q:Exit->Act->World->Prop} {σ0:Zt} (hf:∀ h' σ' m' K' ρ' w',Rel E fr σ' m' K' ρ' w'->Same σ0 σ'->f h' σ'=some r->y.wpIn (az E.rd) 0 P Q (Go.Proofs.YtcocmnheohgndaaGreat.act1 n ρ') w')
   (hQ:∀ e h' σ' m' K' ρ' w',Rel E fr σ' m' K' ρ' w'->Same σ0 σ'->k e h' σ'=some r->Q e (Go.Proofs.YtcocmnheohgndaaGreat.act1 n ρ') w'):∀ e h' σ' m' K' ρ' w',Rel E fr σ' m' K' ρ' w'->Same σ0 σ'->jC k f e h' σ'=some r->Exit.then (y.wpIn (az E.rd) 0 P Q) Q e (Go.Proofs.YtcocmnheohgndaaGreat.act1 n ρ') w':=by
 intro e h' σ' m' K' ρ' w' h1 h2 h3;cases e with
 | normal=>exact hf h' σ' m' K' ρ' w' h1 h2 h3
 | exit i=>exact hQ _ h' σ' m' K' ρ' w' h1 h2 h3
 | goto i=>exact hQ _ h' σ' m' K' ρ' w' h1 h2 h3
 | ret=>exact hQ _ h' σ' m' K' ρ' w' h1 h2 h3
 | panic i=>exact hQ _ h' σ' m' K' ρ' w' h1 h2 h3
 | outgrown=>exact hQ _ h' σ' m' K' ρ' w' h1 h2 h3
theorem cu {J:Rn P} (hJ:JOk J):∀ (c:Code),Fok P n c (fun h σ R k=>exec J n c h σ k)
 | .skip=>fun R E fr hrd h σ k r m K ρ w Q hh hr hQ=>wpIn_skip (hQ _ h σ m K ρ w hr Same.rfl' hh)
 | .ret=>fun R E fr hrd h σ k r m K ρ w Q hh hr hQ=>wpIn_ret (hQ _ h σ m K ρ w hr Same.rfl' hh)
 | .exit id=>fun R E fr hrd h σ k r m K ρ w Q hh hr hQ=>wpIn_exit (hQ _ h σ m K ρ w hr Same.rfl' hh)
 | .label l=>fun R E fr hrd h σ k r m K ρ w Q hh hr hQ=>wpIn_label (hQ _ h σ m K ρ w hr Same.rfl' hh)
 | .scope b=>fun R E fr hrd h σ k r m K ρ w Q hh hr hQ=>by
   refine Ax (cu hJ b R E fr hrd h σ _ r m K ρ w _ (show exec J n b h σ (xR k)=some r from hh) hr (fun e h' σ' m' K' ρ' w' h1 h2 h3=>?_));cases e with
   | goto l=>cases h3
   | normal=>exact hQ _ h' σ' m' K' ρ' w' h1 h2 h3
   | exit i=>exact hQ _ h' σ' m' K' ρ' w' h1 h2 h3
   | ret=>exact hQ _ h' σ' m' K' ρ' w' h1 h2 h3
   | panic i=>exact hQ _ h' σ' m' K' ρ' w' h1 h2 h3
   | outgrown=>exact hQ _ h' σ' m' K' ρ' w' h1 h2 h3
 | .region id ops draw=>fun R E fr hrd h σ k r m K ρ w Q hh hr hQ=>by
   change (bif !ops.toList.all b8 then none else bif draw then ay h σ fun h σ=>jX n ops.toList h σ fun h σ=>(match h with | .mix plan fin tail act r=>uL n ops plan fin tail act r σ (k .normal) | .tr t s act a b=>trS n ops t s act a b σ (k .normal) | _=>none) else ay h σ fun h σ=>uB J n ops h σ (k .normal))=some r at hh;replace hh:=dX hh; obtain ⟨hn,hh⟩:=hh;have hn:ops.toList.all b8=true:=by simpa using hn
   cases draw with
   | false =>
     simp only [cond_false] at hh;obtain ⟨h1,σ1,m1,K1,hh,g1,hr⟩:=aM h hh hr;replace hQ:∀ e h' σ' m' K' ρ' w',Rel E fr σ' m' K' ρ' w'->Same σ1 σ'->k e h' σ'=some r->Q e (act1 n ρ') w':=fun e h' σ' m' K' ρ' w' q1 q2 q3=>hQ e h' σ' m' K' ρ' w' q1 (g1.trans q2) q3
     clear g1;unfold uB at hh;split at hh
     . rename_i q h2;have key:wpListIn (az E.rd) 0 P ops Q (ops.toList.take q++ops.toList.drop q) (act1 n ρ) w:=by
         have hn1:(ops.toList.take q).all b8=true:=W5.2 (fun x hx=>W5.1 hn x (U7 hx));have hn2:(ops.toList.drop q).all b8=true:=W5.2 (fun x hx=>W5.1 hn x (V7 hx));refine rb hn1 ?_;have:=jp (ops:=ops) (Q:=fun e a w=>e = .normal/\wpListIn (az E.rd) 0 P ops Q (ops.toList.drop q) a w) (ops.toList.take q) 0 hh hr (fun h' σ' m' K' ρ' w' h1 h2 h3=>?_)
         . simpa using this
         . refine ⟨rfl,?_⟩;split at h3
           . rename_i o rest hd;rw [hd] at hn2 ⊢;simp only [ai0,Q0] at hn2;obtain ⟨dst,op,t,pos,af,gu⟩:=o;obtain ⟨h4,σ4,s4,hr4,hg⟩:=jw h3 h1
             rcases hg with ⟨hw,hg⟩ | ⟨hw,hg⟩
             . refine Fo hJ hg hr4 hw (fun h'' σ'' m'' K'' ρ'' w'' g1 g2 g3=>?_);have:=jp (ops:=ops) (Q:=Q) rest 0 g3 g1 (fun h3 σ3 m3 K3 ρ3 w3 b1 b2 b3=>hQ _ h3 σ3 m3 K3 ρ3 w3 b1 (((h2.trans s4).trans g2).trans b2) b3);exact gU hn2.2 (by simpa using this)
             . unfold wpListIn;rw [if_neg (by rw [hw]; exact Bool.false_ne_true)];refine ⟨fun _ _=>trivial,?_⟩;cases dst with
               | none =>
                 have:=jp (ops:=ops) (Q:=Q) rest 0 hg hr4 (fun h3 σ3 m3 K3 ρ3 w3 b1 b2 b3=>hQ _ h3 σ3 m3 K3 ρ3 w3 b1 ((h2.trans s4).trans b2) b3);exact gU hn2.2 (by rw [X2] at this; exact this)
               | some d =>
                 show wpListIn _ _ _ _ _ _ ((act1 n ρ').put (some d) undef) _;rw [bI];have:=jp (ops:=ops) (Q:=Q) rest 0 hg (hr4.set (d:=d) (sv := .raw undef) (v:=undef) rfl) (fun h3 σ3 m3 K3 ρ3 w3 b1 b2 b3=>hQ _ h3 σ3 m3 K3 ρ3 w3 b1 (((h2.trans s4).trans ⟨rfl,rfl⟩).trans b2) b3);exact gU hn2.2 (by simpa using this)
           . cases h3
       rw [O3] at key;have:=wpIn_region_lit (id:=id) (l:=ops.toList) (by simpa using key);simpa using this
     . have:=wpIn_region_lit (id:=id) (gU (r:=E.rd) (n:=0) hn (jp (Q:=Q) (ops:=ops.toList.toArray) ops.toList 0 (by simpa using hh) hr (fun h' σ' m' K' ρ' w' h1 h2 h3=>hQ _ h' σ' m' K' ρ' w' h1 h2 h3)));simpa using this
   | true =>
     simp only [cond_true] at hh;obtain ⟨h1,σ1,m1,K1,hh,g1,hr⟩:=aM h hh hr;obtain ⟨h2,σ2,m2,hh,g2,hr⟩:=yo h1 hh hr;replace hQ:∀ e h' σ' m' K' ρ' w',Rel E fr σ' m' K' ρ' w'->Same σ2 σ'->k e h' σ'=some r->Q e (act1 n ρ') w':=fun e h' σ' m' K' ρ' w' q1 q2 q3=>hQ e h' σ' m' K' ρ' w' q1 ((g1.trans g2).trans q2) q3
     clear g1 g2;generalize K1=K at hr;generalize m2=m at hr;generalize σ2=σ at hr hh hQ;split at hh
     . rename_i plan fin tail act' h0;unfold uL at hh;replace hh:=bP hh; obtain ⟨hm,hB,hh⟩:=hh;have hB':mi .any ops.toList.toArray plan fin tail=true:=by simpa using hB
       have hfr:=(hr.frz act').drew;have hplan:∀ s i,(s,i)∈plan->i < ops.toList.length:=by
         intro s i hi;have h0:=hB;unfold mi at h0;simp only [Q0] at h0;obtain ⟨_,h1⟩:=h0;split at h1
         . rename_i l1 hl1;simpa using vS plan _ _ hl1 s i hi
         . cases h1
       have key:=oH (l:=ops.toList) (Q:=Q) plan hh hfr rfl hplan (fun h' σ' m' K' ρ' w' h1 h2 h3=>by
         have hi:Inn σ fr ⟨m,K,ρ,fun _=>false,fr.F,fr.k0⟩ m K ρ (bK σ.H act') σ' []:=⟨rfl,rfl,rfl,rfl,rfl,h2.2,hM,fun _ _=>rfl⟩;obtain ⟨z1,z2⟩:=sD hr hi h1;have:=jp (ops:=ops.toList.toArray) (Q:=Q) (a9 ops.toList tail) 0 (by simpa using h3) z2 (fun h'' σ'' m'' K'' ρ'' w'' b1 b2 b3=>hQ .normal h'' σ'' m'' K'' ρ'' w'' b1 (z1.trans b2) b3)
         rwa [X2] at this)
       have:=AW (id:=id) (Q:=Q) plan fin tail hm hB' _ hfr.cfz rfl rfl rfl key hn (r:=E.rd) (n:=0);simpa using this
     . rename_i t s act' a b;unfold trS at hh;replace hh:=bP hh; obtain ⟨hm,hB,hh⟩:=hh;obtain ⟨x,hx,hh⟩:=ob hh;have hfr:=(hr.frz act').drew;have key:=oE (l:=ops.toList) (F:=fun a' w'=>an P ops.toList.toArray Q (a9 ops.toList []) a' w') t hx hfr rfl (fun h' σ' m' K' ρ' w' h1 h2 h3=>by
         obtain ⟨h'',σ2,m2,K2,g1,g2,g3⟩:=aM h' h3 h1;have hi:Inn σ fr ⟨m,K,ρ,fun _=>false,fr.F,fr.k0⟩ m K ρ (bK σ.H act') σ2 (s.sl.map (·.1)++au ops.toList):=⟨rfl,rfl,rfl,rfl,rfl,(g2.2.trans h2.2),hM,fun _ _=>rfl⟩;obtain ⟨σ3,m3,q1,q2,q3⟩:=oX hr hi g3 g1 hh;exact hQ .normal b σ3 m3 K2 ρ' w' q3 q2 q1)
       have:=AH (id:=id) (Q:=Q) t [] hm hB _ hfr.cfz rfl key hn (r:=E.rd) (n:=0);simpa using this
     . cases hh
 | .seq a b=>fun R E fr hrd h σ k r m K ρ w Q hh hr hQ=>by
   have plain:∀ h0,exec J n a h0 σ (jC k (fun h σ=>exec J n b h σ k))=some r->(Code.seq a b).wpIn (az E.rd) 0 P Q (act1 n ρ) w:=fun h0 hh =>
     wpIn_seq (cu hJ a R E fr hrd h0 σ _ r m K ρ w _ hh hr (wi (σ0:=σ) (fun h' σ' m' K' ρ' w' h1 h2 h3=>cu hJ b R E fr hrd h' σ' k r m' K' ρ' w' Q h3 h1 (fun e h'' σ'' m'' K'' ρ'' w'' q1 q2 q3=>hQ e h'' σ'' m'' K'' ρ'' w'' q1 (h2.trans q2) q3)) hQ))
   cases h with
   | sq mk s act ha hb =>
     have hh:(match Zt.mcs mk σ with | some σ=>jO (fun h σ R k=>exec J n a h σ k) s act (s.sl.map (·.1)++bQ a) ha hb σ (fun h σ=>exec J n b h σ k) | none=>none)=some r:=hh;split at hh
     . rename_i σ1 hm;obtain ⟨m1,k1,k2⟩:=lE hm hr;refine wpIn_seq (wZ (cu hJ a) hrd hh k2 (fun h' σ' m' K' ρ' w' h1 h2 h3=>?_));exact cu hJ b R E fr hrd h' σ' k r m' K' ρ' w' Q h3 h1 (fun e h'' σ'' m'' K'' ρ'' w'' q1 q2 q3=>hQ e h'' σ'' m'' K'' ρ'' w'' q1 ((k1.trans h2).trans q2) q3)
     . cases hh
   | sx mk s act ha hb =>
     have hh:(match Zt.mcs mk σ with | some σ=>jL (fun h σ R k=>exec J n a h σ k) s act (s.sl.map (·.1)++bQ a) ha hb σ (jC k (fun h σ=>exec J n b h σ k)) | none=>none)=some r:=hh;split at hh
     . rename_i σ1 hm;obtain ⟨m1,k1,k2⟩:=lE hm hr;refine wpIn_seq (wP (cu hJ a) hrd hh k2 ?_);exact wi (σ0:=σ1) (fun h' σ' m' K' ρ' w' h1 h2 h3=>cu hJ b R E fr hrd h' σ' k r m' K' ρ' w' Q h3 h1 (fun e h'' σ'' m'' K'' ρ'' w'' q1 q2 q3=>hQ e h'' σ'' m'' K'' ρ'' w'' q1 ((k1.trans h2).trans q2) q3)) (fun e h' σ' m' K' ρ' w' q1 q2 q3=>hQ e h' σ' m' K' ρ' w' q1 (k1.trans q2) q3)
     . cases hh
   | pl h=>exact plain h hh
   | nil=>exact plain _ hh
   | two _ _ _=>exact plain _ hh
   | tw _ _ _=>exact plain _ hh
   | jn _ _ _ _ _=>exact plain _ hh
   | jx _ _ _ _ _=>exact plain _ hh
   | lp _ _=>exact plain _ hh
   | un _ _=>exact plain _ hh
   | per _ _ _=>exact plain _ hh
   | perb _ _ _ _=>exact plain _ hh
   | mc _ _ _ _=>exact plain _ hh
   | ms _ _=>exact plain _ hh
   | wt _ _=>exact plain _ hh
   | cl _ _ _=>exact plain _ hh
   | c2 _ _ _ _=>exact plain _ hh
   | gp _ _=>exact plain _ hh
   | gj _ _ _ _ _=>exact plain _ hh
   | mix _ _ _ _ _=>exact plain _ hh
   | opn _ _ _=>exact plain _ hh
   | opb _ _ _=>exact plain _ hh
   | cls _ _ _=>exact plain _ hh
   | opp _ _ _ _=>exact plain _ hh
   | ot _ _=>exact plain _ hh
   | cm _ _ _ _=>exact plain _ hh
   | cm2 _ _ _ _ _=>exact plain _ hh
   | tr _ _ _ _ _=>exact plain _ hh
   | tru _=>exact plain _ hh
   | yl _ _=>exact plain _ hh
   | rg _ _=>exact plain _ hh
   | il _ _=>exact plain _ hh
 | .cond c x y=>fun R E fr hrd h σ k r m K ρ w Q hh hr hQ=>by
   obtain ⟨h1,σ1,m1,K1,g1,g2,g3⟩:=aM h (show ay h σ (fun h σ=>ub c (σ.evr n c) h σ (fun h σ=>exec J n x h σ k) (fun h σ=>exec J n y h σ k))=some r from hh) hr;have hv:=g3.toPur.evr n c;have goX:∀ h2 σ2,Rel E fr σ2 m1 K1 ρ w->Same σ σ2->exec J n x h2 σ2 k=some r->x.wpIn (az E.rd) 0 P Q (act1 n ρ) w:=fun h2 σ2 q1 q2 q3 =>
     cu hJ x R E fr hrd h2 σ2 k r m1 K1 ρ w Q q3 q1 (fun e h'' σ'' m'' K'' ρ'' w'' p1 p2 p3=>hQ e h'' σ'' m'' K'' ρ'' w'' p1 (q2.trans p2) p3)
   have goY:∀ h2 σ2,Rel E fr σ2 m1 K1 ρ w->Same σ σ2->exec J n y h2 σ2 k=some r->y.wpIn (az E.rd) 0 P Q (act1 n ρ) w:=fun h2 σ2 q1 q2 q3 =>
     cu hJ y R E fr hrd h2 σ2 k r m1 K1 ρ w Q q3 q1 (fun e h'' σ'' m'' K'' ρ'' w'' p1 p2 p3=>hQ e h'' σ'' m'' K'' ρ'' w'' p1 (q2.trans p2) p3)
   have slot:∀ (d:Nat) (sv:SV),c = .tmp d->σ1.evr n c=sv->sv ≠ .any->σ1.get d=sv:=fun d sv hc he hne=>by
     subst hc;cases hh:X4 d n with
     | false =>
       have:σ1.evr n (.tmp d) = .any:=by show (bif X4 d n then σ1.get d else .any)=_; rw [hh]; rfl
       rw [this] at he; exact absurd he.symm hne
     | true =>
       have:σ1.evr n (.tmp d)=σ1.get d:=by show (bif X4 d n then σ1.get d else .any)=_; rw [hh]; rfl
       rw [<- this]; exact he
   unfold ub at g1;split at g1
   . rename_i jm w0 e;rw [e] at hv;obtain ⟨hj,hv⟩:=hv;split at g1
     . rename_i t;have hb:ev n ρ c = .bool t:=hv;rw [hb] at hj;refine wpIn_cond_split (t:=t) (by rw [bS]; exact hb) (fun ht=>?_) (fun ht=>?_)
       . subst ht;split at g1
         . exact goX _ _ (g3.fix (v := .bool true) hj rfl) (g2.trans ⟨rfl,rfl⟩) g1
         . exact goX _ σ1 g3 g2 g1
         . exact goX _ σ1 g3 g2 g1
       . subst ht;split at g1
         . exact goY _ _ (g3.fix (v := .bool false) hj rfl) (g2.trans ⟨rfl,rfl⟩) g1
         . exact goY _ σ1 g3 g2 g1
         . exact goY _ σ1 g3 g2 g1
     . cases g1
   . rename_i t e;rw [e] at hv;have hb:ev n ρ c = .bool t:=hv;refine wpIn_cond_split (t:=t) (by rw [bS]; exact hb) (fun ht=>?_) (fun ht=>?_)
     . subst ht;split at g1
       . rename_i ha hbn d _;have hg:=slot d _ rfl e nofun;exact goX ha _ (g3.ref (fun _ _ u hu=>by rw [hg] at hu; exact hu) (by rw [hg]; nofun)) (g2.trans ⟨rfl,ip.2⟩) g1
       . exact goX _ σ1 g3 g2 g1
       . exact goX _ σ1 g3 g2 g1
     . subst ht;split at g1
       . rename_i ha hbn d _;have hg:=slot d _ rfl e nofun;exact goY hbn _ (g3.ref (fun _ _ u hu=>by rw [hg] at hu; exact hu) (by rw [hg]; nofun)) (g2.trans ⟨rfl,ip.2⟩) g1
       . exact goY _ σ1 g3 g2 g1
       . exact goY _ σ1 g3 g2 g1
   . rename_i tp l ng e;rw [e] at hv;obtain ⟨q,hb,hl⟩:=hv;refine wpIn_cond_split (t:=q ^^ ng) (by rw [bS]; exact hb) (fun ht=>?_) (fun ht=>?_)
     . split at g1
       . rename_i ha hbn _;cases ng with
         | true =>
           rw [be0] at ht;simp only [cond_true] at g1;exact goX ha _ g3 g2 (wE g1)
         | false =>
           rw [aU0] at ht;simp only [cond_false] at g1;exact goX ha _ g3 g2 (xE (hl ht) g1)
       . cases g1
     . split at g1
       . rename_i ha hbn _;cases ng with
         | true =>
           rw [be0] at ht;simp only [cond_true] at g1;exact goY hbn _ g3 g2 (xE (hl (by simpa using ht)) g1)
         | false =>
           rw [aU0] at ht;simp only [cond_false] at g1;exact goY hbn _ g3 g2 (wE g1)
       . cases g1
   . cases g1
 | .block id b=>fun R E fr hrd h σ k r m K ρ w Q hh hr hQ=>by
   have blk:∀ {R:Type} {k:Exit->Hn P->Zt->Option R} {r:R} {Q:Exit->Act->World->Prop} {fr:Frz} {σ:Zt},(∀ e h' σ' m' K' ρ' w',Rel E fr σ' m' K' ρ' w'->Same σ σ'->k e h' σ'=some r->Q e (act1 n ρ') w') ->
       ∀ e h' σ' m' K' ρ' w',Rel E fr σ' m' K' ρ' w'->Same σ σ'->fJ id k e h' σ'=some r->Exit.inBlock id Q e (act1 n ρ') w':=by
     intro R k r Q fr σ hQ e h' σ' m' K' ρ' w' h1 h2 h3;cases e with
     | exit i =>
       change (bif S0 i id then k .normal h' σ' else k (.exit i) h' σ')=some r at h3;show if i=id then _ else _
       cases hb:S0 i id with
       | true =>
         rw [hb] at h3;rw [if_pos (N0 hb)];exact hQ _ h' σ' m' K' ρ' w' h1 h2 h3
       | false =>
         rw [hb] at h3;rw [if_neg (fun e=>by rw [e,R8] at hb; cases hb)];exact hQ _ h' σ' m' K' ρ' w' h1 h2 h3
     | normal=>exact hQ _ h' σ' m' K' ρ' w' h1 h2 h3
     | goto l=>exact hQ _ h' σ' m' K' ρ' w' h1 h2 h3
     | ret=>exact hQ _ h' σ' m' K' ρ' w' h1 h2 h3
     | panic i=>exact hQ _ h' σ' m' K' ρ' w' h1 h2 h3
     | outgrown=>exact hQ _ h' σ' m' K' ρ' w' h1 h2 h3
   have fb:Fok P n (.block id b) (fun h σ R k=>exec J n b h σ (fJ id k)):=fun R E fr hrd h σ k r m K ρ w Q hh hr hQ=>by
     refine wpIn_block (cu hJ b R E fr hrd h σ _ r m K ρ w _ hh hr ?_);intro e h' σ' m' K' ρ' w' h1 h2 h3;cases e with
     | exit i =>
       change (bif S0 i id then k .normal h' σ' else k (.exit i) h' σ')=some r at h3;show if i=id then _ else _
       cases hb:S0 i id with
       | true =>
         rw [hb] at h3;rw [if_pos (N0 hb)];exact hQ _ h' σ' m' K' ρ' w' h1 h2 h3
       | false =>
         rw [hb] at h3;rw [if_neg (fun e=>by rw [e,R8] at hb; cases hb)];exact hQ _ h' σ' m' K' ρ' w' h1 h2 h3
     | normal=>exact hQ _ h' σ' m' K' ρ' w' h1 h2 h3
     | goto l=>exact hQ _ h' σ' m' K' ρ' w' h1 h2 h3
     | ret=>exact hQ _ h' σ' m' K' ρ' w' h1 h2 h3
     | panic i=>exact hQ _ h' σ' m' K' ρ' w' h1 h2 h3
     | outgrown=>exact hQ _ h' σ' m' K' ρ' w' h1 h2 h3
   have plain:∀ h0,exec J n b h0 σ (fJ id k)=some r->(Code.block id b).wpIn (az E.rd) 0 P Q (act1 n ρ) w:=fun h0 hh=>fb R E fr hrd h0 σ k r m K ρ w Q hh hr hQ
   cases h with
   | jn mk s act ha hb =>
     have hh:(match Zt.mcs mk σ with | some σ=>jO (fun h σ R k=>exec J n b h σ (fJ id k)) s act (s.sl.map (·.1)++bQ b) ha hb σ (k .normal) | none=>none)=some r:=hh;split at hh
     . rename_i σ1 hm;obtain ⟨m1,k1,k2⟩:=lE hm hr;exact wZ fb hrd hh k2 (fun h' σ' m' K' ρ' w' h1 h2 h3=>hQ _ h' σ' m' K' ρ' w' h1 (k1.trans h2) h3)
     . cases hh
   | jx mk s act ha hb =>
     have hh:(match Zt.mcs mk σ with | some σ=>jL (fun h σ R k=>exec J n b h σ (fJ id k)) s act (s.sl.map (·.1)++bQ b) ha hb σ k | none=>none)=some r:=hh;split at hh
     . rename_i σ1 hm;obtain ⟨m1,k1,k2⟩:=lE hm hr;exact wP fb hrd hh k2 (fun e h' σ' m' K' ρ' w' q1 q2 q3=>hQ e h' σ' m' K' ρ' w' q1 (k1.trans q2) q3)
     . cases hh
   | pl h=>exact plain _ hh
   | nil=>exact plain _ hh
   | two _ _ _=>exact plain _ hh
   | tw _ _ _=>exact plain _ hh
   | sq _ _ _ _ _=>exact plain _ hh
   | sx _ _ _ _ _=>exact plain _ hh
   | lp _ _=>exact plain _ hh
   | un _ _=>exact plain _ hh
   | per _ _ _=>exact plain _ hh
   | perb _ _ _ _=>exact plain _ hh
   | mc _ _ _ _=>exact plain _ hh
   | ms _ _=>exact plain _ hh
   | wt _ _=>exact plain _ hh
   | cl _ _ _=>exact plain _ hh
   | c2 _ _ _ _=>exact plain _ hh
   | gp _ _=>exact plain _ hh
   | gj _ _ _ _ _=>exact plain _ hh
   | mix _ _ _ _ _=>exact plain _ hh
   | opn _ _ _=>exact plain _ hh
   | opb _ _ _=>exact plain _ hh
   | cls _ _ _=>exact plain _ hh
   | opp _ _ _ _=>exact plain _ hh
   | ot _ _=>exact plain _ hh
   | cm _ _ _ _=>exact plain _ hh
   | cm2 _ _ _ _ _=>exact plain _ hh
   | tr _ _ _ _ _=>exact plain _ hh
   | tru _=>exact plain _ hh
   | yl _ _=>exact plain _ hh
   | rg _ _=>exact plain _ hh
   | il _ _=>exact plain _ hh
 | .loop b=>fun R E fr hrd h σ k r m K ρ w Q hh hr hQ=>by
   obtain ⟨h1,σ1,m1,K1,g1,g2,g3⟩:=aM h (show ay h σ (fun h σ=>match h with
     | .un m r=>lD (fun h σ k=>exec J n b h σ k) k m r σ
     | .lp s ha=>pR (fun h σ R k=>exec J n b h σ k) s (s.sl.map (·.1)++bQ b) ha σ k
     | _=>none)=some r from hh) hr
   have hQ':∀ e h' σ' m' K' ρ' w',Rel E fr σ' m' K' ρ' w'->Same σ1 σ'->k e h' σ'=some r->Q e (act1 n ρ') w':=fun e h'' σ'' m'' K'' ρ'' w'' p1 p2 p3=>hQ e h'' σ'' m'' K'' ρ'' w'' p1 (g2.trans p2) p3
   split at g1
   . exact wpIn_loop_rounds _ (wA (cu hJ b) hrd hQ' _ g1 g3 Same.rfl')
   . exact CU (cu hJ b) hrd g1 g3 hQ'
   . cases g1
 | .rangeFunc g ps ao bo=>fun R E fr hrd h σ k r m K ρ w Q hh hr hQ=>by
   obtain ⟨h1,σ1,m1,K1,g1,g2,g3⟩:=aM h (show ay h σ (fun h σ=>pM J n g ps ao bo h σ k)=some r from hh) hr;exact DF hJ hrd g1 g3 (fun e h'' σ'' m'' K'' ρ'' w'' p1 p2 p3=>hQ e h'' σ'' m'' K'' ρ'' w'' p1 (g2.trans p2) p3)
 | .goto l=>fun R E fr hrd h σ k r m K ρ w Q hh hr hQ=>by cases hh
 | .refuse s=>fun R E fr hrd h σ k r m K ρ w Q hh hr hQ=>by cases hh
theorem xz:∀ d:Nat,JOk (tX (P:=P) d)
 | 0=>fun n c R E fr hrd h σ k r m K ρ w Q hh hr hQ=>by cases hh
 | d + 1=>fun n c=>cu (xz d) c
end
end
section
variable [BldA]
def dS (P:Program) (n:Nat) (σ:Zt):List ResultVar->Option (List SV)
 | []=>some []
 | .tmp t :: r=>(match dS P n σ r with | some vs=>some (σ.ev n (.tmp t) :: vs) | none=>none)
 | .cell a ty :: r=>(match σ.ev n (.tmp a) with
   | .ptr i o=>(match aP (HA.blkR i) (σ.H++σ.Hf) with
     | some q=>(match ldv P ty q.cs o,dS P n σ r with | some v,some vs=>some (v :: vs) | _,_=>none)
     | none=>none)
   | _=>none)
def Ap:List SV->SV
 | [v]=>v
 | vs => .tup vs
def fT (σ:Zt) (rs:List SV) (o:Sh):Option (TL o.ts):=bif (match rs,o.sl with | [],[]=>true | _ :: _,[p]=>S0 p.1 0 | _,_=>false) then (match o.get (fun _=>Ap rs) σ.H with | some g=>TL.of o.ts g.ds | none=>none) else none
def pY {P:Program} (σ:Zt) (rs:List SV):(os:List Sh)->Hn P->Option (cL os)
 | [a],_=>fT σ rs a
 | [a,b],h=>(match h with | .pl _=>(fT σ rs b).map aK0 | _=>(fT σ rs a).map bS0)
 | _,_=>none
def p8 {P:Program} (n:Nat) (fn:Func) (os:List Sh) (h:Hn P) (σ:Zt):Option (cL os):=ay h σ fun h σ=>match dS P n σ fn.results.toList with | some rs=>pY σ rs os h | none=>none
def fin {P:Program} (n:Nat) (fn:Func) (os:List Sh) (e:Exit) (h:Hn P) (σ:Zt):Option (cL os):=match e with
 | .normal=>p8 n fn os h σ
 | .ret=>p8 n fn os h σ
 | _=>none
def uK {P:Program} (n:Nat) (fn:Func) (c:Code) (inn:Sh) (os:List Sh) (h:Hn P) (x:TL inn.ts):Option (cL os):=match inn.un (TL.list inn.ts x) 0 with
 | some (vs,u)=>ay h ⟨fun _ => .any,vs,u.H,[],u.nx,false⟩ fun h σ=>exec (tX 4) n c h σ (fin n fn os)
 | none=>none
section
variable {P:Program} {E:En} {n:Nat} {m:List M} {K:Hp} {fr:Frz} {σ:Zt} {ρ:Sl1} {w:World}
theorem sQ (hr:Rel E fr σ m K ρ w):∀ {l:List ResultVar} {rs:List SV},dS P n σ l=some rs->∃ us:List Value,SV.relL m K rs us/\l.length=us.length/\∀ (j:Nat) (r:ResultVar) (v:Value),l[j]? = some r->us[j]? = some v->ix P n (Hold E K (σ.atoms fr m)) ρ r v
 | [],rs,h=>by cases h; exact ⟨[],rfl,rfl,fun j r v h=>by simp at h⟩
 | .tmp t :: l,rs,h=>by
   unfold dS at h;split at h
   . rename_i vs hvs;cases h;obtain ⟨us,h1,h2,h3⟩:=sQ hr hvs;refine ⟨ev n ρ (.tmp t) :: us,⟨_,us,rfl,hr.toPur.ev n (.tmp t),h1⟩,by simp [h2],fun j r v hj hv=>?_⟩;cases j with
     | zero=>simp at hj hv; subst hj hv; rfl
     | succ j=>exact h3 j r v (by simpa using hj) (by simpa using hv)
   . cases h
 | .cell a ty :: l,rs,h=>by
   unfold dS at h;split at h
   . rename_i i o e;split at h
     . rename_i q hq;split at h
       . rename_i v vs hv hvs;cases h;obtain ⟨us,h1,h2,h3⟩:=sQ hr hvs;obtain ⟨x,hx,hmem⟩:=bq hq;obtain rfl:=cP hx;obtain ⟨b,ws,g1,g2,g3⟩:=hr.cls.blk hmem;obtain ⟨u,g4,g5⟩:=lF (P:=P) (o0:=0) hv g2 (fun j u hu=>by rw [O2]; exact g3 j u hu);rw [O2] at g4;have hev:=hr.toPur.ev n (.tmp a);rw [e] at hev;obtain ⟨b',q1,q2⟩:=hev;rw [g1] at q1; cases q1;refine ⟨u :: us,⟨_,us,rfl,g5,h1⟩,by simp [h2],fun j r v hj hv=>?_⟩;cases j with
         | zero=>simp at hj hv; subst hj hv; exact ⟨b,o,q2,g4⟩
         | succ j=>exact h3 j r v (by simpa using hj) (by simpa using hv)
       . cases h
     . cases h
   . cases h
theorem wV {C:World->Prop} {w:World} (hw:C w):∀ {l:List ResultVar} {us:List Value},l.length=us.length->(∀ (j:Nat) (r:ResultVar) (v:Value),l[j]? = some r->us[j]? = some v->ix P n C ρ r v)->(l.mapM (rvS (frm n ρ))).run P w = .ok us w
 | [],us,h,_=>by
   obtain rfl:us=[]:=V0.1 h.symm;simp
 | r :: l,us,h,hr=>by
   cases us with
   | nil=>cases h
   | cons u us =>
     have h1:=pa (hr 0 r u rfl rfl) hw;have h2:=wV hw (l:=l) (us:=us) (by simpa using h) (fun j r v hj hv=>hr (j + 1) r v (by simpa using hj) (by simpa using hv));simp [aS0,h1,h2]
def mh:List Value->Value
 | [v]=>v
 | vs => .tuple vs.toArray
theorem EE {C:World->Prop} {w:World} (hw:C w) {fn:Func} {us:List Value} (hl:fn.results.toList.length=us.length) (h:∀ (j:Nat) (r:ResultVar) (v:Value),fn.results.toList[j]? = some r->us[j]? = some v->ix P n C ρ r v):(results fn (frm n ρ)).run P w = .ok (mh us) w:=by
 have h1:=wV hw hl h;rw [rl];simp only [Z8];simp only [Sem.run_bind,Sem.run_map,h1,Result.andThen_ok,Sem.run_pure]
 match us with
 | []=>rfl
 | [u]=>rfl
 | u :: v :: r =>
   rw [dif_neg (by simp)];rfl
theorem Dl {rs:List SV} {us:List Value} (h:SV.relL m K rs us) (hne:rs≠[]):SV.rel m K (Ap rs) (mh us):=by
 match rs,us,h with
 | [],_,_=>exact absurd rfl hne
 | [v],us,h =>
   obtain ⟨u,q,rfl,h1,h2⟩:=aG h;obtain rfl:=aR h2;exact h1
 | v :: v2 :: r,us,h =>
   obtain ⟨u,q,rfl,h1,h2⟩:=aG h;obtain ⟨u2,q2,rfl,h3,h4⟩:=aG h2;exact ⟨_,rfl,u,_,rfl,h1,u2,q2,rfl,h3,h4⟩
theorem sR {rs:List SV} {us:List Value} {o:Sh} {x:TL o.ts} {K0:Hp} {m0:List M} (h:fT σ rs o=some x) (hr:Rel E fr σ m K ρ w) (hrel:SV.relL m K rs us) (hm:m0 <+: m) (ho:bC o.bl m0.length=true) (hF:σ.Hf=[]) :
   ∃ vs' u' m',o.un (TL.list o.ts x) m0.length=some (vs',u')/\m0 <+: m'/\m'.length=u'.nx/\(∀ a∈u'.H,HA.ok m' K a)/\jZ m' K vs' (mh us)/\Sep E K (u'.H.map (HA.conc m')++fr.F) w:=by
 unfold fT at h;replace h:=ai h; obtain ⟨hs,h⟩:=h;split at h
 . rename_i g hg;obtain ⟨vs,u,ms,e1,e2,e3,e4,e5,e6,e7,e8⟩:=Sh.get_un hg hr.okH hm ho;rw [TL.of_list h];refine ⟨vs,u,m0++ms,e1,av _ _,e2,e4,?_,?_⟩
   . split at hs
     . rename_i hsl;rw [hsl] at e3;obtain rfl:vs=[]:=e3;obtain rfl:=aR hrel;rfl
     . rename_i v r p hsl;rw [hsl] at e3;obtain ⟨sv,q,rfl,g1,g2⟩:=e3;obtain rfl:q=[]:=g2;exact g1 _ (Dl hrel (by simp))
     . cases hs
   . have:=e6 E _ w hr.toSep;have h2:σ.fz fr=fr.F:=by unfold Zt.fz; rw [hF]; rfl
     rw [h2] at this;have h3:Sep E K (g.H.map (HA.conc m)++(u.H.map (HA.conc (m0++ms))++fr.F)) w:=Sep.perm (jK _ _ _) this;exact Sep.drops h3
 . cases h
theorem EN {rs:List SV} {us:List Value} {m0:List M} (hr:Rel E fr σ m K ρ w) (hrel:SV.relL m K rs us) (hm:m0 <+: m) (hF:σ.Hf=[]):∀ {os:List Sh} {h0:Hn P} {r:cL os},(∀ o∈os,bC o.bl m0.length=true)->pY σ rs os h0=some r ->
   ∃ vs' u' m',(dz os r).1.un (dz os r).2 m0.length=some (vs',u')/\m0 <+: m'/\m'.length=u'.nx/\(∀ a∈u'.H,HA.ok m' K a)/\jZ m' K vs' (mh us)/\Sep E K (u'.H.map (HA.conc m')++fr.F) w
 | [],h0,r,_,h=>bM0 r
 | [a],h0,r,ho,h=>sR (K0:=K) (show fT σ rs a=some r from h) hr hrel hm (ho a (by simp)) hF
 | [a,b],h0,r,ho,h=>by
   have key:(fT σ rs b).map aK0=some r\/(fT σ rs a).map bS0=some r:=by
     cases h0 <;> first | exact .inl h | exact .inr h
   clear h
   rcases key with h | h
   . rw [Y1] at h;obtain ⟨x,h,rfl⟩:=h;exact sR (K0:=K) h hr hrel hm (ho b (by simp)) hF
   . rw [Y1] at h;obtain ⟨x,h,rfl⟩:=h;exact sR (K0:=K) h hr hrel hm (ho a (by simp)) hF
 | a :: b :: c :: os,h0,r,_,h=>by cases h
theorem wl:∀ {sl:List (Nat×Kd)} {vs:List (Nat×SV)} {us:List Value} {j N:Nat},slN j sl N=true->vs.map (·.1)=sl.map (·.1)->slR m K vs us->∀ i sv,ar vs i=some sv->∃ k u,i=j + k/\us[k]? = some u/\SV.rel m K sv u
 | [],vs,us,j,N,h1,h2,h3,i,sv,hl=>by
   have:vs=[]:=by cases vs with | nil=>rfl | cons a b=>cases h2
   subst this; cases hl
 | p :: sl,vs,us,j,N,h1,h2,h3,i,sv,hl=>by
   cases vs with
   | nil=>cases h2
   | cons q vs =>
     simp only [Z1,O5] at h2;simp only [slN,Q0] at h1;have hj:=N0 h1.1;obtain ⟨u,r,rfl,g1,g2⟩:=h3;change (bif S0 q.1 i then some q.2 else ar vs i)=some sv at hl;cases hb:S0 q.1 i with
     | true =>
       rw [hb] at hl; cases hl;have:=N0 hb;exact ⟨0,u,by rw [<- this,h2.1,hj]; rfl,rfl,g1⟩
     | false =>
       rw [hb] at hl;obtain ⟨k,u',e1,e2,e3⟩:=wl h1.2 h2.2 g2 i sv hl;exact ⟨k + 1,u',by omega,by simpa using e2,e3⟩
theorem wK {bi:List Nat}:∀ {sl:List (Nat×Kd)} {u u':Un} {vs:List (Nat×SV)},unS bi sl u=some (vs,u')->vs.map (·.1)=sl.map (·.1)
 | [],u,u',vs,h=>by cases h; rfl
 | p :: sl,u,u',vs,h=>by
   unfold unS at h;split at h
   . split at h
     . rename_i h2;cases h;simp [wK h2]
     . cases h
   . cases h
theorem Eb {s:Sh} {ds:List Dat} {nx:Nat} {vs:List (Nat×SV)} {u:Un} (h:s.un ds nx=some (vs,u)):vs.map (·.1)=s.sl.map (·.1):=by
 unfold Sh.un at h;replace h:=(ai h).2;split at h;split at h
 . rename_i h1;split at h
   . cases h; exact wK h1
   . cases h
 . cases h
theorem xK:∀ {vs:List (Nat×SV)} {us:List Value},slR m K vs us->us.length=vs.length
 | [],us,h=>by obtain rfl:us=[]:=h; rfl
 | p :: vs,us,⟨u,r,e,_,h⟩=>by subst e; simp [xK h]
end
section
variable {P:Program} {E:En} {n:Nat} {m:List M} {K:Hp} {fr:Frz} {σ:Zt} {ρ:Sl1} {w:World}
theorem sI {b:Bool}:∀ l:List ResultVar,dS P n ⟨σ.base,σ.top,σ.H,σ.Hf,σ.nx,b⟩ l=dS P n σ l
 | []=>rfl
 | .tmp t :: r=>by unfold dS; rw [sI r]; rfl
 | .cell a ty :: r=>by unfold dS; rw [sI r]; rfl
theorem DR {b:Bool} {rs:List SV}:∀ {os:List Sh} {h:Hn P},pY ⟨σ.base,σ.top,σ.H,σ.Hf,σ.nx,b⟩ rs os h=pY σ rs os h
 | [],h=>rfl
 | [a],h=>rfl
 | [a,b],h=>by cases h <;> rfl
 | a :: b :: c :: os,h=>rfl
end
section
variable {P:Program} {n:Nat}
theorem Gs {s:Spec} {fn:Func} {c:Code} (hf:P.funcs[s.f]? = some fn) (hb:fn.body=some c) (hn:fn.ntmps=n) (h:Hn P) (hc:(slN 0 s.inn.sl s.inn.sl.length&&M5 s.inn.sl.length n)=true) (hold:∀ ds vs u,s.inn.un ds 0=some (vs,u)->∀ o∈s.outs,bC o.bl u.nx=true)
   (hex:∀ (x:TL s.inn.ts) r,s.fn x=some r->uK n fn c s.inn s.outs h x=some r):cE P s:=by
 intro x r hx vs u hu m K args hgk hm hok hsl E w F hs;rw [Q0] at hc;obtain ⟨hc1,hc2⟩:=hc;have hkeys:=Eb hu;have hlen:args.toArray.size<=n:=by
   have h1:=xK hsl;have h2:vs.length=s.inn.sl.length:=by have:=congrArg N1 hkeys; simpa using this
   simp only [R5];have:=P2 hc2;omega
 refine callsIn_wide.1 (callsIn_of_wp_marks (F:=Fence.wide) (n:=0) hf hb trivial ?_);rw [hn,oh hlen];have hrun:=hex x r hx;unfold uK at hrun;rw [hu] at hrun;simp only at hrun;have hrel:Rel E.out0 ⟨m,K,cz args.toArray,fun _=>false,F,K⟩ ⟨fun _ => .any,vs,u.H,[],u.nx,false⟩ m K (cz args.toArray) w:=by
   refine ⟨⟨O7 m,Hp.le_refl K,hm,fun e=>(by cases e),fun i=>trivial,fun i e=>rfl,fun i _ => .inr rfl,fun i sv hi=>?_,hok,fun a ha=>by simp at ha,MOk.nil hgk (Hp.le_refl K)⟩,?_⟩
   . obtain ⟨k,v,e1,e2,e3⟩:=wl hc1 hkeys hsl i sv hi;have:cz args.toArray i=v:=by
       show dQ args.toArray i=v;unfold dQ;rw [e1,O2];simp [e2]
     rw [this]; exact e3
   . exact hs.out0
 obtain ⟨hp,σp,mp,Kp,p1,p2,p3⟩:=aM h hrun hrel;refine cu (xz 4) c (cL s.outs) E.out0 ⟨m,K,cz args.toArray,fun _=>false,F,K⟩ (fun l e=>by cases e) hp σp (fin n fn s.outs) r mp Kp _ w _ p1 p3 (fun e h' σ' m' K' ρ' w' h1 h2 h3=>?_);have fini:p8 n fn s.outs h' σ'=some r->LeavesInM Fence.wide 0 P fn (act1 n ρ').tmps (fun e w'=>∃ v K' L',e = .returned v/\(∃ vs' u' m',(dz s.outs r).1.un (dz s.outs r).2 u.nx=some (vs',u')/\m <+: m'/\m'.length=u'.nx/\(∀ a∈u'.H,HA.ok m' K' a)/\jZ m' K' vs' v/\L'=u'.H.map (HA.conc m'))/\K.le K'/\Sep E K' (L'++F) w') (act1 n ρ').defers .returning w':=fun h3=>by
   unfold p8 at h3;obtain ⟨h'',σ2,m2,K2,g1,g2,g3⟩:=aM h' h3 h1;split at g1
   . rename_i rs hrs;refine nK ρ'.ds g3.mks g3.toSep (fun K3 w3 c1 c2 c3=>?_);have g4:=g3.unmark c1 c2 c2 c3;rw [<- sI (b:=false)] at hrs;rw [<- DR (b:=false)] at g1;obtain ⟨us,q1,q2,q3⟩:=sQ g4 hrs;refine ⟨mh us,EE (ρ:=(⟨ρ'.f,[]⟩:Sl1)) g4.hold q2 q3,?_⟩;obtain ⟨vs',u',m'',z1,z2,z3,z4,z5,z6⟩:=EN (m0:=m) g4 q1 g4.hm (((p2.trans h2).trans g2).2) (fun o ho=>by rw [hm]; exact hold _ _ _ hu o ho) g1;rw [hm] at z1;exact ⟨_,K3,_,rfl,⟨vs',u',m'',z1,z2,z3,z4,z5,rfl⟩,g4.hK,z6.back⟩
   . cases g1
 cases e with
 | normal=>exact fini h3
 | ret=>exact fini h3
 | _=>cases h3
end
end
section
variable [BldA]
mutual
theorem pA {bi:List Nat}:∀ (k:Kd) {u u':Un} {v:SV},Kd.un bi k u=some (v,u')->u.nx<=u'.nx
 | .any,u,u',v,h=>by cases h; exact S2 _
 | .dat t,u,u',v,h=>by unfold Kd.un at h; split at h <;> cases h; exact S2 _
 | .nilp,u,u',v,h=>by cases h; exact S2 _
 | .nils,u,u',v,h=>by cases h; exact S2 _
 | .nilf,u,u',v,h=>by cases h; exact S2 _
 | .ptr j o,u,u',v,h=>by unfold Kd.un at h; split at h <;> cases h; exact S2 _
 | .own e t,u,u',v,h=>by unfold Kd.un at h; split at h <;> cases h; exact bO0 _ _
 | .al j,u,u',v,h=>by unfold Kd.un at h; split at h <;> cases h; exact S2 _
 | .fsl j m,u,u',v,h=>by unfold Kd.un at h; split at h <;> cases h; exact S2 _
 | .agg ks,u,u',v,h=>by
   unfold Kd.un at h; split at h
   . cases h; exact jD ks (by assumption)
   . cases h
 | .tup ks,u,u',v,h=>by
   unfold Kd.un at h; split at h
   . cases h; exact jD ks (by assumption)
   . cases h
 | .fn f ks,u,u',v,h=>by
   unfold Kd.un at h; split at h
   . cases h; exact jD ks (by assumption)
   . cases h
 | .kat t o,u,u',v,h=>by
   unfold Kd.un at h; split at h
   . split at h
     . cases h; exact S2 _
     . cases h
   . cases h
 | .ifc t k,u,u',v,h=>by
   unfold Kd.un at h; split at h
   . cases h; exact pA k (by assumption)
   . cases h
 | .lit w,u,u',v,h=>by cases h; exact S2 _
 | .od o,u,u',v,h=>by
   unfold Kd.un at h;replace h:=(ai h).2;split at h
   . split at h
     . cases h; exact bO0 _ _
     . cases h
   . cases h
 | .rp j,u,u',v,h=>by unfold Kd.un at h; split at h <;> cases h; exact S2 _
 | .is j k,u,u',v,h=>by
   unfold Kd.un at h; split at h
   . split at h
     . cases h; exact pA k (by assumption)
     . cases h
   . cases h
theorem jD {bi:List Nat}:∀ (ks:List Kd) {u u':Un} {vs:List SV},Kd.unL bi ks u=some (vs,u')->u.nx<=u'.nx
 | [],u,u',vs,h=>by cases h; exact S2 _
 | k :: ks,u,u',vs,h=>by
   unfold Kd.unL at h; split at h
   . rename_i h1;split at h
     . rename_i h2; cases h; exact M9 (pA k h1) (jD ks h2)
     . cases h
   . cases h
end
theorem yW {bi:List Nat}:∀ (sl:List (Nat×Kd)) {u u':Un} {vs:List (Nat×SV)},unS bi sl u=some (vs,u')->u.nx<=u'.nx
 | [],u,u',vs,h=>by cases h; exact S2 _
 | p :: sl,u,u',vs,h=>by
   unfold unS at h; split at h
   . rename_i h1;split at h
     . rename_i h2; cases h; exact M9 (pA p.2 h1) (yW sl h2)
     . cases h
   . cases h
theorem yK {bi:List Nat}:∀ (bl:List Bk) (is:List Nat) {u u':Un},unB bi bl is u=some u'->u.nx<=u'.nx
 | [],[],u,u',h=>by cases h; exact S2 _
 | [],i :: is,u,u',h=>by cases h
 | b :: bl,[],u,u',h=>by cases h
 | b :: bl, i :: is, u, u', h => by
   unfold unB at h; split at h
   . rename_i u1 h1;refine M9 ?_ (yK bl is h);unfold eS at h1;cases hn:b.nu with
     | true=>rw [hn] at h1; cases h1; exact S2 _
     | false =>
       rw [hn] at h1; simp only [cond_false] at h1;cases hlp:b.lp with
       | true=>rw [hlp] at h1; simp only [cond_true] at h1; cases h1; exact S2 _
       | false =>
       rw [hlp] at h1; simp only [cond_false] at h1;cases hr:b.rw with
       | some o =>
         rw [hr] at h1;dsimp only at h1;cases hb:b.bu with
         | true =>
           rw [hb] at h1; simp only [cond_true] at h1;split at h1
           . split at h1
             . split at h1
               . rename_i h2;cases h1;have h3:=jD b.ks h2;exact M9 (show u.nx<=_ from h3) (bu0 _)
               . cases h1
             . cases h1
           . cases h1
         | false =>
         rw [hb] at h1; simp only [cond_false] at h1;split at h1
         . split at h1
           . cases h1; exact bu0 _
           . cases h1
         . cases h1
       | none =>
       rw [hr] at h1;dsimp only at h1;cases hb:b.bu with
       | true =>
         rw [hb] at h1; simp only [cond_true] at h1;split at h1 <;> cases h1
         exact S2 _
       | false =>
         rw [hb] at h1; simp only [cond_false] at h1;split at h1
         . rename_i h2;cases h1;exact M9 (jD b.ks h2) (bu0 _)
         . cases h1
   . cases h
theorem yd:∀ (bl:List Bk) (nx:Nat),dN bl=true->(aX bl nx).2=nx + bl.length
 | [],nx,_=>rfl
 | b :: bl,nx,h=>by
   simp only [dN,Q0] at h;cases hb:b.old with
   | some i=>rw [hb] at h; cases h.1
   | none =>
     simp only [aX,hb,V1];rw [yd bl (nx + 1) h.2];omega
theorem Hv {s:Sh} {ds:List Dat} {vs:List (Nat×SV)} {u:Un} (h:s.un ds 0=some (vs,u)) (ho:dN s.bl=true):s.bl.length<=u.nx:=by
 unfold Sh.un at h;replace h:=(ai h).2;have hn:=yd s.bl 0 ho;split at h;rename_i bi nx he;rw [he] at hn;simp only [O2] at hn;split at h
 . rename_i h1;split at h
   . rename_i h2;cases h;have:=yW s.sl h1;have:=yK s.bl bi h2;simp only at *;omega
   . cases h
 . cases h
theorem xi:∀ (bl:List Bk) {a b:Nat},bC bl a=true->a<=b->bC bl b=true
 | [],a,b,h,hab=>rfl
 | x :: bl,a,b,h,hab=>by
   simp only [bC,Q0] at h ⊢;refine ⟨?_,xi bl h.2 hab⟩;cases ho:x.old with
   | none=>rfl
   | some i =>
     have h1:=h.1;rw [ho] at h1;simp only [V5] at h1 ⊢;omega
def tH (fn:Func):Code:=match fn.body with | some c=>c | none => .skip
def yQ (s:Spec) (fn:Func):Bool:=fn.body.isSome&&(slN 0 s.inn.sl s.inn.sl.length&&M5 s.inn.sl.length fn.ntmps)&&(dN s.inn.bl&&s.outs.all fun o=>bC o.bl s.inn.bl.length)
theorem ae {P:Program} {s:Spec} {fn:Func} (hf:P.funcs[s.f]? = some fn) (h:Hn P) (hc:yQ s fn=true) (hex:(fun x=>uK fn.ntmps fn (tH fn) s.inn s.outs h x)=s.fn):cE P s:=by
 unfold yQ at hc;simp only [Q0] at hc;obtain ⟨⟨h1,h2,h2'⟩,h3,h4⟩:=hc;have hb:fn.body=some (tH fn):=by
   unfold tH;cases hbd:fn.body with
   | none=>rw [hbd] at h1; cases h1
   | some c=>rfl
 refine Gs hf hb rfl h (by rw [h2,h2']; rfl) (fun ds vs u hu o ho=>xi o.bl (W5.1 h4 o ho) (Hv hu h3)) (fun x r hx=>?_);rw [<- hx];exact congrFun hex x
end
theorem Hw [BldA] {P:Program} {s:Spec} {W:World} (hs:cE P s) {x:TL s.inn.ts} {r:cL s.outs} (hr:s.fn x=some r) (hgk:BldA.gk (Hp.of W)) {vs:List (Nat×SV)} (hun:s.inn.un (TL.list _ x) 0=some (vs,⟨[],0,[],[]⟩))
   (hout:(dz s.outs r).1.un (dz s.outs r).2 0=some ([(0,.bool true)],⟨[],0,[],[]⟩)) {args:List Value} (hsl:slR [] (Hp.of W) vs args) :
   Calls P s.f args.toArray W fun e W'=>e = .returned (.bool true)/\Below W.heap.size W W':=by
 have h:=hs x r hr vs _ hun [] (Hp.of W) args hgk rfl (fun a ha=>by cases ha) hsl (En.of W) W [] (Sep.start W);refine h.mono fun e W' h=>?_
 obtain ⟨v,K',L',rfl,⟨vs',u',m',h1,_,_,_,h2,_⟩,h3,h4⟩:=h;have h1:=h1.symm.trans hout;cases h1;obtain rfl:v = .bool true:=h2;exact ⟨rfl,h4.below h3⟩
section
open Go.ChangeShapes Go.WideShapes Go.RowKit Go.Deep
namespace Tp
def flatW:Tp->Bool
 | .sl _=>false
 | .one a=>flatW a
 | .cons a r=>flatW a&&flatW r
 | _=>true
mutual
def heavy (P:Program):Tp->TypeId->Bool
 | .sl e,t=>match P.underlying t with | some (.slice e')=>decide (0 < P.bytesOf e')&&heavy P e e' | _=>false
 | .one a,t=>match P.underlying t with | some (.struct fs)=>(match fs.toList with | [f]=>heavy P a f.type | _=>false) | some (.array _ _)=>flatW a | _=>false
 | .cons a r,t=>match P.underlying t with | some (.struct fs)=>(match fs.toList with | f :: fs=>heavy P a f.type&&heavyAll P r fs | []=>false) | some (.array _ _)=>flatW a&&flatW r | _=>false
 | _,_=>true
def heavyAll (P:Program):Tp->List Field->Bool
 | .emp,[]=>true
 | .one a,[f]=>heavy P a f.type
 | .cons a r,f :: fs=>heavy P a f.type&&heavyAll P r fs
 | _,_=>false
end
def Fit:(t:Tp)->t.den->Prop
 | .sl e,l=>l.length<=140737488351232/\∀ x∈l,Fit e x
 | .one a,d=>Fit a d
 | .cons a r,d=>Fit a d.1/\Fit r d.2
 | _,_=>True
theorem flat_fit:∀ (t:Tp) (d:t.den),t.flatW=true->t.Fit d
 | .int _,_,_=>trivial
 | .bool,_,_=>trivial
 | .str,_,_=>trivial
 | .ptr _,_,_=>trivial
 | .emp,_,_=>trivial
 | .sl _,_,h=>by cases h
 | .one a,d,h=>flat_fit a d h
 | .cons a r,d,h=>by
   unfold flatW at h;rw [Q0] at h;exact ⟨flat_fit a d.1 h.1,flat_fit r d.2 h.2⟩
end Tp
theorem BQ (b o m:Nat):(⟨b,o,none⟩:Addr).add m=⟨b,o + m,none⟩:=by
 unfold Addr.add; split
 . rename_i h; subst h; rfl
 . rfl
section
variable {H:Type} {P:Program} {p:Nat->Bool}
theorem io:∀ (ts:List TypeId) (ds:List (DataW H)),(DataW.weightsEach P ts ds).all p=true->∀ (i:Nat) t d,ts[i]? = some t->ds[i]? = some d->(d.weights P t).all p=true
 | [],ds,h,i,t,d,ht,hd=>by simp at ht
 | t :: ts,[],h,i,t',d,ht,hd=>by simp at hd
 | t :: ts,d :: ds,h,0,t',d',ht,hd=>by
   simp at ht hd; subst ht; subst hd;unfold DataW.weightsEach at h;rw [ao0,Q0] at h; exact h.1
 | t :: ts,d :: ds,h,i + 1,t',d',ht,hd=>by
   unfold DataW.weightsEach at h;rw [ao0,Q0] at h;exact io ts ds h.2 i t' d' (by simpa using ht) (by simpa using hd)
theorem Am {e:TypeId}:∀ (ds:List (DataW H)),(DataW.weightsAll P e ds).all p=true->∀ d∈ds,(d.weights P e).all p=true
 | [],h,d,hd=>by cases hd
 | d :: ds,h,d',hd=>by
   unfold DataW.weightsAll at h;rw [ao0,Q0] at h
   rcases T2.1 hd with rfl | hd
   . exact h.1
   . exact Am ds h.2 d' hd
end
section
variable {H:Type} {enc:TypeId×Value->H} {P:Program} {W:World} {base:Nat} {spare:Nat->Bool} {held:Bool}
mutual
theorem Tp.fit:∀ (ty:Tp) {t:TypeId} {fuel:Nat} {cs:List Value} {x:DataW H×List MemPlace} {d:ty.den},ty.has P t=true->ty.heavy P t=true->DataW.trod enc P W base spare held fuel t cs=some x->Is (Hp.of W) ty cs d->(x.1.weights P t).all (·<=reachBytes)=true->ty.Fit d
 | .int k,_,_,_,_,_,_,_,_,_,_=>trivial
 | .bool,_,_,_,_,_,_,_,_,_,_=>trivial
 | .str,_,_,_,_,_,_,_,_,_,_=>trivial
 | .ptr e,_,_,_,_,_,_,_,_,_,_=>trivial
 | .emp,_,_,_,_,_,_,_,_,_,_=>trivial
 | .sl e,t,fuel,cs,x,d,hh,hv,h,hi,hw=>by
   unfold Tp.has at hh;unfold Tp.heavy at hv;split at hh
   . rename_i e' ht;rw [ht] at hv;simp only [Q0,decide_eq_true_eq] at hh hv;obtain ⟨⟨he,hc⟩,h0⟩:=hh;obtain ⟨hb0,hv⟩:=hv;simp only [Is] at hi;obtain ⟨ad,cp,hcs,hl1,hl2,hi⟩:=hi
     rcases open_slice ht h with ⟨rfl,rfl⟩ | ⟨a,len,cap,m,n,D,Pl,rfl,hb,hl,hm,hmm,rfl,hx⟩
     . simp only [O5,Value.slice.injEq,and_true] at hcs;obtain ⟨_,hz,_⟩:=hcs;obtain rfl:d=[]:=V0.1 hz.symm;exact ⟨by simp,fun x hx=>by simp at hx⟩
     . simp only [O5,Value.slice.injEq,and_true] at hcs;obtain ⟨rfl,hlen,rfl⟩:=hcs;unfold DataW.weights at hw;rw [ht] at hw;simp only [ai0,ao0,Q0,decide_eq_true_eq,U8,bI0] at hw;obtain ⟨hw1,hw2,hw3⟩:=hw;have hle:len<=(len + (m - len)) * P.bytesOf e':=by
         have:(len + (m - len)) * 1<=(len + (m - len)) * P.bytesOf e':=Nat.mul_le_mul_left _ hb0;omega
       have hr:reachBytes=140737488351232:=by decide
       refine ⟨by omega,fun y hy=>?_⟩;obtain ⟨k,hk,rfl⟩:=X3 hy;have hkl:k < len:=by omega
       obtain ⟨b,o,hb',hes⟩:=hi (fun hn=>by rw [hn] at hk; simp at hk);simp only [W0] at hb';subst hb';obtain ⟨es,hel,hie,hce⟩:=hes k d[k] (R0 hk);obtain ⟨cs',hcs',ht'⟩:=hx k (by rw [hmm]; split <;> omega);rw [hc] at hcs';obtain ⟨_,hlen',hcell⟩:=World.cells?_some hcs';have e:cs'=es:=by
         apply bL0;intro j;by_cases hj:j < e.size
         . rw [<- hcell j hj];have h1:=hce j hj;rw [R0 (by omega)] at h1 ⊢;have h2:=eo (w:=W) (Hp.le_refl _) h1;rw [<- h2,Go.Deep.add_add,BQ]
           congr 2; omega
         . rw [R3 (by omega),R3 (by omega)]
       subst e;exact Tp.fit e he hv ht' hie (Am _ hw2 _ (Z4.2 ⟨k,W8.2 hkl,rfl⟩))
   . simp at hh
 | .one a,t,fuel,cs,x,d,hh,hv,h,hi,hw=>by
   unfold Tp.has at hh;unfold Tp.heavy at hv;split at hh
   . rename_i fs ht;rw [ht] at hv;simp only [Q0,decide_eq_true_eq] at hh;obtain ⟨hh,hC⟩:=hh;split at hh
     . rename_i f hfs;simp only [hfs] at hv;simp only [Q0,decide_eq_true_eq] at hh hv;obtain ⟨⟨h1,h2⟩,h3⟩:=hh;obtain ⟨xs,n,_,rfl,hlen,hxl,hf⟩:=DataW.trod_struct ht h;have hsz:fs.size=1:=by rw [<- M1,hfs]; simp
       have hget:∀ i,fs[i]? = [f][i]?:=fun i=>by rw [<- hfs,P6]
       have t0:=hf 0 f (by rw [hget]; rfl);rw [h1,h2,X2,R0 (by omega),Z2 (by omega)] at t0;unfold DataW.weights at hw;simp only [ht,hfs] at hw;exact Tp.fit a h3 hv t0 hi (io _ _ hw 0 _ _ rfl (by simp [R0 (show 0 < xs.length by omega)]))
     . simp at hh
   . rename_i n e ht;rw [ht] at hv;exact Tp.flat_fit a d hv
   . simp at hh
 | .cons a r,t,fuel,cs,x,d,hh,hv,h,hi,hw=>by
   unfold Tp.has at hh;unfold Tp.heavy at hv;split at hh
   . rename_i fs ht;rw [ht] at hv;simp only [Q0,decide_eq_true_eq] at hh;obtain ⟨hh,hC⟩:=hh;split at hh
     . rename_i f fs' hfs;simp only [hfs] at hv;simp only [Q0,decide_eq_true_eq] at hh hv;obtain ⟨⟨⟨h1,h2⟩,h3⟩,h4⟩:=hh;obtain ⟨xs,n,_,rfl,hlen,hxl,hf⟩:=DataW.trod_struct ht h;have hsz:fs.size=fs'.length + 1:=by rw [<- M1,hfs]; simp
       have hget:∀ i,fs[i]? = (f :: fs')[i]?:=fun i=>by rw [<- hfs,P6]
       have t0:=hf 0 f (by rw [hget]; rfl);rw [h1,h2,X2,R0 (by omega)] at t0;unfold DataW.weights at hw;simp only [ht,hfs] at hw;simp only [Is] at hi;obtain ⟨c1,c2,rfl,hl1,hi1,hi2⟩:=hi;rw [S8 hl1] at t0;refine ⟨Tp.fit a h3 hv.1 t0 hi1 (io _ _ hw 0 _ _ rfl (by simp [R0 (show 0 < xs.length by omega)])),?_⟩;refine Tp.fitAll a.size r fs' (cs:=c2) (all:=c1++c2) h4 hv.2 (fun i g hg=>?_) (by rw [bZ0 hl1]) hi2;have t1:=hf (i + 1) g (by rw [hget]; exact hg);have hi':i < fs'.length:=(T1.1 hg).1;rw [R0 (by omega)] at t1;exact ⟨n,_,t1,io _ _ hw (i + 1) _ _ (by simp [hg]) (by simp [R0 (show i + 1 < xs.length by omega)])⟩
     . simp at hh
   . rename_i n e ht;rw [ht] at hv;rw [Q0] at hv;exact ⟨Tp.flat_fit a d.1 hv.1,Tp.flat_fit r d.2 hv.2⟩
   . simp at hh
theorem Tp.fitAll:∀ (o:Nat) (ty:Tp) (fs:List Field) {cs all:List Value} {d:ty.den},ty.hasAll P o fs=true->ty.heavyAll P fs=true ->
   (∀ (i:Nat) (f:Field),fs[i]? = some f->∃ n x,DataW.trod enc P W base spare held n f.type ((all.drop f.offset).take (P.cellsOf f.type))=some x/\(x.1.weights P f.type).all (·<=reachBytes)=true)->cs=all.drop o->Is (Hp.of W) ty cs d->ty.Fit d
 | o,.emp,[],cs,all,d,hh,hv,hf,hc,hi=>trivial
 | o,.one a,[f],cs,all,d,hh,hv,hf,hc,hi=>by
   unfold Tp.hasAll at hh;unfold Tp.heavyAll at hv;simp only [Q0,decide_eq_true_eq] at hh;obtain ⟨⟨h1,h2⟩,h3⟩:=hh;obtain ⟨n,x,t0,w0⟩:=hf 0 f rfl;have hl:=Is.len (t := .one a) hi;rw [h1,h2,<- hc,Z2 (by rw [hl]; exact S2 _)] at t0;exact Tp.fit a h3 hv t0 hi w0
 | o,.cons a r,f :: fs,cs,all,d,hh,hv,hf,hc,hi=>by
   unfold Tp.hasAll at hh;unfold Tp.heavyAll at hv;simp only [Q0,decide_eq_true_eq] at hh hv;obtain ⟨⟨⟨h1,h2⟩,h3⟩,h4⟩:=hh;obtain ⟨n,x,t0,w0⟩:=hf 0 f rfl;simp only [Is] at hi;obtain ⟨c1,c2,rfl,hl1,hi1,hi2⟩:=hi;rw [h1,h2,<- hc,S8 hl1] at t0;refine ⟨Tp.fit a h3 hv.1 t0 hi1 w0,Tp.fitAll (o + a.size) r fs (cs:=c2) (all:=all) h4 hv.2 (fun i g hg=>hf (i + 1) g hg) (by rw [<- M4,<- hc,bZ0 hl1]) hi2⟩
 | _,.int _,_,_,_,_,hh,_,_,_,_=>by simp [Tp.hasAll] at hh
 | _,.bool,_,_,_,_,hh,_,_,_,_=>by simp [Tp.hasAll] at hh
 | _,.str,_,_,_,_,hh,_,_,_,_=>by simp [Tp.hasAll] at hh
 | _,.sl _,_,_,_,_,hh,_,_,_,_=>by simp [Tp.hasAll] at hh
 | _,.ptr _,_,_,_,_,hh,_,_,_,_=>by simp [Tp.hasAll] at hh
 | _,.emp,_ :: _,_,_,_,hh,_,_,_,_=>by simp [Tp.hasAll] at hh
 | _,.one _,[],_,_,_,hh,_,_,_,_=>by simp [Tp.hasAll] at hh
 | _,.one _,_ :: _ :: _,_,_,_,hh,_,_,_,_=>by simp [Tp.hasAll] at hh
 | _,.cons _ _,[],_,_,_,hh,_,_,_,_=>by simp [Tp.hasAll] at hh
end
theorem Tp.argFit (ty:Tp) {r:Reach} {b:Nat} {t:TypeId} {v:Value} {d:DataW H} {p:List MemPlace} {x:ty.den} (hh:ty.has P t=true) (hv:ty.heavy P t=true) (h:DataW.Trod enc P W base spare held t v d p) (hx:IsV (Hp.of W) ty v x) (hw:(d.weights P t).all (·<=reachBytes)=true):ty.Fit x:=by
 obtain ⟨f,hf⟩:=h;cases ty with
 | int k=>trivial
 | bool=>trivial
 | str=>trivial
 | ptr e=>trivial
 | emp=>trivial
 | sl e =>
   obtain ⟨ad,cp,rfl⟩:=Is.slv hx;exact Tp.fit (.sl e) hh hv hf hx hw
 | one a =>
   obtain ⟨cs,rfl,hi⟩:=hx;exact Tp.fit (.one a) hh hv (show DataW.trod enc P W base spare held f t cs=some (d,p) from hf) hi hw
 | cons a q =>
   obtain ⟨cs,rfl,hi⟩:=hx;exact Tp.fit (.cons a q) hh hv (show DataW.trod enc P W base spare held f t cs=some (d,p) from hf) hi hw
end
end
set_option maxRecDepth 40000
section
section
variable {P:Program} {K:Hp}
theorem Tr.exA {f:FuncId} {args:Array Value} {α:Type} {A:α->ab} {L:List ab} {R:Value->Hp->List ab->Prop} (h:∀ x,Tr P f args K (A x :: L) R):Tr P f args K (Go.Proofs.YtcocmnheohgndaaGreat.exA A :: L) R:=fun E w F hs=>by
 obtain ⟨x,hx⟩:=Sep.open hs;exact h x E w F hx
theorem Tr.star {f:FuncId} {args:Array Value} {A B:ab} {L:List ab} {R:Value->Hp->List ab->Prop} (h:Tr P f args K (A :: B :: L) R):Tr P f args K (Go.Proofs.YtcocmnheohgndaaGreat.star A B :: L) R:=fun E w F hs=>h E w F (Sep.split hs)
theorem Tr.to {f:FuncId} {args:Array Value} {L:List ab} {R R':Value->Hp->List ab->Prop} (h:Tr P f args K L R) (k:∀ v K' L',R v K' L'->∃ L2,R' v K' L2/\∀ E w F,Sep E K' (L'++F) w->Sep E K' (L2++F) w):Tr P f args K L R':=fun E w F hs =>
 (h E w F hs).mono fun e w' ⟨v,K',L',h1,h2,h3,h4⟩=>by
   obtain ⟨L2,h5,h6⟩:=k v K' L' h2;exact ⟨v,K',L2,h1,h5,h3,h6 E w' F h4⟩
end
def bl (l:List UInt8):List Int:=l.map fun x=>(x.toNat:Int)
theorem yL (a b:List UInt8):bl (a++b)=bl a++bl b:=by simp [bl]
theorem oU (l:List UInt8):(bl l).length=l.length:=by simp [bl]
def wrB (l:List UInt8) (c:Int):Option (List UInt8):=if 0<=c/\c < 256 then app l [aJ0 c.toNat] else none
theorem C4 {l r:List UInt8} {c:Int} (h:wrB l c=some r):app (bl l) [c]=some (bl r):=by
 unfold wrB at h; split at h
 . rename_i hc;obtain ⟨h1,rfl⟩:=fy h;rw [aq (by rw [oU]; simpa using h1),yL]
   congr 2
   simp [bl];omega
 . cases h
def wrS (l s:List UInt8):Option (List UInt8):=app l s
def Bld (b:Nat) (l:List UInt8):ab:=Go.Proofs.YtcocmnheohgndaaGreat.exA fun a:{ a:Value // a = .pointer none\/a = .pointer (some ⟨b,0,none⟩) }=>Go.Proofs.YtcocmnheohgndaaGreat.exA fun v:Value=>Go.Proofs.YtcocmnheohgndaaGreat.star (Cl b 100 [a.1,v]) (Row Hp.nil 5 (.int .u8) v (bl l))
theorem Bld.make {E:En} {K:Hp} {L:List ab} {w:World} {b:Nat} {l:List UInt8} {a v:Value} (ha:a = .pointer none\/a = .pointer (some ⟨b,0,none⟩)) (h:Sep E K (Cl b 100 [a,v] :: Row Hp.nil 5 (.int .u8) v (bl l) :: L) w):Sep E K (Bld b l :: L) w :=
 Sep.close (A:=fun a:{ a:Value // a = .pointer none\/a = .pointer (some ⟨b,0,none⟩) }=>Go.Proofs.YtcocmnheohgndaaGreat.exA fun v:Value=>Go.Proofs.YtcocmnheohgndaaGreat.star (Cl b 100 [a.1,v]) (Row Hp.nil 5 (.int .u8) v (bl l))) ⟨a,ha⟩ (Sep.close v (Sep.join h))
theorem Bld.fresh {E:En} {K:Hp} {L:List ab} {w:World} {b:Nat} (h:Sep E K (Cl b 100 [.pointer none,.slice none 0 0] :: L) w):Sep E K (Bld b [] :: L) w :=
 Bld.make (.inl rfl) (Sep.swap (Sep.rowNil h))
set_option maxHeartbeats 400000 in
theorem AX (b:Nat) (v:Value) (w:World) (hbk:w.heap[b]? = some (.cells #[.pointer none,v] 100 (0,0))) :
   Calls Tryz.prog 86 #[.pointer (some ⟨b,0,none⟩)] w fun e w'=>e = .returned (.tuple #[])/\w'=w.setCell ⟨b,0,none⟩ (.pointer (some ⟨b,0,none⟩)):=by
 have c0:w.cell? ⟨b,0,none⟩=some (.pointer none):=by simp [World.cell?,hbk]
 have f0:w.frozen? ⟨b,0,none⟩=false:=Lib.frozen_of_heap hbk 0;have S:w.shape? b=some (100,2):=by simp [World.shape?,hbk]
 clear hbk;obtain ⟨j,hj,hjs⟩:=Y1.1 (show (Tryz.prog.info? 100).map (·.size)=some 2 by kernel_rfl)
 go_enter Tryz.func86,Tryz.ntmps86
 go_wp2
 rw [Lib.run_to_unsafe w ⟨b,0,none⟩ Tryz.underlying97 Tryz.underlying196 hj (by rw [hjs]; decide) S (Nat.zero_lt_succ 1)];simp only [Result.andThen];rw [Oper.upon_value]
 go_wp2
 rw [run_callFunc_extern Tryz.func127 (by kernel_rfl) (by kernel_rfl) (by kernel_rfl) (e:=Extern.AbiNoEscape.same) (by kernel_rfl)];rw [Lib.run_noEscape];simp only [Result.andThen];rw [Oper.upon_value]
 go_wp2
 rw [Lib.run_from_unsafe w ⟨b,0,none⟩ Tryz.underlying196 Tryz.underlying97 hj S (by kernel_rfl)];simp only [Result.andThen];rw [Oper.upon_value]
 go_wp2
 go_end0
 exact ⟨rfl,rfl⟩
theorem AJ (b:Nat) (v:Value) (w:World) (hbk:w.heap[b]? = some (.cells #[.pointer (some ⟨b,0,none⟩),v] 100 (0,0))) :
   Calls Tryz.prog 86 #[.pointer (some ⟨b,0,none⟩)] w fun e w'=>e = .returned (.tuple #[])/\w'=w:=by
 have c0:w.cell? ⟨b,0,none⟩=some (.pointer (some ⟨b,0,none⟩)):=by simp [World.cell?,hbk]
 clear hbk;obtain ⟨j,hj,hjs⟩:=Y1.1 (show (Tryz.prog.info? 100).map (·.size)=some 2 by kernel_rfl)
 go_enter Tryz.func86,Tryz.ntmps86
 go_wp2
 rw [Lib.run_neq_ptr_same w _ Tryz.underlying97 hj]
 go_wp2
 go_end0
 exact ⟨rfl,rfl⟩
theorem A4 {K:Hp} (b:Nat) (a v:Value) (ha:a = .pointer none\/a = .pointer (some ⟨b,0,none⟩)):Tr Tryz.prog 86 #[.pointer (some ⟨b,0,none⟩)] K [Cl b 100 [a,v]] (fun u K' L'=>(.tuple #[]=u/\L'=[Cl b 100 [.pointer (some ⟨b,0,none⟩),v]])/\K=K'):=fun E w F hs=>by
 have hc:=hs.cl
 rcases ha with rfl | rfl
 . refine (AX b v w hc).mono fun e w' ⟨h1,h2⟩=>?_
   subst h1; subst h2;exact ⟨_,K,_,rfl,⟨⟨rfl,rfl⟩,rfl⟩,Hp.le_refl K,Sep.setCell hs 0 _⟩
 . refine (AJ b v w hc).mono fun e w' ⟨h1,h2⟩=>?_
   subst h1; subst h2;exact ⟨_,K,_,rfl,⟨⟨rfl,rfl⟩,rfl⟩,Hp.le_refl K,hs⟩
theorem tZ:Inf Tryz.prog 5 (.int .u8 0) 1 1:=by unfold Inf; kernel_rfl
theorem zE:(Tryz.prog.info? 98).map (·.size)=some 1:=by kernel_rfl
theorem pD:Tryz.prog.cellsOf 98≠0:=by decide +kernel
theorem zy:cx Tryz.prog 98=true:=by kernel_rfl
theorem u9 {K:Hp} {pba:Nat} {a0 v:Value} {l:List Int} (ha:a0 = .pointer none\/a0 = .pointer (some ⟨pba,0,none⟩)):Tr Tryz.prog 86 #[.pointer (some ⟨pba,0,none⟩)] K [Cl pba 100 [a0,v],Row Hp.nil 5 (.int .u8) v l] (fun u K' L'=>(.tuple #[]=u/\L'=[Cl pba 100 [.pointer (some ⟨pba,0,none⟩),v],Row Hp.nil 5 (.int .u8) v l])/\K=K'):=fun E w F hs =>
 (A4 pba a0 v ha E w (Row Hp.nil 5 (.int .u8) v l :: F) hs).mono fun e w' ⟨u,K',L',h1,⟨⟨h2,h3⟩,h4⟩,h5,h6⟩=>by
   subst h3;exact ⟨u,K',_,h1,⟨⟨h2,rfl⟩,h4⟩,h5,h6⟩
set_option maxRecDepth 100000 in
theorem AU {K:Hp} {pba:Nat} {a0:Value} {ad:Option Addr} {cp:Nat} {l z:List Int} {c:Int} (ha:a0 = .pointer none\/a0 = .pointer (some ⟨pba,0,none⟩)) (hz:Go.Proofs.YtcocmnheohgndaaGreat.app l [c]=some z) :
   Tr Tryz.prog 88 #[.pointer (some ⟨pba,0,none⟩),.int .u8 c] K [Cl pba 100 [a0,.slice ad l.length cp],Row Hp.nil 5 (.int .u8) (.slice ad l.length cp) l] (fun v K' L'=>(∃ (ad2:Option Addr) (cp2:Nat),.nilIface=v/\L'=[Cl pba 100 [.pointer (some ⟨pba,0,none⟩),.slice ad2 z.length cp2],Row Hp.nil 5 (.int .u8) (.slice ad2 z.length cp2) z])/\K=K'):=by
 refine Tr.k ?_;refine Tr.of Tryz.func88 rfl Tryz.ntmps88 rfl (fun E F=>?_);refine CJ.seq ?_;refine CJ.region ?_;refine J.val (v := .nilIface) rfl rfl (V.as rfl) ?_;refine J.nil ?_;refine CJ.seq ?_;refine CJ.region ?_;refine J.val rfl rfl (V.mv rfl) ?_;refine J.op rfl (A.call (L1:=[Cl pba 100 [a0,.slice ad l.length cp],Row Hp.nil 5 (.int .u8) (.slice ad l.length cp) l]) Tryz.call86 rfl (u9 ha) rfl rfl) ?_;rintro _ _ _ ⟨v23,_,rfl,⟨⟨rfl,rfl⟩,rfl⟩,_,rfl⟩;refine J.nil ?_;refine CJ.seq ?_;refine CJ.region ?_;refine J.val rfl rfl (V.mv rfl) ?_;refine J.val rfl rfl (V.mv rfl) ?_;refine J.val rfl rfl (V.nck rfl) ?_;refine J.val rfl rfl (V.fad Tryz.underlying100 rfl pD rfl) ?_;refine J.val (v := .slice ad l.length cp) rfl rfl (V.ld rfl (Ld.sc zy (Rd.cl 0 rfl rfl))) ?_;refine J.val (v := .int .u8 c) rfl rfl (V.mv rfl) ?_;refine J.op rfl (A.lit (K0:=Hp.nil) (ty:=(.int .u8)) (xs:=([c]:List Int)) Tryz.underlying98 tZ rfl (by decide) rfl rfl rfl ⟨_,_,rfl,rfl,rfl⟩ rfl (by decide)) ?_;rintro _ _ _ ⟨b27,rfl,rfl,rfl⟩;refine J.front 2 rfl ?_;refine J.front 1 rfl ?_;refine J.front 1 rfl ?_;refine J.op rfl (A.appR (Kr:=Hp.nil) Tryz.underlying98 tZ rfl rfl (by decide) (by decide) rfl rfl (Els.flat rfl) (Els.flat rfl) hz) ?_;rintro _ _ _ ⟨v32,rfl,rfl,rfl⟩;refine J.wit Row.form ?_;rintro ⟨ad33,cp34,rfl,_,_,hn35⟩;refine J.val rfl rfl (V.nck rfl) ?_;refine J.val rfl rfl (V.fad Tryz.underlying100 rfl pD rfl) ?_;refine J.front 1 rfl ?_;refine J.op rfl (A.store1 (v := .slice ad33 z.length cp34) (cs':=[.pointer (some ⟨pba,0,none⟩),.slice ad33 z.length cp34]) zE rfl rfl rfl rfl rfl rfl) ?_;rintro _ _ _ ⟨rfl,rfl,rfl⟩;refine J.nil ?_;refine CJ.seq ?_;refine CJ.region ?_;refine J.val (v := .nilIface) rfl rfl (V.as rfl) ?_;refine J.nil ?_;refine CJ.ret ?_;exact ⟨_,[Cl pba 100 [.pointer (some ⟨pba,0,none⟩),.slice ad33 z.length cp34],Row Hp.nil 5 (.int .u8) (.slice ad33 z.length cp34) z],Res.one rfl rfl,⟨ad33,cp34,rfl,rfl⟩,(Hp.le_refl _),fun w hs=>hs⟩
theorem A5 {K:Hp} {pb:Nat} {l:List UInt8} {c:Int} {r:List UInt8} (h:wrB l c=some r) :
   Tr Tryz.prog 88 #[.pointer (some ⟨pb,0,none⟩),.int .u8 c] K [Bld pb l] (fun v K' L'=>(∃ (l1:List UInt8),l1=r /\ .nilIface=v/\L'=[Bld pb l1])/\K=K'):=by
 refine Tr.exA fun a=>Tr.exA fun v=>Tr.star fun E w F hs=>?_
 obtain ⟨ad,cp,rfl,-⟩:=Sep.fact (Sep.swap hs) Row.form;refine (AU (K:=K) (pba:=pb) a.2 (C4 h) E w F hs).mono fun e w' ⟨u,K',L',h1,⟨⟨ad2,cp2,h2,h3⟩,h4⟩,h5,h6⟩=>?_
 subst h3;exact ⟨u,K',[Bld pb r],h1,⟨⟨r,rfl,h2,rfl⟩,h4⟩,h5,Bld.make (.inr rfl) h6⟩
set_option maxRecDepth 100000 in
theorem AE {K:Hp} {pba:Nat} {a0:Value} {ad:Option Addr} {cp:Nat} {l z:List Int} {s:List UInt8} (ha:a0 = .pointer none\/a0 = .pointer (some ⟨pba,0,none⟩)) (hz:Go.Proofs.YtcocmnheohgndaaGreat.app l (eP s)=some z) :
   Tr Tryz.prog 51 #[.pointer (some ⟨pba,0,none⟩),.string ⟨s.toArray⟩] K [Cl pba 100 [a0,.slice ad l.length cp],Row Hp.nil 5 (.int .u8) (.slice ad l.length cp) l] (fun v K' L'=>(∃ (ad2:Option Addr) (cp2:Nat),.tuple #[.int .i64 ((s.length:Nat):Int),.nilIface]=v/\L'=[Cl pba 100 [.pointer (some ⟨pba,0,none⟩),.slice ad2 z.length cp2],Row Hp.nil 5 (.int .u8) (.slice ad2 z.length cp2) z])/\K=K'):=by
 refine Tr.k ?_;refine Tr.of Tryz.func51 rfl Tryz.ntmps51 rfl (fun E F=>?_);refine CJ.seq ?_;refine CJ.region ?_;refine J.val (v := .int .i64 0) rfl rfl (V.as rfl) ?_;refine J.val (v := .nilIface) rfl rfl (V.as rfl) ?_;refine J.nil ?_;refine CJ.seq ?_;refine CJ.region ?_;refine J.val rfl rfl (V.mv rfl) ?_;refine J.op rfl (A.call (L1:=[Cl pba 100 [a0,.slice ad l.length cp],Row Hp.nil 5 (.int .u8) (.slice ad l.length cp) l]) Tryz.call86 rfl (u9 ha) rfl rfl) ?_;rintro _ _ _ ⟨v23,_,rfl,⟨⟨rfl,rfl⟩,rfl⟩,_,rfl⟩;refine J.nil ?_;refine CJ.seq ?_;refine CJ.region ?_;refine J.val rfl rfl (V.mv rfl) ?_;refine J.val rfl rfl (V.mv rfl) ?_;refine J.val rfl rfl (V.nck rfl) ?_;refine J.val rfl rfl (V.fad Tryz.underlying100 rfl pD rfl) ?_;refine J.val (v := .slice ad l.length cp) rfl rfl (V.ld rfl (Ld.sc zy (Rd.cl 0 rfl rfl))) ?_;refine J.val (v := .string ⟨s.toArray⟩) rfl rfl (V.mv rfl) ?_;refine J.front 1 rfl ?_;refine J.op rfl (A.appS Tryz.underlying98 Tryz.underlying9 tZ rfl rfl hz) ?_;rintro _ _ _ ⟨v32,rfl,rfl,rfl⟩;refine J.wit Row.form ?_;rintro ⟨ad33,cp34,rfl,_,_,hn35⟩;refine J.val rfl rfl (V.nck rfl) ?_;refine J.val rfl rfl (V.fad Tryz.underlying100 rfl pD rfl) ?_;refine J.front 1 rfl ?_;refine J.op rfl (A.store1 (v := .slice ad33 z.length cp34) (cs':=[.pointer (some ⟨pba,0,none⟩),.slice ad33 z.length cp34]) zE rfl rfl rfl rfl rfl rfl) ?_;rintro _ _ _ ⟨rfl,rfl,rfl⟩;refine J.nil ?_;refine CJ.seq ?_;refine CJ.region ?_;refine J.val (v := .string ⟨s.toArray⟩) rfl rfl (V.mv rfl) ?_;refine J.val (v := .int .i64 (((s.length:Nat):Int))) rfl rfl (V.lens Tryz.underlying9 rfl) ?_;refine J.val (v := .int .i64 (((s.length:Nat):Int))) rfl rfl (V.as rfl) ?_;refine J.val (v := .nilIface) rfl rfl (V.as rfl) ?_;refine J.nil ?_;refine CJ.ret ?_;exact ⟨_,[Cl pba 100 [.pointer (some ⟨pba,0,none⟩),.slice ad33 z.length cp34],Row Hp.nil 5 (.int .u8) (.slice ad33 z.length cp34) z],Res.two rfl rfl rfl,⟨ad33,cp34,rfl,rfl⟩,(Hp.le_refl _),fun w hs=>hs⟩
theorem Dj {l s r:List UInt8} (h:wrS l s=some r):app (bl l) (eP s)=some (bl r):=by
 unfold wrS at h;obtain ⟨h1,rfl⟩:=fy h;rw [show eP s=bl s from rfl,aq (by rw [oU,oU]; exact h1),yL]
theorem AK {K:Hp} {pb:Nat} {l s:List UInt8} {r:List UInt8} (h:wrS l s=some r) :
   Tr Tryz.prog 51 #[.pointer (some ⟨pb,0,none⟩),.string ⟨s.toArray⟩] K [Bld pb l] (fun v K' L'=>(∃ (l1:List UInt8),l1=r /\ .tuple #[.int .i64 ((s.length:Nat):Int),.nilIface]=v/\L'=[Bld pb l1])/\K=K'):=by
 refine Tr.exA fun a=>Tr.exA fun v=>Tr.star fun E w F hs=>?_
 obtain ⟨ad,cp,rfl,-⟩:=Sep.fact (Sep.swap hs) Row.form;refine (AE (K:=K) (pba:=pb) a.2 (Dj h) E w F hs).mono fun e w' ⟨u,K',L',h1,⟨⟨ad2,cp2,h2,h3⟩,h4⟩,h5,h6⟩=>?_
 subst h3;exact ⟨u,K',[Bld pb r],h1,⟨⟨r,rfl,h2,rfl⟩,h4⟩,h5,Bld.make (.inr rfl) h6⟩
structure Kp (w w':World) (g:Option Nat):Prop where
 os:w'.os=w.os
 tape:w'.tape=w.tape
 out:w'.output=w.output
 block:∀ n o,w.heap[n]? = some o->g≠some n->w'.heap[n]? = some o
theorem Kp.drew (w:World) (g:Option Nat):Kp w w.drew g:=⟨rfl,rfl,rfl,fun _ _ h _=>h⟩
theorem Kp.alloc {w w':World} {g:Option Nat} (h:Kp w w' g) (o:Obj):Kp w (w'.alloc o) g:=⟨h.os,h.tape,h.out,fun n x hx hn=>by
 have:=h.block n x hx hn;rw [Below.heap_alloc _ _ _ (lt_of_block this)]; exact this⟩
theorem Kp.freeze {w w':World} {g:Nat} (h:Kp w w' (some g)) (m:Nat):Kp w (w'.freeze ⟨g,0,none⟩ m) (some g):=by
 unfold World.freeze;split
 . exact h
 . refine ⟨h.os,h.tape,h.out,fun n x hx hn=>?_⟩;have h1:=h.block n x hx hn;have hne:g≠n:=fun e=>hn (by rw [e])
   show (w'.heap.modify g _)[n]? = some x;rw [br0]; simp [hne,h1]
set_option maxHeartbeats 1000000 in
theorem BL (b:Nat) (p v:Value) (l:List UInt8) (w:World) (hbk:w.heap[b]? = some (.cells #[p,v] 100 (0,0))) (hown:w.ownsRow 0 5 1 v l.length (Lib.byteCells l)) :
   Calls Tryz.prog 58 #[.pointer (some ⟨b,0,none⟩)] w fun e w'=>e = .returned (.string ⟨l.toArray⟩)/\Kp w w' v.ownBlock:=by
 have hlt:=lt_of_block hbk;have hUS0:∀ W q,(Builtin.unsafeString_ #[151,3] 9 #[.pointer q,.int .i64 0]).run Tryz.prog W = .ok (.string .empty) W:=fun W q=>Lib.run_unsafeString_none W _ _ _ q
 rcases hown.2 with ⟨rfl,h0⟩ | ⟨g,cap,cur,rfl,hbg,hg,hnc,hcm,hcs,htake⟩
 . obtain rfl:l=[]:=V0.1 h0;have c1:w.drew.cell? ⟨b,1,none⟩=some (.slice none 0 0):=by
     have:w.drew.heap[b]? = some (.cells #[p,.slice none 0 0] 100 (0,0)):=hbk;rw [Lib.cell_of_heap this]; rfl
   have hSD:(Builtin.unsafeSliceData_ #[98] 151 #[.slice none 0 0]).run Tryz.prog w.drew = .ok (.pointer none) w.drew:=rfl;clear hbk hown h0
   go_enter Tryz.func58,Tryz.ntmps58
   go_wp2
   go_region
   all_goals (go_wp2; go_ret; exact ⟨rfl,Kp.drew w _⟩)
 . by_cases hl0:l=[]
   . subst hl0;by_cases hc0:cap=0
     . subst hc0;have hSD:(Builtin.unsafeSliceData_ #[98] 151 #[.slice (some ⟨g,0,none⟩) 0 0]).run Tryz.prog w.drew = .ok (.pointer (some ⟨w.drew.heap.size,0,none⟩)) (w.drew.alloc (.view ⟨g,0,none⟩ 5)) :=
         Lib.run_unsafeSliceData_zero w.drew _ _ 5 Tryz.underlying151 ⟨g,0,none⟩ 0 (5,cur.size) (by have hg':w.drew.heap[g]? = some (.cells cur 5 (0,0)):=hg; simp [World.shape?,hg'])
       have c1:w.drew.cell? ⟨b,1,none⟩=some (.slice (some ⟨g,0,none⟩) 0 0):=by
         have:w.drew.heap[b]? = some (.cells #[p,.slice (some ⟨g,0,none⟩) 0 0] 100 (0,0)):=hbk;rw [Lib.cell_of_heap this]; rfl
       have c2:(w.drew.alloc (.view ⟨g,0,none⟩ 5)).cell? ⟨b,1,none⟩=some (.slice (some ⟨g,0,none⟩) 0 0):=by
         have:(w.drew.alloc (.view ⟨g,0,none⟩ 5)).heap[b]? = _:=(Lib.alloc_old w.drew _ b hlt).trans hbk;rw [Lib.cell_of_heap this]; rfl
       have c3:(w.alloc (.view ⟨g,0,none⟩ 5)).drew.cell? ⟨b,1,none⟩=some (.slice (some ⟨g,0,none⟩) 0 0):=c2;have c0:w.cell? ⟨b,1,none⟩=some (.slice (some ⟨g,0,none⟩) 0 0):=c1;clear hbk hown htake hcs hg
       go_enter Tryz.func58,Tryz.ntmps58
       go_wp2
       go_region
       all_goals (go_wp2; go_ret; exact ⟨rfl,(Kp.drew w _).alloc _⟩)
     . have c1:w.drew.cell? ⟨b,1,none⟩=some (.slice (some ⟨g,0,none⟩) 0 cap):=by
         have:w.drew.heap[b]? = some (.cells #[p,.slice (some ⟨g,0,none⟩) 0 cap] 100 (0,0)):=hbk;rw [Lib.cell_of_heap this]; rfl
       have hSD:(Builtin.unsafeSliceData_ #[98] 151 #[.slice (some ⟨g,0,none⟩) 0 cap]).run Tryz.prog w.drew = .ok (.pointer (some ⟨g,0,none⟩)) w.drew :=
         Lib.run_unsafeSliceData_row _ _ _ _ _ _ hc0
       clear hbk hown htake hcs hg hc0
       go_enter Tryz.func58,Tryz.ntmps58
       go_wp2
       go_region
       all_goals (go_wp2; go_ret; exact ⟨rfl,Kp.drew w _⟩)
   . have hl1:l.length≠0:=by simpa using hl0
     have c1:w.drew.cell? ⟨b,1,none⟩=some (.slice (some ⟨g,0,none⟩) l.length cap):=by
       have:w.drew.heap[b]? = some (.cells #[p,.slice (some ⟨g,0,none⟩) l.length cap] 100 (0,0)):=hbk;rw [Lib.cell_of_heap this]; rfl
     have hSD:(Builtin.unsafeSliceData_ #[98] 151 #[.slice (some ⟨g,0,none⟩) l.length cap]).run Tryz.prog w.drew = .ok (.pointer (some ⟨g,0,none⟩)) w.drew :=
       Lib.run_unsafeSliceData_row _ _ _ _ _ _ (by omega)
     have hUS:(Builtin.unsafeString_ #[151,3] 9 #[.pointer (some ⟨g,0,none⟩),.int .i64 l.length]).run Tryz.prog w.drew = .ok (.string ⟨l.toArray⟩) (w.drew.freeze ⟨g,0,none⟩ l.length):=by
       refine Lib.run_unsafeString_row w.drew 151 3 9 5 Tryz.underlying151 (by kernel_rfl) g cur.size (by have hg':w.drew.heap[g]? = some (.cells cur 5 (0,0)):=hg; simp [World.shape?,hg']) l hl0 (by omega) (by unfold maxLen at hcm; omega) ?_;intro j x hx;exact hown.cells (g:=g) rfl j (.int .u8 x.toNat) (by simp [Lib.byteCells,hx])
     clear hbk hown htake hcs hg hl0 hl1 hUS0
     go_enter Tryz.func58,Tryz.ntmps58
     go_wp2
     go_region
     all_goals (go_wp2; go_ret; exact ⟨rfl,(Kp.drew w (some g)).freeze _⟩)
theorem Bp {K:Hp} {pb:Nat} {l:List UInt8} {r:List UInt8} (h:some l=some r) :
   Tr Tryz.prog 58 #[.pointer (some ⟨pb,0,none⟩)] K [Bld pb l] (fun v K' L'=>(∃ (s1:List UInt8),s1=r /\ .string ⟨s1.toArray⟩=v/\L'=[])/\K=K'):=by
 obtain rfl:=P4 h;refine Tr.exA fun a=>Tr.exA fun v=>Tr.star fun E w F hs=>?_
 have hbk:=hs.cl;have hsw:=Sep.swap hs;obtain ⟨h0,⟨cs,h1,h2⟩,h3,h4⟩:=hsw;have hown:=h2.owns (w:=w) (fun n o e=>h4.sub n o (Hp.join_right e (h3 n o e)));obtain rfl:=sY h1;rw [oU] at hown;have e:(bl l).map (Value.int .u8)=Lib.byteCells l:=by simp [bl,Lib.byteCells]
 rw [e] at hown;refine (BL pb a.1 v l w hbk hown).mono fun e w' ⟨h5,h6⟩=>?_
 subst h5;refine ⟨_,K,[],rfl,⟨⟨l,rfl,rfl,rfl⟩,rfl⟩,Hp.le_refl K,?_⟩;have hturn:Sep E K (emp :: Cl pb 100 [a.1,v] :: F) w':=by
   refine Sep.turn (Sep.swap hs) (fun he=>⟨h6.os.trans he.1,h6.tape.trans he.2.1,h6.out.trans he.2.2⟩) (fun h hr hle=>⟨Hp.nil,rfl,fun n o e=>(by cases e),fun n o e hn=>h6.block n o e (fun e'=>?_)⟩);obtain ⟨cs',_,hr2⟩:=hr;exact (hr2.block n).1 hn e'
 exact hturn.drop.drop
end
section
variable [BldA]
def rf:Spec:=⟨88,⟨[(0,.ptr 0 0),(1,.dat (.int .u8))],[⟨none,0,[],true,false,none,false⟩]⟩,[⟨[(0,.lit (.raw .nilIface))],[⟨some 0,0,[],true,false,none,false⟩]⟩],fun x=>wrB x.2 x.1⟩
theorem A3 (hb:∀ b l,BldA.bat b l=Bld b l):cE Tryz.prog rf:=by
 intro x r hr vs u hu m K args hgk hm hH hsl E w F hs;have hu':rf.inn.un (TL.list _ x) 0=some ([(0,.ptr 0 0),(1,.int .u8 x.1)],⟨[],1,[.bld 0 x.2],[]⟩):=rfl;rw [hu'] at hu;cases hu;replace hm:m.length=1:=hm;obtain ⟨b,hb0⟩:=hH _ (X1.2 rfl);obtain ⟨v,q,rfl,⟨b',h1,rfl⟩,v2,q2,rfl,h2,rfl⟩:=hsl;rw [hb0] at h1;cases h1;obtain rfl:v2 = .int .u8 x.1:=h2;have hs':Sep E K (HA.conc m (.bld 0 x.2) :: F) w:=hs;simp only [HA.conc,hb0] at hs';have hs2:Sep E K (Bld b x.2 :: F) w:=by have e:=hb b x.2; rw [<- e]; exact hs'
 refine (A5 (K:=K) hr E w F hs2).mono ?_;rintro e w' ⟨v,K',L',rfl,⟨⟨l1,rfl,rfl,rfl⟩,rfl⟩,h1,h2⟩;refine ⟨_,K,_,rfl,⟨[(0,.raw .nilIface)],⟨[],1,[.bld 0 l1],[]⟩,m,rfl,aN0,hm,?_,rfl,rfl⟩,h1,?_⟩
 . intro a ha;obtain rfl:=X1.1 ha;exact ⟨b,hb0⟩
 . show Sep E K (HA.conc m (.bld 0 l1) :: F) w';simp only [HA.conc,hb0];have e:=hb b l1;rw [show BldA.bat b l1=Bld b l1 from e];exact h2
def qX:Spec:=⟨51,⟨[(0,.ptr 0 0),(1,.dat .str)],[⟨none,0,[],true,false,none,false⟩]⟩,[⟨[(0,.tup [.any,.lit (.raw .nilIface)])],[⟨some 0,0,[],true,false,none,false⟩]⟩],fun x=>wrS x.2 x.1⟩
theorem AL (hb:∀ b l,BldA.bat b l=Bld b l):cE Tryz.prog qX:=by
 intro x r hr vs u hu m K args hgk hm hH hsl E w F hs;have hu':qX.inn.un (TL.list _ x) 0=some ([(0,.ptr 0 0),(1,.str x.1)],⟨[],1,[.bld 0 x.2],[]⟩):=rfl;rw [hu'] at hu;cases hu;replace hm:m.length=1:=hm;obtain ⟨b,hb0⟩:=hH _ (X1.2 rfl);obtain ⟨v,q,rfl,⟨b',h1,rfl⟩,v2,q2,rfl,h2,rfl⟩:=hsl;rw [hb0] at h1;cases h1;obtain rfl:v2 = .string ⟨S4 (α:=UInt8) x.1⟩:=h2;have hs':Sep E K (HA.conc m (.bld 0 x.2) :: F) w:=hs;simp only [HA.conc,hb0] at hs';have hs2:Sep E K (Bld b x.2 :: F) w:=by have e:=hb b x.2; rw [<- e]; exact hs'
 refine (AK (K:=K) hr E w F hs2).mono ?_;rintro e w' ⟨v,K',L',rfl,⟨⟨l1,rfl,rfl,rfl⟩,rfl⟩,h1,h2⟩;refine ⟨_,K,_,rfl,⟨[(0,.tup [.any,.raw .nilIface])],⟨[],1,[.bld 0 l1],[]⟩,m,rfl,aN0,hm,?_,⟨_,rfl,_,_,rfl,trivial,_,_,rfl,rfl,rfl⟩,rfl⟩,h1,?_⟩
 . intro a ha;obtain rfl:=X1.1 ha;exact ⟨b,hb0⟩
 . show Sep E K (HA.conc m (.bld 0 l1) :: F) w';simp only [HA.conc,hb0];have e:=hb b l1;rw [show BldA.bat b l1=Bld b l1 from e];exact h2
def rD:Spec:=⟨58,⟨[(0,.ptr 0 0)],[⟨none,0,[],true,false,none,false⟩]⟩,[⟨[(0,.dat .str)],[]⟩],fun x=>some x⟩
theorem BD (hb:∀ b l,BldA.bat b l=Bld b l):cE Tryz.prog rD:=by
 intro x r hr vs u hu m K args hgk hm hH hsl E w F hs;have hu':rD.inn.un (TL.list _ x) 0=some ([(0,.ptr 0 0)],⟨[],1,[.bld 0 x],[]⟩):=rfl;rw [hu'] at hu;cases hu;replace hm:m.length=1:=hm;obtain ⟨b,hb0⟩:=hH _ (X1.2 rfl);obtain ⟨v,q,rfl,⟨b',h1,rfl⟩,rfl⟩:=hsl;rw [hb0] at h1;cases h1;have hs':Sep E K (HA.conc m (.bld 0 x) :: F) w:=hs;simp only [HA.conc,hb0] at hs';have hs2:Sep E K (Bld b x :: F) w:=by have e:=hb b x; rw [<- e]; exact hs'
 refine (Bp (K:=K) hr E w F hs2).mono ?_;rintro e w' ⟨v,K',L',rfl,⟨⟨s1,rfl,rfl,rfl⟩,rfl⟩,h1,h2⟩;exact ⟨_,K,[],rfl,⟨[(0,.str s1)],⟨[],1,[],[]⟩,m,rfl,aN0,hm,fun a h=>(by cases h),rfl,rfl⟩,h1,h2⟩
end
set_option maxRecDepth 100000
set_option maxHeartbeats 4000000
section
open Go.Shelf Go.RowKit Go.Lib Go.Sort
theorem d9 {g:Nat} {t:TypeId}:∀ (vs:List Value) (o:Nat) (w:World) (cur:Array Value),w.heap[g]? = some (.cells cur t (0,0))->o + vs.length<=cur.size ->
   ∃ cur':Array Value,(w.setCells g o vs).heap[g]? = some (.cells cur' t (0,0))/\cur'.toList=cur.toList.take o++vs++cur.toList.drop (o + vs.length)
 | [],o,w,cur,h,hl=>⟨cur,h,by simp⟩
 | v :: vs,o,w,cur,h,hl=>by
   simp only [V1] at hl;have h1:=u5 h o v;obtain ⟨cur',h2,h3⟩:=d9 vs (o + 1) (w.setCell ⟨g,o,none⟩ v) _ h1 (by simp; omega);refine ⟨cur',h2,?_⟩;have ho:o < cur.toList.length:=by simp; omega
   rw [h3,Array.toList_setIfInBounds];have e1:(cur.toList.set o v).take (o + 1)=cur.toList.take o++[v]:=by
     rw [Y3 (by simpa using ho),List.take_set_of_le (S2 o)];simp
   have e2:(cur.toList.set o v).drop (o + 1 + vs.length)=cur.toList.drop (o + (v :: vs).length):=by
     rw [List.drop_set_of_lt (by omega),V1]
     congr 1
     omega
   rw [e1,e2];simp
theorem Fr.setCells {S:List Nat} {a:World} (g:Nat) (hg:g∈S\/a.heap.size<=g):∀ (vs:List Value) (o:Nat) (w:World),Fr S a w->Fr S a (w.setCells g o vs)
 | [],_,_,h=>h
 | v :: vs,o,w,h=>Fr.setCells g hg vs (o + 1) _ (h.setCell _ hg v)
section
variable {E:En} {L:List ab} {K:Hp} {w:World}
theorem Sep.rowAt {S:List Nat} {e:TypeId} {t:Tp} {v:Value} {xs zs:List t.den} {K0 K1:Hp} {w':World} {cs':List Value} {g cap m:Nat} {cur:Array Value} (hs:Sep E K (Row K0 e t v xs :: L) w)
   (f:Fr S w w') (hS:∀ x,x∈S->v.ownBlock=some x) (hb:w'.heap[g]? = some (.cells cur e (0,0))) (hg:v.ownBlock=some g\/w.heap.size<=g) (hm:m=zs.length) (hz:Els K1 t cs' zs) (hl:cs'.length=m * t.size)
   (hc1:m<=cap) (hc2:cap<=maxLen) (hc3:cur.size=cap * t.size) (ht:cur.toList.take (m * t.size)=cs'):Sep E K (Row K1 e t (.slice (some ⟨g,0,none⟩) m cap) zs :: L) w':=by
 subst hm;refine Sep.turn hs (En.of_fr f) (fun h h2 hle=>?_);have hbl:∀ n,h n=none↔v.ownBlock≠some n:=fun n=>by
   obtain ⟨cs,_,h3⟩:=h2;exact h3.block n
 refine ⟨one g (.cells cur e (0,0)),⟨cs',hz,hl,.inr ⟨g,cap,cur,rfl,rfl,hc1,hc2,hc3,ht⟩⟩,fun n o e'=>?_,fun n o e' hn=>?_⟩
 . obtain ⟨rfl,rfl⟩:=cC e';refine ⟨hb,fun hn=>?_⟩
   rcases hg with hg | hg
   . exact absurd hg ((hbl n).1 hn)
   . exact S3 hg
 . rw [f.block n (lt_of_block e') (fun hm=>(hbl n).1 hn (hS n hm))];exact e'
end
theorem kW {w:World} {g:Nat} {t:TypeId} {cur:Array Value} (h:w.heap[g]? = some (.cells cur t (0,0))) (j:Nat):w.cell? ⟨g,j,none⟩=cur[j]?:=by
 simp [World.cell?,h]
theorem kU {w:World} {g:Nat} {t:TypeId} {cur:Array Value} (h:w.heap[g]? = some (.cells cur t (0,0))) (j:Nat):w.frozen? ⟨g,j,none⟩=false:=by
 simp [World.frozen?,h]
theorem vf {w:World} {g:Nat} {t:TypeId} {cur:Array Value} (h:w.heap[g]? = some (.cells cur t (0,0))):w.shape? g=some (t,cur.size):=by
 simp [World.shape?,h]
theorem oV {cur:Array Value} {cs:List Value} {n:Nat} (h:cur.toList.take n=cs):∀ (j:Nat) (v:Value),cs[j]? = some v->cur[j]? = some v:=fun j v hj=>by
 subst h;rw [V4] at hj;split at hj
 . simpa using hj
 . cases hj
theorem Els.takeE {K:Hp} {t:Tp}:∀ {xs:List t.den} {cs:List Value} (k:Nat),Els K t cs xs->Els K t (cs.take (k * t.size)) (xs.take k)
 | [],cs,k,h=>by
   have:cs=[]:=h;subst this;simp only [aZ0];exact h
 | x :: xs,cs,0,h=>by
   simp only [P7,S6];rfl
 | x :: xs,cs,k + 1,h=>by
   obtain ⟨es,r,rfl,h1,h2⟩:=h;have hl:=h1.len;rw [av0,Q4,U5,N7,Z2 (by omega),hl,M8];exact ⟨es,_,rfl,h1,h2.takeE k⟩
theorem Els.dropE {K:Hp} {t:Tp}:∀ {xs:List t.den} {cs:List Value} (k:Nat),Els K t cs xs->Els K t (cs.drop (k * t.size)) (xs.drop k)
 | [],cs,k,h=>by
   have:cs=[]:=h;subst this;simp only [bc0];exact h
 | x :: xs,cs,0,h=>by
   simp only [P7,X2];exact h
 | x :: xs,cs,k + 1,h=>by
   obtain ⟨es,r,rfl,h1,h2⟩:=h;have hl:=h1.len;rw [Y6,Q4,U5,bR0,bi0 (by omega),hl,M8,O4];exact h2.dropE k
theorem xn {z:List Value} {n:Nat} {v:Value} (h:v∈zrow n z):v∈z:=by
 induction n with
 | zero=>cases h
 | succ n ih =>
   rw [zrow,M2] at h;exact h.elim id ih
theorem ni {P:Program} (w:World) (dT sT ty elem:TypeId) (b o dLen dCap:Nat) (a:Addr) (sLen sCap size:Nat) (cs:List Value)
   (hu:P.underlying dT=some (.slice elem)) (hs:(P.info? elem).map (·.size)=some size) (hn:cs.length=aX0 sLen dLen * size)
   (hsrc:∀ j v,cs[j]? = some v->w.cell? (a.add j)=some v) (hc:∀ j,j < cs.length->(w.cell? ⟨b,o + j,none⟩).isSome=true) (hf:∀ j,j < cs.length->w.frozen? ⟨b,o + j,none⟩=false) (h1:∀ v∈cs,v.oneCell'=true) :
   (Builtin.copy_ #[dT,sT] ty #[.slice (some ⟨b,o,none⟩) dLen dCap,.slice (some a) sLen sCap]).run P w = .ok (goInt (aX0 sLen dLen)) (w.setCells b o cs):=by
 have hl:=run_loadCells_list (P:=P) w a cs hsrc;have hst:=run_storeCells_cells (P:=P) b o cs 0 w (by simpa using hc) (by simpa using hf) h1;cases hq:P.info? elem with
 | none=>simp [hq] at hs
 | some i =>
   have hi:i.size=size:=by simpa [hq] using hs
   simp [Builtin.copy_,run_underlying hu,Builtin.lenOf,Builtin.firstCells,sizeOf,typeInfo,hq,hi,<- hn,hl,hst]
def bY {α:Type} (xs:List α) (i j:Int):Option (List α):=if 0<=i/\i < j/\j<=(xs.length:Nat) then some (xs.take i.toNat++xs.drop j.toNat) else none
def eT {α:Type} (xs:List α) (i:Int) (vs:List α):Option (List α):=if 0<=i/\i < (xs.length:Nat)/\vs≠[]/\xs.length + vs.length<=1073741824 then some (xs.take i.toNat++vs++xs.drop i.toNat) else none
theorem yf {cur c1 c2:List Value} {cs zs:List Value} {i j n:Nat} (hn:cs.length=n) (hi:i<=j) (hj:j<=n) (hc:cur.take n=cs) (hsz:n<=cur.length) (h1:c1=cur.take i++cs.drop j++cur.drop (i + (cs.drop j).length))
   (h2:c2=c1.take (i + (n - j))++zs++c1.drop (i + (n - j) + zs.length)):c2.take (i + (n - j))=cs.take i++cs.drop j:=by
 have e1:c1.take (i + (n - j))=cs.take i++cs.drop j:=by
   rw [h1,S8 (by simp; omega),<- hc,T6,U4 (by omega)]
 rw [h2,e1,O0];exact S8 (by simp; omega)
theorem EF {cur c1 c2:List Value} {cs vs:List Value} {i n:Nat} (hn:cs.length=n) (hi:i<=n) (hc:cur.take n=cs) (h1:c1=cur.take (i + vs.length)++cs.drop i++cur.drop (i + vs.length + (cs.drop i).length)) (hsz:n + vs.length<=cur.length)
   (h2:c2=c1.take i++vs++c1.drop (i + vs.length)):c2.take (n + vs.length)=cs.take i++vs++cs.drop i:=by
 have e1:c1.take i=cs.take i:=by
   rw [h1,O0,P8 (by simp; omega),T6,U4 (by omega),<- hc,T6,U4 hi]
 have e2:c1.drop (i + vs.length)=cs.drop i++cur.drop (i + vs.length + (cs.drop i).length):=by
   rw [h1,O0,T9 (by simp; omega)];rw [bj0 (by simp; omega)];rfl
 rw [h2,e1,e2,<- O0];refine S8 ?_;simp;omega

abbrev tDB:Tp := .cons (.int .i64) (.one (.int .i64))
theorem Fe (w:World):(zeroValue 84).run Tryz.prog w = .ok (.agg #[.int .i64 0,.int .i64 0]:Value) w:=by
 first | rfl | kernel_rfl | go_simp
theorem DV (w:World) (ty:TypeId) (b o n c:Nat) (hn:0 < n) (hc:∀ j,j < n * 2->(w.cell? ⟨b,o + j,none⟩).isSome=true) (hf:∀ j,j < n * 2->w.frozen? ⟨b,o + j,none⟩=false) :
   ∃ zs:List Value,zs.length=n * 2/\(Builtin.clear_ #[22] ty #[.slice (some ⟨b,o,none⟩) n c]).run Tryz.prog w = .ok (.tuple #[]) (w.setCells b o zs):=by
 have hlen:(Builtin.zeroCells (.agg #[.int .i64 0,.int .i64 0]:Value).cells n).toList.length=n * 2:=by simp [Builtin.zeroCells,Value.cells,Nat.mul_comm]
 have h1:∀ v∈(Builtin.zeroCells (.agg #[.int .i64 0,.int .i64 0]:Value).cells n).toList,v.oneCell'=true:=by
   intro v hv;rw [kL (by show 0 < 2; omega)] at hv;have:=xn hv;simp [Value.cells] at this
   rcases this with rfl | rfl <;> rfl
 have hst:=run_storeCells_cells (P:=Tryz.prog) b o (Builtin.zeroCells (.agg #[.int .i64 0,.int .i64 0]:Value).cells n).toList 0 w (by rw [hlen]; simpa using hc) (by rw [hlen]; simpa using hf) h1;simp only [Z3] at hst;obtain ⟨m,rfl⟩:∃ m,n=m + 1:=⟨n - 1,by omega⟩
 exact ⟨_,hlen,by simp [Builtin.clear_,run_underlying Tryz.underlying22,Fe,hst,Result.andThen]⟩
theorem B2 (blk cap i j n:Nat) (cs:List Value) (w:World) (hcs:cs.length=n * 2) (hc:∀ t u,cs[t]? = some u->w.cell? ⟨blk,t,none⟩=some u) (hf:∀ t,w.frozen? ⟨blk,t,none⟩=false)
   (h1:∀ u∈cs,u.oneCell'=true) (hcap:n<=cap) (hm:cap<=9223372036854775807) (hlt:i < j) (hj:j<=n) :
   Calls Tryz.prog 35 #[.slice (some ⟨blk,0,none⟩) n cap,.int .i64 i,.int .i64 j] w fun e w'=>e = .returned (.slice (some ⟨blk,0,none⟩) (n - (j - i)) cap) /\
     ∃ zs:List Value,zs.length=(j - i) * 2/\w'=(w.drew.setCells blk (i * 2) (cs.drop (j * 2))).setCells blk ((i + (n - j)) * 2) zs:=by
 have hlen:(cs.drop (j * 2)).length=(n - j) * 2:=by rw [T0,hcs]; omega
 obtain ⟨A,hA,hsrc⟩:∃ A:Addr,(if cap=j then some (⟨blk,0,none⟩:Addr) else some ⟨blk,j * 2,none⟩)=some A/\Hid (∀ t u,(cs.drop (j * 2))[t]? = some u->w.drew.cell? (A.add t)=some u):=by
   by_cases h:cap=j
   . refine ⟨⟨blk,0,none⟩,by simp [h],fun t u hu=>?_⟩;have h0:(cs.drop (j * 2)).length=0:=by rw [hlen]; omega
     rw [V0.1 h0] at hu;simp at hu
   . refine ⟨⟨blk,j * 2,none⟩,by simp [h],fun t u hu=>?_⟩;rw [Addr.add_lit];rw [W4] at hu;exact hc _ _ hu
 have hsm:∀ t,t < n * 2->(w.cell? ⟨blk,t,none⟩).isSome=true:=fun t ht=>by
   rw [hc t _ (R0 (by omega))]; rfl
 have s2:Hid (∀ u∈cs.drop (j * 2),u.oneCell'=true):=fun u hu=>h1 u (V7 hu)
 have s3:Hid (∀ t,t < (cs.drop (j * 2)).length->(w.drew.cell? ⟨blk,0 + i * 2 + t,none⟩).isSome=true/\w.drew.frozen? ⟨blk,0 + i * 2 + t,none⟩=false):=by
   intro t ht;rw [hlen] at ht;exact ⟨hsm _ (by omega),hf _⟩
 obtain ⟨W1,hW1⟩:∃ W1,W1=w.drew.setCells blk (0 + i * 2) (cs.drop (j * 2)):=⟨_,rfl⟩
 have hcs1:∀ t,t < n * 2->(W1.cell? ⟨blk,t,none⟩).isSome=true:=fun t ht=>by
   rw [hW1];exact isSome_setCells blk _ _ _ (fun k hk=>by rw [hlen] at hk; exact hsm _ (by omega)) _ (hsm t ht)
 have hcf1:∀ t,W1.frozen? ⟨blk,t,none⟩=false:=fun t=>by rw [hW1,World.frozen?_setCells]; exact hf t
 obtain ⟨zs,hz,hcl0⟩:∃ zs:List Value,zs.length=(n - (i + (n - j))) * 2/\∀ ty,(Builtin.clear_ #[22] ty #[.slice (some ⟨blk,(i + (n - j)) * 2,none⟩) (n - (i + (n - j))) (cap - (i + (n - j)))]).run Tryz.prog W1 = .ok (.tuple #[]) (W1.setCells blk ((i + (n - j)) * 2) zs):=by
   obtain ⟨zs,hz,h⟩:=DV W1 3 blk ((i + (n - j)) * 2) (n - (i + (n - j))) (cap - (i + (n - j))) (by omega) (fun k hk=>hcs1 _ (by omega)) (fun k hk=>hcf1 _);exact ⟨zs,hz,fun ty=>h⟩
 have hcl:=hcl0;clear hcl0;have X:Aside (zs.length=(n - (i + (n - j))) * 2):=hz;have hW:Hid (W1=w.drew.setCells blk (0 + i * 2) (cs.drop (j * 2))):=hW1;have hl:Hid ((cs.drop (j * 2)).length=(n - j) * 2):=hlen;have hic:i<=cap:=by omega
 have hjc:j<=cap:=by omega
 clear hW1 hcs1 hcf1 hsm hz hcs hc hf h1 hlen;generalize cs.drop (j * 2)=news at *;have mixed:Tryz.prog.follows .mixedOrders=true:=by kernel_rfl
 go_enter Tryz.func35,Tryz.ntmps35
 go_wp2_with fail
 go_region_law_o (refine step_append_room rfl (.tmp 22) (.tmp 25) 22 rfl 84 _ 2 Tryz.underlying22 rfl rfl blk 0 i cap (by simp [Act.eval,Act.put]) A (n - j) (cap - j) news (by simp [Act.eval,Act.put]) hl.out hsrc.out s2.out (by omega) s3.out ?_; rw [<- hW.out])
 go_wp2
 go_ret
 refine ⟨by rw [show n - (j - i)=i + (n - j) by omega]; rfl,zs,?_,?_⟩
 . have:=X.out;rw [this]
   congr 1
   omega
 . have:=hW.out;rw [O2] at this;rw [<- this]

theorem Ei {K:Hp} {v1:Value} {i j:Int} {xs r:List tDB.den} (h:bY xs i j=some r) :
   Tr Tryz.prog 35 #[v1,.int .i64 i,.int .i64 j] K [Row Hp.nil 84 tDB v1 xs] (fun v K' L'=>(∃ (l:List tDB.den) (ad1:Option Addr) (cp1:Nat),l=r/\v = .slice ad1 l.length cp1/\L'=[Row Hp.nil 84 tDB (.slice ad1 l.length cp1) l])/\K=K'):=by
 unfold bY at h;split at h
 case isFalse=>cases h
 rename_i hh;obtain ⟨q1,q2,q3⟩:=hh;cases h;obtain ⟨k,rfl⟩:=Y0 q1;obtain ⟨n,rfl⟩:=Y0 (Int.le_trans q1 (ap0 q2));have hkn:k < n:=by omega
 have hn:n<=xs.length:=by omega
 rw [O1,O1];refine Tr.k (fun E w F hs=>?_);have hs':=hs;obtain ⟨h0,⟨cs,hE,h2⟩,hd,hs2⟩:=hs;have hle:h0.le (Hp.of w):=fun n o e=>hs2.sub n o (Hp.join_right e (hd n o e))
 obtain ⟨h3,h4⟩:=h2;have hsz:tDB.size=2:=rfl
 rcases h4 with ⟨rfl,h6,_⟩ | ⟨g,cap,cur,rfl,rfl,h6,h7,h8,h9⟩
 . obtain rfl:xs=[]:=V0.1 h6;simp at hn;omega
 . have hb:=hle g _ (aZ g _);rw [hsz] at h3 h8 h9;refine (B2 g cap k n xs.length cs w h3 (fun t u hu=>by rw [kW hb]; exact oV h9 t u hu) (fun t=>kU hb t) hE.one' h6 (by unfold maxLen at h7; omega) hkn hn).mono ?_;rintro e w' ⟨rfl,zs,hz,rfl⟩;obtain ⟨c1,d1,d2⟩:=d9 (cs.drop (n * 2)) (k * 2) w.drew cur hb (by simp; omega);have l1:c1.size=cur.size:=by
     have:=congrArg N1 d2;simp at this;omega
   obtain ⟨c2,d3,d4⟩:=d9 zs ((k + (xs.length - n)) * 2) _ c1 d1 (by omega);have l2:c2.size=cur.size:=by
     have:=congrArg N1 d4;simp at this;omega
   have hr:(xs.take k++xs.drop n).length=xs.length - (n - k):=by simp; omega
   have hfr:Fr [g] w ((w.drew.setCells g (k * 2) (cs.drop (n * 2))).setCells g ((k + (xs.length - n)) * 2) zs):=Fr.setCells g (.inl (by simp)) _ _ _ (Fr.setCells g (.inl (by simp)) _ _ _ (Fr.refl [g] w).drew);refine ⟨_,K,_,rfl,⟨xs.take k++xs.drop n,_,cap,rfl,by rw [hr],rfl⟩,Hp.le_refl K,?_⟩;have hel:Els Hp.nil tDB (cs.take (k * 2)++cs.drop (n * 2)) (xs.take k++xs.drop n):=(Els.takeE k hE).app (Els.dropE n hE);refine Sep.rowAt hs' hfr (fun x hx=>by simp at hx; subst hx; rfl) d3 (.inl rfl) rfl hel ?_ (by omega) h7 (by rw [l2,h8,hsz]) ?_
   . rw [hsz]; simp; omega
   . rw [hsz,hr];have:=yf (cur:=cur.toList) (c1:=c1.toList) (c2:=c2.toList) (cs:=cs) (zs:=zs) (i:=k * 2) (j:=n * 2) (n:=xs.length * 2) h3 (by omega) (by omega) h9 (by simp; omega) d2 (by rw [d4]; congr 3 <;> omega);rw [<- this]
     congr 1
     omega

theorem Bi {K:Hp} {e:TypeId} {ad:Option Addr} {n cap:Nat} {l:List tDB.den} {E:En} {w:World} {F:List ab} (hs:Sep E K ([Row Hp.nil e tDB (.slice ad n cap) l]++F) w) :
   n=l.length/\l.length<=cap/\cap<=maxLen/\(l≠[]->∃ g,ad=some ⟨g,0,none⟩)/\∃ cs,Els K tDB cs l/\Sep E K (Rw e 2 (.slice ad l.length cap) l.length cs :: F) w:=by
 have hs:Sep E K (Row Hp.nil e tDB (.slice ad n cap) l :: F) w:=hs;obtain ⟨ad',cap',h1,h2,h3,h4⟩:=hs.fact (fun h k=>Row.form h k);cases h1;obtain ⟨h0,⟨cs,hE,hR⟩,hd,hs2⟩:=hs;exact ⟨rfl,h2,h3,h4,cs,Els.flat rfl hE,h0,hR,hd,hs2⟩
def xT:Spec:=⟨35,⟨[(0,.own 84 tDB),(1,.dat (.int .i64)),(2,.dat (.int .i64))],[]⟩,[⟨[(0,.own 84 tDB)],[]⟩],fun x=>(bY x.1 x.2.1 x.2.2).bind fun y=>some y⟩
theorem EY [BldA]:cE Tryz.prog xT:=by
 intro x r hr vs u hu m K args hgk hm hH hsl E w F hs;have hu':xT.inn.un (TL.list _ x) 0=some ([(0,.own 0),(1,.int .i64 x.2.1),(2,.int .i64 x.2.2)],⟨[],2,[.row 0 1 84 tDB x.1 (N1 (α:=tDB.den) x.1)],[0]⟩):=rfl;rw [hu'] at hu;cases hu;replace hm:m.length=2:=hm;obtain ⟨v1,u1,rfl,⟨e1,_⟩,v2,u2,rfl,rfl,v3,u3,rfl,rfl,rfl⟩:=hsl;obtain ⟨ad,cap,cs,g0,g1,hE,_,g2,g3,g4⟩:=hH (.row 0 1 84 tDB x.1 (N1 (α:=tDB.den) x.1)) (by simp);rw [g0] at e1;cases e1;have hs':Sep E K (HA.conc m (.row 0 1 84 tDB x.1 (N1 (α:=tDB.den) x.1)) :: F) w:=hs;simp only [HA.conc,g0,g1] at hs';have hs2:Sep E K (Row Hp.nil 84 tDB (.slice ad (N1 (α:=tDB.den) x.1) cap) x.1 :: F) w:=hs'.mono (fun h k=>⟨cs,Els.flat rfl hE,k⟩);obtain ⟨y,hr1,hr2⟩:∃ y,bY x.1 x.2.1 x.2.2=some y/\r=y:=by
   have hr:((bY x.1 x.2.1 x.2.2).bind fun y=>some y)=some r:=hr;cases hd:bY x.1 x.2.1 x.2.2 with
   | none=>rw [hd] at hr; cases hr
   | some y=>rw [hd] at hr; exact ⟨y,rfl,(P4 hr).symm⟩
 subst hr2;refine (Ei (K:=K) hr1 E w F hs2).mono ?_;rintro e w' ⟨v,K',L',rfl,⟨⟨l,ad1,cp1,rfl,rfl,rfl⟩,rfl⟩,h1,h2⟩;obtain ⟨_,b2,b3,b4,cs,b5,b6⟩:=Bi h2;have hm0:(m++[M.val (.slice ad1 (N1 (α:=tDB.den) l) cp1),M.cont tDB l cs])[2]? = some (.val (.slice ad1 (N1 (α:=tDB.den) l) cp1)):=by
   rw [W2 (by omega),hm]; rfl
 have hm1:(m++[M.val (.slice ad1 (N1 (α:=tDB.den) l) cp1),M.cont tDB l cs])[3]? = some (.cont tDB l cs):=by
   rw [W2 (by omega),hm]; rfl
 refine ⟨_,K,_,rfl,⟨[(0,.own 2)],⟨[],4,[.row 2 3 84 tDB l (N1 (α:=tDB.den) l)],[2]⟩,m++[M.val (.slice ad1 (N1 (α:=tDB.den) l) cp1),M.cont tDB l cs],rfl,ay0 _ _,by simp [hm],?_,⟨hm0,rfl⟩,rfl⟩,h1,?_⟩
 . intro a ha;simp only [X1] at ha;subst ha;exact ⟨ad1,cp1,cs,hm0,hm1,b5,rfl,b2,b3,b4⟩
 . show Sep E K (HA.conc _ (.row 2 3 84 tDB l (N1 (α:=tDB.den) l)) :: F) w';simp only [HA.conc,hm0,hm1];exact b6

abbrev tDS:Tp := .cons (.int .i64) (.cons (.int .i64) (.cons (.int .i64) (.cons (.int .i64) (.one .bool))))
theorem E5 (w:World):(zeroValue 63).run Tryz.prog w = .ok (.agg #[.int .i64 0,.int .i64 0,.int .i64 0,.int .i64 0,.bool false]:Value) w:=by
 first | rfl | kernel_rfl | go_simp
theorem DU (w:World) (ty:TypeId) (b o n c:Nat) (hn:0 < n) (hc:∀ j,j < n * 5->(w.cell? ⟨b,o + j,none⟩).isSome=true) (hf:∀ j,j < n * 5->w.frozen? ⟨b,o + j,none⟩=false) :
   ∃ zs:List Value,zs.length=n * 5/\(Builtin.clear_ #[56] ty #[.slice (some ⟨b,o,none⟩) n c]).run Tryz.prog w = .ok (.tuple #[]) (w.setCells b o zs):=by
 have hlen:(Builtin.zeroCells (.agg #[.int .i64 0,.int .i64 0,.int .i64 0,.int .i64 0,.bool false]:Value).cells n).toList.length=n * 5:=by simp [Builtin.zeroCells,Value.cells,Nat.mul_comm]
 have h1:∀ v∈(Builtin.zeroCells (.agg #[.int .i64 0,.int .i64 0,.int .i64 0,.int .i64 0,.bool false]:Value).cells n).toList,v.oneCell'=true:=by
   intro v hv;rw [kL (by show 0 < 5; omega)] at hv;have:=xn hv;simp [Value.cells] at this
   rcases this with rfl | rfl <;> rfl
 have hst:=run_storeCells_cells (P:=Tryz.prog) b o (Builtin.zeroCells (.agg #[.int .i64 0,.int .i64 0,.int .i64 0,.int .i64 0,.bool false]:Value).cells n).toList 0 w (by rw [hlen]; simpa using hc) (by rw [hlen]; simpa using hf) h1;simp only [Z3] at hst;obtain ⟨m,rfl⟩:∃ m,n=m + 1:=⟨n - 1,by omega⟩
 exact ⟨_,hlen,by simp [Builtin.clear_,run_underlying Tryz.underlying56,E5,hst,Result.andThen]⟩
theorem Ck (blk cap i j n:Nat) (cs:List Value) (w:World) (hcs:cs.length=n * 5) (hc:∀ t u,cs[t]? = some u->w.cell? ⟨blk,t,none⟩=some u) (hf:∀ t,w.frozen? ⟨blk,t,none⟩=false)
   (h1:∀ u∈cs,u.oneCell'=true) (hcap:n<=cap) (hm:cap<=9223372036854775807) (hlt:i < j) (hj:j<=n) :
   Calls Tryz.prog 72 #[.slice (some ⟨blk,0,none⟩) n cap,.int .i64 i,.int .i64 j] w fun e w'=>e = .returned (.slice (some ⟨blk,0,none⟩) (n - (j - i)) cap) /\
     ∃ zs:List Value,zs.length=(j - i) * 5/\w'=(w.drew.setCells blk (i * 5) (cs.drop (j * 5))).setCells blk ((i + (n - j)) * 5) zs:=by
 have hlen:(cs.drop (j * 5)).length=(n - j) * 5:=by rw [T0,hcs]; omega
 obtain ⟨A,hA,hsrc⟩:∃ A:Addr,(if cap=j then some (⟨blk,0,none⟩:Addr) else some ⟨blk,j * 5,none⟩)=some A/\Hid (∀ t u,(cs.drop (j * 5))[t]? = some u->w.drew.cell? (A.add t)=some u):=by
   by_cases h:cap=j
   . refine ⟨⟨blk,0,none⟩,by simp [h],fun t u hu=>?_⟩;have h0:(cs.drop (j * 5)).length=0:=by rw [hlen]; omega
     rw [V0.1 h0] at hu;simp at hu
   . refine ⟨⟨blk,j * 5,none⟩,by simp [h],fun t u hu=>?_⟩;rw [Addr.add_lit];rw [W4] at hu;exact hc _ _ hu
 have hsm:∀ t,t < n * 5->(w.cell? ⟨blk,t,none⟩).isSome=true:=fun t ht=>by
   rw [hc t _ (R0 (by omega))]; rfl
 have s2:Hid (∀ u∈cs.drop (j * 5),u.oneCell'=true):=fun u hu=>h1 u (V7 hu)
 have s3:Hid (∀ t,t < (cs.drop (j * 5)).length->(w.drew.cell? ⟨blk,0 + i * 5 + t,none⟩).isSome=true/\w.drew.frozen? ⟨blk,0 + i * 5 + t,none⟩=false):=by
   intro t ht;rw [hlen] at ht;exact ⟨hsm _ (by omega),hf _⟩
 obtain ⟨W1,hW1⟩:∃ W1,W1=w.drew.setCells blk (0 + i * 5) (cs.drop (j * 5)):=⟨_,rfl⟩
 have hcs1:∀ t,t < n * 5->(W1.cell? ⟨blk,t,none⟩).isSome=true:=fun t ht=>by
   rw [hW1];exact isSome_setCells blk _ _ _ (fun k hk=>by rw [hlen] at hk; exact hsm _ (by omega)) _ (hsm t ht)
 have hcf1:∀ t,W1.frozen? ⟨blk,t,none⟩=false:=fun t=>by rw [hW1,World.frozen?_setCells]; exact hf t
 obtain ⟨zs,hz,hcl0⟩:∃ zs:List Value,zs.length=(n - (i + (n - j))) * 5/\∀ ty,(Builtin.clear_ #[56] ty #[.slice (some ⟨blk,(i + (n - j)) * 5,none⟩) (n - (i + (n - j))) (cap - (i + (n - j)))]).run Tryz.prog W1 = .ok (.tuple #[]) (W1.setCells blk ((i + (n - j)) * 5) zs):=by
   obtain ⟨zs,hz,h⟩:=DU W1 3 blk ((i + (n - j)) * 5) (n - (i + (n - j))) (cap - (i + (n - j))) (by omega) (fun k hk=>hcs1 _ (by omega)) (fun k hk=>hcf1 _);exact ⟨zs,hz,fun ty=>h⟩
 have hcl:=hcl0;clear hcl0;have X:Aside (zs.length=(n - (i + (n - j))) * 5):=hz;have hW:Hid (W1=w.drew.setCells blk (0 + i * 5) (cs.drop (j * 5))):=hW1;have hl:Hid ((cs.drop (j * 5)).length=(n - j) * 5):=hlen;have hic:i<=cap:=by omega
 have hjc:j<=cap:=by omega
 clear hW1 hcs1 hcf1 hsm hz hcs hc hf h1 hlen;generalize cs.drop (j * 5)=news at *;have mixed:Tryz.prog.follows .mixedOrders=true:=by kernel_rfl
 go_enter Tryz.func72,Tryz.ntmps72
 go_wp2_with fail
 go_region_law_o (refine step_append_room rfl (.tmp 22) (.tmp 25) 56 rfl 63 _ 5 Tryz.underlying56 rfl rfl blk 0 i cap (by simp [Act.eval,Act.put]) A (n - j) (cap - j) news (by simp [Act.eval,Act.put]) hl.out hsrc.out s2.out (by omega) s3.out ?_; rw [<- hW.out])
 go_wp2
 go_ret
 refine ⟨by rw [show n - (j - i)=i + (n - j) by omega]; rfl,zs,?_,?_⟩
 . have:=X.out;rw [this]
   congr 1
   omega
 . have:=hW.out;rw [O2] at this;rw [<- this]

theorem D8 {K:Hp} {v1:Value} {i j:Int} {xs r:List tDS.den} (h:bY xs i j=some r) :
   Tr Tryz.prog 72 #[v1,.int .i64 i,.int .i64 j] K [Row Hp.nil 63 tDS v1 xs] (fun v K' L'=>(∃ (l:List tDS.den) (ad1:Option Addr) (cp1:Nat),l=r/\v = .slice ad1 l.length cp1/\L'=[Row Hp.nil 63 tDS (.slice ad1 l.length cp1) l])/\K=K'):=by
 unfold bY at h;split at h
 case isFalse=>cases h
 rename_i hh;obtain ⟨q1,q2,q3⟩:=hh;cases h;obtain ⟨k,rfl⟩:=Y0 q1;obtain ⟨n,rfl⟩:=Y0 (Int.le_trans q1 (ap0 q2));have hkn:k < n:=by omega
 have hn:n<=xs.length:=by omega
 rw [O1,O1];refine Tr.k (fun E w F hs=>?_);have hs':=hs;obtain ⟨h0,⟨cs,hE,h2⟩,hd,hs2⟩:=hs;have hle:h0.le (Hp.of w):=fun n o e=>hs2.sub n o (Hp.join_right e (hd n o e))
 obtain ⟨h3,h4⟩:=h2;have hsz:tDS.size=5:=rfl
 rcases h4 with ⟨rfl,h6,_⟩ | ⟨g,cap,cur,rfl,rfl,h6,h7,h8,h9⟩
 . obtain rfl:xs=[]:=V0.1 h6;simp at hn;omega
 . have hb:=hle g _ (aZ g _);rw [hsz] at h3 h8 h9;refine (Ck g cap k n xs.length cs w h3 (fun t u hu=>by rw [kW hb]; exact oV h9 t u hu) (fun t=>kU hb t) hE.one' h6 (by unfold maxLen at h7; omega) hkn hn).mono ?_;rintro e w' ⟨rfl,zs,hz,rfl⟩;obtain ⟨c1,d1,d2⟩:=d9 (cs.drop (n * 5)) (k * 5) w.drew cur hb (by simp; omega);have l1:c1.size=cur.size:=by
     have:=congrArg N1 d2;simp at this;omega
   obtain ⟨c2,d3,d4⟩:=d9 zs ((k + (xs.length - n)) * 5) _ c1 d1 (by omega);have l2:c2.size=cur.size:=by
     have:=congrArg N1 d4;simp at this;omega
   have hr:(xs.take k++xs.drop n).length=xs.length - (n - k):=by simp; omega
   have hfr:Fr [g] w ((w.drew.setCells g (k * 5) (cs.drop (n * 5))).setCells g ((k + (xs.length - n)) * 5) zs):=Fr.setCells g (.inl (by simp)) _ _ _ (Fr.setCells g (.inl (by simp)) _ _ _ (Fr.refl [g] w).drew);refine ⟨_,K,_,rfl,⟨xs.take k++xs.drop n,_,cap,rfl,by rw [hr],rfl⟩,Hp.le_refl K,?_⟩;have hel:Els Hp.nil tDS (cs.take (k * 5)++cs.drop (n * 5)) (xs.take k++xs.drop n):=(Els.takeE k hE).app (Els.dropE n hE);refine Sep.rowAt hs' hfr (fun x hx=>by simp at hx; subst hx; rfl) d3 (.inl rfl) rfl hel ?_ (by omega) h7 (by rw [l2,h8,hsz]) ?_
   . rw [hsz]; simp; omega
   . rw [hsz,hr];have:=yf (cur:=cur.toList) (c1:=c1.toList) (c2:=c2.toList) (cs:=cs) (zs:=zs) (i:=k * 5) (j:=n * 5) (n:=xs.length * 5) h3 (by omega) (by omega) h9 (by simp; omega) d2 (by rw [d4]; congr 3 <;> omega);rw [<- this]
     congr 1
     omega

theorem vP {K:Hp} {e:TypeId} {ad:Option Addr} {n cap:Nat} {l:List tDS.den} {E:En} {w:World} {F:List ab} (hs:Sep E K ([Row Hp.nil e tDS (.slice ad n cap) l]++F) w) :
   n=l.length/\l.length<=cap/\cap<=maxLen/\(l≠[]->∃ g,ad=some ⟨g,0,none⟩)/\∃ cs,Els K tDS cs l/\Sep E K (Rw e 5 (.slice ad l.length cap) l.length cs :: F) w:=by
 have hs:Sep E K (Row Hp.nil e tDS (.slice ad n cap) l :: F) w:=hs;obtain ⟨ad',cap',h1,h2,h3,h4⟩:=hs.fact (fun h k=>Row.form h k);cases h1;obtain ⟨h0,⟨cs,hE,hR⟩,hd,hs2⟩:=hs;exact ⟨rfl,h2,h3,h4,cs,Els.flat rfl hE,h0,hR,hd,hs2⟩
def xJ:Spec:=⟨72,⟨[(0,.own 63 tDS),(1,.dat (.int .i64)),(2,.dat (.int .i64))],[]⟩,[⟨[(0,.own 63 tDS)],[]⟩],fun x=>(bY x.1 x.2.1 x.2.2).bind fun y=>some y⟩
theorem DX [BldA]:cE Tryz.prog xJ:=by
 intro x r hr vs u hu m K args hgk hm hH hsl E w F hs;have hu':xJ.inn.un (TL.list _ x) 0=some ([(0,.own 0),(1,.int .i64 x.2.1),(2,.int .i64 x.2.2)],⟨[],2,[.row 0 1 63 tDS x.1 (N1 (α:=tDS.den) x.1)],[0]⟩):=rfl;rw [hu'] at hu;cases hu;replace hm:m.length=2:=hm;obtain ⟨v1,u1,rfl,⟨e1,_⟩,v2,u2,rfl,rfl,v3,u3,rfl,rfl,rfl⟩:=hsl;obtain ⟨ad,cap,cs,g0,g1,hE,_,g2,g3,g4⟩:=hH (.row 0 1 63 tDS x.1 (N1 (α:=tDS.den) x.1)) (by simp);rw [g0] at e1;cases e1;have hs':Sep E K (HA.conc m (.row 0 1 63 tDS x.1 (N1 (α:=tDS.den) x.1)) :: F) w:=hs;simp only [HA.conc,g0,g1] at hs';have hs2:Sep E K (Row Hp.nil 63 tDS (.slice ad (N1 (α:=tDS.den) x.1) cap) x.1 :: F) w:=hs'.mono (fun h k=>⟨cs,Els.flat rfl hE,k⟩);obtain ⟨y,hr1,hr2⟩:∃ y,bY x.1 x.2.1 x.2.2=some y/\r=y:=by
   have hr:((bY x.1 x.2.1 x.2.2).bind fun y=>some y)=some r:=hr;cases hd:bY x.1 x.2.1 x.2.2 with
   | none=>rw [hd] at hr; cases hr
   | some y=>rw [hd] at hr; exact ⟨y,rfl,(P4 hr).symm⟩
 subst hr2;refine (D8 (K:=K) hr1 E w F hs2).mono ?_;rintro e w' ⟨v,K',L',rfl,⟨⟨l,ad1,cp1,rfl,rfl,rfl⟩,rfl⟩,h1,h2⟩;obtain ⟨_,b2,b3,b4,cs,b5,b6⟩:=vP h2;have hm0:(m++[M.val (.slice ad1 (N1 (α:=tDS.den) l) cp1),M.cont tDS l cs])[2]? = some (.val (.slice ad1 (N1 (α:=tDS.den) l) cp1)):=by
   rw [W2 (by omega),hm]; rfl
 have hm1:(m++[M.val (.slice ad1 (N1 (α:=tDS.den) l) cp1),M.cont tDS l cs])[3]? = some (.cont tDS l cs):=by
   rw [W2 (by omega),hm]; rfl
 refine ⟨_,K,_,rfl,⟨[(0,.own 2)],⟨[],4,[.row 2 3 63 tDS l (N1 (α:=tDS.den) l)],[2]⟩,m++[M.val (.slice ad1 (N1 (α:=tDS.den) l) cp1),M.cont tDS l cs],rfl,ay0 _ _,by simp [hm],?_,⟨hm0,rfl⟩,rfl⟩,h1,?_⟩
 . intro a ha;simp only [X1] at ha;subst ha;exact ⟨ad1,cp1,cs,hm0,hm1,b5,rfl,b2,b3,b4⟩
 . show Sep E K (HA.conc _ (.row 2 3 63 tDS l (N1 (α:=tDS.den) l)) :: F) w';simp only [HA.conc,hm0,hm1];exact b6

theorem FI (w:World):(sizeOf 63).run Tryz.prog w = .ok 5 w:=by
 first | rfl | kernel_rfl | go_simp
theorem Bz (b n c i vb m vc:Nat) (cs vs:List Value) (w:World) (hi:i < n) (hm:0 < m) (hroom:n + m<=c) (hc63:c<=9223372036854775807) (hvb:vb≠b)
   (hcl:cs.length=n * 5) (hvl:vs.length=m * 5) (hcs:∀ j v,cs[j]? = some v->w.cell? ⟨b,j,none⟩=some v) (hsp:∀ j,j < (n + m) * 5->(w.cell? ⟨b,j,none⟩).isSome=true) (hfz:∀ j,w.frozen? ⟨b,j,none⟩=false)
   (hvs:∀ j v,vs[j]? = some v->w.cell? ⟨vb,j,none⟩=some v) (h1c:∀ v∈cs,v.oneCell'=true) (h1v:∀ v∈vs,v.oneCell'=true)
   (tA tB:TypeId) (kA kB:Nat) (hsa:w.shape? vb=some (tA,kA)) (hsb:w.shape? b=some (tB,kB)) (hkB:kB≠0) (hfa:w.frozen? ⟨vb,0,none⟩=false) (hfe:w.frozen? ⟨vb,kA,none⟩=false) :
   Calls Tryz.prog 73 #[.slice (some ⟨b,0,none⟩) n c,.int .i64 i,.slice (some ⟨vb,0,none⟩) m vc] w fun e w' =>
     e = .returned (.slice (some ⟨b,0,none⟩) (n + m) c)/\w'=(w.drew.setCells b ((i + m) * 5) (cs.drop (i * 5))).setCells b (i * 5) vs:=by
 have hz1:¬ ((m:Int)=0):=by omega
 have hz2:¬ ((i:Int)=(n:Int)):=by omega
 have hsz:(Tryz.prog.info? 63).map (·.size)=some 5:=rfl;have hov:∀ lb cb,(callFunc 109 #[.slice (some ⟨vb,0,none⟩) m vc,.slice (some ⟨b,(i + m) * 5,none⟩) lb cb]).run Tryz.prog w = .ok (.value (.bool false)) w:=fun lb cb=>by
   rw [run_callFunc_extern Tryz.func109 (by kernel_rfl) (by kernel_rfl) (by kernel_rfl) (e:=Extern.SlicesOverlaps.overlaps #[56,56] #[4]) (by kernel_rfl),
     Lib.run_overlaps_apart w 56 4 63 Tryz.underlying56 5 FI ⟨vb,0,none⟩ ⟨b,(i + m) * 5,none⟩ m vc lb cb hvb tA tB kA kB hsa hsb hkB hfa hfe]
   rfl
 have hdl:(cs.drop (i * 5)).length=(n - i) * 5:=by rw [T0,hcl]; omega
 have hw1:IntKind.i64.wrap ((i:Int) + (m:Int))=(i:Int) + (m:Int):=by rw [IntKind.wrap_i64]; omega
 have hb1:(0:Int)<=(i:Int) + (m:Int):=by omega
 have hin:i<=n:=by omega
 have htn:((i:Int) + (m:Int)).toNat=i + m:=by omega
 have hb2:¬ (c=i + m):=by omega
 have hb3:(i:Int)<=(n:Int) + (m:Int):=by omega
 have hb4:¬ (c=i):=by omega
 have hcp1:∀ ty dc sc,(Builtin.copy_ #[56,56] ty #[.slice (some ⟨b,(i + m) * 5,none⟩) (n + m - (i + m)) dc,.slice (some ⟨b,i * 5,none⟩) (n + m - i) sc]).run Tryz.prog w.drew = .ok (goInt ((n - i:Nat):Int)) (w.drew.setCells b ((i + m) * 5) (cs.drop (i * 5))):=fun ty dc sc=>by
   have hmin:aX0 (n + m - i) (n + m - (i + m))=n - i:=by simp only [aM0]; split <;> omega
   have:=ni (P:=Tryz.prog) w.drew 56 56 ty 63 b ((i + m) * 5) (n + m - (i + m)) dc ⟨b,i * 5,none⟩ (n + m - i) sc 5 (cs.drop (i * 5)) Tryz.underlying56 hsz (by rw [hdl,hmin])
     (fun j v hj=>by rw [Addr.add_lit]; rw [W4] at hj; exact hcs _ v hj)
     (fun j hj=>by rw [hdl] at hj; exact hsp _ (by omega)) (fun j hj=>hfz _) (fun v hv=>h1c v (V7 hv))
   rw [hmin] at this;exact this
 obtain ⟨W1,hW1⟩:∃ W1,W1=w.drew.setCells b ((i + m) * 5) (cs.drop (i * 5)):=⟨_,rfl⟩
 have hsp1:∀ k,k < (n + m) * 5->(W1.cell? ⟨b,k,none⟩).isSome=true:=fun k hk=>by
   rw [hW1];exact isSome_setCells b _ _ _ (fun j hj=>by rw [hdl] at hj; exact hsp _ (by omega)) _ (hsp k hk)
 have hcp2:∀ (W:World),(∀ x,W.cell? x=W1.cell? x)->(∀ x,W.frozen? x=W1.frozen? x)->∀ ty dc,(Builtin.copy_ #[56,56] ty #[.slice (some ⟨b,i * 5,none⟩) (n + m - i) dc,.slice (some ⟨vb,0,none⟩) m vc]).run Tryz.prog W = .ok (goInt m) (W.setCells b (i * 5) vs):=fun W hWc hWf ty dc=>by
   have hmin:aX0 m (n + m - i)=m:=by simp only [aM0]; split <;> omega
   have:=ni (P:=Tryz.prog) W 56 56 ty 63 b (i * 5) (n + m - i) dc ⟨vb,0,none⟩ m vc 5 vs Tryz.underlying56 hsz (by rw [hvl,hmin])
     (fun j v hj=>by
       rw [Addr.add_lit,hWc,hW1,World.cell?_setCells_out b _ _ _ _ (fun h _=>absurd h hvb),O2];exact hvs j v hj)
     (fun j hj=>by rw [hWc]; exact hsp1 _ (by omega)) (fun j hj=>by rw [hWf,hW1,World.frozen?_setCells]; exact hfz _) h1v
   rw [hmin] at this;exact this
 rw [<- hW1] at hcp1;clear hsp1 hcs hsp hfz hvs h1c h1v hcl hvl hdl hsa hsb hfa hfe;have mixed:Tryz.prog.follows .mixedOrders=true:=by kernel_rfl
 go_enter Tryz.func73,Tryz.ntmps73
 go_wp2_with (simp only [hov])
 go_region_law_o (refine step_copy_runI rfl _ _ 56 56 rfl _ _ (by simp [Act.eval,Act.put]) (by simp [Act.eval,Act.put]) (hcp1 _ _ _) ?_)
 go_wp2_with (at_builtin; refine wpList_copy_runI _ rfl _ _ 56 56 rfl _ _ rfl rfl (hcp2 _ (fun _=>rfl) (fun _=>rfl) _ _) ?_)
 go_ret
 first | exact ⟨rfl,rfl⟩ | exact ⟨rfl,by rw [hW1]⟩
theorem Cg (b n c i vb m vc:Nat) (cs vs:List Value) (w:World) (hi:i < n) (hm:0 < m) (hnc:n<=c) (hroom:c < n + m) (hbig:(n + m) * 100<=140737488355328)
   (hcl:cs.length=n * 5) (hvl:vs.length=m * 5) (hcs:∀ j v,cs[j]? = some v->w.cell? ⟨b,j,none⟩=some v)
   (hvs:∀ j v,vs[j]? = some v->w.cell? ⟨vb,j,none⟩=some v) (h1c:∀ v∈cs,v.oneCell'=true) (h1v:∀ v∈vs,v.oneCell'=true) :
   Calls Tryz.prog 73 #[.slice (some ⟨b,0,none⟩) n c,.int .i64 i,.slice (some ⟨vb,0,none⟩) m vc] w fun e w' =>
     ∃ (G:Nat) (ROW:Array Value),e = .returned (.slice (some ⟨w.heap.size,0,none⟩) (n + m) G)/\n + m<=G/\G<=maxLen/\ROW.size=G * 5/\ROW.toList.take (i * 5)=cs.take (i * 5) /\
     w'=(((w.alloc (.cells ROW 63)).drew.setCells w.heap.size (i * 5) vs).drew).setCells w.heap.size ((i + m) * 5) (cs.drop (i * 5)):=by
 obtain ⟨i0,hi0,hz0,hzs,hzb⟩:∃ i0,Tryz.prog.info? 63=some i0/\i0.zero=some (.agg #[.int .i64 0,.int .i64 0,.int .i64 0,.int .i64 0,.bool false]:Value)/\i0.size=5/\i0.bytes=40:=⟨_,rfl,rfl,rfl,rfl⟩
 have hz1:¬ ((m:Int)=0):=by omega
 have hz2:¬ ((i:Int)=(n:Int)):=by omega
 have hz3:(c:Int) < (n:Int) + (m:Int):=by omega
 have hsz:(Tryz.prog.info? 63).map (·.size)=some 5:=rfl;have hbw:b < w.heap.size:=block_lt_of_cell (hcs 0 _ (R0 (by omega)));have hvw:vb < w.heap.size:=block_lt_of_cell (hvs 0 _ (R0 (by omega)));have hkk:(n:Int) + (m:Int) - (i:Int)=((n + m - i:Nat):Int):=by omega
 have hik:i + (n + m - i)=n + m:=by omega
 have hold:(Builtin.firstCells i0.size i (.slice (some ⟨b,0,none⟩) i c)).run Tryz.prog w.drew = .ok (cs.take (i * 5)).toArray w.drew:=by
   rw [hzs];exact run_firstCells_some w.drew 5 i ⟨b,0,none⟩ i c (cs.take (i * 5)) (by rw [Z0]; omega) (fun j v hj=>by
     rw [Addr.add_lit,O2];rw [V4] at hj;split at hj
     . exact hcs j v hj
     . cases hj)
 have hrz:∀ ty,(Builtin.append_ #[56,3] ty #[.slice (some ⟨b,0,none⟩) i c,.int .i64 ((n:Int) + (m:Int) - (i:Int))]).run Tryz.prog w =
     .ok (.slice (some ⟨w.heap.size,0,none⟩) (n + m) (grownCap w (n + m) c 63)) (w.drew.alloc (.cells ((cs.take (i * 5)).toArray++Builtin.zeroCells (.agg #[.int .i64 0,.int .i64 0,.int .i64 0,.int .i64 0,.bool false]:Value).cells (n + m - i)++Builtin.zeroCells (.agg #[.int .i64 0,.int .i64 0,.int .i64 0,.int .i64 0,.bool false]:Value).cells (grownCap w (n + m) c 63 - (n + m))) 63)):=fun ty=>by
   have h:=Lib.run_append_grow_zeros (P:=Tryz.prog) w 56 3 ty 63 i0 _ .i64 .i64 Tryz.underlying56 Tryz.underlying3 hi0 hz0 (some ⟨b,0,none⟩) i c (cs.take (i * 5)) hold (n + m - i) (by omega) (by omega) (by omega) (by omega) (by rw [hzb]; omega) (by rw [hzb,hik]; exact growslice_fits hroom (by omega));rw [hik] at h;rw [hkk];exact h
 obtain ⟨G,hG⟩:∃ G,G=grownCap w (n + m) c 63:=⟨_,rfl⟩
 obtain ⟨ROW,hROW⟩:∃ ROW:Array Value,ROW=(cs.take (i * 5)).toArray++Builtin.zeroCells (.agg #[.int .i64 0,.int .i64 0,.int .i64 0,.int .i64 0,.bool false]:Value).cells (n + m - i)++Builtin.zeroCells (.agg #[.int .i64 0,.int .i64 0,.int .i64 0,.int .i64 0,.bool false]:Value).cells (G - (n + m)):=⟨_,rfl⟩
 rw [<- hG] at hrz;rw [<- hROW] at hrz;have hGn:n + m<=G:=by rw [hG]; exact grownCap_ge w _ _ _
 have hGm:G<=maxLen:=by
   have:=grownCap_le_maxLen w (n + m) c 63 (by unfold maxLen; omega);rw [<- hG] at this;exact this
 have hG63:G<=9223372036854775807:=by unfold maxLen at hGm; omega
 have hRs:ROW.size=G * 5:=by
   rw [hROW];simp [Builtin.zeroCells,Value.cells];omega
 have hRt:ROW.toList.take (i * 5)=cs.take (i * 5):=by
   rw [hROW];simp;rw [P8 (by simp; omega)];rw [Z2 (by simp; omega)]
 obtain ⟨W1,hW1⟩:∃ W1,W1=w.drew.alloc (.cells ROW 63):=⟨_,rfl⟩
 rw [<- hW1] at hrz;have hN:∀ j,j < (n + m) * 5->(W1.cell? ⟨w.heap.size,j,none⟩).isSome=true:=fun j hj=>by
   rw [hW1,World.cell?_alloc_at (w:=w.drew) ROW _ w.heap.size j rfl,T5 (by omega)]; rfl
 have hNf:∀ j,W1.frozen? ⟨w.heap.size,j,none⟩=false:=fun j=>by rw [hW1]; exact World.frozen?_alloc_at (w:=w.drew) ROW _ w.heap.size j rfl
 have hOb:∀ j v,w.cell? ⟨b,j,none⟩=some v->W1.cell? ⟨b,j,none⟩=some v:=fun j v h=>by rw [hW1,World.cell?_alloc_past (w:=w.drew) _ b j hbw]; exact h
 have hOv:∀ j v,w.cell? ⟨vb,j,none⟩=some v->W1.cell? ⟨vb,j,none⟩=some v:=fun j v h=>by rw [hW1,World.cell?_alloc_past (w:=w.drew) _ vb j hvw]; exact h
 have hcpA:∀ (W:World),(∀ x,W.cell? x=W1.cell? x)->(∀ x,W.frozen? x=W1.frozen? x)->∀ ty dc,(Builtin.copy_ #[56,56] ty #[.slice (some ⟨w.heap.size,i * 5,none⟩) (n + m - i) dc,.slice (some ⟨vb,0,none⟩) m vc]).run Tryz.prog W = .ok (goInt m) (W.setCells w.heap.size (i * 5) vs):=fun W hWc hWf ty dc=>by
   have hmin:aX0 m (n + m - i)=m:=by simp only [aM0]; split <;> omega
   have:=ni (P:=Tryz.prog) W 56 56 ty 63 w.heap.size (i * 5) (n + m - i) dc ⟨vb,0,none⟩ m vc 5 vs Tryz.underlying56 hsz (by rw [hvl,hmin])
     (fun j v hj=>by rw [Addr.add_lit,hWc,O2]; exact hOv _ v (hvs j v hj))
     (fun j hj=>by rw [hWc]; exact hN _ (by omega)) (fun j hj=>by rw [hWf]; exact hNf _) h1v
   rw [hmin] at this;exact this
 have hGi:¬ (G=i):=by omega
 have hGim:¬ (G=i + m):=by omega
 have hci:¬ (c=i):=by omega
 have hbN:b≠w.heap.size:=by omega
 have hdl:(cs.drop (i * 5)).length=(n - i) * 5:=by rw [T0,hcl]; omega
 have hcpB:∀ (W:World),(∀ x,W.cell? x=(W1.setCells w.heap.size (i * 5) vs).cell? x)->(∀ x,W.frozen? x=(W1.setCells w.heap.size (i * 5) vs).frozen? x)->∀ ty dc sc,(Builtin.copy_ #[56,56] ty #[.slice (some ⟨w.heap.size,(i + m) * 5,none⟩) (n + m - (i + m)) dc,.slice (some ⟨b,i * 5,none⟩) (n - i) sc]).run Tryz.prog W = .ok (goInt ((n - i:Nat):Int)) (W.setCells w.heap.size ((i + m) * 5) (cs.drop (i * 5))):=fun W hWc hWf ty dc sc=>by
   have hmin:aX0 (n - i) (n + m - (i + m))=n - i:=by simp only [aM0]; split <;> omega
   have:=ni (P:=Tryz.prog) W 56 56 ty 63 w.heap.size ((i + m) * 5) (n + m - (i + m)) dc ⟨b,i * 5,none⟩ (n - i) sc 5 (cs.drop (i * 5)) Tryz.underlying56 hsz (by rw [hdl,hmin])
     (fun j v hj=>by
       rw [Addr.add_lit,hWc,World.cell?_setCells_out _ _ _ _ _ (fun h _=>absurd h hbN)];rw [W4] at hj;exact hOb _ v (hcs _ v hj))
     (fun j hj=>by rw [hdl] at hj; rw [hWc]; exact isSome_setCells _ _ _ _ (fun t ht=>hN _ (by omega)) _ (hN _ (by omega)))
     (fun j hj=>by rw [hWf,World.frozen?_setCells]; exact hNf _) (fun v hv=>h1c v (V7 hv))
   rw [hmin] at this;exact this
 subst hW1;have hE1:∀ x,((w.alloc (.cells ROW 63)).drew).cell? x=(w.drew.alloc (.cells ROW 63)).cell? x:=fun x=>rfl
 have hE2:∀ x,((w.alloc (.cells ROW 63)).drew).frozen? x=(w.drew.alloc (.cells ROW 63)).frozen? x:=fun x=>rfl
 have hF1:∀ x,(((w.alloc (.cells ROW 63)).drew.setCells w.heap.size (i * 5) vs).drew).cell? x=((w.drew.alloc (.cells ROW 63)).setCells w.heap.size (i * 5) vs).cell? x:=fun x=>rfl
 have hF2:∀ x,(((w.alloc (.cells ROW 63)).drew.setCells w.heap.size (i * 5) vs).drew).frozen? x=((w.drew.alloc (.cells ROW 63)).setCells w.heap.size (i * 5) vs).frozen? x:=fun x=>rfl
 have hw1:IntKind.i64.wrap ((i:Int) + (m:Int))=(i:Int) + (m:Int):=by rw [IntKind.wrap_i64]; omega
 have hb1:(0:Int)<=(i:Int) + (m:Int):=by omega
 have hin:i<=n:=by omega
 have htn:((i:Int) + (m:Int)).toNat=i + m:=by omega
 have hb3:(i:Int)<=(n:Int):=by omega
 have XX:Aside (n + m<=G/\G<=maxLen/\ROW.size=G * 5/\ROW.toList.take (i * 5)=cs.take (i * 5)):=⟨hGn,hGm,hRs,hRt⟩;clear hkk hik hold hROW hG hRs hRt hGm hN hNf hOb hOv hcs hvs h1c h1v hcl hvl hdl hi0 hz0 hzs hzb;have mixed:Tryz.prog.follows .mixedOrders=true:=by kernel_rfl
 go_enter Tryz.func73,Tryz.ntmps73
 go_wp2_with (first
   | (at_builtin; refine Lib.wpList_append_run _ rfl _ _ _ _ rfl _ _ rfl rfl _ _ (hrz _) ?_)
   | (at_builtin; refine wpList_copy_runI _ rfl _ _ 56 56 rfl _ _ rfl rfl (hcpA _ hE1 hE2 _ _) ?_)
   | (at_builtin; refine wpList_copy_runI _ rfl _ _ 56 56 rfl _ _ rfl rfl (hcpB _ (fun _=>rfl) (fun _=>rfl) _ _ _) ?_))
 go_region_law_o (refine step_copy_runI rfl _ _ 56 56 rfl (.slice (some ⟨w.heap.size,(i + m) * 5,none⟩) (n + m - (i + m)) (G - (i + m))) (.slice (some ⟨b,i * 5,none⟩) (n - i) (c - i)) (by simp [Act.eval,Act.put]) (by simp [Act.eval,Act.put]) (hcpB _ hF1 hF2 3 (G - (i + m)) (c - i)) ?_)
 go_wp2
 go_ret
 obtain ⟨y1,y2,y3,y4⟩:=XX.out;exact ⟨G,ROW,rfl,y1,y2,y3,y4,rfl⟩

theorem B6 {K:Hp} {E:En} {F:List ab} {w:World} {v1 v2:Value} {xs vs:List tDS.den} (hv:vs≠[]) (hx:xs≠[]) (hs:Sep E K (Row Hp.nil 63 tDS v1 xs :: Row Hp.nil 63 tDS v2 vs :: F) w) :
   ∃ (b c2:Nat) (cur2:Array Value) (ds:List Value) (g c1:Nat) (cur:Array Value) (cs:List Value),v2 = .slice (some ⟨b,0,none⟩) vs.length c2/\w.heap[b]? = some (.cells cur2 63 (0,0))/\Els Hp.nil tDS ds vs/\cur2.toList.take (vs.length * 5)=ds/\vs.length * 5<=cur2.size /\
     v1 = .slice (some ⟨g,0,none⟩) xs.length c1/\w.heap[g]? = some (.cells cur 63 (0,0))/\b≠g/\xs.length<=c1/\c1<=maxLen/\cur.size=c1 * 5/\Els Hp.nil tDS cs xs/\cur.toList.take (xs.length * 5)=cs:=by
 obtain ⟨h1,⟨csA,eA,rA⟩,hd1,h2,⟨csB,eB,rB⟩,hd2,hs2⟩:=hs;have hh2:h2.le (Hp.of w):=fun n o q=>hs2.sub n o (Hp.join_right q (hd2 n o q))
 have hh1:h1.le (Hp.of w):=fun n o q=>hs2.sub n o (by
   have:=Hp.join_right q (hd1 n o q);unfold Hp.join at this ⊢;rw [this]; rfl)
 obtain ⟨_,rB⟩:=rB
 rcases rB with ⟨_,rB,_⟩ | ⟨b,c2,cur2,rfl,rfl,b1,b2,b3,b4⟩
 . exact absurd (V0.1 rB) hv
 . have hb:=hh2 b _ (by simp [one]:one b (.cells cur2 63 (0,0)) b=some (.cells cur2 63 (0,0)));obtain ⟨_,rA⟩:=rA
   rcases rA with ⟨rfl,rA,_⟩ | ⟨g,c1,cur,rfl,rfl,a1,a2,a3,a4⟩
   . exact absurd (V0.1 rA) hx
   . have hg:=hh1 g _ (by simp [one]:one g (.cells cur 63 (0,0)) g=some (.cells cur 63 (0,0)));have hsz:tDS.size=5:=rfl;rw [hsz] at a3 a4 b3 b4;refine ⟨b,c2,cur2,csB,g,c1,cur,csA,rfl,hb,eB,b4,by omega,rfl,hg,fun e'=>?_,a1,a2,a3,eA,a4⟩;subst e';have:=(Hp.join_none (hd2 b (.cells cur2 63 (0,0)) (by simp [one]))).2;simp [one] at this
theorem Eg {K:Hp} {v1 v2:Value} {i:Int} {xs vs r:List tDS.den} (h:eT xs i vs=some r) :
   Tr Tryz.prog 73 #[v1,.int .i64 i,v2] K [Row Hp.nil 63 tDS v1 xs,Row Hp.nil 63 tDS v2 vs] (fun v K' L'=>(∃ (l:List tDS.den) (ad1:Option Addr) (cp1:Nat),l=r/\v = .slice ad1 l.length cp1/\L'=[Row Hp.nil 63 tDS (.slice ad1 l.length cp1) l])/\K=K'):=by
 unfold eT at h;split at h
 case isFalse=>cases h
 rename_i hh;obtain ⟨q1,q2,q3,q4⟩:=hh;cases h;obtain ⟨k,rfl⟩:=Y0 q1;have hk:k < xs.length:=by omega
 rw [O1];refine Tr.k (fun E w F hs=>?_);have hsz:tDS.size=5:=rfl;obtain ⟨b,c2,cur2,ds,g,c1,cur,cs,rfl,hb,eB,b4,b5,rfl,hg,hne,a1,a2,a3,eA,a4⟩:=B6 q3 (by intro e; subst e; simp at hk) hs;have hm:0 < vs.length:=by
   rcases aa0 vs.length with h | h
   . exact absurd (V0.1 h) q3
   . exact h
 have hs1:=hs.swap.drop;have hcl:cs.length=xs.length * 5:=by have:=eA.len; rw [hsz] at this; exact this
 have hdl:ds.length=vs.length * 5:=by have:=eB.len; rw [hsz] at this; exact this
 have hlr:(xs.take k++vs++xs.drop k).length=xs.length + vs.length:=by simp; omega
 have hel:Els Hp.nil tDS (cs.take (k * 5)++ds++cs.drop (k * 5)) (xs.take k++vs++xs.drop k):=((Els.takeE k eA).app eB).app (Els.dropE k eA);have fin:∀ {S:List Nat} {w':World} {g' cap:Nat} {cur':Array Value} (f:Fr S w w') (hS:∀ x,x∈S->(Value.slice (some ⟨g,0,none⟩) xs.length c1).ownBlock=some x) (hb:w'.heap[g']? = some (.cells cur' 63 (0,0))) (hg:(Value.slice (some ⟨g,0,none⟩) xs.length c1).ownBlock=some g'\/w.heap.size<=g')
     (hc1:xs.length + vs.length<=cap) (hc2:cap<=maxLen) (hc3:cur'.size=cap * 5) (ht:cur'.toList.take ((xs.length + vs.length) * 5)=cs.take (k * 5)++ds++cs.drop (k * 5)),
     ∃ v K' L',Ending.returned (.slice (some ⟨g',0,none⟩) (xs.length + vs.length) cap) = .returned v/\(∃ (l:List tDS.den) (ad1:Option Addr) (cp1:Nat),l=xs.take k++vs++xs.drop k/\v = .slice ad1 l.length cp1/\L'=[Row Hp.nil 63 tDS (.slice ad1 l.length cp1) l])/\K.le K'/\Sep E K' (L'++F) w':=by
   intro S w' g' cap cur' f hS hb hg hc1 hc2 hc3 ht;refine ⟨_,K,_,rfl,⟨xs.take k++vs++xs.drop k,_,cap,rfl,by rw [hlr],rfl⟩,Hp.le_refl K,?_⟩;exact Sep.rowAt hs1 f hS hb hg rfl hel (by rw [hsz,hlr]; simp; omega) (by rw [hlr]; exact hc1) hc2 (by rw [hsz]; exact hc3) (by rw [hsz,hlr]; exact ht)
 have hcs:∀ (j:Nat) (u:Value),cs[j]? = some u->w.cell? ⟨g,j,none⟩=some u:=fun j u hj=>by rw [kW hg]; exact oV a4 j u hj
 have hds:∀ (j:Nat) (u:Value),ds[j]? = some u->w.cell? ⟨b,j,none⟩=some u:=fun j u hj=>by rw [kW hb]; exact oV b4 j u hj
 have hsp:∀ j,j < c1 * 5->(w.cell? ⟨g,j,none⟩).isSome=true:=fun j hj=>by
   rw [kW hg,T5 (by omega)]; rfl
 by_cases hroom:xs.length + vs.length<=c1
 . refine (Bz g xs.length c1 k b vs.length c2 cs ds w hk hm hroom (by unfold maxLen at a2; omega) hne hcl hdl hcs (fun j hj=>hsp j (by omega)) (fun j=>kU hg j) hds eA.one' eB.one' _ _ _ _ (vf hb) (vf hg) (by omega) (kU hb _) (kU hb _)).mono ?_;rintro e w' ⟨rfl,rfl⟩;obtain ⟨cu1,d1,d2⟩:=d9 (cs.drop (k * 5)) ((k + vs.length) * 5) w.drew cur hg (by simp; omega);have hz1:cu1.size=c1 * 5:=by
     have:=congrArg N1 d2;simp at this;omega
   obtain ⟨cu2,d3,d4⟩:=d9 ds (k * 5) _ cu1 d1 (by omega);have hz2:cu2.size=c1 * 5:=by
     have:=congrArg N1 d4;simp at this;omega
   have hfr:Fr [g] w ((w.drew.setCells g ((k + vs.length) * 5) (cs.drop (k * 5))).setCells g (k * 5) ds) :=
     Fr.setCells g (.inl (by simp)) _ _ _ (Fr.setCells g (.inl (by simp)) _ _ _ (Fr.refl [g] w).drew)
   refine fin hfr (fun x hx=>by simp at hx; subst hx; rfl) d3 (.inl rfl) hroom a2 hz2 ?_;have:=EF (cur:=cur.toList) (c1:=cu1.toList) (c2:=cu2.toList) (cs:=cs) (vs:=ds) (i:=k * 5) (n:=xs.length * 5) hcl (by omega) a4 (by rw [d2,hdl]; congr 3 <;> omega) (by simp; omega) d4;rw [hdl] at this;rw [<- this]
   congr 1
   omega
 . refine (Cg g xs.length c1 k b vs.length c2 cs ds w hk hm a1 (by omega) (by omega) hcl hdl hcs hds eA.one' eB.one').mono ?_;rintro e w' ⟨G,ROW,rfl,hG1,hG2,hR1,hR2,rfl⟩;obtain ⟨cu1,d1,d2⟩:=d9 ds (k * 5) (w.alloc (.cells ROW 63)).drew ROW (rL w _) (by omega);have hz1:cu1.size=ROW.size:=by
     have:=congrArg N1 d2;simp at this;omega
   obtain ⟨cu2,d3,d4⟩:=d9 (cs.drop (k * 5)) ((k + vs.length) * 5) ((w.alloc (.cells ROW 63)).drew.setCells w.heap.size (k * 5) ds).drew cu1 d1 (by
     simp;omega)
   have hz2:cu2.size=ROW.size:=by
     have:=congrArg N1 d4;simp at this;omega
   have hfr:Fr [] w ((((w.alloc (.cells ROW 63)).drew.setCells w.heap.size (k * 5) ds).drew).setCells w.heap.size ((k + vs.length) * 5) (cs.drop (k * 5))) :=
     Fr.setCells _ (.inr (S2 _)) _ _ _ (Fr.setCells _ (.inr (S2 _)) _ _ _ ((Fr.refl [] w).alloc _).drew).drew
   refine fin hfr (fun x hx=>by cases hx) d3 (.inr (S2 _)) hG1 hG2 (hz2.trans hR1) ?_;rw [d4,d2,hR2];have e2:∀ R:List Value,(cs.take (k * 5)++ds++R).take ((k + vs.length) * 5)=cs.take (k * 5)++ds:=fun R=>S8 (by simp; omega)
   rw [e2];exact S8 (by simp; omega)

def xU:Spec:=⟨73,⟨[(0,.own 63 tDS),(1,.dat (.int .i64)),(2,.own 63 tDS)],[]⟩,[⟨[(0,.own 63 tDS)],[]⟩],fun x=>(eT x.1 x.2.1 x.2.2).bind fun y=>some y⟩
theorem DY [BldA]:cE Tryz.prog xU:=by
 intro x r hr vv u hu m K args hgk hm hH hsl E w F hs;have hu':xU.inn.un (TL.list _ x) 0=some ([(0,.own 0),(1,.int .i64 x.2.1),(2,.own 2)],⟨[],4,[.row 2 3 63 tDS x.2.2 (N1 (α:=tDS.den) x.2.2),.row 0 1 63 tDS x.1 (N1 (α:=tDS.den) x.1)],[0,2]⟩):=rfl;rw [hu'] at hu;cases hu;replace hm:m.length=4:=hm;obtain ⟨v1,u1,rfl,⟨e1,_⟩,v2,u2,rfl,rfl,v3,u3,rfl,⟨e3,_⟩,rfl⟩:=hsl;obtain ⟨ad,cap,cs,g0,g1,hE,_,g2,g3,g4⟩:=hH (.row 0 1 63 tDS x.1 (N1 (α:=tDS.den) x.1)) (by simp);obtain ⟨ad',cap',cs',g0',g1',hE',_,g2',g3',g4'⟩:=hH (.row 2 3 63 tDS x.2.2 (N1 (α:=tDS.den) x.2.2)) (by simp);rw [g0] at e1;cases e1;rw [g0'] at e3;cases e3;have hs':Sep E K (HA.conc m (.row 2 3 63 tDS x.2.2 (N1 (α:=tDS.den) x.2.2)) :: HA.conc m (.row 0 1 63 tDS x.1 (N1 (α:=tDS.den) x.1)) :: F) w:=hs;simp only [HA.conc,g0,g1,g0',g1'] at hs';have hs2:Sep E K (Row Hp.nil 63 tDS (.slice ad (N1 (α:=tDS.den) x.1) cap) x.1 :: Row Hp.nil 63 tDS (.slice ad' (N1 (α:=tDS.den) x.2.2) cap') x.2.2 :: F) w :=
   (((hs'.mono (fun h k=>(⟨cs',Els.flat rfl hE',k⟩:Row Hp.nil 63 tDS (.slice ad' (N1 (α:=tDS.den) x.2.2) cap') x.2.2 h))).swap).mono (fun h k=>⟨cs,Els.flat rfl hE,k⟩))
 obtain ⟨y,hr1,hr2⟩:∃ y,eT x.1 x.2.1 x.2.2=some y/\r=y:=by
   have hr:((eT x.1 x.2.1 x.2.2).bind fun y=>some y)=some r:=hr;cases hd:eT x.1 x.2.1 x.2.2 with
   | none=>rw [hd] at hr; cases hr
   | some y=>rw [hd] at hr; exact ⟨y,rfl,(P4 hr).symm⟩
 subst hr2;refine (Eg (K:=K) hr1 E w F hs2).mono ?_;rintro e w' ⟨v,K',L',rfl,⟨⟨l,ad1,cp1,rfl,rfl,rfl⟩,rfl⟩,h1,h2⟩;obtain ⟨_,b2,b3,b4,cs,b5,b6⟩:=vP h2;have hm0:(m++[M.val (.slice ad1 (N1 (α:=tDS.den) l) cp1),M.cont tDS l cs])[4]? = some (.val (.slice ad1 (N1 (α:=tDS.den) l) cp1)):=by
   rw [W2 (by omega),hm]; rfl
 have hm1:(m++[M.val (.slice ad1 (N1 (α:=tDS.den) l) cp1),M.cont tDS l cs])[5]? = some (.cont tDS l cs):=by
   rw [W2 (by omega),hm]; rfl
 refine ⟨_,K,_,rfl,⟨[(0,.own 4)],⟨[],6,[.row 4 5 63 tDS l (N1 (α:=tDS.den) l)],[4]⟩,m++[M.val (.slice ad1 (N1 (α:=tDS.den) l) cp1),M.cont tDS l cs],rfl,ay0 _ _,by simp [hm],?_,⟨hm0,rfl⟩,rfl⟩,h1,?_⟩
 . intro a ha;simp only [X1] at ha;subst ha;exact ⟨ad1,cp1,cs,hm0,hm1,b5,rfl,b2,b3,b4⟩
 . show Sep E K (HA.conc _ (.row 4 5 63 tDS l (N1 (α:=tDS.den) l)) :: F) w';simp only [HA.conc,hm0,hm1];exact b6
end
end
end Go.Proofs.YtcocmnheohgndaaGreat

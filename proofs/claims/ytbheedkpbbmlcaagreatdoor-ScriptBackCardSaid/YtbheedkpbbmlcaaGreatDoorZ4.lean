/- A part of the proof: what lies ahead of the law. Nothing is claimed here. -/
import Derived.Test.YtbheedkpbbmlcaaGreatDoorZ3
import Derived.RangeFuncRecord
import Derived.Test.YtbheedkpbbmlcaaGreatDoorRows
import Derived.Lib.Builder
import Derived.RegionTactic
import Derived.Shelf.Strings.Builder1
import Derived.Shelf.Strings.Builder2
import Derived.Shelf.Strings.OnBuilder
import Derived.Shelf.Small.Wraps
import Derived.Shelf.Strings.BuilderF
import Derived.Shelf.Strings.BuilderK
import Derived.Shelf.Utf8.RuneCount
import Derived.Shelf.Strings.Builder2Cap
import Derived.Shelf.Strings.Search1
import Derived.Shelf.Strings.Search2
import Derived.Shelf.Strings.Search3
import Derived.Shelf.Strings.Cut
import Derived.Shelf.Strings.Count
import Derived.Shelf.LaysM
import Derived.Shelf.Strings.Shaped
import Derived.Shelf.Strings.Prefix
import Derived.Shelf.Strings.Split
import Derived.Shelf.Strings.SplitShaped
import Derived.Shelf.Unicode.Decode
import Derived.Shelf.Strings.RuneCount
import Derived.Shelf.Strings.Explode
import Derived.Shelf.Unicode.DecodeSlow
import Derived.Shelf.Unicode.DecodeAny
import Derived.Shelf.Strings.BuilderCap
import Derived.Shelf.Slices.Turned
import Derived.Shelf.Slices.Equal
import Derived.Shelf.Slices.Empties2
import Derived.Test.YtbheedkpbbmlcaaGreatDoorProg
import Derived.Shelf.Vars
namespace Go.Proofs.YtbheedkpbbmlcaaGreatDoor
noncomputable section
set_option linter.unusedVariables false
set_option linter.unusedSimpArgs false
set_option linter.unnecessarySimpa false
set_option linter.unusedSectionVars false
open Go.RowKit
section
variable [BldA]
def Hp.del (K:Hp) (D:Nat):Hp:=fun n=>if n=D then none else K n
theorem Hp.cle_del {K:Hp} {D:Nat} {x:Option (List Deferred)} (h:K D=some (.deferred x)):K.cle (K.del D):=fun g o v e=>by
 unfold bE Hp.del at *
 by_cases hg:g=D
 . subst hg; rw [h] at e; cases e
 . rw [if_neg hg]; exact e
section
variable {P:Program} {E:En} {n:Nat} {m:List M} {K:Hp} {fr:Frz} {σ:Zt} {ρ:Sl1} {w:World}
theorem Rel.unmark (hr:Rel E fr σ m K ρ w) {K2:Hp} {w2:World} (hc:K.cle K2) (hk:fr.K.le K2) (h0:fr.k0.le K2) (hs:Sep E K2 (σ.atoms fr m) w2):Rel E fr ⟨σ.base,σ.top,σ.H,σ.Hf,σ.nx,false⟩ m K2 ⟨ρ.f,[]⟩ w2 where
 hm:=hr.hm
 hK:=hk
 nx:=hr.nx
 kq:=fun e=>(by cases e)
 base:=hr.base
 dead:=hr.dead
 old:=hr.old
 top:=fun i sv hi=>SV.monoC (fun _ _ h=>h) hc sv (hr.top i sv hi)
 okH:=fun a ha=>HA.ok_monoC (fun _ _ h=>h) hc (hr.okH a ha)
 okF:=hr.okF
 mks:=MOk.nil hr.mks.1.1 h0
 sep:=hs
theorem rT {fn:Func} {tmps:Array Value} {R:Ending→World→Prop} {L:List ab} {k0:Hp}:∀ (ds:List Deferred) {K:Hp} {w:World},MOk k0 K ds→Sep E K L w →
   (∀ K2 w2,K.cle K2→k0.le K2→Sep E K2 L w2→∃ v,(results fn tmps).run P w2 = .ok v w2∧R (.returned v) w2)→LeavesInM Fence.wide 0 P fn tmps R ds .returning w
 | [],K,w,hm,hs,h=>h K w (Hp.cle_refl K) hm.1.2 hs
 | d :: ds,K,w,hm,hs,h=>by
   obtain ⟨D,rfl,hD,h0⟩:=hm.2.1 d (by simp)
   have hw:w.heap[D]? = some (.deferred (some [])):=hs.sub D _ hD
   have hnd:=List.nodup_cons.1 hm.2.2
   refine ⟨by simp,.inl ⟨D,w.putObj D (.deferred none),rfl,run_takeDeferred hw,?_⟩⟩
   have other:∀ (k:Nat) (o:Obj),k≠D→w.heap[k]? = some o→(w.putObj D (.deferred none)).heap[k]? = some o:=fun k o hne e=>by rw [World.putObj_heap_other hne]; exact e
   have hs1:Sep E (K.del D) L (w.putObj D (.deferred none)):=by
     refine Sep.move (w:=w) (w':=w.putObj D (.deferred none)) (fun e=>e) hs (fun k o e=>?_) (fun k o e e1=>?_)
     . unfold Hp.del at e
       split at e
       . cases e
       . rename_i hne; exact other k o hne (hs.sub k o e)
     . have hne:k≠D:=fun e2=>by rw [e2,hD] at e1; cases e1
       exact ⟨by unfold Hp.del; rw [if_neg hne]; exact e1,other k o hne e⟩
   refine rT ds ⟨⟨hm.1.1,fun k o e=>?_⟩,fun d' hd'=>?_,hnd.2⟩ hs1 (fun K2 w2 c1 c2 c3=>h K2 w2 ((Hp.cle_del hD).trans c1) c2 c3)
   . unfold Hp.del
     rw [if_neg (fun e2=>by rw [e2,h0] at e; cases e)]
     exact hm.1.2 k o e
   . obtain ⟨D',rfl,h1,h2⟩:=hm.2.1 d' (List.mem_cons_of_mem _ hd')
     refine ⟨D',rfl,?_,h2⟩
     unfold Hp.del
     rw [if_neg (fun e=>hnd.1 (by rw [← e]; exact hd'))]
     exact h1
end
section
variable {P:Program} {E:En} {K:Hp} {L:List ab} {w:World}
theorem LpA.at {l:Nat} {r:Loop} (h:Sep E K (LpA l r :: L) w):w.heap[l]? = some (.loop r):=by
 obtain ⟨h1,rfl,hd,hs⟩:=h
 exact hs.sub l _ (Hp.join_right (bv l _) (hd l _ (bv l _)))
theorem LpA.put {l:Nat} {r r':Loop} (h:Sep E K (LpA l r :: L) w):Sep E K (LpA l r' :: L) (w.putObj l (.loop r')):=by
 have hw:=LpA.at h
 have hlt:=(Array.getElem?_eq_some_iff.1 hw).1
 refine Sep.turn h (fun e=>e) (fun h1 hA hle=>?_)
 obtain rfl:=hA
 refine ⟨one l (.loop r'),rfl,fun n o e=>?_,fun n o e e1=>?_⟩
 . obtain ⟨rfl,rfl⟩:=dS e
   exact ⟨World.putObj_heap_same hlt,fun e2=>by rw [bv] at e2; cases e2⟩
 . have hne:n≠l:=fun e2=>by subst e2; rw [bv] at e1; cases e1
   rw [World.putObj_heap_other hne]; exact e
theorem BU {l₀:Nat} {r₀:Loop} (h:w.heap[l₀]? = some (.loop r₀)) (fn:FuncId) (tmps:Array Value) (ps:Array Tmp) (assign body:Code) :
   (Instr.enterLoop fn tmps ps assign body (some l₀)).run P w =
     .ok (w.heap.size,[]) (w.alloc (.loop { state := .ready,pending:=none,fn,tmps,params:=ps,assign,body,defers:=r₀.defers })):=by
 unfold Instr.enterLoop
 simp only [Sem.run_bind,run_getLoop h,run_newObj_alloc,Result.andThen,Sem.run_pure]
theorem Sep.allocO (h:Sep E K L w) (o:Obj):Sep E K ((fun hh=>hh=one w.heap.size o) :: L) (w.alloc o) :=
 Sep.turn h.emp (fun e=>e) (fun h0 ha _=>by
   unfold _root_.Go.Proofs.YtbheedkpbbmlcaaGreatDoor.emp at ha; subst ha
   refine ⟨one w.heap.size o,rfl,fun n x e=>?_,fun n x e _=>?_⟩
   . obtain ⟨rfl,rfl⟩:=dS e
     exact ⟨World.alloc_heap_new w _,fun _=>Array.getElem?_eq_none (Nat.le_refl _)⟩
   . rw [Below.heap_alloc _ _ _ (lt_of_block e)]; exact e)
theorem Sep.known {o:Obj} {b:Nat} (h:Sep E K ((fun hh=>hh=one b o) :: L) w):Sep E (K.join (one b o)) L w∧K b=none:=by
 obtain ⟨h1,rfl,hd,hs⟩:=h
 exact ⟨hs,hd b _ (bv b o)⟩
end
def iD (r:Loop):Loop:={ r with state := .busy,pending:=none }
def ka (E:En) (fr:Frz):Prop:=∀ l,E.rd=some l→∃ r,LpA l r∈fr.F
section
variable {R:Type} {P:Program} {E:En} {n:Nat} {m m':List M} {K K':Hp} {fr:Frz} {σ σ':Zt} {ρ ρ':Sl1} {w w':World}
def Fok (P:Program) (n:Nat) (c:Code) (f:Hn P→Zt→(R:Type)→(Exit→Hn P→Zt→Option R)→Option R):Prop :=
 ∀ (R:Type) (E:En) (fr:Frz),ka E fr→∀ (h:Hn P) (σ:Zt) (k:Exit→Hn P→Zt→Option R) (r:R) (m:List M) (K:Hp) (ρ:Sl1) (w:World) (Q:Exit→Act→World→Prop),f h σ R k=some r→Rel E fr σ m K ρ w →
   (∀ e h' σ' m' K' ρ' w',Rel E fr σ' m' K' ρ' w'→Same σ σ'→k e h' σ'=some r→Q e (act1 n ρ') w')→c.wpIn (aE E.rd) 0 P Q (act1 n ρ) w
def JOk (J:Rn P):Prop:=∀ n c,Fok P n c (fun h σ R k=>J n c R h σ k)
def eX:List Nat→List Value→Sl0→Sl0
 | p :: ps,x :: xs,f=>eX ps xs (upd f p x)
 | _,_,f=>f
theorem EL {ρ:Sl0} {p:Nat} {v:Value}:(frm n ρ).setIfInBounds p v=frm n (upd ρ p v):=by
 have h:=congrArg Act.tmps (Go.Proofs.YtbheedkpbbmlcaaGreatDoor.put_act n ρ p v)
 unfold act Act.put at h
 exact h
theorem wz:∀ (ps:List Nat) (xs:List Value) (ρ:Sl0),(ps.zip xs).foldl (fun t (q:Nat×Value)=>t.setIfInBounds q.1 q.2) (frm n ρ)=frm n (eX ps xs ρ)
 | [],xs,ρ=>rfl
 | p :: ps,[],ρ=>rfl
 | p :: ps,x :: xs,ρ=>by
   show (ps.zip xs).foldl _ ((frm n ρ).setIfInBounds p x)=_
   rw [EL]
   exact wz ps xs (upd ρ p x)
theorem wO:∀ (ps:List Nat) {xs:List SV} {us:List Value} {f:Nat→SV} {ρ:Sl0},SV.relL m K xs us→(∀ i,SV.rel m K (f i) (ρ i))→∀ i,SV.rel m K (pU ps xs f i) (eX ps us ρ i)
 | [],xs,us,f,ρ,h,hf,i=>hf i
 | p :: ps,[],us,f,ρ,h,hf,i=>by
   obtain rfl:=br h
   exact hf i
 | p :: ps,x :: xs,us,f,ρ,h,hf,i=>by
   obtain ⟨u,r,rfl,h1,h2⟩:=aR h
   refine wO ps (us:=r) (ρ:=upd ρ p u) h2 (fun j=>?_) i
   show SV.rel m K (bif Nat.beq j p then x else f j) (bif Nat.beq j p then u else ρ j)
   cases Nat.beq j p with
   | true=>exact h1
   | false=>exact hf j
theorem sa:∀ {xs:List SV} {us:List Value},SV.relL m K xs us→us.length=xs.length
 | [],us,h=>by obtain rfl:=br h; rfl
 | x :: xs,us,h=>by
   obtain ⟨u,r,rfl,h1,h2⟩:=aR h
   simp [sa h2]
theorem CL {J:Rn P} (hJ:JOk J) {c:SV} {xs:List SV} {h:Hn P} {k:Hn P→Zt→Bool→Option R} {r:R} (hh:tN J σ c xs h k=some r) (hr:Rel E fr σ m K ρ w) {us:List Value} {v:Value} (hv:SV.rel m K c v) (hxs:SV.relL m K xs us) {X:Ending→World→Prop}
   (hX:∀ h' σ' m' K' w' b,Rel E fr σ' m' K' ρ w'→Same σ σ'→k h' σ' b=some r→X (.returned (.bool b)) w') :
   ∃ l,v = .func (.yield l) #[] #[]∧∃ fn tmps ao bo,(Instr.yield l us.toArray).run P w = .ok (.round l fn tmps ao bo) w∧RoundIn (aE E.rd) 0 P l fn tmps ao bo w X:=by
 unfold tN at hh
 split at hh
 . rename_i i n0 vs0 ps ao bo
   obtain ⟨l,rr,ρ0,rfl,hm,ht,hp,ha,hb,hvs⟩:=hv
   replace hh:=ap hh; obtain ⟨hlen,hh⟩:=hh
   have hlen:=Nat.eq_of_beq_eq_true hlen
   split at hh
   . rename_i H hq
     obtain ⟨a,ha',hmem,hperm⟩:=cB hq
     obtain rfl:=tL ha'
     have hsub:∀ a∈H,a∈σ.H:=fun a ha=>hperm.symm.subset (List.mem_cons_of_mem _ ha)
     -- the record, ahead
     have hs0:Sep E K (LpA l (LSt.ready.cr rr) :: (H.map (HA.conc m)++σ.fz fr)) w:=by
       have:=Sep.perm ((hperm.map (HA.conc m)).append_right (σ.fz fr)) hr.toSep
       simpa only [List.map_cons,HA.conc,hm,List.cons_append] using this
     have hw:=LpA.at hs0
     have hy:=run_yield (P:=P) (args:=us.toArray) hw (by
       show us.toArray.size=rr.params.size
       rw [hp,List.size_toArray,sa hxs,hlen])
     refine ⟨l,rfl,_,_,_,_,hy,roundIn_of_wpIn trivial ?_⟩
     have htm:(((LSt.ready.cr rr).params.zip us.toArray).foldl (fun tmps (t,a)=>tmps.setIfInBounds t a) (LSt.ready.cr rr).tmps)=frm n0 (eX ps.toList us ρ0):=by
       show ((rr.params.zip us.toArray).foldl _ rr.tmps)=_
       rw [hp,ht,← Array.foldl_toList,Array.toList_zip]
       exact wz ps.toList us ρ0
     rw [htm]
     show rr.assign.wpIn (aE (some l)) 0 P _ (act1 n0 ⟨eX ps.toList us ρ0,[]⟩) w
     rw [ha]
     have hE:∀ (L:List ab) (K:Hp) (w:World),Sep E K L w→Sep { E with rd:=some l } K L w:=fun L K w=>Sep.rd (E:=E) (E':={ E with rd:=some l }) (fun w h=>h)
     have hE':∀ (L:List ab) (K:Hp) (w:World),Sep { E with rd:=some l } K L w→Sep E K L w:=fun L K w=>Sep.rd (E:={ E with rd:=some l }) (E':=E) (fun w h=>h)
     have mid:∀ (A B C:List ab) (x:ab),(A++(B++x :: C)).Perm (x :: (A++(B++C))):=fun A B C x=>by
       rw [← List.append_assoc,← List.append_assoc]; exact List.perm_middle
     have hrel:Rel { E with rd:=some l } ⟨m,K,⟨eX ps.toList us ρ0,[]⟩,fun _=>false,LpA l (LSt.ready.cr rr) :: fr.F,K⟩ ⟨pU ps.toList xs vs0,[],H,σ.Hf,σ.nx,false⟩ m K ⟨eX ps.toList us ρ0,[]⟩ w:=by
       refine ⟨⟨List.prefix_refl m,Hp.le_refl K,hr.nx,fun e=>(by cases e),fun i=>wO ps.toList hxs hvs i,fun i e=>(by cases e),fun i _ => .inr rfl,fun i sv e=>(by cases e),fun a ha=>hr.okH a (hsub a ha),fun a ha=>hr.toPur.all a (List.mem_append_right _ ha),MOk.nil hr.mks.gk (Hp.le_refl K)⟩,?_⟩
       show Sep _ K (H.map (HA.conc m)++(σ.Hf.map (HA.conc m)++(LpA l (LSt.ready.cr rr) :: fr.F))) w
       refine hE _ _ _ (Sep.perm (mid _ _ _ _).symm ?_)
       rw [hr.toPur.fz']
       exact hs0
     refine hJ n0 ao _ { E with rd:=some l } ⟨m,K,⟨eX ps.toList us ρ0,[]⟩,fun _=>false,LpA l (LSt.ready.cr rr) :: fr.F,K⟩ (by intro l2 e; cases e; exact ⟨_,List.mem_cons_self⟩) h _ _ r m K _ w _ hh hrel (fun e h' σ1 m1 K1 ρ1 w1 h1 h2 h3=>?_)
     cases e with
     | normal =>
       have hs1:Sep E K1 (LpA l (LSt.ready.cr rr) :: (σ1.H.map (HA.conc m1)++(σ1.Hf.map (HA.conc m)++fr.F))) w1:=Sep.perm (mid _ _ _ _) (hE' _ _ _ h1.sep)
       have hw1:=LpA.at hs1
       refine ⟨w1.putObj l (.loop (iD rr)),run_beginRound hw1 rfl,?_⟩
       have hs2:=LpA.put (r':=(iD rr)) hs1
       have hrel2:Rel { E with rd:=some l } ⟨m,K,⟨eX ps.toList us ρ0,[]⟩,fun _=>false,LpA l (iD rr) :: fr.F,K⟩ σ1 m1 K1 ρ1 (w1.putObj l (.loop (iD rr))) :=
         ⟨⟨h1.hm,h1.hK,h1.nx,h1.kq,h1.base,h1.dead,h1.old,h1.top,h1.okH,h1.okF,h1.mks⟩,hE _ _ _ (Sep.perm (mid _ _ _ _).symm hs2)⟩
       show (LSt.ready.cr rr).body.wpIn (aE (some l)) 0 P _ (act1 n0 ρ1) _
       rw [show (LSt.ready.cr rr).body=bo from hb]
       refine hJ n0 bo _ { E with rd:=some l } ⟨m,K,⟨eX ps.toList us ρ0,[]⟩,fun _=>false,LpA l (iD rr) :: fr.F,K⟩ (by intro l2 e; cases e; exact ⟨_,List.mem_cons_self⟩) h' σ1 _ r m1 K1 ρ1 _ _ h3 hrel2 (fun e2 h'' σ2 m2 K2 ρ2 w2 g1 g2 g3=>?_)
       have hs3:Sep E K2 (LpA l (iD rr) :: (σ2.H.map (HA.conc m2)++(σ2.Hf.map (HA.conc m)++fr.F))) w2:=Sep.perm (mid _ _ _ _) (hE' _ _ _ g1.sep)
       have hw3:=LpA.at hs3
       have back:∀ (s:LSt) (b:Bool) (jump:Option Code),zP e2=some (b,s)→b=jump.isNone→s.cr rr = { iD rr with state:=if jump.isNone then .ready else .done,pending:=jump } →
           ∃ v w',(Instr.endRound l jump).run P w2 = .ok v w'∧X (.returned v) w':=fun s b jump e1 e2 e3=>by
         subst e2
         rw [e1] at g3
         simp only at g3
         refine ⟨_,_,run_endRound jump hw3,?_⟩
         refine hX h'' ⟨σ.base,σ.top,.lp i s :: σ2.H,σ.Hf,σ2.nx,false⟩ m2 K2 _ _ ?_ ⟨rfl,rfl⟩ g3
         have hm2:m <+: m2:=g1.hm
         have hK2:K.le K2:=g1.hK
         have hm2':∀ (i:Nat) (x:M),m[i]? = some x→m2[i]? = some x:=fun _ _ k=>au hm2 k
         refine ⟨⟨hr.hm.trans hm2,hr.hK.trans hK2,g1.nx,fun e=>(by cases e),hr.base,hr.dead,hr.old,fun i sv hi=>SV.mono hm2' hK2 sv (hr.top i sv hi),fun a ha=>?_,hr.okF,hr.mks.mono hK2⟩,?_⟩
         . rcases List.mem_cons.1 ha with rfl | ha
           . exact ⟨l,rr,hm2' _ _ hm⟩
           . exact g1.okH a ha
         . have:=LpA.put (r':=s.cr rr) hs3
           have hHf:σ2.Hf=σ.Hf:=(h2.trans g2).2
           rw [hHf,hr.toPur.fz'] at this
           show Sep E K2 ((HA.lp i s :: σ2.H).map (HA.conc m2)++(σ.Hf.map (HA.conc fr.m)++fr.F)) _
           simp only [List.map_cons,HA.conc,hm2' _ _ hm,List.cons_append]
           rw [e3] at this ⊢
           exact this
       cases e2 with
       | normal=>exact back .ready true none rfl rfl rfl
       | ret=>exact back .ret false (some .ret) rfl rfl rfl
       | exit id=>exact back (.exit id) false (some (.exit id)) rfl rfl rfl
       | goto t=>cases g3
       | panic ch=>cases g3
       | outgrown=>cases g3
     | exit id=>cases h3
     | goto t=>cases h3
     | ret=>cases h3
     | panic ch=>cases h3
     | outgrown=>cases h3
   . cases hh
 . cases hh
theorem CG {F:Fence} {N:Nat} {o:Oper} {a:Act} {w:World} {X:Act→World→Prop} {Q Q':Exit→Act→World→Prop} (hq:∀ e a w,Q e a w→e ≠ .normal→Q' e a w) (hh:o.wpIn F N P a w X Q):o.wpIn F N P a w X Q':=by
 unfold Oper.wpIn at *
 refine ⟨hh.1,?_⟩
 have hh:=hh.2
 have lo:LetsOut Q→LetsOut Q':=fun ⟨a,w,h⟩=>⟨a,w,hq _ _ _ h nofun⟩
 generalize (o.semAt F.round a.eval).run P w=r at *
 cases r with
 | ok x w' =>
   cases x <;> simp only [Oper.uponIn] at hh ⊢ <;>
     first
       | exact hh
       | exact ⟨hh.1,CallsIn.mono hh.2 (fun e w'' he=>by cases e <;> first | exact he | exact hq _ _ _ he nofun | exact lo he)⟩
       | exact ⟨hh.1,RowsIn.mono hh.2 (fun _ _ he=>he)⟩
       | exact ⟨hh.1,RoundIn.mono hh.2 (fun e w'' he=>by cases e <;> first | exact he | exact hq _ _ _ he nofun | exact lo he)⟩
       | exact hh.elim
 | halt x w'=>cases x <;> simp only [Oper.uponIn] at hh ⊢ <;> first | exact hq _ _ _ hh nofun | exact lo hh | exact hh
theorem rP {r:Option Nat} {ops:Array Oper} {Q:Exit→Act→World→Prop} {rest:List Oper}:∀ {l:List Oper} {a:Act} {w:World},l.all cH=true→ar P ops (fun e a w=>e = .normal∧wpListIn (aE r) 0 P ops Q rest a w) l a w→wpListIn (aE r) 0 P ops Q (l++rest) a w
 | [],a,w,_,h=>h.2
 | o :: l,a,w,hd,h=>by
   simp only [List.all_cons,Bool.and_eq_true] at hd
   unfold ar at h
   rw [List.cons_append]
   unfold wpListIn
   split
   . rename_i hw; rw [if_pos hw] at h
     exact CG (fun e a w h hne=>absurd h.1 hne) (Oper.wpIn_mono (fun a w h=>rP hd.2 h) (oD hd.1 h))
   . rename_i hw; rw [if_neg hw] at h
     exact ⟨fun _ _=>trivial,rP hd.2 h⟩
theorem xz {f:Operand→SV} {g:Operand→Value} (hf:∀ x,SV.rel m K (f x) (g x)):∀ l:List Operand,SV.relL m K (l.map f) (l.map g)
 | []=>rfl
 | x :: l=>⟨_,_,rfl,hf x,xz hf l⟩
theorem Fq {J:Rn P} (hJ:JOk J) {o:Oper} {h:Hn P} {k:Hn P→Zt→Option R} {r:R} {ops:Array Oper} {rest:List Oper} {Q:Exit→Act→World→Prop} (hh:yop J n o h σ k=some r) (hr:Rel E fr σ m K ρ w) (hwt:Region.wanted o (yielded ops (act1 n ρ).tmps)=true)
   (hk:∀ h' σ' m' K' ρ' w',Rel E fr σ' m' K' ρ' w'→Same σ σ'→k h' σ'=some r→wpListIn (aE E.rd) 0 P ops Q rest (act1 n ρ') w'):wpListIn (aE E.rd) 0 P ops Q (o :: rest) (act1 n ρ) w:=by
 unfold yop at hh
 split at hh
 . rename_i d c args ats t pos af gu
   obtain ⟨l,hv,fn,tmps,ao,bo,hy,hround⟩:=CL hJ hh hr (hr.toPur.ev n c) (xz (fun x=>hr.toPur.evr n x) args.toList)
     (X:=fun e w''=>match e with
       | .returned v=>wpListIn (aE E.rd) 0 P ops Q rest ((act1 n ρ).put (some d) v) w''
       | .panicked chain=>Q (.panic chain) (act1 n ρ) w''
       | .outgrown=>LetsOut Q)
     (fun h' σ' m' K' w' b h1 h2 h3=>by
       show wpListIn _ _ _ _ _ _ ((act1 n ρ).put (some d) (.bool b)) _
       rw [cJ]
       exact hk h' _ m' K' _ w' (h1.set (d:=d) (sv := .bool b) (v := .bool b) rfl) h2 h3)
   unfold wpListIn
   rw [if_pos hwt]
   refine ⟨fun _ _=>trivial,?_⟩
   rw [AN rfl,db]
   have hrun:(execOp (Go.Proofs.YtbheedkpbbmlcaaGreatDoor.ev n ρ.f) ⟨some d,.call ⟨.value c,args,ats⟩,t,pos,af,gu⟩).run P w = .ok (.round l fn tmps ao bo) w:=by
     have e:(args.toList.map (Go.Proofs.YtbheedkpbbmlcaaGreatDoor.ev n ρ.f)).toArray=args.map (Go.Proofs.YtbheedkpbbmlcaaGreatDoor.ev n ρ.f):=Array.ext' (by rw [Array.toList_map])
     rw [e] at hy
     have hv':Go.Proofs.YtbheedkpbbmlcaaGreatDoor.ev n ρ.f c = .func (.yield l) #[] #[]:=hv
     simp [execOp,resolve,Deferred.ofValue,hv',invoke,hy]
   rw [hrun,Oper.uponIn_round]
   refine ⟨fun hh=>(by cases (show false=true from hh)),hround.mono (fun e w'' he=>?_)⟩
   cases e <;> exact he
 . cases hh
theorem xV:∀ {vs:List SV} {us:List Value} {j i:Nat} {sv:SV},SV.relL m K vs us→aw (slA j vs) i=some sv→∃ k u,i=j + k∧us[k]? = some u∧SV.rel m K sv u
 | [],us,j,i,sv,h,hl=>by cases hl
 | v :: vs,us,j,i,sv,h,hl=>by
   obtain ⟨u,q,rfl,h1,h2⟩:=aR h
   change (bif Nat.beq j i then some v else aw (slA (j + 1) vs) i)=some sv at hl
   cases hb:Nat.beq j i with
   | true =>
     rw [hb] at hl
     cases hl
     exact ⟨0,u,(Nat.eq_of_beq_eq_true hb).symm,rfl,h1⟩
   | false =>
     rw [hb] at hl
     obtain ⟨k,u',e1,e2,e3⟩:=xV (j:=j + 1) h2 hl
     exact ⟨k + 1,u',by omega,by simpa using e2,e3⟩
theorem Du {fn:Func} {tmps:Array Value} (h:fn.results.isEmpty=true):∃ v,(results fn tmps).run P w = .ok v w:=by
 have h':fn.results = #[]:=by simpa using h
 refine ⟨.tuple #[],?_⟩
 unfold results
 simp [h']
theorem EF {J:Rn P} (hJ:JOk J) {ps:Array Nat} {ao bo:Code} {h0:Hn P} {k:Exit→Hn P→Zt→Option R} {r:R} {Q:Exit→Act→World→Prop} {q:ItFn P} {c:Code} (hc:q.fn.body=some c) {cs:List SV} {us:List Value} (hus:SV.relL m K cs us)
   (hres:q.fn.results.isEmpty=true) (hlen:cs.length + 1≤q.fn.ntmps)
   (hh : J q.fn.ntmps c R h0 ⟨fun _ => .any, slA 0 (.yld σ.nx n σ.get ps ao bo :: cs), .lp σ.nx .ready :: σ.H, σ.Hf, σ.nx + 1, false⟩ (fun e h σ' =>
         bif zr e then (match pick (HA.lpR σ.nx) σ'.H with
           | some (s,H)=>LSt.go s k h ⟨σ.base,σ.top,H,σ.Hf,σ'.nx,false⟩
           | none=>none) else none)=some r)
   (hr:Rel E fr σ m K ρ w) {l:Nat} {mark:List Deferred} {K1:Hp} {w1:World} {fn1:FuncId} {D:Nat}
   (hs1:Sep E K1 (LpA l { state := .ready,pending:=none,fn:=fn1,tmps:=frm n ρ.f,params:=ps,assign:=ao,body:=bo,defers:=D } :: σ.atoms fr m) w1) (hK1:K.le K1) (hm1:MOk fr.k0 K1 (mark++ρ.ds))
   (hQ:∀ e h' σ' m' K' ρ' w',Rel E fr σ' m' K' ρ' w'→Same σ σ'→k e h' σ'=some r→Q e (act1 n ρ') w') :
   CallsIn (aE E.rd) 0 P q.f (#[.func (.yield l) #[] #[]]++us.toArray) w1 (rangePost (aE E.rd) 0 P l Q { act1 n ρ with defers:=mark++(act1 n ρ).defers }):=by
 obtain ⟨r1,hr1⟩:∃ r1:Loop,r1 = { state := .ready,pending:=none,fn:=fn1,tmps:=frm n ρ.f,params:=ps,assign:=ao,body:=bo,defers:=D }:=⟨_,rfl⟩
 rw [← hr1] at hs1
 obtain ⟨args,hargs⟩:∃ args:Array Value,args=(Value.func (.yield l) #[] #[] :: us).toArray:=⟨_,rfl⟩
 have hargs':(#[.func (.yield l) #[] #[]]++us.toArray:Array Value)=args:=by rw [hargs]; exact Array.ext' (by simp)
 rw [hargs']
 have hp:=aA m [M.loop l r1]
 have hmm:∀ (i:Nat) (x:M),m[i]? = some x→(m++[M.loop l r1])[i]? = some x:=fun _ _ k=>au hp k
 have hgn:(m++[M.loop l r1])[σ.nx]? = some (.loop l r1):=aZ hr.nx
 have hsz:args.size≤q.fn.ntmps:=by
   rw [hargs,List.size_toArray,List.length_cons,sa hus]
   exact hlen
 have hall:SV.relL (m++[M.loop l r1]) K1 (.yld σ.nx n σ.get ps ao bo :: cs) (Value.func (.yield l) #[] #[] :: us) :=
   ⟨_,_,rfl,⟨l,r1,ρ.f,rfl,hgn,by rw [hr1],by rw [hr1],by rw [hr1],by rw [hr1],fun j=>SV.mono hmm hK1 _ (hr.toPur.get j)⟩,SV.monoL hmm hK1 _ hus⟩
 have hrel:Rel E.out0 ⟨m++[M.loop l r1],K1,fQ args,fun _=>false,fr.F,K1⟩ ⟨fun _ => .any,slA 0 (.yld σ.nx n σ.get ps ao bo :: cs),.lp σ.nx .ready :: σ.H,σ.Hf,σ.nx + 1,false⟩ (m++[M.loop l r1]) K1 (fQ args) w1:=by
   refine ⟨⟨List.prefix_refl _,Hp.le_refl K1,by simp [hr.nx],fun e=>(by cases e),fun i=>trivial,fun i e=>(by cases e),fun i _ => .inr rfl,fun i sv hi=>?_,fun a ha=>?_,fun a ha=>HA.ok_mono hmm hK1 (hr.toPur.all a (List.mem_append_right _ ha)),MOk.nil hm1.gk (Hp.le_refl K1)⟩,?_⟩
   . obtain ⟨j,u,e1,e2,e3⟩:=xV hall hi
     have:fQ args i=u:=by
       show gH args i=u
       unfold gH
       rw [e1,Nat.zero_add,hargs]
       simp [e2]
     rw [this]; exact e3
   . rcases List.mem_cons.1 ha with rfl | ha
     . exact ⟨l,r1,hgn⟩
     . exact HA.ok_mono hmm hK1 (hr.okH a ha)
   . show Sep E.out0 K1 ((HA.lp σ.nx .ready :: σ.H).map (HA.conc (m++[M.loop l r1]))++(σ.Hf.map (HA.conc (m++[M.loop l r1]))++fr.F)) w1
     have e1:σ.H.map (HA.conc (m++[M.loop l r1]))=σ.H.map (HA.conc m):=eI (K:=K) hmm hr.okH
     have e2:σ.Hf.map (HA.conc (m++[M.loop l r1]))=σ.Hf.map (HA.conc fr.m):=(eI (K:=K) hmm (fun a ha=>hr.toPur.all a (List.mem_append_right _ ha))).trans hr.toPur.fz'
     rw [List.map_cons,e1,e2]
     have e3:HA.conc (m++[M.loop l r1]) (.lp σ.nx .ready)=LpA l r1:=by
       simp only [HA.conc,hgn]
       rw [hr1]; rfl
     rw [e3]
     exact hs1.out0
 have key:CallsIn Fence.wide 0 P q.f args w1 (rangePost (aE E.rd) 0 P l Q { act1 n ρ with defers:=mark++(act1 n ρ).defers }):=by
   refine callsIn_of_wp_marks (F:=Fence.wide) (n:=0) q.at_ hc trivial ?_
   rw [sC hsz]
   refine hJ q.fn.ntmps c R E.out0 ⟨m++[M.loop l r1],K1,fQ args,fun _=>false,fr.F,K1⟩ (fun l2 e=>by cases e) h0 _ _ r _ K1 (fQ args) w1 _ hh hrel (fun e h' σ' m' K' ρ' w' h1 h2 h3=>?_)
   replace h3:=ap h3; obtain ⟨hov,h3⟩:=h3
   have fini:LeavesInM Fence.wide 0 P q.fn (act1 q.fn.ntmps ρ').tmps (rangePost (aE E.rd) 0 P l Q { act1 n ρ with defers:=mark++(act1 n ρ).defers }) ρ'.ds .returning w':=by
     split at h3
     . rename_i s H hq
       obtain ⟨a,ha',hmem,hperm⟩:=cB hq
       obtain rfl:=tL ha'
       have hsub:∀ a∈H,a∈σ'.H:=fun a ha=>hperm.symm.subset (List.mem_cons_of_mem _ ha)
       refine rT ρ'.ds h1.mks h1.toSep (fun K2 w2 c1 c2 c3=>?_)
       obtain ⟨v,hv⟩:=Du (P:=P) (w:=w2) (tmps:=(act1 q.fn.ntmps ρ').tmps) hres
       refine ⟨v,hv,?_⟩
       have g:=h1.unmark c1 c2 c2 c3
       have hmp:m++[M.loop l r1] <+: m':=g.hm
       have hgn':m'[σ.nx]? = some (.loop l r1):=au hmp hgn
       have hm2:m <+: m':=hp.trans hmp
       have hm2':∀ (i:Nat) (x:M),m[i]? = some x→m'[i]? = some x:=fun _ _ k=>au hm2 k
       have e2:σ'.Hf.map (HA.conc (m++[M.loop l r1]))=σ.Hf.map (HA.conc fr.m):=by
         rw [h2.2]
         exact (eI (K:=K) hmm (fun a ha=>hr.toPur.all a (List.mem_append_right _ ha))).trans hr.toPur.fz'
       have hs3:Sep E K2 (LpA l (s.cr r1) :: (H.map (HA.conc m')++(σ.Hf.map (HA.conc fr.m)++fr.F))) w2:=by
         have:=Sep.perm ((hperm.map (HA.conc m')).append_right (σ'.Hf.map (HA.conc (m++[M.loop l r1]))++fr.F)) c3.back
         rw [e2] at this
         simpa only [List.map_cons,HA.conc,hgn',List.cons_append] using this
       have hnb:(s.cr r1).state ≠ .busy:=by cases s <;> simp [LSt.cr]
       refine ⟨_,_,run_endLoop (LpA.at hs3) hnb,?_⟩
       have hs4:=(LpA.put (r':={ s.cr r1 with state := .exhausted }) hs3).drop
       have hKK:K.le K2:=hK1.trans c2
       have hrel4:Rel E fr ⟨σ.base,σ.top,H,σ.Hf,σ'.nx,false⟩ m' K2 ⟨ρ.f,mark++ρ.ds⟩ (w2.putObj l (.loop { s.cr r1 with state := .exhausted })) :=
         ⟨⟨hr.hm.trans hm2,hr.hK.trans hKK,g.nx,fun e=>(by cases e),hr.base,hr.dead,hr.old,fun i sv hi=>SV.mono hm2' hKK sv (hr.top i sv hi),fun a ha=>g.okH a (hsub a ha),hr.okF,hm1.mono c2⟩,hs4⟩
       cases s with
       | ready=>exact hQ .normal h' _ m' K2 ⟨ρ.f,mark++ρ.ds⟩ _ hrel4 ⟨rfl,rfl⟩ h3
       | ret=>exact wpIn_ret (hQ .ret h' _ m' K2 ⟨ρ.f,mark++ρ.ds⟩ _ hrel4 ⟨rfl,rfl⟩ h3)
       | exit id=>exact wpIn_exit (hQ (.exit id) h' _ m' K2 ⟨ρ.f,mark++ρ.ds⟩ _ hrel4 ⟨rfl,rfl⟩ h3)
     . cases h3
   cases e with
   | normal=>exact fini
   | ret=>exact fini
   | exit id=>cases hov
   | goto t=>cases hov
   | panic ch=>cases hov
   | outgrown=>cases hov
 exact key
theorem Df {J:Rn P} (hJ:JOk J) (hrd:ka E fr) {g:Operand} {ps:Array Nat} {ao bo:Code} {h:Hn P} {k:Exit→Hn P→Zt→Option R} {r:R} {Q:Exit→Act→World→Prop} (hh:qt J n g ps ao bo h σ k=some r) (hr:Rel E fr σ m K ρ w)
   (hQ:∀ e h' σ' m' K' ρ' w',Rel E fr σ' m' K' ρ' w'→Same σ σ'→k e h' σ'=some r→Q e (act1 n ρ') w'):(Code.rangeFunc g ps ao bo).wpIn (aE E.rd) 0 P Q (act1 n ρ) w:=by
 unfold qt at hh
 split at hh
 . rename_i q h0
   split at hh
   . rename_i f cs e
     split at hh
     . rename_i c hc
       replace hh:=ap hh; obtain ⟨hb,hh⟩:=hh
       simp only [Bool.and_eq_true] at hb
       obtain ⟨hb1,hb2,hb3⟩:=hb
       obtain rfl:=Nat.eq_of_beq_eq_true hb1
       have hv:=hr.toPur.ev n g
       rw [e] at hv
       obtain ⟨us,hv,hus⟩:=hv
       refine wpIn_rangeFunc (fun fn hfn=>?_)
       have tail:∀ {l:Nat} {mark:List Deferred} {K1:Hp} {w1:World} {D:Nat},(Instr.enterLoop fn (act1 n ρ).tmps ps ao bo E.rd).run P w = .ok (l,mark) w1 →
           Sep E K1 (LpA l { state := .ready,pending:=none,fn:=fn,tmps:=frm n ρ.f,params:=ps,assign:=ao,body:=bo,defers:=D } :: σ.atoms fr m) w1→K.le K1→MOk fr.k0 K1 (mark++ρ.ds) →
           ∃ (l:Nat) (mark:List Deferred) (w₁:World) (d:Deferred) (w₁':World) (f:FuncId) (args:Array Value) (w₂:World),
             (Instr.enterLoop fn (act1 n ρ).tmps ps ao bo (aE E.rd).round).run P w = .ok (l,mark) w₁ ∧
             (resolve (act1 n ρ).eval (rangeCall g l) 0).run P w₁ = .ok d w₁' ∧
             (∀ f',Target.leads P w₁' d.target d.args=some f'→(aE E.rd).fn f') ∧
             (invoke d.target d.args).run P w₁' = .ok (.enter f args) w₂ ∧
             ((aE E.rd).depth.isSome=true→1≤0) ∧
             CallsIn (aE E.rd) (0 - 1) P f args w₂ (rangePost (aE E.rd) 0 P l Q { act1 n ρ with defers:=mark++(act1 n ρ).defers }):=fun {l mark K1 w1 D} he hs1 hK1 hm1=>by
         refine ⟨l,mark,w1,{ target := .fn (.func q.f) us.toArray,args:=#[.func (.yield l) #[] #[]] },w1,q.f,#[.func (.yield l) #[] #[]]++us.toArray,w1,he,?_,fun _ _=>trivial,?_,fun hh=>(by cases (show false=true from hh)),?_⟩
         . have hv':Go.Proofs.YtbheedkpbbmlcaaGreatDoor.ev n ρ.f g = .func (.func q.f) #[] us.toArray:=hv
           rw [db]
           have hc2:Go.Proofs.YtbheedkpbbmlcaaGreatDoor.ev n ρ.f (.const (.func (.yield l) #[] #[])) = .func (.yield l) #[] #[]:=rfl
           simp [resolve,Deferred.ofValue,hv',hc2]
         . exact q.ent _ _
         . exact EF hJ hc hus hb2 (Nat.le_of_ble_eq_true hb3) hh hr hs1 hK1 hm1 hQ
       cases hE:E.rd with
       | none =>
         rw [hE] at tail
         obtain ⟨s1,hD⟩:=(hr.toSep.allocO (.deferred (some []))).known
         have s2:=s1.allocO (.loop { state := .ready,pending:=none,fn:=fn,tmps:=frm n ρ.f,params:=ps,assign:=ao,body:=bo,defers:=w.heap.size })
         rw [World.size_alloc] at s2
         refine tail (run_enterLoop_outer fn _ ps ao bo) s2 (Hp.le_join _ _) ⟨⟨hr.mks.1.1,hr.mks.1.2.trans (Hp.le_join _ _)⟩,fun d hd=>?_,?_⟩
         . rcases List.mem_append.1 hd with hd | hd
           . simp only [List.mem_singleton] at hd
             subst hd
             refine ⟨w.heap.size,rfl,Hp.join_right (bv _ _) hD,?_⟩
             cases hk0:fr.k0 w.heap.size with
             | none=>rfl
             | some x=>rw [hr.mks.1.2 _ _ hk0] at hD; cases hD
           . obtain ⟨D',e1,e2,e3⟩:=hr.mks.2.1 d hd
             exact ⟨D',e1,Hp.le_join _ _ _ _ e2,e3⟩
         . refine List.nodup_cons.2 ⟨fun hd=>?_,hr.mks.2.2⟩
           obtain ⟨D',e1,e2,e3⟩:=hr.mks.2.1 _ hd
           simp only [Deferred.mk.injEq,Target.collected.injEq,and_true] at e1
           rw [← e1,hD] at e2
           cases e2
       | some l0 =>
         rw [hE] at tail
         obtain ⟨r0,hmem⟩:=hrd l0 hE
         have hw0:w.heap[l0]? = some (.loop r0):=by
           obtain ⟨i,hi⟩:=List.getElem?_of_mem (show LpA l0 r0∈σ.atoms fr m from List.mem_append_right _ (List.mem_append_right _ hmem))
           exact LpA.at (Sep.front i hi hr.toSep)
         exact tail (BU hw0 fn _ ps ao bo) (hr.toSep.allocO _) (Hp.le_refl K) (by simpa using hr.mks)
     . cases hh
   . cases hh
 . cases hh
end
end
section
variable [BldA]
section
variable {R:Type} {P:Program} {E:En} {n:Nat} {m m':List M} {K K':Hp} {fr:Frz} {σ σ':Zt} {ρ ρ':Sl1} {w w':World}
theorem xB {c:Code} {f:Hn P→Zt→(R:Type)→(Exit→Hn P→Zt→Option R)→Option R} (hf:Fok P n c f) (hrd:ka E fr) {s:Sh} {act W:List Nat} {a b:Hn P} {k:Hn P→Zt→Option R} {r:R} {Q:Exit→Act→World→Prop} (h:jV f s act W a b σ k=some r) (hr:Rel E fr σ m K ρ w)
   (hQ:∀ h' σ' m' K' ρ' w',Rel E fr σ' m' K' ρ' w'→Same σ σ'→k h' σ'=some r→Q .normal (Go.Proofs.YtbheedkpbbmlcaaGreatDoor.act1 n ρ') w'):c.wpIn (aE E.rd) 0 P Q (Go.Proofs.YtbheedkpbbmlcaaGreatDoor.act1 n ρ) w:=by
 unfold jV at h
 obtain ⟨x,hx,h⟩:=ob h
 refine hf _ E ⟨m,K,ρ,fun _=>false,fr.F,fr.k0⟩ hrd a (σ.frz act) _ x m K ρ w Q hx (hr.frz act) (fun e h' σ' m' K' ρ' w' h1 h2 h3=>?_)
 cases e with
 | normal =>
   obtain ⟨h'',σ2,m2,K2,g1,g2,g3⟩:=aX h' h3 h1
   have hi:Inn σ fr ⟨m,K,ρ,fun _=>false,fr.F,fr.k0⟩ m K ρ (cE σ.H act) σ2 W:=⟨rfl,rfl,rfl,rfl,rfl,(g2.2.trans h2.2),im,fun _ _=>rfl⟩
   obtain ⟨σ3,m3,q1,q2,q3⟩:=py hr hi g3 g1 h
   exact hQ b σ3 m3 K2 ρ' w' q3 q2 q1
 | _=>cases h3
theorem xJ {c:Code} {f:Hn P→Zt→(R:Type)→(Exit→Hn P→Zt→Option R)→Option R} (hf:Fok P n c f) (hrd:ka E fr) {s:Sh} {act W:List Nat} {a b:Hn P} {k:Exit→Hn P→Zt→Option R} {r:R} {Q:Exit→Act→World→Prop} (h:jO f s act W a b σ k=some r) (hr:Rel E fr σ m K ρ w)
   (hQ:∀ e h' σ' m' K' ρ' w',Rel E fr σ' m' K' ρ' w'→Same σ σ'→k e h' σ'=some r→Q e (Go.Proofs.YtbheedkpbbmlcaaGreatDoor.act1 n ρ') w'):c.wpIn (aE E.rd) 0 P Q (Go.Proofs.YtbheedkpbbmlcaaGreatDoor.act1 n ρ) w:=by
 unfold jO at h
 obtain ⟨o,ho,h⟩:=ob h
 refine hf _ E ⟨m,K,ρ,fun _=>false,fr.F,fr.k0⟩ hrd a (σ.frz act) _ o m K ρ w Q ho (hr.frz act) (fun e h' σ' m' K' ρ' w' h1 h2 h3=>?_)
 have other:(k e h' (σ.thaw σ' (cE σ.H act) [])).map Sum.inr=some o→Q e (Go.Proofs.YtbheedkpbbmlcaaGreatDoor.act1 n ρ') w':=fun h3=>by
   rw [Option.map_eq_some_iff] at h3
   obtain ⟨r',h4,rfl⟩:=h3
   cases h
   have hi:Inn σ fr ⟨m,K,ρ,fun _=>false,fr.F,fr.k0⟩ m K ρ (cE σ.H act) σ' []:=⟨rfl,rfl,rfl,rfl,rfl,h2.2,im,fun _ _=>rfl⟩
   obtain ⟨q1,q2⟩:=tq hr hi h1
   exact hQ e h' _ m' K' ρ' w' q2 q1 h4
 cases e with
 | normal =>
   obtain ⟨h'',σ2,m2,K2,g1,g2,g3⟩:=aX h' h3 h1
   rw [Option.map_eq_some_iff] at g1
   obtain ⟨x,g1,rfl⟩:=g1
   have hi:Inn σ fr ⟨m,K,ρ,fun _=>false,fr.F,fr.k0⟩ m K ρ (cE σ.H act) σ2 W:=⟨rfl,rfl,rfl,rfl,rfl,(g2.2.trans h2.2),im,fun _ _=>rfl⟩
   obtain ⟨σ3,m3,q1,q2,q3⟩:=py hr hi g3 g1 h
   exact hQ .normal b σ3 m3 K2 ρ' w' q3 q2 q1
 | _=>exact other h3
theorem Es {s:Sh} {W:List Nat} {rest:List HA} {x:TL s.ts} (hr:Rel E fr σ m K ρ w) {g:Gt} {f:Nat→SV} {H:List HA} {us:List ab}
   (hg:s.get f H=some g) (hx:TL.of s.ts g.ds=some x) (hok:∀ a∈H,HA.ok m' K' a) (hf:∀ i,SV.rel m' K' (f i) (ρ' i)) (hmm:m <+: m') (hKK:K.le K') (hrest:∀ a∈rest,a∈σ.H) (hs:Sep E K' (H.map (HA.conc m')++(us++(rest.map (HA.conc m)++σ.fz fr))) w')
   (hds:MOk fr.k0 K' ρ'.ds) (hold:∀ i,i∉W→ρ' i=ρ i) {vs:List (Nat×SV)} {u:Un} (hu:s.un (TL.list s.ts x) σ.nx=some (vs,u)) :
   ∃ m'',Rel E ⟨m,K,ρ,fun i=>W.contains i,fr.F,fr.k0⟩ ⟨fun i=>bif W.contains i then .any else σ.get i,bT (cx σ) vs,u.H.map (HA.sub (cx σ)),rest++σ.Hf,u.nx,false⟩ m'' K' ρ' w':=by
 rw [TL.of_list hx] at hu
 have hoo:ci s.bl m.length=true:=by
   unfold Sh.un at hu
   rw [hr.nx]
   cases ho:ci s.bl σ.nx with
   | true=>rfl
   | false=>rw [ho] at hu; cases hu
 obtain ⟨vs',u',ms,e1,e2,e3,e4,e5,e6,e7,e8⟩:=Sh.get_un hg hok hmm hoo
 rw [hr.nx,hu] at e1
 cases e1
 have hp':=aA m ms
 refine ⟨m++ms,Rel.subs (σ:=⟨fun i=>bif W.contains i then .any else σ.get i,vs,u.H,rest++σ.Hf,u.nx,false⟩) (oJ hr.toPur (m':=m++ms) (fun _ _ k=>au hp' k) hKK) ⟨⟨aA m ms,hKK,e2,fun e=>(by cases e),fun i=>?_,fun i hi=>?_,fun i hi=>?_,fun i sv hi=>oS e3 hi _ (hf i),e4,fun a ha=>?_,hds⟩,?_⟩⟩
 . show SV.rel m K (bif W.contains i then .any else σ.get i) (ρ i)
   cases W.contains i with
   | true=>exact trivial
   | false=>exact hr.toPur.get i
 . show (bif W.contains i then SV.any else σ.get i) = .any
   have hi:W.contains i=true:=hi
   rw [hi]; rfl
 . by_cases hW:i∈W
   . exact .inl (by simpa using hW)
   . exact .inr (hold i hW)
 . refine hr.toPur.all a ?_
   rcases List.mem_append.1 ha with ha | ha
   . exact List.mem_append_left _ (hrest a ha)
   . exact List.mem_append_right _ ha
 . have s1:=e6 E _ w' hs
   have s2:Sep E K' ((g.H.map (HA.conc m')++us)++(u.H.map (HA.conc (m++ms))++(rest.map (HA.conc m)++σ.fz fr))) w':=Sep.perm (by
     rw [List.append_assoc]
     refine (jS _ _ _).trans (List.Perm.append_left _ (jS _ _ _)) ) s1
   show Sep E K' (u.H.map (HA.conc (m++ms))++((rest++σ.Hf).map (HA.conc m)++fr.F)) w'
   rw [List.map_append,hr.toPur.fz',List.append_assoc]
   exact Sep.drops s2
theorem wR {s:Sh} {ds:List Dat} {nx:Nat} {o:List (Nat×SV)×Un} (h:s.un ds nx=some o):ci s.bl nx=true:=by
 unfold Sh.un at h
 cases ho:ci s.bl nx with
 | true=>rfl
 | false=>rw [ho] at h; cases h
theorem D6 {c:Code} {f:Hn P→Zt→(R:Type)→(Exit→Hn P→Zt→Option R)→Option R} (hf:Fok P n c f) (hrd:ka E fr) {s:Sh} {W:List Nat} {a:Hn P} {k:Exit→Hn P→Zt→Option R} {r:R} {Q:Exit→Act→World→Prop} (h:qb f s W a σ k=some r) (hr:Rel E fr σ m K ρ w)
   (hQ:∀ e h' σ' m' K' ρ' w',Rel E fr σ' m' K' ρ' w'→Same σ σ'→k e h' σ'=some r→Q e (Go.Proofs.YtbheedkpbbmlcaaGreatDoor.act1 n ρ') w'):(Code.loop c).wpIn (aE E.rd) 0 P Q (Go.Proofs.YtbheedkpbbmlcaaGreatDoor.act1 n ρ) w:=by
 unfold qb at h
 split at h
 . rename_i g hg
   split at h
   . rename_i x0 hx0
     obtain ⟨N,hN⟩:=oQ h
     refine wpIn_loop_rounds N ?_
     -- a round's head
     have round:∀ (N:Nat) (x:TL s.ts) (m1:List M) (K1:Hp) (ρ1:Sl1) (w1:World) (vs:List (Nat×SV)) (u:Un),di (mh f s W g a σ k) N x=some r→s.un (TL.list s.ts x) σ.nx=some (vs,u) →
         Rel E ⟨m,K,ρ,fun i=>W.contains i,fr.F,fr.k0⟩ ⟨fun i=>bif W.contains i then .any else σ.get i,bT (cx σ) vs,u.H.map (HA.sub (cx σ)),g.H++σ.Hf,u.nx,false⟩ m1 K1 ρ1 w1→Code.roundsIn (aE E.rd) 0 P c Q N (Go.Proofs.YtbheedkpbbmlcaaGreatDoor.act1 n ρ1) w1:=by
       intro N
       induction N with
       | zero=>intro x m1 K1 ρ1 w1 vs u hi; cases hi
       | succ N ih =>
         intro x m1 K1 ρ1 w1 vs u hi hu hrel
         unfold di at hi
         obtain ⟨o,ho,hi⟩:=ob hi
         rw [roundsIn_succ]
         unfold mh at ho
         rw [hu] at ho
         simp only at ho
         have hgsub:∀ a∈g.H,a∈σ.H:=by
           obtain ⟨_,_,_,_,_,_,_,e5,_⟩:=Sh.get_un (m:=m) (K:=K) hg hr.okH (List.prefix_refl m) (by rw [hr.nx]; exact wR hu)
           exact e5
         refine hf _ E ⟨m,K,ρ,fun i=>W.contains i,fr.F,fr.k0⟩ hrd a _ _ o m1 K1 ρ1 w1 _ ho hrel (fun e h' σ' m' K' ρ' w' h1 h2 h3=>?_)
         have other:e ≠ .normal→(k e h' (σ.thaw σ' g.H W)).map Sum.inr=some o→Q e (Go.Proofs.YtbheedkpbbmlcaaGreatDoor.act1 n ρ') w':=fun _ h3=>by
           rw [Option.map_eq_some_iff] at h3
           obtain ⟨r',h4,rfl⟩:=h3
           cases hi
           have hii:Inn σ fr ⟨m,K,ρ,fun i=>W.contains i,fr.F,fr.k0⟩ m K ρ g.H σ' W:=⟨rfl,rfl,rfl,rfl,rfl,h2.2,hgsub,fun i hi=>by simpa using hi⟩
           obtain ⟨q1,q2⟩:=tq hr hii h1
           exact hQ e h' _ m' K' ρ' w' q2 q1 h4
         cases e with
         | normal =>
           obtain ⟨h'',σ2,m2,K2,g1,g2,g3⟩:=aX h' h3 h1
           rw [Option.map_eq_some_iff] at g1
           obtain ⟨x',g1,rfl⟩:=g1
           have hsame:=h2.trans g2
           unfold Zt.pack at g1
           replace g1:=ap g1; obtain ⟨hk,g1⟩:=g1
           split at g1
           . rename_i g' hg'
             cases hu':s.un (TL.list s.ts x') σ.nx with
             | none =>
               -- the next round would not run
               cases N with
               | zero=>cases hi
               | succ N =>
                 unfold di at hi
                 obtain ⟨o2,ho2,_⟩:=ob hi
                 unfold mh at ho2
                 rw [hu'] at ho2
                 cases ho2
             | some q =>
               obtain ⟨vs',u'⟩:=q
               have hii:Inn σ fr ⟨m,K,ρ,fun i=>W.contains i,fr.F,fr.k0⟩ m K ρ g.H σ2 W:=⟨rfl,rfl,rfl,rfl,rfl,hsame.2,hgsub,fun i hi=>by simpa using hi⟩
               obtain ⟨m'',hrel'⟩:=Es (W:=W) (rest:=g.H) (us:=[]) hr hg' g1 g3.okH g3.toPur.get g3.hm g3.hK hgsub (by rw [List.nil_append]; exact hii.sep hr g3) g3.mks (fun i hi=>by
                 have:=g3.old i (ox hk hi)
                 rcases this with h4 | h4
                 . exact absurd (by simpa using h4) hi
                 . exact h4) hu'
               exact ih x' m'' K2 ρ' w' vs' u' hi hu' hrel'
           . cases g1
         | exit i=>exact other nofun h3
         | goto l=>exact other nofun h3
         | ret=>exact other nofun h3
         | panic c=>exact other nofun h3
         | outgrown=>exact other nofun h3
     cases hu:s.un (TL.list s.ts x0) σ.nx with
     | none =>
       cases N with
       | zero=>cases hN
       | succ N =>
         unfold di at hN
         obtain ⟨o2,ho2,_⟩:=ob hN
         unfold mh at ho2
         rw [hu] at ho2
         cases ho2
     | some q =>
       obtain ⟨vs,u⟩:=q
       have hu2:=hu
       rw [TL.of_list hx0] at hu2
       obtain ⟨vs',u',ms,e1,e2,e3,e4,e5,e6,e7,e8⟩:=Sh.get_un (m:=m) (K:=K) hg hr.okH (List.prefix_refl m) (by rw [hr.nx]; exact wR hu2)
       rw [hr.nx,hu2] at e1
       cases e1
       have hp':=aA m ms
       refine round N x0 (m++ms) K ρ w vs u hN hu (Rel.subs (σ:=⟨fun i=>bif W.contains i then .any else σ.get i,vs,u.H,g.H++σ.Hf,u.nx,false⟩) (oJ hr.toPur (m':=m++ms) (fun _ _ k=>au hp' k) (Hp.le_refl K)) ⟨⟨aA m ms,Hp.le_refl K,e2,fun e=>(by cases e),fun i=>?_,fun i hi=>?_,fun i hi => .inr rfl,fun i sv hi=>oS e3 hi _ (hr.toPur.get i),e4,fun a ha=>?_,hr.mks⟩,?_⟩)
       . show SV.rel m K (bif W.contains i then .any else σ.get i) (ρ i)
         cases W.contains i with
         | true=>exact trivial
         | false=>exact hr.toPur.get i
       . show (bif W.contains i then SV.any else σ.get i) = .any
         have hi:W.contains i=true:=hi
         rw [hi]; rfl
       . refine hr.toPur.all a ?_
         rcases List.mem_append.1 ha with ha | ha
         . exact List.mem_append_left _ (e5 a ha)
         . exact List.mem_append_right _ ha
       . have s1:=e6 E _ w hr.toSep
         show Sep E K (u.H.map (HA.conc (m++ms))++((g.H++σ.Hf).map (HA.conc m)++fr.F)) w
         rw [List.map_append,hr.toPur.fz',List.append_assoc]
         exact s1
   . cases h
 . cases h
theorem wU {c:Code} {f:Hn P→Zt→(R:Type)→(Exit→Hn P→Zt→Option R)→Option R} (hf:Fok P n c f) (hrd:ka E fr) {k:Exit→Hn P→Zt→Option R} {r:R} {Q:Exit→Act→World→Prop}
   (hQ:∀ e h' σ' m' K' ρ' w',Rel E fr σ' m' K' ρ' w'→Same σ σ'→k e h' σ'=some r→Q e (Go.Proofs.YtbheedkpbbmlcaaGreatDoor.act1 n ρ') w'):∀ (N:Nat) {h:Hn P} {σ1:Zt} {m:List M} {K:Hp} {ρ:Sl1} {w:World},mq (fun h σ k=>f h σ _ k) k N h σ1=some r→Rel E fr σ1 m K ρ w→Same σ σ1→Code.roundsIn (aE E.rd) 0 P c Q N (Go.Proofs.YtbheedkpbbmlcaaGreatDoor.act1 n ρ) w
 | 0,h,σ1,m,K,ρ,w,hh,hr,hs=>by cases hh
 | N + 1,h,σ1,m,K,ρ,w,hh,hr,hs=>by
   rw [roundsIn_succ]
   unfold mq at hh
   refine hf _ E fr hrd h σ1 _ r m K ρ w _ hh hr (fun e h' σ' m' K' ρ' w' h1 h2 h3=>?_)
   cases e with
   | normal=>exact wU hf hrd hQ N h3 h1 (hs.trans h2)
   | exit i=>exact hQ _ h' σ' m' K' ρ' w' h1 (hs.trans h2) h3
   | goto i=>exact hQ _ h' σ' m' K' ρ' w' h1 (hs.trans h2) h3
   | ret=>exact hQ _ h' σ' m' K' ρ' w' h1 (hs.trans h2) h3
   | panic i=>exact hQ _ h' σ' m' K' ρ' w' h1 (hs.trans h2) h3
   | outgrown=>exact hQ _ h' σ' m' K' ρ' w' h1 (hs.trans h2) h3
theorem wH {y:Code} {k:Exit→Hn P→Zt→Option R} {f:Hn P→Zt→Option R} {r:R} {Q:Exit→Act→World→Prop} {σ0:Zt} (hf:∀ h' σ' m' K' ρ' w',Rel E fr σ' m' K' ρ' w'→Same σ0 σ'→f h' σ'=some r→y.wpIn (aE E.rd) 0 P Q (Go.Proofs.YtbheedkpbbmlcaaGreatDoor.act1 n ρ') w')
   (hQ:∀ e h' σ' m' K' ρ' w',Rel E fr σ' m' K' ρ' w'→Same σ0 σ'→k e h' σ'=some r→Q e (Go.Proofs.YtbheedkpbbmlcaaGreatDoor.act1 n ρ') w'):∀ e h' σ' m' K' ρ' w',Rel E fr σ' m' K' ρ' w'→Same σ0 σ'→jN k f e h' σ'=some r→Exit.then (y.wpIn (aE E.rd) 0 P Q) Q e (Go.Proofs.YtbheedkpbbmlcaaGreatDoor.act1 n ρ') w':=by
 intro e h' σ' m' K' ρ' w' h1 h2 h3
 cases e with
 | normal=>exact hf h' σ' m' K' ρ' w' h1 h2 h3
 | exit i=>exact hQ _ h' σ' m' K' ρ' w' h1 h2 h3
 | goto i=>exact hQ _ h' σ' m' K' ρ' w' h1 h2 h3
 | ret=>exact hQ _ h' σ' m' K' ρ' w' h1 h2 h3
 | panic i=>exact hQ _ h' σ' m' K' ρ' w' h1 h2 h3
 | outgrown=>exact hQ _ h' σ' m' K' ρ' w' h1 h2 h3
theorem dx {J:Rn P} (hJ:JOk J):∀ (c:Code),Fok P n c (fun h σ R k=>exec J n c h σ k)
 | .skip=>fun R E fr hrd h σ k r m K ρ w Q hh hr hQ=>wpIn_skip (hQ _ h σ m K ρ w hr Same.rfl' hh)
 | .ret=>fun R E fr hrd h σ k r m K ρ w Q hh hr hQ=>wpIn_ret (hQ _ h σ m K ρ w hr Same.rfl' hh)
 | .exit id=>fun R E fr hrd h σ k r m K ρ w Q hh hr hQ=>wpIn_exit (hQ _ h σ m K ρ w hr Same.rfl' hh)
 | .label l=>fun R E fr hrd h σ k r m K ρ w Q hh hr hQ=>wpIn_label (hQ _ h σ m K ρ w hr Same.rfl' hh)
 | .scope b=>fun R E fr hrd h σ k r m K ρ w Q hh hr hQ=>by
   refine AZ (dx hJ b R E fr hrd h σ _ r m K ρ w _ (show exec J n b h σ (yD k)=some r from hh) hr (fun e h' σ' m' K' ρ' w' h1 h2 h3=>?_))
   cases e with
   | goto l=>cases h3
   | normal=>exact hQ _ h' σ' m' K' ρ' w' h1 h2 h3
   | exit i=>exact hQ _ h' σ' m' K' ρ' w' h1 h2 h3
   | ret=>exact hQ _ h' σ' m' K' ρ' w' h1 h2 h3
   | panic i=>exact hQ _ h' σ' m' K' ρ' w' h1 h2 h3
   | outgrown=>exact hQ _ h' σ' m' K' ρ' w' h1 h2 h3
 | .region id ops draw=>fun R E fr hrd h σ k r m K ρ w Q hh hr hQ=>by
   change (bif !ops.toList.all cH then none else bif draw then aC h σ fun h σ=>jZ n ops.toList h σ fun h σ=>(match h with | .mix plan fin tail act r=>uH n ops plan fin tail act r σ (k .normal) | .tr t s act a b=>trS n ops t s act a b σ (k .normal) | _=>none) else aC h σ fun h σ=>uP J n ops h σ (k .normal))=some r at hh
   replace hh:=fc hh; obtain ⟨hn,hh⟩:=hh
   have hn:ops.toList.all cH=true:=by simpa using hn
   cases draw with
   | false =>
     simp only [cond_false] at hh
     obtain ⟨h1,σ1,m1,K1,hh,g1,hr⟩:=aX h hh hr
     replace hQ:∀ e h' σ' m' K' ρ' w',Rel E fr σ' m' K' ρ' w'→Same σ1 σ'→k e h' σ'=some r→Q e (act1 n ρ') w':=fun e h' σ' m' K' ρ' w' q1 q2 q3=>hQ e h' σ' m' K' ρ' w' q1 (g1.trans q2) q3
     clear g1
     unfold uP at hh
     split at hh
     . rename_i q h2
       have key:wpListIn (aE E.rd) 0 P ops Q (ops.toList.take q++ops.toList.drop q) (act1 n ρ) w:=by
         have hn1:(ops.toList.take q).all cH=true:=List.all_eq_true.2 (fun x hx=>List.all_eq_true.1 hn x (List.mem_of_mem_take hx))
         have hn2:(ops.toList.drop q).all cH=true:=List.all_eq_true.2 (fun x hx=>List.all_eq_true.1 hn x (List.mem_of_mem_drop hx))
         refine rP hn1 ?_
         have:=jD (ops:=ops) (Q:=fun e a w=>e = .normal∧wpListIn (aE E.rd) 0 P ops Q (ops.toList.drop q) a w) (ops.toList.take q) 0 hh hr (fun h' σ' m' K' ρ' w' h1 h2 h3=>?_)
         . simpa using this
         . refine ⟨rfl,?_⟩
           split at h3
           . rename_i o rest hd
             rw [hd] at hn2 ⊢
             simp only [List.all_cons,Bool.and_eq_true] at hn2
             obtain ⟨dst,op,t,pos,af,gu⟩:=o
             obtain ⟨h4,σ4,s4,hr4,hg⟩:=jC h3 h1
             rcases hg with ⟨hw,hg⟩ | ⟨hw,hg⟩
             . refine Fq hJ hg hr4 hw (fun h'' σ'' m'' K'' ρ'' w'' g1 g2 g3=>?_)
               have:=jD (ops:=ops) (Q:=Q) rest 0 g3 g1 (fun h3 σ3 m3 K3 ρ3 w3 b1 b2 b3=>hQ _ h3 σ3 m3 K3 ρ3 w3 b1 (((h2.trans s4).trans g2).trans b2) b3)
               exact ij hn2.2 (by simpa using this)
             . unfold wpListIn
               rw [if_neg (by rw [hw]; exact Bool.false_ne_true)]
               refine ⟨fun _ _=>trivial,?_⟩
               cases dst with
               | none =>
                 have:=jD (ops:=ops) (Q:=Q) rest 0 hg hr4 (fun h3 σ3 m3 K3 ρ3 w3 b1 b2 b3=>hQ _ h3 σ3 m3 K3 ρ3 w3 b1 ((h2.trans s4).trans b2) b3)
                 exact ij hn2.2 (by rw [List.drop_zero] at this; exact this)
               | some d =>
                 show wpListIn _ _ _ _ _ _ ((act1 n ρ').put (some d) undef) _
                 rw [cJ]
                 have:=jD (ops:=ops) (Q:=Q) rest 0 hg (hr4.set (d:=d) (sv := .raw undef) (v:=undef) rfl) (fun h3 σ3 m3 K3 ρ3 w3 b1 b2 b3=>hQ _ h3 σ3 m3 K3 ρ3 w3 b1 (((h2.trans s4).trans ⟨rfl,rfl⟩).trans b2) b3)
                 exact ij hn2.2 (by simpa using this)
           . cases h3
       rw [List.take_append_drop] at key
       have:=wpIn_region_lit (id:=id) (l:=ops.toList) (by simpa using key)
       simpa using this
     . have:=wpIn_region_lit (id:=id) (ij (r:=E.rd) (n:=0) hn (jD (Q:=Q) (ops:=ops.toList.toArray) ops.toList 0 (by simpa using hh) hr (fun h' σ' m' K' ρ' w' h1 h2 h3=>hQ _ h' σ' m' K' ρ' w' h1 h2 h3)))
       simpa using this
   | true =>
     simp only [cond_true] at hh
     obtain ⟨h1,σ1,m1,K1,hh,g1,hr⟩:=aX h hh hr
     obtain ⟨h2,σ2,m2,hh,g2,hr⟩:=yg h1 hh hr
     replace hQ:∀ e h' σ' m' K' ρ' w',Rel E fr σ' m' K' ρ' w'→Same σ2 σ'→k e h' σ'=some r→Q e (act1 n ρ') w':=fun e h' σ' m' K' ρ' w' q1 q2 q3=>hQ e h' σ' m' K' ρ' w' q1 ((g1.trans g2).trans q2) q3
     clear g1 g2
     generalize K1=K at hr
     generalize m2=m at hr
     generalize σ2=σ at hr hh hQ
     split at hh
     . rename_i plan fin tail act' h0
       unfold uH at hh
       replace hh:=cL hh; obtain ⟨hm,hB,hh⟩:=hh
       have hB':kg .any ops.toList.toArray plan fin tail=true:=by simpa using hB
       have hfr:=(hr.frz act').drew
       have hplan:∀ s i,(s,i)∈plan→i < ops.toList.length:=by
         intro s i hi
         have h0:=hB
         unfold kg at h0
         simp only [Bool.and_eq_true] at h0
         obtain ⟨_,h1⟩:=h0
         split at h1
         . rename_i l1 hl1
           simpa using we plan _ _ hl1 s i hi
         . cases h1
       have key:=pt (l:=ops.toList) (Q:=Q) plan hh hfr rfl hplan (fun h' σ' m' K' ρ' w' h1 h2 h3=>by
         have hi:Inn σ fr ⟨m,K,ρ,fun _=>false,fr.F,fr.k0⟩ m K ρ (cE σ.H act') σ' []:=⟨rfl,rfl,rfl,rfl,rfl,h2.2,im,fun _ _=>rfl⟩
         obtain ⟨z1,z2⟩:=tq hr hi h1
         have:=jD (ops:=ops.toList.toArray) (Q:=Q) (bx ops.toList tail) 0 (by simpa using h3) z2 (fun h'' σ'' m'' K'' ρ'' w'' b1 b2 b3=>hQ .normal h'' σ'' m'' K'' ρ'' w'' b1 (z1.trans b2) b3)
         rwa [List.drop_zero] at this)
       have:=vE (id:=id) (Q:=Q) plan fin tail hm hB' _ hfr.cfz rfl rfl rfl key hn (r:=E.rd) (n:=0)
       simpa using this
     . rename_i t s act' a b
       unfold trS at hh
       replace hh:=cL hh; obtain ⟨hm,hB,hh⟩:=hh
       obtain ⟨x,hx,hh⟩:=ob hh
       have hfr:=(hr.frz act').drew
       have key:=o5 (l:=ops.toList) (F:=fun a' w'=>ar P ops.toList.toArray Q (bx ops.toList []) a' w') t hx hfr rfl (fun h' σ' m' K' ρ' w' h1 h2 h3=>by
         obtain ⟨h'',σ2,m2,K2,g1,g2,g3⟩:=aX h' h3 h1
         have hi:Inn σ fr ⟨m,K,ρ,fun _=>false,fr.F,fr.k0⟩ m K ρ (cE σ.H act') σ2 (s.sl.map (·.1)++ax ops.toList):=⟨rfl,rfl,rfl,rfl,rfl,(g2.2.trans h2.2),im,fun _ _=>rfl⟩
         obtain ⟨σ3,m3,q1,q2,q3⟩:=py hr hi g3 g1 hh
         exact hQ .normal b σ3 m3 K2 ρ' w' q3 q2 q1)
       have:=Bd (id:=id) (Q:=Q) t [] hm hB _ hfr.cfz rfl key hn (r:=E.rd) (n:=0)
       simpa using this
     . cases hh
 | .seq a b=>fun R E fr hrd h σ k r m K ρ w Q hh hr hQ=>by
   have plain:∀ h0,exec J n a h0 σ (jN k (fun h σ=>exec J n b h σ k))=some r→(Code.seq a b).wpIn (aE E.rd) 0 P Q (act1 n ρ) w:=fun h0 hh =>
     wpIn_seq (dx hJ a R E fr hrd h0 σ _ r m K ρ w _ hh hr (wH (σ0:=σ) (fun h' σ' m' K' ρ' w' h1 h2 h3=>dx hJ b R E fr hrd h' σ' k r m' K' ρ' w' Q h3 h1 (fun e h'' σ'' m'' K'' ρ'' w'' q1 q2 q3=>hQ e h'' σ'' m'' K'' ρ'' w'' q1 (h2.trans q2) q3)) hQ))
   cases h with
   | sq mk s act ha hb =>
     have hh:(match Zt.mcs mk σ with | some σ=>jV (fun h σ R k=>exec J n a h σ k) s act (s.sl.map (·.1)++cN a) ha hb σ (fun h σ=>exec J n b h σ k) | none=>none)=some r:=hh
     split at hh
     . rename_i σ1 hm
       obtain ⟨m1,k1,k2⟩:=ml hm hr
       refine wpIn_seq (xB (dx hJ a) hrd hh k2 (fun h' σ' m' K' ρ' w' h1 h2 h3=>?_))
       exact dx hJ b R E fr hrd h' σ' k r m' K' ρ' w' Q h3 h1 (fun e h'' σ'' m'' K'' ρ'' w'' q1 q2 q3=>hQ e h'' σ'' m'' K'' ρ'' w'' q1 ((k1.trans h2).trans q2) q3)
     . cases hh
   | sx mk s act ha hb =>
     have hh:(match Zt.mcs mk σ with | some σ=>jO (fun h σ R k=>exec J n a h σ k) s act (s.sl.map (·.1)++cN a) ha hb σ (jN k (fun h σ=>exec J n b h σ k)) | none=>none)=some r:=hh
     split at hh
     . rename_i σ1 hm
       obtain ⟨m1,k1,k2⟩:=ml hm hr
       refine wpIn_seq (xJ (dx hJ a) hrd hh k2 ?_)
       exact wH (σ0:=σ1) (fun h' σ' m' K' ρ' w' h1 h2 h3=>dx hJ b R E fr hrd h' σ' k r m' K' ρ' w' Q h3 h1 (fun e h'' σ'' m'' K'' ρ'' w'' q1 q2 q3=>hQ e h'' σ'' m'' K'' ρ'' w'' q1 ((k1.trans h2).trans q2) q3)) (fun e h' σ' m' K' ρ' w' q1 q2 q3=>hQ e h' σ' m' K' ρ' w' q1 (k1.trans q2) q3)
     . cases hh
   | pl h=>exact plain h hh
   | nil=>exact plain _ hh
   | two _ _ _=>exact plain _ hh
   | tw _ _ _=>exact plain _ hh
   | jn _ _ _ _ _=>exact plain _ hh
   | jx _ _ _ _ _=>exact plain _ hh
   | lp _ _=>exact plain _ hh
   | un _ _=>exact plain _ hh
   | per _ _ _=>exact plain _ hh
   | perb _ _ _ _=>exact plain _ hh
   | mc _ _ _ _=>exact plain _ hh
   | ms _ _=>exact plain _ hh
   | wt _ _=>exact plain _ hh
   | cl _ _ _=>exact plain _ hh
   | c2 _ _ _ _=>exact plain _ hh
   | gp _ _=>exact plain _ hh
   | gj _ _ _ _ _=>exact plain _ hh
   | mix _ _ _ _ _=>exact plain _ hh
   | opn _ _ _=>exact plain _ hh
   | opb _ _ _=>exact plain _ hh
   | cls _ _ _=>exact plain _ hh
   | opp _ _ _ _=>exact plain _ hh
   | ot _ _=>exact plain _ hh
   | cm _ _ _ _=>exact plain _ hh
   | cm2 _ _ _ _ _=>exact plain _ hh
   | tr _ _ _ _ _=>exact plain _ hh
   | tru _=>exact plain _ hh
   | yl _ _=>exact plain _ hh
   | rg _ _=>exact plain _ hh
 | .cond c x y=>fun R E fr hrd h σ k r m K ρ w Q hh hr hQ=>by
   obtain ⟨h1,σ1,m1,K1,g1,g2,g3⟩:=aX h (show aC h σ (fun h σ=>uu c (σ.evr n c) h σ (fun h σ=>exec J n x h σ k) (fun h σ=>exec J n y h σ k))=some r from hh) hr
   have hv:=g3.toPur.evr n c
   have goX:∀ h2 σ2,Rel E fr σ2 m1 K1 ρ w→Same σ σ2→exec J n x h2 σ2 k=some r→x.wpIn (aE E.rd) 0 P Q (act1 n ρ) w:=fun h2 σ2 q1 q2 q3 =>
     dx hJ x R E fr hrd h2 σ2 k r m1 K1 ρ w Q q3 q1 (fun e h'' σ'' m'' K'' ρ'' w'' p1 p2 p3=>hQ e h'' σ'' m'' K'' ρ'' w'' p1 (q2.trans p2) p3)
   have goY:∀ h2 σ2,Rel E fr σ2 m1 K1 ρ w→Same σ σ2→exec J n y h2 σ2 k=some r→y.wpIn (aE E.rd) 0 P Q (act1 n ρ) w:=fun h2 σ2 q1 q2 q3 =>
     dx hJ y R E fr hrd h2 σ2 k r m1 K1 ρ w Q q3 q1 (fun e h'' σ'' m'' K'' ρ'' w'' p1 p2 p3=>hQ e h'' σ'' m'' K'' ρ'' w'' p1 (q2.trans p2) p3)
   have slot:∀ (d:Nat) (sv:SV),c = .tmp d→σ1.evr n c=sv→sv ≠ .any→σ1.get d=sv:=fun d sv hc he hne=>by
     subst hc
     cases hh:Nat.blt d n with
     | false =>
       have:σ1.evr n (.tmp d) = .any:=by show (bif Nat.blt d n then σ1.get d else .any)=_; rw [hh]; rfl
       rw [this] at he; exact absurd he.symm hne
     | true =>
       have:σ1.evr n (.tmp d)=σ1.get d:=by show (bif Nat.blt d n then σ1.get d else .any)=_; rw [hh]; rfl
       rw [← this]; exact he
   unfold uu at g1
   split at g1
   . rename_i jm w0 e
     rw [e] at hv
     obtain ⟨hj,hv⟩:=hv
     split at g1
     . rename_i t
       have hb:ev n ρ c = .bool t:=hv
       rw [hb] at hj
       refine wpIn_cond_split (t:=t) (by rw [db]; exact hb) (fun ht=>?_) (fun ht=>?_)
       . subst ht
         split at g1
         . exact goX _ _ (g3.fix (v := .bool true) hj rfl) (g2.trans ⟨rfl,rfl⟩) g1
         . exact goX _ σ1 g3 g2 g1
         . exact goX _ σ1 g3 g2 g1
       . subst ht
         split at g1
         . exact goY _ _ (g3.fix (v := .bool false) hj rfl) (g2.trans ⟨rfl,rfl⟩) g1
         . exact goY _ σ1 g3 g2 g1
         . exact goY _ σ1 g3 g2 g1
     . cases g1
   . rename_i t e
     rw [e] at hv
     have hb:ev n ρ c = .bool t:=hv
     refine wpIn_cond_split (t:=t) (by rw [db]; exact hb) (fun ht=>?_) (fun ht=>?_)
     . subst ht
       split at g1
       . rename_i ha hbn d _
         have hg:=slot d _ rfl e nofun
         exact goX ha _ (g3.ref (fun _ _ u hu=>by rw [hg] at hu; exact hu) (by rw [hg]; nofun)) (g2.trans ⟨rfl,iC.2⟩) g1
       . exact goX _ σ1 g3 g2 g1
       . exact goX _ σ1 g3 g2 g1
     . subst ht
       split at g1
       . rename_i ha hbn d _
         have hg:=slot d _ rfl e nofun
         exact goY hbn _ (g3.ref (fun _ _ u hu=>by rw [hg] at hu; exact hu) (by rw [hg]; nofun)) (g2.trans ⟨rfl,iC.2⟩) g1
       . exact goY _ σ1 g3 g2 g1
       . exact goY _ σ1 g3 g2 g1
   . rename_i tp l ng e
     rw [e] at hv
     obtain ⟨q,hb,hl⟩:=hv
     refine wpIn_cond_split (t:=q ^^ ng) (by rw [db]; exact hb) (fun ht=>?_) (fun ht=>?_)
     . split at g1
       . rename_i ha hbn _
         cases ng with
         | true =>
           rw [Bool.xor_true] at ht
           simp only [cond_true] at g1
           exact goX ha _ g3 g2 (wY g1)
         | false =>
           rw [Bool.xor_false] at ht
           simp only [cond_false] at g1
           exact goX ha _ g3 g2 (xD (hl ht) g1)
       . cases g1
     . split at g1
       . rename_i ha hbn _
         cases ng with
         | true =>
           rw [Bool.xor_true] at ht
           simp only [cond_true] at g1
           exact goY hbn _ g3 g2 (xD (hl (by simpa using ht)) g1)
         | false =>
           rw [Bool.xor_false] at ht
           simp only [cond_false] at g1
           exact goY hbn _ g3 g2 (wY g1)
       . cases g1
   . cases g1
 | .block id b=>fun R E fr hrd h σ k r m K ρ w Q hh hr hQ=>by
   have blk:∀ {R:Type} {k:Exit→Hn P→Zt→Option R} {r:R} {Q:Exit→Act→World→Prop} {fr:Frz} {σ:Zt},(∀ e h' σ' m' K' ρ' w',Rel E fr σ' m' K' ρ' w'→Same σ σ'→k e h' σ'=some r→Q e (act1 n ρ') w') →
       ∀ e h' σ' m' K' ρ' w',Rel E fr σ' m' K' ρ' w'→Same σ σ'→gD id k e h' σ'=some r→Exit.inBlock id Q e (act1 n ρ') w':=by
     intro R k r Q fr σ hQ e h' σ' m' K' ρ' w' h1 h2 h3
     cases e with
     | exit i =>
       change (bif Nat.beq i id then k .normal h' σ' else k (.exit i) h' σ')=some r at h3
       show if i=id then _ else _
       cases hb:Nat.beq i id with
       | true =>
         rw [hb] at h3
         rw [if_pos (Nat.eq_of_beq_eq_true hb)]
         exact hQ _ h' σ' m' K' ρ' w' h1 h2 h3
       | false =>
         rw [hb] at h3
         rw [if_neg (fun e=>by rw [e,Nat.beq_refl] at hb; cases hb)]
         exact hQ _ h' σ' m' K' ρ' w' h1 h2 h3
     | normal=>exact hQ _ h' σ' m' K' ρ' w' h1 h2 h3
     | goto l=>exact hQ _ h' σ' m' K' ρ' w' h1 h2 h3
     | ret=>exact hQ _ h' σ' m' K' ρ' w' h1 h2 h3
     | panic i=>exact hQ _ h' σ' m' K' ρ' w' h1 h2 h3
     | outgrown=>exact hQ _ h' σ' m' K' ρ' w' h1 h2 h3
   have fb:Fok P n (.block id b) (fun h σ R k=>exec J n b h σ (gD id k)):=fun R E fr hrd h σ k r m K ρ w Q hh hr hQ=>by
     refine wpIn_block (dx hJ b R E fr hrd h σ _ r m K ρ w _ hh hr ?_)
     intro e h' σ' m' K' ρ' w' h1 h2 h3
     cases e with
     | exit i =>
       change (bif Nat.beq i id then k .normal h' σ' else k (.exit i) h' σ')=some r at h3
       show if i=id then _ else _
       cases hb:Nat.beq i id with
       | true =>
         rw [hb] at h3
         rw [if_pos (Nat.eq_of_beq_eq_true hb)]
         exact hQ _ h' σ' m' K' ρ' w' h1 h2 h3
       | false =>
         rw [hb] at h3
         rw [if_neg (fun e=>by rw [e,Nat.beq_refl] at hb; cases hb)]
         exact hQ _ h' σ' m' K' ρ' w' h1 h2 h3
     | normal=>exact hQ _ h' σ' m' K' ρ' w' h1 h2 h3
     | goto l=>exact hQ _ h' σ' m' K' ρ' w' h1 h2 h3
     | ret=>exact hQ _ h' σ' m' K' ρ' w' h1 h2 h3
     | panic i=>exact hQ _ h' σ' m' K' ρ' w' h1 h2 h3
     | outgrown=>exact hQ _ h' σ' m' K' ρ' w' h1 h2 h3
   have plain:∀ h0,exec J n b h0 σ (gD id k)=some r→(Code.block id b).wpIn (aE E.rd) 0 P Q (act1 n ρ) w:=fun h0 hh=>fb R E fr hrd h0 σ k r m K ρ w Q hh hr hQ
   cases h with
   | jn mk s act ha hb =>
     have hh:(match Zt.mcs mk σ with | some σ=>jV (fun h σ R k=>exec J n b h σ (gD id k)) s act (s.sl.map (·.1)++cN b) ha hb σ (k .normal) | none=>none)=some r:=hh
     split at hh
     . rename_i σ1 hm
       obtain ⟨m1,k1,k2⟩:=ml hm hr
       exact xB fb hrd hh k2 (fun h' σ' m' K' ρ' w' h1 h2 h3=>hQ _ h' σ' m' K' ρ' w' h1 (k1.trans h2) h3)
     . cases hh
   | jx mk s act ha hb =>
     have hh:(match Zt.mcs mk σ with | some σ=>jO (fun h σ R k=>exec J n b h σ (gD id k)) s act (s.sl.map (·.1)++cN b) ha hb σ k | none=>none)=some r:=hh
     split at hh
     . rename_i σ1 hm
       obtain ⟨m1,k1,k2⟩:=ml hm hr
       exact xJ fb hrd hh k2 (fun e h' σ' m' K' ρ' w' q1 q2 q3=>hQ e h' σ' m' K' ρ' w' q1 (k1.trans q2) q3)
     . cases hh
   | pl h=>exact plain _ hh
   | nil=>exact plain _ hh
   | two _ _ _=>exact plain _ hh
   | tw _ _ _=>exact plain _ hh
   | sq _ _ _ _ _=>exact plain _ hh
   | sx _ _ _ _ _=>exact plain _ hh
   | lp _ _=>exact plain _ hh
   | un _ _=>exact plain _ hh
   | per _ _ _=>exact plain _ hh
   | perb _ _ _ _=>exact plain _ hh
   | mc _ _ _ _=>exact plain _ hh
   | ms _ _=>exact plain _ hh
   | wt _ _=>exact plain _ hh
   | cl _ _ _=>exact plain _ hh
   | c2 _ _ _ _=>exact plain _ hh
   | gp _ _=>exact plain _ hh
   | gj _ _ _ _ _=>exact plain _ hh
   | mix _ _ _ _ _=>exact plain _ hh
   | opn _ _ _=>exact plain _ hh
   | opb _ _ _=>exact plain _ hh
   | cls _ _ _=>exact plain _ hh
   | opp _ _ _ _=>exact plain _ hh
   | ot _ _=>exact plain _ hh
   | cm _ _ _ _=>exact plain _ hh
   | cm2 _ _ _ _ _=>exact plain _ hh
   | tr _ _ _ _ _=>exact plain _ hh
   | tru _=>exact plain _ hh
   | yl _ _=>exact plain _ hh
   | rg _ _=>exact plain _ hh
 | .loop b=>fun R E fr hrd h σ k r m K ρ w Q hh hr hQ=>by
   obtain ⟨h1,σ1,m1,K1,g1,g2,g3⟩:=aX h (show aC h σ (fun h σ=>match h with
     | .un m r=>mq (fun h σ k=>exec J n b h σ k) k m r σ
     | .lp s ha=>qb (fun h σ R k=>exec J n b h σ k) s (s.sl.map (·.1)++cN b) ha σ k
     | _=>none)=some r from hh) hr
   have hQ':∀ e h' σ' m' K' ρ' w',Rel E fr σ' m' K' ρ' w'→Same σ1 σ'→k e h' σ'=some r→Q e (act1 n ρ') w':=fun e h'' σ'' m'' K'' ρ'' w'' p1 p2 p3=>hQ e h'' σ'' m'' K'' ρ'' w'' p1 (g2.trans p2) p3
   split at g1
   . exact wpIn_loop_rounds _ (wU (dx hJ b) hrd hQ' _ g1 g3 Same.rfl')
   . exact D6 (dx hJ b) hrd g1 g3 hQ'
   . cases g1
 | .rangeFunc g ps ao bo=>fun R E fr hrd h σ k r m K ρ w Q hh hr hQ=>by
   obtain ⟨h1,σ1,m1,K1,g1,g2,g3⟩:=aX h (show aC h σ (fun h σ=>qt J n g ps ao bo h σ k)=some r from hh) hr
   exact Df hJ hrd g1 g3 (fun e h'' σ'' m'' K'' ρ'' w'' p1 p2 p3=>hQ e h'' σ'' m'' K'' ρ'' w'' p1 (g2.trans p2) p3)
 | .goto l=>fun R E fr hrd h σ k r m K ρ w Q hh hr hQ=>by cases hh
 | .refuse s=>fun R E fr hrd h σ k r m K ρ w Q hh hr hQ=>by cases hh
theorem xF:∀ d:Nat,JOk (uj (P:=P) d)
 | 0=>fun n c R E fr hrd h σ k r m K ρ w Q hh hr hQ=>by cases hh
 | d + 1=>fun n c=>dx (xF d) c
end
end
section
variable [BldA]
def eW (P:Program) (n:Nat) (σ:Zt):List ResultVar→Option (List SV)
 | []=>some []
 | .tmp t :: r=>(match eW P n σ r with | some vs=>some (σ.ev n (.tmp t) :: vs) | none=>none)
 | .cell a ty :: r=>(match σ.ev n (.tmp a) with
   | .ptr i o=>(match bn (HA.blkR i) (σ.H++σ.Hf) with
     | some q=>(match ldv P ty q.cs o,eW P n σ r with | some v,some vs=>some (v :: vs) | _,_=>none)
     | none=>none)
   | _=>none)
def An:List SV→SV
 | [v]=>v
 | vs => .tup vs
def gU (σ:Zt) (rs:List SV) (o:Sh):Option (TL o.ts):=bif (match rs,o.sl with | [],[]=>true | _ :: _,[p]=>Nat.beq p.1 0 | _,_=>false) then (match o.get (fun _=>An rs) σ.H with | some g=>TL.of o.ts g.ds | none=>none) else none
def qN {P:Program} (σ:Zt) (rs:List SV):(os:List Sh)→Hn P→Option (dP os)
 | [a],_=>gU σ rs a
 | [a,b],h=>(match h with | .pl _=>(gU σ rs b).map Sum.inr | _=>(gU σ rs a).map Sum.inl)
 | _,_=>none
def qG {P:Program} (n:Nat) (fn:Func) (os:List Sh) (h:Hn P) (σ:Zt):Option (dP os):=aC h σ fun h σ=>match eW P n σ fn.results.toList with | some rs=>qN σ rs os h | none=>none
def fin {P:Program} (n:Nat) (fn:Func) (os:List Sh) (e:Exit) (h:Hn P) (σ:Zt):Option (dP os):=match e with
 | .normal=>qG n fn os h σ
 | .ret=>qG n fn os h σ
 | _=>none
def va {P:Program} (n:Nat) (fn:Func) (c:Code) (inn:Sh) (os:List Sh) (h:Hn P) (x:TL inn.ts):Option (dP os):=match inn.un (TL.list inn.ts x) 0 with
 | some (vs,u)=>aC h ⟨fun _ => .any,vs,u.H,[],u.nx,false⟩ fun h σ=>exec (uj 4) n c h σ (fin n fn os)
 | none=>none
section
variable {P:Program} {E:En} {n:Nat} {m:List M} {K:Hp} {fr:Frz} {σ:Zt} {ρ:Sl1} {w:World}
theorem tA (hr:Rel E fr σ m K ρ w):∀ {l:List ResultVar} {rs:List SV},eW P n σ l=some rs→∃ us:List Value,SV.relL m K rs us∧l.length=us.length∧∀ (j:Nat) (r:ResultVar) (v:Value),l[j]? = some r→us[j]? = some v→iK P n (Hold E K (σ.atoms fr m)) ρ r v
 | [],rs,h=>by cases h; exact ⟨[],rfl,rfl,fun j r v h=>by simp at h⟩
 | .tmp t :: l,rs,h=>by
   unfold eW at h
   split at h
   . rename_i vs hvs
     cases h
     obtain ⟨us,h1,h2,h3⟩:=tA hr hvs
     refine ⟨ev n ρ (.tmp t) :: us,⟨_,us,rfl,hr.toPur.ev n (.tmp t),h1⟩,by simp [h2],fun j r v hj hv=>?_⟩
     cases j with
     | zero=>simp at hj hv; subst hj hv; rfl
     | succ j=>exact h3 j r v (by simpa using hj) (by simpa using hv)
   . cases h
 | .cell a ty :: l,rs,h=>by
   unfold eW at h
   split at h
   . rename_i i o e
     split at h
     . rename_i q hq
       split at h
       . rename_i v vs hv hvs
         cases h
         obtain ⟨us,h1,h2,h3⟩:=tA hr hvs
         obtain ⟨x,hx,hmem⟩:=b8 hq
         obtain rfl:=dT hx
         obtain ⟨b,ws,g1,g2,g3⟩:=hr.cls.blk hmem
         obtain ⟨u,g4,g5⟩:=mr (P:=P) (o0:=0) hv g2 (fun j u hu=>by rw [Nat.zero_add]; exact g3 j u hu)
         rw [Nat.zero_add] at g4
         have hev:=hr.toPur.ev n (.tmp a)
         rw [e] at hev
         obtain ⟨b',q1,q2⟩:=hev
         rw [g1] at q1; cases q1
         refine ⟨u :: us,⟨_,us,rfl,g5,h1⟩,by simp [h2],fun j r v hj hv=>?_⟩
         cases j with
         | zero=>simp at hj hv; subst hj hv; exact ⟨b,o,q2,g4⟩
         | succ j=>exact h3 j r v (by simpa using hj) (by simpa using hv)
       . cases h
     . cases h
   . cases h
theorem xO {C:World→Prop} {w:World} (hw:C w):∀ {l:List ResultVar} {us:List Value},l.length=us.length→(∀ (j:Nat) (r:ResultVar) (v:Value),l[j]? = some r→us[j]? = some v→iK P n C ρ r v)→(l.mapM (rvS (frm n ρ))).run P w = .ok us w
 | [],us,h,_=>by
   obtain rfl:us=[]:=List.length_eq_zero_iff.1 h.symm
   simp
 | r :: l,us,h,hr=>by
   cases us with
   | nil=>cases h
   | cons u us =>
     have h1:=pL (hr 0 r u rfl rfl) hw
     have h2:=xO hw (l:=l) (us:=us) (by simpa using h) (fun j r v hj hv=>hr (j + 1) r v (by simpa using hj) (by simpa using hv))
     simp [List.mapM_cons,h1,h2]
def mT:List Value→Value
 | [v]=>v
 | vs => .tuple vs.toArray
theorem Ep {C:World→Prop} {w:World} (hw:C w) {fn:Func} {us:List Value} (hl:fn.results.toList.length=us.length) (h:∀ (j:Nat) (r:ResultVar) (v:Value),fn.results.toList[j]? = some r→us[j]? = some v→iK P n C ρ r v):(results fn (frm n ρ)).run P w = .ok (mT us) w:=by
 have h1:=xO hw hl h
 rw [rS]
 simp only [Array.mapM_eq_mapM_toList]
 simp only [Sem.run_bind,Sem.run_map,h1,Result.andThen_ok,Sem.run_pure]
 match us with
 | []=>rfl
 | [u]=>rfl
 | u :: v :: r =>
   rw [dif_neg (by simp)]
   rfl
theorem Dw {rs:List SV} {us:List Value} (h:SV.relL m K rs us) (hne:rs≠[]):SV.rel m K (An rs) (mT us):=by
 match rs,us,h with
 | [],_,_=>exact absurd rfl hne
 | [v],us,h =>
   obtain ⟨u,q,rfl,h1,h2⟩:=aR h
   obtain rfl:=br h2
   exact h1
 | v :: v2 :: r,us,h =>
   obtain ⟨u,q,rfl,h1,h2⟩:=aR h
   obtain ⟨u2,q2,rfl,h3,h4⟩:=aR h2
   exact ⟨_,rfl,u,_,rfl,h1,u2,q2,rfl,h3,h4⟩
theorem tC {rs:List SV} {us:List Value} {o:Sh} {x:TL o.ts} {K0:Hp} {m0:List M} (h:gU σ rs o=some x) (hr:Rel E fr σ m K ρ w) (hrel:SV.relL m K rs us) (hm:m0 <+: m) (ho:ci o.bl m0.length=true) (hF:σ.Hf=[]) :
   ∃ vs' u' m',o.un (TL.list o.ts x) m0.length=some (vs',u')∧m0 <+: m'∧m'.length=u'.nx∧(∀ a∈u'.H,HA.ok m' K a)∧j8 m' K vs' (mT us)∧Sep E K (u'.H.map (HA.conc m')++fr.F) w:=by
 unfold gU at h
 replace h:=ap h; obtain ⟨hs,h⟩:=h
 split at h
 . rename_i g hg
   obtain ⟨vs,u,ms,e1,e2,e3,e4,e5,e6,e7,e8⟩:=Sh.get_un hg hr.okH hm ho
   rw [TL.of_list h]
   refine ⟨vs,u,m0++ms,e1,aA _ _,e2,e4,?_,?_⟩
   . split at hs
     . rename_i hsl
       rw [hsl] at e3
       obtain rfl:vs=[]:=e3
       obtain rfl:=br hrel
       rfl
     . rename_i v r p hsl
       rw [hsl] at e3
       obtain ⟨sv,q,rfl,g1,g2⟩:=e3
       obtain rfl:q=[]:=g2
       exact g1 _ (Dw hrel (by simp))
     . cases hs
   . have:=e6 E _ w hr.toSep
     have h2:σ.fz fr=fr.F:=by unfold Zt.fz; rw [hF]; rfl
     rw [h2] at this
     have h3:Sep E K (g.H.map (HA.conc m)++(u.H.map (HA.conc (m0++ms))++fr.F)) w:=Sep.perm (jS _ _ _) this
     exact Sep.drops h3
 . cases h
theorem ET {rs:List SV} {us:List Value} {m0:List M} (hr:Rel E fr σ m K ρ w) (hrel:SV.relL m K rs us) (hm:m0 <+: m) (hF:σ.Hf=[]):∀ {os:List Sh} {h0:Hn P} {r:dP os},(∀ o∈os,ci o.bl m0.length=true)→qN σ rs os h0=some r →
   ∃ vs' u' m',(eC os r).1.un (eC os r).2 m0.length=some (vs',u')∧m0 <+: m'∧m'.length=u'.nx∧(∀ a∈u'.H,HA.ok m' K a)∧j8 m' K vs' (mT us)∧Sep E K (u'.H.map (HA.conc m')++fr.F) w
 | [],h0,r,_,h=>Empty.elim r
 | [a],h0,r,ho,h=>tC (K0:=K) (show gU σ rs a=some r from h) hr hrel hm (ho a (by simp)) hF
 | [a,b],h0,r,ho,h=>by
   have key:(gU σ rs b).map Sum.inr=some r∨(gU σ rs a).map Sum.inl=some r:=by
     cases h0 <;> first | exact .inl h | exact .inr h
   clear h
   rcases key with h | h
   . rw [Option.map_eq_some_iff] at h
     obtain ⟨x,h,rfl⟩:=h
     exact tC (K0:=K) h hr hrel hm (ho b (by simp)) hF
   . rw [Option.map_eq_some_iff] at h
     obtain ⟨x,h,rfl⟩:=h
     exact tC (K0:=K) h hr hrel hm (ho a (by simp)) hF
 | a :: b :: c :: os,h0,r,_,h=>by cases h
theorem wL:∀ {sl:List (Nat×Kd)} {vs:List (Nat×SV)} {us:List Value} {j N:Nat},slN j sl N=true→vs.map (·.1)=sl.map (·.1)→slR m K vs us→∀ i sv,aw vs i=some sv→∃ k u,i=j + k∧us[k]? = some u∧SV.rel m K sv u
 | [],vs,us,j,N,h1,h2,h3,i,sv,hl=>by
   have:vs=[]:=by cases vs with | nil=>rfl | cons a b=>cases h2
   subst this; cases hl
 | p :: sl,vs,us,j,N,h1,h2,h3,i,sv,hl=>by
   cases vs with
   | nil=>cases h2
   | cons q vs =>
     simp only [List.map_cons,List.cons.injEq] at h2
     simp only [slN,Bool.and_eq_true] at h1
     have hj:=Nat.eq_of_beq_eq_true h1.1
     obtain ⟨u,r,rfl,g1,g2⟩:=h3
     change (bif Nat.beq q.1 i then some q.2 else aw vs i)=some sv at hl
     cases hb:Nat.beq q.1 i with
     | true =>
       rw [hb] at hl; cases hl
       have:=Nat.eq_of_beq_eq_true hb
       exact ⟨0,u,by rw [← this,h2.1,hj]; rfl,rfl,g1⟩
     | false =>
       rw [hb] at hl
       obtain ⟨k,u',e1,e2,e3⟩:=wL h1.2 h2.2 g2 i sv hl
       exact ⟨k + 1,u',by omega,by simpa using e2,e3⟩
theorem xR {bi:List Nat}:∀ {sl:List (Nat×Kd)} {u u':Un} {vs:List (Nat×SV)},unS bi sl u=some (vs,u')→vs.map (·.1)=sl.map (·.1)
 | [],u,u',vs,h=>by cases h; rfl
 | p :: sl,u,u',vs,h=>by
   unfold unS at h
   split at h
   . split at h
     . rename_i h2
       cases h
       simp [xR h2]
     . cases h
   . cases h
theorem EK {s:Sh} {ds:List Dat} {nx:Nat} {vs:List (Nat×SV)} {u:Un} (h:s.un ds nx=some (vs,u)):vs.map (·.1)=s.sl.map (·.1):=by
 unfold Sh.un at h
 replace h:=(ap h).2
 split at h
 split at h
 . rename_i h1
   split at h
   . cases h; exact xR h1
   . cases h
 . cases h
theorem yA:∀ {vs:List (Nat×SV)} {us:List Value},slR m K vs us→us.length=vs.length
 | [],us,h=>by obtain rfl:us=[]:=h; rfl
 | p :: vs,us,⟨u,r,e,_,h⟩=>by subst e; simp [yA h]
end
section
variable {P:Program} {E:En} {n:Nat} {m:List M} {K:Hp} {fr:Frz} {σ:Zt} {ρ:Sl1} {w:World}
theorem th {b:Bool}:∀ l:List ResultVar,eW P n ⟨σ.base,σ.top,σ.H,σ.Hf,σ.nx,b⟩ l=eW P n σ l
 | []=>rfl
 | .tmp t :: r=>by unfold eW; rw [th r]; rfl
 | .cell a ty :: r=>by unfold eW; rw [th r]; rfl
theorem EQ {b:Bool} {rs:List SV}:∀ {os:List Sh} {h:Hn P},qN ⟨σ.base,σ.top,σ.H,σ.Hf,σ.nx,b⟩ rs os h=qN σ rs os h
 | [],h=>rfl
 | [a],h=>rfl
 | [a,b],h=>by cases h <;> rfl
 | a :: b :: c :: os,h=>rfl
end
section
variable {P:Program} {n:Nat}
theorem HZ {s:Spec} {fn:Func} {c:Code} (hf:P.funcs[s.f]? = some fn) (hb:fn.body=some c) (hn:fn.ntmps=n) (h:Hn P) (hc:(slN 0 s.inn.sl s.inn.sl.length&&Nat.ble s.inn.sl.length n)=true) (hold:∀ ds vs u,s.inn.un ds 0=some (vs,u)→∀ o∈s.outs,ci o.bl u.nx=true)
   (hex:∀ (x:TL s.inn.ts) r,s.fn x=some r→va n fn c s.inn s.outs h x=some r):cw P s:=by
 intro x r hx vs u hu m K args hgk hm hok hsl E w F hs
 rw [Bool.and_eq_true] at hc
 obtain ⟨hc1,hc2⟩:=hc
 have hkeys:=EK hu
 have hlen:args.toArray.size≤n:=by
   have h1:=yA hsl
   have h2:vs.length=s.inn.sl.length:=by have:=congrArg List.length hkeys; simpa using this
   simp only [List.size_toArray]
   have:=Nat.le_of_ble_eq_true hc2
   omega
 refine callsIn_wide.1 (callsIn_of_wp_marks (F:=Fence.wide) (n:=0) hf hb trivial ?_)
 rw [hn,sC hlen]
 have hrun:=hex x r hx
 unfold va at hrun
 rw [hu] at hrun
 simp only at hrun
 have hrel:Rel E.out0 ⟨m,K,fQ args.toArray,fun _=>false,F,K⟩ ⟨fun _ => .any,vs,u.H,[],u.nx,false⟩ m K (fQ args.toArray) w:=by
   refine ⟨⟨List.prefix_refl m,Hp.le_refl K,hm,fun e=>(by cases e),fun i=>trivial,fun i e=>rfl,fun i _ => .inr rfl,fun i sv hi=>?_,hok,fun a ha=>by simp at ha,MOk.nil hgk (Hp.le_refl K)⟩,?_⟩
   . obtain ⟨k,v,e1,e2,e3⟩:=wL hc1 hkeys hsl i sv hi
     have:fQ args.toArray i=v:=by
       show gH args.toArray i=v
       unfold gH
       rw [e1,Nat.zero_add]
       simp [e2]
     rw [this]; exact e3
   . exact hs.out0
 obtain ⟨hp,σp,mp,Kp,p1,p2,p3⟩:=aX h hrun hrel
 refine dx (xF 4) c (dP s.outs) E.out0 ⟨m,K,fQ args.toArray,fun _=>false,F,K⟩ (fun l e=>by cases e) hp σp (fin n fn s.outs) r mp Kp _ w _ p1 p3 (fun e h' σ' m' K' ρ' w' h1 h2 h3=>?_)
 have fini:qG n fn s.outs h' σ'=some r→LeavesInM Fence.wide 0 P fn (act1 n ρ').tmps (fun e w'=>∃ v K' L',e = .returned v∧(∃ vs' u' m',(eC s.outs r).1.un (eC s.outs r).2 u.nx=some (vs',u')∧m <+: m'∧m'.length=u'.nx∧(∀ a∈u'.H,HA.ok m' K' a)∧j8 m' K' vs' v∧L'=u'.H.map (HA.conc m'))∧K.le K'∧Sep E K' (L'++F) w') (act1 n ρ').defers .returning w':=fun h3=>by
   unfold qG at h3
   obtain ⟨h'',σ2,m2,K2,g1,g2,g3⟩:=aX h' h3 h1
   split at g1
   . rename_i rs hrs
     refine rT ρ'.ds g3.mks g3.toSep (fun K3 w3 c1 c2 c3=>?_)
     have g4:=g3.unmark c1 c2 c2 c3
     rw [← th (b:=false)] at hrs
     rw [← EQ (b:=false)] at g1
     obtain ⟨us,q1,q2,q3⟩:=tA g4 hrs
     refine ⟨mT us,Ep (ρ:=(⟨ρ'.f,[]⟩:Sl1)) g4.hold q2 q3,?_⟩
     obtain ⟨vs',u',m'',z1,z2,z3,z4,z5,z6⟩:=ET (m0:=m) g4 q1 g4.hm (((p2.trans h2).trans g2).2) (fun o ho=>by rw [hm]; exact hold _ _ _ hu o ho) g1
     rw [hm] at z1
     exact ⟨_,K3,_,rfl,⟨vs',u',m'',z1,z2,z3,z4,z5,rfl⟩,g4.hK,z6.back⟩
   . cases g1
 cases e with
 | normal=>exact fini h3
 | ret=>exact fini h3
 | _=>cases h3
end
end
section
variable [BldA]
mutual
theorem qh {bi:List Nat}:∀ (k:Kd) {u u':Un} {v:SV},Kd.un bi k u=some (v,u')→u.nx≤u'.nx
 | .any,u,u',v,h=>by cases h; exact Nat.le_refl _
 | .dat t,u,u',v,h=>by unfold Kd.un at h; split at h <;> cases h; exact Nat.le_refl _
 | .nilp,u,u',v,h=>by cases h; exact Nat.le_refl _
 | .nils,u,u',v,h=>by cases h; exact Nat.le_refl _
 | .nilf,u,u',v,h=>by cases h; exact Nat.le_refl _
 | .ptr j o,u,u',v,h=>by unfold Kd.un at h; split at h <;> cases h; exact Nat.le_refl _
 | .own e t,u,u',v,h=>by unfold Kd.un at h; split at h <;> cases h; exact Nat.le_add_right _ _
 | .al j,u,u',v,h=>by unfold Kd.un at h; split at h <;> cases h; exact Nat.le_refl _
 | .fsl j m,u,u',v,h=>by unfold Kd.un at h; split at h <;> cases h; exact Nat.le_refl _
 | .agg ks,u,u',v,h=>by
   unfold Kd.un at h; split at h
   . cases h; exact mn ks (by assumption)
   . cases h
 | .tup ks,u,u',v,h=>by
   unfold Kd.un at h; split at h
   . cases h; exact mn ks (by assumption)
   . cases h
 | .fn f ks,u,u',v,h=>by
   unfold Kd.un at h; split at h
   . cases h; exact mn ks (by assumption)
   . cases h
 | .kat t o,u,u',v,h=>by
   unfold Kd.un at h; split at h
   . split at h
     . cases h; exact Nat.le_refl _
     . cases h
   . cases h
 | .ifc t k,u,u',v,h=>by
   unfold Kd.un at h; split at h
   . cases h; exact qh k (by assumption)
   . cases h
 | .lit w,u,u',v,h=>by cases h; exact Nat.le_refl _
 | .od o,u,u',v,h=>by
   unfold Kd.un at h
   replace h:=(ap h).2
   split at h
   . split at h
     . cases h; exact Nat.le_add_right _ _
     . cases h
   . cases h
 | .rp j,u,u',v,h=>by unfold Kd.un at h; split at h <;> cases h; exact Nat.le_refl _
 | .is j k,u,u',v,h=>by
   unfold Kd.un at h; split at h
   . split at h
     . cases h; exact qh k (by assumption)
     . cases h
   . cases h
theorem mn {bi:List Nat}:∀ (ks:List Kd) {u u':Un} {vs:List SV},Kd.unL bi ks u=some (vs,u')→u.nx≤u'.nx
 | [],u,u',vs,h=>by cases h; exact Nat.le_refl _
 | k :: ks,u,u',vs,h=>by
   unfold Kd.unL at h; split at h
   . rename_i h1
     split at h
     . rename_i h2; cases h; exact Nat.le_trans (qh k h1) (mn ks h2)
     . cases h
   . cases h
end
theorem zk {bi:List Nat}:∀ (sl:List (Nat×Kd)) {u u':Un} {vs:List (Nat×SV)},unS bi sl u=some (vs,u')→u.nx≤u'.nx
 | [],u,u',vs,h=>by cases h; exact Nat.le_refl _
 | p :: sl,u,u',vs,h=>by
   unfold unS at h; split at h
   . rename_i h1
     split at h
     . rename_i h2; cases h; exact Nat.le_trans (qh p.2 h1) (zk sl h2)
     . cases h
   . cases h
theorem zg {bi:List Nat}:∀ (bl:List Bk) (is:List Nat) {u u':Un},unB bi bl is u=some u'→u.nx≤u'.nx
 | [],[],u,u',h=>by cases h; exact Nat.le_refl _
 | [],i :: is,u,u',h=>by cases h
 | b :: bl,[],u,u',h=>by cases h
 | b :: bl,i :: is,u,u',h=>by
   unfold unB at h; split at h
   . rename_i u1 h1
     refine Nat.le_trans ?_ (zg bl is h)
     unfold gV at h1
     cases hn:b.nu with
     | true=>rw [hn] at h1; cases h1; exact Nat.le_refl _
     | false =>
       rw [hn] at h1; simp only [cond_false] at h1
       cases hlp:b.lp with
       | true=>rw [hlp] at h1; simp only [cond_true] at h1; cases h1; exact Nat.le_refl _
       | false =>
       rw [hlp] at h1; simp only [cond_false] at h1
       cases hr:b.rw with
       | some o =>
         rw [hr] at h1
         dsimp only at h1
         split at h1
         . split at h1
           . cases h1; exact Nat.le_succ _
           . cases h1
         . cases h1
       | none =>
       rw [hr] at h1
       dsimp only at h1
       cases hb:b.bu with
       | true =>
         rw [hb] at h1; simp only [cond_true] at h1
         split at h1 <;> cases h1
         exact Nat.le_refl _
       | false =>
         rw [hb] at h1; simp only [cond_false] at h1
         split at h1
         . rename_i h2
           cases h1
           exact Nat.le_trans (mn b.ks h2) (Nat.le_succ _)
         . cases h1
   . cases h
theorem yO:∀ (bl:List Bk) (nx:Nat),eQ bl=true→(bG bl nx).2=nx + bl.length
 | [],nx,_=>rfl
 | b :: bl,nx,h=>by
   simp only [eQ,Bool.and_eq_true] at h
   cases hb:b.old with
   | some i=>rw [hb] at h; cases h.1
   | none =>
     simp only [bG,hb,List.length_cons]
     rw [yO bl (nx + 1) h.2]
     omega
theorem HW {s:Sh} {ds:List Dat} {vs:List (Nat×SV)} {u:Un} (h:s.un ds 0=some (vs,u)) (ho:eQ s.bl=true):s.bl.length≤u.nx:=by
 unfold Sh.un at h
 replace h:=(ap h).2
 have hn:=yO s.bl 0 ho
 split at h
 rename_i bi nx he
 rw [he] at hn
 simp only [Nat.zero_add] at hn
 split at h
 . rename_i h1
   split at h
   . rename_i h2
     cases h
     have:=zk s.sl h1
     have:=zg s.bl bi h2
     simp only at *
     omega
   . cases h
 . cases h
theorem xT:∀ (bl:List Bk) {a b:Nat},ci bl a=true→a≤b→ci bl b=true
 | [],a,b,h,hab=>rfl
 | x :: bl,a,b,h,hab=>by
   simp only [ci,Bool.and_eq_true] at h ⊢
   refine ⟨?_,xT bl h.2 hab⟩
   cases ho:x.old with
   | none=>rfl
   | some i =>
     have h1:=h.1
     rw [ho] at h1
     simp only [Nat.blt_eq] at h1 ⊢
     omega
def tU (fn:Func):Code:=match fn.body with | some c=>c | none => .skip
def yT (s:Spec) (fn:Func):Bool:=fn.body.isSome&&(slN 0 s.inn.sl s.inn.sl.length&&Nat.ble s.inn.sl.length fn.ntmps)&&(eQ s.inn.bl&&s.outs.all fun o=>ci o.bl s.inn.bl.length)
theorem ah {P:Program} {s:Spec} {fn:Func} (hf:P.funcs[s.f]? = some fn) (h:Hn P) (hc:yT s fn=true) (hex:(fun x=>va fn.ntmps fn (tU fn) s.inn s.outs h x)=s.fn):cw P s:=by
 unfold yT at hc
 simp only [Bool.and_eq_true] at hc
 obtain ⟨⟨h1,h2,h2'⟩,h3,h4⟩:=hc
 have hb:fn.body=some (tU fn):=by
   unfold tU
   cases hbd:fn.body with
   | none=>rw [hbd] at h1; cases h1
   | some c=>rfl
 refine HZ hf hb rfl h (by rw [h2,h2']; rfl) (fun ds vs u hu o ho=>xT o.bl (List.all_eq_true.1 h4 o ho) (HW hu h3)) (fun x r hx=>?_)
 rw [← hx]
 exact congrFun hex x
end
theorem Hj [BldA] {P:Program} {s:Spec} {W:World} (hs:cw P s) {x:TL s.inn.ts} {r:dP s.outs} (hr:s.fn x=some r) (hgk:BldA.gk (Hp.of W)) {vs:List (Nat×SV)} (hun:s.inn.un (TL.list _ x) 0=some (vs,⟨[],0,[],[]⟩))
   (hout:(eC s.outs r).1.un (eC s.outs r).2 0=some ([(0,.bool true)],⟨[],0,[],[]⟩)) {args:List Value} (hsl:slR [] (Hp.of W) vs args) :
   Calls P s.f args.toArray W fun e W'=>e = .returned (.bool true)∧Below W.heap.size W W':=by
 have h:=hs x r hr vs _ hun [] (Hp.of W) args hgk rfl (fun a ha=>by cases ha) hsl (En.of W) W [] (Sep.start W)
 refine h.mono fun e W' h=>?_
 obtain ⟨v,K',L',rfl,⟨vs',u',m',h1,_,_,_,h2,_⟩,h3,h4⟩:=h
 have h1:=h1.symm.trans hout
 cases h1
 obtain rfl:v = .bool true:=h2
 exact ⟨rfl,h4.below h3⟩
section
open Go.ChangeShapes Go.WideShapes Go.RowKit Go.Deep
namespace Tp
def flatW:Tp→Bool
 | .sl _=>false
 | .one a=>flatW a
 | .cons a r=>flatW a&&flatW r
 | _=>true
mutual
def heavy (P:Program):Tp→TypeId→Bool
 | .sl e,t=>match P.underlying t with | some (.slice e')=>decide (0 < P.bytesOf e')&&heavy P e e' | _=>false
 | .one a,t=>match P.underlying t with | some (.struct fs)=>(match fs.toList with | [f]=>heavy P a f.type | _=>false) | some (.array _ _)=>flatW a | _=>false
 | .cons a r,t=>match P.underlying t with | some (.struct fs)=>(match fs.toList with | f :: fs=>heavy P a f.type&&heavyAll P r fs | []=>false) | some (.array _ _)=>flatW a&&flatW r | _=>false
 | _,_=>true
def heavyAll (P:Program):Tp→List Field→Bool
 | .emp,[]=>true
 | .one a,[f]=>heavy P a f.type
 | .cons a r,f :: fs=>heavy P a f.type&&heavyAll P r fs
 | _,_=>false
end
def Fit:(t:Tp)→t.den→Prop
 | .sl e,l=>l.length≤140737488351232∧∀ x∈l,Fit e x
 | .one a,d=>Fit a d
 | .cons a r,d=>Fit a d.1∧Fit r d.2
 | _,_=>True
theorem flat_fit:∀ (t:Tp) (d:t.den),t.flatW=true→t.Fit d
 | .int _,_,_=>trivial
 | .bool,_,_=>trivial
 | .str,_,_=>trivial
 | .ptr _,_,_=>trivial
 | .emp,_,_=>trivial
 | .sl _,_,h=>by cases h
 | .one a,d,h=>flat_fit a d h
 | .cons a r,d,h=>by
   unfold flatW at h
   rw [Bool.and_eq_true] at h
   exact ⟨flat_fit a d.1 h.1,flat_fit r d.2 h.2⟩
end Tp
theorem C2 (b o m:Nat):(⟨b,o,none⟩:Addr).add m=⟨b,o + m,none⟩:=by
 unfold Addr.add; split
 . rename_i h; subst h; rfl
 . rfl
section
variable {H:Type} {P:Program} {p:Nat→Bool}
theorem mO:∀ (ts:List TypeId) (ds:List (DataW H)),(DataW.weightsEach P ts ds).all p=true→∀ (i:Nat) t d,ts[i]? = some t→ds[i]? = some d→(d.weights P t).all p=true
 | [],ds,h,i,t,d,ht,hd=>by simp at ht
 | t :: ts,[],h,i,t',d,ht,hd=>by simp at hd
 | t :: ts,d :: ds,h,0,t',d',ht,hd=>by
   simp at ht hd; subst ht; subst hd
   unfold DataW.weightsEach at h
   rw [List.all_append,Bool.and_eq_true] at h; exact h.1
 | t :: ts,d :: ds,h,i + 1,t',d',ht,hd=>by
   unfold DataW.weightsEach at h
   rw [List.all_append,Bool.and_eq_true] at h
   exact mO ts ds h.2 i t' d' (by simpa using ht) (by simpa using hd)
theorem Aw {e:TypeId}:∀ (ds:List (DataW H)),(DataW.weightsAll P e ds).all p=true→∀ d∈ds,(d.weights P e).all p=true
 | [],h,d,hd=>by cases hd
 | d :: ds,h,d',hd=>by
   unfold DataW.weightsAll at h
   rw [List.all_append,Bool.and_eq_true] at h
   rcases List.mem_cons.1 hd with rfl | hd
   . exact h.1
   . exact Aw ds h.2 d' hd
end
section
variable {H:Type} {enc:TypeId×Value→H} {P:Program} {W:World} {base:Nat} {spare:Nat→Bool} {held:Bool}
mutual
theorem Tp.fit:∀ (ty:Tp) {t:TypeId} {fuel:Nat} {cs:List Value} {x:DataW H×List MemPlace} {d:ty.den},ty.has P t=true→ty.heavy P t=true→DataW.trod enc P W base spare held fuel t cs=some x→Is (Hp.of W) ty cs d→(x.1.weights P t).all (·≤reachBytes)=true→ty.Fit d
 | .int k,_,_,_,_,_,_,_,_,_,_=>trivial
 | .bool,_,_,_,_,_,_,_,_,_,_=>trivial
 | .str,_,_,_,_,_,_,_,_,_,_=>trivial
 | .ptr e,_,_,_,_,_,_,_,_,_,_=>trivial
 | .emp,_,_,_,_,_,_,_,_,_,_=>trivial
 | .sl e,t,fuel,cs,x,d,hh,hv,h,hi,hw=>by
   unfold Tp.has at hh
   unfold Tp.heavy at hv
   split at hh
   . rename_i e' ht
     rw [ht] at hv
     simp only [Bool.and_eq_true,decide_eq_true_eq] at hh hv
     obtain ⟨⟨he,hc⟩,h0⟩:=hh
     obtain ⟨hb0,hv⟩:=hv
     simp only [Is] at hi
     obtain ⟨ad,cp,hcs,hl1,hl2,hi⟩:=hi
     rcases open_slice ht h with ⟨rfl,rfl⟩ | ⟨a,len,cap,m,n,D,Pl,rfl,hb,hl,hm,hmm,rfl,hx⟩
     . simp only [List.cons.injEq,Value.slice.injEq,and_true] at hcs
       obtain ⟨_,hz,_⟩:=hcs
       obtain rfl:d=[]:=List.length_eq_zero_iff.1 hz.symm
       exact ⟨by simp,fun x hx=>by simp at hx⟩
     . simp only [List.cons.injEq,Value.slice.injEq,and_true] at hcs
       obtain ⟨rfl,hlen,rfl⟩:=hcs
       unfold DataW.weights at hw
       rw [ht] at hw
       simp only [List.all_cons,List.all_append,Bool.and_eq_true,decide_eq_true_eq,List.length_map,List.length_range] at hw
       obtain ⟨hw1,hw2,hw3⟩:=hw
       have hle:len≤(len + (m - len)) * P.bytesOf e':=by
         have:(len + (m - len)) * 1≤(len + (m - len)) * P.bytesOf e':=Nat.mul_le_mul_left _ hb0
         omega
       have hr:reachBytes=140737488351232:=by decide
       refine ⟨by omega,fun y hy=>?_⟩
       obtain ⟨k,hk,rfl⟩:=List.getElem_of_mem hy
       have hkl:k < len:=by omega
       obtain ⟨b,o,hb',hes⟩:=hi (fun hn=>by rw [hn] at hk; simp at hk)
       simp only [Option.some.injEq] at hb'
       subst hb'
       obtain ⟨es,hel,hie,hce⟩:=hes k d[k] (List.getElem?_eq_getElem hk)
       obtain ⟨cs',hcs',ht'⟩:=hx k (by rw [hmm]; split <;> omega)
       rw [hc] at hcs'
       obtain ⟨_,hlen',hcell⟩:=World.cells?_some hcs'
       have e:cs'=es:=by
         apply List.ext_getElem?
         intro j
         by_cases hj:j < e.size
         . rw [← hcell j hj]
           have h1:=hce j hj
           rw [List.getElem?_eq_getElem (by omega)] at h1 ⊢
           have h2:=dR (w:=W) (Hp.le_refl _) h1
           rw [← h2,Go.Deep.add_add,C2]
           congr 2; omega
         . rw [List.getElem?_eq_none (by omega),List.getElem?_eq_none (by omega)]
       subst e
       exact Tp.fit e he hv ht' hie (Aw _ hw2 _ (List.mem_map.2 ⟨k,List.mem_range.2 hkl,rfl⟩))
   . simp at hh
 | .one a,t,fuel,cs,x,d,hh,hv,h,hi,hw=>by
   unfold Tp.has at hh
   unfold Tp.heavy at hv
   split at hh
   . rename_i fs ht
     rw [ht] at hv
     simp only [Bool.and_eq_true,decide_eq_true_eq] at hh
     obtain ⟨hh,hC⟩:=hh
     split at hh
     . rename_i f hfs
       simp only [hfs] at hv
       simp only [Bool.and_eq_true,decide_eq_true_eq] at hh hv
       obtain ⟨⟨h1,h2⟩,h3⟩:=hh
       obtain ⟨xs,n,_,rfl,hlen,hxl,hf⟩:=DataW.trod_struct ht h
       have hsz:fs.size=1:=by rw [← Array.length_toList,hfs]; simp
       have hget:∀ i,fs[i]? = [f][i]?:=fun i=>by rw [← hfs,Array.getElem?_toList]
       have t0:=hf 0 f (by rw [hget]; rfl)
       rw [h1,h2,List.drop_zero,List.getElem?_eq_getElem (by omega),List.take_of_length_le (by omega)] at t0
       unfold DataW.weights at hw
       simp only [ht,hfs] at hw
       exact Tp.fit a h3 hv t0 hi (mO _ _ hw 0 _ _ rfl (by simp [List.getElem?_eq_getElem (show 0 < xs.length by omega)]))
     . simp at hh
   . rename_i n e ht
     rw [ht] at hv
     exact Tp.flat_fit a d hv
   . simp at hh
 | .cons a r,t,fuel,cs,x,d,hh,hv,h,hi,hw=>by
   unfold Tp.has at hh
   unfold Tp.heavy at hv
   split at hh
   . rename_i fs ht
     rw [ht] at hv
     simp only [Bool.and_eq_true,decide_eq_true_eq] at hh
     obtain ⟨hh,hC⟩:=hh
     split at hh
     . rename_i f fs' hfs
       simp only [hfs] at hv
       simp only [Bool.and_eq_true,decide_eq_true_eq] at hh hv
       obtain ⟨⟨⟨h1,h2⟩,h3⟩,h4⟩:=hh
       obtain ⟨xs,n,_,rfl,hlen,hxl,hf⟩:=DataW.trod_struct ht h
       have hsz:fs.size=fs'.length + 1:=by rw [← Array.length_toList,hfs]; simp
       have hget:∀ i,fs[i]? = (f :: fs')[i]?:=fun i=>by rw [← hfs,Array.getElem?_toList]
       have t0:=hf 0 f (by rw [hget]; rfl)
       rw [h1,h2,List.drop_zero,List.getElem?_eq_getElem (by omega)] at t0
       unfold DataW.weights at hw
       simp only [ht,hfs] at hw
       simp only [Is] at hi
       obtain ⟨c1,c2,rfl,hl1,hi1,hi2⟩:=hi
       rw [List.take_left' hl1] at t0
       refine ⟨Tp.fit a h3 hv.1 t0 hi1 (mO _ _ hw 0 _ _ rfl (by simp [List.getElem?_eq_getElem (show 0 < xs.length by omega)])),?_⟩
       refine Tp.fitAll a.size r fs' (cs:=c2) (all:=c1++c2) h4 hv.2 (fun i g hg=>?_) (by rw [List.drop_left' hl1]) hi2
       have t1:=hf (i + 1) g (by rw [hget]; exact hg)
       have hi':i < fs'.length:=(List.getElem?_eq_some_iff.1 hg).1
       rw [List.getElem?_eq_getElem (by omega)] at t1
       exact ⟨n,_,t1,mO _ _ hw (i + 1) _ _ (by simp [hg]) (by simp [List.getElem?_eq_getElem (show i + 1 < xs.length by omega)])⟩
     . simp at hh
   . rename_i n e ht
     rw [ht] at hv
     rw [Bool.and_eq_true] at hv
     exact ⟨Tp.flat_fit a d.1 hv.1,Tp.flat_fit r d.2 hv.2⟩
   . simp at hh
theorem Tp.fitAll:∀ (o:Nat) (ty:Tp) (fs:List Field) {cs all:List Value} {d:ty.den},ty.hasAll P o fs=true→ty.heavyAll P fs=true →
   (∀ (i:Nat) (f:Field),fs[i]? = some f→∃ n x,DataW.trod enc P W base spare held n f.type ((all.drop f.offset).take (P.cellsOf f.type))=some x∧(x.1.weights P f.type).all (·≤reachBytes)=true)→cs=all.drop o→Is (Hp.of W) ty cs d→ty.Fit d
 | o,.emp,[],cs,all,d,hh,hv,hf,hc,hi=>trivial
 | o,.one a,[f],cs,all,d,hh,hv,hf,hc,hi=>by
   unfold Tp.hasAll at hh
   unfold Tp.heavyAll at hv
   simp only [Bool.and_eq_true,decide_eq_true_eq] at hh
   obtain ⟨⟨h1,h2⟩,h3⟩:=hh
   obtain ⟨n,x,t0,w0⟩:=hf 0 f rfl
   have hl:=Is.len (t := .one a) hi
   rw [h1,h2,← hc,List.take_of_length_le (by rw [hl]; exact Nat.le_refl _)] at t0
   exact Tp.fit a h3 hv t0 hi w0
 | o,.cons a r,f :: fs,cs,all,d,hh,hv,hf,hc,hi=>by
   unfold Tp.hasAll at hh
   unfold Tp.heavyAll at hv
   simp only [Bool.and_eq_true,decide_eq_true_eq] at hh hv
   obtain ⟨⟨⟨h1,h2⟩,h3⟩,h4⟩:=hh
   obtain ⟨n,x,t0,w0⟩:=hf 0 f rfl
   simp only [Is] at hi
   obtain ⟨c1,c2,rfl,hl1,hi1,hi2⟩:=hi
   rw [h1,h2,← hc,List.take_left' hl1] at t0
   refine ⟨Tp.fit a h3 hv.1 t0 hi1 w0,Tp.fitAll (o + a.size) r fs (cs:=c2) (all:=all) h4 hv.2 (fun i g hg=>hf (i + 1) g hg) (by rw [← List.drop_drop,← hc,List.drop_left' hl1]) hi2⟩
 | _,.int _,_,_,_,_,hh,_,_,_,_=>by simp [Tp.hasAll] at hh
 | _,.bool,_,_,_,_,hh,_,_,_,_=>by simp [Tp.hasAll] at hh
 | _,.str,_,_,_,_,hh,_,_,_,_=>by simp [Tp.hasAll] at hh
 | _,.sl _,_,_,_,_,hh,_,_,_,_=>by simp [Tp.hasAll] at hh
 | _,.ptr _,_,_,_,_,hh,_,_,_,_=>by simp [Tp.hasAll] at hh
 | _,.emp,_ :: _,_,_,_,hh,_,_,_,_=>by simp [Tp.hasAll] at hh
 | _,.one _,[],_,_,_,hh,_,_,_,_=>by simp [Tp.hasAll] at hh
 | _,.one _,_ :: _ :: _,_,_,_,hh,_,_,_,_=>by simp [Tp.hasAll] at hh
 | _,.cons _ _,[],_,_,_,hh,_,_,_,_=>by simp [Tp.hasAll] at hh
end
theorem Tp.argFit (ty:Tp) {r:Reach} {b:Nat} {t:TypeId} {v:Value} {d:DataW H} {p:List MemPlace} {x:ty.den} (hh:ty.has P t=true) (hv:ty.heavy P t=true) (h:DataW.Trod enc P W base spare held t v d p) (hx:IsV (Hp.of W) ty v x) (hw:(d.weights P t).all (·≤reachBytes)=true):ty.Fit x:=by
 obtain ⟨f,hf⟩:=h
 cases ty with
 | int k=>trivial
 | bool=>trivial
 | str=>trivial
 | ptr e=>trivial
 | emp=>trivial
 | sl e =>
   obtain ⟨ad,cp,rfl⟩:=Is.slv hx
   exact Tp.fit (.sl e) hh hv hf hx hw
 | one a =>
   obtain ⟨cs,rfl,hi⟩:=hx
   exact Tp.fit (.one a) hh hv (show DataW.trod enc P W base spare held f t cs=some (d,p) from hf) hi hw
 | cons a q =>
   obtain ⟨cs,rfl,hi⟩:=hx
   exact Tp.fit (.cons a q) hh hv (show DataW.trod enc P W base spare held f t cs=some (d,p) from hf) hi hw
end
end
set_option maxRecDepth 40000
section
section
variable {P:Program} {K:Hp}
theorem Tr.exA {f:FuncId} {args:Array Value} {α:Type} {A:α→ab} {L:List ab} {R:Value→Hp→List ab→Prop} (h:∀ x,Tr P f args K (A x :: L) R):Tr P f args K (Go.Proofs.YtbheedkpbbmlcaaGreatDoor.exA A :: L) R:=fun E w F hs=>by
 obtain ⟨x,hx⟩:=Sep.open hs
 exact h x E w F hx
theorem Tr.star {f:FuncId} {args:Array Value} {A B:ab} {L:List ab} {R:Value→Hp→List ab→Prop} (h:Tr P f args K (A :: B :: L) R):Tr P f args K (Go.Proofs.YtbheedkpbbmlcaaGreatDoor.star A B :: L) R:=fun E w F hs=>h E w F (Sep.split hs)
end
def bl (l:List UInt8):List Int:=l.map fun x=>(x.toNat:Int)
theorem zj (a b:List UInt8):bl (a++b)=bl a++bl b:=by simp [bl]
theorem pT (l:List UInt8):(bl l).length=l.length:=by simp [bl]
def wrB (l:List UInt8) (c:Int):Option (List UInt8):=if 0≤c∧c < 256 then app l [UInt8.ofNat c.toNat] else none
theorem Do {l r:List UInt8} {c:Int} (h:wrB l c=some r):app (bl l) [c]=some (bl r):=by
 unfold wrB at h; split at h
 . rename_i hc
   obtain ⟨h1,rfl⟩:=gv h
   rw [aj (by rw [pT]; simpa using h1),zj]
   congr 2
   simp [bl]
   omega
 . cases h
def wrS (l s:List UInt8):Option (List UInt8):=app l s
def Bld (b:Nat) (l:List UInt8):ab:=Go.Proofs.YtbheedkpbbmlcaaGreatDoor.exA fun a:{ a:Value // a = .pointer none∨a = .pointer (some ⟨b,0,none⟩) }=>Go.Proofs.YtbheedkpbbmlcaaGreatDoor.exA fun v:Value=>Go.Proofs.YtbheedkpbbmlcaaGreatDoor.star (Cl b 105 [a.1,v]) (Row Hp.nil 5 (.int .u8) v (bl l))
theorem Bld.make {E:En} {K:Hp} {L:List ab} {w:World} {b:Nat} {l:List UInt8} {a v:Value} (ha:a = .pointer none∨a = .pointer (some ⟨b,0,none⟩)) (h:Sep E K (Cl b 105 [a,v] :: Row Hp.nil 5 (.int .u8) v (bl l) :: L) w):Sep E K (Bld b l :: L) w :=
 Sep.close (A:=fun a:{ a:Value // a = .pointer none∨a = .pointer (some ⟨b,0,none⟩) }=>Go.Proofs.YtbheedkpbbmlcaaGreatDoor.exA fun v:Value=>Go.Proofs.YtbheedkpbbmlcaaGreatDoor.star (Cl b 105 [a.1,v]) (Row Hp.nil 5 (.int .u8) v (bl l))) ⟨a,ha⟩ (Sep.close v (Sep.join h))
theorem Bld.fresh {E:En} {K:Hp} {L:List ab} {w:World} {b:Nat} (h:Sep E K (Cl b 105 [.pointer none,.slice none 0 0] :: L) w):Sep E K (Bld b [] :: L) w :=
 Bld.make (.inl rfl) (Sep.swap (Sep.rowNil h))
set_option maxHeartbeats 400000 in
theorem Bq (b:Nat) (v:Value) (w:World) (hbk:w.heap[b]? = some (.cells #[.pointer none,v] 105 (0,0))) :
   Calls Tryz.prog 96 #[.pointer (some ⟨b,0,none⟩)] w fun e w'=>e = .returned (.tuple #[])∧w'=w.setCell ⟨b,0,none⟩ (.pointer (some ⟨b,0,none⟩)):=by
 have c0:w.cell? ⟨b,0,none⟩=some (.pointer none):=by simp [World.cell?,hbk]
 have f0:w.frozen? ⟨b,0,none⟩=false:=Lib.frozen_of_heap hbk 0
 have S:w.shape? b=some (105,2):=by simp [World.shape?,hbk]
 clear hbk
 obtain ⟨j,hj,hjs⟩:=Option.map_eq_some_iff.1 (show (Tryz.prog.info? 105).map (·.size)=some 2 by kernel_rfl)
 go_enter Tryz.func96,Tryz.ntmps96
 go_wp2
 rw [Lib.run_to_unsafe w ⟨b,0,none⟩ Tryz.underlying102 Tryz.underlying191 hj (by rw [hjs]; decide) S (Nat.zero_lt_succ 1)]
 simp only [Result.andThen]
 rw [Oper.upon_value]
 go_wp2
 rw [run_callFunc_extern Tryz.func126 (by kernel_rfl) (by kernel_rfl) (by kernel_rfl) (e:=Extern.AbiNoEscape.same) (by kernel_rfl)]
 rw [Lib.run_noEscape]
 simp only [Result.andThen]
 rw [Oper.upon_value]
 go_wp2
 rw [Lib.run_from_unsafe w ⟨b,0,none⟩ Tryz.underlying191 Tryz.underlying102 hj S (by kernel_rfl)]
 simp only [Result.andThen]
 rw [Oper.upon_value]
 go_wp2
 go_end0
 exact ⟨rfl,rfl⟩
theorem Bf (b:Nat) (v:Value) (w:World) (hbk:w.heap[b]? = some (.cells #[.pointer (some ⟨b,0,none⟩),v] 105 (0,0))) :
   Calls Tryz.prog 96 #[.pointer (some ⟨b,0,none⟩)] w fun e w'=>e = .returned (.tuple #[])∧w'=w:=by
 have c0:w.cell? ⟨b,0,none⟩=some (.pointer (some ⟨b,0,none⟩)):=by simp [World.cell?,hbk]
 clear hbk
 obtain ⟨j,hj,hjs⟩:=Option.map_eq_some_iff.1 (show (Tryz.prog.info? 105).map (·.size)=some 2 by kernel_rfl)
 go_enter Tryz.func96,Tryz.ntmps96
 go_wp2
 rw [Lib.run_neq_ptr_same w _ Tryz.underlying102 hj]
 go_wp2
 go_end0
 exact ⟨rfl,rfl⟩
theorem BH {K:Hp} (b:Nat) (a v:Value) (ha:a = .pointer none∨a = .pointer (some ⟨b,0,none⟩)):Tr Tryz.prog 96 #[.pointer (some ⟨b,0,none⟩)] K [Cl b 105 [a,v]] (fun u K' L'=>(.tuple #[]=u∧L'=[Cl b 105 [.pointer (some ⟨b,0,none⟩),v]])∧K=K'):=fun E w F hs=>by
 have hc:=hs.cl
 rcases ha with rfl | rfl
 . refine (Bq b v w hc).mono fun e w' ⟨h1,h2⟩=>?_
   subst h1; subst h2
   exact ⟨_,K,_,rfl,⟨⟨rfl,rfl⟩,rfl⟩,Hp.le_refl K,Sep.setCell hs 0 _⟩
 . refine (Bf b v w hc).mono fun e w' ⟨h1,h2⟩=>?_
   subst h1; subst h2
   exact ⟨_,K,_,rfl,⟨⟨rfl,rfl⟩,rfl⟩,Hp.le_refl K,hs⟩
theorem ug:Inf Tryz.prog 5 (.int .u8 0) 1 1:=by unfold Inf; kernel_rfl
theorem zN:(Tryz.prog.info? 103).map (·.size)=some 1:=by kernel_rfl
theorem qg:Tryz.prog.cellsOf 103≠0:=by decide +kernel
theorem zz:dz Tryz.prog 103=true:=by kernel_rfl
theorem vz {K:Hp} {pba:Nat} {a0 v:Value} {l:List Int} (ha:a0 = .pointer none∨a0 = .pointer (some ⟨pba,0,none⟩)):Tr Tryz.prog 96 #[.pointer (some ⟨pba,0,none⟩)] K [Cl pba 105 [a0,v],Row Hp.nil 5 (.int .u8) v l] (fun u K' L'=>(.tuple #[]=u∧L'=[Cl pba 105 [.pointer (some ⟨pba,0,none⟩),v],Row Hp.nil 5 (.int .u8) v l])∧K=K'):=fun E w F hs =>
 (BH pba a0 v ha E w (Row Hp.nil 5 (.int .u8) v l :: F) hs).mono fun e w' ⟨u,K',L',h1,⟨⟨h2,h3⟩,h4⟩,h5,h6⟩=>by
   subst h3
   exact ⟨u,K',_,h1,⟨⟨h2,rfl⟩,h4⟩,h5,h6⟩
set_option maxRecDepth 100000 in
theorem Bt {K:Hp} {pba:Nat} {a0:Value} {ad:Option Addr} {cp:Nat} {l z:List Int} {c:Int} (ha:a0 = .pointer none∨a0 = .pointer (some ⟨pba,0,none⟩)) (hz:Go.Proofs.YtbheedkpbbmlcaaGreatDoor.app l [c]=some z) :
   Tr Tryz.prog 155 #[.pointer (some ⟨pba,0,none⟩),.int .u8 c] K [Cl pba 105 [a0,.slice ad l.length cp],Row Hp.nil 5 (.int .u8) (.slice ad l.length cp) l] (fun v K' L'=>(∃ (ad2:Option Addr) (cp2:Nat),.nilIface=v∧L'=[Cl pba 105 [.pointer (some ⟨pba,0,none⟩),.slice ad2 z.length cp2],Row Hp.nil 5 (.int .u8) (.slice ad2 z.length cp2) z])∧K=K'):=by
 refine Tr.k ?_
 refine Tr.of Tryz.func155 rfl Tryz.ntmps155 rfl (fun E F=>?_)
 refine CJ.seq ?_
 refine CJ.region ?_
 refine J.val (v := .nilIface) rfl rfl (V.as rfl) ?_
 refine J.nil ?_
 refine CJ.seq ?_
 refine CJ.region ?_
 refine J.val rfl rfl (V.mv rfl) ?_
 refine J.op rfl (A.call (L1:=[Cl pba 105 [a0,.slice ad l.length cp],Row Hp.nil 5 (.int .u8) (.slice ad l.length cp) l]) Tryz.call96 rfl (vz ha) rfl rfl) ?_
 rintro _ _ _ ⟨v23,_,rfl,⟨⟨rfl,rfl⟩,rfl⟩,_,rfl⟩
 refine J.nil ?_
 refine CJ.seq ?_
 refine CJ.region ?_
 refine J.val rfl rfl (V.mv rfl) ?_
 refine J.val rfl rfl (V.mv rfl) ?_
 refine J.val rfl rfl (V.nck rfl) ?_
 refine J.val rfl rfl (V.fad Tryz.underlying105 rfl qg rfl) ?_
 refine J.val (v := .slice ad l.length cp) rfl rfl (V.ld rfl (Ld.sc zz (Rd.cl 0 rfl rfl))) ?_
 refine J.val (v := .int .u8 c) rfl rfl (V.mv rfl) ?_
 refine J.op rfl (A.lit (K0:=Hp.nil) (ty:=(.int .u8)) (xs:=([c]:List Int)) Tryz.underlying103 ug rfl (by decide) rfl rfl rfl ⟨_,_,rfl,rfl,rfl⟩ rfl (by decide)) ?_
 rintro _ _ _ ⟨b27,rfl,rfl,rfl⟩
 refine J.front 2 rfl ?_
 refine J.front 1 rfl ?_
 refine J.front 1 rfl ?_
 refine J.op rfl (A.appR (Kr:=Hp.nil) Tryz.underlying103 ug rfl rfl (by decide) (by decide) rfl rfl (Els.flat rfl) (Els.flat rfl) hz) ?_
 rintro _ _ _ ⟨v32,rfl,rfl,rfl⟩
 refine J.wit Row.form ?_
 rintro ⟨ad33,cp34,rfl,_,_,hn35⟩
 refine J.val rfl rfl (V.nck rfl) ?_
 refine J.val rfl rfl (V.fad Tryz.underlying105 rfl qg rfl) ?_
 refine J.front 1 rfl ?_
 refine J.op rfl (A.store1 (v := .slice ad33 z.length cp34) (cs':=[.pointer (some ⟨pba,0,none⟩),.slice ad33 z.length cp34]) zN rfl rfl rfl rfl rfl rfl) ?_
 rintro _ _ _ ⟨rfl,rfl,rfl⟩
 refine J.nil ?_
 refine CJ.seq ?_
 refine CJ.region ?_
 refine J.val (v := .nilIface) rfl rfl (V.as rfl) ?_
 refine J.nil ?_
 refine CJ.ret ?_
 exact ⟨_,[Cl pba 105 [.pointer (some ⟨pba,0,none⟩),.slice ad33 z.length cp34],Row Hp.nil 5 (.int .u8) (.slice ad33 z.length cp34) z],Res.one rfl rfl,⟨ad33,cp34,rfl,rfl⟩,(Hp.le_refl _),fun w hs=>hs⟩
theorem BG {K:Hp} {pb:Nat} {l:List UInt8} {c:Int} {r:List UInt8} (h:wrB l c=some r) :
   Tr Tryz.prog 155 #[.pointer (some ⟨pb,0,none⟩),.int .u8 c] K [Bld pb l] (fun v K' L'=>(∃ (l1:List UInt8),l1=r ∧ .nilIface=v∧L'=[Bld pb l1])∧K=K'):=by
 refine Tr.exA fun a=>Tr.exA fun v=>Tr.star fun E w F hs=>?_
 obtain ⟨ad,cp,rfl,-⟩:=Sep.fact (Sep.swap hs) Row.form
 refine (Bt (K:=K) (pba:=pb) a.2 (Do h) E w F hs).mono fun e w' ⟨u,K',L',h1,⟨⟨ad2,cp2,h2,h3⟩,h4⟩,h5,h6⟩=>?_
 subst h3
 exact ⟨u,K',[Bld pb r],h1,⟨⟨r,rfl,h2,rfl⟩,h4⟩,h5,Bld.make (.inr rfl) h6⟩
set_option maxRecDepth 100000 in
theorem Bb {K:Hp} {pba:Nat} {a0:Value} {ad:Option Addr} {cp:Nat} {l z:List Int} {s:List UInt8} (ha:a0 = .pointer none∨a0 = .pointer (some ⟨pba,0,none⟩)) (hz:Go.Proofs.YtbheedkpbbmlcaaGreatDoor.app l (fU s)=some z) :
   Tr Tryz.prog 60 #[.pointer (some ⟨pba,0,none⟩),.string ⟨s.toArray⟩] K [Cl pba 105 [a0,.slice ad l.length cp],Row Hp.nil 5 (.int .u8) (.slice ad l.length cp) l] (fun v K' L'=>(∃ (ad2:Option Addr) (cp2:Nat),.tuple #[.int .i64 ((s.length:Nat):Int),.nilIface]=v∧L'=[Cl pba 105 [.pointer (some ⟨pba,0,none⟩),.slice ad2 z.length cp2],Row Hp.nil 5 (.int .u8) (.slice ad2 z.length cp2) z])∧K=K'):=by
 refine Tr.k ?_
 refine Tr.of Tryz.func60 rfl Tryz.ntmps60 rfl (fun E F=>?_)
 refine CJ.seq ?_
 refine CJ.region ?_
 refine J.val (v := .int .i64 0) rfl rfl (V.as rfl) ?_
 refine J.val (v := .nilIface) rfl rfl (V.as rfl) ?_
 refine J.nil ?_
 refine CJ.seq ?_
 refine CJ.region ?_
 refine J.val rfl rfl (V.mv rfl) ?_
 refine J.op rfl (A.call (L1:=[Cl pba 105 [a0,.slice ad l.length cp],Row Hp.nil 5 (.int .u8) (.slice ad l.length cp) l]) Tryz.call96 rfl (vz ha) rfl rfl) ?_
 rintro _ _ _ ⟨v23,_,rfl,⟨⟨rfl,rfl⟩,rfl⟩,_,rfl⟩
 refine J.nil ?_
 refine CJ.seq ?_
 refine CJ.region ?_
 refine J.val rfl rfl (V.mv rfl) ?_
 refine J.val rfl rfl (V.mv rfl) ?_
 refine J.val rfl rfl (V.nck rfl) ?_
 refine J.val rfl rfl (V.fad Tryz.underlying105 rfl qg rfl) ?_
 refine J.val (v := .slice ad l.length cp) rfl rfl (V.ld rfl (Ld.sc zz (Rd.cl 0 rfl rfl))) ?_
 refine J.val (v := .string ⟨s.toArray⟩) rfl rfl (V.mv rfl) ?_
 refine J.front 1 rfl ?_
 refine J.op rfl (A.appS Tryz.underlying103 Tryz.underlying9 ug rfl rfl hz) ?_
 rintro _ _ _ ⟨v32,rfl,rfl,rfl⟩
 refine J.wit Row.form ?_
 rintro ⟨ad33,cp34,rfl,_,_,hn35⟩
 refine J.val rfl rfl (V.nck rfl) ?_
 refine J.val rfl rfl (V.fad Tryz.underlying105 rfl qg rfl) ?_
 refine J.front 1 rfl ?_
 refine J.op rfl (A.store1 (v := .slice ad33 z.length cp34) (cs':=[.pointer (some ⟨pba,0,none⟩),.slice ad33 z.length cp34]) zN rfl rfl rfl rfl rfl rfl) ?_
 rintro _ _ _ ⟨rfl,rfl,rfl⟩
 refine J.nil ?_
 refine CJ.seq ?_
 refine CJ.region ?_
 refine J.val (v := .string ⟨s.toArray⟩) rfl rfl (V.mv rfl) ?_
 refine J.val (v := .int .i64 (((s.length:Nat):Int))) rfl rfl (V.lens Tryz.underlying9 rfl) ?_
 refine J.val (v := .int .i64 (((s.length:Nat):Int))) rfl rfl (V.as rfl) ?_
 refine J.val (v := .nilIface) rfl rfl (V.as rfl) ?_
 refine J.nil ?_
 refine CJ.ret ?_
 exact ⟨_,[Cl pba 105 [.pointer (some ⟨pba,0,none⟩),.slice ad33 z.length cp34],Row Hp.nil 5 (.int .u8) (.slice ad33 z.length cp34) z],Res.two rfl rfl rfl,⟨ad33,cp34,rfl,rfl⟩,(Hp.le_refl _),fun w hs=>hs⟩
theorem Dm {l s r:List UInt8} (h:wrS l s=some r):app (bl l) (fU s)=some (bl r):=by
 unfold wrS at h
 obtain ⟨h1,rfl⟩:=gv h
 rw [show fU s=bl s from rfl,aj (by rw [pT,pT]; exact h1),zj]
theorem Bg {K:Hp} {pb:Nat} {l s:List UInt8} {r:List UInt8} (h:wrS l s=some r) :
   Tr Tryz.prog 60 #[.pointer (some ⟨pb,0,none⟩),.string ⟨s.toArray⟩] K [Bld pb l] (fun v K' L'=>(∃ (l1:List UInt8),l1=r ∧ .tuple #[.int .i64 ((s.length:Nat):Int),.nilIface]=v∧L'=[Bld pb l1])∧K=K'):=by
 refine Tr.exA fun a=>Tr.exA fun v=>Tr.star fun E w F hs=>?_
 obtain ⟨ad,cp,rfl,-⟩:=Sep.fact (Sep.swap hs) Row.form
 refine (Bb (K:=K) (pba:=pb) a.2 (Dm h) E w F hs).mono fun e w' ⟨u,K',L',h1,⟨⟨ad2,cp2,h2,h3⟩,h4⟩,h5,h6⟩=>?_
 subst h3
 exact ⟨u,K',[Bld pb r],h1,⟨⟨r,rfl,h2,rfl⟩,h4⟩,h5,Bld.make (.inr rfl) h6⟩
structure Kp (w w':World) (g:Option Nat):Prop where
 os:w'.os=w.os
 tape:w'.tape=w.tape
 out:w'.output=w.output
 block:∀ n o,w.heap[n]? = some o→g≠some n→w'.heap[n]? = some o
theorem Kp.drew (w:World) (g:Option Nat):Kp w w.drew g:=⟨rfl,rfl,rfl,fun _ _ h _=>h⟩
theorem Kp.alloc {w w':World} {g:Option Nat} (h:Kp w w' g) (o:Obj):Kp w (w'.alloc o) g:=⟨h.os,h.tape,h.out,fun n x hx hn=>by
 have:=h.block n x hx hn
 rw [Below.heap_alloc _ _ _ (lt_of_block this)]; exact this⟩
theorem Kp.freeze {w w':World} {g:Nat} (h:Kp w w' (some g)) (m:Nat):Kp w (w'.freeze ⟨g,0,none⟩ m) (some g):=by
 unfold World.freeze
 split
 . exact h
 . refine ⟨h.os,h.tape,h.out,fun n x hx hn=>?_⟩
   have h1:=h.block n x hx hn
   have hne:g≠n:=fun e=>hn (by rw [e])
   show (w'.heap.modify g _)[n]? = some x
   rw [Array.getElem?_modify]; simp [hne,h1]
set_option maxHeartbeats 1000000 in
theorem B5 (b:Nat) (p v:Value) (l:List UInt8) (w:World) (hbk:w.heap[b]? = some (.cells #[p,v] 105 (0,0))) (hown:w.ownsRow 0 5 1 v l.length (Lib.byteCells l)) :
   Calls Tryz.prog 61 #[.pointer (some ⟨b,0,none⟩)] w fun e w'=>e = .returned (.string ⟨l.toArray⟩)∧Kp w w' v.ownBlock:=by
 have hlt:=lt_of_block hbk
 have hUS0:∀ W q,(Builtin.unsafeString_ #[153,3] 9 #[.pointer q,.int .i64 0]).run Tryz.prog W = .ok (.string .empty) W:=fun W q=>Lib.run_unsafeString_none W _ _ _ q
 rcases hown.2 with ⟨rfl,h0⟩ | ⟨g,cap,cur,rfl,hbg,hg,hnc,hcm,hcs,htake⟩
 . obtain rfl:l=[]:=List.length_eq_zero_iff.1 h0
   have c1:w.drew.cell? ⟨b,1,none⟩=some (.slice none 0 0):=by
     have:w.drew.heap[b]? = some (.cells #[p,.slice none 0 0] 105 (0,0)):=hbk
     rw [Lib.cell_of_heap this]; rfl
   have hSD:(Builtin.unsafeSliceData_ #[103] 153 #[.slice none 0 0]).run Tryz.prog w.drew = .ok (.pointer none) w.drew:=rfl
   clear hbk hown h0
   go_enter Tryz.func61,Tryz.ntmps61
   go_wp2
   go_region
   all_goals (go_wp2; go_ret; exact ⟨rfl,Kp.drew w _⟩)
 . by_cases hl0:l=[]
   . subst hl0
     by_cases hc0:cap=0
     . subst hc0
       have hSD:(Builtin.unsafeSliceData_ #[103] 153 #[.slice (some ⟨g,0,none⟩) 0 0]).run Tryz.prog w.drew = .ok (.pointer (some ⟨w.drew.heap.size,0,none⟩)) (w.drew.alloc (.view ⟨g,0,none⟩ 5)) :=
         Lib.run_unsafeSliceData_zero w.drew _ _ 5 Tryz.underlying153 ⟨g,0,none⟩ 0 (5,cur.size) (by have hg':w.drew.heap[g]? = some (.cells cur 5 (0,0)):=hg; simp [World.shape?,hg'])
       have c1:w.drew.cell? ⟨b,1,none⟩=some (.slice (some ⟨g,0,none⟩) 0 0):=by
         have:w.drew.heap[b]? = some (.cells #[p,.slice (some ⟨g,0,none⟩) 0 0] 105 (0,0)):=hbk
         rw [Lib.cell_of_heap this]; rfl
       have c2:(w.drew.alloc (.view ⟨g,0,none⟩ 5)).cell? ⟨b,1,none⟩=some (.slice (some ⟨g,0,none⟩) 0 0):=by
         have:(w.drew.alloc (.view ⟨g,0,none⟩ 5)).heap[b]? = _:=(Lib.alloc_old w.drew _ b hlt).trans hbk
         rw [Lib.cell_of_heap this]; rfl
       have c3:(w.alloc (.view ⟨g,0,none⟩ 5)).drew.cell? ⟨b,1,none⟩=some (.slice (some ⟨g,0,none⟩) 0 0):=c2
       have c0:w.cell? ⟨b,1,none⟩=some (.slice (some ⟨g,0,none⟩) 0 0):=c1
       clear hbk hown htake hcs hg
       go_enter Tryz.func61,Tryz.ntmps61
       go_wp2
       go_region
       all_goals (go_wp2; go_ret; exact ⟨rfl,(Kp.drew w _).alloc _⟩)
     . have c1:w.drew.cell? ⟨b,1,none⟩=some (.slice (some ⟨g,0,none⟩) 0 cap):=by
         have:w.drew.heap[b]? = some (.cells #[p,.slice (some ⟨g,0,none⟩) 0 cap] 105 (0,0)):=hbk
         rw [Lib.cell_of_heap this]; rfl
       have hSD:(Builtin.unsafeSliceData_ #[103] 153 #[.slice (some ⟨g,0,none⟩) 0 cap]).run Tryz.prog w.drew = .ok (.pointer (some ⟨g,0,none⟩)) w.drew :=
         Lib.run_unsafeSliceData_row _ _ _ _ _ _ hc0
       clear hbk hown htake hcs hg hc0
       go_enter Tryz.func61,Tryz.ntmps61
       go_wp2
       go_region
       all_goals (go_wp2; go_ret; exact ⟨rfl,Kp.drew w _⟩)
   . have hl1:l.length≠0:=by simpa using hl0
     have c1:w.drew.cell? ⟨b,1,none⟩=some (.slice (some ⟨g,0,none⟩) l.length cap):=by
       have:w.drew.heap[b]? = some (.cells #[p,.slice (some ⟨g,0,none⟩) l.length cap] 105 (0,0)):=hbk
       rw [Lib.cell_of_heap this]; rfl
     have hSD:(Builtin.unsafeSliceData_ #[103] 153 #[.slice (some ⟨g,0,none⟩) l.length cap]).run Tryz.prog w.drew = .ok (.pointer (some ⟨g,0,none⟩)) w.drew :=
       Lib.run_unsafeSliceData_row _ _ _ _ _ _ (by omega)
     have hUS:(Builtin.unsafeString_ #[153,3] 9 #[.pointer (some ⟨g,0,none⟩),.int .i64 l.length]).run Tryz.prog w.drew = .ok (.string ⟨l.toArray⟩) (w.drew.freeze ⟨g,0,none⟩ l.length):=by
       refine Lib.run_unsafeString_row w.drew 153 3 9 5 Tryz.underlying153 (by kernel_rfl) g cur.size (by have hg':w.drew.heap[g]? = some (.cells cur 5 (0,0)):=hg; simp [World.shape?,hg']) l hl0 (by omega) (by unfold maxLen at hcm; omega) ?_
       intro j x hx
       exact hown.cells (g:=g) rfl j (.int .u8 x.toNat) (by simp [Lib.byteCells,hx])
     clear hbk hown htake hcs hg hl0 hl1 hUS0
     go_enter Tryz.func61,Tryz.ntmps61
     go_wp2
     go_region
     all_goals (go_wp2; go_ret; exact ⟨rfl,(Kp.drew w (some g)).freeze _⟩)
theorem Co {K:Hp} {pb:Nat} {l:List UInt8} {r:List UInt8} (h:some l=some r) :
   Tr Tryz.prog 61 #[.pointer (some ⟨pb,0,none⟩)] K [Bld pb l] (fun v K' L'=>(∃ (s1:List UInt8),s1=r ∧ .string ⟨s1.toArray⟩=v∧L'=[])∧K=K'):=by
 obtain rfl:=Option.some.inj h
 refine Tr.exA fun a=>Tr.exA fun v=>Tr.star fun E w F hs=>?_
 have hbk:=hs.cl
 have hsw:=Sep.swap hs
 obtain ⟨h0,⟨cs,h1,h2⟩,h3,h4⟩:=hsw
 have hown:=h2.owns (w:=w) (fun n o e=>h4.sub n o (Hp.join_right e (h3 n o e)))
 obtain rfl:=px h1
 rw [pT] at hown
 have e:(bl l).map (Value.int .u8)=Lib.byteCells l:=by simp [bl,Lib.byteCells]
 rw [e] at hown
 refine (B5 pb a.1 v l w hbk hown).mono fun e w' ⟨h5,h6⟩=>?_
 subst h5
 refine ⟨_,K,[],rfl,⟨⟨l,rfl,rfl,rfl⟩,rfl⟩,Hp.le_refl K,?_⟩
 have hturn:Sep E K (emp :: Cl pb 105 [a.1,v] :: F) w':=by
   refine Sep.turn (Sep.swap hs) (fun he=>⟨h6.os.trans he.1,h6.tape.trans he.2.1,h6.out.trans he.2.2⟩) (fun h hr hle=>⟨Hp.nil,rfl,fun n o e=>(by cases e),fun n o e hn=>h6.block n o e (fun e'=>?_)⟩)
   obtain ⟨cs',_,hr2⟩:=hr
   exact (hr2.block n).1 hn e'
 exact hturn.drop.drop
end
section
variable [BldA]
def rO:Spec:=⟨155,⟨[(0,.ptr 0 0),(1,.dat (.int .u8))],[⟨none,0,[],true,false,none,false⟩]⟩,[⟨[(0,.lit (.raw .nilIface))],[⟨some 0,0,[],true,false,none,false⟩]⟩],fun x=>wrB x.2 x.1⟩
theorem BE (hb:∀ b l,BldA.bat b l=Bld b l):cw Tryz.prog rO:=by
 intro x r hr vs u hu m K args hgk hm hH hsl E w F hs
 have hu':rO.inn.un (TL.list _ x) 0=some ([(0,.ptr 0 0),(1,.int .u8 x.1)],⟨[],1,[.bld 0 x.2],[]⟩):=rfl
 rw [hu'] at hu
 cases hu
 replace hm:m.length=1:=hm
 obtain ⟨b,hb0⟩:=hH _ (List.mem_singleton.2 rfl)
 obtain ⟨v,q,rfl,⟨b',h1,rfl⟩,v2,q2,rfl,h2,rfl⟩:=hsl
 rw [hb0] at h1
 cases h1
 obtain rfl:v2 = .int .u8 x.1:=h2
 have hs':Sep E K (HA.conc m (.bld 0 x.2) :: F) w:=hs
 simp only [HA.conc,hb0] at hs'
 have hs2:Sep E K (Bld b x.2 :: F) w:=by have e:=hb b x.2; rw [← e]; exact hs'
 refine (BG (K:=K) hr E w F hs2).mono ?_
 rintro e w' ⟨v,K',L',rfl,⟨⟨l1,rfl,rfl,rfl⟩,rfl⟩,h1,h2⟩
 refine ⟨_,K,_,rfl,⟨[(0,.raw .nilIface)],⟨[],1,[.bld 0 l1],[]⟩,m,rfl,List.prefix_rfl,hm,?_,rfl,rfl⟩,h1,?_⟩
 . intro a ha
   obtain rfl:=List.mem_singleton.1 ha
   exact ⟨b,hb0⟩
 . show Sep E K (HA.conc m (.bld 0 l1) :: F) w'
   simp only [HA.conc,hb0]
   have e:=hb b l1
   rw [show BldA.bat b l1=Bld b l1 from e]
   exact h2
def rI:Spec:=⟨60,⟨[(0,.ptr 0 0),(1,.dat .str)],[⟨none,0,[],true,false,none,false⟩]⟩,[⟨[(0,.tup [.any,.lit (.raw .nilIface)])],[⟨some 0,0,[],true,false,none,false⟩]⟩],fun x=>wrS x.2 x.1⟩
theorem Bh (hb:∀ b l,BldA.bat b l=Bld b l):cw Tryz.prog rI:=by
 intro x r hr vs u hu m K args hgk hm hH hsl E w F hs
 have hu':rI.inn.un (TL.list _ x) 0=some ([(0,.ptr 0 0),(1,.str x.1)],⟨[],1,[.bld 0 x.2],[]⟩):=rfl
 rw [hu'] at hu
 cases hu
 replace hm:m.length=1:=hm
 obtain ⟨b,hb0⟩:=hH _ (List.mem_singleton.2 rfl)
 obtain ⟨v,q,rfl,⟨b',h1,rfl⟩,v2,q2,rfl,h2,rfl⟩:=hsl
 rw [hb0] at h1
 cases h1
 obtain rfl:v2 = .string ⟨List.toArray (α:=UInt8) x.1⟩:=h2
 have hs':Sep E K (HA.conc m (.bld 0 x.2) :: F) w:=hs
 simp only [HA.conc,hb0] at hs'
 have hs2:Sep E K (Bld b x.2 :: F) w:=by have e:=hb b x.2; rw [← e]; exact hs'
 refine (Bg (K:=K) hr E w F hs2).mono ?_
 rintro e w' ⟨v,K',L',rfl,⟨⟨l1,rfl,rfl,rfl⟩,rfl⟩,h1,h2⟩
 refine ⟨_,K,_,rfl,⟨[(0,.tup [.any,.raw .nilIface])],⟨[],1,[.bld 0 l1],[]⟩,m,rfl,List.prefix_rfl,hm,?_,⟨_,rfl,_,_,rfl,trivial,_,_,rfl,rfl,rfl⟩,rfl⟩,h1,?_⟩
 . intro a ha
   obtain rfl:=List.mem_singleton.1 ha
   exact ⟨b,hb0⟩
 . show Sep E K (HA.conc m (.bld 0 l1) :: F) w'
   simp only [HA.conc,hb0]
   have e:=hb b l1
   rw [show BldA.bat b l1=Bld b l1 from e]
   exact h2
def rZ:Spec:=⟨61,⟨[(0,.ptr 0 0)],[⟨none,0,[],true,false,none,false⟩]⟩,[⟨[(0,.dat .str)],[]⟩],fun x=>some x⟩
theorem Cj (hb:∀ b l,BldA.bat b l=Bld b l):cw Tryz.prog rZ:=by
 intro x r hr vs u hu m K args hgk hm hH hsl E w F hs
 have hu':rZ.inn.un (TL.list _ x) 0=some ([(0,.ptr 0 0)],⟨[],1,[.bld 0 x],[]⟩):=rfl
 rw [hu'] at hu
 cases hu
 replace hm:m.length=1:=hm
 obtain ⟨b,hb0⟩:=hH _ (List.mem_singleton.2 rfl)
 obtain ⟨v,q,rfl,⟨b',h1,rfl⟩,rfl⟩:=hsl
 rw [hb0] at h1
 cases h1
 have hs':Sep E K (HA.conc m (.bld 0 x) :: F) w:=hs
 simp only [HA.conc,hb0] at hs'
 have hs2:Sep E K (Bld b x :: F) w:=by have e:=hb b x; rw [← e]; exact hs'
 refine (Co (K:=K) hr E w F hs2).mono ?_
 rintro e w' ⟨v,K',L',rfl,⟨⟨s1,rfl,rfl,rfl⟩,rfl⟩,h1,h2⟩
 exact ⟨_,K,[],rfl,⟨[(0,.str s1)],⟨[],1,[],[]⟩,m,rfl,List.prefix_rfl,hm,fun a h=>(by cases h),rfl,rfl⟩,h1,h2⟩
end
end
end Go.Proofs.YtbheedkpbbmlcaaGreatDoor
namespace Go.Proofs
open Go.Shelf
def Tryz.lays156_ren:Go.Shelf.Ren:=⟨fun | 156=>26 | 165=>59 | 166=>60 | 169=>61 | 240=>96 | 241=>97 | 276=>126 | 277=>127 | n=>n,fun | 31=>55 | 9=>9 | 3=>3 | 4=>4 | 0=>0 | 20=>20 | 72=>105 | 76=>109 | 70=>102 | 37=>103 | 75=>108 | 127=>153 | 164=>191 | 5=>5 | 80=>111 | n=>n,fun | n=>n⟩
theorem Tryz.lays156:Go.Proofs.Lays.n156 Tryz.prog Tryz.lays156_ren:={
  mixed:=by kernel_rfl
  f156:=Tryz.func26.trans (congrArg some (by kernel_rfl))
  f165:=Tryz.func59.trans (congrArg some (by kernel_rfl))
  f166:=Tryz.func60.trans (congrArg some (by kernel_rfl))
  f169:=Tryz.func61.trans (congrArg some (by kernel_rfl))
  f240:=Tryz.func96.trans (congrArg some (by kernel_rfl))
  f241:=Tryz.func97.trans (congrArg some (by kernel_rfl))
  f276:=Tryz.func126.trans (congrArg some (by kernel_rfl))
  f277:=Tryz.func127.trans (congrArg some (by kernel_rfl))
  t0:=Tryz.underlying0
  a0:=Tryz.isAgg0
  z0:=Tryz.sizeOf0
  v0:=Tryz.zeroValue0
  t3:=Tryz.underlying3
  a3:=Tryz.isAgg3
  z3:=Tryz.sizeOf3
  v3:=Tryz.zeroValue3
  t4:=Tryz.underlying4
  a4:=Tryz.isAgg4
  z4:=Tryz.sizeOf4
  v4:=Tryz.zeroValue4
  t9:=Tryz.underlying9
  a9:=Tryz.isAgg9
  z9:=Tryz.sizeOf9
  v9:=Tryz.zeroValue9
  t20:=Tryz.underlying20
  a20:=Tryz.isAgg20
  z20:=Tryz.sizeOf20
  v20:=Tryz.zeroValue20
  t31:=Tryz.underlying55
  a31:=Tryz.isAgg55
  z31:=Tryz.sizeOf55
  v31:=Tryz.zeroValue55
  t37:=Tryz.underlying103
  a37:=Tryz.isAgg103
  z37:=Tryz.sizeOf103
  v37:=Tryz.zeroValue103
  t70:=Tryz.underlying102
  a70:=Tryz.isAgg102
  z70:=Tryz.sizeOf102
  v70:=Tryz.zeroValue102
  t72:=Tryz.underlying105
  a72:=Tryz.isAgg105
  z72:=Tryz.sizeOf105
  v72:=Tryz.zeroValue105
  t75:=Tryz.underlying108
  a75:=Tryz.isAgg108
  z75:=Tryz.sizeOf108
  v75:=Tryz.zeroValue108
  t76:=Tryz.underlying109
  a76:=Tryz.isAgg109
  z76:=Tryz.sizeOf109
  v76:=Tryz.zeroValue109
  t127:=Tryz.underlying153
  a127:=Tryz.isAgg153
  z127:=Tryz.sizeOf153
  v127:=Tryz.zeroValue153
  t164:=Tryz.underlying191
  a164:=Tryz.isAgg191
  z164:=Tryz.sizeOf191
  v164:=Tryz.zeroValue191 }
theorem Tryz.Builder_Extra_156:Builder.Extra Tryz.prog Tryz.lays156_ren:={
  sizeBuilder:=by kernel_rfl
  liesBuilder:=by kernel_rfl
  t5:=Tryz.underlying5
  a5:=Tryz.isAgg5
  z5:=Tryz.sizeOf5
  v5:=Tryz.zeroValue5
  infoByte:=by kernel_rfl
  cellsByte:=by kernel_rfl
  sizeByte:=by kernel_rfl
  neB5:=by decide }
open Go.RowKit in
/-- No element: the empty string; the jR is as it was. (Whatever the slice's address and capacity: a nil slice too.) (LAID: no walk: one application.) -/
theorem Tryz.strings_Join_none (a:Option Addr) (c:Nat) (sep:ByteArray) (w:World) :
    Calls Tryz.prog 26 #[.slice a 0 c,.string sep] w fun e w'=>e = .returned (.string ⟨#[]⟩)∧w'=w:=Any.strings_Join_none Tryz.lays156 Tryz.Builder_Extra_156 a c sep w
open Go.RowKit in
/-- strings.Join: "Join concatenates the elements of its first argument to create a single string. The separator string sep is placed between elements in the resulting string.": HOWEVER MANY ELEMENTS. Below the heap's end the jR is as it was. (LAID: no walk: one application.) -/
theorem Tryz.strings_Join (bk o c:Nat) (xs:List ByteArray) (sep:ByteArray) (w:World) (hcells:∀ (j:Nat) x,xs[j]? = some x→w.cell? ⟨bk,o + j,none⟩=some (.string x)) (hbk:bk < w.heap.size) (hN:xs.length≤140737488355328) (hcap:xs.length≤c) (hlen:(Lib.join (xs.map (·.data.toList)) sep.data.toList).length≤140737488355328) :
    Calls Tryz.prog 26 #[.slice (some ⟨bk,o,none⟩) xs.length c,.string sep] w fun e w'=>e = .returned (.string ⟨(Lib.join (xs.map (·.data.toList)) sep.data.toList).toArray⟩)∧Below w.heap.size w w':=Any.strings_Join Tryz.lays156 Tryz.Builder_Extra_156 bk o c xs sep w hcells hbk hN hcap hlen
def Tryz.lays143_ren:Go.Shelf.Ren:=⟨fun | 143=>89 | 219=>118 | 217=>142 | 225=>143 | 224=>144 | 267=>145 | 266=>159 | 314=>160 | n=>n,fun | 9=>9 | 3=>3 | 4=>4 | 5=>5 | 46=>203 | 146=>222 | 51=>221 | n=>n,fun | 1=>0 | n=>n⟩
theorem Tryz.lays143:Go.Proofs.Lays.n143 Tryz.prog Tryz.lays143_ren:={
  mixed:=by kernel_rfl
  f143:=Tryz.func89.trans (congrArg some (by kernel_rfl))
  f217:=Tryz.func142.trans (congrArg some (by kernel_rfl))
  f219:=Tryz.func118.trans (congrArg some (by kernel_rfl))
  f224:=Tryz.func144.trans (congrArg some (by kernel_rfl))
  f225:=Tryz.func143.trans (congrArg some (by kernel_rfl))
  f266:=Tryz.func159.trans (congrArg some (by kernel_rfl))
  f267:=Tryz.func145.trans (congrArg some (by kernel_rfl))
  f314:=Tryz.func160.trans (congrArg some (by kernel_rfl))
  t3:=Tryz.underlying3
  a3:=Tryz.isAgg3
  z3:=Tryz.sizeOf3
  v3:=Tryz.zeroValue3
  t4:=Tryz.underlying4
  a4:=Tryz.isAgg4
  z4:=Tryz.sizeOf4
  v4:=Tryz.zeroValue4
  t5:=Tryz.underlying5
  a5:=Tryz.isAgg5
  z5:=Tryz.sizeOf5
  v5:=Tryz.zeroValue5
  t9:=Tryz.underlying9
  a9:=Tryz.isAgg9
  z9:=Tryz.sizeOf9
  v9:=Tryz.zeroValue9
  t46:=Tryz.underlying203
  a46:=Tryz.isAgg203
  z46:=Tryz.sizeOf203
  v46:=Tryz.zeroValue203
  t51:=Tryz.underlying221
  a51:=Tryz.isAgg221
  z51:=Tryz.sizeOf221
  v51:=Tryz.zeroValue221
  t146:=Tryz.underlying222
  a146:=Tryz.isAgg222
  z146:=Tryz.sizeOf222
  v146:=Tryz.zeroValue222
  g1:=by kernel_rfl }
open Go.RowKit Go.Lib in
/-- strings.Index: "Index returns the index of the first instance of substr in s, or -1 if substr is not present in s.": IT RETURNS 'Lib.index s substr'; the jR is as it was. (LAID: no walk: one application.) -/
theorem Tryz.strings_Index (s sub:ByteArray) (m:Int) (w:World) (hs:s.size < 4294967281) (hm:w.cell? ⟨0,0,none⟩=some (.int .i64 m)) :
    Calls Tryz.prog 89 #[.string s,.string sub] w fun e w'=>e = .returned (.int .i64 (Lib.index s.data.toList sub.data.toList))∧w'=w:=Any.strings_Index Tryz.lays143 s sub m w hs hm
def Tryz.lays145_ren:Go.Shelf.Ren:=⟨fun | 145=>85 | 220=>114 | 219=>118 | 217=>142 | 225=>143 | 224=>144 | 267=>145 | 266=>159 | 314=>160 | n=>n,fun | 9=>9 | 4=>4 | 59=>137 | 3=>3 | 5=>5 | 46=>203 | 146=>222 | 51=>221 | n=>n,fun | 1=>0 | n=>n⟩
theorem Tryz.lays145:Go.Proofs.Lays.n145 Tryz.prog Tryz.lays145_ren:={
  mixed:=by kernel_rfl
  f145:=Tryz.func85.trans (congrArg some (by kernel_rfl))
  f217:=Tryz.func142.trans (congrArg some (by kernel_rfl))
  f219:=Tryz.func118.trans (congrArg some (by kernel_rfl))
  f220:=Tryz.func114.trans (congrArg some (by kernel_rfl))
  f224:=Tryz.func144.trans (congrArg some (by kernel_rfl))
  f225:=Tryz.func143.trans (congrArg some (by kernel_rfl))
  f266:=Tryz.func159.trans (congrArg some (by kernel_rfl))
  f267:=Tryz.func145.trans (congrArg some (by kernel_rfl))
  f314:=Tryz.func160.trans (congrArg some (by kernel_rfl))
  t3:=Tryz.underlying3
  a3:=Tryz.isAgg3
  z3:=Tryz.sizeOf3
  v3:=Tryz.zeroValue3
  t4:=Tryz.underlying4
  a4:=Tryz.isAgg4
  z4:=Tryz.sizeOf4
  v4:=Tryz.zeroValue4
  t5:=Tryz.underlying5
  a5:=Tryz.isAgg5
  z5:=Tryz.sizeOf5
  v5:=Tryz.zeroValue5
  t9:=Tryz.underlying9
  a9:=Tryz.isAgg9
  z9:=Tryz.sizeOf9
  v9:=Tryz.zeroValue9
  t46:=Tryz.underlying203
  a46:=Tryz.isAgg203
  z46:=Tryz.sizeOf203
  v46:=Tryz.zeroValue203
  t51:=Tryz.underlying221
  a51:=Tryz.isAgg221
  z51:=Tryz.sizeOf221
  v51:=Tryz.zeroValue221
  t59:=Tryz.underlying137
  a59:=Tryz.isAgg137
  z59:=Tryz.sizeOf137
  v59:=Tryz.zeroValue137
  t146:=Tryz.underlying222
  a146:=Tryz.isAgg222
  z146:=Tryz.sizeOf222
  v146:=Tryz.zeroValue222
  g1:=by kernel_rfl }
open Go.RowKit Go.Lib in
/-- strings.Cut: "Cut slices s around the first instance of sep, returning the text before and after sep. The found result reports whether sep appears in s. If sep does not appear in s, cut returns s, "", false.": IT RETURNS 'Lib.cut s sep'; the jR is as it was but for the count of draws. (LAID: no walk: one application.) -/
theorem Tryz.strings_Cut (s sep:ByteArray) (m:Int) (w:World) (hs:s.size < 4294967281) (hm:w.cell? ⟨0,0,none⟩=some (.int .i64 m)) :
    Calls Tryz.prog 85 #[.string s,.string sep] w fun e w'=>e = .returned (.tuple #[.string ⟨(Lib.cut s.data.toList sep.data.toList).1.toArray⟩,.string ⟨(Lib.cut s.data.toList sep.data.toList).2.1.toArray⟩,.bool (Lib.cut s.data.toList sep.data.toList).2.2])∧∃ n,w'=w.drewN n:=Any.strings_Cut Tryz.lays145 s sep m w hs hm
def Tryz.lays146_ren:Go.Shelf.Ren:=⟨fun | 146=>20 | 221=>51 | 268=>87 | 138=>88 | 143=>89 | 195=>115 | 197=>116 | 218=>117 | 219=>118 | 260=>141 | 217=>142 | 225=>143 | 224=>144 | 267=>145 | 266=>159 | 314=>160 | n=>n,fun | 9=>9 | 31=>55 | 3=>3 | 4=>4 | 0=>0 | 105=>178 | 21=>21 | 5=>5 | 46=>203 | 119=>217 | 139=>220 | 138=>219 | 146=>222 | 51=>221 | n=>n,fun | 1=>0 | 3=>1 | 4=>2 | n=>n⟩
theorem Tryz.lays146:Go.Proofs.Lays.n146 Tryz.prog Tryz.lays146_ren:={
  mixed:=by kernel_rfl
  f138:=Tryz.func88.trans (congrArg some (by kernel_rfl))
  f143:=Tryz.func89.trans (congrArg some (by kernel_rfl))
  f146:=Tryz.func20.trans (congrArg some (by kernel_rfl))
  f195:=Tryz.func115.trans (congrArg some (by kernel_rfl))
  f197:=Tryz.func116.trans (congrArg some (by kernel_rfl))
  f217:=Tryz.func142.trans (congrArg some (by kernel_rfl))
  f218:=Tryz.func117.trans (congrArg some (by kernel_rfl))
  f219:=Tryz.func118.trans (congrArg some (by kernel_rfl))
  f221:=Tryz.func51.trans (congrArg some (by kernel_rfl))
  f224:=Tryz.func144.trans (congrArg some (by kernel_rfl))
  f225:=Tryz.func143.trans (congrArg some (by kernel_rfl))
  f260:=Tryz.func141.trans (congrArg some (by kernel_rfl))
  f266:=Tryz.func159.trans (congrArg some (by kernel_rfl))
  f267:=Tryz.func145.trans (congrArg some (by kernel_rfl))
  f268:=Tryz.func87.trans (congrArg some (by kernel_rfl))
  f314:=Tryz.func160.trans (congrArg some (by kernel_rfl))
  t0:=Tryz.underlying0
  a0:=Tryz.isAgg0
  z0:=Tryz.sizeOf0
  v0:=Tryz.zeroValue0
  t3:=Tryz.underlying3
  a3:=Tryz.isAgg3
  z3:=Tryz.sizeOf3
  v3:=Tryz.zeroValue3
  t4:=Tryz.underlying4
  a4:=Tryz.isAgg4
  z4:=Tryz.sizeOf4
  v4:=Tryz.zeroValue4
  t5:=Tryz.underlying5
  a5:=Tryz.isAgg5
  z5:=Tryz.sizeOf5
  v5:=Tryz.zeroValue5
  t9:=Tryz.underlying9
  a9:=Tryz.isAgg9
  z9:=Tryz.sizeOf9
  v9:=Tryz.zeroValue9
  t21:=Tryz.underlying21
  a21:=Tryz.isAgg21
  z21:=Tryz.sizeOf21
  v21:=Tryz.zeroValue21
  t31:=Tryz.underlying55
  a31:=Tryz.isAgg55
  z31:=Tryz.sizeOf55
  v31:=Tryz.zeroValue55
  t46:=Tryz.underlying203
  a46:=Tryz.isAgg203
  z46:=Tryz.sizeOf203
  v46:=Tryz.zeroValue203
  t51:=Tryz.underlying221
  a51:=Tryz.isAgg221
  z51:=Tryz.sizeOf221
  v51:=Tryz.zeroValue221
  t105:=Tryz.underlying178
  a105:=Tryz.isAgg178
  z105:=Tryz.sizeOf178
  v105:=Tryz.zeroValue178
  t119:=Tryz.underlying217
  a119:=Tryz.isAgg217
  z119:=Tryz.sizeOf217
  t138:=Tryz.underlying219
  a138:=Tryz.isAgg219
  z138:=Tryz.sizeOf219
  v138:=Tryz.zeroValue219
  t139:=Tryz.underlying220
  a139:=Tryz.isAgg220
  z139:=Tryz.sizeOf220
  v139:=Tryz.zeroValue220
  t146:=Tryz.underlying222
  a146:=Tryz.isAgg222
  z146:=Tryz.sizeOf222
  v146:=Tryz.zeroValue222
  g1:=by kernel_rfl
  g3:=by kernel_rfl
  g4:=by kernel_rfl }
open Go.RowKit Go.Lib in
/-- strings.Split. (LAID: no walk: one application.) -/
theorem Tryz.strings_Split (s sep:ByteArray) (m:Int) (w:World) (hs:s.size < 4294967281) (hm:w.cell? ⟨0,0,none⟩=some (.int .i64 m)) (h1:1≤sep.size) :
    Calls Tryz.prog 20 #[.string s,.string sep] w fun e w' =>
      e = .returned (.slice (some ⟨w.heap.size,0,none⟩) (Lib.countB s sep + 1) (Lib.countB s sep + 1))∧w'=w.alloc (.cells ((Lib.splitB sep 0 (Lib.countB s sep) s).map Value.string).toArray 9):=Any.strings_Split Tryz.lays146 (by kernel_rfl) s sep m w hs hm h1
end Go.Proofs
namespace Go.Proofs.YtbheedkpbbmlcaaGreatDoor
noncomputable section
set_option linter.unusedVariables false
set_option linter.unusedSimpArgs false
set_option linter.unnecessarySimpa false
open Go.RowKit
theorem Sep.ofBelow {E:En} {K:Hp} {L:List ab} {w w':World} (h:Sep E K L w) (b:Below w.heap.size w w'):Sep E K L w':=h.fr (Fr.of_below b)
def Gk (K:Hp):Prop:=∃ m:Int,bE K 0 0=some (.int .i64 m)
theorem Gk.mono {K K':Hp} (h:Gk K) (f:K.le K'):Gk K':=let ⟨m,h⟩:=h; ⟨m,fH f h⟩
theorem Gk.of {W:World} (h:W.ShapedOpen Tryz.prog):Gk (Hp.of W) :=
 let ⟨m,hm⟩:=Go.Proofs.cell_of_shapedOpen_int (zero:=#[.int .i64 0]) (t:=3) h (of_decide_eq_true (by kernel_rfl)) (by kernel_rfl) rfl (by kernel_rfl) (by kernel_rfl) Tryz.underlying3
 ⟨m,xS hm⟩
def m4 (s sep:List UInt8):Option (List UInt8×List UInt8×Bool):=if s.length < 4294967281 then some (Lib.cut s sep) else none
theorem Bi {K:Hp} {xa xb:List UInt8} (fG:Gk K) {r:List UInt8×List UInt8×Bool} (h:m4 xa xb=some r) :
   Tr Tryz.prog 85 #[.string ⟨xa.toArray⟩,.string ⟨xb.toArray⟩] K [] (fun v K' L'=>(∃ (s1 s2:List UInt8) (t3:Bool),(s1,s2,t3)=r∧v = .tuple #[.string ⟨s1.toArray⟩,.string ⟨s2.toArray⟩,.bool t3]∧L'=[])∧K=K'):=by
 refine Tr.k (fun E w F hs=>?_)
 unfold m4 at h
 split at h
 . rename_i hlt
   cases h
   obtain ⟨m,hm⟩:=fG
   refine (Tryz.strings_Cut ⟨xa.toArray⟩ ⟨xb.toArray⟩ m w (by simpa [ByteArray.size] using hlt) (dR hs.sub hm)).mono ?_
   rintro e w' ⟨rfl,n,rfl⟩
   exact ⟨_,K,[],rfl,⟨_,_,_,rfl,rfl,rfl⟩,Hp.le_refl K,hs.fr ((Fr.refl [] w).drewN n)⟩
 . cases h
def dF (s sep:List UInt8):Option (List (List UInt8)):=if s.length < 4294967281∧1≤sep.length then some ((Lib.splitB ⟨sep.toArray⟩ 0 (Lib.countB ⟨s.toArray⟩ ⟨sep.toArray⟩) ⟨s.toArray⟩).map (·.data.toList)) else none
theorem xf:∀ l:List ByteArray,Els Hp.nil .str (l.map Value.string) (l.map (·.data.toList))
 | []=>rfl
 | x :: l=>⟨[.string x],_,rfl,by simp [Is],xf l⟩
theorem A3 {K:Hp} {xa xb:List UInt8} (fG:Gk K) {r:List (List UInt8)} (h:dF xa xb=some r) :
   Tr Tryz.prog 20 #[.string ⟨xa.toArray⟩,.string ⟨xb.toArray⟩] K [] (fun v K' L'=>(∃ (l1:List (List UInt8)) (ad1:Option Addr) (cp1:Nat),l1=r∧v = .slice ad1 l1.length cp1∧L'=[Row Hp.nil 9 .str (.slice ad1 l1.length cp1) l1])∧K=K'):=by
 refine Tr.k (fun E w F hs=>?_)
 unfold dF at h
 split at h
 . rename_i hlt
   cases h
   obtain ⟨m,hm⟩:=fG
   have hs1:(⟨xa.toArray⟩:ByteArray).size < 4294967281:=by simpa [ByteArray.size] using hlt.1
   have h1:1≤(⟨xb.toArray⟩:ByteArray).size:=by simpa [ByteArray.size] using hlt.2
   have hlen:=Lib.splitB_all ⟨xb.toArray⟩ h1 0 _ ⟨xa.toArray⟩ rfl
   have hle:=Lib.countB_le ⟨xb.toArray⟩ h1 _ ⟨xa.toArray⟩ (Nat.le_refl _)
   refine (Tryz.strings_Split ⟨xa.toArray⟩ ⟨xb.toArray⟩ m w hs1 (dR hs.sub hm) h1).mono ?_
   rintro e w' ⟨rfl,rfl⟩
   refine ⟨_,K,_,rfl,⟨_,_,_,rfl,by rw [List.length_map,hlen],rfl⟩,Hp.le_refl K,?_⟩
   refine (Sep.alloc hs _ _).mono (fun h0 ha=>?_)
   obtain rfl:h0=_:=ha
   have hl2:((Lib.splitB ⟨xb.toArray⟩ 0 (Lib.countB ⟨xa.toArray⟩ ⟨xb.toArray⟩) ⟨xa.toArray⟩).map (·.data.toList)).length=Lib.countB ⟨xa.toArray⟩ ⟨xb.toArray⟩ + 1:=by rw [List.length_map,hlen]
   refine ⟨_,xf _,by simp [Tp.size],.inr ⟨w.heap.size,_,_,by rw [hl2],rfl,by omega,?_,by simp [Tp.size,hlen],by simp only [Tp.size,Nat.mul_one,List.length_map]; exact List.take_of_length_le (by simp)⟩⟩
   have:=hs1
   unfold maxLen
   omega
 . cases h
def cO (xs:List (List UInt8)) (sep:List UInt8):Option (List UInt8):=if (Lib.join xs sep).length≤140737488355328∧xs.length≤140737488355328 then some (Lib.join xs sep) else none
theorem vM {K:Hp}:∀ {xs:List (List UInt8)} {cs:List Value},Els K .str cs xs→cs=xs.map fun x=>Value.string ⟨x.toArray⟩
 | [],cs,h=>h
 | x :: xs,cs,h=>by
   obtain ⟨es,r,rfl,h1,h2⟩:=h
   simp only [Is] at h1
   subst h1
   rw [vM h2]; rfl
theorem A5 {K:Hp} {xa:List (List UInt8)} {xb:List UInt8} {ad:Option Addr} {cp:Nat} (fa:Is K (.sl .str) [.slice ad xa.length cp] xa) {r:List UInt8} (h:cO xa xb=some r) :
   Tr Tryz.prog 26 #[.slice ad xa.length cp,.string ⟨xb.toArray⟩] K [] (fun v K' L'=>(∃ s1:List UInt8,s1=r∧v = .string ⟨s1.toArray⟩∧L'=[])∧K=K'):=by
 refine Tr.k (fun E w F hs=>?_)
 unfold cO at h
 split at h
 . rename_i hlt
   cases h
   by_cases hx:xa=[]
   . subst hx
     refine (Tryz.strings_Join_none ad cp ⟨xb.toArray⟩ w).mono ?_
     rintro e w' ⟨rfl,rfl⟩
     exact ⟨_,K,[],rfl,⟨[],rfl,rfl,rfl⟩,Hp.le_refl K,hs⟩
   . have fa':=fa
     simp only [Is] at fa
     obtain ⟨ad',cp',e0,a1,a2,a3⟩:=fa
     simp only [List.cons.injEq,Value.slice.injEq,and_true] at e0
     obtain ⟨rfl,_,rfl⟩:=e0
     obtain ⟨b,o,rfl,a4⟩:=a3 hx
     obtain ⟨cs,c1,c2,c3⟩:=fa'.cells (by decide)
     obtain rfl:=vM c1
     have hc:∀ (j:Nat) x,(xa.map fun x=>(⟨x.toArray⟩:ByteArray))[j]? = some x→w.cell? ⟨b,o + j,none⟩=some (.string x):=fun j x hj=>by
       have:=c3 w hs.sub j (.string x) (by rw [List.getElem?_map] at hj ⊢; cases hq:xa[j]? with
         | none=>rw [hq] at hj; simp at hj
         | some q=>rw [hq] at hj; simp at hj ⊢; exact hj)
       rwa [bg] at this
     have hb:b < w.heap.size:=by
       cases xa with
       | nil=>exact absurd rfl hx
       | cons q xs =>
         have:=hc 0 _ rfl
         unfold World.cell? at this
         simp only at this
         split at this
         . rename_i e; exact lt_of_block e
         . cases this
     have hm:(xa.map fun x=>(⟨x.toArray⟩:ByteArray)).map (·.data.toList)=xa:=by simp [Function.comp_def]
     have hl:(xa.map fun x=>(⟨x.toArray⟩:ByteArray)).length=xa.length:=by simp
     have:=Tryz.strings_Join b o cp (xa.map fun x=>(⟨x.toArray⟩:ByteArray)) ⟨xb.toArray⟩ w hc hb (by rw [hl]; exact hlt.2) (by rw [hl]; exact a1) (by rw [hm]; exact hlt.1)
     rw [hl,hm] at this
     refine this.mono ?_
     rintro e w' ⟨rfl,hbl⟩
     exact ⟨_,K,[],rfl,⟨_,rfl,rfl,rfl⟩,Hp.le_refl K,hs.ofBelow hbl⟩
 . cases h
set_option linter.unusedSectionVars false
section
theorem Gk.monoC {K K':Hp} (h:K.cle K') (g:Gk K):Gk K':=let ⟨m,e⟩:=g; ⟨m,h _ _ _ e⟩
variable [BldA]
def tK:Spec:=⟨85,⟨[(0,.dat .str),(1,.dat .str)],[]⟩,[⟨[(0,.tup [.dat .str,.dat .str,.dat .bool])],[]⟩],fun x=>m4 x.1 x.2⟩
theorem FT (hg:∀ K,BldA.gk K→Gk K):cw Tryz.prog tK:=by
 intro x r hr vs u hu m K args hgk hm hH hsl E w F hs
 have hu':tK.inn.un (TL.list _ x) 0=some ([(0,.str x.1),(1,.str x.2)],⟨[],0,[],[]⟩):=rfl
 rw [hu'] at hu
 cases hu
 obtain ⟨v,q,rfl,h1,v2,q2,rfl,h2,rfl⟩:=hsl
 obtain rfl:v = .string ⟨List.toArray (α:=UInt8) x.1⟩:=h1
 obtain rfl:v2 = .string ⟨List.toArray (α:=UInt8) x.2⟩:=h2
 refine (Bi (K:=K) (hg K hgk) hr E w F hs).mono ?_
 rintro e w' ⟨v,K',L',rfl,⟨⟨s1,s2,t3,rfl,rfl,rfl⟩,rfl⟩,h1,h2⟩
 exact ⟨_,K,[],rfl,⟨[(0,.tup [.str s1,.str s2,.bool t3])],⟨[],0,[],[]⟩,m,rfl,List.prefix_rfl,hm,fun a h=>(by cases h),⟨_,rfl,_,_,rfl,rfl,_,_,rfl,rfl,_,_,rfl,rfl,rfl⟩,rfl⟩,h1,h2⟩
def sy:Spec:=⟨20,⟨[(0,.dat .str),(1,.dat .str)],[]⟩,[⟨[(0,.own 9 .str)],[]⟩],fun x=>dF x.1 x.2⟩
theorem Ea (hg:∀ K,BldA.gk K→Gk K):cw Tryz.prog sy:=by
 intro x r hr vs u hu m K args hgk hm hH hsl E w F hs
 have hu':sy.inn.un (TL.list _ x) 0=some ([(0,.str x.1),(1,.str x.2)],⟨[],0,[],[]⟩):=rfl
 rw [hu'] at hu
 cases hu
 replace hm:m.length=0:=hm
 obtain ⟨v,q,rfl,h1,v2,q2,rfl,h2,rfl⟩:=hsl
 obtain rfl:v = .string ⟨List.toArray (α:=UInt8) x.1⟩:=h1
 obtain rfl:v2 = .string ⟨List.toArray (α:=UInt8) x.2⟩:=h2
 refine (A3 (K:=K) (hg K hgk) hr E w F hs).mono ?_
 rintro e w' ⟨v,K',L',rfl,⟨⟨l,ad1,cp1,rfl,rfl,rfl⟩,rfl⟩,h1,h2⟩
 have h2:Sep E K (Row Hp.nil 9 .str (.slice ad1 (List.length (α:=List UInt8) l) cp1) l :: F) w':=h2
 obtain ⟨ad',cap',e1,g2,g3,g4⟩:=h2.fact (fun h k=>Row.form h k)
 cases e1
 obtain ⟨h0,⟨cs,hE,hR⟩,hd,hs2⟩:=h2
 have g5:Els K .str cs l:=Els.flat rfl hE
 have g6:Sep E K (Rw 9 1 (.slice ad1 (List.length (α:=List UInt8) l) cp1) (List.length (α:=List UInt8) l) cs :: F) w':=⟨h0,hR,hd,hs2⟩
 have hm0:(m++[M.val (.slice ad1 (List.length (α:=List UInt8) l) cp1),M.cont .str l cs])[0]? = some (.val (.slice ad1 (List.length (α:=List UInt8) l) cp1)):=by
   rw [List.getElem?_append_right (by omega),hm]; rfl
 have hm1:(m++[M.val (.slice ad1 (List.length (α:=List UInt8) l) cp1),M.cont .str l cs])[1]? = some (.cont .str l cs):=by
   rw [List.getElem?_append_right (by omega),hm]; rfl
 refine ⟨_,K,_,rfl,⟨[(0,.own 0)],⟨[],2,[.row 0 1 9 .str l (List.length (α:=List UInt8) l)],[0]⟩,m++[M.val (.slice ad1 (List.length (α:=List UInt8) l) cp1),M.cont .str l cs],rfl,List.prefix_append _ _,by simp [hm],?_,⟨hm0,rfl⟩,rfl⟩,h1,?_⟩
 . intro a ha
   obtain rfl:=List.mem_singleton.1 ha
   exact ⟨ad1,cp1,cs,hm0,hm1,g5,rfl,g2,g3,g4⟩
 . show Sep E K (HA.conc _ (.row 0 1 9 .str l (List.length (α:=List UInt8) l)) :: F) w'
   simp only [HA.conc,hm0,hm1]
   exact g6
def j5 (s sub:List UInt8):Option Int:=if s.length < 4294967281 then some (Lib.index s sub) else none
theorem A2 {K:Hp} {xa xb:List UInt8} (fG:Gk K) {r:Int} (h:j5 xa xb=some r) :
   Tr Tryz.prog 89 #[.string ⟨xa.toArray⟩,.string ⟨xb.toArray⟩] K [] (fun v K' L'=>(∃ i1:Int,i1=r∧v = .int .i64 i1∧L'=[])∧K=K'):=by
 refine Tr.k (fun E w F hs=>?_)
 unfold j5 at h
 split at h
 . rename_i hlt
   cases h
   obtain ⟨m,hm⟩:=fG
   refine (Tryz.strings_Index ⟨xa.toArray⟩ ⟨xb.toArray⟩ m w (by simpa [ByteArray.size] using hlt) (dR hs.sub hm)).mono ?_
   rintro e w' ⟨rfl,rfl⟩
   exact ⟨_,K,_,rfl,⟨_,rfl,rfl,rfl⟩,Hp.le_refl K,hs⟩
 . cases h
def sP:Spec:=⟨89,⟨[(0,.dat .str),(1,.dat .str)],[]⟩,[⟨[(0,.dat (.int .i64))],[]⟩],fun x=>j5 x.1 x.2⟩
theorem Dr (hg:∀ K,BldA.gk K→Gk K):cw Tryz.prog sP:=by
 intro x r hr vs u hu m K args hgk hm hH hsl E w F hs
 have hu':sP.inn.un (TL.list _ x) 0=some ([(0,.str x.1),(1,.str x.2)],⟨[],0,[],[]⟩):=rfl
 rw [hu'] at hu
 cases hu
 obtain ⟨v,q,rfl,h1,v2,q2,rfl,h2,rfl⟩:=hsl
 obtain rfl:v = .string ⟨List.toArray (α:=UInt8) x.1⟩:=h1
 obtain rfl:v2 = .string ⟨List.toArray (α:=UInt8) x.2⟩:=h2
 refine (A2 (K:=K) (hg K hgk) hr E w F hs).mono ?_
 rintro e w' ⟨v,K',L',rfl,⟨⟨i1,rfl,rfl,rfl⟩,rfl⟩,h1,h2⟩
 exact ⟨_,K,[],rfl,⟨[(0,.int .i64 i1)],⟨[],0,[],[]⟩,m,rfl,List.prefix_rfl,hm,fun a h=>(by cases h),rfl,rfl⟩,h1,h2⟩
end
section
section
variable {E:En} {K K0:Hp} {L:List ab} {w:World}
theorem Sep.arr {b:Nat} {e:TypeId} {t:Tp} {m:Nat} {cs:List Value} {xs:List t.den} (he:Els Hp.nil t cs xs) (hl:xs.length=m) (hm:Nat.ble m 1048576=true) (hs:Sep E K (Cl b e cs :: L) w):Sep E K (Row Hp.nil e t (.slice (some ⟨b,0,none⟩) m m) xs :: L) w:=by
 have hm:=Nat.le_of_ble_eq_true hm
 subst hl
 refine hs.mono (fun h ha=>?_)
 obtain rfl:h=_:=ha
 exact ⟨cs,he,he.len,.inr ⟨b,xs.length,cs.toArray,rfl,rfl,Nat.le_refl _,by unfold maxLen; omega,by rw [List.size_toArray]; exact he.len,by simp [← he.len]⟩⟩
end
section
variable {P:Program} {K0:Hp}
theorem V.subA {tx e:TypeId} {tp:Tp} {b m:Nat} {s z:List tp.den} {l h:Int} (ht:P.underlying tx=some (.array m e)) (hz:(P.info? e).map (·.size)=some tp.size) (hl:s.length=m) (hs:Is K0 (.sl tp) [.slice (some ⟨b,0,none⟩) m m] s) (hy:subL s l h=some z) :
   ∃ ad' cp',(∀ {n:Nat} {C:World→Prop} {ρ:Sl0} {d:Option Nat} {t:TypeId} {pos:String} {af:Array Edge} {g:Option (Nat×Bool)} {x:Operand} {lo hi:Option Operand},ev n ρ x = .pointer (some ⟨b,0,none⟩)→(∀ q,lo=some q→∃ k,ev n ρ q = .int k l)→(lo=none→l=0)→(∀ q,hi=some q→∃ k,ev n ρ q = .int k h)→(hi=none→h=(m:Nat)) →
     Val P n C ρ ⟨d,.slice tx x lo hi none,t,pos,af,g⟩ (.slice ad' z.length cp'))∧Is K0 (.sl tp) [.slice ad' z.length cp'] z:=by
 subst hl
 obtain ⟨a1,a2,a3,rfl⟩:=ik hy
 obtain ⟨l,rfl⟩:=Int.eq_ofNat_of_zero_le a1
 obtain ⟨h,rfl⟩:=Int.eq_ofNat_of_zero_le (show 0≤h by omega)
 have b1:l≤h:=by omega
 have b2:h≤s.length:=by omega
 simp only [Int.toNat_natCast]
 have hlen:((s.take h).drop l).length=h - l:=by rw [List.length_drop,List.length_take]; omega
 refine ⟨some (if s.length=l then ⟨b,0,none⟩ else ⟨b,0 + l * tp.size,none⟩),s.length - l,?_,by rw [hlen]; exact hs.part l h b1 b2⟩
 intro n C ρ d t pos af g x lo hi hx hl hl0 hh hh0 w _
 rw [hlen]
 cases hi':P.info? e with
 | none=>rw [hi'] at hz; simp at hz
 | some i' =>
   rw [hi'] at hz
   simp at hz
   cases lo with
   | none =>
     have:=hl0 rfl
     obtain rfl:l=0:=by omega
     cases hi with
     | none =>
       have:=hh0 rfl
       obtain rfl:h=s.length:=by omega
       simp [execOp,hx,Instr.sliceAt,run_underlying ht,Instr.sureAddr,Instr.sliceBounds,sizeOf,typeInfo,hi',hz,bg]
     | some q =>
       obtain ⟨k,hq⟩:=hh q rfl
       simp [execOp,hx,hq,Instr.sliceAt,run_underlying ht,Instr.sureAddr,Instr.sliceBounds,Instr.sliceBound,asIntOf,b2,sizeOf,typeInfo,hi',hz,bg]
       try (by_cases q:s.length=0 <;> simp [q])
   | some ql =>
     obtain ⟨k1,hq1⟩:=hl ql rfl
     cases hi with
     | none =>
       have:=hh0 rfl
       obtain rfl:h=s.length:=by omega
       simp [execOp,hx,hq1,Instr.sliceAt,run_underlying ht,Instr.sureAddr,Instr.sliceBounds,Instr.sliceBound,asIntOf,b1,sizeOf,typeInfo,hi',hz,bg]
       try (by_cases q:s.length=l <;> simp [q])
     | some q =>
       obtain ⟨k,hq⟩:=hh q rfl
       simp [execOp,hx,hq,hq1,Instr.sliceAt,run_underlying ht,Instr.sureAddr,Instr.sliceBounds,Instr.sliceBound,asIntOf,b1,b2,sizeOf,typeInfo,hi',hz,bg]
       try (by_cases q:s.length=l <;> simp [q])
theorem F2 {α:Type} {xs:List α} {i:Int} {m:Nat} (h:i < (xs.length:Nat)) (hl:xs.length=m):i < (m:Nat):=by subst hl; exact h
end
end
set_option maxRecDepth 20000
section
theorem Fk:Inf Tryz.prog 141 (.agg #[.int .u8 0,.int .u8 0,.int .u8 0,.int .u8 0,.int .u8 0,.int .u8 0,.int .u8 0,.int .u8 0,.int .u8 0,.int .u8 0,.int .u8 0,.int .u8 0,.int .u8 0,.int .u8 0,.int .u8 0,.int .u8 0,.int .u8 0,.int .u8 0,.int .u8 0,.int .u8 0]) 20 20:=by unfold Inf; kernel_rfl
theorem sz5:(Tryz.prog.info? 5).map (·.size)=some 1:=by kernel_rfl
theorem LR:Tryz.prog.follows .mixedOrders=true:=by kernel_rfl
def kB  : (Int×(List Int)×Int)→Option ((Int×(List Int)×Int)⊕List UInt8):=fun ((i262,l263,i266):(Int×(List Int)×Int))=>(aa l263 (IntKind.wrap .i64 (i266 - 1))).bind fun x295=>(some (l263.set (IntKind.wrap .i64 (i266 - 1)).toNat (IntKind.wrap .u8 (IntKind.wrap .i64 (48 + (Int.tmod i262 10)))))).bind fun z300=>cond (decide ((IntKind.wrap .i64 (Int.tdiv i262 10))=0)) ((subL z300 (IntKind.wrap .i64 (i266 - 1)) (((20:Nat):Int))).bind fun y308=>some (.inr (cz y308))) (some (.inl ((IntKind.wrap .i64 (Int.tdiv i262 10),z300,IntKind.wrap .i64 (i266 - 1)))))
def bH (xa:Int):Option (List UInt8) :=
  cond (decide (xa < 0)) (some (([]:List UInt8))) (loop (kB) ((xa,([0,0,0,0,0,0,0,0,0,0,0,0,0,0,0,0,0,0,0,0]:List Int),20)))
set_option maxRecDepth 100000 in
set_option maxHeartbeats 4000000 in
theorem A6 {K:Hp} {xa:Int}   {r:List UInt8} (h:bH xa=some r) :
    Tr Tryz.prog 48 #[ii xa] K [] (fun v K' L'=>(∃ (s157:List UInt8),s157=r ∧ .string ⟨s157.toArray⟩=v∧L'=[])∧K=K'):=by
 refine Tr.k <| Tr.of Tryz.func48 rfl Tryz.ntmps48 rfl fun E F=>?_
 unfold bH at h
 refine cr <| ja (.string ⟨([]:List UInt8).toArray⟩) rfl <| J.nil <| CJ.seq <| CJ.seq <| CJ.region ?_
 refine jm (ii xa) rfl <| jv (.bool (decide (xa < 0))) (V.lss rfl rfl) <| J.nil <| cc rfl h (fun hc158 h=>?_) fun hc158 h=>?_
 . refine cr <| ja (.string ⟨([]:List UInt8).toArray⟩) rfl <| J.nil <| CJ.ret ?_
   obtain rfl:=si h
   exact ⟨_,_,Res.one rfl rfl,⟨([]:List UInt8),rfl,rfl,rfl⟩,(Hp.le_refl _),fun w hs=>hs⟩
 refine CJ.skip <| cr <| jal Fk [.int .u8 0,.int .u8 0,.int .u8 0,.int .u8 0,.int .u8 0,.int .u8 0,.int .u8 0,.int .u8 0,.int .u8 0,.int .u8 0,.int .u8 0,.int .u8 0,.int .u8 0,.int .u8 0,.int .u8 0,.int .u8 0,.int .u8 0,.int .u8 0,.int .u8 0,.int .u8 0] rfl fun b159=>?_
 have hl160:([0,0,0,0,0,0,0,0,0,0,0,0,0,0,0,0,0,0,0,0]:List Int).length=20:=rfl
 refine J.by (fun w hs=>Sep.arr (t:=(.int .u8)) (xs:=([0,0,0,0,0,0,0,0,0,0,0,0,0,0,0,0,0,0,0,0]:List Int)) ⟨_,_,rfl,rfl,⟨_,_,rfl,rfl,⟨_,_,rfl,rfl,⟨_,_,rfl,rfl,⟨_,_,rfl,rfl,⟨_,_,rfl,rfl,⟨_,_,rfl,rfl,⟨_,_,rfl,rfl,⟨_,_,rfl,rfl,⟨_,_,rfl,rfl,⟨_,_,rfl,rfl,⟨_,_,rfl,rfl,⟨_,_,rfl,rfl,⟨_,_,rfl,rfl,⟨_,_,rfl,rfl,⟨_,_,rfl,rfl,⟨_,_,rfl,rfl,⟨_,_,rfl,rfl,⟨_,_,rfl,rfl,⟨_,_,rfl,rfl,rfl⟩⟩⟩⟩⟩⟩⟩⟩⟩⟩⟩⟩⟩⟩⟩⟩⟩⟩⟩⟩ hl160 rfl hs) <| J.nil <| cr <| ja (ii 20) rfl <| J.nil <| CJ.block ?_
 refine CJ.loop (fun s ρ K' L'=>∃ (i262:Int) (l263:(List Int)) (i266:Int),(i262,l263,i266)=s∧Fits [(0,ii i262),(3,.pointer (some ⟨b159,0,none⟩)),(4,ii i266)] ρ∧K=K'∧L'=Row Hp.nil 141 (.int .u8) (.slice (some ⟨b159,0,none⟩) 20 20) l263 :: F) h ⟨xa,([0,0,0,0,0,0,0,0,0,0,0,0,0,0,0,0,0,0,0,0]:List Int),20,rfl,⟨rfl,rfl,rfl,trivial⟩,rfl,rfl⟩ ?_
 rintro s ρ _ _ r294 ⟨i262,l263,i266,rfl,hf292,rfl,rfl⟩ h291
 obtain ⟨ρ,rfl⟩:=hf292.ex
 refine CJ.wit Row.len fun hl265=>CJ.block <| cr <| jm (ii i266) rfl <| jv (ii (IntKind.wrap .i64 (i266 - 1))) (V.sub rfl rfl) <| ja (ii (IntKind.wrap .i64 (i266 - 1))) rfl ?_
 refine J.nil <| cr <| jm (ii (IntKind.wrap .i64 (i266 - 1))) rfl <| jm (ii i262) rfl <| jv (ii (Int.tmod i262 10)) (V.rem rfl rfl (by decide)) <| jv (ii (IntKind.wrap .i64 (48 + (Int.tmod i262 10)))) (V.add rfl rfl) ?_
 refine jv (.int .u8 (IntKind.wrap .u8 (IntKind.wrap .i64 (48 + (Int.tmod i262 10))))) (V.conv Tryz.underlying3 Tryz.underlying5 rfl) ?_
 obtain ⟨x295,hx296,h291⟩:=ob h291
 obtain ⟨p297,p298,p299⟩:=eJ hx296
 refine jv _ (V.iadA Tryz.underlying141 sz5 rfl rfl p297 (F2 p299 hl265)) ?_
 obtain ⟨z300,hz301,h291⟩:=ob h291
 have e302:=Option.some.inj hz301
 have hl303:z300.length=20:=by rw [← e302,List.length_set]; exact hl265
 refine J.op rfl (A.storeR (ty:=(.int .u8)) (q:=0) (y0:=IntKind.wrap .u8 (IntKind.wrap .i64 (48 + (Int.tmod i262 10)))) (zs:=z300) sz5 rfl rfl rfl rfl rfl p298 (by simp [Tp.size]) (by decide) (by rintro _ rfl; exact rfl) e302) ?_
 rintro _ _ _ ⟨rfl,rfl,rfl⟩
 refine J.nil <| cr <| jm (ii i262) rfl <| jv (ii (IntKind.wrap .i64 (Int.tdiv i262 10))) (V.quo rfl rfl (by decide)) <| ja (ii (IntKind.wrap .i64 (Int.tdiv i262 10))) rfl <| J.nil ?_
 refine cr <| jm (ii (IntKind.wrap .i64 (Int.tdiv i262 10))) rfl <| jv (.bool (decide ((IntKind.wrap .i64 (Int.tdiv i262 10))=0))) (V.eql rfl rfl) <| J.nil <| cc rfl h291 (fun hc304 h291=>?_) fun hc304 h291=>?_
 . refine cr <| jm (ii (IntKind.wrap .i64 (i266 - 1))) rfl <| J.persist (Hp.nil_le _) (by decide) fun K305 hK306 f307=>?_
   obtain ⟨y308,hy309,h291⟩:=ob h291
   obtain ⟨ad310,cp311,hv312,f313⟩:=V.subA (tp:=(.int .u8)) Tryz.underlying141 sz5 hl303 f307 hy309
   refine jv (.slice ad310 y308.length cp311) (hv312 rfl (fun _ h=>by cases h; exact ⟨_,rfl⟩) nofun nofun (fun _=>rfl)) <| jv (.string ⟨(cz y308).toArray⟩) (V.b2sK Tryz.underlying103 Tryz.underlying5 Tryz.underlying9 rfl f313 (Hp.le_refl _)) <| ja (.string ⟨(cz y308).toArray⟩) rfl <| J.nil <| CJ.ret ?_
   obtain rfl:=si h291
   refine ⟨nofun,fun e=>?_⟩
   subst e
   exact ⟨_,_,Res.one rfl rfl,⟨cz y308,rfl,rfl,rfl⟩,hK306,fun w hs=>hs⟩
 refine CJ.skip ?_
 obtain rfl:=si h291
 exact ⟨rfl,⟨IntKind.wrap .i64 (Int.tdiv i262 10),z300,IntKind.wrap .i64 (i266 - 1),rfl,⟨rfl,rfl,rfl,trivial⟩,rfl,rfl⟩⟩

def fq:Nat→Int→Option (List UInt8)
  | 0,_=>none
  | fuel + 1,xa=>cond (decide (xa < 0)) (some (([]:List UInt8))) (cond (decide (xa < 10)) ((subL ([48,49,50,51,52,53,54,55,56,57]:List UInt8) xa (IntKind.wrap .i64 (xa + 1))).bind fun y37=>some (y37)) ((subL ([48,49,50,51,52,53,54,55,56,57]:List UInt8) (Int.tmod xa 10) (IntKind.wrap .i64 ((Int.tmod xa 10) + 1))).bind fun y49=>(fq fuel (IntKind.wrap .i64 (Int.tdiv xa 10))).bind fun s53=>(app s53 y49).bind fun z57=>some (z57)))
def bI (xa:Int):Option (List UInt8):=lev (fun n=>fq n xa)
set_option maxRecDepth 100000 in
set_option maxHeartbeats 4000000 in
theorem Be:∀ (fuel:Nat) {K:Hp} {xa:Int}   {r:List UInt8} (h:fq fuel xa=some r),
    Tr Tryz.prog 39 #[ii xa] K [] (fun v K' L'=>(∃ (s34:List UInt8),s34=r ∧ .string ⟨s34.toArray⟩=v∧L'=[])∧K=K'):=by
  intro fuel
  induction fuel with
  | zero=>intro K xa r h; rw [fq] at h; cases h
  | succ fuel ih =>
    intro K xa r h
    refine Tr.k <| Tr.of Tryz.func39 rfl Tryz.ntmps39 rfl fun E F=>?_
    rw [fq] at h
    refine cr <| ja (.string ⟨([]:List UInt8).toArray⟩) rfl <| J.nil <| CJ.seq <| CJ.seq <| CJ.region ?_
    refine jm (ii xa) rfl <| jv (.bool (decide (xa < 0))) (V.lss rfl rfl) <| J.nil <| cc rfl h (fun hc35 h=>?_) fun hc35 h=>?_
    . refine cr <| ja (.string ⟨([]:List UInt8).toArray⟩) rfl <| J.nil <| CJ.ret ?_
      obtain rfl:=si h
      exact ⟨_,_,Res.one rfl rfl,⟨([]:List UInt8),rfl,rfl,rfl⟩,(Hp.le_refl _),fun w hs=>hs⟩
    refine CJ.skip <| CJ.seq <| cr <| jm (ii xa) rfl <| jv (.bool (decide (xa < 10))) (V.lss rfl rfl) <| J.nil ?_
    refine cc rfl h (fun hc36 h=>?_) fun hc36 h=>?_
    . refine cr <| jm (ii xa) rfl <| jm (ii xa) rfl <| jv (ii (IntKind.wrap .i64 (xa + 1))) (V.add rfl rfl) ?_
      obtain ⟨y37,hy38,h⟩:=ob h
      refine jv (.string ⟨y37.toArray⟩) (V.subs Tryz.underlying9 rfl (fun _ h=>by cases h; exact ⟨_,rfl⟩) nofun (fun _ h=>by cases h; exact ⟨_,rfl⟩) nofun hy38) <| ja (.string ⟨y37.toArray⟩) rfl <| J.nil <| CJ.ret ?_
      obtain rfl:=si h
      exact ⟨_,_,Res.one rfl rfl,⟨y37,rfl,rfl,rfl⟩,(Hp.le_refl _),fun w hs=>hs⟩
    refine CJ.skip <| CJ.seq <| CJ.mix [] [([0,1,3,4,5,6,7,8],2)] [9,10] [] LR (by decide +kernel) trivial rfl rfl rfl <| JM.cons <| qm (ii xa) rfl <| qv (ii (IntKind.wrap .i64 (Int.tdiv xa 10))) (V.quo rfl rfl (by decide)) <| qm (ii xa) rfl ?_
    refine qv (ii (Int.tmod xa 10)) (V.rem rfl rfl (by decide)) <| qm (ii xa) rfl <| qv (ii (Int.tmod xa 10)) (V.rem rfl rfl (by decide)) <| qv (ii (IntKind.wrap .i64 ((Int.tmod xa 10) + 1))) (V.add rfl rfl) ?_
    obtain ⟨y49,hy50,h⟩:=ob h
    refine qv (.string ⟨y49.toArray⟩) (V.subs Tryz.underlying9 rfl (fun _ h=>by cases h; exact ⟨_,rfl⟩) nofun (fun _ h=>by cases h; exact ⟨_,rfl⟩) nofun hy50) <| JQ.nil ?_
    obtain ⟨r51,hr52,h⟩:=ob h
    refine JA.op rfl (A.call (L1:=[]) Tryz.call39 rfl (ih hr52) rfl rfl) ?_
    rintro _ _ _ ⟨v54,_,rfl,⟨⟨s53,rfl,rfl,rfl⟩,rfl⟩,_,rfl⟩
    refine ⟨fun w hs=>Hold.sub (Hp.le_refl _) trivial hs,?_⟩
    refine JM.nil ?_
    obtain ⟨z57,hz58,h⟩:=ob h
    refine qv (.string ⟨z57.toArray⟩) (V.cat rfl rfl hz58) <| qa (.string ⟨z57.toArray⟩) rfl <| JQ.nil <| J.nil <| CJ.ret ?_
    obtain rfl:=si h
    exact ⟨_,_,Res.one rfl rfl,⟨z57,rfl,rfl,rfl⟩,(Hp.le_refl _),fun w hs=>hs⟩
set_option maxRecDepth 100000 in
set_option maxHeartbeats 4000000 in
theorem Bm {K:Hp} {xa:Int}   {r:List UInt8} (h:bI xa=some r) :
    Tr Tryz.prog 39 #[ii xa] K [] (fun v K' L'=>(∃ (s34:List UInt8),s34=r ∧ .string ⟨s34.toArray⟩=v∧L'=[])∧K=K'):=by
  obtain ⟨n,hn⟩:=DM h
  exact Be n  hn
variable [BldA]
theorem ya {P:Program} {f:Nat} {fn:Int→Option (List UInt8)} (ok:∀ {K:Hp} {xa:Int} {r:List UInt8},fn xa=some r→Tr P f #[ii xa] K [] (fun v K' L'=>(∃ s:List UInt8,s=r ∧ .string ⟨s.toArray⟩=v∧L'=[])∧K=K')):cw P ⟨f,⟨[(0,.dat (.int .i64))],[]⟩,[⟨[(0,.dat .str)],[]⟩],fn⟩:=by
  intro x r hr vs u hu m K args hgk hm hH hsl E w F hs
  have hu':Sh.un ⟨[(0,.dat (.int .i64))],[]⟩ (TL.list [Tp.int .i64] x) 0=some ([(0,.int .i64 x)],⟨[],0,[],[]⟩):=rfl
  rw [show (Spec.inn ⟨f,⟨[(0,.dat (.int .i64))],[]⟩,[⟨[(0,.dat .str)],[]⟩],fn⟩).un (TL.list _ x) 0=_ from hu'] at hu
  cases hu
  obtain ⟨v,q,rfl,h1,rfl⟩:=hsl
  obtain rfl:v=ii x:=h1
  refine (ok (K:=K) hr E w F hs).mono ?_
  rintro e w' ⟨v,K',L',rfl,⟨⟨s,rfl,rfl,rfl⟩,rfl⟩,h1,h2⟩
  exact ⟨_,K,[],rfl,⟨[(0,.str s)],⟨[],0,[],[]⟩,m,rfl,List.prefix_rfl,hm,fun a h=>(by cases h),rfl,rfl⟩,h1,h2⟩
theorem EO {P:Program} {f:Nat} {fn:List (List UInt8)→List UInt8→Option (List UInt8)} (ok:∀ {K:Hp} {xa:List (List UInt8)} {xb:List UInt8} {ad:Option Addr} {cp:Nat} (fa:Is K (.sl .str) [.slice ad xa.length cp] xa) {r:List UInt8},fn xa xb=some r→Tr P f #[.slice ad xa.length cp,.string ⟨xb.toArray⟩] K [] (fun v K' L'=>(∃ s1:List UInt8,s1=r∧v = .string ⟨s1.toArray⟩∧L'=[])∧K=K')):cw P ⟨f,⟨[(0,.dat (.sl .str)),(1,.dat .str)],[]⟩,[⟨[(0,.dat .str)],[]⟩],fun x=>fn x.1 x.2⟩:=by
  intro x r hr vs u hu m K args hgk hm hH hsl E w F hs
  have hu':Sh.un ⟨[(0,.dat (.sl .str)),(1,.dat .str)],[]⟩ (TL.list [Tp.sl .str,Tp.str] x) 0=some ([(0,.row .str x.1 (List.length (α:=List UInt8) x.1)),(1,.str x.2)],⟨[],0,[],[]⟩):=rfl
  rw [show (Spec.inn ⟨f,⟨[(0,.dat (.sl .str)),(1,.dat .str)],[]⟩,[⟨[(0,.dat .str)],[]⟩],fun x=>fn x.1 x.2⟩).un (TL.list _ x) 0=_ from hu'] at hu
  cases hu
  obtain ⟨v,q,rfl,h1,v2,q2,rfl,h2,rfl⟩:=hsl
  obtain rfl:v2 = .string ⟨x.2.toArray⟩:=h2
  obtain ⟨fa,_⟩:=h1
  have fa0:=fa
  simp only [Is] at fa
  obtain ⟨ad,cp,e0,_⟩:=fa
  simp only [List.cons.injEq,and_true] at e0
  subst e0
  refine (ok (K:=K) fa0 hr E w F hs).mono ?_
  rintro e w' ⟨v,K',L',rfl,⟨⟨s,rfl,rfl,rfl⟩,rfl⟩,h1,h2⟩
  exact ⟨_,K,[],rfl,⟨[(0,.str s)],⟨[],0,[],[]⟩,m,rfl,List.prefix_rfl,hm,fun a h=>(by cases h),rfl,rfl⟩,h1,h2⟩
def vr:Spec:=⟨48,⟨[(0,.dat (.int .i64))],[]⟩,[⟨[(0,.dat .str)],[]⟩],bH⟩
theorem A8:cw Tryz.prog vr:=ya fun h=>A6 h
def cu:OkSpec Tryz.prog:=⟨vr,A8,Tryz.call48⟩
def vB:Spec:=⟨39,⟨[(0,.dat (.int .i64))],[]⟩,[⟨[(0,.dat .str)],[]⟩],bI⟩
theorem Br:cw Tryz.prog vB:=ya fun h=>Bm h
def dn:OkSpec Tryz.prog:=⟨vB,Br,Tryz.call39⟩
def yw:Spec:=⟨26,⟨[(0,.dat (.sl .str)),(1,.dat .str)],[]⟩,[⟨[(0,.dat .str)],[]⟩],fun x=>cO x.1 x.2⟩
theorem Eo:cw Tryz.prog yw:=EO A5
def fJ:OkSpec Tryz.prog:=⟨yw,Eo,Tryz.call26⟩
end
end
end Go.Proofs.YtbheedkpbbmlcaaGreatDoor

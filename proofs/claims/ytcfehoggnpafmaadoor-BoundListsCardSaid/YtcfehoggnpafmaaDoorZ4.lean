/- A part of the proof: what lies ahead of the law. Nothing is claimed here. -/
import Derived.Test.YtcfehoggnpafmaaDoorZ3
import Derived.RangeFuncRecord
import Derived.Shelf.Small.Bits
import Derived.Shelf.Small.Wraps
import Derived.Shelf.Strconv.Itoa0
import Derived.Shelf.Sort.Plain
import Derived.Ground.Names2Prog
import Derived.Shelf.Slices.SearchI
import Derived.Shelf.Slices.In.SortNone
import Derived.Test.YtcfehoggnpafmaaDoorProg
import Derived.Sort.OwnSortedInts
import Derived.Shelf.Spec.TrailingZeros
import Derived.Shelf.SlSortCmp.InsertionK
import Derived.Shelf.SlicesG.Cmp
import Derived.Shelf.Lay
import Derived.Ground.SlgcProg
import Derived.Laws.NewBlocks
import Derived.Tactics
import Derived.Tactics2
import Derived.RegionTactic
import Derived.BigCall
import Derived.BigRegion
import Derived.Deep.RegionWith
import Derived.Shelf.SlSortCmp.NoneTotal
import Derived.Ground.SlsfProg
import Derived.Shelf.SlicesE.Compact
import Derived.BigQuiet
import Derived.Deep.QuietTactic
import Derived.Shelf.SlicesQ.Load
import Derived.Shelf.SlicesQ.Reverse
import Derived.WalkKit
import Derived.Deep.LoopGhost
import Derived.Deep.Draws
import Derived.Lib.SlicesCompact
import Derived.Lib.RowBridge
import Derived.Test.YtcfehoggnpafmaaDoorRows
namespace Go.Proofs.YtcfehoggnpafmaaDoor
noncomputable section
set_option linter.unusedVariables false
set_option linter.unusedSimpArgs false
set_option linter.unnecessarySimpa false
set_option linter.unusedSectionVars false
open Go.RowKit
section
variable [BldA]
def Hp.del (K:Hp) (D:Nat):Hp:=fun n=>if n=D then none else K n
theorem Hp.cle_del {K:Hp} {D:Nat} {x:Option (List Deferred)} (h:K D=some (.deferred x)):K.cle (K.del D):=fun g o v e=>by
 unfold aI Hp.del at *
 by_cases hg:g=D
 . subst hg; rw [h] at e; cases e
 . rw [if_neg hg]; exact e
section
variable {P:Program} {E:En} {n:Nat} {m:List M} {K:Hp} {fr:Frz} {σ:Zt} {ρ:Sl1} {w:World}
theorem Rel.unmark (hr:Rel E fr σ m K ρ w) {K2:Hp} {w2:World} (hc:K.cle K2) (hk:fr.K.le K2) (h0:fr.k0.le K2) (hs:Sep E K2 (σ.atoms fr m) w2):Rel E fr ⟨σ.base,σ.top,σ.H,σ.Hf,σ.nx,false⟩ m K2 ⟨ρ.f,[]⟩ w2 where
 hm:=hr.hm
 hK:=hk
 nx:=hr.nx
 kq:=fun e=>(by cases e)
 base:=hr.base
 dead:=hr.dead
 old:=hr.old
 top:=fun i sv hi=>SV.monoC (fun _ _ h=>h) hc sv (hr.top i sv hi)
 okH:=fun a ha=>HA.ok_monoC (fun _ _ h=>h) hc (hr.okH a ha)
 okF:=hr.okF
 mks:=MOk.nil hr.mks.1.1 h0
 sep:=hs
theorem iQ {fn:Func} {tmps:Array Value} {R:Ending→World→Prop} {L:List aa} {k0:Hp}:∀ (ds:List Deferred) {K:Hp} {w:World},MOk k0 K ds→Sep E K L w →
   (∀ K2 w2,K.cle K2→k0.le K2→Sep E K2 L w2→∃ v,(results fn tmps).run P w2 = .ok v w2∧R (.returned v) w2)→LeavesInM Fence.wide 0 P fn tmps R ds .returning w
 | [],K,w,hm,hs,h=>h K w (Hp.cle_refl K) hm.1.2 hs
 | d :: ds,K,w,hm,hs,h=>by
   obtain ⟨D,rfl,hD,h0⟩:=hm.2.1 d (by simp)
   have hw:w.heap[D]? = some (.deferred (some [])):=hs.sub D _ hD
   have hnd:=List.nodup_cons.1 hm.2.2
   refine ⟨by simp,.inl ⟨D,w.putObj D (.deferred none),rfl,run_takeDeferred hw,?_⟩⟩
   have other:∀ (k:Nat) (o:Obj),k≠D→w.heap[k]? = some o→(w.putObj D (.deferred none)).heap[k]? = some o:=fun k o hne e=>by rw [World.putObj_heap_other hne]; exact e
   have hs1:Sep E (K.del D) L (w.putObj D (.deferred none)):=by
     refine Sep.move (w:=w) (w':=w.putObj D (.deferred none)) (fun e=>e) hs (fun k o e=>?_) (fun k o e e1=>?_)
     . unfold Hp.del at e
       split at e
       . cases e
       . rename_i hne; exact other k o hne (hs.sub k o e)
     . have hne:k≠D:=fun e2=>by rw [e2,hD] at e1; cases e1
       exact ⟨by unfold Hp.del; rw [if_neg hne]; exact e1,other k o hne e⟩
   refine iQ ds ⟨⟨hm.1.1,fun k o e=>?_⟩,fun d' hd'=>?_,hnd.2⟩ hs1 (fun K2 w2 c1 c2 c3=>h K2 w2 ((Hp.cle_del hD).trans c1) c2 c3)
   . unfold Hp.del
     rw [if_neg (fun e2=>by rw [e2,h0] at e; cases e)]
     exact hm.1.2 k o e
   . obtain ⟨D',rfl,h1,h2⟩:=hm.2.1 d' (List.mem_cons_of_mem _ hd')
     refine ⟨D',rfl,?_,h2⟩
     unfold Hp.del
     rw [if_neg (fun e=>hnd.1 (by rw [← e]; exact hd'))]
     exact h1
end
section
variable {P:Program} {E:En} {K:Hp} {L:List aa} {w:World}
theorem LpA.at {l:Nat} {r:Loop} (h:Sep E K (LpA l r :: L) w):w.heap[l]? = some (.loop r):=by
 obtain ⟨h1,rfl,hd,hs⟩:=h
 exact hs.sub l _ (Hp.join_right (aC l _) (hd l _ (aC l _)))
theorem LpA.put {l:Nat} {r r':Loop} (h:Sep E K (LpA l r :: L) w):Sep E K (LpA l r' :: L) (w.putObj l (.loop r')):=by
 have hw:=LpA.at h
 have hlt:=(Array.getElem?_eq_some_iff.1 hw).1
 refine Sep.turn h (fun e=>e) (fun h1 hA hle=>?_)
 obtain rfl:=hA
 refine ⟨one l (.loop r'),rfl,fun n o e=>?_,fun n o e e1=>?_⟩
 . obtain ⟨rfl,rfl⟩:=bR e
   exact ⟨World.putObj_heap_same hlt,fun e2=>by rw [aC] at e2; cases e2⟩
 . have hne:n≠l:=fun e2=>by subst e2; rw [aC] at e1; cases e1
   rw [World.putObj_heap_other hne]; exact e
theorem tz {l₀:Nat} {r₀:Loop} (h:w.heap[l₀]? = some (.loop r₀)) (fn:FuncId) (tmps:Array Value) (ps:Array Tmp) (assign body:Code) :
   (Instr.enterLoop fn tmps ps assign body (some l₀)).run P w =
     .ok (w.heap.size,[]) (w.alloc (.loop { state := .ready,pending:=none,fn,tmps,params:=ps,assign,body,defers:=r₀.defers })):=by
 unfold Instr.enterLoop
 simp only [Sem.run_bind,run_getLoop h,run_newObj_alloc,Result.andThen,Sem.run_pure]
theorem Sep.allocO (h:Sep E K L w) (o:Obj):Sep E K ((fun hh=>hh=one w.heap.size o) :: L) (w.alloc o) :=
 Sep.turn h.emp (fun e=>e) (fun h0 ha _=>by
   unfold _root_.Go.Proofs.YtcfehoggnpafmaaDoor.emp at ha; subst ha
   refine ⟨one w.heap.size o,rfl,fun n x e=>?_,fun n x e _=>?_⟩
   . obtain ⟨rfl,rfl⟩:=bR e
     exact ⟨World.alloc_heap_new w _,fun _=>Array.getElem?_eq_none (Nat.le_refl _)⟩
   . rw [Below.heap_alloc _ _ _ (lt_of_block e)]; exact e)
theorem Sep.known {o:Obj} {b:Nat} (h:Sep E K ((fun hh=>hh=one b o) :: L) w):Sep E (K.join (one b o)) L w∧K b=none:=by
 obtain ⟨h1,rfl,hd,hs⟩:=h
 exact ⟨hs,hd b _ (aC b o)⟩
end
def ed (r:Loop):Loop:={ r with state := .busy,pending:=none }
def fC (E:En) (fr:Frz):Prop:=∀ l,E.rd=some l→∃ r,LpA l r∈fr.F
section
variable {R:Type} {P:Program} {E:En} {n:Nat} {m m':List M} {K K':Hp} {fr:Frz} {σ σ':Zt} {ρ ρ':Sl1} {w w':World}
def Fok (P:Program) (n:Nat) (c:Code) (f:Hn P→Zt→(R:Type)→(Exit→Hn P→Zt→Option R)→Option R):Prop :=
 ∀ (R:Type) (E:En) (fr:Frz),fC E fr→∀ (h:Hn P) (σ:Zt) (k:Exit→Hn P→Zt→Option R) (r:R) (m:List M) (K:Hp) (ρ:Sl1) (w:World) (Q:Exit→Act→World→Prop),f h σ R k=some r→Rel E fr σ m K ρ w →
   (∀ e h' σ' m' K' ρ' w',Rel E fr σ' m' K' ρ' w'→Same σ σ'→k e h' σ'=some r→Q e (act1 n ρ') w')→c.wpIn (aw E.rd) 0 P Q (act1 n ρ) w
def JOk (J:Rn P):Prop:=∀ n c,Fok P n c (fun h σ R k=>J n c R h σ k)
def cC:List Nat→List Value→Sl0→Sl0
 | p :: ps,x :: xs,f=>cC ps xs (upd f p x)
 | _,_,f=>f
theorem wJ {ρ:Sl0} {p:Nat} {v:Value}:(frm n ρ).setIfInBounds p v=frm n (upd ρ p v):=by
 have h:=congrArg Act.tmps (Go.Proofs.YtcfehoggnpafmaaDoor.put_act n ρ p v)
 unfold act Act.put at h
 exact h
theorem oI:∀ (ps:List Nat) (xs:List Value) (ρ:Sl0),(ps.zip xs).foldl (fun t (q:Nat×Value)=>t.setIfInBounds q.1 q.2) (frm n ρ)=frm n (cC ps xs ρ)
 | [],xs,ρ=>rfl
 | p :: ps,[],ρ=>rfl
 | p :: ps,x :: xs,ρ=>by
   show (ps.zip xs).foldl _ ((frm n ρ).setIfInBounds p x)=_
   rw [wJ]
   exact oI ps xs (upd ρ p x)
theorem oK:∀ (ps:List Nat) {xs:List SV} {us:List Value} {f:Nat→SV} {ρ:Sl0},SV.relL m K xs us→(∀ i,SV.rel m K (f i) (ρ i))→∀ i,SV.rel m K (jT ps xs f i) (cC ps us ρ i)
 | [],xs,us,f,ρ,h,hf,i=>hf i
 | p :: ps,[],us,f,ρ,h,hf,i=>by
   obtain rfl:=aA h
   exact hf i
 | p :: ps,x :: xs,us,f,ρ,h,hf,i=>by
   obtain ⟨u,r,rfl,h1,h2⟩:=ax h
   refine oK ps (us:=r) (ρ:=upd ρ p u) h2 (fun j=>?_) i
   show SV.rel m K (bif Nat.beq j p then x else f j) (bif Nat.beq j p then u else ρ j)
   cases Nat.beq j p with
   | true=>exact h1
   | false=>exact hf j
theorem iV:∀ {xs:List SV} {us:List Value},SV.relL m K xs us→us.length=xs.length
 | [],us,h=>by obtain rfl:=aA h; rfl
 | x :: xs,us,h=>by
   obtain ⟨u,r,rfl,h1,h2⟩:=ax h
   simp [iV h2]
theorem uC {J:Rn P} (hJ:JOk J) {c:SV} {xs:List SV} {h:Hn P} {k:Hn P→Zt→Bool→Option R} {r:R} (hh:ml J σ c xs h k=some r) (hr:Rel E fr σ m K ρ w) {us:List Value} {v:Value} (hv:SV.rel m K c v) (hxs:SV.relL m K xs us) {X:Ending→World→Prop}
   (hX:∀ h' σ' m' K' w' b,Rel E fr σ' m' K' ρ w'→Same σ σ'→k h' σ' b=some r→X (.returned (.bool b)) w') :
   ∃ l,v = .func (.yield l) #[] #[]∧∃ fn tmps ao bo,(Instr.yield l us.toArray).run P w = .ok (.round l fn tmps ao bo) w∧RoundIn (aw E.rd) 0 P l fn tmps ao bo w X:=by
 unfold ml at hh
 split at hh
 . rename_i i n0 vs0 ps ao bo
   obtain ⟨l,rr,ρ0,rfl,hm,ht,hp,ha,hb,hvs⟩:=hv
   replace hh:=ab hh; obtain ⟨hlen,hh⟩:=hh
   have hlen:=Nat.eq_of_beq_eq_true hlen
   split at hh
   . rename_i H hq
     obtain ⟨a,ha',hmem,hperm⟩:=a8 hq
     obtain rfl:=ma ha'
     have hsub:∀ a∈H,a∈σ.H:=fun a ha=>hperm.symm.subset (List.mem_cons_of_mem _ ha)
     -- the record, ahead
     have hs0:Sep E K (LpA l (LSt.ready.cr rr) :: (H.map (HA.conc m)++σ.fz fr)) w:=by
       have:=Sep.perm ((hperm.map (HA.conc m)).append_right (σ.fz fr)) hr.toSep
       simpa only [List.map_cons,HA.conc,hm,List.cons_append] using this
     have hw:=LpA.at hs0
     have hy:=run_yield (P:=P) (args:=us.toArray) hw (by
       show us.toArray.size=rr.params.size
       rw [hp,List.size_toArray,iV hxs,hlen])
     refine ⟨l,rfl,_,_,_,_,hy,roundIn_of_wpIn trivial ?_⟩
     have htm:(((LSt.ready.cr rr).params.zip us.toArray).foldl (fun tmps (t,a)=>tmps.setIfInBounds t a) (LSt.ready.cr rr).tmps)=frm n0 (cC ps.toList us ρ0):=by
       show ((rr.params.zip us.toArray).foldl _ rr.tmps)=_
       rw [hp,ht,← Array.foldl_toList,Array.toList_zip]
       exact oI ps.toList us ρ0
     rw [htm]
     show rr.assign.wpIn (aw (some l)) 0 P _ (act1 n0 ⟨cC ps.toList us ρ0,[]⟩) w
     rw [ha]
     have hE:∀ (L:List aa) (K:Hp) (w:World),Sep E K L w→Sep { E with rd:=some l } K L w:=fun L K w=>Sep.rd (E:=E) (E':={ E with rd:=some l }) (fun w h=>h)
     have hE':∀ (L:List aa) (K:Hp) (w:World),Sep { E with rd:=some l } K L w→Sep E K L w:=fun L K w=>Sep.rd (E:={ E with rd:=some l }) (E':=E) (fun w h=>h)
     have mid:∀ (A B C:List aa) (x:aa),(A++(B++x :: C)).Perm (x :: (A++(B++C))):=fun A B C x=>by
       rw [← List.append_assoc,← List.append_assoc]; exact List.perm_middle
     have hrel:Rel { E with rd:=some l } ⟨m,K,⟨cC ps.toList us ρ0,[]⟩,fun _=>false,LpA l (LSt.ready.cr rr) :: fr.F,K⟩ ⟨jT ps.toList xs vs0,[],H,σ.Hf,σ.nx,false⟩ m K ⟨cC ps.toList us ρ0,[]⟩ w:=by
       refine ⟨⟨List.prefix_refl m,Hp.le_refl K,hr.nx,fun e=>(by cases e),fun i=>oK ps.toList hxs hvs i,fun i e=>(by cases e),fun i _ => .inr rfl,fun i sv e=>(by cases e),fun a ha=>hr.okH a (hsub a ha),fun a ha=>hr.toPur.all a (List.mem_append_right _ ha),MOk.nil hr.mks.gk (Hp.le_refl K)⟩,?_⟩
       show Sep _ K (H.map (HA.conc m)++(σ.Hf.map (HA.conc m)++(LpA l (LSt.ready.cr rr) :: fr.F))) w
       refine hE _ _ _ (Sep.perm (mid _ _ _ _).symm ?_)
       rw [hr.toPur.fz']
       exact hs0
     refine hJ n0 ao _ { E with rd:=some l } ⟨m,K,⟨cC ps.toList us ρ0,[]⟩,fun _=>false,LpA l (LSt.ready.cr rr) :: fr.F,K⟩ (by intro l2 e; cases e; exact ⟨_,List.mem_cons_self⟩) h _ _ r m K _ w _ hh hrel (fun e h' σ1 m1 K1 ρ1 w1 h1 h2 h3=>?_)
     cases e with
     | normal =>
       have hs1:Sep E K1 (LpA l (LSt.ready.cr rr) :: (σ1.H.map (HA.conc m1)++(σ1.Hf.map (HA.conc m)++fr.F))) w1:=Sep.perm (mid _ _ _ _) (hE' _ _ _ h1.sep)
       have hw1:=LpA.at hs1
       refine ⟨w1.putObj l (.loop (ed rr)),run_beginRound hw1 rfl,?_⟩
       have hs2:=LpA.put (r':=(ed rr)) hs1
       have hrel2:Rel { E with rd:=some l } ⟨m,K,⟨cC ps.toList us ρ0,[]⟩,fun _=>false,LpA l (ed rr) :: fr.F,K⟩ σ1 m1 K1 ρ1 (w1.putObj l (.loop (ed rr))) :=
         ⟨⟨h1.hm,h1.hK,h1.nx,h1.kq,h1.base,h1.dead,h1.old,h1.top,h1.okH,h1.okF,h1.mks⟩,hE _ _ _ (Sep.perm (mid _ _ _ _).symm hs2)⟩
       show (LSt.ready.cr rr).body.wpIn (aw (some l)) 0 P _ (act1 n0 ρ1) _
       rw [show (LSt.ready.cr rr).body=bo from hb]
       refine hJ n0 bo _ { E with rd:=some l } ⟨m,K,⟨cC ps.toList us ρ0,[]⟩,fun _=>false,LpA l (ed rr) :: fr.F,K⟩ (by intro l2 e; cases e; exact ⟨_,List.mem_cons_self⟩) h' σ1 _ r m1 K1 ρ1 _ _ h3 hrel2 (fun e2 h'' σ2 m2 K2 ρ2 w2 g1 g2 g3=>?_)
       have hs3:Sep E K2 (LpA l (ed rr) :: (σ2.H.map (HA.conc m2)++(σ2.Hf.map (HA.conc m)++fr.F))) w2:=Sep.perm (mid _ _ _ _) (hE' _ _ _ g1.sep)
       have hw3:=LpA.at hs3
       have back:∀ (s:LSt) (b:Bool) (jump:Option Code),rG e2=some (b,s)→b=jump.isNone→s.cr rr = { ed rr with state:=if jump.isNone then .ready else .done,pending:=jump } →
           ∃ v w',(Instr.endRound l jump).run P w2 = .ok v w'∧X (.returned v) w':=fun s b jump e1 e2 e3=>by
         subst e2
         rw [e1] at g3
         simp only at g3
         refine ⟨_,_,run_endRound jump hw3,?_⟩
         refine hX h'' ⟨σ.base,σ.top,.lp i s :: σ2.H,σ.Hf,σ2.nx,false⟩ m2 K2 _ _ ?_ ⟨rfl,rfl⟩ g3
         have hm2:m <+: m2:=g1.hm
         have hK2:K.le K2:=g1.hK
         have hm2':∀ (i:Nat) (x:M),m[i]? = some x→m2[i]? = some x:=fun _ _ k=>ag hm2 k
         refine ⟨⟨hr.hm.trans hm2,hr.hK.trans hK2,g1.nx,fun e=>(by cases e),hr.base,hr.dead,hr.old,fun i sv hi=>SV.mono hm2' hK2 sv (hr.top i sv hi),fun a ha=>?_,hr.okF,hr.mks.mono hK2⟩,?_⟩
         . rcases List.mem_cons.1 ha with rfl | ha
           . exact ⟨l,rr,hm2' _ _ hm⟩
           . exact g1.okH a ha
         . have:=LpA.put (r':=s.cr rr) hs3
           have hHf:σ2.Hf=σ.Hf:=(h2.trans g2).2
           rw [hHf,hr.toPur.fz'] at this
           show Sep E K2 ((HA.lp i s :: σ2.H).map (HA.conc m2)++(σ.Hf.map (HA.conc fr.m)++fr.F)) _
           simp only [List.map_cons,HA.conc,hm2' _ _ hm,List.cons_append]
           rw [e3] at this ⊢
           exact this
       cases e2 with
       | normal=>exact back .ready true none rfl rfl rfl
       | ret=>exact back .ret false (some .ret) rfl rfl rfl
       | exit id=>exact back (.exit id) false (some (.exit id)) rfl rfl rfl
       | goto t=>cases g3
       | panic ch=>cases g3
       | outgrown=>cases g3
     | exit id=>cases h3
     | goto t=>cases h3
     | ret=>cases h3
     | panic ch=>cases h3
     | outgrown=>cases h3
   . cases hh
 . cases hh
theorem uc {F:Fence} {N:Nat} {o:Oper} {a:Act} {w:World} {X:Act→World→Prop} {Q Q':Exit→Act→World→Prop} (hq:∀ e a w,Q e a w→e ≠ .normal→Q' e a w) (hh:o.wpIn F N P a w X Q):o.wpIn F N P a w X Q':=by
 unfold Oper.wpIn at *
 refine ⟨hh.1,?_⟩
 have hh:=hh.2
 have lo:LetsOut Q→LetsOut Q':=fun ⟨a,w,h⟩=>⟨a,w,hq _ _ _ h nofun⟩
 generalize (o.semAt F.round a.eval).run P w=r at *
 cases r with
 | ok x w' =>
   cases x <;> simp only [Oper.uponIn] at hh ⊢ <;>
     first
       | exact hh
       | exact ⟨hh.1,CallsIn.mono hh.2 (fun e w'' he=>by cases e <;> first | exact he | exact hq _ _ _ he nofun | exact lo he)⟩
       | exact ⟨hh.1,RowsIn.mono hh.2 (fun _ _ he=>he)⟩
       | exact ⟨hh.1,RoundIn.mono hh.2 (fun e w'' he=>by cases e <;> first | exact he | exact hq _ _ _ he nofun | exact lo he)⟩
       | exact hh.elim
 | halt x w'=>cases x <;> simp only [Oper.uponIn] at hh ⊢ <;> first | exact hq _ _ _ hh nofun | exact lo hh | exact hh
theorem kE {r:Option Nat} {ops:Array Oper} {Q:Exit→Act→World→Prop} {rest:List Oper}:∀ {l:List Oper} {a:Act} {w:World},l.all bA=true→aj P ops (fun e a w=>e = .normal∧wpListIn (aw r) 0 P ops Q rest a w) l a w→wpListIn (aw r) 0 P ops Q (l++rest) a w
 | [],a,w,_,h=>h.2
 | o :: l,a,w,hd,h=>by
   simp only [List.all_cons,Bool.and_eq_true] at hd
   unfold aj at h
   rw [List.cons_append]
   unfold wpListIn
   split
   . rename_i hw; rw [if_pos hw] at h
     exact uc (fun e a w h hne=>absurd h.1 hne) (Oper.wpIn_mono (fun a w h=>kE hd.2 h) (iS hd.1 h))
   . rename_i hw; rw [if_neg hw] at h
     exact ⟨fun _ _=>trivial,kE hd.2 h⟩
theorem lu {f:Operand→SV} {g:Operand→Value} (hf:∀ x,SV.rel m K (f x) (g x)):∀ l:List Operand,SV.relL m K (l.map f) (l.map g)
 | []=>rfl
 | x :: l=>⟨_,_,rfl,hf x,lu hf l⟩
theorem lx:∀ {vs:List SV} {us:List Value} {j i:Nat} {sv:SV},SV.relL m K vs us→an (slA j vs) i=some sv→∃ k u,i=j + k∧us[k]? = some u∧SV.rel m K sv u
 | [],us,j,i,sv,h,hl=>by cases hl
 | v :: vs,us,j,i,sv,h,hl=>by
   obtain ⟨u,q,rfl,h1,h2⟩:=ax h
   change (bif Nat.beq j i then some v else an (slA (j + 1) vs) i)=some sv at hl
   cases hb:Nat.beq j i with
   | true =>
     rw [hb] at hl
     cases hl
     exact ⟨0,u,(Nat.eq_of_beq_eq_true hb).symm,rfl,h1⟩
   | false =>
     rw [hb] at hl
     obtain ⟨k,u',e1,e2,e3⟩:=lx (j:=j + 1) h2 hl
     exact ⟨k + 1,u',by omega,by simpa using e2,e3⟩
theorem wE {fn:Func} {ρ:Sl0} {j:Nat} (h:fn.results.toList=[.tmp j]):(results fn (frm n ρ)).run P w = .ok (Go.Proofs.YtcfehoggnpafmaaDoor.ev n ρ (.tmp j)) w:=by
 have h':fn.results = #[.tmp j]:=Array.ext' (by rw [h])
 exact Res.one (C:=fun _=>True) (v1:=Go.Proofs.YtcfehoggnpafmaaDoor.ev n ρ (.tmp j)) h' rfl w trivial
theorem vT {J:Rn P} (hJ:JOk J) {q:ItFn P} {c:Code} (hc:q.fn.body=some c) {vs:List SV} {us:List Value} (hus:SV.relL m K vs us) {j d:Nat} (hres:q.fn.results.toList=[.tmp j]) (hlen:vs.length≤q.fn.ntmps) {h0:Hn P} {k:Hn P→Zt→Option R} {r:R}
   (hh:J q.fn.ntmps c R h0 ⟨fun _ => .any,slA 0 vs,σ.H,σ.Hf,σ.nx,false⟩ (fun e h σ'=>bif jC e then k h.unw (Zt.set ⟨σ.base,σ.top,σ'.H,σ.Hf,σ'.nx,false⟩ d (σ'.ev q.fn.ntmps (.tmp j))) else none)=some r)
   (hr:Rel E fr σ m K ρ w) {X:Ending→World→Prop}
   (hX:∀ h' σ1 sv v m' K' w',Rel E fr σ1 m' K' ρ w'→Same σ σ1→SV.rel m' K' sv v→k h' (σ1.set d sv)=some r→X (.returned v) w') :
   CallsIn (aw E.rd) 0 P q.f us.toArray w X:=by
 obtain ⟨args,hargs⟩:∃ args:Array Value,args=us.toArray:=⟨_,rfl⟩
 rw [← hargs]
 have hsz:args.size≤q.fn.ntmps:=by rw [hargs,List.size_toArray,iV hus]; exact hlen
 have hrel:Rel E.out0 ⟨m,K,bH args,fun _=>false,fr.F,K⟩ ⟨fun _ => .any,slA 0 vs,σ.H,σ.Hf,σ.nx,false⟩ m K (bH args) w:=by
   refine ⟨⟨List.prefix_refl _,Hp.le_refl K,hr.nx,fun e=>(by cases e),fun i=>trivial,fun i e=>(by cases e),fun i _ => .inr rfl,fun i sv hi=>?_,fun a ha=>hr.okH a ha,fun a ha=>hr.toPur.all a (List.mem_append_right _ ha),MOk.nil hr.mks.gk (Hp.le_refl K)⟩,?_⟩
   . obtain ⟨j',u,e1,e2,e3⟩:=lx hus hi
     have:bH args i=u:=by
       show cw args i=u
       unfold cw
       rw [e1,Nat.zero_add,hargs]
       simp [e2]
     rw [this]; exact e3
   . show Sep E.out0 K (σ.H.map (HA.conc m)++(σ.Hf.map (HA.conc m)++fr.F)) w
     rw [hr.toPur.fz']
     exact hr.toSep.out0
 have key:CallsIn Fence.wide 0 P q.f args w X:=by
   refine callsIn_of_wp_marks (F:=Fence.wide) (n:=0) q.at_ hc trivial ?_
   rw [ji hsz]
   refine hJ q.fn.ntmps c R E.out0 ⟨m,K,bH args,fun _=>false,fr.F,K⟩ (fun l2 e=>by cases e) h0 _ _ r _ K (bH args) w _ hh hrel (fun e h' σ' m' K' ρ' w' h1 h2 h3=>?_)
   replace h3:=ab h3; obtain ⟨hov,h3⟩:=h3
   have fini:LeavesInM Fence.wide 0 P q.fn (act1 q.fn.ntmps ρ').tmps X ρ'.ds .returning w':=by
     refine iQ ρ'.ds h1.mks h1.toSep (fun K2 w2 c1 c2 c3=>?_)
     refine ⟨_,wE (n:=q.fn.ntmps) (ρ:=ρ'.f) hres,?_⟩
     have g:=h1.unmark c1 c2 c2 c3
     have hm2:m <+: m':=g.hm
     have hm2':∀ (i:Nat) (x:M),m[i]? = some x→m'[i]? = some x:=fun _ _ k=>ag hm2 k
     have hv:SV.rel m' K2 (σ'.ev q.fn.ntmps (.tmp j)) (Go.Proofs.YtcfehoggnpafmaaDoor.ev q.fn.ntmps ρ'.f (.tmp j)):=SV.monoC (fun _ _ h=>h) c1 _ (h1.toPur.ev q.fn.ntmps (.tmp j))
     have e2:σ'.Hf.map (HA.conc m)=σ.Hf.map (HA.conc fr.m):=by rw [h2.2]; exact hr.toPur.fz'
     have hs3:Sep E K2 (σ'.H.map (HA.conc m')++(σ.Hf.map (HA.conc fr.m)++fr.F)) w2:=by
       have:=c3.back (E:=E)
       rw [← e2]; exact this
     refine hX h'.unw ⟨σ.base,σ.top,σ'.H,σ.Hf,σ'.nx,false⟩ _ _ m' K2 w2 ⟨⟨hr.hm.trans hm2,hr.hK.trans c2,g.nx,fun e=>(by cases e),hr.base,hr.dead,hr.old,fun i sv hi=>SV.mono hm2' c2 sv (hr.top i sv hi),fun a ha=>g.okH a ha,hr.okF,hr.mks.mono c2⟩,hs3⟩ ⟨rfl,rfl⟩ hv h3
   cases e with
   | normal=>exact fini
   | ret=>exact fini
   | exit id=>cases hov
   | goto t=>cases hov
   | panic ch=>cases hov
   | outgrown=>cases hov
 exact key
theorem xM {J:Rn P} (hJ:JOk J) {o:Oper} {h:Hn P} {k:Hn P→Zt→Option R} {r:R} {ops:Array Oper} {rest:List Oper} {Q:Exit→Act→World→Prop} (hh:yop J n o h σ k=some r) (hr:Rel E fr σ m K ρ w) (hwt:Region.wanted o (yielded ops (act1 n ρ).tmps)=true)
   (hk:∀ h' σ' m' K' ρ' w',Rel E fr σ' m' K' ρ' w'→Same σ σ'→k h' σ'=some r→wpListIn (aw E.rd) 0 P ops Q rest (act1 n ρ') w'):wpListIn (aw E.rd) 0 P ops Q (o :: rest) (act1 n ρ) w:=by
 unfold yop at hh
 split at hh
 . rename_i d c args ats t pos af gu
   split at hh
   . rename_i q h1
     split at hh
     . rename_i f e
       have hv:=hr.toPur.ev n c
       rw [e] at hv
       obtain ⟨caps,hv,hcaps⟩:=hv
       obtain rfl:=aA hcaps
       unfold rk at hh
       split at hh
       . rename_i cc j hcc hres
         replace hh:=ab hh; obtain ⟨hb,hh⟩:=hh
         rw [Bool.and_eq_true] at hb
         obtain rfl:=Nat.eq_of_beq_eq_true hb.1
         unfold wpListIn
         rw [if_pos hwt]
         refine ⟨fun _ _=>trivial,?_⟩
         rw [mM rfl,bv]
         have hrun:(execOp (Go.Proofs.YtcfehoggnpafmaaDoor.ev n ρ.f) ⟨some d,.call ⟨.value c,args,ats⟩,t,pos,af,gu⟩).run P w = .ok (.enter q.f (args.toList.map (Go.Proofs.YtcfehoggnpafmaaDoor.ev n ρ.f)).toArray) w:=by
           have e2:(args.toList.map (Go.Proofs.YtcfehoggnpafmaaDoor.ev n ρ.f)).toArray=args.map (Go.Proofs.YtcfehoggnpafmaaDoor.ev n ρ.f):=Array.ext' (by rw [Array.toList_map])
           have hv':Go.Proofs.YtcfehoggnpafmaaDoor.ev n ρ.f c = .func (.func q.f) #[] #[]:=hv
           have:=q.ent (args.map (Go.Proofs.YtcfehoggnpafmaaDoor.ev n ρ.f)) w
           rw [e2]
           simp [execOp,resolve,Deferred.ofValue,hv',invoke,this]
         rw [hrun,Oper.uponIn_enter]
         refine ⟨fun hh=>(by cases (show false=true from hh)),?_⟩
         refine vT hJ hcc (lu (fun x=>hr.toPur.evr n x) args.toList) hres (Nat.le_of_ble_eq_true hb.2) hh hr (fun h' σ1 sv v m' K' w' g1 g2 g3 g4=>?_)
         show wpListIn _ _ _ _ _ _ ((act1 n ρ).put (some d) v) _
         rw [bd]
         exact hk h' _ m' K' _ w' (g1.set (d:=d) (sv:=sv) (v:=v) g3) g2 g4
       . cases hh
     . cases hh
   . obtain ⟨l,hv,fn,tmps,ao,bo,hy,hround⟩:=uC hJ hh hr (hr.toPur.ev n c) (lu (fun x=>hr.toPur.evr n x) args.toList)
       (X:=fun e w''=>match e with
         | .returned v=>wpListIn (aw E.rd) 0 P ops Q rest ((act1 n ρ).put (some d) v) w''
         | .panicked chain=>Q (.panic chain) (act1 n ρ) w''
         | .outgrown=>LetsOut Q)
       (fun h' σ' m' K' w' b h1 h2 h3=>by
         show wpListIn _ _ _ _ _ _ ((act1 n ρ).put (some d) (.bool b)) _
         rw [bd]
         exact hk h' _ m' K' _ w' (h1.set (d:=d) (sv := .bool b) (v := .bool b) rfl) h2 h3)
     unfold wpListIn
     rw [if_pos hwt]
     refine ⟨fun _ _=>trivial,?_⟩
     rw [mM rfl,bv]
     have hrun:(execOp (Go.Proofs.YtcfehoggnpafmaaDoor.ev n ρ.f) ⟨some d,.call ⟨.value c,args,ats⟩,t,pos,af,gu⟩).run P w = .ok (.round l fn tmps ao bo) w:=by
       have e:(args.toList.map (Go.Proofs.YtcfehoggnpafmaaDoor.ev n ρ.f)).toArray=args.map (Go.Proofs.YtcfehoggnpafmaaDoor.ev n ρ.f):=Array.ext' (by rw [Array.toList_map])
       rw [e] at hy
       have hv':Go.Proofs.YtcfehoggnpafmaaDoor.ev n ρ.f c = .func (.yield l) #[] #[]:=hv
       simp [execOp,resolve,Deferred.ofValue,hv',invoke,hy]
     rw [hrun,Oper.uponIn_round]
     refine ⟨fun hh=>(by cases (show false=true from hh)),hround.mono (fun e w'' he=>?_)⟩
     cases e <;> exact he
 . cases hh
theorem uZ {fn:Func} {tmps:Array Value} (h:fn.results.isEmpty=true):∃ v,(results fn tmps).run P w = .ok v w:=by
 have h':fn.results = #[]:=by simpa using h
 refine ⟨.tuple #[],?_⟩
 unfold results
 simp [h']
theorem wP {J:Rn P} (hJ:JOk J) {ps:Array Nat} {ao bo:Code} {h0:Hn P} {k:Exit→Hn P→Zt→Option R} {r:R} {Q:Exit→Act→World→Prop} {q:ItFn P} {c:Code} (hc:q.fn.body=some c) {cs:List SV} {us:List Value} (hus:SV.relL m K cs us)
   (hres:q.fn.results.isEmpty=true) (hlen:cs.length + 1≤q.fn.ntmps)
   (hh : J q.fn.ntmps c R h0 ⟨fun _ => .any, slA 0 (.yld σ.nx n σ.get ps ao bo :: cs), .lp σ.nx .ready :: σ.H, σ.Hf, σ.nx + 1, false⟩ (fun e h σ' =>
         bif jC e then (match pick (HA.lpR σ.nx) σ'.H with
           | some (s,H)=>LSt.go s k h ⟨σ.base,σ.top,H,σ.Hf,σ'.nx,false⟩
           | none=>none) else none)=some r)
   (hr:Rel E fr σ m K ρ w) {l:Nat} {mark:List Deferred} {K1:Hp} {w1:World} {fn1:FuncId} {D:Nat}
   (hs1:Sep E K1 (LpA l { state := .ready,pending:=none,fn:=fn1,tmps:=frm n ρ.f,params:=ps,assign:=ao,body:=bo,defers:=D } :: σ.atoms fr m) w1) (hK1:K.le K1) (hm1:MOk fr.k0 K1 (mark++ρ.ds))
   (hQ:∀ e h' σ' m' K' ρ' w',Rel E fr σ' m' K' ρ' w'→Same σ σ'→k e h' σ'=some r→Q e (act1 n ρ') w') :
   CallsIn (aw E.rd) 0 P q.f (#[.func (.yield l) #[] #[]]++us.toArray) w1 (rangePost (aw E.rd) 0 P l Q { act1 n ρ with defers:=mark++(act1 n ρ).defers }):=by
 obtain ⟨r1,hr1⟩:∃ r1:Loop,r1 = { state := .ready,pending:=none,fn:=fn1,tmps:=frm n ρ.f,params:=ps,assign:=ao,body:=bo,defers:=D }:=⟨_,rfl⟩
 rw [← hr1] at hs1
 obtain ⟨args,hargs⟩:∃ args:Array Value,args=(Value.func (.yield l) #[] #[] :: us).toArray:=⟨_,rfl⟩
 have hargs':(#[.func (.yield l) #[] #[]]++us.toArray:Array Value)=args:=by rw [hargs]; exact Array.ext' (by simp)
 rw [hargs']
 have hp:=ap m [M.loop l r1]
 have hmm:∀ (i:Nat) (x:M),m[i]? = some x→(m++[M.loop l r1])[i]? = some x:=fun _ _ k=>ag hp k
 have hgn:(m++[M.loop l r1])[σ.nx]? = some (.loop l r1):=aB hr.nx
 have hsz:args.size≤q.fn.ntmps:=by
   rw [hargs,List.size_toArray,List.length_cons,iV hus]
   exact hlen
 have hall:SV.relL (m++[M.loop l r1]) K1 (.yld σ.nx n σ.get ps ao bo :: cs) (Value.func (.yield l) #[] #[] :: us) :=
   ⟨_,_,rfl,⟨l,r1,ρ.f,rfl,hgn,by rw [hr1],by rw [hr1],by rw [hr1],by rw [hr1],fun j=>SV.mono hmm hK1 _ (hr.toPur.get j)⟩,SV.monoL hmm hK1 _ hus⟩
 have hrel:Rel E.out0 ⟨m++[M.loop l r1],K1,bH args,fun _=>false,fr.F,K1⟩ ⟨fun _ => .any,slA 0 (.yld σ.nx n σ.get ps ao bo :: cs),.lp σ.nx .ready :: σ.H,σ.Hf,σ.nx + 1,false⟩ (m++[M.loop l r1]) K1 (bH args) w1:=by
   refine ⟨⟨List.prefix_refl _,Hp.le_refl K1,by simp [hr.nx],fun e=>(by cases e),fun i=>trivial,fun i e=>(by cases e),fun i _ => .inr rfl,fun i sv hi=>?_,fun a ha=>?_,fun a ha=>HA.ok_mono hmm hK1 (hr.toPur.all a (List.mem_append_right _ ha)),MOk.nil hm1.gk (Hp.le_refl K1)⟩,?_⟩
   . obtain ⟨j,u,e1,e2,e3⟩:=lx hall hi
     have:bH args i=u:=by
       show cw args i=u
       unfold cw
       rw [e1,Nat.zero_add,hargs]
       simp [e2]
     rw [this]; exact e3
   . rcases List.mem_cons.1 ha with rfl | ha
     . exact ⟨l,r1,hgn⟩
     . exact HA.ok_mono hmm hK1 (hr.okH a ha)
   . show Sep E.out0 K1 ((HA.lp σ.nx .ready :: σ.H).map (HA.conc (m++[M.loop l r1]))++(σ.Hf.map (HA.conc (m++[M.loop l r1]))++fr.F)) w1
     have e1:σ.H.map (HA.conc (m++[M.loop l r1]))=σ.H.map (HA.conc m):=bY (K:=K) hmm hr.okH
     have e2:σ.Hf.map (HA.conc (m++[M.loop l r1]))=σ.Hf.map (HA.conc fr.m):=(bY (K:=K) hmm (fun a ha=>hr.toPur.all a (List.mem_append_right _ ha))).trans hr.toPur.fz'
     rw [List.map_cons,e1,e2]
     have e3:HA.conc (m++[M.loop l r1]) (.lp σ.nx .ready)=LpA l r1:=by
       simp only [HA.conc,hgn]
       rw [hr1]; rfl
     rw [e3]
     exact hs1.out0
 have key:CallsIn Fence.wide 0 P q.f args w1 (rangePost (aw E.rd) 0 P l Q { act1 n ρ with defers:=mark++(act1 n ρ).defers }):=by
   refine callsIn_of_wp_marks (F:=Fence.wide) (n:=0) q.at_ hc trivial ?_
   rw [ji hsz]
   refine hJ q.fn.ntmps c R E.out0 ⟨m++[M.loop l r1],K1,bH args,fun _=>false,fr.F,K1⟩ (fun l2 e=>by cases e) h0 _ _ r _ K1 (bH args) w1 _ hh hrel (fun e h' σ' m' K' ρ' w' h1 h2 h3=>?_)
   replace h3:=ab h3; obtain ⟨hov,h3⟩:=h3
   have fini:LeavesInM Fence.wide 0 P q.fn (act1 q.fn.ntmps ρ').tmps (rangePost (aw E.rd) 0 P l Q { act1 n ρ with defers:=mark++(act1 n ρ).defers }) ρ'.ds .returning w':=by
     split at h3
     . rename_i s H hq
       obtain ⟨a,ha',hmem,hperm⟩:=a8 hq
       obtain rfl:=ma ha'
       have hsub:∀ a∈H,a∈σ'.H:=fun a ha=>hperm.symm.subset (List.mem_cons_of_mem _ ha)
       refine iQ ρ'.ds h1.mks h1.toSep (fun K2 w2 c1 c2 c3=>?_)
       obtain ⟨v,hv⟩:=uZ (P:=P) (w:=w2) (tmps:=(act1 q.fn.ntmps ρ').tmps) hres
       refine ⟨v,hv,?_⟩
       have g:=h1.unmark c1 c2 c2 c3
       have hmp:m++[M.loop l r1] <+: m':=g.hm
       have hgn':m'[σ.nx]? = some (.loop l r1):=ag hmp hgn
       have hm2:m <+: m':=hp.trans hmp
       have hm2':∀ (i:Nat) (x:M),m[i]? = some x→m'[i]? = some x:=fun _ _ k=>ag hm2 k
       have e2:σ'.Hf.map (HA.conc (m++[M.loop l r1]))=σ.Hf.map (HA.conc fr.m):=by
         rw [h2.2]
         exact (bY (K:=K) hmm (fun a ha=>hr.toPur.all a (List.mem_append_right _ ha))).trans hr.toPur.fz'
       have hs3:Sep E K2 (LpA l (s.cr r1) :: (H.map (HA.conc m')++(σ.Hf.map (HA.conc fr.m)++fr.F))) w2:=by
         have:=Sep.perm ((hperm.map (HA.conc m')).append_right (σ'.Hf.map (HA.conc (m++[M.loop l r1]))++fr.F)) c3.back
         rw [e2] at this
         simpa only [List.map_cons,HA.conc,hgn',List.cons_append] using this
       have hnb:(s.cr r1).state ≠ .busy:=by cases s <;> simp [LSt.cr]
       refine ⟨_,_,run_endLoop (LpA.at hs3) hnb,?_⟩
       have hs4:=(LpA.put (r':={ s.cr r1 with state := .exhausted }) hs3).drop
       have hKK:K.le K2:=hK1.trans c2
       have hrel4:Rel E fr ⟨σ.base,σ.top,H,σ.Hf,σ'.nx,false⟩ m' K2 ⟨ρ.f,mark++ρ.ds⟩ (w2.putObj l (.loop { s.cr r1 with state := .exhausted })) :=
         ⟨⟨hr.hm.trans hm2,hr.hK.trans hKK,g.nx,fun e=>(by cases e),hr.base,hr.dead,hr.old,fun i sv hi=>SV.mono hm2' hKK sv (hr.top i sv hi),fun a ha=>g.okH a (hsub a ha),hr.okF,hm1.mono c2⟩,hs4⟩
       cases s with
       | ready=>exact hQ .normal h' _ m' K2 ⟨ρ.f,mark++ρ.ds⟩ _ hrel4 ⟨rfl,rfl⟩ h3
       | ret=>exact wpIn_ret (hQ .ret h' _ m' K2 ⟨ρ.f,mark++ρ.ds⟩ _ hrel4 ⟨rfl,rfl⟩ h3)
       | exit id=>exact wpIn_exit (hQ (.exit id) h' _ m' K2 ⟨ρ.f,mark++ρ.ds⟩ _ hrel4 ⟨rfl,rfl⟩ h3)
     . cases h3
   cases e with
   | normal=>exact fini
   | ret=>exact fini
   | exit id=>cases hov
   | goto t=>cases hov
   | panic ch=>cases hov
   | outgrown=>cases hov
 exact key
theorem v7 {J:Rn P} (hJ:JOk J) (hrd:fC E fr) {g:Operand} {ps:Array Nat} {ao bo:Code} {h:Hn P} {k:Exit→Hn P→Zt→Option R} {r:R} {Q:Exit→Act→World→Prop} (hh:j5 J n g ps ao bo h σ k=some r) (hr:Rel E fr σ m K ρ w)
   (hQ:∀ e h' σ' m' K' ρ' w',Rel E fr σ' m' K' ρ' w'→Same σ σ'→k e h' σ'=some r→Q e (act1 n ρ') w'):(Code.rangeFunc g ps ao bo).wpIn (aw E.rd) 0 P Q (act1 n ρ) w:=by
 unfold j5 at hh
 split at hh
 . rename_i q h0
   split at hh
   . rename_i f cs e
     split at hh
     . rename_i c hc
       replace hh:=ab hh; obtain ⟨hb,hh⟩:=hh
       simp only [Bool.and_eq_true] at hb
       obtain ⟨hb1,hb2,hb3⟩:=hb
       obtain rfl:=Nat.eq_of_beq_eq_true hb1
       have hv:=hr.toPur.ev n g
       rw [e] at hv
       obtain ⟨us,hv,hus⟩:=hv
       refine wpIn_rangeFunc (fun fn hfn=>?_)
       have tail:∀ {l:Nat} {mark:List Deferred} {K1:Hp} {w1:World} {D:Nat},(Instr.enterLoop fn (act1 n ρ).tmps ps ao bo E.rd).run P w = .ok (l,mark) w1 →
           Sep E K1 (LpA l { state := .ready,pending:=none,fn:=fn,tmps:=frm n ρ.f,params:=ps,assign:=ao,body:=bo,defers:=D } :: σ.atoms fr m) w1→K.le K1→MOk fr.k0 K1 (mark++ρ.ds) →
           ∃ (l:Nat) (mark:List Deferred) (w₁:World) (d:Deferred) (w₁':World) (f:FuncId) (args:Array Value) (w₂:World),
             (Instr.enterLoop fn (act1 n ρ).tmps ps ao bo (aw E.rd).round).run P w = .ok (l,mark) w₁ ∧
             (resolve (act1 n ρ).eval (rangeCall g l) 0).run P w₁ = .ok d w₁' ∧
             (∀ f',Target.leads P w₁' d.target d.args=some f'→(aw E.rd).fn f') ∧
             (invoke d.target d.args).run P w₁' = .ok (.enter f args) w₂ ∧
             ((aw E.rd).depth.isSome=true→1≤0) ∧
             CallsIn (aw E.rd) (0 - 1) P f args w₂ (rangePost (aw E.rd) 0 P l Q { act1 n ρ with defers:=mark++(act1 n ρ).defers }):=fun {l mark K1 w1 D} he hs1 hK1 hm1=>by
         refine ⟨l,mark,w1,{ target := .fn (.func q.f) us.toArray,args:=#[.func (.yield l) #[] #[]] },w1,q.f,#[.func (.yield l) #[] #[]]++us.toArray,w1,he,?_,fun _ _=>trivial,?_,fun hh=>(by cases (show false=true from hh)),?_⟩
         . have hv':Go.Proofs.YtcfehoggnpafmaaDoor.ev n ρ.f g = .func (.func q.f) #[] us.toArray:=hv
           rw [bv]
           have hc2:Go.Proofs.YtcfehoggnpafmaaDoor.ev n ρ.f (.const (.func (.yield l) #[] #[])) = .func (.yield l) #[] #[]:=rfl
           simp [resolve,Deferred.ofValue,hv',hc2]
         . exact q.ent _ _
         . exact wP hJ hc hus hb2 (Nat.le_of_ble_eq_true hb3) hh hr hs1 hK1 hm1 hQ
       cases hE:E.rd with
       | none =>
         rw [hE] at tail
         obtain ⟨s1,hD⟩:=(hr.toSep.allocO (.deferred (some []))).known
         have s2:=s1.allocO (.loop { state := .ready,pending:=none,fn:=fn,tmps:=frm n ρ.f,params:=ps,assign:=ao,body:=bo,defers:=w.heap.size })
         rw [World.size_alloc] at s2
         refine tail (run_enterLoop_outer fn _ ps ao bo) s2 (Hp.le_join _ _) ⟨⟨hr.mks.1.1,hr.mks.1.2.trans (Hp.le_join _ _)⟩,fun d hd=>?_,?_⟩
         . rcases List.mem_append.1 hd with hd | hd
           . simp only [List.mem_singleton] at hd
             subst hd
             refine ⟨w.heap.size,rfl,Hp.join_right (aC _ _) hD,?_⟩
             cases hk0:fr.k0 w.heap.size with
             | none=>rfl
             | some x=>rw [hr.mks.1.2 _ _ hk0] at hD; cases hD
           . obtain ⟨D',e1,e2,e3⟩:=hr.mks.2.1 d hd
             exact ⟨D',e1,Hp.le_join _ _ _ _ e2,e3⟩
         . refine List.nodup_cons.2 ⟨fun hd=>?_,hr.mks.2.2⟩
           obtain ⟨D',e1,e2,e3⟩:=hr.mks.2.1 _ hd
           simp only [Deferred.mk.injEq,Target.collected.injEq,and_true] at e1
           rw [← e1,hD] at e2
           cases e2
       | some l0 =>
         rw [hE] at tail
         obtain ⟨r0,hmem⟩:=hrd l0 hE
         have hw0:w.heap[l0]? = some (.loop r0):=by
           obtain ⟨i,hi⟩:=List.getElem?_of_mem (show LpA l0 r0∈σ.atoms fr m from List.mem_append_right _ (List.mem_append_right _ hmem))
           exact LpA.at (Sep.front i hi hr.toSep)
         exact tail (tz hw0 fn _ ps ao bo) (hr.toSep.allocO _) (Hp.le_refl K) (by simpa using hr.mks)
     . cases hh
   . cases hh
 . cases hh
end
end
section
variable [BldA]
section
variable {R:Type} {P:Program} {E:En} {n:Nat} {m m':List M} {K K':Hp} {fr:Frz} {σ σ':Zt} {ρ ρ':Sl1} {w w':World}
theorem pM {c:Code} {f:Hn P→Zt→(R:Type)→(Exit→Hn P→Zt→Option R)→Option R} (hf:Fok P n c f) (hrd:fC E fr) {s:Sh} {act W:List Nat} {a b:Hn P} {k:Hn P→Zt→Option R} {r:R} {Q:Exit→Act→World→Prop} (h:fu f s act W a b σ k=some r) (hr:Rel E fr σ m K ρ w)
   (hQ:∀ h' σ' m' K' ρ' w',Rel E fr σ' m' K' ρ' w'→Same σ σ'→k h' σ'=some r→Q .normal (Go.Proofs.YtcfehoggnpafmaaDoor.act1 n ρ') w'):c.wpIn (aw E.rd) 0 P Q (Go.Proofs.YtcfehoggnpafmaaDoor.act1 n ρ) w:=by
 unfold fu at h
 obtain ⟨x,hx,h⟩:=ob h
 refine hf _ E ⟨m,K,ρ,fun _=>false,fr.F,fr.k0⟩ hrd a (σ.frz act) _ x m K ρ w Q hx (hr.frz act) (fun e h' σ' m' K' ρ' w' h1 h2 h3=>?_)
 cases e with
 | normal =>
   obtain ⟨h'',σ2,m2,K2,g1,g2,g3⟩:=aE h' h3 h1
   have hi:Inn σ fr ⟨m,K,ρ,fun _=>false,fr.F,fr.k0⟩ m K ρ (be σ.H act) σ2 W:=⟨rfl,rfl,rfl,rfl,rfl,(g2.2.trans h2.2),dO,fun _ _=>rfl⟩
   obtain ⟨σ3,m3,q1,q2,q3⟩:=jK hr hi g3 g1 h
   exact hQ b σ3 m3 K2 ρ' w' q3 q2 q1
 | _=>cases h3
theorem pH {c:Code} {f:Hn P→Zt→(R:Type)→(Exit→Hn P→Zt→Option R)→Option R} (hf:Fok P n c f) (hrd:fC E fr) {s:Sh} {act W:List Nat} {a b:Hn P} {k:Exit→Hn P→Zt→Option R} {r:R} {Q:Exit→Act→World→Prop} (h:fp f s act W a b σ k=some r) (hr:Rel E fr σ m K ρ w)
   (hQ:∀ e h' σ' m' K' ρ' w',Rel E fr σ' m' K' ρ' w'→Same σ σ'→k e h' σ'=some r→Q e (Go.Proofs.YtcfehoggnpafmaaDoor.act1 n ρ') w'):c.wpIn (aw E.rd) 0 P Q (Go.Proofs.YtcfehoggnpafmaaDoor.act1 n ρ) w:=by
 unfold fp at h
 obtain ⟨o,ho,h⟩:=ob h
 refine hf _ E ⟨m,K,ρ,fun _=>false,fr.F,fr.k0⟩ hrd a (σ.frz act) _ o m K ρ w Q ho (hr.frz act) (fun e h' σ' m' K' ρ' w' h1 h2 h3=>?_)
 have other:(k e h' (σ.thaw σ' (be σ.H act) [])).map Sum.inr=some o→Q e (Go.Proofs.YtcfehoggnpafmaaDoor.act1 n ρ') w':=fun h3=>by
   rw [Option.map_eq_some_iff] at h3
   obtain ⟨r',h4,rfl⟩:=h3
   cases h
   have hi:Inn σ fr ⟨m,K,ρ,fun _=>false,fr.F,fr.k0⟩ m K ρ (be σ.H act) σ' []:=⟨rfl,rfl,rfl,rfl,rfl,h2.2,dO,fun _ _=>rfl⟩
   obtain ⟨q1,q2⟩:=lR hr hi h1
   exact hQ e h' _ m' K' ρ' w' q2 q1 h4
 cases e with
 | normal =>
   obtain ⟨h'',σ2,m2,K2,g1,g2,g3⟩:=aE h' h3 h1
   rw [Option.map_eq_some_iff] at g1
   obtain ⟨x,g1,rfl⟩:=g1
   have hi:Inn σ fr ⟨m,K,ρ,fun _=>false,fr.F,fr.k0⟩ m K ρ (be σ.H act) σ2 W:=⟨rfl,rfl,rfl,rfl,rfl,(g2.2.trans h2.2),dO,fun _ _=>rfl⟩
   obtain ⟨σ3,m3,q1,q2,q3⟩:=jK hr hi g3 g1 h
   exact hQ .normal b σ3 m3 K2 ρ' w' q3 q2 q1
 | _=>exact other h3
theorem wq {s:Sh} {W:List Nat} {rest:List HA} {x:TL s.ts} (hr:Rel E fr σ m K ρ w) {g:Gt} {f:Nat→SV} {H:List HA} {us:List aa}
   (hg:s.get f H=some g) (hx:TL.of s.ts g.ds=some x) (hok:∀ a∈H,HA.ok m' K' a) (hf:∀ i,SV.rel m' K' (f i) (ρ' i)) (hmm:m <+: m') (hKK:K.le K') (hrest:∀ a∈rest,a∈σ.H) (hs:Sep E K' (H.map (HA.conc m')++(us++(rest.map (HA.conc m)++σ.fz fr))) w')
   (hds:MOk fr.k0 K' ρ'.ds) (hold:∀ i,i∉W→ρ' i=ρ i) {vs:List (Nat×SV)} {u:Un} (hu:s.un (TL.list s.ts x) σ.nx=some (vs,u)) :
   ∃ m'',Rel E ⟨m,K,ρ,fun i=>W.contains i,fr.F,fr.k0⟩ ⟨fun i=>bif W.contains i then .any else σ.get i,aP (bc σ) vs,u.H.map (HA.sub (bc σ)),rest++σ.Hf,u.nx,false⟩ m'' K' ρ' w':=by
 rw [TL.of_list hx] at hu
 have hoo:aZ s.bl m.length=true:=by
   unfold Sh.un at hu
   rw [hr.nx]
   cases ho:aZ s.bl σ.nx with
   | true=>rfl
   | false=>rw [ho] at hu; cases hu
 obtain ⟨vs',u',ms,e1,e2,e3,e4,e5,e6,e7,e8⟩:=Sh.get_un hg hok hmm hoo
 rw [hr.nx,hu] at e1
 cases e1
 have hp':=ap m ms
 refine ⟨m++ms,Rel.subs (σ:=⟨fun i=>bif W.contains i then .any else σ.get i,vs,u.H,rest++σ.Hf,u.nx,false⟩) (iW hr.toPur (m':=m++ms) (fun _ _ k=>ag hp' k) hKK) ⟨⟨ap m ms,hKK,e2,fun e=>(by cases e),fun i=>?_,fun i hi=>?_,fun i hi=>?_,fun i sv hi=>jh e3 hi _ (hf i),e4,fun a ha=>?_,hds⟩,?_⟩⟩
 . show SV.rel m K (bif W.contains i then .any else σ.get i) (ρ i)
   cases W.contains i with
   | true=>exact trivial
   | false=>exact hr.toPur.get i
 . show (bif W.contains i then SV.any else σ.get i) = .any
   have hi:W.contains i=true:=hi
   rw [hi]; rfl
 . by_cases hW:i∈W
   . exact .inl (by simpa using hW)
   . exact .inr (hold i hW)
 . refine hr.toPur.all a ?_
   rcases List.mem_append.1 ha with ha | ha
   . exact List.mem_append_left _ (hrest a ha)
   . exact List.mem_append_right _ ha
 . have s1:=e6 E _ w' hs
   have s2:Sep E K' ((g.H.map (HA.conc m')++us)++(u.H.map (HA.conc (m++ms))++(rest.map (HA.conc m)++σ.fz fr))) w':=Sep.perm (by
     rw [List.append_assoc]
     refine (fq _ _ _).trans (List.Perm.append_left _ (fq _ _ _)) ) s1
   show Sep E K' (u.H.map (HA.conc (m++ms))++((rest++σ.Hf).map (HA.conc m)++fr.F)) w'
   rw [List.map_append,hr.toPur.fz',List.append_assoc]
   exact Sep.drops s2
theorem oQ {s:Sh} {ds:List Dat} {nx:Nat} {o:List (Nat×SV)×Un} (h:s.un ds nx=some o):aZ s.bl nx=true:=by
 unfold Sh.un at h
 cases ho:aZ s.bl nx with
 | true=>rfl
 | false=>rw [ho] at h; cases h
theorem vV {c:Code} {f:Hn P→Zt→(R:Type)→(Exit→Hn P→Zt→Option R)→Option R} (hf:Fok P n c f) (hrd:fC E fr) {s:Sh} {W:List Nat} {a:Hn P} {k:Exit→Hn P→Zt→Option R} {r:R} {Q:Exit→Act→World→Prop} (h:jY f s W a σ k=some r) (hr:Rel E fr σ m K ρ w)
   (hQ:∀ e h' σ' m' K' ρ' w',Rel E fr σ' m' K' ρ' w'→Same σ σ'→k e h' σ'=some r→Q e (Go.Proofs.YtcfehoggnpafmaaDoor.act1 n ρ') w'):(Code.loop c).wpIn (aw E.rd) 0 P Q (Go.Proofs.YtcfehoggnpafmaaDoor.act1 n ρ) w:=by
 unfold jY at h
 split at h
 . rename_i g hg
   split at h
   . rename_i x0 hx0
     obtain ⟨N,hN⟩:=kZ h
     refine wpIn_loop_rounds N ?_
     -- a round's head
     have round:∀ (N:Nat) (x:TL s.ts) (m1:List M) (K1:Hp) (ρ1:Sl1) (w1:World) (vs:List (Nat×SV)) (u:Un),bK (gC f s W g a σ k) N x=some r→s.un (TL.list s.ts x) σ.nx=some (vs,u) →
         Rel E ⟨m,K,ρ,fun i=>W.contains i,fr.F,fr.k0⟩ ⟨fun i=>bif W.contains i then .any else σ.get i,aP (bc σ) vs,u.H.map (HA.sub (bc σ)),g.H++σ.Hf,u.nx,false⟩ m1 K1 ρ1 w1→Code.roundsIn (aw E.rd) 0 P c Q N (Go.Proofs.YtcfehoggnpafmaaDoor.act1 n ρ1) w1:=by
       intro N
       induction N with
       | zero=>intro x m1 K1 ρ1 w1 vs u hi; cases hi
       | succ N ih =>
         intro x m1 K1 ρ1 w1 vs u hi hu hrel
         unfold bK at hi
         obtain ⟨o,ho,hi⟩:=ob hi
         rw [roundsIn_succ]
         unfold gC at ho
         rw [hu] at ho
         simp only at ho
         have hgsub:∀ a∈g.H,a∈σ.H:=by
           obtain ⟨_,_,_,_,_,_,_,e5,_⟩:=Sh.get_un (m:=m) (K:=K) hg hr.okH (List.prefix_refl m) (by rw [hr.nx]; exact oQ hu)
           exact e5
         refine hf _ E ⟨m,K,ρ,fun i=>W.contains i,fr.F,fr.k0⟩ hrd a _ _ o m1 K1 ρ1 w1 _ ho hrel (fun e h' σ' m' K' ρ' w' h1 h2 h3=>?_)
         have other:e ≠ .normal→(k e h' (σ.thaw σ' g.H W)).map Sum.inr=some o→Q e (Go.Proofs.YtcfehoggnpafmaaDoor.act1 n ρ') w':=fun _ h3=>by
           rw [Option.map_eq_some_iff] at h3
           obtain ⟨r',h4,rfl⟩:=h3
           cases hi
           have hii:Inn σ fr ⟨m,K,ρ,fun i=>W.contains i,fr.F,fr.k0⟩ m K ρ g.H σ' W:=⟨rfl,rfl,rfl,rfl,rfl,h2.2,hgsub,fun i hi=>by simpa using hi⟩
           obtain ⟨q1,q2⟩:=lR hr hii h1
           exact hQ e h' _ m' K' ρ' w' q2 q1 h4
         cases e with
         | normal =>
           obtain ⟨h'',σ2,m2,K2,g1,g2,g3⟩:=aE h' h3 h1
           rw [Option.map_eq_some_iff] at g1
           obtain ⟨x',g1,rfl⟩:=g1
           have hsame:=h2.trans g2
           unfold Zt.pack at g1
           replace g1:=ab g1; obtain ⟨hk,g1⟩:=g1
           split at g1
           . rename_i g' hg'
             cases hu':s.un (TL.list s.ts x') σ.nx with
             | none =>
               -- the next round would not run
               cases N with
               | zero=>cases hi
               | succ N =>
                 unfold bK at hi
                 obtain ⟨o2,ho2,_⟩:=ob hi
                 unfold gC at ho2
                 rw [hu'] at ho2
                 cases ho2
             | some q =>
               obtain ⟨vs',u'⟩:=q
               have hii:Inn σ fr ⟨m,K,ρ,fun i=>W.contains i,fr.F,fr.k0⟩ m K ρ g.H σ2 W:=⟨rfl,rfl,rfl,rfl,rfl,hsame.2,hgsub,fun i hi=>by simpa using hi⟩
               obtain ⟨m'',hrel'⟩:=wq (W:=W) (rest:=g.H) (us:=[]) hr hg' g1 g3.okH g3.toPur.get g3.hm g3.hK hgsub (by rw [List.nil_append]; exact hii.sep hr g3) g3.mks (fun i hi=>by
                 have:=g3.old i (iR hk hi)
                 rcases this with h4 | h4
                 . exact absurd (by simpa using h4) hi
                 . exact h4) hu'
               exact ih x' m'' K2 ρ' w' vs' u' hi hu' hrel'
           . cases g1
         | exit i=>exact other nofun h3
         | goto l=>exact other nofun h3
         | ret=>exact other nofun h3
         | panic c=>exact other nofun h3
         | outgrown=>exact other nofun h3
     cases hu:s.un (TL.list s.ts x0) σ.nx with
     | none =>
       cases N with
       | zero=>cases hN
       | succ N =>
         unfold bK at hN
         obtain ⟨o2,ho2,_⟩:=ob hN
         unfold gC at ho2
         rw [hu] at ho2
         cases ho2
     | some q =>
       obtain ⟨vs,u⟩:=q
       have hu2:=hu
       rw [TL.of_list hx0] at hu2
       obtain ⟨vs',u',ms,e1,e2,e3,e4,e5,e6,e7,e8⟩:=Sh.get_un (m:=m) (K:=K) hg hr.okH (List.prefix_refl m) (by rw [hr.nx]; exact oQ hu2)
       rw [hr.nx,hu2] at e1
       cases e1
       have hp':=ap m ms
       refine round N x0 (m++ms) K ρ w vs u hN hu (Rel.subs (σ:=⟨fun i=>bif W.contains i then .any else σ.get i,vs,u.H,g.H++σ.Hf,u.nx,false⟩) (iW hr.toPur (m':=m++ms) (fun _ _ k=>ag hp' k) (Hp.le_refl K)) ⟨⟨ap m ms,Hp.le_refl K,e2,fun e=>(by cases e),fun i=>?_,fun i hi=>?_,fun i hi => .inr rfl,fun i sv hi=>jh e3 hi _ (hr.toPur.get i),e4,fun a ha=>?_,hr.mks⟩,?_⟩)
       . show SV.rel m K (bif W.contains i then .any else σ.get i) (ρ i)
         cases W.contains i with
         | true=>exact trivial
         | false=>exact hr.toPur.get i
       . show (bif W.contains i then SV.any else σ.get i) = .any
         have hi:W.contains i=true:=hi
         rw [hi]; rfl
       . refine hr.toPur.all a ?_
         rcases List.mem_append.1 ha with ha | ha
         . exact List.mem_append_left _ (e5 a ha)
         . exact List.mem_append_right _ ha
       . have s1:=e6 E _ w hr.toSep
         show Sep E K (u.H.map (HA.conc (m++ms))++((g.H++σ.Hf).map (HA.conc m)++fr.F)) w
         rw [List.map_append,hr.toPur.fz',List.append_assoc]
         exact s1
   . cases h
 . cases h
theorem oL {c:Code} {f:Hn P→Zt→(R:Type)→(Exit→Hn P→Zt→Option R)→Option R} (hf:Fok P n c f) (hrd:fC E fr) {k:Exit→Hn P→Zt→Option R} {r:R} {Q:Exit→Act→World→Prop}
   (hQ:∀ e h' σ' m' K' ρ' w',Rel E fr σ' m' K' ρ' w'→Same σ σ'→k e h' σ'=some r→Q e (Go.Proofs.YtcfehoggnpafmaaDoor.act1 n ρ') w'):∀ (N:Nat) {h:Hn P} {σ1:Zt} {m:List M} {K:Hp} {ρ:Sl1} {w:World},gF (fun h σ k=>f h σ _ k) k N h σ1=some r→Rel E fr σ1 m K ρ w→Same σ σ1→Code.roundsIn (aw E.rd) 0 P c Q N (Go.Proofs.YtcfehoggnpafmaaDoor.act1 n ρ) w
 | 0,h,σ1,m,K,ρ,w,hh,hr,hs=>by cases hh
 | N + 1,h,σ1,m,K,ρ,w,hh,hr,hs=>by
   rw [roundsIn_succ]
   unfold gF at hh
   refine hf _ E fr hrd h σ1 _ r m K ρ w _ hh hr (fun e h' σ' m' K' ρ' w' h1 h2 h3=>?_)
   cases e with
   | normal=>exact oL hf hrd hQ N h3 h1 (hs.trans h2)
   | exit i=>exact hQ _ h' σ' m' K' ρ' w' h1 (hs.trans h2) h3
   | goto i=>exact hQ _ h' σ' m' K' ρ' w' h1 (hs.trans h2) h3
   | ret=>exact hQ _ h' σ' m' K' ρ' w' h1 (hs.trans h2) h3
   | panic i=>exact hQ _ h' σ' m' K' ρ' w' h1 (hs.trans h2) h3
   | outgrown=>exact hQ _ h' σ' m' K' ρ' w' h1 (hs.trans h2) h3
theorem ox {y:Code} {k:Exit→Hn P→Zt→Option R} {f:Hn P→Zt→Option R} {r:R} {Q:Exit→Act→World→Prop} {σ0:Zt} (hf:∀ h' σ' m' K' ρ' w',Rel E fr σ' m' K' ρ' w'→Same σ0 σ'→f h' σ'=some r→y.wpIn (aw E.rd) 0 P Q (Go.Proofs.YtcfehoggnpafmaaDoor.act1 n ρ') w')
   (hQ:∀ e h' σ' m' K' ρ' w',Rel E fr σ' m' K' ρ' w'→Same σ0 σ'→k e h' σ'=some r→Q e (Go.Proofs.YtcfehoggnpafmaaDoor.act1 n ρ') w'):∀ e h' σ' m' K' ρ' w',Rel E fr σ' m' K' ρ' w'→Same σ0 σ'→fh k f e h' σ'=some r→Exit.then (y.wpIn (aw E.rd) 0 P Q) Q e (Go.Proofs.YtcfehoggnpafmaaDoor.act1 n ρ') w':=by
 intro e h' σ' m' K' ρ' w' h1 h2 h3
 cases e with
 | normal=>exact hf h' σ' m' K' ρ' w' h1 h2 h3
 | exit i=>exact hQ _ h' σ' m' K' ρ' w' h1 h2 h3
 | goto i=>exact hQ _ h' σ' m' K' ρ' w' h1 h2 h3
 | ret=>exact hQ _ h' σ' m' K' ρ' w' h1 h2 h3
 | panic i=>exact hQ _ h' σ' m' K' ρ' w' h1 h2 h3
 | outgrown=>exact hQ _ h' σ' m' K' ρ' w' h1 h2 h3
theorem bE {J:Rn P} (hJ:JOk J):∀ (c:Code),Fok P n c (fun h σ R k=>exec J n c h σ k)
 | .skip=>fun R E fr hrd h σ k r m K ρ w Q hh hr hQ=>wpIn_skip (hQ _ h σ m K ρ w hr Same.rfl' hh)
 | .ret=>fun R E fr hrd h σ k r m K ρ w Q hh hr hQ=>wpIn_ret (hQ _ h σ m K ρ w hr Same.rfl' hh)
 | .exit id=>fun R E fr hrd h σ k r m K ρ w Q hh hr hQ=>wpIn_exit (hQ _ h σ m K ρ w hr Same.rfl' hh)
 | .label l=>fun R E fr hrd h σ k r m K ρ w Q hh hr hQ=>wpIn_label (hQ _ h σ m K ρ w hr Same.rfl' hh)
 | .scope b=>fun R E fr hrd h σ k r m K ρ w Q hh hr hQ=>by
   refine sH (bE hJ b R E fr hrd h σ _ r m K ρ w _ (show exec J n b h σ (qt k)=some r from hh) hr (fun e h' σ' m' K' ρ' w' h1 h2 h3=>?_))
   cases e with
   | goto l=>cases h3
   | normal=>exact hQ _ h' σ' m' K' ρ' w' h1 h2 h3
   | exit i=>exact hQ _ h' σ' m' K' ρ' w' h1 h2 h3
   | ret=>exact hQ _ h' σ' m' K' ρ' w' h1 h2 h3
   | panic i=>exact hQ _ h' σ' m' K' ρ' w' h1 h2 h3
   | outgrown=>exact hQ _ h' σ' m' K' ρ' w' h1 h2 h3
 | .region id ops draw=>fun R E fr hrd h σ k r m K ρ w Q hh hr hQ=>by
   change (bif !ops.toList.all bA then none else bif draw then av h σ fun h σ=>fH n ops.toList h σ fun h σ=>(match h with | .mix plan fin tail act r=>nc n ops plan fin tail act r σ (k .normal) | .tr t s act a b=>trS n ops t s act a b σ (k .normal) | _=>none) else av h σ fun h σ=>m4 J n ops h σ (k .normal))=some r at hh
   replace hh:=cD hh; obtain ⟨hn,hh⟩:=hh
   have hn:ops.toList.all bA=true:=by simpa using hn
   cases draw with
   | false =>
     simp only [cond_false] at hh
     obtain ⟨h1,σ1,m1,K1,hh,g1,hr⟩:=aE h hh hr
     replace hQ:∀ e h' σ' m' K' ρ' w',Rel E fr σ' m' K' ρ' w'→Same σ1 σ'→k e h' σ'=some r→Q e (act1 n ρ') w':=fun e h' σ' m' K' ρ' w' q1 q2 q3=>hQ e h' σ' m' K' ρ' w' q1 (g1.trans q2) q3
     clear g1
     unfold m4 at hh
     split at hh
     . rename_i q h2
       have key:wpListIn (aw E.rd) 0 P ops Q (ops.toList.take q++ops.toList.drop q) (act1 n ρ) w:=by
         have hn1:(ops.toList.take q).all bA=true:=List.all_eq_true.2 (fun x hx=>List.all_eq_true.1 hn x (List.mem_of_mem_take hx))
         have hn2:(ops.toList.drop q).all bA=true:=List.all_eq_true.2 (fun x hx=>List.all_eq_true.1 hn x (List.mem_of_mem_drop hx))
         refine kE hn1 ?_
         have:=eT (ops:=ops) (Q:=fun e a w=>e = .normal∧wpListIn (aw E.rd) 0 P ops Q (ops.toList.drop q) a w) (ops.toList.take q) 0 hh hr (fun h' σ' m' K' ρ' w' h1 h2 h3=>?_)
         . simpa using this
         . refine ⟨rfl,?_⟩
           split at h3
           . rename_i o rest hd
             rw [hd] at hn2 ⊢
             simp only [List.all_cons,Bool.and_eq_true] at hn2
             obtain ⟨dst,op,t,pos,af,gu⟩:=o
             obtain ⟨h4,σ4,s4,hr4,hg⟩:=eW h3 h1
             rcases hg with ⟨hw,hg⟩ | ⟨hw,hg⟩
             . refine xM hJ hg hr4 hw (fun h'' σ'' m'' K'' ρ'' w'' g1 g2 g3=>?_)
               have:=eT (ops:=ops) (Q:=Q) rest 0 g3 g1 (fun h3 σ3 m3 K3 ρ3 w3 b1 b2 b3=>hQ _ h3 σ3 m3 K3 ρ3 w3 b1 (((h2.trans s4).trans g2).trans b2) b3)
               exact eG hn2.2 (by simpa using this)
             . unfold wpListIn
               rw [if_neg (by rw [hw]; exact Bool.false_ne_true)]
               refine ⟨fun _ _=>trivial,?_⟩
               cases dst with
               | none =>
                 have:=eT (ops:=ops) (Q:=Q) rest 0 hg hr4 (fun h3 σ3 m3 K3 ρ3 w3 b1 b2 b3=>hQ _ h3 σ3 m3 K3 ρ3 w3 b1 ((h2.trans s4).trans b2) b3)
                 exact eG hn2.2 (by rw [List.drop_zero] at this; exact this)
               | some d =>
                 show wpListIn _ _ _ _ _ _ ((act1 n ρ').put (some d) undef) _
                 rw [bd]
                 have:=eT (ops:=ops) (Q:=Q) rest 0 hg (hr4.set (d:=d) (sv := .raw undef) (v:=undef) rfl) (fun h3 σ3 m3 K3 ρ3 w3 b1 b2 b3=>hQ _ h3 σ3 m3 K3 ρ3 w3 b1 (((h2.trans s4).trans ⟨rfl,rfl⟩).trans b2) b3)
                 exact eG hn2.2 (by simpa using this)
           . cases h3
       rw [List.take_append_drop] at key
       have:=wpIn_region_lit (id:=id) (l:=ops.toList) (by simpa using key)
       simpa using this
     . have:=wpIn_region_lit (id:=id) (eG (r:=E.rd) (n:=0) hn (eT (Q:=Q) (ops:=ops.toList.toArray) ops.toList 0 (by simpa using hh) hr (fun h' σ' m' K' ρ' w' h1 h2 h3=>hQ _ h' σ' m' K' ρ' w' h1 h2 h3)))
       simpa using this
   | true =>
     simp only [cond_true] at hh
     obtain ⟨h1,σ1,m1,K1,hh,g1,hr⟩:=aE h hh hr
     obtain ⟨h2,σ2,m2,hh,g2,hr⟩:=pX h1 hh hr
     replace hQ:∀ e h' σ' m' K' ρ' w',Rel E fr σ' m' K' ρ' w'→Same σ2 σ'→k e h' σ'=some r→Q e (act1 n ρ') w':=fun e h' σ' m' K' ρ' w' q1 q2 q3=>hQ e h' σ' m' K' ρ' w' q1 ((g1.trans g2).trans q2) q3
     clear g1 g2
     generalize K1=K at hr
     generalize m2=m at hr
     generalize σ2=σ at hr hh hQ
     split at hh
     . rename_i plan fin tail act' h0
       unfold nc at hh
       replace hh:=bg hh; obtain ⟨hm,hB,hh⟩:=hh
       have hB':hG .any ops.toList.toArray plan fin tail=true:=by simpa using hB
       have hfr:=(hr.frz act').drew
       have hplan:∀ s i,(s,i)∈plan→i < ops.toList.length:=by
         intro s i hi
         have h0:=hB
         unfold hG at h0
         simp only [Bool.and_eq_true] at h0
         obtain ⟨_,h1⟩:=h0
         split at h1
         . rename_i l1 hl1
           simpa using oc plan _ _ hl1 s i hi
         . cases h1
       have key:=jr (l:=ops.toList) (Q:=Q) plan hh hfr rfl hplan (fun h' σ' m' K' ρ' w' h1 h2 h3=>by
         have hi:Inn σ fr ⟨m,K,ρ,fun _=>false,fr.F,fr.k0⟩ m K ρ (be σ.H act') σ' []:=⟨rfl,rfl,rfl,rfl,rfl,h2.2,dO,fun _ _=>rfl⟩
         obtain ⟨z1,z2⟩:=lR hr hi h1
         have:=eT (ops:=ops.toList.toArray) (Q:=Q) (aM ops.toList tail) 0 (by simpa using h3) z2 (fun h'' σ'' m'' K'' ρ'' w'' b1 b2 b3=>hQ .normal h'' σ'' m'' K'' ρ'' w'' b1 (z1.trans b2) b3)
         rwa [List.drop_zero] at this)
       have:=ta (id:=id) (Q:=Q) plan fin tail hm hB' _ hfr.cfz rfl rfl rfl key hn (r:=E.rd) (n:=0)
       simpa using this
     . rename_i t s act' a b
       unfold trS at hh
       replace hh:=bg hh; obtain ⟨hm,hB,hh⟩:=hh
       obtain ⟨x,hx,hh⟩:=ob hh
       have hfr:=(hr.frz act').drew
       have key:=jA (l:=ops.toList) (F:=fun a' w'=>aj P ops.toList.toArray Q (aM ops.toList []) a' w') t hx hfr rfl (fun h' σ' m' K' ρ' w' h1 h2 h3=>by
         obtain ⟨h'',σ2,m2,K2,g1,g2,g3⟩:=aE h' h3 h1
         have hi:Inn σ fr ⟨m,K,ρ,fun _=>false,fr.F,fr.k0⟩ m K ρ (be σ.H act') σ2 (s.sl.map (·.1)++aq ops.toList):=⟨rfl,rfl,rfl,rfl,rfl,(g2.2.trans h2.2),dO,fun _ _=>rfl⟩
         obtain ⟨σ3,m3,q1,q2,q3⟩:=jK hr hi g3 g1 hh
         exact hQ .normal b σ3 m3 K2 ρ' w' q3 q2 q1)
       have:=sV (id:=id) (Q:=Q) t [] hm hB _ hfr.cfz rfl key hn (r:=E.rd) (n:=0)
       simpa using this
     . cases hh
 | .seq a b=>fun R E fr hrd h σ k r m K ρ w Q hh hr hQ=>by
   have plain:∀ h0,exec J n a h0 σ (fh k (fun h σ=>exec J n b h σ k))=some r→(Code.seq a b).wpIn (aw E.rd) 0 P Q (act1 n ρ) w:=fun h0 hh =>
     wpIn_seq (bE hJ a R E fr hrd h0 σ _ r m K ρ w _ hh hr (ox (σ0:=σ) (fun h' σ' m' K' ρ' w' h1 h2 h3=>bE hJ b R E fr hrd h' σ' k r m' K' ρ' w' Q h3 h1 (fun e h'' σ'' m'' K'' ρ'' w'' q1 q2 q3=>hQ e h'' σ'' m'' K'' ρ'' w'' q1 (h2.trans q2) q3)) hQ))
   cases h with
   | sq mk s act ha hb =>
     have hh:(match Zt.mcs mk σ with | some σ=>fu (fun h σ R k=>exec J n a h σ k) s act (s.sl.map (·.1)++bh a) ha hb σ (fun h σ=>exec J n b h σ k) | none=>none)=some r:=hh
     split at hh
     . rename_i σ1 hm
       obtain ⟨m1,k1,k2⟩:=gG hm hr
       refine wpIn_seq (pM (bE hJ a) hrd hh k2 (fun h' σ' m' K' ρ' w' h1 h2 h3=>?_))
       exact bE hJ b R E fr hrd h' σ' k r m' K' ρ' w' Q h3 h1 (fun e h'' σ'' m'' K'' ρ'' w'' q1 q2 q3=>hQ e h'' σ'' m'' K'' ρ'' w'' q1 ((k1.trans h2).trans q2) q3)
     . cases hh
   | sx mk s act ha hb =>
     have hh:(match Zt.mcs mk σ with | some σ=>fp (fun h σ R k=>exec J n a h σ k) s act (s.sl.map (·.1)++bh a) ha hb σ (fh k (fun h σ=>exec J n b h σ k)) | none=>none)=some r:=hh
     split at hh
     . rename_i σ1 hm
       obtain ⟨m1,k1,k2⟩:=gG hm hr
       refine wpIn_seq (pH (bE hJ a) hrd hh k2 ?_)
       exact ox (σ0:=σ1) (fun h' σ' m' K' ρ' w' h1 h2 h3=>bE hJ b R E fr hrd h' σ' k r m' K' ρ' w' Q h3 h1 (fun e h'' σ'' m'' K'' ρ'' w'' q1 q2 q3=>hQ e h'' σ'' m'' K'' ρ'' w'' q1 ((k1.trans h2).trans q2) q3)) (fun e h' σ' m' K' ρ' w' q1 q2 q3=>hQ e h' σ' m' K' ρ' w' q1 (k1.trans q2) q3)
     . cases hh
   | pl h=>exact plain h hh
   | nil=>exact plain _ hh
   | two _ _ _=>exact plain _ hh
   | tw _ _ _=>exact plain _ hh
   | jn _ _ _ _ _=>exact plain _ hh
   | jx _ _ _ _ _=>exact plain _ hh
   | lp _ _=>exact plain _ hh
   | un _ _=>exact plain _ hh
   | per _ _ _=>exact plain _ hh
   | perb _ _ _ _=>exact plain _ hh
   | mc _ _ _ _=>exact plain _ hh
   | ms _ _=>exact plain _ hh
   | wt _ _=>exact plain _ hh
   | cl _ _ _=>exact plain _ hh
   | c2 _ _ _ _=>exact plain _ hh
   | gp _ _=>exact plain _ hh
   | gj _ _ _ _ _=>exact plain _ hh
   | mix _ _ _ _ _=>exact plain _ hh
   | opn _ _ _=>exact plain _ hh
   | opb _ _ _=>exact plain _ hh
   | cls _ _ _=>exact plain _ hh
   | opp _ _ _ _=>exact plain _ hh
   | ot _ _=>exact plain _ hh
   | cm _ _ _ _=>exact plain _ hh
   | cm2 _ _ _ _ _=>exact plain _ hh
   | tr _ _ _ _ _=>exact plain _ hh
   | tru _=>exact plain _ hh
   | yl _ _=>exact plain _ hh
   | rg _ _=>exact plain _ hh
   | il _ _=>exact plain _ hh
 | .cond c x y=>fun R E fr hrd h σ k r m K ρ w Q hh hr hQ=>by
   obtain ⟨h1,σ1,m1,K1,g1,g2,g3⟩:=aE h (show av h σ (fun h σ=>my c (σ.evr n c) h σ (fun h σ=>exec J n x h σ k) (fun h σ=>exec J n y h σ k))=some r from hh) hr
   have hv:=g3.toPur.evr n c
   have goX:∀ h2 σ2,Rel E fr σ2 m1 K1 ρ w→Same σ σ2→exec J n x h2 σ2 k=some r→x.wpIn (aw E.rd) 0 P Q (act1 n ρ) w:=fun h2 σ2 q1 q2 q3 =>
     bE hJ x R E fr hrd h2 σ2 k r m1 K1 ρ w Q q3 q1 (fun e h'' σ'' m'' K'' ρ'' w'' p1 p2 p3=>hQ e h'' σ'' m'' K'' ρ'' w'' p1 (q2.trans p2) p3)
   have goY:∀ h2 σ2,Rel E fr σ2 m1 K1 ρ w→Same σ σ2→exec J n y h2 σ2 k=some r→y.wpIn (aw E.rd) 0 P Q (act1 n ρ) w:=fun h2 σ2 q1 q2 q3 =>
     bE hJ y R E fr hrd h2 σ2 k r m1 K1 ρ w Q q3 q1 (fun e h'' σ'' m'' K'' ρ'' w'' p1 p2 p3=>hQ e h'' σ'' m'' K'' ρ'' w'' p1 (q2.trans p2) p3)
   have slot:∀ (d:Nat) (sv:SV),c = .tmp d→σ1.evr n c=sv→sv ≠ .any→σ1.get d=sv:=fun d sv hc he hne=>by
     subst hc
     cases hh:Nat.blt d n with
     | false =>
       have:σ1.evr n (.tmp d) = .any:=by show (bif Nat.blt d n then σ1.get d else .any)=_; rw [hh]; rfl
       rw [this] at he; exact absurd he.symm hne
     | true =>
       have:σ1.evr n (.tmp d)=σ1.get d:=by show (bif Nat.blt d n then σ1.get d else .any)=_; rw [hh]; rfl
       rw [← this]; exact he
   unfold my at g1
   split at g1
   . rename_i jm w0 e
     rw [e] at hv
     obtain ⟨hj,hv⟩:=hv
     split at g1
     . rename_i t
       have hb:ev n ρ c = .bool t:=hv
       rw [hb] at hj
       refine wpIn_cond_split (t:=t) (by rw [bv]; exact hb) (fun ht=>?_) (fun ht=>?_)
       . subst ht
         split at g1
         . exact goX _ _ (g3.fix (v := .bool true) hj rfl) (g2.trans ⟨rfl,rfl⟩) g1
         . exact goX _ σ1 g3 g2 g1
         . exact goX _ σ1 g3 g2 g1
       . subst ht
         split at g1
         . exact goY _ _ (g3.fix (v := .bool false) hj rfl) (g2.trans ⟨rfl,rfl⟩) g1
         . exact goY _ σ1 g3 g2 g1
         . exact goY _ σ1 g3 g2 g1
     . cases g1
   . rename_i t e
     rw [e] at hv
     have hb:ev n ρ c = .bool t:=hv
     refine wpIn_cond_split (t:=t) (by rw [bv]; exact hb) (fun ht=>?_) (fun ht=>?_)
     . subst ht
       split at g1
       . rename_i ha hbn d _
         have hg:=slot d _ rfl e nofun
         exact goX ha _ (g3.ref (fun _ _ u hu=>by rw [hg] at hu; exact hu) (by rw [hg]; nofun)) (g2.trans ⟨rfl,d8.2⟩) g1
       . exact goX _ σ1 g3 g2 g1
       . exact goX _ σ1 g3 g2 g1
     . subst ht
       split at g1
       . rename_i ha hbn d _
         have hg:=slot d _ rfl e nofun
         exact goY hbn _ (g3.ref (fun _ _ u hu=>by rw [hg] at hu; exact hu) (by rw [hg]; nofun)) (g2.trans ⟨rfl,d8.2⟩) g1
       . exact goY _ σ1 g3 g2 g1
       . exact goY _ σ1 g3 g2 g1
   . rename_i tp l ng e
     rw [e] at hv
     obtain ⟨q,hb,hl⟩:=hv
     refine wpIn_cond_split (t:=q ^^ ng) (by rw [bv]; exact hb) (fun ht=>?_) (fun ht=>?_)
     . split at g1
       . rename_i ha hbn _
         cases ng with
         | true =>
           rw [Bool.xor_true] at ht
           simp only [cond_true] at g1
           exact goX ha _ g3 g2 (oO g1)
         | false =>
           rw [Bool.xor_false] at ht
           simp only [cond_false] at g1
           exact goX ha _ g3 g2 (pq (hl ht) g1)
       . cases g1
     . split at g1
       . rename_i ha hbn _
         cases ng with
         | true =>
           rw [Bool.xor_true] at ht
           simp only [cond_true] at g1
           exact goY hbn _ g3 g2 (pq (hl (by simpa using ht)) g1)
         | false =>
           rw [Bool.xor_false] at ht
           simp only [cond_false] at g1
           exact goY hbn _ g3 g2 (oO g1)
       . cases g1
   . cases g1
 | .block id b=>fun R E fr hrd h σ k r m K ρ w Q hh hr hQ=>by
   have blk:∀ {R:Type} {k:Exit→Hn P→Zt→Option R} {r:R} {Q:Exit→Act→World→Prop} {fr:Frz} {σ:Zt},(∀ e h' σ' m' K' ρ' w',Rel E fr σ' m' K' ρ' w'→Same σ σ'→k e h' σ'=some r→Q e (act1 n ρ') w') →
       ∀ e h' σ' m' K' ρ' w',Rel E fr σ' m' K' ρ' w'→Same σ σ'→dA id k e h' σ'=some r→Exit.inBlock id Q e (act1 n ρ') w':=by
     intro R k r Q fr σ hQ e h' σ' m' K' ρ' w' h1 h2 h3
     cases e with
     | exit i =>
       change (bif Nat.beq i id then k .normal h' σ' else k (.exit i) h' σ')=some r at h3
       show if i=id then _ else _
       cases hb:Nat.beq i id with
       | true =>
         rw [hb] at h3
         rw [if_pos (Nat.eq_of_beq_eq_true hb)]
         exact hQ _ h' σ' m' K' ρ' w' h1 h2 h3
       | false =>
         rw [hb] at h3
         rw [if_neg (fun e=>by rw [e,Nat.beq_refl] at hb; cases hb)]
         exact hQ _ h' σ' m' K' ρ' w' h1 h2 h3
     | normal=>exact hQ _ h' σ' m' K' ρ' w' h1 h2 h3
     | goto l=>exact hQ _ h' σ' m' K' ρ' w' h1 h2 h3
     | ret=>exact hQ _ h' σ' m' K' ρ' w' h1 h2 h3
     | panic i=>exact hQ _ h' σ' m' K' ρ' w' h1 h2 h3
     | outgrown=>exact hQ _ h' σ' m' K' ρ' w' h1 h2 h3
   have fb:Fok P n (.block id b) (fun h σ R k=>exec J n b h σ (dA id k)):=fun R E fr hrd h σ k r m K ρ w Q hh hr hQ=>by
     refine wpIn_block (bE hJ b R E fr hrd h σ _ r m K ρ w _ hh hr ?_)
     intro e h' σ' m' K' ρ' w' h1 h2 h3
     cases e with
     | exit i =>
       change (bif Nat.beq i id then k .normal h' σ' else k (.exit i) h' σ')=some r at h3
       show if i=id then _ else _
       cases hb:Nat.beq i id with
       | true =>
         rw [hb] at h3
         rw [if_pos (Nat.eq_of_beq_eq_true hb)]
         exact hQ _ h' σ' m' K' ρ' w' h1 h2 h3
       | false =>
         rw [hb] at h3
         rw [if_neg (fun e=>by rw [e,Nat.beq_refl] at hb; cases hb)]
         exact hQ _ h' σ' m' K' ρ' w' h1 h2 h3
     | normal=>exact hQ _ h' σ' m' K' ρ' w' h1 h2 h3
     | goto l=>exact hQ _ h' σ' m' K' ρ' w' h1 h2 h3
     | ret=>exact hQ _ h' σ' m' K' ρ' w' h1 h2 h3
     | panic i=>exact hQ _ h' σ' m' K' ρ' w' h1 h2 h3
     | outgrown=>exact hQ _ h' σ' m' K' ρ' w' h1 h2 h3
   have plain:∀ h0,exec J n b h0 σ (dA id k)=some r→(Code.block id b).wpIn (aw E.rd) 0 P Q (act1 n ρ) w:=fun h0 hh=>fb R E fr hrd h0 σ k r m K ρ w Q hh hr hQ
   cases h with
   | jn mk s act ha hb =>
     have hh:(match Zt.mcs mk σ with | some σ=>fu (fun h σ R k=>exec J n b h σ (dA id k)) s act (s.sl.map (·.1)++bh b) ha hb σ (k .normal) | none=>none)=some r:=hh
     split at hh
     . rename_i σ1 hm
       obtain ⟨m1,k1,k2⟩:=gG hm hr
       exact pM fb hrd hh k2 (fun h' σ' m' K' ρ' w' h1 h2 h3=>hQ _ h' σ' m' K' ρ' w' h1 (k1.trans h2) h3)
     . cases hh
   | jx mk s act ha hb =>
     have hh:(match Zt.mcs mk σ with | some σ=>fp (fun h σ R k=>exec J n b h σ (dA id k)) s act (s.sl.map (·.1)++bh b) ha hb σ k | none=>none)=some r:=hh
     split at hh
     . rename_i σ1 hm
       obtain ⟨m1,k1,k2⟩:=gG hm hr
       exact pH fb hrd hh k2 (fun e h' σ' m' K' ρ' w' q1 q2 q3=>hQ e h' σ' m' K' ρ' w' q1 (k1.trans q2) q3)
     . cases hh
   | pl h=>exact plain _ hh
   | nil=>exact plain _ hh
   | two _ _ _=>exact plain _ hh
   | tw _ _ _=>exact plain _ hh
   | sq _ _ _ _ _=>exact plain _ hh
   | sx _ _ _ _ _=>exact plain _ hh
   | lp _ _=>exact plain _ hh
   | un _ _=>exact plain _ hh
   | per _ _ _=>exact plain _ hh
   | perb _ _ _ _=>exact plain _ hh
   | mc _ _ _ _=>exact plain _ hh
   | ms _ _=>exact plain _ hh
   | wt _ _=>exact plain _ hh
   | cl _ _ _=>exact plain _ hh
   | c2 _ _ _ _=>exact plain _ hh
   | gp _ _=>exact plain _ hh
   | gj _ _ _ _ _=>exact plain _ hh
   | mix _ _ _ _ _=>exact plain _ hh
   | opn _ _ _=>exact plain _ hh
   | opb _ _ _=>exact plain _ hh
   | cls _ _ _=>exact plain _ hh
   | opp _ _ _ _=>exact plain _ hh
   | ot _ _=>exact plain _ hh
   | cm _ _ _ _=>exact plain _ hh
   | cm2 _ _ _ _ _=>exact plain _ hh
   | tr _ _ _ _ _=>exact plain _ hh
   | tru _=>exact plain _ hh
   | yl _ _=>exact plain _ hh
   | rg _ _=>exact plain _ hh
   | il _ _=>exact plain _ hh
 | .loop b=>fun R E fr hrd h σ k r m K ρ w Q hh hr hQ=>by
   obtain ⟨h1,σ1,m1,K1,g1,g2,g3⟩:=aE h (show av h σ (fun h σ=>match h with
     | .un m r=>gF (fun h σ k=>exec J n b h σ k) k m r σ
     | .lp s ha=>jY (fun h σ R k=>exec J n b h σ k) s (s.sl.map (·.1)++bh b) ha σ k
     | _=>none)=some r from hh) hr
   have hQ':∀ e h' σ' m' K' ρ' w',Rel E fr σ' m' K' ρ' w'→Same σ1 σ'→k e h' σ'=some r→Q e (act1 n ρ') w':=fun e h'' σ'' m'' K'' ρ'' w'' p1 p2 p3=>hQ e h'' σ'' m'' K'' ρ'' w'' p1 (g2.trans p2) p3
   split at g1
   . exact wpIn_loop_rounds _ (oL (bE hJ b) hrd hQ' _ g1 g3 Same.rfl')
   . exact vV (bE hJ b) hrd g1 g3 hQ'
   . cases g1
 | .rangeFunc g ps ao bo=>fun R E fr hrd h σ k r m K ρ w Q hh hr hQ=>by
   obtain ⟨h1,σ1,m1,K1,g1,g2,g3⟩:=aE h (show av h σ (fun h σ=>j5 J n g ps ao bo h σ k)=some r from hh) hr
   exact v7 hJ hrd g1 g3 (fun e h'' σ'' m'' K'' ρ'' w'' p1 p2 p3=>hQ e h'' σ'' m'' K'' ρ'' w'' p1 (g2.trans p2) p3)
 | .goto l=>fun R E fr hrd h σ k r m K ρ w Q hh hr hQ=>by cases hh
 | .refuse s=>fun R E fr hrd h σ k r m K ρ w Q hh hr hQ=>by cases hh
theorem pD:∀ d:Nat,JOk (mD (P:=P) d)
 | 0=>fun n c R E fr hrd h σ k r m K ρ w Q hh hr hQ=>by cases hh
 | d + 1=>fun n c=>bE (pD d) c
end
end
section
variable [BldA]
def cy (P:Program) (n:Nat) (σ:Zt):List ResultVar→Option (List SV)
 | []=>some []
 | .tmp t :: r=>(match cy P n σ r with | some vs=>some (σ.ev n (.tmp t) :: vs) | none=>none)
 | .cell a ty :: r=>(match σ.ev n (.tmp a) with
   | .ptr i o=>(match aF (HA.blkR i) (σ.H++σ.Hf) with
     | some q=>(match ldv P ty q.cs o,cy P n σ r with | some v,some vs=>some (v :: vs) | _,_=>none)
     | none=>none)
   | _=>none)
def so:List SV→SV
 | [v]=>v
 | vs => .tup vs
def dF (σ:Zt) (rs:List SV) (o:Sh):Option (TL o.ts):=bif (match rs,o.sl with | [],[]=>true | _ :: _,[p]=>Nat.beq p.1 0 | _,_=>false) then (match o.get (fun _=>so rs) σ.H with | some g=>TL.of o.ts g.ds | none=>none) else none
def kl {P:Program} (σ:Zt) (rs:List SV):(os:List Sh)→Hn P→Option (bP os)
 | [a],_=>dF σ rs a
 | [a,b],h=>(match h with | .pl _=>(dF σ rs b).map Sum.inr | _=>(dF σ rs a).map Sum.inl)
 | _,_=>none
def kj {P:Program} (n:Nat) (fn:Func) (os:List Sh) (h:Hn P) (σ:Zt):Option (bP os):=av h σ fun h σ=>match cy P n σ fn.results.toList with | some rs=>kl σ rs os h | none=>none
def fin {P:Program} (n:Nat) (fn:Func) (os:List Sh) (e:Exit) (h:Hn P) (σ:Zt):Option (bP os):=match e with
 | .normal=>kj n fn os h σ
 | .ret=>kj n fn os h σ
 | _=>none
def m8 {P:Program} (n:Nat) (fn:Func) (c:Code) (inn:Sh) (os:List Sh) (h:Hn P) (x:TL inn.ts):Option (bP os):=match inn.un (TL.list inn.ts x) 0 with
 | some (vs,u)=>av h ⟨fun _ => .any,vs,u.H,[],u.nx,false⟩ fun h σ=>exec (mD 4) n c h σ (fin n fn os)
 | none=>none
section
variable {P:Program} {E:En} {n:Nat} {m:List M} {K:Hp} {fr:Frz} {σ:Zt} {ρ:Sl1} {w:World}
theorem lK (hr:Rel E fr σ m K ρ w):∀ {l:List ResultVar} {rs:List SV},cy P n σ l=some rs→∃ us:List Value,SV.relL m K rs us∧l.length=us.length∧∀ (j:Nat) (r:ResultVar) (v:Value),l[j]? = some r→us[j]? = some v→hP P n (Hold E K (σ.atoms fr m)) ρ r v
 | [],rs,h=>by cases h; exact ⟨[],rfl,rfl,fun j r v h=>by simp at h⟩
 | .tmp t :: l,rs,h=>by
   unfold cy at h
   split at h
   . rename_i vs hvs
     cases h
     obtain ⟨us,h1,h2,h3⟩:=lK hr hvs
     refine ⟨ev n ρ (.tmp t) :: us,⟨_,us,rfl,hr.toPur.ev n (.tmp t),h1⟩,by simp [h2],fun j r v hj hv=>?_⟩
     cases j with
     | zero=>simp at hj hv; subst hj hv; rfl
     | succ j=>exact h3 j r v (by simpa using hj) (by simpa using hv)
   . cases h
 | .cell a ty :: l,rs,h=>by
   unfold cy at h
   split at h
   . rename_i i o e
     split at h
     . rename_i q hq
       split at h
       . rename_i v vs hv hvs
         cases h
         obtain ⟨us,h1,h2,h3⟩:=lK hr hvs
         obtain ⟨x,hx,hmem⟩:=aR hq
         obtain rfl:=bU hx
         obtain ⟨b,ws,g1,g2,g3⟩:=hr.cls.blk hmem
         obtain ⟨u,g4,g5⟩:=gK (P:=P) (o0:=0) hv g2 (fun j u hu=>by rw [Nat.zero_add]; exact g3 j u hu)
         rw [Nat.zero_add] at g4
         have hev:=hr.toPur.ev n (.tmp a)
         rw [e] at hev
         obtain ⟨b',q1,q2⟩:=hev
         rw [g1] at q1; cases q1
         refine ⟨u :: us,⟨_,us,rfl,g5,h1⟩,by simp [h2],fun j r v hj hv=>?_⟩
         cases j with
         | zero=>simp at hj hv; subst hj hv; exact ⟨b,o,q2,g4⟩
         | succ j=>exact h3 j r v (by simpa using hj) (by simpa using hv)
       . cases h
     . cases h
   . cases h
theorem oZ {C:World→Prop} {w:World} (hw:C w):∀ {l:List ResultVar} {us:List Value},l.length=us.length→(∀ (j:Nat) (r:ResultVar) (v:Value),l[j]? = some r→us[j]? = some v→hP P n C ρ r v)→(l.mapM (rvS (frm n ρ))).run P w = .ok us w
 | [],us,h,_=>by
   obtain rfl:us=[]:=List.length_eq_zero_iff.1 h.symm
   simp
 | r :: l,us,h,hr=>by
   cases us with
   | nil=>cases h
   | cons u us =>
     have h1:=ra (hr 0 r u rfl rfl) hw
     have h2:=oZ hw (l:=l) (us:=us) (by simpa using h) (fun j r v hj hv=>hr (j + 1) r v (by simpa using hj) (by simpa using hv))
     simp [List.mapM_cons,h1,h2]
def gZ:List Value→Value
 | [v]=>v
 | vs => .tuple vs.toArray
theorem wH {C:World→Prop} {w:World} (hw:C w) {fn:Func} {us:List Value} (hl:fn.results.toList.length=us.length) (h:∀ (j:Nat) (r:ResultVar) (v:Value),fn.results.toList[j]? = some r→us[j]? = some v→hP P n C ρ r v):(results fn (frm n ρ)).run P w = .ok (gZ us) w:=by
 have h1:=oZ hw hl h
 rw [nP]
 simp only [Array.mapM_eq_mapM_toList]
 simp only [Sem.run_bind,Sem.run_map,h1,Result.andThen_ok,Sem.run_pure]
 match us with
 | []=>rfl
 | [u]=>rfl
 | u :: v :: r =>
   rw [dif_neg (by simp)]
   rfl
theorem vd {rs:List SV} {us:List Value} (h:SV.relL m K rs us) (hne:rs≠[]):SV.rel m K (so rs) (gZ us):=by
 match rs,us,h with
 | [],_,_=>exact absurd rfl hne
 | [v],us,h =>
   obtain ⟨u,q,rfl,h1,h2⟩:=ax h
   obtain rfl:=aA h2
   exact h1
 | v :: v2 :: r,us,h =>
   obtain ⟨u,q,rfl,h1,h2⟩:=ax h
   obtain ⟨u2,q2,rfl,h3,h4⟩:=ax h2
   exact ⟨_,rfl,u,_,rfl,h1,u2,q2,rfl,h3,h4⟩
theorem lM {rs:List SV} {us:List Value} {o:Sh} {x:TL o.ts} {K0:Hp} {m0:List M} (h:dF σ rs o=some x) (hr:Rel E fr σ m K ρ w) (hrel:SV.relL m K rs us) (hm:m0 <+: m) (ho:aZ o.bl m0.length=true) (hF:σ.Hf=[]) :
   ∃ vs' u' m',o.un (TL.list o.ts x) m0.length=some (vs',u')∧m0 <+: m'∧m'.length=u'.nx∧(∀ a∈u'.H,HA.ok m' K a)∧fD m' K vs' (gZ us)∧Sep E K (u'.H.map (HA.conc m')++fr.F) w:=by
 unfold dF at h
 replace h:=ab h; obtain ⟨hs,h⟩:=h
 split at h
 . rename_i g hg
   obtain ⟨vs,u,ms,e1,e2,e3,e4,e5,e6,e7,e8⟩:=Sh.get_un hg hr.okH hm ho
   rw [TL.of_list h]
   refine ⟨vs,u,m0++ms,e1,ap _ _,e2,e4,?_,?_⟩
   . split at hs
     . rename_i hsl
       rw [hsl] at e3
       obtain rfl:vs=[]:=e3
       obtain rfl:=aA hrel
       rfl
     . rename_i v r p hsl
       rw [hsl] at e3
       obtain ⟨sv,q,rfl,g1,g2⟩:=e3
       obtain rfl:q=[]:=g2
       exact g1 _ (vd hrel (by simp))
     . cases hs
   . have:=e6 E _ w hr.toSep
     have h2:σ.fz fr=fr.F:=by unfold Zt.fz; rw [hF]; rfl
     rw [h2] at this
     have h3:Sep E K (g.H.map (HA.conc m)++(u.H.map (HA.conc (m0++ms))++fr.F)) w:=Sep.perm (fq _ _ _) this
     exact Sep.drops h3
 . cases h
theorem wu {rs:List SV} {us:List Value} {m0:List M} (hr:Rel E fr σ m K ρ w) (hrel:SV.relL m K rs us) (hm:m0 <+: m) (hF:σ.Hf=[]):∀ {os:List Sh} {h0:Hn P} {r:bP os},(∀ o∈os,aZ o.bl m0.length=true)→kl σ rs os h0=some r →
   ∃ vs' u' m',(bn os r).1.un (bn os r).2 m0.length=some (vs',u')∧m0 <+: m'∧m'.length=u'.nx∧(∀ a∈u'.H,HA.ok m' K a)∧fD m' K vs' (gZ us)∧Sep E K (u'.H.map (HA.conc m')++fr.F) w
 | [],h0,r,_,h=>Empty.elim r
 | [a],h0,r,ho,h=>lM (K0:=K) (show dF σ rs a=some r from h) hr hrel hm (ho a (by simp)) hF
 | [a,b],h0,r,ho,h=>by
   have key:(dF σ rs b).map Sum.inr=some r∨(dF σ rs a).map Sum.inl=some r:=by
     cases h0 <;> first | exact .inl h | exact .inr h
   clear h
   rcases key with h | h
   . rw [Option.map_eq_some_iff] at h
     obtain ⟨x,h,rfl⟩:=h
     exact lM (K0:=K) h hr hrel hm (ho b (by simp)) hF
   . rw [Option.map_eq_some_iff] at h
     obtain ⟨x,h,rfl⟩:=h
     exact lM (K0:=K) h hr hrel hm (ho a (by simp)) hF
 | a :: b :: c :: os,h0,r,_,h=>by cases h
theorem oR:∀ {sl:List (Nat×Kd)} {vs:List (Nat×SV)} {us:List Value} {j N:Nat},slN j sl N=true→vs.map (·.1)=sl.map (·.1)→slR m K vs us→∀ i sv,an vs i=some sv→∃ k u,i=j + k∧us[k]? = some u∧SV.rel m K sv u
 | [],vs,us,j,N,h1,h2,h3,i,sv,hl=>by
   have:vs=[]:=by cases vs with | nil=>rfl | cons a b=>cases h2
   subst this; cases hl
 | p :: sl,vs,us,j,N,h1,h2,h3,i,sv,hl=>by
   cases vs with
   | nil=>cases h2
   | cons q vs =>
     simp only [List.map_cons,List.cons.injEq] at h2
     simp only [slN,Bool.and_eq_true] at h1
     have hj:=Nat.eq_of_beq_eq_true h1.1
     obtain ⟨u,r,rfl,g1,g2⟩:=h3
     change (bif Nat.beq q.1 i then some q.2 else an vs i)=some sv at hl
     cases hb:Nat.beq q.1 i with
     | true =>
       rw [hb] at hl; cases hl
       have:=Nat.eq_of_beq_eq_true hb
       exact ⟨0,u,by rw [← this,h2.1,hj]; rfl,rfl,g1⟩
     | false =>
       rw [hb] at hl
       obtain ⟨k,u',e1,e2,e3⟩:=oR h1.2 h2.2 g2 i sv hl
       exact ⟨k + 1,u',by omega,by simpa using e2,e3⟩
theorem pO {bi:List Nat}:∀ {sl:List (Nat×Kd)} {u u':Un} {vs:List (Nat×SV)},unS bi sl u=some (vs,u')→vs.map (·.1)=sl.map (·.1)
 | [],u,u',vs,h=>by cases h; rfl
 | p :: sl,u,u',vs,h=>by
   unfold unS at h
   split at h
   . split at h
     . rename_i h2
       cases h
       simp [pO h2]
     . cases h
   . cases h
theorem wX {s:Sh} {ds:List Dat} {nx:Nat} {vs:List (Nat×SV)} {u:Un} (h:s.un ds nx=some (vs,u)):vs.map (·.1)=s.sl.map (·.1):=by
 unfold Sh.un at h
 replace h:=(ab h).2
 split at h
 split at h
 . rename_i h1
   split at h
   . cases h; exact pO h1
   . cases h
 . cases h
theorem pT:∀ {vs:List (Nat×SV)} {us:List Value},slR m K vs us→us.length=vs.length
 | [],us,h=>by obtain rfl:us=[]:=h; rfl
 | p :: vs,us,⟨u,r,e,_,h⟩=>by subst e; simp [pT h]
end
section
variable {P:Program} {E:En} {n:Nat} {m:List M} {K:Hp} {fr:Frz} {σ:Zt} {ρ:Sl1} {w:World}
theorem lS {b:Bool}:∀ l:List ResultVar,cy P n ⟨σ.base,σ.top,σ.H,σ.Hf,σ.nx,b⟩ l=cy P n σ l
 | []=>rfl
 | .tmp t :: r=>by unfold cy; rw [lS r]; rfl
 | .cell a ty :: r=>by unfold cy; rw [lS r]; rfl
theorem wi {b:Bool} {rs:List SV}:∀ {os:List Sh} {h:Hn P},kl ⟨σ.base,σ.top,σ.H,σ.Hf,σ.nx,b⟩ rs os h=kl σ rs os h
 | [],h=>rfl
 | [a],h=>rfl
 | [a,b],h=>by cases h <;> rfl
 | a :: b :: c :: os,h=>rfl
end
section
variable {P:Program} {n:Nat}
theorem yu {s:Spec} {fn:Func} {c:Code} (hf:P.funcs[s.f]? = some fn) (hb:fn.body=some c) (hn:fn.ntmps=n) (h:Hn P) (hc:(slN 0 s.inn.sl s.inn.sl.length&&Nat.ble s.inn.sl.length n)=true) (hold:∀ ds vs u,s.inn.un ds 0=some (vs,u)→∀ o∈s.outs,aZ o.bl u.nx=true)
   (hex:∀ (x:TL s.inn.ts) r,s.fn x=some r→m8 n fn c s.inn s.outs h x=some r):aV P s:=by
 intro x r hx vs u hu m K args hgk hm hok hsl E w F hs
 rw [Bool.and_eq_true] at hc
 obtain ⟨hc1,hc2⟩:=hc
 have hkeys:=wX hu
 have hlen:args.toArray.size≤n:=by
   have h1:=pT hsl
   have h2:vs.length=s.inn.sl.length:=by have:=congrArg List.length hkeys; simpa using this
   simp only [List.size_toArray]
   have:=Nat.le_of_ble_eq_true hc2
   omega
 refine callsIn_wide.1 (callsIn_of_wp_marks (F:=Fence.wide) (n:=0) hf hb trivial ?_)
 rw [hn,ji hlen]
 have hrun:=hex x r hx
 unfold m8 at hrun
 rw [hu] at hrun
 simp only at hrun
 have hrel:Rel E.out0 ⟨m,K,bH args.toArray,fun _=>false,F,K⟩ ⟨fun _ => .any,vs,u.H,[],u.nx,false⟩ m K (bH args.toArray) w:=by
   refine ⟨⟨List.prefix_refl m,Hp.le_refl K,hm,fun e=>(by cases e),fun i=>trivial,fun i e=>rfl,fun i _ => .inr rfl,fun i sv hi=>?_,hok,fun a ha=>by simp at ha,MOk.nil hgk (Hp.le_refl K)⟩,?_⟩
   . obtain ⟨k,v,e1,e2,e3⟩:=oR hc1 hkeys hsl i sv hi
     have:bH args.toArray i=v:=by
       show cw args.toArray i=v
       unfold cw
       rw [e1,Nat.zero_add]
       simp [e2]
     rw [this]; exact e3
   . exact hs.out0
 obtain ⟨hp,σp,mp,Kp,p1,p2,p3⟩:=aE h hrun hrel
 refine bE (pD 4) c (bP s.outs) E.out0 ⟨m,K,bH args.toArray,fun _=>false,F,K⟩ (fun l e=>by cases e) hp σp (fin n fn s.outs) r mp Kp _ w _ p1 p3 (fun e h' σ' m' K' ρ' w' h1 h2 h3=>?_)
 have fini:kj n fn s.outs h' σ'=some r→LeavesInM Fence.wide 0 P fn (act1 n ρ').tmps (fun e w'=>∃ v K' L',e = .returned v∧(∃ vs' u' m',(bn s.outs r).1.un (bn s.outs r).2 u.nx=some (vs',u')∧m <+: m'∧m'.length=u'.nx∧(∀ a∈u'.H,HA.ok m' K' a)∧fD m' K' vs' v∧L'=u'.H.map (HA.conc m'))∧K.le K'∧Sep E K' (L'++F) w') (act1 n ρ').defers .returning w':=fun h3=>by
   unfold kj at h3
   obtain ⟨h'',σ2,m2,K2,g1,g2,g3⟩:=aE h' h3 h1
   split at g1
   . rename_i rs hrs
     refine iQ ρ'.ds g3.mks g3.toSep (fun K3 w3 c1 c2 c3=>?_)
     have g4:=g3.unmark c1 c2 c2 c3
     rw [← lS (b:=false)] at hrs
     rw [← wi (b:=false)] at g1
     obtain ⟨us,q1,q2,q3⟩:=lK g4 hrs
     refine ⟨gZ us,wH (ρ:=(⟨ρ'.f,[]⟩:Sl1)) g4.hold q2 q3,?_⟩
     obtain ⟨vs',u',m'',z1,z2,z3,z4,z5,z6⟩:=wu (m0:=m) g4 q1 g4.hm (((p2.trans h2).trans g2).2) (fun o ho=>by rw [hm]; exact hold _ _ _ hu o ho) g1
     rw [hm] at z1
     exact ⟨_,K3,_,rfl,⟨vs',u',m'',z1,z2,z3,z4,z5,rfl⟩,g4.hK,z6.back⟩
   . cases g1
 cases e with
 | normal=>exact fini h3
 | ret=>exact fini h3
 | _=>cases h3
end
end
section
variable [BldA]
mutual
theorem j3 {bi:List Nat}:∀ (k:Kd) {u u':Un} {v:SV},Kd.un bi k u=some (v,u')→u.nx≤u'.nx
 | .any,u,u',v,h=>by cases h; exact Nat.le_refl _
 | .dat t,u,u',v,h=>by unfold Kd.un at h; split at h <;> cases h; exact Nat.le_refl _
 | .nilp,u,u',v,h=>by cases h; exact Nat.le_refl _
 | .nils,u,u',v,h=>by cases h; exact Nat.le_refl _
 | .nilf,u,u',v,h=>by cases h; exact Nat.le_refl _
 | .ptr j o,u,u',v,h=>by unfold Kd.un at h; split at h <;> cases h; exact Nat.le_refl _
 | .own e t,u,u',v,h=>by unfold Kd.un at h; split at h <;> cases h; exact Nat.le_add_right _ _
 | .al j,u,u',v,h=>by unfold Kd.un at h; split at h <;> cases h; exact Nat.le_refl _
 | .fsl j m,u,u',v,h=>by unfold Kd.un at h; split at h <;> cases h; exact Nat.le_refl _
 | .agg ks,u,u',v,h=>by
   unfold Kd.un at h; split at h
   . cases h; exact fd ks (by assumption)
   . cases h
 | .tup ks,u,u',v,h=>by
   unfold Kd.un at h; split at h
   . cases h; exact fd ks (by assumption)
   . cases h
 | .fn f ks,u,u',v,h=>by
   unfold Kd.un at h; split at h
   . cases h; exact fd ks (by assumption)
   . cases h
 | .kat t o,u,u',v,h=>by
   unfold Kd.un at h; split at h
   . split at h
     . cases h; exact Nat.le_refl _
     . cases h
   . cases h
 | .ifc t k,u,u',v,h=>by
   unfold Kd.un at h; split at h
   . cases h; exact j3 k (by assumption)
   . cases h
 | .lit w,u,u',v,h=>by cases h; exact Nat.le_refl _
 | .od o,u,u',v,h=>by
   unfold Kd.un at h
   replace h:=(ab h).2
   split at h
   . split at h
     . cases h; exact Nat.le_add_right _ _
     . cases h
   . cases h
 | .rp j,u,u',v,h=>by unfold Kd.un at h; split at h <;> cases h; exact Nat.le_refl _
 | .is j k,u,u',v,h=>by
   unfold Kd.un at h; split at h
   . split at h
     . cases h; exact j3 k (by assumption)
     . cases h
   . cases h
theorem fd {bi:List Nat}:∀ (ks:List Kd) {u u':Un} {vs:List SV},Kd.unL bi ks u=some (vs,u')→u.nx≤u'.nx
 | [],u,u',vs,h=>by cases h; exact Nat.le_refl _
 | k :: ks,u,u',vs,h=>by
   unfold Kd.unL at h; split at h
   . rename_i h1
     split at h
     . rename_i h2; cases h; exact Nat.le_trans (j3 k h1) (fd ks h2)
     . cases h
   . cases h
end
theorem q9 {bi:List Nat}:∀ (sl:List (Nat×Kd)) {u u':Un} {vs:List (Nat×SV)},unS bi sl u=some (vs,u')→u.nx≤u'.nx
 | [],u,u',vs,h=>by cases h; exact Nat.le_refl _
 | p :: sl,u,u',vs,h=>by
   unfold unS at h; split at h
   . rename_i h1
     split at h
     . rename_i h2; cases h; exact Nat.le_trans (j3 p.2 h1) (q9 sl h2)
     . cases h
   . cases h
theorem ro {bi:List Nat}:∀ (bl:List Bk) (is:List Nat) {u u':Un},unB bi bl is u=some u'→u.nx≤u'.nx
 | [],[],u,u',h=>by cases h; exact Nat.le_refl _
 | [],i :: is,u,u',h=>by cases h
 | b :: bl,[],u,u',h=>by cases h
 | b :: bl, i :: is, u, u', h => by
   unfold unB at h; split at h
   . rename_i u1 h1
     refine Nat.le_trans ?_ (ro bl is h)
     unfold c8 at h1
     cases hn:b.nu with
     | true=>rw [hn] at h1; cases h1; exact Nat.le_refl _
     | false =>
       rw [hn] at h1; simp only [cond_false] at h1
       cases hlp:b.lp with
       | true=>rw [hlp] at h1; simp only [cond_true] at h1; cases h1; exact Nat.le_refl _
       | false =>
       rw [hlp] at h1; simp only [cond_false] at h1
       cases hr:b.rw with
       | some o =>
         rw [hr] at h1
         dsimp only at h1
         cases hb:b.bu with
         | true =>
           rw [hb] at h1; simp only [cond_true] at h1
           split at h1
           . split at h1
             . split at h1
               . rename_i h2
                 cases h1
                 have h3:=fd b.ks h2
                 exact Nat.le_trans (show u.nx≤_ from h3) (Nat.le_succ _)
               . cases h1
             . cases h1
           . cases h1
         | false =>
         rw [hb] at h1; simp only [cond_false] at h1
         split at h1
         . split at h1
           . cases h1; exact Nat.le_succ _
           . cases h1
         . cases h1
       | none =>
       rw [hr] at h1
       dsimp only at h1
       cases hb:b.bu with
       | true =>
         rw [hb] at h1; simp only [cond_true] at h1
         split at h1 <;> cases h1
         exact Nat.le_refl _
       | false =>
         rw [hb] at h1; simp only [cond_false] at h1
         split at h1
         . rename_i h2
           cases h1
           exact Nat.le_trans (fd b.ks h2) (Nat.le_succ _)
         . cases h1
   . cases h
theorem qD:∀ (bl:List Bk) (nx:Nat),co bl=true→(aJ bl nx).2=nx + bl.length
 | [],nx,_=>rfl
 | b :: bl,nx,h=>by
   simp only [co,Bool.and_eq_true] at h
   cases hb:b.old with
   | some i=>rw [hb] at h; cases h.1
   | none =>
     simp only [aJ,hb,List.length_cons]
     rw [qD bl (nx + 1) h.2]
     omega
theorem yr {s:Sh} {ds:List Dat} {vs:List (Nat×SV)} {u:Un} (h:s.un ds 0=some (vs,u)) (ho:co s.bl=true):s.bl.length≤u.nx:=by
 unfold Sh.un at h
 replace h:=(ab h).2
 have hn:=qD s.bl 0 ho
 split at h
 rename_i bi nx he
 rw [he] at hn
 simp only [Nat.zero_add] at hn
 split at h
 . rename_i h1
   split at h
   . rename_i h2
     cases h
     have:=q9 s.sl h1
     have:=ro s.bl bi h2
     simp only at *
     omega
   . cases h
 . cases h
theorem pa:∀ (bl:List Bk) {a b:Nat},aZ bl a=true→a≤b→aZ bl b=true
 | [],a,b,h,hab=>rfl
 | x :: bl,a,b,h,hab=>by
   simp only [aZ,Bool.and_eq_true] at h ⊢
   refine ⟨?_,pa bl h.2 hab⟩
   cases ho:x.old with
   | none=>rfl
   | some i =>
     have h1:=h.1
     rw [ho] at h1
     simp only [Nat.blt_eq] at h1 ⊢
     omega
def mh (fn:Func):Code:=match fn.body with | some c=>c | none => .skip
def rf (s:Spec) (fn:Func):Bool:=fn.body.isSome&&(slN 0 s.inn.sl s.inn.sl.length&&Nat.ble s.inn.sl.length fn.ntmps)&&(co s.inn.bl&&s.outs.all fun o=>aZ o.bl s.inn.bl.length)
theorem ak {P:Program} {s:Spec} {fn:Func} (hf:P.funcs[s.f]? = some fn) (h:Hn P) (hc:rf s fn=true) (hex:(fun x=>m8 fn.ntmps fn (mh fn) s.inn s.outs h x)=s.fn):aV P s:=by
 unfold rf at hc
 simp only [Bool.and_eq_true] at hc
 obtain ⟨⟨h1,h2,h2'⟩,h3,h4⟩:=hc
 have hb:fn.body=some (mh fn):=by
   unfold mh
   cases hbd:fn.body with
   | none=>rw [hbd] at h1; cases h1
   | some c=>rfl
 refine yu hf hb rfl h (by rw [h2,h2']; rfl) (fun ds vs u hu o ho=>pa o.bl (List.all_eq_true.1 h4 o ho) (yr hu h3)) (fun x r hx=>?_)
 rw [← hx]
 exact congrFun hex x
end
theorem yi [BldA] {P:Program} {s:Spec} {W:World} (hs:aV P s) {x:TL s.inn.ts} {r:bP s.outs} (hr:s.fn x=some r) (hgk:BldA.gk (Hp.of W)) {vs:List (Nat×SV)} (hun:s.inn.un (TL.list _ x) 0=some (vs,⟨[],0,[],[]⟩))
   (hout:(bn s.outs r).1.un (bn s.outs r).2 0=some ([(0,.bool true)],⟨[],0,[],[]⟩)) {args:List Value} (hsl:slR [] (Hp.of W) vs args) :
   Calls P s.f args.toArray W fun e W'=>e = .returned (.bool true)∧Below W.heap.size W W':=by
 have h:=hs x r hr vs _ hun [] (Hp.of W) args hgk rfl (fun a ha=>by cases ha) hsl (En.of W) W [] (Sep.start W)
 refine h.mono fun e W' h=>?_
 obtain ⟨v,K',L',rfl,⟨vs',u',m',h1,_,_,_,h2,_⟩,h3,h4⟩:=h
 have h1:=h1.symm.trans hout
 cases h1
 obtain rfl:v = .bool true:=h2
 exact ⟨rfl,h4.below h3⟩
end
end Go.Proofs.YtcfehoggnpafmaaDoor
namespace Go.Proofs
open Go.Shelf
def Tryd.lays189_ren:Go.Shelf.Ren:=⟨fun | 189=>30 | 125=>27 | 257=>50 | 128=>47 | 129=>48 | 294=>66 | 295=>67 | 296=>68 | 297=>69 | 298=>70 | 299=>71 | 216=>72 | 300=>73 | 301=>74 | 328=>84 | 329=>62 | 330=>63 | 331=>85 | 332=>86 | 215=>25 | 343=>92 | n=>n,fun | 28=>43 | 3=>3 | 46=>47 | 0=>0 | 51=>73 | 53=>75 | 4=>4 | 183=>66 | 182=>65 | 131=>70 | 5=>5 | 9=>9 | 218=>83 | 222=>87 | 228=>102 | 229=>103 | n=>n,fun | n=>n⟩
theorem Tryd.lays189:Go.Proofs.Lays.n189 Tryd.prog Tryd.lays189_ren:={
  mixed:=by kernel_rfl
  f125:=Tryd.func27.trans (congrArg some (by kernel_rfl))
  f128:=Tryd.func47.trans (congrArg some (by kernel_rfl))
  f129:=Tryd.func48.trans (congrArg some (by kernel_rfl))
  f189:=Tryd.func30.trans (congrArg some (by kernel_rfl))
  f215:=Tryd.func25.trans (congrArg some (by kernel_rfl))
  f216:=Tryd.func72.trans (congrArg some (by kernel_rfl))
  f257:=Tryd.func50.trans (congrArg some (by kernel_rfl))
  f294:=Tryd.func66.trans (congrArg some (by kernel_rfl))
  f295:=Tryd.func67.trans (congrArg some (by kernel_rfl))
  f296:=Tryd.func68.trans (congrArg some (by kernel_rfl))
  f297:=Tryd.func69.trans (congrArg some (by kernel_rfl))
  f298:=Tryd.func70.trans (congrArg some (by kernel_rfl))
  f299:=Tryd.func71.trans (congrArg some (by kernel_rfl))
  f300:=Tryd.func73.trans (congrArg some (by kernel_rfl))
  f301:=Tryd.func74.trans (congrArg some (by kernel_rfl))
  f328:=Tryd.func84.trans (congrArg some (by kernel_rfl))
  f329:=Tryd.func62.trans (congrArg some (by kernel_rfl))
  f330:=Tryd.func63.trans (congrArg some (by kernel_rfl))
  f331:=Tryd.func85.trans (congrArg some (by kernel_rfl))
  f332:=Tryd.func86.trans (congrArg some (by kernel_rfl))
  f343:=Tryd.func92.trans (congrArg some (by kernel_rfl))
  t0:=Tryd.underlying0
  a0:=Tryd.isAgg0
  z0:=Tryd.sizeOf0
  v0:=Tryd.zeroValue0
  t3:=Tryd.underlying3
  a3:=Tryd.isAgg3
  z3:=Tryd.sizeOf3
  v3:=Tryd.zeroValue3
  t4:=Tryd.underlying4
  a4:=Tryd.isAgg4
  z4:=Tryd.sizeOf4
  v4:=Tryd.zeroValue4
  t5:=Tryd.underlying5
  a5:=Tryd.isAgg5
  z5:=Tryd.sizeOf5
  v5:=Tryd.zeroValue5
  t9:=Tryd.underlying9
  a9:=Tryd.isAgg9
  z9:=Tryd.sizeOf9
  v9:=Tryd.zeroValue9
  t28:=Tryd.underlying43
  a28:=Tryd.isAgg43
  z28:=Tryd.sizeOf43
  v28:=Tryd.zeroValue43
  t46:=Tryd.underlying47
  a46:=Tryd.isAgg47
  z46:=Tryd.sizeOf47
  v46:=Tryd.zeroValue47
  t51:=Tryd.underlying73
  a51:=Tryd.isAgg73
  z51:=Tryd.sizeOf73
  v51:=Tryd.zeroValue73
  t53:=Tryd.underlying75
  a53:=Tryd.isAgg75
  z53:=Tryd.sizeOf75
  v53:=Tryd.zeroValue75
  t131:=Tryd.underlying70
  a131:=Tryd.isAgg70
  z131:=Tryd.sizeOf70
  v131:=Tryd.zeroValue70
  t182:=Tryd.underlying65
  a182:=Tryd.isAgg65
  z182:=Tryd.sizeOf65
  v182:=Tryd.zeroValue65
  t183:=Tryd.underlying66
  a183:=Tryd.isAgg66
  z183:=Tryd.sizeOf66
  v183:=Tryd.zeroValue66
  t218:=Tryd.underlying83
  a218:=Tryd.isAgg83
  z218:=Tryd.sizeOf83
  v218:=Tryd.zeroValue83
  t222:=Tryd.underlying87
  a222:=Tryd.isAgg87
  z222:=Tryd.sizeOf87
  v222:=Tryd.zeroValue87
  t228:=Tryd.underlying102
  a228:=Tryd.isAgg102
  z228:=Tryd.sizeOf102
  v228:=Tryd.zeroValue102
  t229:=Tryd.underlying103
  a229:=Tryd.isAgg103
  z229:=Tryd.sizeOf103
  v229:=Tryd.zeroValue103 }
open Go.Sort Go.RowKit in
theorem Tryd.slices_Sort_int (blk off cap:Nat) (zs:List Int) (w:World) (hH:Holds (Value.int .i64) w blk off zs.toArray) (hblk:blk < w.heap.size) (hsz:zs.length < 4611686018427387904) :
    Calls Tryd.prog 30 #[.slice (some ⟨blk,off,none⟩) zs.length cap] w fun e w' =>
      e = .returned (.tuple #[])∧∃ n os,w'=grow (putRow (Value.int .i64) (Sort.ahead w n) blk off (zs.mergeSort fun x y=>decide (x≤y)).toArray) os:=Any.slices_Sort_int Tryd.lays189 blk off cap zs w hH hblk hsz
open Go.RowKit Go.Sort in
/-- .. and plain. (LAID: no walk: one application.) -/
theorem Tryd.slices_Sort_int_none (p:Option Addr) (cap:Nat) (w:World) :
    Calls Tryd.prog 30 #[.slice p 0 cap] w fun e w'=>e = .returned (.tuple #[])∧w'=w:=Any.slices_Sort_int_none Tryd.lays189 p cap w
end Go.Proofs
namespace Go.Proofs.YtcfehoggnpafmaaDoor
noncomputable section
set_option linter.unusedVariables false
open Go.RowKit
def srt (xs:List Int):Option (List Int):=if xs.length≤1073741824 then some (xs.mergeSort fun x y=>decide (x≤y)) else none
theorem vl {xs r:List Int} (h:srt xs=some r):xs.length≤1073741824∧xs.mergeSort (fun x y=>decide (x≤y))=r:=by
 unfold srt at h; split at h
 . rename_i hh; cases h; exact ⟨hh,rfl⟩
 . cases h
theorem oV (K:Hp):∀ xs:List Int,Els K (.int .i64) (xs.map (Value.int .i64)) xs
 | []=>rfl
 | x :: xs=>⟨[.int .i64 x],_,rfl,rfl,oV K xs⟩
theorem nT {K:Hp}:∀ {xs:List Int} {cs:List Value},Els K (.int .i64) cs xs→cs=xs.map (Value.int .i64)
 | [],cs,h=>h
 | x :: xs,cs,h=>by
   obtain ⟨es,r,rfl,h1,h2⟩:=h
   obtain rfl:es=[.int .i64 x]:=h1
   rw [nT h2]; rfl
theorem sS {K:Hp} {ad:Option Addr} {m cap:Nat} {xs r:List Int} (h:srt xs=some r) :
   Tr Tryd.prog 30 #[.slice ad m cap] K [Row Hp.nil 3 (.int .i64) (.slice ad m cap) xs] (fun v K' L'=>(∃ (l:List Int),l=r∧v = .tuple #[]∧L'=[Row Hp.nil 3 (.int .i64) (.slice ad m cap) l])∧K=K'):=by
 obtain ⟨hl,rfl⟩:=vl h
 refine Tr.k (fun E w F hs=>?_)
 have hs':=hs
 obtain ⟨h0,⟨cs,h1,h2⟩,hd,hs2⟩:=hs
 have hle:h0.le (Hp.of w):=fun n o e=>hs2.sub n o (Hp.join_right e (hd n o e))
 obtain rfl:=nT h1
 have h2':=h2
 obtain ⟨h3,h4⟩:=h2
 rcases h4 with ⟨h5,h6,_⟩ | ⟨g,cp,cur,h5,rfl,h6,h7,h8,h9⟩
 . cases h5
   obtain rfl:xs=[]:=List.length_eq_zero_iff.1 h6
   refine (Tryd.slices_Sort_int_none none 0 w).mono ?_
   rintro e w' ⟨rfl,rfl⟩
   exact ⟨_,K,_,rfl,⟨_,rfl,rfl,rfl⟩,Hp.le_refl K,by simpa using hs'⟩
 . cases h5
   have hb:=hle g _ (aC g _)
   have ht:cur.toList.take xs.length=xs.map (Value.int .i64):=by simpa [Tp.size] using h9
   refine (Tryd.slices_Sort_int g 0 cap xs w (holds_of_blockI hb ht) (lt_of_block hb) (by omega)).mono ?_
   rintro e w' ⟨rfl,n,os,rfl⟩
   have hlen:(xs.mergeSort fun x y=>decide (x≤y)).length=xs.length:=List.length_mergeSort xs
   have ho:=ownsRow_sortedI (n:=n) (os:=os) (base:=0) (cap:=cap) hlen (Nat.zero_le g) hb h6 h7 (by simpa [Tp.size] using h8)
   refine ⟨_,K,[Row Hp.nil 3 (.int .i64) (.slice (some ⟨g,0,none⟩) xs.length cap) (xs.mergeSort fun x y=>decide (x≤y))],rfl,⟨_,rfl,rfl,rfl⟩,Hp.le_refl K,?_⟩
   exact hs'.grown hlen.symm (by simpa [hlen,Tp.size] using ho) (oV _ _) (grownBy_sortedI _) (.inl rfl)
set_option linter.unnecessarySimpa false
set_option linter.unusedSectionVars false
set_option linter.unusedSimpArgs false
section
variable [BldA]
theorem xj {m:List M} {K:Hp} {x:List Int} {e:TypeId} {args:List Value} {E:En} {w:World} {F:List aa} (hm:m.length=2) (hH:HA.ok m K (.row 0 1 e (.int .i64) x x.length)) (hsl:slR m K [(0,.own 0)] args) (hs:Sep E K ([HA.row 0 1 e (.int .i64) x x.length].map (HA.conc m)++F) w) :
   ∃ ad cap,args=[.slice ad x.length cap]∧m[0]? = some (.val (.slice ad x.length cap))∧Sep E K (Row Hp.nil e (.int .i64) (.slice ad x.length cap) x :: F) w:=by
 obtain ⟨ad,cap,cs,e0,e1,hE,_,h1,h2,h3⟩:=hH
 obtain ⟨u,r,rfl,⟨e2,e3⟩,rfl⟩:=hsl
 rw [e0] at e2
 cases e2
 refine ⟨ad,cap,rfl,e0,?_⟩
 have hs':Sep E K (HA.conc m (.row 0 1 e (.int .i64) x x.length) :: F) w:=hs
 simp only [HA.conc,e0,e1] at hs'
 exact hs'.mono (fun h k=>⟨cs,Els.flat rfl hE,k⟩)
theorem vo {K:Hp} {e:TypeId} {ad:Option Addr} {n cap:Nat} {l:List Int} {E:En} {w:World} {F:List aa} (hs:Sep E K ([Row Hp.nil e (.int .i64) (.slice ad n cap) l]++F) w) :
   n=l.length∧l.length≤cap∧cap≤maxLen∧(l≠[]→∃ g,ad=some ⟨g,0,none⟩)∧∃ cs,Els K (.int .i64) cs l∧Sep E K (Rw e 1 (.slice ad l.length cap) l.length cs :: F) w:=by
 have hs:Sep E K (Row Hp.nil e (.int .i64) (.slice ad n cap) l :: F) w:=hs
 obtain ⟨ad',cap',h1,h2,h3,h4⟩:=hs.fact (fun h k=>Row.form h k)
 cases h1
 obtain ⟨h0,⟨cs,hE,hR⟩,hd,hs2⟩:=hs
 exact ⟨rfl,h2,h3,h4,cs,Els.flat rfl hE,h0,hR,hd,hs2⟩
def lF:Spec:=⟨30,⟨[(0,.rp 0)],[⟨none,0,[],false,false,some (.row 3 (.dat (.int .i64))),false⟩]⟩,[⟨[],[⟨some 0,0,[],false,false,some (.row 3 (.dat (.int .i64))),false⟩]⟩],fun x=>srt x⟩
theorem wo:aV Tryd.prog lF:=by
 intro x r hr vs u hu m K args hgk hm hH hsl E w F hs
 have hu':lF.inn.un (TL.list _ x) 0=some ([(0,.own 0)],⟨[],2,[.row 0 1 3 (.int .i64) x (List.length (α:=Int) x)],[]⟩):=rfl
 rw [hu'] at hu
 cases hu
 replace hm:m.length=2:=hm
 obtain ⟨ad,cap,rfl,e0,hs'⟩:=xj hm (hH _ (by simp)) hsl hs
 refine (sS (K:=K) hr E w F hs').mono ?_
 rintro e w' ⟨v,K',L',rfl,⟨⟨l,rfl,rfl,rfl⟩,rfl⟩,h1,h2⟩
 obtain ⟨g1,g2,g3,g4,cs,g5,g6⟩:=vo h2
 have hm0:(m++[M.cont (.int .i64) l cs])[0]? = some (.val (.slice ad (List.length (α:=Int) l) cap)):=by
   rw [List.getElem?_append_left (by omega),e0,g1]
 have hm1:(m++[M.cont (.int .i64) l cs])[2]? = some (.cont (.int .i64) l cs):=by
   rw [List.getElem?_append_right (by omega),hm]; rfl
 refine ⟨_,K,_,rfl,⟨[],⟨[],3,[.row 0 2 3 (.int .i64) l (List.length (α:=Int) l)],[]⟩,m++[.cont (.int .i64) l cs],rfl,List.prefix_append _ _,by simp [hm],?_,rfl,rfl⟩,h1,?_⟩
 . intro a ha
   simp only [List.mem_singleton] at ha
   subst ha
   exact ⟨ad,cap,cs,hm0,hm1,g5,rfl,g2,g3,g4⟩
 . show Sep E K (HA.conc _ (.row 0 2 3 (.int .i64) l (List.length (α:=Int) l)) :: F) w'
   simp only [HA.conc,hm0,hm1]
   exact g6
def xi:OkSpec Tryd.prog:=⟨lF,wo,Tryd.call30⟩
end
end
end Go.Proofs.YtcfehoggnpafmaaDoor
namespace Go.Proofs
open Go.Shelf
def Tryd.lays29_ren:Go.Shelf.Ren:=⟨fun | 29=>93 | n=>n,fun | 22=>75 | 3=>3 | 4=>4 | 25=>47 | 54=>110 | 0=>0 | 5=>5 | n=>n,fun | 1=>0 | n=>n⟩
theorem Tryd.lays29:Go.Proofs.Lays7.n29 Tryd.prog Tryd.lays29_ren:={
  mixed:=by kernel_rfl
  f29:=Tryd.func93.trans (congrArg some (by kernel_rfl))
  t0:=Tryd.underlying0
  a0:=Tryd.isAgg0
  z0:=Tryd.sizeOf0
  v0:=Tryd.zeroValue0
  i0:=by kernel_rfl
  t3:=Tryd.underlying3
  a3:=Tryd.isAgg3
  z3:=Tryd.sizeOf3
  v3:=Tryd.zeroValue3
  i3:=by kernel_rfl
  t4:=Tryd.underlying4
  a4:=Tryd.isAgg4
  z4:=Tryd.sizeOf4
  v4:=Tryd.zeroValue4
  i4:=by kernel_rfl
  t5:=Tryd.underlying5
  a5:=Tryd.isAgg5
  z5:=Tryd.sizeOf5
  v5:=Tryd.zeroValue5
  i5:=by kernel_rfl
  t22:=Tryd.underlying75
  a22:=Tryd.isAgg75
  z22:=Tryd.sizeOf75
  v22:=Tryd.zeroValue75
  i22:=by kernel_rfl
  t25:=Tryd.underlying47
  a25:=Tryd.isAgg47
  z25:=Tryd.sizeOf47
  v25:=Tryd.zeroValue47
  i25:=by kernel_rfl
  t54:=Tryd.underlying110
  a54:=Tryd.isAgg110
  z54:=Tryd.sizeOf110
  g1:=by kernel_rfl }
end Go.Proofs
namespace Go.Proofs.YtcfehoggnpafmaaDoor
noncomputable section
set_option linter.unusedVariables false
set_option linter.unnecessarySimpa false
set_option linter.unusedSectionVars false
set_option linter.unusedSimpArgs false
open Go.RowKit
def tzF (x:Int):Option Int:=if 0≤x∧x < 18446744073709551616 then some ((Lib.ctz 64 x.toNat:Nat):Int) else none
def tzGk (K:Hp):Prop:=∀ j,j < 64→aI K 0 j=some (.int .u8 ((Lib.deBruijn64tab.getD j 0:Nat):Int))
theorem tzGk.mono {K K':Hp} (h:K.cle K') (g:tzGk K):tzGk K':=fun j hj=>h _ _ _ (g j hj)
def mz:Spec:=⟨93,⟨[(0,.dat (.int .u64))],[]⟩,[⟨[(0,.dat (.int .i64))],[]⟩],tzF⟩
theorem yy [BldA] (hg:∀ K,BldA.gk K→tzGk K):aV Tryd.prog mz:=by
 intro x r hr vs u hu m K args hgk hm hH hsl E w F hs
 have hu':mz.inn.un (TL.list _ x) 0=some ([(0,.int .u64 x)],⟨[],0,[],[]⟩):=rfl
 rw [hu'] at hu
 cases hu
 obtain ⟨v,q,rfl,h1,rfl⟩:=hsl
 obtain rfl:v = .int .u64 x:=h1
 replace hr:tzF x=some r:=hr
 unfold tzF at hr
 split at hr
 . rename_i hx
   cases hr
   have hxe:((x.toNat:Nat):Int)=x:=Int.toNat_of_nonneg hx.1
   have hc:=Any7.bits_TrailingZeros64 Tryd.lays29 x.toNat (by omega) w (fun _ j hj=>cH hs.sub (hg K hgk j hj))
   rw [hxe] at hc
   refine Calls.mono (show Calls Tryd.prog 93 #[.int .u64 x] w _ from hc) ?_
   rintro e w' ⟨rfl,rfl⟩
   exact ⟨_,K,[],rfl,⟨[(0,.int .i64 _)],⟨[],0,[],[]⟩,m,rfl,List.prefix_rfl,hm,fun a h=>(by cases h),rfl,rfl⟩,Hp.le_refl K,hs⟩
 . cases hr
end
end Go.Proofs.YtcfehoggnpafmaaDoor
namespace Go.Proofs
open Go.Shelf Go.RowKit Go.Lib Go.Sort
shelf_lay_g SlLaysC2.n5 Slgc 5 at Tryd 15 as Tryd.cmpI
end Go.Proofs
namespace Go.Proofs.YtcfehoggnpafmaaDoor
noncomputable section
open Go.Shelf Go.RowKit Go.Lib Go.Sort
set_option linter.unusedVariables false
set_option linter.unusedSimpArgs false
set_option linter.unnecessarySimpa false
set_option maxRecDepth 100000
set_option maxHeartbeats 1000000
/-- A bound's two cells. -/
def ai (x:Int×Int):List Value:=[.int .i64 x.1,.int .i64 x.2]
def orI (p q:Int):Int:=if p≠0 then p else q
/-- The order of bounds. -/
def bI (x y:Int×Int):Int:=orI (Lib.compareInt x.1 y.1) (Lib.compareInt x.2 y.2)
theorem wb (b:Nat) (p q:Int) (w:World) (h0:w.cell? ⟨b,0,none⟩=some (.int .i64 p)) (h1:w.cell? ⟨b,1,none⟩=some (.int .i64 q)) :
    Calls Tryd.prog 14 #[.slice (some ⟨b,0,none⟩) 2 2] w fun e w'=>e = .returned (.int .i64 (orI p q))∧w'=w:=by
  unfold orI
  by_cases hp:p=0
  . subst hp
    by_cases hq:q=0
    . subst hq
      go_enter Tryd.func14,Tryd.ntmps14
      go_wp2
      refine wp_loop_rounds 3 ?_
      rw [rounds_succ]
      go_wp2
      rw [rounds_succ]
      go_wp2
      rw [rounds_succ]
      go_wp2
      go_ret; exact ⟨rfl,rfl⟩
    . have hq':decide (q=0)=false:=by simpa using hq
      go_enter Tryd.func14,Tryd.ntmps14
      go_wp2
      refine wp_loop_rounds 3 ?_
      rw [rounds_succ]
      go_wp2
      rw [rounds_succ]
      go_wp2
      go_ret; exact ⟨rfl,rfl⟩
  . have hp':decide (p=0)=false:=by simpa using hp
    go_enter Tryd.func14,Tryd.ntmps14
    go_wp2
    refine wp_loop_rounds 3 ?_
    rw [rounds_succ]
    go_wp2
    go_ret; exact ⟨by simp [hp],rfl⟩
theorem rS (W:World) (o1 o2:Obj) (p q:Value) (t:TypeId):(((W.alloc o1).alloc o2).alloc (Obj.cells #[p,q] t)).drew.cell? ⟨W.heap.size + 1 + 1,0,none⟩=some p∧(((W.alloc o1).alloc o2).alloc (Obj.cells #[p,q] t)).drew.cell? ⟨W.heap.size + 1 + 1,1,none⟩=some q:=by
  constructor
  . rw [World.cell?_drew,World.cell?_alloc_at _ _ _ _ (by simp)]; rfl
  . rw [World.cell?_drew,World.cell?_alloc_at _ _ _ _ (by simp)]; rfl
set_option maxHeartbeats 40000000 in
theorem tO (a b c d:Int) (W:World):Calls Tryd.prog 5 #[.agg #[.int .i64 a,.int .i64 b],.agg #[.int .i64 c,.int .i64 d]] W fun e w'=>e = .returned (.int .i64 (bI (a,b) (c,d)))∧∃ q os',w'=grow (W.drewN q) os':=by
  have h1:=fun u v W'=>AnyG.cmp_Compare_int Tryd.cmpI u v W'
  change ∀ u v W',Calls Tryd.prog 15 _ _ _ at h1
  unfold bI
  dsimp only
  generalize Lib.compareInt=F at h1 ⊢
  go_enter Tryd.func5,Tryd.ntmps5
  go_wp2
  go_region_with (first
    | (go_at_call 15; refine (h1 _ _ _).mono ?_; rintro e w' ⟨rfl,rfl⟩)
    | (go_at_call 14; refine (wb _ _ _ _ (rS _ _ _ _ _ _).1 (rS _ _ _ _ _ _).2).mono ?_; rintro e w' ⟨rfl,rfl⟩))
  all_goals (try go_wp2)
  all_goals (go_ret; first | exact ⟨rfl,1,_,by rw [alloc_eq_grow,alloc_eq_grow,grow_grow,alloc_eq_grow,grow_grow,drew_grow]; rfl⟩ | exact ⟨rfl,1,_,rfl⟩)
end
end Go.Proofs.YtcfehoggnpafmaaDoor
namespace Go.Proofs
open Go.Shelf Go.RowKit Go.Lib Go.Sort
shelf_lay_g SlLaysF0.n6 Slsf 6 at Tryd 17 as Tryd.sortB
end Go.Proofs
namespace Go.Proofs.YtcfehoggnpafmaaDoor
noncomputable section
open Go.Shelf Go.RowKit Go.Lib Go.Sort
set_option linter.unusedVariables false
set_option linter.unusedSimpArgs false
set_option linter.unnecessarySimpa false
abbrev tyB:Tp := .cons (.int .i64) (.one (.int .i64))
theorem lP (K:Hp):∀ xs:List (Int×Int),Els K tyB (xs.flatMap ai) xs
  | []=>rfl
  | x :: xs=>⟨ai x,_,rfl,⟨[.int .i64 x.1],[.int .i64 x.2],rfl,rfl,rfl,rfl⟩,lP K xs⟩
theorem kR {K:Hp}:∀ {xs:List (Int×Int)} {cs:List Value},Els K tyB cs xs→cs=xs.flatMap ai
  | [],cs,h=>h
  | x :: xs,cs,h=>by
    obtain ⟨es,r,rfl,⟨c1,c2,rfl,_,h2,h3⟩,h4⟩:=h
    obtain rfl:c1=[.int .i64 x.1]:=h2
    obtain rfl:c2=[.int .i64 x.2]:=h3
    rw [kR h4]; rfl
theorem cL (xs:List (Int×Int)):(xs.flatMap ai).length=xs.length * 2:=by
  induction xs with
  | nil=>rfl
  | cons x xs ih=>rw [List.flatMap_cons,List.length_append,ih,List.length_cons]; show 2 + _=_; omega
theorem oB:∀ (xs:List (Int×Int)) (t:Nat),t < xs.length * 2→(xs.flatMap ai)[t]? = some ((ai (xs.toArray[t / 2]!))[t % 2]!)
  | [],t,h=>by simp at h
  | x :: xs,t,h=>by
    rw [List.flatMap_cons]
    by_cases h2:t < 2
    . rw [List.getElem?_append_left (by show t < 2; exact h2)]
      have:t=0∨t=1:=by omega
      rcases this with rfl | rfl <;> rfl
    . have e:(ai x).length=2:=rfl
      rw [List.getElem?_append_right (by omega),e,oB xs (t - 2) (by simp at h; omega)]
      have e1:t / 2=(t - 2) / 2 + 1:=by omega
      have e2:t % 2=(t - 2) % 2:=by omega
      rw [e1,e2]; simp
theorem je (xs:List (Int×Int)):flatK ai 2 xs.toArray=(xs.flatMap ai).toArray:=by
  apply Array.ext'
  apply List.ext_getElem?
  intro t
  by_cases h:t < xs.length * 2
  . rw [List.toList_toArray,oB xs t h]
    simp [flatK,h]
  . rw [List.getElem?_eq_none (by simp [flatK]; omega),List.getElem?_eq_none (by rw [List.toList_toArray,cL]; omega)]
theorem oS {w:World} {g:Nat} {cur:Array Value} {e:TypeId} {cs:List Value} (hb:w.heap[g]? = some (.cells cur e (0,0))) (ht:cur.toList.take cs.length=cs):Holds id w g 0 cs.toArray:=by
  intro j hj
  have hj':j < cs.length:=by simpa using hj
  refine ⟨?_,by simp [World.frozen?,hb]⟩
  have h1:(cur.toList.take cs.length)[j]? = cs[j]?:=by rw [ht]
  rw [List.getElem?_take_of_lt hj'] at h1
  simp only [World.cell?,hb,Nat.zero_add]
  simp only [Option.isSome_none,Bool.false_eq_true,if_false]
  rw [← Array.getElem?_toList,h1]
  simp [hj']
theorem vW {w:World} {g n:Nat} {os:Array Obj} {cur:Array Value} {e:TypeId} {fr:Nat×Nat} (d:Array Value) (hb:w.heap[g]? = some (.cells cur e fr)) :
    (grow (putRow id (Sort.ahead w n) g 0 d) os).heap[g]? = some (.cells (putCells id 0 d cur) e fr):=by
  have hg:g < w.heap.size:=(Array.getElem?_eq_some_iff.1 hb).1
  rw [heap_grow_old _ _ (by simpa using hg)]
  simp [putRow,mapBlock,Sort.ahead,Array.getElem?_modify,hb,onCells]
theorem nI {w:World} {g n:Nat} {os:Array Obj} (d:Array Value):w.grownBy (grow (putRow id (Sort.ahead w n) g 0 d) os) (some g):=by
  refine ⟨rfl,rfl,rfl,by simp,fun k hk hne=>?_⟩
  rw [heap_grow_old _ _ (by simpa using hk)]
  have:g≠k:=fun e=>hne (by rw [e])
  simp [putRow,mapBlock,Sort.ahead,Array.getElem?_modify,this]
theorem sT (cur:Array Value) (ts:List Value) (h:ts.length≤cur.size):(putCells id 0 ts.toArray cur).toList.take ts.length=ts:=by
  apply List.ext_getElem?
  intro j
  by_cases hj:j < ts.length
  . rw [List.getElem?_take_of_lt hj,Array.getElem?_toList]
    simp [putCells,hj,show j < cur.size by omega]
  . rw [List.getElem?_take_eq_none (by omega),List.getElem?_eq_none (by omega)]
theorem nQ {w:World} {g cap n:Nat} {e:TypeId} {os:Array Obj} {cur:Array Value} {m:Nat} {cs:List Value} (hl:cs.length=m * 2) (hb:w.heap[g]? = some (.cells cur e (0,0)))
    (h1:m≤cap) (h2:cap≤maxLen) (h3:cur.size=cap * 2) :
    (grow (putRow id (Sort.ahead w n) g 0 cs.toArray) os).ownsRow 0 e 2 (.slice (some ⟨g,0,none⟩) m cap) m cs :=
  ⟨hl,.inr ⟨g,cap,_,rfl,Nat.zero_le _,vW _ hb,h1,h2,by simp [putCells,h3],by rw [← hl]; exact sT cur cs (by omega)⟩⟩
theorem ltB (x y:Int×Int):ltOf bI x y=(decide (x.1 < y.1)||(decide (x.1=y.1)&&decide (x.2 < y.2))):=by
  unfold ltOf bI orI Lib.compareInt
  by_cases h1:x.1 < y.1
  . simp [h1]
  . by_cases h2:y.1 < x.1
    . have:¬ x.1=y.1:=by omega
      simp [h1,h2,this]
    . have:x.1=y.1:=by omega
      by_cases h3:x.2 < y.2
      . simp [h1,h2,this,h3]
      . by_cases h4:y.2 < x.2 <;> simp [h1,h2,this,h3,h4]
theorem yL:SWO (ltOf bI) where
  irrefl x:=by rw [ltB]; simp
  trans x y z h1 h2:=by rw [ltB] at *; simp only [Bool.or_eq_true,Bool.and_eq_true,decide_eq_true_eq] at *; omega
  ntrans x y z h1 h2:=by rw [ltB] at *; simp only [Bool.or_eq_false_iff,Bool.and_eq_false_iff,decide_eq_false_iff_not] at *; omega
theorem zG (x y:Int×Int) (h1:ltOf bI x y=false) (h2:ltOf bI y x=false):x=y:=by
  rw [ltB] at *
  simp only [Bool.or_eq_false_iff,Bool.and_eq_false_iff,decide_eq_false_iff_not] at *
  obtain ⟨a,b⟩:=x
  obtain ⟨c,d⟩:=y
  simp only [Prod.mk.injEq] at *
  omega
/-- Bounds in order. -/
def bJ (xs:List (Int×Int)):List (Int×Int):=xs.mergeSort fun x y=>!(ltOf bI) y x
theorem vg (blk off size:Nat) (w:World):CmpLays Tryd.prog 5 #[] ai 2 bI blk off size w :=
  fun _ _ _ _ x y=>tO x.1 x.2 y.1 y.2 _
theorem vq {K:Hp} {ad:Option Addr} {m cap:Nat} {xs:List (Int×Int)} (hl:xs.length≤1073741824) :
    Tr Tryd.prog 17 #[.slice ad m cap,.func (.func 5) #[] #[]] K [Row Hp.nil 24 tyB (.slice ad m cap) xs] (fun v K' L'=>(∃ (l:List (Int×Int)),l=bJ xs∧v = .tuple #[]∧L'=[Row Hp.nil 24 tyB (.slice ad m cap) l])∧K=K'):=by
  refine Tr.k (fun E w F hs=>?_)
  have hs':=hs
  obtain ⟨h0,⟨cs,h1,h2⟩,hd,hs2⟩:=hs
  have hle:h0.le (Hp.of w):=fun n o e=>hs2.sub n o (Hp.join_right e (hd n o e))
  obtain rfl:=kR h1
  have h2':=h2
  obtain ⟨h3,h4⟩:=h2
  rcases h4 with ⟨h5,h6,_⟩ | ⟨g,cp,cur,h5,rfl,h6,h7,h8,h9⟩
  . cases h5
    obtain rfl:xs=[]:=List.length_eq_zero_iff.1 h6
    have hcon:=AnyF.slices_SortFunc_none Tryd.sortB none 0 (.func (.func 5) #[] #[]) w
    change Calls Tryd.prog 17 _ _ _ at hcon
    refine hcon.mono ?_
    rintro e w' ⟨rfl,rfl⟩
    exact ⟨_,K,_,rfl,⟨_,rfl,rfl,rfl⟩,Hp.le_refl K,by simpa [bJ] using hs'⟩
  . cases h5
    have hb:=hle g _ (aC g _)
    have ht:cur.toList.take (xs.flatMap ai).length=xs.flatMap ai:=by rw [cL]; exact h9
    have hH:HoldsK ai 2 w g 0 xs.toArray:=by unfold HoldsK; rw [je]; exact oS hb ht
    have eg:∀ args w,(callFunc 5 args).run Tryd.prog w = .ok (.enter 5 args) w:=enters_of Tryd.func5 (by kernel_rfl) rfl
    have hcon:=AnyQ.slices_SortFunc_total Tryd.sortB 2 Tryd.isAgg24 Tryd.sizeOf24 ai (fun _=>rfl) (fun x v hv=>by simp [ai] at hv; rcases hv with rfl | rfl <;> rfl) bI yL 5 #[] g 0 cap xs.toArray w eg (vg g 0 xs.toArray.size w) hH (lt_of_block hb) (by simp; omega) zG
    change Calls Tryd.prog 17 _ _ _ at hcon
    have hcon':Calls Tryd.prog 17 #[.slice (some ⟨g,0,none⟩) xs.length cap,.func (.func 5) #[] #[]] w _:=hcon
    refine hcon'.mono ?_
    rintro e w' ⟨rfl,n,os,rfl⟩
    have hsrt:(xs.toArray.toList.mergeSort fun x y=>!(ltOf bI) y x)=bJ xs:=rfl
    have hlen:(bJ xs).length=xs.length:=List.length_mergeSort xs
    have ew:sortWorldK ai 2 w g 0 n (bJ xs).toArray os=grow (putRow id (Sort.ahead w n) g 0 ((bJ xs).flatMap ai).toArray) os:=by unfold sortWorldK putRowK; rw [je]
    rw [hsrt,ew]
    have ho:=nQ (n:=n) (os:=os) (m:=xs.length) (cs:=(bJ xs).flatMap ai) (by rw [cL,hlen]) hb h6 h7 h8
    refine ⟨_,K,[Row Hp.nil 24 tyB (.slice (some ⟨g,0,none⟩) xs.length cap) (bJ xs)],rfl,⟨_,rfl,rfl,rfl⟩,Hp.le_refl K,?_⟩
    exact hs'.grown hlen.symm ho (lP _ _) (nI _) (.inl rfl)
end
end Go.Proofs.YtcfehoggnpafmaaDoor
namespace Go.Proofs.YtcfehoggnpafmaaDoor
noncomputable section
set_option linter.unusedVariables false
set_option linter.unnecessarySimpa false
set_option linter.unusedSectionVars false
set_option linter.unusedSimpArgs false
open Go.RowKit
section
variable [BldA]
theorem uV {m:List M} {K:Hp} {x:List (Int×Int)} {e:TypeId} {args:List Value} {E:En} {w:World} {F:List aa} (hm:m.length=2) (hH:HA.ok m K (.row 0 1 e tyB x x.length)) (hsl:slR m K [(0,.own 0),(1,.fn 5 [])] args) (hs:Sep E K ([HA.row 0 1 e tyB x x.length].map (HA.conc m)++F) w) :
   ∃ ad cap,args=[.slice ad x.length cap,.func (.func 5) #[] #[]]∧m[0]? = some (.val (.slice ad x.length cap))∧Sep E K (Row Hp.nil e tyB (.slice ad x.length cap) x :: F) w:=by
 obtain ⟨ad,cap,cs,e0,e1,hE,_,h1,h2,h3⟩:=hH
 obtain ⟨u,r,rfl,⟨e2,e3⟩,hr⟩:=hsl
 obtain ⟨u2,r2,rfl,hf,rfl⟩:=hr
 rw [e0] at e2
 cases e2
 have hu2:u2 = .func (.func 5) #[] #[]:=by
   obtain ⟨us,rfl,hf⟩:=hf
   first | (cases hf; rfl) | (subst hf; rfl) | (obtain rfl:=hf; rfl)
 subst hu2
 refine ⟨ad,cap,rfl,e0,?_⟩
 have hs':Sep E K (HA.conc m (.row 0 1 e tyB x x.length) :: F) w:=hs
 simp only [HA.conc,e0,e1] at hs'
 exact hs'.mono (fun h k=>⟨cs,Els.flat rfl hE,k⟩)
theorem oP {K:Hp} {e:TypeId} {ad:Option Addr} {n cap:Nat} {l:List (Int×Int)} {E:En} {w:World} {F:List aa} (hs:Sep E K ([Row Hp.nil e tyB (.slice ad n cap) l]++F) w) :
   n=l.length∧l.length≤cap∧cap≤maxLen∧(l≠[]→∃ g,ad=some ⟨g,0,none⟩)∧∃ cs,Els K tyB cs l∧Sep E K (Rw e 2 (.slice ad l.length cap) l.length cs :: F) w:=by
 have hs:Sep E K (Row Hp.nil e tyB (.slice ad n cap) l :: F) w:=hs
 obtain ⟨ad',cap',h1,h2,h3,h4⟩:=hs.fact (fun h k=>Row.form h k)
 cases h1
 obtain ⟨h0,⟨cs,hE,hR⟩,hd,hs2⟩:=hs
 exact ⟨rfl,h2,h3,h4,cs,Els.flat rfl hE,h0,hR,hd,hs2⟩
def sortB (xs:List (Int×Int)):Option (List (Int×Int)):=if xs.length≤1073741824 then some (bJ xs) else none
def lr:Spec:=⟨17,⟨[(0,.rp 0),(1,.fn 5 [])],[⟨none,0,[],false,false,some (.row 24 (.dat tyB)),false⟩]⟩,[⟨[],[⟨some 0,0,[],false,false,some (.row 24 (.dat tyB)),false⟩]⟩],fun x=>sortB x⟩
theorem vE:aV Tryd.prog lr:=by
 intro x r hr vs u hu m K args hgk hm hH hsl E w F hs
 have hu':lr.inn.un (TL.list _ x) 0=some ([(0,.own 0),(1,.fn 5 [])],⟨[],2,[.row 0 1 24 tyB x (List.length (α:=Int×Int) x)],[]⟩):=rfl
 rw [hu'] at hu
 cases hu
 replace hm:m.length=2:=hm
 obtain ⟨ad,cap,rfl,e0,hs'⟩:=uV hm (hH _ (by simp)) hsl hs
 have hr:sortB x=some r:=hr
 unfold sortB at hr
 split at hr
 . rename_i hl
   obtain rfl:=Option.some.inj hr
   refine (vq (K:=K) hl E w F hs').mono ?_
   rintro e w' ⟨v,K',L',rfl,⟨⟨l,rfl,rfl,rfl⟩,rfl⟩,h1,h2⟩
   obtain ⟨g1,g2,g3,g4,cs,g5,g6⟩:=oP h2
   generalize bJ x=l at g1 g2 g3 g4 g5 g6 ⊢
   have hm0:(m++[M.cont tyB l cs])[0]? = some (.val (.slice ad (List.length (α:=Int×Int) l) cap)):=by
     rw [List.getElem?_append_left (by omega),e0,g1]
   have hm1:(m++[M.cont tyB l cs])[2]? = some (.cont tyB l cs):=by
     rw [List.getElem?_append_right (by omega),hm]; rfl
   refine ⟨_,K,_,rfl,⟨[],⟨[],3,[.row 0 2 24 tyB l (List.length (α:=Int×Int) l)],[]⟩,m++[.cont tyB l cs],rfl,List.prefix_append _ _,by simp [hm],?_,rfl,rfl⟩,h1,?_⟩
   . intro a ha
     simp only [List.mem_singleton] at ha
     subst ha
     exact ⟨ad,cap,cs,hm0,hm1,g5,rfl,g2,g3,g4⟩
   . show Sep E K (HA.conc _ (.row 0 2 24 tyB l (List.length (α:=Int×Int) l)) :: F) w'
     simp only [HA.conc,hm0,hm1]
     exact g6
 . cases hr
def u9:OkSpec Tryd.prog:=⟨lr,vE,Tryd.call17⟩
end
set_option maxRecDepth 100000
set_option maxHeartbeats 4000000
section
open Go.Shelf Go.RowKit Go.Lib Go.Sort
theorem gV {w:World} {blk:Nat} {d:Array (Int×Int)} (hH:HoldsK ai 2 w blk 0 d) {k:Nat} (hk:k < d.size) :
   w.cell? ⟨blk,k * 2,none⟩=some (.int .i64 d[k]!.1)∧w.cell? ⟨blk,k * 2 + 1,none⟩=some (.int .i64 d[k]!.2):=by
 have h:=HoldsK.cells hH (fun _=>rfl) hk
 have h0:=h 0 _ rfl
 have h1:=h 1 _ rfl
 rw [Nat.zero_add] at h0 h1
 exact ⟨h0,h1⟩
theorem pe (d:Array (Int×Int)) (i:Nat) (hi:i < d.size) (x:Int×Int):setMany (flatK ai 2 d) (i * 2) (ai x)=flatK ai 2 (d.setIfInBounds i x):=by
 refine ext_get! (by simp) fun t ht=>?_
 have ht':t < d.size * 2:=by simpa using ht
 have e2:(ai x).length=2:=rfl
 rw [get_setMany _ _ _ t (by simpa using ht'),get_flatK _ _ _ t ht',get_flatK _ _ _ t (by simpa using ht'),e2]
 by_cases a:t / 2=i
 . rw [if_pos ((blk_iff 2 i t (by omega)).2 a)]
   subst a
   rw [show t - t / 2 * 2=t % 2 by omega]
   simp [hi]
 . rw [if_neg (fun h=>a ((blk_iff 2 i t (by omega)).1 h))]
   have e3:(d.setIfInBounds i x)[t / 2]! = d[t / 2]!:=by
     have hlt:t / 2 < d.size:=by omega
     rw [getElem!_pos (d.setIfInBounds i x) (t / 2) (by simpa using hlt),getElem!_pos d (t / 2) hlt,Array.getElem_setIfInBounds,if_neg (Ne.symm a)]
   rw [e3]
theorem rb {w wr:World} {n nq blk:Nat} {dk:Array (Int×Int)} {i:Nat} (hi:i < dk.size) (hwr:wr=putRowK ai 2 (Sort.ahead w n) blk 0 dk) (a b:Int) :
   ((wr.drewN nq).setCell ⟨blk,i * 2,none⟩ (.int .i64 a)).setCell ⟨blk,i * 2 + 1,none⟩ (.int .i64 b)=putRowK ai 2 (Sort.ahead w (n + nq)) blk 0 (dk.setIfInBounds i (a,b)):=by
 subst hwr
 rw [putRowK_drewN]
 have:=setCells_putRow (Sort.ahead w (n + nq)) blk 0 (ai (a,b)) (i * 2) (flatK ai 2 dk) (by rw [size_flatK]; show i * 2 + 2≤_; omega)
 rw [pe dk i hi,Nat.zero_add] at this
 exact this
theorem si (W:World) (blk:Nat):∀ (xs:List (Int×Int)) (dk:Array (Int×Int)) (kk:Nat),kk + xs.length≤dk.size→(putRowK ai 2 W blk 0 dk).setCells blk (kk * 2) (xs.flatMap ai)=putRowK ai 2 W blk 0 (lay dk kk xs)
 | [],dk,kk,_=>rfl
 | x :: xs,dk,kk,h=>by
   simp only [List.length_cons] at h
   have e:=setCells_putRow W blk 0 (ai x) (kk * 2) (flatK ai 2 dk) (by rw [size_flatK]; show kk * 2 + 2≤_; omega)
   rw [pe dk kk (by omega),Nat.zero_add] at e
   have ih:=si W blk xs (dk.setIfInBounds kk x) (kk + 1) (by rw [Array.size_setIfInBounds]; omega)
   rw [show (kk + 1) * 2=kk * 2 + 1 + 1 by omega] at ih
   rw [lay,← ih]
   show (((putRowK ai 2 W blk 0 dk).setCells blk (kk * 2) (ai x)).setCells blk (kk * 2 + 1 + 1) (xs.flatMap ai))=_
   unfold putRowK at *
   rw [e]
theorem yv (w:World):(zeroValue 24).run Tryd.prog w = .ok (.agg #[.int .i64 0,.int .i64 0]) w:=by
 first | rfl | kernel_rfl | go_simp
theorem rL:∀ n,zrow n [.int .i64 0,.int .i64 0]=(List.replicate n ((0:Int),(0:Int))).flatMap ai
 | 0=>rfl
 | n + 1=>by rw [zrow,rL n,List.replicate_succ,List.flatMap_cons]; rfl
theorem yd (w:World) (ty:TypeId) (b o n c:Nat) (hn:0 < n) (hc:∀ j,j < n * 2→(w.cell? ⟨b,o + j,none⟩).isSome=true) (hf:∀ j,j < n * 2→w.frozen? ⟨b,o + j,none⟩=false) :
   (Builtin.clear_ #[22] ty #[.slice (some ⟨b,o,none⟩) n c]).run Tryd.prog w = .ok (.tuple #[]) (w.setCells b o ((List.replicate n ((0:Int),(0:Int))).flatMap ai)):=by
 have hzc:(Builtin.zeroCells (Value.agg #[.int .i64 0,.int .i64 0]).cells n).toList=(List.replicate n ((0:Int),(0:Int))).flatMap ai:=by
   rw [iC (by show 0 < 2; omega)]; exact rL n
 have hlen:((List.replicate n ((0:Int),(0:Int))).flatMap ai).length=n * 2:=by rw [cL,List.length_replicate]
 have hst:=run_storeCells_cells (P:=Tryd.prog) b o ((List.replicate n ((0:Int),(0:Int))).flatMap ai) 0 w (by rw [hlen]; simpa using hc) (by rw [hlen]; simpa using hf) (by
   intro v hv
   rw [List.mem_flatMap] at hv
   obtain ⟨x,_,hx⟩:=hv
   simp [ai] at hx
   rcases hx with rfl | rfl <;> rfl)
 simp only [Nat.add_zero] at hst
 obtain ⟨m,rfl⟩:∃ m,n=m + 1:=⟨n - 1,by omega⟩
 simp [Builtin.clear_,run_underlying Tryd.underlying22,yv,hzc,hst,Result.andThen]
theorem tK (blk cap:Nat) (d:Array (Int×Int)) (w:World) (hH:HoldsK ai 2 w blk 0 d) (hsz:d.size≤1073741824) (hcap:d.size≤cap) :
   Calls Tryd.prog 18 #[.slice (some ⟨blk,0,none⟩) d.size cap] w fun e w'=>e = .returned (.slice (some ⟨blk,0,none⟩) (compactUpTo d d.size).length cap)∧∃ q,w'=putRowK ai 2 (Sort.ahead w q) blk 0 (compactUpTo d d.size++List.replicate (d.size - (compactUpTo d d.size).length) (0,0)).toArray:=by
 have same:∀ q,(∀ j,j < d.size→keeps d j=true)→(compactUpTo d d.size).length=d.size∧w.drewN q=putRowK ai 2 (Sort.ahead w q) blk 0 (compactUpTo d d.size++List.replicate (d.size - (compactUpTo d d.size).length) (0,0)).toArray:=by
   intro q hall
   have e:compactUpTo d d.size=d.toList:=by rw [compactUpTo_all d _ hall,range_map_get]
   rw [e]
   refine ⟨by simp,?_⟩
   simp only [Array.length_toList,Nat.sub_self,List.replicate_zero,List.append_nil,Array.toArray_toList]
   exact (putRowK_self ai 2 (Sort.ahead w q) blk 0 d (holdsK_ahead ai 2 w q blk 0 d hH)).symm
 have HS:Aside (∀ q,(∀ j,j < d.size→keeps d j=true)→(compactUpTo d d.size).length=d.size∧w.drewN q=putRowK ai 2 (Sort.ahead w q) blk 0 (compactUpTo d d.size++List.replicate (d.size - (compactUpTo d d.size).length) (0,0)).toArray):=same
 clear same
 by_cases h2:d.size < 2
 . have HH:Aside (HoldsK ai 2 w blk 0 d):=hH
   clear hH
   go_enter Tryd.func18,Tryd.ntmps18
   go_wp2
   go_ret
   obtain ⟨e1,e2⟩:=HS.out 0 (fun j hj=>keeps_lt_one d j (by omega))
   exact ⟨by rw [e1]; rfl,0,e2⟩
 . go_enter Tryd.func18,Tryd.ntmps18
   go_wp2
   go_loopg [3] d.size (fun g s3 wr=>∃ k q:Nat,1≤k∧k≤d.size∧d.size - k≤g∧s3 = .int .i64 k∧wr=w.drewN q∧∀ j,j < k→keeps d j=true)
   case atStart=>exact ⟨1,0,Nat.le_refl _,by omega,by omega,rfl,rfl,keeps_lt_one d⟩
   case round =>
     obtain ⟨k,q,hk1,hk,hg,rfl,rfl,hall⟩:=hrel
     by_cases hlt:k < d.size
     . obtain ⟨c10,c11⟩:=gV hH hlt
       obtain ⟨c00,c01⟩:=gV hH (show k - 1 < d.size by omega)
       have A:Aside (∀ j,j < k→keeps d j=true):=hall
       have HH:Aside (HoldsK ai 2 w blk 0 d):=hH
       clear hall hH
       generalize hx:d[k]! = x at c10 c11
       generalize hy:d[k - 1]! = y at c00 c01
       have B:Aside (d[k]! = x∧d[k - 1]! = y):=⟨hx,hy⟩
       clear hx hy
       obtain ⟨x1,x2⟩:=x
       obtain ⟨y1,y2⟩:=y
       dsimp only at c10 c11 c00 c01
       by_cases hdup:x1=y1∧x2=y2
       . obtain ⟨rfl,rfl⟩:=hdup
         go_wp2_with fail
         go_quiet (fail)
         go_wp2
         clear c10 c11 c00 c01
         go_loopg [3,5] d.size (fun g s3 s5 wr=>∃ (kk k2 q2:Nat) (dk:Array (Int×Int)),s3 = .int .i64 kk∧s5 = .int .i64 k2∧1≤k2∧k + k2≤d.size∧d.size - (k + k2)≤g∧wr=putRowK ai 2 (Sort.ahead w q2) blk 0 dk∧CompInv d (k + k2) kk dk)
         case atStart=>exact ⟨k,1,q + nq,d,rfl,rfl,Nat.le_refl _,by omega,by omega,by exact (putRowK_self ai 2 (Sort.ahead w (q + nq)) blk 0 d (holdsK_ahead ai 2 w (q + nq) blk 0 d HH.out)).symm,CompInv.start A.out (keeps_neg (by omega) (by rw [B.out.1,B.out.2]))⟩
         case round =>
           obtain ⟨kk,k2,q2,dk,rfl,rfl,h1,hle,hg2,hwr,hI⟩:=hrel
           have hkk:=hI.lt
           have hds:=hI.size
           have hHk:HoldsK ai 2 wr blk 0 dk:=by rw [hwr]; exact holdsK_putRowK ai 2 _ blk 0 d dk (holdsK_ahead ai 2 w q2 blk 0 d HH.out) hds
           have W2:Aside (wr=putRowK ai 2 (Sort.ahead w q2) blk 0 dk):=hwr
           have I2:Aside (CompInv d (k + k2) kk dk):=hI
           clear hwr
           by_cases hlt2:k + k2 < d.size
           . obtain ⟨cm0,cm1⟩:=gV hHk (show k + k2 < dk.size by omega)
             obtain ⟨cp0,cp1⟩:=gV hHk (show k + k2 - 1 < dk.size by omega)
             rw [hI.high (k + k2) (by omega),show (k + k2) * 2=k * 2 + k2 * 2 by omega] at cm0 cm1
             rw [hI.high (k + k2 - 1) (by omega),show (k + k2 - 1) * 2=k * 2 + (k2 - 1) * 2 by omega] at cp0 cp1
             have HK2:Aside (HoldsK ai 2 wr blk 0 dk):=hHk
             clear hHk hI
             generalize hu:d[k + k2]! = u at cm0 cm1
             generalize hv:d[k + k2 - 1]! = v at cp0 cp1
             have C:Aside (d[k + k2]! = u∧d[k + k2 - 1]! = v):=⟨hu,hv⟩
             clear hu hv
             obtain ⟨u1,u2⟩:=u
             obtain ⟨v1,v2⟩:=v
             dsimp only at cm0 cm1 cp0 cp1
             by_cases huv:u1=v1∧u2=v2
             . obtain ⟨rfl,rfl⟩:=huv
               go_wp2_with fail
               go_quiet (fail)
               go_wp2
               go_roundg (d.size - (k + (k2 + 1)))
               case measure=>omega
               case rel=>exact ⟨kk,k2 + 1,q2 + nq,dk,rfl,by go_num,by omega,by omega,Nat.le_refl _,by rw [W2.out]; exact putRowK_drewN ai 2 w q2 nq blk 0 dk,I2.out.skip (keeps_neg (by omega) (by rw [C.out.1,C.out.2]))⟩
             . obtain ⟨ck0,ck1⟩:=gV HK2.out (show kk < dk.size by omega)
               have fk:∀ c,c < dk.size * 2→wr.frozen? ⟨blk,c,none⟩=false:=fun c hc=>by
                 have:=(HK2.out c (by simpa using hc)).2
                 rwa [Nat.zero_add] at this
               have fk0:=fk (kk * 2) (by omega)
               have fk1:=fk (kk * 2 + 1) (by omega)
               clear fk
               generalize dk[kk]!.1=o1 at ck0
               generalize dk[kk]!.2=o2 at ck1
               by_cases h1:u1=v1
               . have h2':¬ u2=v2:=fun e=>huv ⟨h1,e⟩
                 subst h1
                 go_wp2_with fail
                 go_quiet (fail)
                 go_wp2
                 go_roundg (d.size - (k + (k2 + 1)))
                 case measure=>omega
                 case rel=>exact ⟨kk + 1,k2 + 1,q2 + nq,dk.setIfInBounds kk (u1,u2),by go_num,by go_num,by omega,by omega,Nat.le_refl _,rb (by omega) W2.out u1 u2,by have:=I2.out.keep hlt2 (keeps_pos (by rw [C.out.1,C.out.2]; simpa using h2')); rwa [C.out.1] at this⟩
               . go_wp2_with fail
                 go_quiet (fail)
                 go_wp2
                 go_roundg (d.size - (k + (k2 + 1)))
                 case measure=>omega
                 case rel=>exact ⟨kk + 1,k2 + 1,q2 + nq,dk.setIfInBounds kk (u1,u2),by go_num,by go_num,by omega,by omega,Nat.le_refl _,rb (by omega) W2.out u1 u2,by have:=I2.out.keep hlt2 (keeps_pos (by rw [C.out.1,C.out.2]; simp [h1])); rwa [C.out.1] at this⟩
           . have hend:k + k2=d.size:=by omega
             have hcl:∀ ty,(Builtin.clear_ #[22] ty #[.slice (some ⟨blk,kk * 2,none⟩) (d.size - kk) (cap - kk)]).run Tryd.prog wr = .ok (.tuple #[]) (wr.setCells blk (kk * 2) ((List.replicate (d.size - kk) ((0:Int),(0:Int))).flatMap ai)):=fun ty=>yd wr ty blk (kk * 2) (d.size - kk) (cap - kk) (by omega) (fun j hj=>by
               have:=(hHk (kk * 2 + j) (by rw [size_flatK]; omega)).1
               rw [Nat.zero_add] at this
               rw [this]; rfl) (fun j hj=>by
               have:=(hHk (kk * 2 + j) (by rw [size_flatK]; omega)).2
               rwa [Nat.zero_add] at this)
             clear hHk hI
             go_wp2
             go_ret
             have hI:=I2.out
             rw [hend] at hI
             have hk:=hI.lt
             refine ⟨by rw [hI.len]; rfl,q2,?_⟩
             rw [hI.len,← hI.done (0,0),W2.out,si _ _ _ _ _ (by rw [List.length_replicate,hI.size]; omega)]
       . by_cases h1:x1=y1
         . have h2':¬ x2=y2:=fun e=>hdup ⟨h1,e⟩
           subst h1
           go_wp2_with fail
           go_quiet (fail)
           go_wp2
           go_roundg (d.size - (k + 1))
           case measure=>omega
           case rel =>
             refine ⟨k + 1,q + nq,by omega,by omega,Nat.le_refl _,by go_num,rfl,fun j hj=>?_⟩
             by_cases e:j=k
             . subst e
               exact keeps_pos (by rw [B.out.1,B.out.2]; simpa using h2')
             . exact A.out j (by omega)
         . go_wp2_with fail
           go_quiet (fail)
           go_wp2
           go_roundg (d.size - (k + 1))
           case measure=>omega
           case rel =>
             refine ⟨k + 1,q + nq,by omega,by omega,Nat.le_refl _,by go_num,rfl,fun j hj=>?_⟩
             by_cases e:j=k
             . subst e
               exact keeps_pos (by rw [B.out.1,B.out.2]; simp [h1])
             . exact A.out j (by omega)
     . have:k=d.size:=by omega
       subst this
       have HH:Aside (HoldsK ai 2 w blk 0 d):=hH
       clear hH
       go_wp2
       go_ret
       obtain ⟨e1,e2⟩:=HS.out q hall
       exact ⟨by rw [e1]; rfl,q,e2⟩
end
section
open Go.Shelf Go.RowKit Go.Lib Go.Sort
theorem tH (p:Option Addr) (cap:Nat) (w:World):Calls Tryd.prog 18 #[.slice p 0 cap] w fun e w'=>e = .returned (.slice p 0 cap)∧w'=w:=by
 go_enter Tryd.func18,Tryd.ntmps18
 go_wp2
 go_ret; exact ⟨rfl,rfl⟩
theorem vH {K:Hp} {ad:Option Addr} {m cap:Nat} {xs:List (Int×Int)} (hl:xs.length≤1073741824) :
   Tr Tryd.prog 18 #[.slice ad m cap] K [Row Hp.nil 24 tyB (.slice ad m cap) xs] (fun v K' L'=>(∃ (l:List (Int×Int)) (ad1:Option Addr) (cp1:Nat),l=Lib.compact xs∧v = .slice ad1 l.length cp1∧L'=[Row Hp.nil 24 tyB (.slice ad1 l.length cp1) l])∧K=K'):=by
 refine Tr.k (fun E w F hs=>?_)
 have hs':=hs
 obtain ⟨h0,⟨cs,h1,h2⟩,hd,hs2⟩:=hs
 have hle:h0.le (Hp.of w):=fun n o e=>hs2.sub n o (Hp.join_right e (hd n o e))
 obtain rfl:=kR h1
 obtain ⟨h3,h4⟩:=h2
 rcases h4 with ⟨h5,h6,_⟩ | ⟨g,cp,cur,h5,rfl,h6,h7,h8,h9⟩
 . cases h5
   obtain rfl:xs=[]:=List.length_eq_zero_iff.1 h6
   refine (tH none 0 w).mono ?_
   rintro e w' ⟨rfl,rfl⟩
   exact ⟨_,K,_,rfl,⟨_,none,0,rfl,rfl,rfl⟩,Hp.le_refl K,hs'⟩
 . cases h5
   have hb:=hle g _ (aC g _)
   have ht:cur.toList.take (xs.flatMap ai).length=xs.flatMap ai:=by rw [cL]; exact h9
   have hH:HoldsK ai 2 w g 0 xs.toArray:=by unfold HoldsK; rw [je]; exact oS hb ht
   have hcl:(Lib.compact xs).length≤xs.length:=Lib.compact_length_le xs
   have hcon:=tK g cap xs.toArray w hH (by simpa using hl) (by simpa using h6)
   have hcon':Calls Tryd.prog 18 #[.slice (some ⟨g,0,none⟩) xs.length cap] w fun e w'=>e = .returned (.slice (some ⟨g,0,none⟩) (Lib.compact xs).length cap)∧∃ q,w'=putRowK ai 2 (Sort.ahead w q) g 0 (Lib.compact xs++List.replicate (xs.length - (Lib.compact xs).length) (0,0)).toArray:=by
     have hc:Lib.compact xs=compactUpTo xs.toArray xs.toArray.size:=by simp [Lib.compact]
     rw [hc]
     simpa using hcon
   refine hcon'.mono ?_
   rintro e w' ⟨rfl,q,rfl⟩
   have hlen:(Lib.compact xs++List.replicate (xs.length - (Lib.compact xs).length) ((0:Int),(0:Int))).length=xs.length:=by simp; omega
   generalize hz:Lib.compact xs++List.replicate (xs.length - (Lib.compact xs).length) ((0:Int),(0:Int))=zs at hlen
   have ew:putRowK ai 2 (Sort.ahead w q) g 0 zs.toArray=grow (putRow id (Sort.ahead w q) g 0 (zs.flatMap ai).toArray) #[]:=by
     unfold putRowK; rw [je,show ∀ W:World,Sort.grow W #[]=W from fun W=>by simp [Sort.grow]]
   rw [ew]
   have ho:=nQ (n:=q) (os:=#[]) (m:=xs.length) (cs:=zs.flatMap ai) (by rw [cL,hlen]) hb h6 h7 h8
   refine ⟨_,K,[Row Hp.nil 24 tyB (.slice (some ⟨g,0,none⟩) (Lib.compact xs).length cap) (Lib.compact xs)],rfl,⟨_,_,_,rfl,rfl,rfl⟩,Hp.le_refl K,?_⟩
   refine hs'.grown rfl ?_ (lP _ _) (nI _) (.inl rfl)
   obtain ⟨o1,o2⟩:=ho
   refine ⟨cL _,?_⟩
   rcases o2 with ⟨o2,_⟩ | ⟨g',cp',cur',o2,o3,o4,o5,o6,o7,o8⟩
   . cases o2
   . simp only [Value.slice.injEq,Option.some.injEq,Addr.mk.injEq,and_true] at o2
     obtain ⟨rfl,_,rfl⟩:=o2
     refine .inr ⟨g,cap,cur',rfl,Nat.zero_le _,o4,by omega,o6,o7,?_⟩
     have hsz:tyB.size=2:=rfl
     rw [hsz]
     have:cur'.toList.take ((Lib.compact xs).length * 2)=(cur'.toList.take (xs.length * 2)).take ((Lib.compact xs).length * 2):=by rw [List.take_take,Nat.min_eq_left (by omega)]
     rw [this,o8,← hz,List.flatMap_append,List.take_append_of_le_length (by rw [cL]; exact Nat.le_refl _),List.take_of_length_le (by rw [cL]; exact Nat.le_refl _)]
variable [BldA]
theorem uI {m:List M} {K:Hp} {x:List (Int×Int)} {e:TypeId} {args:List Value} {E:En} {w:World} {F:List aa} (hm:m.length=2) (hH:HA.ok m K (.row 0 1 e tyB x x.length)) (hsl:slR m K [(0,.own 0)] args) (hs:Sep E K ([HA.row 0 1 e tyB x x.length].map (HA.conc m)++F) w) :
   ∃ ad cap,args=[.slice ad x.length cap]∧m[0]? = some (.val (.slice ad x.length cap))∧Sep E K (Row Hp.nil e tyB (.slice ad x.length cap) x :: F) w:=by
 obtain ⟨ad,cap,cs,e0,e1,hE,_,h1,h2,h3⟩:=hH
 obtain ⟨u,r,rfl,⟨e2,e3⟩,rfl⟩:=hsl
 rw [e0] at e2
 cases e2
 refine ⟨ad,cap,rfl,e0,?_⟩
 have hs':Sep E K (HA.conc m (.row 0 1 e tyB x x.length) :: F) w:=hs
 simp only [HA.conc,e0,e1] at hs'
 exact hs'.mono (fun h k=>⟨cs,Els.flat rfl hE,k⟩)
def gW (xs:List (Int×Int)):Option (List (Int×Int)):=if xs.length≤1073741824 then some (Lib.compact xs) else none
def kI:Spec:=⟨18,⟨[(0,.own 24 tyB)],[]⟩,[⟨[(0,.own 24 tyB)],[]⟩],fun x=>gW x⟩
theorem tq:aV Tryd.prog kI:=by
 intro x r hr vs u hu m K args hgk hm hH hsl E w F hs
 have hu':kI.inn.un (TL.list _ x) 0=some ([(0,.own 0)],⟨[],2,[.row 0 1 24 tyB x (List.length (α:=Int×Int) x)],[0]⟩):=rfl
 rw [hu'] at hu
 cases hu
 replace hm:m.length=2:=hm
 obtain ⟨ad,cap,rfl,e0,hs'⟩:=uI hm (hH _ (by simp)) hsl hs
 have hr:gW x=some r:=hr
 unfold gW at hr
 split at hr
 . rename_i hl
   obtain rfl:=Option.some.inj hr
   refine (vH (K:=K) hl E w F hs').mono ?_
   rintro e w' ⟨v,K',L',rfl,⟨⟨l,ad1,cp1,rfl,rfl,rfl⟩,rfl⟩,h1,h2⟩
   obtain ⟨_,g2,g3,g4,cs,g5,g6⟩:=oP h2
   generalize Lib.compact x=l at g2 g3 g4 g5 g6 h2 ⊢
   have hm0:(m++[M.val (.slice ad1 (List.length (α:=Int×Int) l) cp1),M.cont tyB l cs])[2]? = some (.val (.slice ad1 (List.length (α:=Int×Int) l) cp1)):=by
     rw [List.getElem?_append_right (by omega),hm]; rfl
   have hm1:(m++[M.val (.slice ad1 (List.length (α:=Int×Int) l) cp1),M.cont tyB l cs])[3]? = some (.cont tyB l cs):=by
     rw [List.getElem?_append_right (by omega),hm]; rfl
   refine ⟨_,K,_,rfl,⟨[(0,.own 2)],⟨[],4,[.row 2 3 24 tyB l (List.length (α:=Int×Int) l)],[2]⟩,m++[M.val (.slice ad1 (List.length (α:=Int×Int) l) cp1),M.cont tyB l cs],rfl,List.prefix_append _ _,by simp [hm],?_,⟨hm0,rfl⟩,rfl⟩,h1,?_⟩
   . intro a ha
     simp only [List.mem_singleton] at ha
     subst ha
     exact ⟨ad1,cp1,cs,hm0,hm1,g5,rfl,g2,g3,g4⟩
   . show Sep E K (HA.conc _ (.row 2 3 24 tyB l (List.length (α:=Int×Int) l)) :: F) w'
     simp only [HA.conc,hm0,hm1]
     exact g6
 . cases hr
def tE:OkSpec Tryd.prog:=⟨kI,tq,Tryd.call18⟩
end
section
open Go.RowKit _root_.Go.Proofs.Tryd
abbrev bkO (i:Nat) (o:OT):Bk:=⟨some i,0,[],false,false,some o,false⟩
abbrev bkC (i:Nat) (e:TypeId) (ks:List Kd):Bk:=⟨some i,e,ks,false,false,none,false⟩
abbrev bkN (e:TypeId) (ks:List Kd):Bk:=⟨none,e,ks,false,false,none,false⟩
abbrev bkU (i:Nat):Bk:=⟨some i,0,[],false,true,none,false⟩
abbrev bkM:Bk:=⟨none,0,[],false,true,none,false⟩
abbrev kdI (i:Nat):Nat×Kd:=(i,.dat (.int .i64))
abbrev kdB (i:Nat):Nat×Kd:=(i,.dat .bool)
abbrev Yq1:Tp:=(.cons (.int .i64) (.one (.int .i64)))
abbrev Tq1:Type:=(List (Option (Int×(List Int))))
abbrev Tq2:Type:=(List (Int×Int))
abbrev Yq2:Tp:=(.int .i64)
abbrev Tq3:Type:=(Int×(List Int)×(Option Tq2)×(Option (Int×Tq1)))
abbrev Yq3:Tp:=(.int .u64)
abbrev Tq4:Type:=(Option (Int×Tq1))
abbrev Tq5:Type:=(List (List Int))
abbrev Tq6:Type:=(Option Tq2)
abbrev Yq4:Tp:=(.ptr (.cons Yq2 (.one (.sl Yq3))))
abbrev Tq7:Type:=(Int×Int)
abbrev Tq8:Type:=((Bool×(List Int)×Tq6×Tq4))
instance nob:BldA:=⟨1000000000,fun b _=>Cl b 1000000000 [.pointer none,.slice none 0 0],fun h=>h,tzGk,tzGk.mono⟩
def ye:OkSpec Tryd.prog:=⟨mz,yy (fun _ h=>h),call93⟩

def fL (xa:Tq2):Option (Tq2) :=
 dG xa (some ([])) ((app (([]:List Tq7)) xa).bind fun z21=>some (z21))
def hQ0:Hn Tryd.prog := .two 4 .nil .nil
def sQ0:Spec:=⟨16,⟨[(0,.dat (.sl Yq1))],[]⟩,[⟨[(0,.own 24 Yq1)],[]⟩],fun x=>fL x⟩
def oQ0:OkSpec Tryd.prog:=⟨sQ0,ak func16 hQ0 (by kernel_rfl) (by kernel_rfl),call16⟩

def f9 (xa:Tq2):Option (Tq2) :=
 (fL xa).bind fun l23=>(sortB l23).bind fun l31=>(gW l31).bind fun l32=>some (l32)
def hQ1:Hn Tryd.prog := .cl oQ0 [] (.cl u9 [] (.cl tE [] .nil))
def sQ1:Spec:=⟨8,⟨[(0,.dat (.sl Yq1))],[]⟩,[⟨[(0,.own 24 Yq1)],[]⟩],fun x=>f9 x⟩
def oQ1:OkSpec Tryd.prog:=⟨sQ1,ak func8 hQ1 (by kernel_rfl) (by kernel_rfl),call8⟩

def ib (xb:Int):Option (Tq2) :=
 (cond (decide (xb < 0)) (none) (some (())):Option Unit).bind fun ()=>cond (decide (0 < (IntKind.wrap .i64 (xb - (IntKind.wrap .i64 (0 - 0)))))) ((subL ([]:List Unit) 0 0).bind fun _=>(mk (IntKind.wrap .i64 (xb - (IntKind.wrap .i64 (0 - 0)))) (IntKind.wrap .i64 (xb - (IntKind.wrap .i64 (0 - 0)))) (0,0):Option Tq2).bind fun z30=>(app (([]:List Tq7)) z30).bind fun z28=>(subL z28 0 0).bind fun y35=>some (y35)) (some ([]))
def hQ2:Hn Tryd.prog := .pl (.sq [] ⟨[],[]⟩ [] (.tw 6 .nil .nil) (.tw 16 (.wt 22 (.tru  .nil)) .nil))
def sQ2:Spec:=⟨34,⟨[(0,.nils),kdI 1],[]⟩,[⟨[(0,.own 24 Yq1)],[]⟩],fun x=>ib x⟩
def oQ2:OkSpec Tryd.prog:=⟨sQ2,ak func34 hQ2 (by kernel_rfl) (by kernel_rfl),call34⟩
def hZ (xa:(List Tq2)):Tq7→Option (Tq7⊕Int):=fun (i1,i2)=>cond (decide (i2 < (xa.length:Int))) ((ae xa i2).bind fun x3=>cond (decide ((IntKind.wrap .i64 (i1 + (x3.length:Int))) < 0)) (none) (some (.inl ((IntKind.wrap .i64 (i1 + (x3.length:Int)),IntKind.wrap .i64 (i2 + 1)))))) (some (.inr (i1)))
def ia (xa:(List Tq2)):(Tq2×Int)→Option ((Tq2×Int)⊕Tq2):=fun (l1,i2)=>cond (decide (i2 < (xa.length:Int))) ((ae xa i2).bind fun x3=>(app l1 x3).bind fun z4=>some (.inl ((z4,IntKind.wrap .i64 (i2 + 1))))) (some (.inr (l1)))
def ej (xa:(List Tq2)):Option (Tq2) :=
 (loop (hZ xa) (0,0)).bind fun i1=>(ib i1).bind fun l2=>(loop (ia xa) (l2,0)).bind fun l3=>some (l3)
def hQ3:Hn Tryd.prog := .jn [] ⟨[kdI 3],[]⟩ [] (.lp ⟨[kdI 3,kdI 11],[]⟩ (.tw 12 (.tw 20 .nil .nil) .nil)) (.cl oQ2 [] (.jn [] ⟨[(6,.own 24 Yq1),(24,.any)],[]⟩ [0] (.lp ⟨[(6,.own 24 Yq1),kdI 27],[]⟩ (.tw 28 .nil .nil)) .nil))
def sQ3:Spec:=⟨21,⟨[(0,.dat (.sl (.sl Yq1)))],[]⟩,[⟨[(0,.own 24 Yq1)],[]⟩],fun x=>ej x⟩
def oQ3:OkSpec Tryd.prog:=⟨sQ3,ak func21 hQ3 (by kernel_rfl) (by kernel_rfl),call21⟩

def fO (xb:Int) (qa0:Int) (qa1:(List Int)) (qa2:Tq6) (qa3:Tq4):Option (((List Int)×Tq6×Tq4)) :=
 qa2.bind fun y34=>cond (!((az xb y34 0).isSome)) (qa2.bind fun y37=>(app qa1 ([xb]:List Int)).bind fun z50=>some ((z50,(some (bL xb 0 y37):Tq6),qa3))) (some ((qa1,qa2,qa3)))
def hQ4:Hn Tryd.prog := .tw 16 .nil .nil
def sQ4:Spec:=⟨29,⟨[(0,.ptr 0 0),kdI 1],[bkN 51 [.is 1 (.dat Yq2),.own 3 Yq2,.od (.obj 0 (.sl Yq1)),.od (.box 79 (.cons (.dat Yq2) (.one (.row 80 (.box 98 (.cons (.dat Yq2) (.one (.row 75 (.dat Yq3)))))))))],bkM]⟩,[⟨[],[bkC 0 51 [.is 1 (.any),.own 3 Yq2,.od (.obj 0 (.sl Yq1)),.od (.box 79 (.cons (.dat Yq2) (.one (.row 80 (.box 98 (.cons (.dat Yq2) (.one (.row 75 (.dat Yq3)))))))))],bkU 1]⟩],fun x=>fO x.1 x.2.1 x.2.2.1 x.2.2.2.1 x.2.2.2.2⟩
def oQ4:OkSpec Tryd.prog:=⟨sQ4,ak func29 hQ4 (by kernel_rfl) (by kernel_rfl),call29⟩

def nk (qa0:Int) (qa1:(List Int)) (qa2:Tq6) (qa3:Tq4):Option (Tq3) :=
 some ((qa0,qa1,qa2,qa3))
def hQ5:Hn Tryd.prog := .nil
def sQ5:Spec:=⟨49,⟨[(0,.ptr 0 0)],[bkN 51 [.is 1 (.dat Yq2),.own 3 Yq2,.od (.obj 0 (.sl Yq1)),.od (.box 79 (.cons (.dat Yq2) (.one (.row 80 (.box 98 (.cons (.dat Yq2) (.one (.row 75 (.dat Yq3)))))))))],bkM]⟩,[⟨[kdI 0],[bkC 0 51 [.is 1 (.any),.own 3 Yq2,.od (.obj 0 (.sl Yq1)),.od (.box 79 (.cons (.dat Yq2) (.one (.row 80 (.box 98 (.cons (.dat Yq2) (.one (.row 75 (.dat Yq3)))))))))],bkU 1]⟩],fun x=>nk x.1 x.2.1 x.2.2.1 x.2.2.2⟩
def oQ5:OkSpec Tryd.prog:=⟨sQ5,ak func49 hQ5 (by kernel_rfl) (by kernel_rfl),call49⟩

def cg (xb:Int) (qa0:Int) (qa1:(List Int)) (qa2:Tq6) (qa3:Tq4):Option Tq8 :=
 cond (decide (0≤xb)) ((nk qa0 qa1 qa2 qa3).bind fun (i4,l5,l6,l7)=>some ((decide (xb < i4),l5,l6,l7))) (some ((false,qa1,qa2,qa3)))
def hQ6:Hn Tryd.prog := .two 7 (.cl oQ5 [] .nil) .nil
def sQ6:Spec:=⟨28,⟨[(0,.ptr 0 0),kdI 1],[bkN 51 [.is 1 (.dat Yq2),.own 3 Yq2,.od (.obj 0 (.sl Yq1)),.od (.box 79 (.cons (.dat Yq2) (.one (.row 80 (.box 98 (.cons (.dat Yq2) (.one (.row 75 (.dat Yq3)))))))))],bkM]⟩,[⟨[kdB 0],[bkC 0 51 [.is 1 (.any),.own 3 Yq2,.od (.obj 0 (.sl Yq1)),.od (.box 79 (.cons (.dat Yq2) (.one (.row 80 (.box 98 (.cons (.dat Yq2) (.one (.row 75 (.dat Yq3)))))))))],bkU 1]⟩],fun x=>cg x.1 x.2.1 x.2.2.1 x.2.2.2.1 x.2.2.2.2⟩
def oQ6:OkSpec Tryd.prog:=⟨sQ6,ak func28 hQ6 (by kernel_rfl) (by kernel_rfl),call28⟩

def ga (xa:Int) (xb:Int):Option ((Int⊕(Int×Int×Tq1))) :=
 cond ((decide (xa < 0))||(decide (xb < 0))) (some (.inl 2)) (cond ((decide (65536 < xa))||(decide (65536 < xb))) (some (.inl 5)) ((mk xa xa none:Option Tq1).bind fun z25=>some (.inr (0,xb,z25))))
def hQ7:Hn Tryd.prog := .gp 2 (.tw 11 .nil (.wt 14 (.gp 2 (.tw 17 .nil (.ot (.box 98 (.cons (.dat Yq2) (.one (.row 75 (.dat Yq3))))) (.pl .nil))))))
def sQ7:Spec:=⟨31,⟨[kdI 0,kdI 1],[]⟩,[⟨[(0,.tup [.nilp,.dat Yq2])],[]⟩,⟨[(0,.tup [.ptr 0 0,.dat Yq2])],[bkN 79 [.dat Yq2,.od (.row 80 (.box 98 (.cons (.dat Yq2) (.one (.row 75 (.dat Yq3))))))]]⟩],fun x=>ga x.1 x.2⟩
def oQ7:OkSpec Tryd.prog:=⟨sQ7,ak func31 hQ7 (by kernel_rfl) (by kernel_rfl),call31⟩

def cE (qa0:Int) (qa1:Tq1):Option ((Int×Tq1)) :=
 some (((qa1.length:Int),qa1))
def hQ8:Hn Tryd.prog := .nil
def sQ8:Spec:=⟨54,⟨[(0,.ptr 0 0)],[bkN 79 [.is 1 (.dat Yq2),.od (.row 80 (.box 98 (.cons (.dat Yq2) (.one (.row 75 (.dat Yq3))))))],bkM]⟩,[⟨[kdI 0],[bkC 0 79 [.is 1 (.any),.od (.row 80 (.box 98 (.cons (.dat Yq2) (.one (.row 75 (.dat Yq3))))))],bkU 1]⟩],fun x=>cE x.1 x.2⟩
def oQ8:OkSpec Tryd.prog:=⟨sQ8,ak func54 hQ8 (by kernel_rfl) (by kernel_rfl),call54⟩

def ek (xb:Int) (qa0:Int) (qa1:Tq1):Option ((Bool×Tq1)) :=
 cond (decide (0≤xb)) ((cE qa0 qa1).bind fun (i70,l71)=>some ((decide (xb < i70),l71))) (some ((false,qa1)))
def hQ9:Hn Tryd.prog := .two 7 (.cl oQ8 [] .nil) .nil
def sQ9:Spec:=⟨51,⟨[(0,.ptr 0 0),kdI 1],[bkN 79 [.is 1 (.dat Yq2),.od (.row 80 (.box 98 (.cons (.dat Yq2) (.one (.row 75 (.dat Yq3))))))],bkM]⟩,[⟨[kdB 0],[bkC 0 79 [.is 1 (.any),.od (.row 80 (.box 98 (.cons (.dat Yq2) (.one (.row 75 (.dat Yq3))))))],bkU 1]⟩],fun x=>ek x.1 x.2.1 x.2.2⟩
def oQ9:OkSpec Tryd.prog:=⟨sQ9,ak func51 hQ9 (by kernel_rfl) (by kernel_rfl),call51⟩

def ci (xa:Int):Option ((Int⊕(Int×Int×(List Int)))) :=
 cond (decide (xa < 0)) (some (.inl 2)) (cond (decide (1048576 < xa)) (some (.inl 5)) ((mk (IntKind.wrap .i64 (Int.tdiv (IntKind.wrap .i64 ((IntKind.wrap .i64 (xa + 64)) - 1)) 64)) (IntKind.wrap .i64 (Int.tdiv (IntKind.wrap .i64 ((IntKind.wrap .i64 (xa + 64)) - 1)) 64)) 0:Option (List Int)).bind fun z20=>some (.inr (0,xa,z20))))
def zn:Hn Tryd.prog := .tw 5 .nil (.tw 7 .nil (.pl (.pl .nil)))
def fG:Spec:=⟨75,⟨[kdI 0],[]⟩,[⟨[(0,.tup [.nilp,.dat Yq2])],[]⟩,⟨[(0,.tup [.ptr 0 0,.dat Yq2])],[bkN 98 [.dat Yq2,.own 75 Yq3]]⟩],fun x=>ci x⟩
def rY:OkSpec Tryd.prog:=⟨fG,ak func75 zn (by kernel_rfl) (by kernel_rfl),call75⟩

def iw (xa:(Option (Int×(List Int)))):Option Int :=
 cond (xa.isNone) (some (0)) (xa.bind fun y11=>some (y11.1))
def Aq:Hn Tryd.prog := .tw 4 .nil .nil
def yB:Spec:=⟨87,⟨[(0,.dat Yq4)],[]⟩,[⟨[kdI 0],[]⟩],fun x=>iw x⟩
def zq:OkSpec Tryd.prog:=⟨yB,ak func87 Aq (by kernel_rfl) (by kernel_rfl),call87⟩

def dd (xa:(Option (Int×(List Int)))) (xb:Int):Option Bool :=
 (cond (decide (0≤xb)) ((iw xa).bind fun i28=>some (decide (xb < i28))) (some (false))).bind fun t24=>some (t24)
def zR:Hn Tryd.prog := .gj 4 ⟨[kdB 12],[]⟩ [] (.two 7 (.cl zq [] .nil) .nil) .nil
def yD:Spec:=⟨76,⟨[(0,.dat Yq4),kdI 1],[]⟩,[⟨[kdB 0],[]⟩],fun x=>dd x.1 x.2⟩
def mS:OkSpec Tryd.prog:=⟨yD,ak func76 zR (by kernel_rfl) (by kernel_rfl),call76⟩

def cG (xa:(Option (Int×(List Int)))) (xb:Int):Option Bool :=
 (dd xa xb).bind fun t1=>cond (t1) (xa.bind fun y2=>(ae y2.2 (IntKind.wrap .i64 (Int.tdiv xb 64))).bind fun x3=>(ge0 (Int.tmod xb 64)).bind fun u4=>some (!decide ((IntKind.wrap .u64 ((BitVec.ofInt (IntKind.bits .u64) x3 &&& BitVec.ofInt (IntKind.bits .u64) (IntKind.wrap .u64 (1 * 2 ^ (min (Int.toNat (Int.tmod xb 64)) (IntKind.bits .u64))))).toNat:Int))=0))) (some (false))
def zP:Hn Tryd.prog := .mix [([0,1],2)] [3,4,5,6,7,8,9,10,11,12,13,14,15,16,17,18] [] [] (.cl mS [] (.two 8 .nil .nil))
def zM:Spec:=⟨77,⟨[(0,.dat Yq4),kdI 1],[]⟩,[⟨[kdB 0],[]⟩],fun x=>cG x.1 x.2⟩
def r6:OkSpec Tryd.prog:=⟨zM,ak func77 zP (by kernel_rfl) (by kernel_rfl),call77⟩

def db (xb:Int) (qa0:Int) (qa1:(List Int)):Option ((Bool×(List Int))) :=
 (dd (some (qa0,qa1)) xb).bind fun t2=>(cond (!t2) (some (true)) ((cG (some (qa0,qa1)) xb).bind fun t3=>some (t3))).bind fun t4=>cond (t4) (some ((false,qa1))) ((ae qa1 (IntKind.wrap .i64 (Int.tdiv xb 64))).bind fun x5=>(ge0 (Int.tmod xb 64)).bind fun u6=>(ae qa1 (IntKind.wrap .i64 (Int.tdiv xb 64))).bind fun x7=>(some (qa1.set (IntKind.wrap .i64 (Int.tdiv xb 64)).toNat (IntKind.wrap .u64 ((BitVec.ofInt (IntKind.bits .u64) x5 ||| BitVec.ofInt (IntKind.bits .u64) (IntKind.wrap .u64 (1 * 2 ^ (min (Int.toNat (Int.tmod xb 64)) (IntKind.bits .u64))))).toNat:Int)))).bind fun z8=>some ((true,z8)))
def zI:Hn Tryd.prog := .cl mS [2,0] (.gj 3 ⟨[kdB 13],[]⟩ [] (.two 9 .nil (.cl r6 [2,0] .nil)) (.tw 13 .nil (.mix [] [0,1,2,3,4,5,6,7,8,9,10,11,12] [13] [] .nil)))
def yO:Spec:=⟨53,⟨[(0,.ptr 0 0),kdI 1],[bkN 98 [.is 1 (.dat Yq2),.own 75 Yq3],bkM]⟩,[⟨[kdB 0],[bkC 0 98 [.is 1 (.any),.own 75 Yq3],bkU 1]⟩],fun x=>db x.1 x.2.1 x.2.2⟩
def mO:OkSpec Tryd.prog:=⟨yO,ak func53 zI (by kernel_rfl) (by kernel_rfl),call53⟩

def fN (xb:Int) (xc:Int) (qa0:Int) (qa1:Tq1):Option ((Bool×Tq1)) :=
 (ek xb qa0 qa1).bind fun (t2,l3)=>cond (((!t2)||(decide (xc < 0)))||(decide (qa0≤xc))) (some ((false,l3))) ((ae l3 xb).bind fun x4=>(ae l3 xb).bind fun _=>(br xb xb).bind fun _=>cond (x4.isNone) ((ae (l3.set xb.toNat x4) xb).bind fun x5=>(ci qa0).bind fun o=>match o with | .inl i6=>(ae (l3.set xb.toNat x4) xb).bind fun _=>(br xb xb).bind fun _=>(ae ((l3.set xb.toNat x4).set xb.toNat none) xb).bind fun x7=>(ae ((l3.set xb.toNat x4).set xb.toNat none) xb).bind fun _=>(br xb xb).bind fun _=>(x7).bind fun y8=>(db xc y8.1 y8.2).bind fun (t9,l10)=>some ((t9,((l3.set xb.toNat x4).set xb.toNat none).set xb.toNat (some (y8.1,l10)))) | .inr (i11,i12,l13)=>(ae (l3.set xb.toNat x4) xb).bind fun _=>(br xb xb).bind fun _=>(ae ((l3.set xb.toNat x4).set xb.toNat (some (i12,l13))) xb).bind fun x14=>(ae ((l3.set xb.toNat x4).set xb.toNat (some (i12,l13))) xb).bind fun _=>(br xb xb).bind fun _=>(x14).bind fun y15=>(db xc y15.1 y15.2).bind fun (t16,l17)=>some ((t16,((l3.set xb.toNat x4).set xb.toNat (some (i12,l13))).set xb.toNat (some (y15.1,l17))))) ((ae (l3.set xb.toNat x4) xb).bind fun x18=>(ae (l3.set xb.toNat x4) xb).bind fun _=>(br xb xb).bind fun _=>(x18).bind fun y19=>(db xc y19.1 y19.2).bind fun (t20,l21)=>some ((t20,(l3.set xb.toNat x4).set xb.toNat (some (y19.1,l21))))))
def zz:Hn Tryd.prog := .cl oQ9 [] (.gp 2 (.wt 15 (.gp 6 (.tw 22 .nil (.yl 2 (.il ⟨52,_,func52,call52⟩ (.opn 8 9 (.wt 12 (.wt 1000013 (.cls 8 11 (.tw 12 (.opp [4] 8 18 (.mix [([0,1,2,3,4,5,6,7,8],9),([10,11,12,13],14)] [] [] [8] (.c2 rY [] (.cls 8 16 (.opn 8 31 (.wt 999999 (.wt 26 (.opb 19 17 (.wt 1000023 (.mc 19 0 20 (.cl mO [] (.cls 8 18 .nil))))))))) (.cls 8 20 (.opn 8 31 (.wt 999999 (.wt 26 (.opb 23 21 (.wt 1000027 (.mc 23 0 24 (.cl mO [] (.cls 8 22 .nil)))))))))))) (.opn 8 31 (.wt 999999 (.wt 26 (.opb 15 13 (.wt 1000019 (.mc 15 0 16 (.cl mO [] (.cls 8 14 .nil)))))))))))))))))))
def Ay:Spec:=⟨32,⟨[(0,.ptr 0 0),kdI 1,kdI 2],[bkN 79 [.is 1 (.dat Yq2),.od (.row 80 (.box 98 (.cons (.dat Yq2) (.one (.row 75 (.dat Yq3))))))],bkM]⟩,[⟨[kdB 0],[bkC 0 79 [.is 1 (.any),.od (.row 80 (.box 98 (.cons (.dat Yq2) (.one (.row 75 (.dat Yq3))))))],bkU 1]⟩],fun x=>fN x.1 x.2.1 x.2.2.1 x.2.2.2⟩
def yI:OkSpec Tryd.prog:=⟨Ay,ak func32 zz (by kernel_rfl) (by kernel_rfl),call32⟩

def kw (qa0:Int) (qa1:Tq1):Option ((Int×Tq1)) :=
 some ((qa0,qa1))
def zu:Hn Tryd.prog := .nil
def Aa:Spec:=⟨55,⟨[(0,.ptr 0 0)],[bkN 79 [.is 1 (.dat Yq2),.od (.row 80 (.box 98 (.cons (.dat Yq2) (.one (.row 75 (.dat Yq3))))))],bkM]⟩,[⟨[kdI 0],[bkC 0 79 [.is 1 (.any),.od (.row 80 (.box 98 (.cons (.dat Yq2) (.one (.row 75 (.dat Yq3))))))],bkU 1]⟩],fun x=>kw x.1 x.2⟩
def Aw:OkSpec Tryd.prog:=⟨Aa,ak func55 zu (by kernel_rfl) (by kernel_rfl),call55⟩

def iq (xa:Int):Option Int :=
 some (IntKind.wrap .i64 ((BitVec.ofInt (IntKind.bits .i64) (IntKind.wrap .i64 (IntKind.wrap .u64 ((IntKind.wrap .u64 ((IntKind.wrap .u64 ((IntKind.wrap .u64 ((BitVec.ofInt (IntKind.bits .u64) (IntKind.wrap .u64 ((Int.fdiv (IntKind.wrap .u64 ((IntKind.wrap .u64 ((BitVec.ofInt (IntKind.bits .u64) (Int.fdiv (IntKind.wrap .u64 ((IntKind.wrap .u64 ((BitVec.ofInt (IntKind.bits .u64) (Int.fdiv xa (2 ^ (min (Int.toNat 1) (IntKind.bits .u64)))) &&& BitVec.ofInt (IntKind.bits .u64) 6148914691236517205).toNat:Int)) + (IntKind.wrap .u64 ((BitVec.ofInt (IntKind.bits .u64) xa &&& BitVec.ofInt (IntKind.bits .u64) 6148914691236517205).toNat:Int)))) (2 ^ (min (Int.toNat 2) (IntKind.bits .u64)))) &&& BitVec.ofInt (IntKind.bits .u64) 3689348814741910323).toNat:Int)) + (IntKind.wrap .u64 ((BitVec.ofInt (IntKind.bits .u64) (IntKind.wrap .u64 ((IntKind.wrap .u64 ((BitVec.ofInt (IntKind.bits .u64) (Int.fdiv xa (2 ^ (min (Int.toNat 1) (IntKind.bits .u64)))) &&& BitVec.ofInt (IntKind.bits .u64) 6148914691236517205).toNat:Int)) + (IntKind.wrap .u64 ((BitVec.ofInt (IntKind.bits .u64) xa &&& BitVec.ofInt (IntKind.bits .u64) 6148914691236517205).toNat:Int)))) &&& BitVec.ofInt (IntKind.bits .u64) 3689348814741910323).toNat:Int)))) (2 ^ (min (Int.toNat 4) (IntKind.bits .u64)))) + (IntKind.wrap .u64 ((IntKind.wrap .u64 ((BitVec.ofInt (IntKind.bits .u64) (Int.fdiv (IntKind.wrap .u64 ((IntKind.wrap .u64 ((BitVec.ofInt (IntKind.bits .u64) (Int.fdiv xa (2 ^ (min (Int.toNat 1) (IntKind.bits .u64)))) &&& BitVec.ofInt (IntKind.bits .u64) 6148914691236517205).toNat:Int)) + (IntKind.wrap .u64 ((BitVec.ofInt (IntKind.bits .u64) xa &&& BitVec.ofInt (IntKind.bits .u64) 6148914691236517205).toNat:Int)))) (2 ^ (min (Int.toNat 2) (IntKind.bits .u64)))) &&& BitVec.ofInt (IntKind.bits .u64) 3689348814741910323).toNat:Int)) + (IntKind.wrap .u64 ((BitVec.ofInt (IntKind.bits .u64) (IntKind.wrap .u64 ((IntKind.wrap .u64 ((BitVec.ofInt (IntKind.bits .u64) (Int.fdiv xa (2 ^ (min (Int.toNat 1) (IntKind.bits .u64)))) &&& BitVec.ofInt (IntKind.bits .u64) 6148914691236517205).toNat:Int)) + (IntKind.wrap .u64 ((BitVec.ofInt (IntKind.bits .u64) xa &&& BitVec.ofInt (IntKind.bits .u64) 6148914691236517205).toNat:Int)))) &&& BitVec.ofInt (IntKind.bits .u64) 3689348814741910323).toNat:Int)))))) &&& BitVec.ofInt (IntKind.bits .u64) 1085102592571150095).toNat:Int)) + (Int.fdiv (IntKind.wrap .u64 ((BitVec.ofInt (IntKind.bits .u64) (IntKind.wrap .u64 ((Int.fdiv (IntKind.wrap .u64 ((IntKind.wrap .u64 ((BitVec.ofInt (IntKind.bits .u64) (Int.fdiv (IntKind.wrap .u64 ((IntKind.wrap .u64 ((BitVec.ofInt (IntKind.bits .u64) (Int.fdiv xa (2 ^ (min (Int.toNat 1) (IntKind.bits .u64)))) &&& BitVec.ofInt (IntKind.bits .u64) 6148914691236517205).toNat:Int)) + (IntKind.wrap .u64 ((BitVec.ofInt (IntKind.bits .u64) xa &&& BitVec.ofInt (IntKind.bits .u64) 6148914691236517205).toNat:Int)))) (2 ^ (min (Int.toNat 2) (IntKind.bits .u64)))) &&& BitVec.ofInt (IntKind.bits .u64) 3689348814741910323).toNat:Int)) + (IntKind.wrap .u64 ((BitVec.ofInt (IntKind.bits .u64) (IntKind.wrap .u64 ((IntKind.wrap .u64 ((BitVec.ofInt (IntKind.bits .u64) (Int.fdiv xa (2 ^ (min (Int.toNat 1) (IntKind.bits .u64)))) &&& BitVec.ofInt (IntKind.bits .u64) 6148914691236517205).toNat:Int)) + (IntKind.wrap .u64 ((BitVec.ofInt (IntKind.bits .u64) xa &&& BitVec.ofInt (IntKind.bits .u64) 6148914691236517205).toNat:Int)))) &&& BitVec.ofInt (IntKind.bits .u64) 3689348814741910323).toNat:Int)))) (2 ^ (min (Int.toNat 4) (IntKind.bits .u64)))) + (IntKind.wrap .u64 ((IntKind.wrap .u64 ((BitVec.ofInt (IntKind.bits .u64) (Int.fdiv (IntKind.wrap .u64 ((IntKind.wrap .u64 ((BitVec.ofInt (IntKind.bits .u64) (Int.fdiv xa (2 ^ (min (Int.toNat 1) (IntKind.bits .u64)))) &&& BitVec.ofInt (IntKind.bits .u64) 6148914691236517205).toNat:Int)) + (IntKind.wrap .u64 ((BitVec.ofInt (IntKind.bits .u64) xa &&& BitVec.ofInt (IntKind.bits .u64) 6148914691236517205).toNat:Int)))) (2 ^ (min (Int.toNat 2) (IntKind.bits .u64)))) &&& BitVec.ofInt (IntKind.bits .u64) 3689348814741910323).toNat:Int)) + (IntKind.wrap .u64 ((BitVec.ofInt (IntKind.bits .u64) (IntKind.wrap .u64 ((IntKind.wrap .u64 ((BitVec.ofInt (IntKind.bits .u64) (Int.fdiv xa (2 ^ (min (Int.toNat 1) (IntKind.bits .u64)))) &&& BitVec.ofInt (IntKind.bits .u64) 6148914691236517205).toNat:Int)) + (IntKind.wrap .u64 ((BitVec.ofInt (IntKind.bits .u64) xa &&& BitVec.ofInt (IntKind.bits .u64) 6148914691236517205).toNat:Int)))) &&& BitVec.ofInt (IntKind.bits .u64) 3689348814741910323).toNat:Int)))))) &&& BitVec.ofInt (IntKind.bits .u64) 1085102592571150095).toNat:Int)) (2 ^ (min (Int.toNat 8) (IntKind.bits .u64)))))) + (Int.fdiv (IntKind.wrap .u64 ((IntKind.wrap .u64 ((BitVec.ofInt (IntKind.bits .u64) (IntKind.wrap .u64 ((Int.fdiv (IntKind.wrap .u64 ((IntKind.wrap .u64 ((BitVec.ofInt (IntKind.bits .u64) (Int.fdiv (IntKind.wrap .u64 ((IntKind.wrap .u64 ((BitVec.ofInt (IntKind.bits .u64) (Int.fdiv xa (2 ^ (min (Int.toNat 1) (IntKind.bits .u64)))) &&& BitVec.ofInt (IntKind.bits .u64) 6148914691236517205).toNat:Int)) + (IntKind.wrap .u64 ((BitVec.ofInt (IntKind.bits .u64) xa &&& BitVec.ofInt (IntKind.bits .u64) 6148914691236517205).toNat:Int)))) (2 ^ (min (Int.toNat 2) (IntKind.bits .u64)))) &&& BitVec.ofInt (IntKind.bits .u64) 3689348814741910323).toNat:Int)) + (IntKind.wrap .u64 ((BitVec.ofInt (IntKind.bits .u64) (IntKind.wrap .u64 ((IntKind.wrap .u64 ((BitVec.ofInt (IntKind.bits .u64) (Int.fdiv xa (2 ^ (min (Int.toNat 1) (IntKind.bits .u64)))) &&& BitVec.ofInt (IntKind.bits .u64) 6148914691236517205).toNat:Int)) + (IntKind.wrap .u64 ((BitVec.ofInt (IntKind.bits .u64) xa &&& BitVec.ofInt (IntKind.bits .u64) 6148914691236517205).toNat:Int)))) &&& BitVec.ofInt (IntKind.bits .u64) 3689348814741910323).toNat:Int)))) (2 ^ (min (Int.toNat 4) (IntKind.bits .u64)))) + (IntKind.wrap .u64 ((IntKind.wrap .u64 ((BitVec.ofInt (IntKind.bits .u64) (Int.fdiv (IntKind.wrap .u64 ((IntKind.wrap .u64 ((BitVec.ofInt (IntKind.bits .u64) (Int.fdiv xa (2 ^ (min (Int.toNat 1) (IntKind.bits .u64)))) &&& BitVec.ofInt (IntKind.bits .u64) 6148914691236517205).toNat:Int)) + (IntKind.wrap .u64 ((BitVec.ofInt (IntKind.bits .u64) xa &&& BitVec.ofInt (IntKind.bits .u64) 6148914691236517205).toNat:Int)))) (2 ^ (min (Int.toNat 2) (IntKind.bits .u64)))) &&& BitVec.ofInt (IntKind.bits .u64) 3689348814741910323).toNat:Int)) + (IntKind.wrap .u64 ((BitVec.ofInt (IntKind.bits .u64) (IntKind.wrap .u64 ((IntKind.wrap .u64 ((BitVec.ofInt (IntKind.bits .u64) (Int.fdiv xa (2 ^ (min (Int.toNat 1) (IntKind.bits .u64)))) &&& BitVec.ofInt (IntKind.bits .u64) 6148914691236517205).toNat:Int)) + (IntKind.wrap .u64 ((BitVec.ofInt (IntKind.bits .u64) xa &&& BitVec.ofInt (IntKind.bits .u64) 6148914691236517205).toNat:Int)))) &&& BitVec.ofInt (IntKind.bits .u64) 3689348814741910323).toNat:Int)))))) &&& BitVec.ofInt (IntKind.bits .u64) 1085102592571150095).toNat:Int)) + (Int.fdiv (IntKind.wrap .u64 ((BitVec.ofInt (IntKind.bits .u64) (IntKind.wrap .u64 ((Int.fdiv (IntKind.wrap .u64 ((IntKind.wrap .u64 ((BitVec.ofInt (IntKind.bits .u64) (Int.fdiv (IntKind.wrap .u64 ((IntKind.wrap .u64 ((BitVec.ofInt (IntKind.bits .u64) (Int.fdiv xa (2 ^ (min (Int.toNat 1) (IntKind.bits .u64)))) &&& BitVec.ofInt (IntKind.bits .u64) 6148914691236517205).toNat:Int)) + (IntKind.wrap .u64 ((BitVec.ofInt (IntKind.bits .u64) xa &&& BitVec.ofInt (IntKind.bits .u64) 6148914691236517205).toNat:Int)))) (2 ^ (min (Int.toNat 2) (IntKind.bits .u64)))) &&& BitVec.ofInt (IntKind.bits .u64) 3689348814741910323).toNat:Int)) + (IntKind.wrap .u64 ((BitVec.ofInt (IntKind.bits .u64) (IntKind.wrap .u64 ((IntKind.wrap .u64 ((BitVec.ofInt (IntKind.bits .u64) (Int.fdiv xa (2 ^ (min (Int.toNat 1) (IntKind.bits .u64)))) &&& BitVec.ofInt (IntKind.bits .u64) 6148914691236517205).toNat:Int)) + (IntKind.wrap .u64 ((BitVec.ofInt (IntKind.bits .u64) xa &&& BitVec.ofInt (IntKind.bits .u64) 6148914691236517205).toNat:Int)))) &&& BitVec.ofInt (IntKind.bits .u64) 3689348814741910323).toNat:Int)))) (2 ^ (min (Int.toNat 4) (IntKind.bits .u64)))) + (IntKind.wrap .u64 ((IntKind.wrap .u64 ((BitVec.ofInt (IntKind.bits .u64) (Int.fdiv (IntKind.wrap .u64 ((IntKind.wrap .u64 ((BitVec.ofInt (IntKind.bits .u64) (Int.fdiv xa (2 ^ (min (Int.toNat 1) (IntKind.bits .u64)))) &&& BitVec.ofInt (IntKind.bits .u64) 6148914691236517205).toNat:Int)) + (IntKind.wrap .u64 ((BitVec.ofInt (IntKind.bits .u64) xa &&& BitVec.ofInt (IntKind.bits .u64) 6148914691236517205).toNat:Int)))) (2 ^ (min (Int.toNat 2) (IntKind.bits .u64)))) &&& BitVec.ofInt (IntKind.bits .u64) 3689348814741910323).toNat:Int)) + (IntKind.wrap .u64 ((BitVec.ofInt (IntKind.bits .u64) (IntKind.wrap .u64 ((IntKind.wrap .u64 ((BitVec.ofInt (IntKind.bits .u64) (Int.fdiv xa (2 ^ (min (Int.toNat 1) (IntKind.bits .u64)))) &&& BitVec.ofInt (IntKind.bits .u64) 6148914691236517205).toNat:Int)) + (IntKind.wrap .u64 ((BitVec.ofInt (IntKind.bits .u64) xa &&& BitVec.ofInt (IntKind.bits .u64) 6148914691236517205).toNat:Int)))) &&& BitVec.ofInt (IntKind.bits .u64) 3689348814741910323).toNat:Int)))))) &&& BitVec.ofInt (IntKind.bits .u64) 1085102592571150095).toNat:Int)) (2 ^ (min (Int.toNat 8) (IntKind.bits .u64)))))) (2 ^ (min (Int.toNat 16) (IntKind.bits .u64)))))) + (Int.fdiv (IntKind.wrap .u64 ((IntKind.wrap .u64 ((IntKind.wrap .u64 ((BitVec.ofInt (IntKind.bits .u64) (IntKind.wrap .u64 ((Int.fdiv (IntKind.wrap .u64 ((IntKind.wrap .u64 ((BitVec.ofInt (IntKind.bits .u64) (Int.fdiv (IntKind.wrap .u64 ((IntKind.wrap .u64 ((BitVec.ofInt (IntKind.bits .u64) (Int.fdiv xa (2 ^ (min (Int.toNat 1) (IntKind.bits .u64)))) &&& BitVec.ofInt (IntKind.bits .u64) 6148914691236517205).toNat:Int)) + (IntKind.wrap .u64 ((BitVec.ofInt (IntKind.bits .u64) xa &&& BitVec.ofInt (IntKind.bits .u64) 6148914691236517205).toNat:Int)))) (2 ^ (min (Int.toNat 2) (IntKind.bits .u64)))) &&& BitVec.ofInt (IntKind.bits .u64) 3689348814741910323).toNat:Int)) + (IntKind.wrap .u64 ((BitVec.ofInt (IntKind.bits .u64) (IntKind.wrap .u64 ((IntKind.wrap .u64 ((BitVec.ofInt (IntKind.bits .u64) (Int.fdiv xa (2 ^ (min (Int.toNat 1) (IntKind.bits .u64)))) &&& BitVec.ofInt (IntKind.bits .u64) 6148914691236517205).toNat:Int)) + (IntKind.wrap .u64 ((BitVec.ofInt (IntKind.bits .u64) xa &&& BitVec.ofInt (IntKind.bits .u64) 6148914691236517205).toNat:Int)))) &&& BitVec.ofInt (IntKind.bits .u64) 3689348814741910323).toNat:Int)))) (2 ^ (min (Int.toNat 4) (IntKind.bits .u64)))) + (IntKind.wrap .u64 ((IntKind.wrap .u64 ((BitVec.ofInt (IntKind.bits .u64) (Int.fdiv (IntKind.wrap .u64 ((IntKind.wrap .u64 ((BitVec.ofInt (IntKind.bits .u64) (Int.fdiv xa (2 ^ (min (Int.toNat 1) (IntKind.bits .u64)))) &&& BitVec.ofInt (IntKind.bits .u64) 6148914691236517205).toNat:Int)) + (IntKind.wrap .u64 ((BitVec.ofInt (IntKind.bits .u64) xa &&& BitVec.ofInt (IntKind.bits .u64) 6148914691236517205).toNat:Int)))) (2 ^ (min (Int.toNat 2) (IntKind.bits .u64)))) &&& BitVec.ofInt (IntKind.bits .u64) 3689348814741910323).toNat:Int)) + (IntKind.wrap .u64 ((BitVec.ofInt (IntKind.bits .u64) (IntKind.wrap .u64 ((IntKind.wrap .u64 ((BitVec.ofInt (IntKind.bits .u64) (Int.fdiv xa (2 ^ (min (Int.toNat 1) (IntKind.bits .u64)))) &&& BitVec.ofInt (IntKind.bits .u64) 6148914691236517205).toNat:Int)) + (IntKind.wrap .u64 ((BitVec.ofInt (IntKind.bits .u64) xa &&& BitVec.ofInt (IntKind.bits .u64) 6148914691236517205).toNat:Int)))) &&& BitVec.ofInt (IntKind.bits .u64) 3689348814741910323).toNat:Int)))))) &&& BitVec.ofInt (IntKind.bits .u64) 1085102592571150095).toNat:Int)) + (Int.fdiv (IntKind.wrap .u64 ((BitVec.ofInt (IntKind.bits .u64) (IntKind.wrap .u64 ((Int.fdiv (IntKind.wrap .u64 ((IntKind.wrap .u64 ((BitVec.ofInt (IntKind.bits .u64) (Int.fdiv (IntKind.wrap .u64 ((IntKind.wrap .u64 ((BitVec.ofInt (IntKind.bits .u64) (Int.fdiv xa (2 ^ (min (Int.toNat 1) (IntKind.bits .u64)))) &&& BitVec.ofInt (IntKind.bits .u64) 6148914691236517205).toNat:Int)) + (IntKind.wrap .u64 ((BitVec.ofInt (IntKind.bits .u64) xa &&& BitVec.ofInt (IntKind.bits .u64) 6148914691236517205).toNat:Int)))) (2 ^ (min (Int.toNat 2) (IntKind.bits .u64)))) &&& BitVec.ofInt (IntKind.bits .u64) 3689348814741910323).toNat:Int)) + (IntKind.wrap .u64 ((BitVec.ofInt (IntKind.bits .u64) (IntKind.wrap .u64 ((IntKind.wrap .u64 ((BitVec.ofInt (IntKind.bits .u64) (Int.fdiv xa (2 ^ (min (Int.toNat 1) (IntKind.bits .u64)))) &&& BitVec.ofInt (IntKind.bits .u64) 6148914691236517205).toNat:Int)) + (IntKind.wrap .u64 ((BitVec.ofInt (IntKind.bits .u64) xa &&& BitVec.ofInt (IntKind.bits .u64) 6148914691236517205).toNat:Int)))) &&& BitVec.ofInt (IntKind.bits .u64) 3689348814741910323).toNat:Int)))) (2 ^ (min (Int.toNat 4) (IntKind.bits .u64)))) + (IntKind.wrap .u64 ((IntKind.wrap .u64 ((BitVec.ofInt (IntKind.bits .u64) (Int.fdiv (IntKind.wrap .u64 ((IntKind.wrap .u64 ((BitVec.ofInt (IntKind.bits .u64) (Int.fdiv xa (2 ^ (min (Int.toNat 1) (IntKind.bits .u64)))) &&& BitVec.ofInt (IntKind.bits .u64) 6148914691236517205).toNat:Int)) + (IntKind.wrap .u64 ((BitVec.ofInt (IntKind.bits .u64) xa &&& BitVec.ofInt (IntKind.bits .u64) 6148914691236517205).toNat:Int)))) (2 ^ (min (Int.toNat 2) (IntKind.bits .u64)))) &&& BitVec.ofInt (IntKind.bits .u64) 3689348814741910323).toNat:Int)) + (IntKind.wrap .u64 ((BitVec.ofInt (IntKind.bits .u64) (IntKind.wrap .u64 ((IntKind.wrap .u64 ((BitVec.ofInt (IntKind.bits .u64) (Int.fdiv xa (2 ^ (min (Int.toNat 1) (IntKind.bits .u64)))) &&& BitVec.ofInt (IntKind.bits .u64) 6148914691236517205).toNat:Int)) + (IntKind.wrap .u64 ((BitVec.ofInt (IntKind.bits .u64) xa &&& BitVec.ofInt (IntKind.bits .u64) 6148914691236517205).toNat:Int)))) &&& BitVec.ofInt (IntKind.bits .u64) 3689348814741910323).toNat:Int)))))) &&& BitVec.ofInt (IntKind.bits .u64) 1085102592571150095).toNat:Int)) (2 ^ (min (Int.toNat 8) (IntKind.bits .u64)))))) + (Int.fdiv (IntKind.wrap .u64 ((IntKind.wrap .u64 ((BitVec.ofInt (IntKind.bits .u64) (IntKind.wrap .u64 ((Int.fdiv (IntKind.wrap .u64 ((IntKind.wrap .u64 ((BitVec.ofInt (IntKind.bits .u64) (Int.fdiv (IntKind.wrap .u64 ((IntKind.wrap .u64 ((BitVec.ofInt (IntKind.bits .u64) (Int.fdiv xa (2 ^ (min (Int.toNat 1) (IntKind.bits .u64)))) &&& BitVec.ofInt (IntKind.bits .u64) 6148914691236517205).toNat:Int)) + (IntKind.wrap .u64 ((BitVec.ofInt (IntKind.bits .u64) xa &&& BitVec.ofInt (IntKind.bits .u64) 6148914691236517205).toNat:Int)))) (2 ^ (min (Int.toNat 2) (IntKind.bits .u64)))) &&& BitVec.ofInt (IntKind.bits .u64) 3689348814741910323).toNat:Int)) + (IntKind.wrap .u64 ((BitVec.ofInt (IntKind.bits .u64) (IntKind.wrap .u64 ((IntKind.wrap .u64 ((BitVec.ofInt (IntKind.bits .u64) (Int.fdiv xa (2 ^ (min (Int.toNat 1) (IntKind.bits .u64)))) &&& BitVec.ofInt (IntKind.bits .u64) 6148914691236517205).toNat:Int)) + (IntKind.wrap .u64 ((BitVec.ofInt (IntKind.bits .u64) xa &&& BitVec.ofInt (IntKind.bits .u64) 6148914691236517205).toNat:Int)))) &&& BitVec.ofInt (IntKind.bits .u64) 3689348814741910323).toNat:Int)))) (2 ^ (min (Int.toNat 4) (IntKind.bits .u64)))) + (IntKind.wrap .u64 ((IntKind.wrap .u64 ((BitVec.ofInt (IntKind.bits .u64) (Int.fdiv (IntKind.wrap .u64 ((IntKind.wrap .u64 ((BitVec.ofInt (IntKind.bits .u64) (Int.fdiv xa (2 ^ (min (Int.toNat 1) (IntKind.bits .u64)))) &&& BitVec.ofInt (IntKind.bits .u64) 6148914691236517205).toNat:Int)) + (IntKind.wrap .u64 ((BitVec.ofInt (IntKind.bits .u64) xa &&& BitVec.ofInt (IntKind.bits .u64) 6148914691236517205).toNat:Int)))) (2 ^ (min (Int.toNat 2) (IntKind.bits .u64)))) &&& BitVec.ofInt (IntKind.bits .u64) 3689348814741910323).toNat:Int)) + (IntKind.wrap .u64 ((BitVec.ofInt (IntKind.bits .u64) (IntKind.wrap .u64 ((IntKind.wrap .u64 ((BitVec.ofInt (IntKind.bits .u64) (Int.fdiv xa (2 ^ (min (Int.toNat 1) (IntKind.bits .u64)))) &&& BitVec.ofInt (IntKind.bits .u64) 6148914691236517205).toNat:Int)) + (IntKind.wrap .u64 ((BitVec.ofInt (IntKind.bits .u64) xa &&& BitVec.ofInt (IntKind.bits .u64) 6148914691236517205).toNat:Int)))) &&& BitVec.ofInt (IntKind.bits .u64) 3689348814741910323).toNat:Int)))))) &&& BitVec.ofInt (IntKind.bits .u64) 1085102592571150095).toNat:Int)) + (Int.fdiv (IntKind.wrap .u64 ((BitVec.ofInt (IntKind.bits .u64) (IntKind.wrap .u64 ((Int.fdiv (IntKind.wrap .u64 ((IntKind.wrap .u64 ((BitVec.ofInt (IntKind.bits .u64) (Int.fdiv (IntKind.wrap .u64 ((IntKind.wrap .u64 ((BitVec.ofInt (IntKind.bits .u64) (Int.fdiv xa (2 ^ (min (Int.toNat 1) (IntKind.bits .u64)))) &&& BitVec.ofInt (IntKind.bits .u64) 6148914691236517205).toNat:Int)) + (IntKind.wrap .u64 ((BitVec.ofInt (IntKind.bits .u64) xa &&& BitVec.ofInt (IntKind.bits .u64) 6148914691236517205).toNat:Int)))) (2 ^ (min (Int.toNat 2) (IntKind.bits .u64)))) &&& BitVec.ofInt (IntKind.bits .u64) 3689348814741910323).toNat:Int)) + (IntKind.wrap .u64 ((BitVec.ofInt (IntKind.bits .u64) (IntKind.wrap .u64 ((IntKind.wrap .u64 ((BitVec.ofInt (IntKind.bits .u64) (Int.fdiv xa (2 ^ (min (Int.toNat 1) (IntKind.bits .u64)))) &&& BitVec.ofInt (IntKind.bits .u64) 6148914691236517205).toNat:Int)) + (IntKind.wrap .u64 ((BitVec.ofInt (IntKind.bits .u64) xa &&& BitVec.ofInt (IntKind.bits .u64) 6148914691236517205).toNat:Int)))) &&& BitVec.ofInt (IntKind.bits .u64) 3689348814741910323).toNat:Int)))) (2 ^ (min (Int.toNat 4) (IntKind.bits .u64)))) + (IntKind.wrap .u64 ((IntKind.wrap .u64 ((BitVec.ofInt (IntKind.bits .u64) (Int.fdiv (IntKind.wrap .u64 ((IntKind.wrap .u64 ((BitVec.ofInt (IntKind.bits .u64) (Int.fdiv xa (2 ^ (min (Int.toNat 1) (IntKind.bits .u64)))) &&& BitVec.ofInt (IntKind.bits .u64) 6148914691236517205).toNat:Int)) + (IntKind.wrap .u64 ((BitVec.ofInt (IntKind.bits .u64) xa &&& BitVec.ofInt (IntKind.bits .u64) 6148914691236517205).toNat:Int)))) (2 ^ (min (Int.toNat 2) (IntKind.bits .u64)))) &&& BitVec.ofInt (IntKind.bits .u64) 3689348814741910323).toNat:Int)) + (IntKind.wrap .u64 ((BitVec.ofInt (IntKind.bits .u64) (IntKind.wrap .u64 ((IntKind.wrap .u64 ((BitVec.ofInt (IntKind.bits .u64) (Int.fdiv xa (2 ^ (min (Int.toNat 1) (IntKind.bits .u64)))) &&& BitVec.ofInt (IntKind.bits .u64) 6148914691236517205).toNat:Int)) + (IntKind.wrap .u64 ((BitVec.ofInt (IntKind.bits .u64) xa &&& BitVec.ofInt (IntKind.bits .u64) 6148914691236517205).toNat:Int)))) &&& BitVec.ofInt (IntKind.bits .u64) 3689348814741910323).toNat:Int)))))) &&& BitVec.ofInt (IntKind.bits .u64) 1085102592571150095).toNat:Int)) (2 ^ (min (Int.toNat 8) (IntKind.bits .u64)))))) (2 ^ (min (Int.toNat 16) (IntKind.bits .u64)))))) (2 ^ (min (Int.toNat 32) (IntKind.bits .u64))))))) &&& BitVec.ofInt (IntKind.bits .i64) 127).toNat:Int))
def yP:Hn Tryd.prog := .nil
def Ak:Spec:=⟨88,⟨[(0,.dat Yq3)],[]⟩,[⟨[kdI 0],[]⟩],fun x=>iq x⟩
def yY:OkSpec Tryd.prog:=⟨Ak,ak func88 yP (by kernel_rfl) (by kernel_rfl),call88⟩
def fS (y1:(Int×(List Int))):Tq7→Option (Tq7⊕Int):=fun (i2,i3)=>cond (decide (i3 < (y1.2.length:Int))) ((ae y1.2 i3).bind fun x4=>(iq x4).bind fun i5=>some (.inl ((IntKind.wrap .i64 (i2 + i5),IntKind.wrap .i64 (i3 + 1))))) (some (.inr (i2)))
def eB (xa:(Option (Int×(List Int)))):Option Int :=
 cond (xa.isNone) (some (0)) (xa.bind fun y1=>(loop (fS y1) (0,0)).bind fun i2=>some (i2))
def zd:Hn Tryd.prog := .tw 7 .nil (.jn [] ⟨[kdI 3],[]⟩ [] (.lp ⟨[kdI 3,kdI 13],[]⟩ (.tw 14 (.cl yY [] .nil) .nil)) .nil)
def zL:Spec:=⟨78,⟨[(0,.dat Yq4)],[]⟩,[⟨[kdI 0],[]⟩],fun x=>eB x⟩
def y9:OkSpec Tryd.prog:=⟨zL,ak func78 zd (by kernel_rfl) (by kernel_rfl),call78⟩
def ig (i1:Int):(Int×Int×Tq1)→Option ((Int×Int×Tq1)⊕(Int×Tq1)):=fun (i2,i3,l4)=>cond (decide (i3 < i1)) ((ae l4 i3).bind fun x5=>(ae l4 i3).bind fun _=>(br i3 i3).bind fun _=>(eB x5).bind fun i6=>some (.inl ((IntKind.wrap .i64 (i2 + i6),IntKind.wrap .i64 (i3 + 1),l4.set i3.toNat x5)))) (some (.inr (((i2,l4)))))
def fP (qa0:Int) (qa1:Tq1):Option ((Int×Tq1)) :=
 (cE qa0 qa1).bind fun (i2,l3)=>(loop (ig i2) (0,0,l3)).bind fun (i4,l5)=>some ((i4,l5))
def AB:Hn Tryd.prog := .cl oQ8 [] (.jn [] ⟨[kdI 3],[bkO 8 (.row 80 (.box 98 (.cons (.dat Yq2) (.one (.row 75 (.dat Yq3))))))]⟩ [8] (.lp ⟨[kdI 3,kdI 7],[bkO 8 (.row 80 (.box 98 (.cons (.dat Yq2) (.one (.row 75 (.dat Yq3))))))]⟩ (.tw 8 (.opn 8 15 (.cl y9 [13] (.cls 8 12 .nil))) .nil)) .nil)
def Ah:Spec:=⟨56,⟨[(0,.ptr 0 0)],[bkN 79 [.is 1 (.dat Yq2),.od (.row 80 (.box 98 (.cons (.dat Yq2) (.one (.row 75 (.dat Yq3))))))],bkM]⟩,[⟨[kdI 0],[bkC 0 79 [.is 1 (.any),.od (.row 80 (.box 98 (.cons (.dat Yq2) (.one (.row 75 (.dat Yq3))))))],bkU 1]⟩],fun x=>fP x.1 x.2⟩
def se:OkSpec Tryd.prog:=⟨Ah,ak func56 AB (by kernel_rfl) (by kernel_rfl),call56⟩
def eA (y1:(Int×(List Int))):Tq7→Option (Tq7⊕(Tq7⊕Int)):=fun (i2,i3)=>cond (decide (i3=0)) (cond (decide ((IntKind.wrap .i64 (i2 + 1))=(y1.2.length:Int))) (some (.inr ((.inr ((-1)))))) ((ae y1.2 (IntKind.wrap .i64 (i2 + 1))).bind fun x4=>some (.inl ((IntKind.wrap .i64 (i2 + 1),x4))))) (some (.inr ((.inl (i2,i3)))))
def cF (xa:(Option (Int×(List Int)))) (xb:Int):Option Int :=
 (dd xa (if xb < 0 then 0 else xb)).bind fun t1=>cond (!t1) (some ((-1))) (xa.bind fun y2=>(ae y2.2 (IntKind.wrap .i64 (Int.tdiv (if xb < 0 then 0 else xb) 64))).bind fun x3=>(ge0 (Int.tmod (if xb < 0 then 0 else xb) 64)).bind fun u4=>(ge0 (Int.tmod (if xb < 0 then 0 else xb) 64)).bind fun u5=>(loop (eA y2) ((IntKind.wrap .i64 (Int.tdiv (if xb < 0 then 0 else xb) 64),IntKind.wrap .u64 ((Int.fdiv x3 (2 ^ (min (Int.toNat (Int.tmod (if xb < 0 then 0 else xb) 64)) (IntKind.bits .u64)))) * 2 ^ (min (Int.toNat (Int.tmod (if xb < 0 then 0 else xb) 64)) (IntKind.bits .u64)))))).bind fun o=>match o with | .inr r=>some r | .inl (i6,i7)=>(tzF i7).bind fun i8=>some (IntKind.wrap .i64 ((IntKind.wrap .i64 (i6 * 64)) + i8)))
def zb:Hn Tryd.prog := .ms 0 (.cl mS [] (.tw 12 .nil (.jx [] ⟨[kdI 5,(6,.dat Yq3)],[]⟩ [] (.lp ⟨[kdI 5,(6,.dat Yq3)],[]⟩ (.tw 29 (.tw 38 .nil .nil) .nil)) (.cl ye [] .nil))))
def zx:Spec:=⟨90,⟨[(0,.dat Yq4),kdI 1],[]⟩,[⟨[kdI 0],[]⟩],fun x=>cF x.1 x.2⟩
def na:OkSpec Tryd.prog:=⟨zx,ak func90 zb (by kernel_rfl) (by kernel_rfl),call90⟩
def kv (qb1:(List Int)):(Bool×Int×(List Int))→Option ((Bool×Int×(List Int))⊕(Bool×(List Int))):=fun (t2,i3,l4)=>cond (decide (i3 < (qb1.length:Int))) ((ae qb1 i3).bind fun x5=>(ae l4 i3).bind fun x6=>cond (!decide ((IntKind.wrap .u64 ((BitVec.ofInt (IntKind.bits .u64) x5 &&& ~~~BitVec.ofInt (IntKind.bits .u64) x6).toNat:Int))=0)) ((ae l4 i3).bind fun x7=>(ae l4 i3).bind fun x8=>(some (l4.set i3.toNat (IntKind.wrap .u64 ((BitVec.ofInt (IntKind.bits .u64) x7 ||| BitVec.ofInt (IntKind.bits .u64) x5).toNat:Int)))).bind fun z9=>some (.inl ((true,IntKind.wrap .i64 (i3 + 1),z9)))) (some (.inl ((t2,IntKind.wrap .i64 (i3 + 1),l4))))) (some (.inr (((t2,l4)))))
def bB (qa0:Int) (qa1:(List Int)) (qb0:Int) (qb1:(List Int)):Option ((Bool×(List Int)×(List Int))) :=
 cond (!decide (qa0=qb0)) (some ((false,qa1,qb1))) ((loop (kv qb1) (false,0,qa1)).bind fun (t2,l3)=>some ((t2,l3,qb1)))
def Ap:Hn Tryd.prog := .mix [] [0,1,2,3,4,5,6,7,8,9,10,11,12,13,14,15,16] [] [] (.tw 24 .nil (.jn [] ⟨[kdB 5],[bkC 0 98 [.is 1 (.any),.own 75 Yq3],bkU 2]⟩ [4,0] (.lp ⟨[kdB 5,kdI 30],[bkC 0 98 [.is 1 (.any),.own 75 Yq3],bkU 2]⟩ (.tw 31 (.tw 44 .nil .nil) .nil)) .nil))
def g9:Spec:=⟨91,⟨[(0,.ptr 0 0),(1,.ptr 1 0)],[bkN 98 [.is 2 (.dat Yq2),.own 75 Yq3],bkN 98 [.is 3 (.dat Yq2),.own 75 Yq3],bkM,bkM]⟩,[⟨[kdB 0],[bkC 0 98 [.is 2 (.any),.own 75 Yq3],bkC 1 98 [.is 3 (.any),.own 75 Yq3],bkU 2,bkU 3]⟩],fun x=>bB x.1 x.2.1 x.2.2.1 x.2.2.2⟩
theorem sA:aV Tryd.prog g9:=ak func91 Ap (by kernel_rfl) (by kernel_rfl)
def ip (qa1:(List Int)):(Bool×(List Int)×Int)→Option ((Bool×(List Int)×Int)⊕(Bool×(List Int))):=fun (t2,l3,i4)=>cond (decide (i4 < (qa1.length:Int))) ((ae l3 i4).bind fun x5=>(ae l3 i4).bind fun x6=>cond (!decide ((IntKind.wrap .u64 ((BitVec.ofInt (IntKind.bits .u64) x5 &&& ~~~BitVec.ofInt (IntKind.bits .u64) x6).toNat:Int))=0)) ((ae l3 i4).bind fun x7=>(ae l3 i4).bind fun x8=>(some (l3.set i4.toNat (IntKind.wrap .u64 ((BitVec.ofInt (IntKind.bits .u64) x7 ||| BitVec.ofInt (IntKind.bits .u64) x5).toNat:Int)))).bind fun z9=>some (.inl ((true,z9,IntKind.wrap .i64 (i4 + 1))))) (some (.inl ((t2,l3,IntKind.wrap .i64 (i4 + 1)))))) (some (.inr (((t2,l3)))))
def fQ (qa0:Int) (qa1:(List Int)):Option ((Bool×(List Int))) :=
 cond (!decide (qa0=qa0)) (some ((false,qa1))) ((loop (ip qa1) (false,qa1,0)).bind fun (t2,l3)=>some ((t2,l3)))
def yG:Hn Tryd.prog := .mix [] [0,1,2,3,4,5,6,7,8,9,10,11,12,13,14,15,16] [] [] (.tw 24 .nil (.jn [] ⟨[kdB 5,(28,.any)],[bkC 0 98 [.is 1 (.any),.own 75 Yq3],bkU 1]⟩ [2,0] (.lp ⟨[kdB 5,(28,.own 75 Yq3),kdI 30],[bkC 0 98 [.is 1 (.any),.al 0],bkU 1]⟩ (.tw 31 (.tw 44 .nil .nil) .nil)) .nil))
def hY:Spec:=⟨91,⟨[(0,.ptr 0 0),(1,.ptr 0 0)],[bkN 98 [.is 1 (.dat Yq2),.own 75 Yq3],bkM]⟩,[⟨[kdB 0],[bkC 0 98 [.is 1 (.any),.own 75 Yq3],bkU 1]⟩],fun x=>fQ x.1 x.2⟩
theorem sB:aV Tryd.prog hY:=ak func91 yG (by kernel_rfl) (by kernel_rfl)
end
section
section
variable (bm g n cap:Nat) (cols:Int) (w:World)
theorem xg {ad:Option Addr} (hc:w.cell? ⟨bm,1,none⟩=some (.slice ad n cap)) :
   Calls Tryd.prog 54 #[.pointer (some ⟨bm,0,none⟩)] w fun e w'=>e = .returned (.int .i64 (n:Int))∧w'=w:=by
 go_enter Tryd.func54,Tryd.ntmps54
 go_wp2
 go_ret; exact ⟨rfl,rfl⟩
theorem jb {ad:Option Addr} (hc:w.cell? ⟨bm,1,none⟩=some (.slice ad n cap)) (r:Int) :
   Calls Tryd.prog 51 #[.pointer (some ⟨bm,0,none⟩),.int .i64 r] w fun e w'=>e = .returned (.bool (decide (0≤r)&&decide (r < (n:Int))))∧w'=w:=by
 by_cases h0:0≤r
 . have h0':decide (0≤r)=true:=by simpa using h0
   go_enter Tryd.func51,Tryd.ntmps51
   go_wp2_with (first | (go_at_call 54; refine (xg bm n cap w hc).mono ?_; rintro e w' ⟨rfl,rfl⟩))
   all_goals (go_ret; simp [h0'])
 . have h0':decide (0≤r)=false:=by simpa using h0
   go_enter Tryd.func51,Tryd.ntmps51
   go_wp2
   all_goals (go_ret; simp [h0'])
theorem uj {ad:Option Addr} (hc:w.cell? ⟨bm,1,none⟩=some (.slice ad n cap)) (r:Int) (hr:¬ (0≤r∧r < (n:Int))) :
   Calls Tryd.prog 79 #[.pointer (some ⟨bm,0,none⟩),.int .i64 r] w fun e w'=>e = .returned (.pointer none)∧w'=w:=by
 have hb:(decide (0≤r)&&decide (r < (n:Int)))=false:=by simpa using hr
 go_enter Tryd.func79,Tryd.ntmps79
 go_wp2_with (first | (go_at_call 51; refine (jb bm n cap w hc r).mono ?_; rintro e w' ⟨rfl,rfl⟩; rw [hb]))
 go_ret; exact ⟨rfl,rfl⟩
theorem jP {r:Nat} (hc:w.cell? ⟨bm,1,none⟩=some (.slice (some ⟨g,0,none⟩) n cap)) (hr:r < n) {p:Option Addr} (hv:w.cell? ⟨g,r,none⟩=some (.pointer p)) :
   Calls Tryd.prog 79 #[.pointer (some ⟨bm,0,none⟩),.int .i64 (r:Int)] w fun e w'=>e = .returned (.pointer p)∧w'=w:=by
 have hb:(decide (0≤(r:Int))&&decide ((r:Int) < (n:Int)))=true:=by simp; omega
 have h1:(0:Int)≤(r:Int):=Int.natCast_nonneg r
 have h2:(r:Int) < (n:Int):=by omega
 go_enter Tryd.func79,Tryd.ntmps79
 go_wp2_with (first | (go_at_call 51; refine (jb bm n cap w hc r).mono ?_; rintro e w' ⟨rfl,rfl⟩; rw [hb]))
 all_goals (go_ret; exact ⟨rfl,rfl⟩)
theorem nO {r:Nat} (hc:w.cell? ⟨bm,1,none⟩=some (.slice (some ⟨g,0,none⟩) n cap)) (hr:r < n) {p:Addr} (hv:w.cell? ⟨g,r,none⟩=some (.pointer (some p))) :
   Calls Tryd.prog 52 #[.pointer (some ⟨bm,0,none⟩),.int .i64 (r:Int)] w fun e w'=>e = .returned (.pointer (some p))∧w'=w:=by
 have h1:(0:Int)≤(r:Int):=Int.natCast_nonneg r
 have h2:(r:Int) < (n:Int):=by omega
 go_enter Tryd.func52,Tryd.ntmps52
 go_wp2
 all_goals (go_ret; exact ⟨rfl,rfl⟩)
theorem tv {r:Nat} (hc:w.cell? ⟨bm,1,none⟩=some (.slice (some ⟨g,0,none⟩) n cap)) (h0:w.cell? ⟨bm,0,none⟩=some (.int .i64 cols)) (hr:r < n) (hv:w.cell? ⟨g,r,none⟩=some (.pointer none)) {Q:Addr→World→Prop}
   (hnew:Calls Tryd.prog 75 #[.int .i64 cols] w.drew fun e w1=>∃ p,e = .returned (.tuple #[.pointer (some p),.int .i64 0])∧w1.cell? ⟨bm,1,none⟩=some (.slice (some ⟨g,0,none⟩) n cap)∧w1.cell? ⟨g,r,none⟩=some (.pointer none)∧w1.frozen? ⟨g,r,none⟩=false∧(w1.setCell ⟨g,r,none⟩ (.pointer (some p))).cell? ⟨bm,1,none⟩=some (.slice (some ⟨g,0,none⟩) n cap)∧(w1.setCell ⟨g,r,none⟩ (.pointer (some p))).cell? ⟨g,r,none⟩=some (.pointer (some p))∧Q p (w1.setCell ⟨g,r,none⟩ (.pointer (some p)))) :
   Calls Tryd.prog 52 #[.pointer (some ⟨bm,0,none⟩),.int .i64 (r:Int)] w fun e w'=>∃ p,e = .returned (.pointer (some p))∧Q p w':=by
 have h1:(0:Int)≤(r:Int):=Int.natCast_nonneg r
 have h2:(r:Int) < (n:Int):=by omega
 go_enter Tryd.func52,Tryd.ntmps52
 go_wp2
 go_region_with (first | (go_at_call 75; refine hnew.mono ?_; rintro e w1 ⟨p,rfl,k1,k2,k3,k4,k5,k6⟩))
 all_goals go_wp2
 all_goals (go_ret; exact ⟨_,rfl,k6⟩)
theorem kW {ad:Option Addr} (hc:w.cell? ⟨bm,1,none⟩=some (.slice ad n cap)) (r k:Int) (hr:0≤r∧r < (n:Int))
   (hrow:Calls Tryd.prog 79 #[.pointer (some ⟨bm,0,none⟩),.int .i64 k] w fun e w'=>e = .returned (.pointer none)∧w'=w) :
   Calls Tryd.prog 81 #[.pointer (some ⟨bm,0,none⟩),.int .i64 r,.int .i64 k] w fun e w'=>e = .returned (.bool false)∧w'=w:=by
 have hb:(decide (0≤r)&&decide (r < (n:Int)))=true:=by simpa using hr
 go_enter Tryd.func81,Tryd.ntmps81
 go_wp2_with (first | (go_at_call 51; refine (jb bm n cap w hc r).mono ?_; rintro e w' ⟨rfl,rfl⟩; rw [hb]) | (go_at_call 79; refine hrow.mono ?_; rintro e w' ⟨rfl,rfl⟩))
 all_goals (go_ret; exact ⟨rfl,rfl⟩)
theorem mI {r k:Nat} (hc:w.cell? ⟨bm,1,none⟩=some (.slice (some ⟨g,0,none⟩) n cap)) (hr:r < n) (hk:k < n) {q:Addr} (hv:w.cell? ⟨g,k,none⟩=some (.pointer (some q))) {Q:Bool→World→Prop}
   (hmade:Calls Tryd.prog 52 #[.pointer (some ⟨bm,0,none⟩),.int .i64 (r:Int)] w.drew fun e w1=>∃ p,e = .returned (.pointer (some p))∧w1.cell? ⟨bm,1,none⟩=some (.slice (some ⟨g,0,none⟩) n cap)∧w1.cell? ⟨g,k,none⟩=some (.pointer (some q)) ∧
     Calls Tryd.prog 91 #[.pointer (some p),.pointer (some q)] w1 fun e w2=>∃ b,e = .returned (.bool b)∧Q b w2) :
   Calls Tryd.prog 81 #[.pointer (some ⟨bm,0,none⟩),.int .i64 (r:Int),.int .i64 (k:Int)] w fun e w2=>∃ b,e = .returned (.bool b)∧Q b w2:=by
 have hb:(decide (0≤(r:Int))&&decide ((r:Int) < (n:Int)))=true:=by simp; omega
 have h1:(0:Int)≤(k:Int):=Int.natCast_nonneg k
 have h2:(k:Int) < (n:Int):=by omega
 have hrow:=jP bm g n cap w hc hk hv
 go_enter Tryd.func81,Tryd.ntmps81
 go_wp2_with (first | (go_at_call 51; refine (jb bm n cap w hc r).mono ?_; rintro e w' ⟨rfl,rfl⟩; rw [hb]) | (go_at_call 79; refine hrow.mono ?_; rintro e w' ⟨rfl,rfl⟩))
 go_region_with (first | (go_at_call 52; refine hmade.mono ?_; rintro e w1 ⟨p,rfl,k1,k2,k3⟩) | (go_at_call 91; refine k3.mono ?_; rintro e w2 ⟨b,rfl,k4⟩))
 all_goals go_wp2
 all_goals (go_ret; exact ⟨_,rfl,k4⟩)
end
end
section
abbrev MxS:OT := .cons (.dat (.int .i64)) (.one (.row 75 (.dat (.int .u64))))
abbrev MxB:OT := .box 98 MxS
abbrev MxP:TypeId:=80
abbrev pB (b:Nat):Value := .pointer (some ⟨b,0,none⟩)
section
variable {E:En} {K K0 K1:Hp} {L F:List aa} {w:World}
theorem dT {e:TypeId} {g n cap:Nat} {cs:List Value} (hs:Sep E K (Rw e 1 (.slice (some ⟨g,0,none⟩) n cap) n cs :: L) w):∀ i u,cs[i]? = some u→w.cell? ⟨g,i,none⟩=some u∧w.frozen? ⟨g,i,none⟩=false:=by
 intro i u hu
 obtain ⟨h,⟨hlen,h3⟩,hd0,hs2⟩:=hs
 rcases h3 with ⟨h3,_⟩ | ⟨gb,cp,cur,h3,rfl,h4,h5,h6,h7⟩
 . cases h3
 simp only [Value.slice.injEq,Option.some.injEq,Addr.mk.injEq,and_true] at h3
 obtain ⟨rfl,_,rfl⟩:=h3
 have hblk:w.heap[g]? = some (.cells cur e (0,0)):=hs2.sub g _ (Hp.join_right (aC g _) (hd0 g _ (aC g _)))
 have hc:cur[i]? = some u:=by
   rw [← h7,List.getElem?_take] at hu
   split at hu
   . rw [← Array.getElem?_toList]; exact hu
   . cases hu
 exact ⟨by simp [World.cell?,hblk,hc],by simp [World.frozen?,hblk]⟩
theorem xX {e:TypeId} {g n cap i:Nat} {cs:List Value} (hs:Sep E K (Rw e 1 (.slice (some ⟨g,0,none⟩) n cap) n cs :: L) w) (v:Value) (hi:i < n):Sep E K (Rw e 1 (.slice (some ⟨g,0,none⟩) n cap) n (cs.set i v) :: L) (w.setCell ⟨g,i,none⟩ v):=by
 obtain ⟨h,⟨hlen,h3⟩,hd0,hs2⟩:=hs
 rcases h3 with ⟨h3,_⟩ | ⟨gb,cp,cur,h3,rfl,h4,h5,h6,h7⟩
 . cases h3
 simp only [Value.slice.injEq,Option.some.injEq,Addr.mk.injEq,and_true] at h3
 obtain ⟨rfl,_,rfl⟩:=h3
 have hblk:w.heap[g]? = some (.cells cur e (0,0)):=hs2.sub g _ (Hp.join_right (aC g _) (hd0 g _ (aC g _)))
 refine Sep.turn (A:=fun h=>h=one g (.cells cur e (0,0))) ⟨_,rfl,hd0,hs2⟩ (fun e=>e) (fun h0 ha _=>?_)
 obtain rfl:h0=_:=ha
 refine ⟨one g (.cells (cur.setIfInBounds i v) e (0,0)),⟨by simpa using hlen,.inr ⟨g,cap,_,rfl,rfl,h4,h5,by simpa using h6,?_⟩⟩,fun n' o' e'=>?_,fun n' o' e' h1=>?_⟩
 . rw [Array.toList_setIfInBounds,← h7,List.take_set]
 . obtain ⟨rfl,rfl⟩:=bR e'
   exact ⟨by simp [World.setCell,Array.getElem?_modify,hblk],fun e2=>by rw [aC] at e2; cases e2⟩
 . have hne:n'≠g:=fun e2=>by subst e2; rw [aC] at h1; cases h1
   rw [tQ hne]; exact e'
theorem dS {v:Value} {y:Int×List Int} (hs:Sep E K (MxB.own K0 [v] (some y:Option (Int×List Int)) :: L) w):∃ b u cs,v=pB b∧Els K0 (.int .u64) cs y.2∧Sep E K (Cl b 98 [.int .i64 y.1,u] :: Rw 75 1 u y.2.length cs :: L) w:=by
 obtain ⟨b,vs,e1,h1⟩:=Sep.ownBox (a:=MxS) (y:=y) hs
 cases e1
 obtain ⟨c1,c2,rfl,hl,h2⟩:=Sep.ownCons (a := .dat (.int .i64)) (r := .one (.row 75 (.dat (.int .u64)))) (x:=y) h1.swap
 obtain ⟨h3,h4⟩:=Sep.ownDat (t := .int .i64) (x:=y.1) h2
 obtain rfl:c1=[.int .i64 y.1]:=h3
 obtain ⟨u,cs,rfl,hE,h5⟩:=Sep.ownLeaf (t := .int .u64) (xs:=y.2) h4
 exact ⟨b,u,cs,rfl,hE,h5.swap⟩
theorem u7 {b:Nat} {u:Value} {cs:List Value} {a:Int} {l:List Int} (hE:Els K1 (.int .u64) cs l) (hs:Sep E K (Cl b 98 [.int .i64 a,u] :: Rw 75 1 u l.length cs :: L) w):Sep E K (MxB.own K1 [pB b] (some (a,l):Option (Int×List Int)) :: L) w:=by
 have h1:=Sep.ownLeaf' (t := .int .u64) (K0:=K1) hE hs.swap
 have h2:=Sep.ownDat' (t := .int .i64) (x:=a) (K0:=K1) (cs:=[.int .i64 a]) rfl h1
 have h3:Sep E K (MxS.own K1 ([.int .i64 a]++[u]) (a,l) :: Cl b 98 [.int .i64 a,u] :: L) w:=Sep.ownCons' (a := .dat (.int .i64)) (r := .one (.row 75 (.dat (.int .u64)))) (x:=a) (y:=l) h2
 exact Sep.ownBox' (a:=MxS) (y:=(a,l)) h3.swap
theorem gB {v:List Value} {x:Option (Int×List Int)} (K1:Hp) (hs:Sep E K (MxB.own K0 v x :: L) w):Sep E K (MxB.own K1 v x :: L) w:=hs.mono (fun h k=>OT.own_flat MxB rfl k)
theorem gh {e:TypeId} {v:Value} {l:List (Option (Int×List Int))} {j:Nat} {es:List Value} (K1:Hp) (hs:Sep E K (aW K0 e MxB v l j es :: L) w):Sep E K (aW K1 e MxB v l j es :: L) w :=
 hs.mono (fun h ⟨a1,a2,e1,hst⟩=>⟨a1,a2,e1,b7 (fun _ k=>k) (fun h k=>b7 (fun h k=>EEls.mono (fun es x h k=>OT.own_flat MxB rfl k) k) (fun h k=>EEls.mono (fun es x h k=>OT.own_flat MxB rfl k) k) k) hst⟩)
theorem kC {α:Type} {y:α}:∀ {l:List α} {k:Nat},l[k]? = some y→l.take k++y :: l.drop (k + 1)=l
 | [],k,h=>by simp at h
 | x :: l,0,h=>by simp at h; subst h; rfl
 | x :: l,k + 1,h=>by simp at h; simpa using kC h
theorem rH {e:TypeId} {v vr:Value} {l:List (Option (Int×List Int))} {j:Nat} (hj:j < l.length) (hs:Sep E K (aW K0 e MxB v l j [vr] :: L) w):∃ cs R,cs.length=l.length∧cs[j]? = some vr∧Sep E K (Rw e 1 v l.length cs :: R :: L) w ∧
   ∀ (vr':Value) {E K L w},Sep E K (Rw e 1 v l.length (cs.set j vr') :: R :: L) w→Sep E K (aW K0 e MxB v l j [vr'] :: L) w:=by
 obtain ⟨h,⟨c1,c2,hc,hst⟩,hd,hs⟩:=hs
 have hc':c1.length=j:=by rw [hc]; exact Nat.mul_one j
 have h1:Sep E K (Rw e 1 v l.length (c1++([vr]++c2)) :: aU (EEls (OT.own K0 MxB) c1 (l.take j)) (EEls (OT.own K0 MxB) c2 (l.drop (j + 1))) :: L) w:=Sep.split ⟨h,hst,hd,hs⟩
 have hlen:(c1++([vr]++c2)).length=l.length:=by have:=h1.fact (fun h k=>k.1); rwa [Nat.mul_one] at this
 refine ⟨_,_,hlen,by rw [← hc']; simp,h1,fun vr' {E K L w} h2=>?_⟩
 have he:(c1++([vr]++c2)).set j vr'=c1++([vr']++c2):=by rw [← hc']; simp
 rw [he] at h2
 exact (Sep.join h2).mono (fun h k=>⟨c1,c2,hc,k⟩)
theorem rO {e:TypeId} {v vr:Value} {l:List (Option (Int×List Int))} {j k:Nat} {y:Option (Int×List Int)} (hj:j < l.length) (hk:l[k]? = some y) (hjk:j≠k) (hs:Sep E K (aW K0 e MxB v l j [vr] :: L) w) :
   ∃ cs vk R,cs.length=l.length∧cs[j]? = some vr∧cs[k]? = some vk∧Sep E K (MxB.own K0 [vk] y :: Rw e 1 v l.length cs :: R :: L) w ∧
   ∀ (vr':Value) {E K L w},Sep E K (MxB.own K0 [vk] y :: Rw e 1 v l.length (cs.set j vr') :: R :: L) w→Sep E K (aW K0 e MxB v l j [vr'] :: L) w:=by
 obtain ⟨h,⟨c1,c2,hc,hst⟩,hd,hs⟩:=hs
 have hc':c1.length=j:=by rw [hc]; exact Nat.mul_one j
 have h1:Sep E K (Rw e 1 v l.length (c1++([vr]++c2)) :: aU (EEls (OT.own K0 MxB) c1 (l.take j)) (EEls (OT.own K0 MxB) c2 (l.drop (j + 1))) :: L) w:=Sep.split ⟨h,hst,hd,hs⟩
 have hlen:(c1++([vr]++c2)).length=l.length:=by have:=h1.fact (fun h k=>k.1); rwa [Nat.mul_one] at this
 have hcj:(c1++([vr]++c2))[j]? = some vr:=by rw [← hc']; simp
 have h2:=Sep.split h1.swap
 have hsz:∀ (es:List Value) (x:Option (Int×List Int)) (h:Hp),OT.own K0 MxB es x h→es.length=1:=fun es x h k=>OT.own_len MxB k
 rcases Nat.lt_or_ge k j with hlt | hge
 . have hk':(l.take j)[k]? = some y:=by rw [List.getElem?_take,if_pos hlt]; exact hk
   obtain ⟨a,es,b,rfl,ha,he,h3⟩:=Sep.openEls hsz k hk' h2
   rw [Nat.mul_one] at ha
   obtain ⟨vk,rfl⟩:∃ vk,es=[vk]:=by
     match es,he with
     | [x],_=>exact ⟨x,rfl⟩
   have hset:(l.take j).take k++y :: (l.take j).drop (k + 1)=l.take j:=kC hk'
   refine ⟨_,vk,aU (aU (EEls (OT.own K0 MxB) a ((l.take j).take k)) (EEls (OT.own K0 MxB) b ((l.take j).drop (k + 1)))) (EEls (OT.own K0 MxB) c2 (l.drop (j + 1))),hlen,hcj,?_,?_,fun vr' {E K L w} h4=>?_⟩
   . rw [← ha]; simp
   . have e1:Sep E K (aU (EEls (OT.own K0 MxB) a ((l.take j).take k)) (EEls (OT.own K0 MxB) b ((l.take j).drop (k + 1))) :: OT.own K0 MxB [vk] y :: EEls (OT.own K0 MxB) c2 (l.drop (j + 1)) :: Rw e 1 v l.length (a++([vk]++b)++([vr]++c2)) :: L) w:=Sep.join (Sep.front 2 rfl h3).swap
     exact Sep.rot3 (Sep.join (Sep.front 2 rfl e1).swap)
   . have he:(a++([vk]++b)++([vr]++c2)).set j vr'=a++([vk]++b)++([vr']++c2):=by rw [← hc']; simp
     rw [he] at h4
     have e2:Sep E K (EEls (OT.own K0 MxB) a ((l.take j).take k) :: EEls (OT.own K0 MxB) b ((l.take j).drop (k + 1)) :: EEls (OT.own K0 MxB) c2 (l.drop (j + 1)) :: OT.own K0 MxB [vk] y :: Rw e 1 v l.length (a++([vk]++b)++([vr']++c2)) :: L) w:=Sep.split (Sep.split (Sep.front 2 rfl h4))
     have e3:=Sep.closeEls (pre:=(l.take j).take k) (post:=(l.take j).drop (k + 1)) (x:=y) (es:=[vk]) (c1:=a) (c2:=b) (Sep.front 3 rfl e2).swap
     rw [hset] at e3
     exact (Sep.join (Sep.join e3).swap).mono (fun h q=>⟨_,c2,hc,q⟩)
 . have hkj:j + 1≤k:=by omega
   have hk':(l.drop (j + 1))[k - (j + 1)]? = some y:=by rw [List.getElem?_drop,Nat.add_sub_cancel' hkj]; exact hk
   obtain ⟨a,es,b,rfl,ha,he,h3⟩:=Sep.openEls hsz (k - (j + 1)) hk' h2.swap
   rw [Nat.mul_one] at ha
   obtain ⟨vk,rfl⟩:∃ vk,es=[vk]:=by
     match es,he with
     | [x],_=>exact ⟨x,rfl⟩
   have hset:=kC hk'
   refine ⟨_,vk,aU (aU (EEls (OT.own K0 MxB) a ((l.drop (j + 1)).take (k - (j + 1)))) (EEls (OT.own K0 MxB) b ((l.drop (j + 1)).drop (k - (j + 1) + 1)))) (EEls (OT.own K0 MxB) c1 (l.take j)),hlen,hcj,?_,?_,fun vr' {E K L w} h4=>?_⟩
   . have:k=(c1++([vr]++a)).length:=by simp; omega
     rw [this]
     simp [← List.append_assoc]
   . have e1:Sep E K (aU (EEls (OT.own K0 MxB) a ((l.drop (j + 1)).take (k - (j + 1)))) (EEls (OT.own K0 MxB) b ((l.drop (j + 1)).drop (k - (j + 1) + 1))) :: OT.own K0 MxB [vk] y :: EEls (OT.own K0 MxB) c1 (l.take j) :: Rw e 1 v l.length (c1++([vr]++(a++([vk]++b)))) :: L) w:=Sep.join (Sep.front 2 rfl h3).swap
     exact Sep.rot3 (Sep.join (Sep.front 2 rfl e1).swap)
   . have he:(c1++([vr]++(a++([vk]++b)))).set j vr'=c1++([vr']++(a++([vk]++b))):=by rw [← hc']; simp
     rw [he] at h4
     have e2:Sep E K (EEls (OT.own K0 MxB) a ((l.drop (j + 1)).take (k - (j + 1))) :: EEls (OT.own K0 MxB) b ((l.drop (j + 1)).drop (k - (j + 1) + 1)) :: EEls (OT.own K0 MxB) c1 (l.take j) :: OT.own K0 MxB [vk] y :: Rw e 1 v l.length (c1++([vr']++(a++([vk]++b)))) :: L) w:=Sep.split (Sep.split (Sep.front 2 rfl h4))
     have e3:=Sep.closeEls (pre:=(l.drop (j + 1)).take (k - (j + 1))) (post:=(l.drop (j + 1)).drop (k - (j + 1) + 1)) (x:=y) (es:=[vk]) (c1:=a) (c2:=b) (Sep.front 3 rfl e2).swap
     rw [hset] at e3
     exact (Sep.join (Sep.join e3.swap).swap).mono (fun h q=>⟨c1,_,hc,q⟩)
theorem jo {m:List M} {i c r rc b0:Nat} {z:SV} {a:Int} {l:List Int} (hb:HA.ok m K (.blk i c 98 [z,.own r])) (hr:HA.ok m K (.row r rc 75 (.int .u64) l l.length)) (hi:m[i]? = some (.val (pB b0))) (hz:∀ u,SV.rel m K z u→u = .int .i64 a)
   (hs:Sep E K (HA.conc m (.blk i c 98 [z,.own r]) :: HA.conc m (.row r rc 75 (.int .u64) l l.length) :: L) w):Sep E K (MxB.own K [pB b0] (some (a,l):Option (Int×List Int)) :: L) w:=by
 obtain ⟨b,vs,o1,o2,o3,o4⟩:=HA.ok_blk hb
 obtain ⟨ad,cap,cs,h1,h2,h3,h4,h5,h6,h7⟩:=hr
 rw [o4] at hs
 simp only [HA.conc,h1,h2] at hs
 rw [hi] at o1; cases o1
 obtain ⟨u,q,rfl,k1,k2⟩:=ax o3
 obtain ⟨u2,q2,rfl,k3,k4⟩:=ax k2
 obtain rfl:=aA k4
 obtain rfl:=hz u k1
 have k3':=k3.1; rw [h1] at k3'; cases k3'
 exact u7 h3 hs
theorem mi {m:List M} {z:Nat} {a:Value} (h:m[z]? = some (.val a)):∀ u,SV.rel m K (.is z .any) u→u=a:=fun u hu=>by have:=hu.1; rw [h] at this; cases this; rfl
theorem mo {cs:List Value} {l:List Int} (h:Els K0 (.int .u64) cs l):Els K1 (.int .u64) cs l:=Els.flat rfl h
theorem qO {p q:Value} {a b:Int×List Int} {t:Bool} {l l2:List Int} (hf:bB a.1 a.2 b.1 b.2=some (t,l,l2)) (hg:BldA.gk K) (hs:Sep E K (MxB.own K0 [p] (some a:Option (Int×List Int)) :: MxB.own K0 [q] (some b:Option (Int×List Int)) :: F) w) :
   Calls Tryd.prog 91 #[p,q] w fun e w'=>∃ K',e = .returned (.bool t)∧K.le K'∧Sep E K' (MxB.own K' [p] (some (a.1,l):Option (Int×List Int)) :: MxB.own K' [q] (some (b.1,l2):Option (Int×List Int)) :: F) w':=by
 obtain ⟨bp,u,cs,rfl,hE1,hs1⟩:=dS hs
 obtain ⟨bq,u2,cs2,rfl,hE2,hs2⟩:=dS (Sep.front 2 rfl hs1)
 have hs3:Sep E K (Cl bq 98 [.int .i64 b.1,u2] :: Rw 75 1 u2 b.2.length cs2 :: Cl bp 98 [.int .i64 a.1,u] :: Rw 75 1 u a.2.length cs :: F) w:=hs2
 obtain ⟨ad2,cap2,e2,f1,f2,f3⟩:=hs3.swap.fact (fun h k=>Rw.form h k)
 obtain ⟨ad1,cap1,e1,g1,g2,g3⟩:=(Sep.front 3 rfl hs3).fact (fun h k=>Rw.form h k)
 obtain ⟨m,hm⟩:∃ m:List M,m=[.val (pB bp),.val (pB bq),.val (.int .i64 a.1),.val (.int .i64 b.1),.val u,.cont (.int .u64) a.2 cs,.cells [.int .i64 a.1,u],.val u2,.cont (.int .u64) b.2 cs2,.cells [.int .i64 b.1,u2]]:=⟨_,rfl⟩
 have hu:g9.inn.un (TL.list g9.inn.ts ((a.1,a.2,b.1,b.2):Int×List Int×Int×List Int)) 0=some ([(0,.ptr 0 0),(1,.ptr 1 0)],⟨[],10,[.blk 1 9 98 [.is 3 (.int .i64 b.1),.own 7],.row 7 8 75 (.int .u64) b.2 b.2.length,.blk 0 6 98 [.is 2 (.int .i64 a.1),.own 4],.row 4 5 75 (.int .u64) a.2 a.2.length],[4,7]⟩):=rfl
 have hrow1:HA.ok m K (.row 4 5 75 (.int .u64) a.2 a.2.length):=⟨ad1,cap1,cs,by rw [hm,← e1]; rfl,by rw [hm]; rfl,mo hE1,rfl,g1,g2,fun h=>g3 (fun h0=>h (List.length_eq_zero_iff.1 h0))⟩
 have hrow2:HA.ok m K (.row 7 8 75 (.int .u64) b.2 b.2.length):=⟨ad2,cap2,cs2,by rw [hm,← e2]; rfl,by rw [hm]; rfl,mo hE2,rfl,f1,f2,fun h=>f3 (fun h0=>h (List.length_eq_zero_iff.1 h0))⟩
 have o1:u.oneCell'=true:=by rw [e1]; rfl
 have o2:u2.oneCell'=true:=by rw [e2]; rfl
 have h:=sA (a.1,a.2,b.1,b.2) (t,l,l2) hf _ _ hu m K [pB bp,pB bq] hg (by rw [hm]; rfl) (fun x hx=>by
   simp only [List.mem_cons,List.not_mem_nil,or_false] at hx
   rcases hx with rfl | rfl | rfl | rfl
   . exact ⟨bq,_,by rw [hm]; rfl,by rw [hm]; rfl,_,_,rfl,⟨by rw [hm]; rfl,rfl⟩,_,_,rfl,⟨by rw [hm]; rfl,o2⟩,rfl⟩
   . exact hrow2
   . exact ⟨bp,_,by rw [hm]; rfl,by rw [hm]; rfl,_,_,rfl,⟨by rw [hm]; rfl,rfl⟩,_,_,rfl,⟨by rw [hm]; rfl,o1⟩,rfl⟩
   . exact hrow1) ⟨_,_,rfl,⟨bp,by rw [hm]; rfl,rfl⟩,_,_,rfl,⟨bq,by rw [hm]; rfl,rfl⟩,rfl⟩ E w F (by subst hm; exact hs3)
 refine h.mono ?_
 rintro e w' ⟨v,K',L',rfl,⟨vs',u',m',hun,⟨s,rfl⟩,hlen,hok',hres,rfl⟩,hle,hs'⟩
 have hun':((bn g9.outs (t,l,l2)).1.un (bn g9.outs (t,l,l2)).2 10)=some ([(0,.bool t)],⟨[],16,[.blk 1 15 98 [.is 3 .any,.own 13],.row 13 14 75 (.int .u64) l2 l2.length,.blk 0 12 98 [.is 2 .any,.own 10],.row 10 11 75 (.int .u64) l l.length],[10,13]⟩):=rfl
 rw [hun'] at hun
 cases hun
 obtain rfl:v = .bool t:=hres
 refine ⟨K',rfl,hle,?_⟩
 have hm0:∀ i x,m[i]? = some x→(m++s)[i]? = some x:=fun i x h=>ag (ap m s) h
 have r1:=jo (b0:=bq) (a:=b.1) (hok' _ (by simp)) (hok' _ (by simp)) (hm0 1 _ (by rw [hm]; rfl)) (mi (hm0 3 _ (by rw [hm]; rfl))) hs'
 exact (jo (b0:=bp) (a:=a.1) (hok' (.blk 0 12 98 [.is 2 .any,.own 10]) (by simp)) (hok' (.row 10 11 75 (.int .u64) l l.length) (by simp)) (hm0 0 _ (by rw [hm]; rfl)) (mi (hm0 2 _ (by rw [hm]; rfl))) (Sep.front 2 rfl (Sep.front 2 rfl r1)))
theorem vt {p:Value} {a:Int×List Int} {t:Bool} {l:List Int} (hf:fQ a.1 a.2=some (t,l)) (hg:BldA.gk K) (hs:Sep E K (MxB.own K0 [p] (some a:Option (Int×List Int)) :: F) w) :
   Calls Tryd.prog 91 #[p,p] w fun e w'=>∃ K',e = .returned (.bool t)∧K.le K'∧Sep E K' (MxB.own K' [p] (some (a.1,l):Option (Int×List Int)) :: F) w':=by
 obtain ⟨bp,u,cs,rfl,hE1,hs1⟩:=dS hs
 obtain ⟨ad1,cap1,e1,g1,g2,g3⟩:=hs1.swap.fact (fun h k=>Rw.form h k)
 obtain ⟨m,hm⟩:∃ m:List M,m=[.val (pB bp),.val (.int .i64 a.1),.val u,.cont (.int .u64) a.2 cs,.cells [.int .i64 a.1,u]]:=⟨_,rfl⟩
 have hu:hY.inn.un (TL.list hY.inn.ts ((a.1,a.2):Int×List Int)) 0=some ([(0,.ptr 0 0),(1,.ptr 0 0)],⟨[],5,[.blk 0 4 98 [.is 1 (.int .i64 a.1),.own 2],.row 2 3 75 (.int .u64) a.2 a.2.length],[2]⟩):=rfl
 have hrow1:HA.ok m K (.row 2 3 75 (.int .u64) a.2 a.2.length):=⟨ad1,cap1,cs,by rw [hm,← e1]; rfl,by rw [hm]; rfl,mo hE1,rfl,g1,g2,fun h=>g3 (fun h0=>h (List.length_eq_zero_iff.1 h0))⟩
 have o1:u.oneCell'=true:=by rw [e1]; rfl
 have h:=sB (a.1,a.2) (t,l) hf _ _ hu m K [pB bp,pB bp] hg (by rw [hm]; rfl) (fun x hx=>by
   simp only [List.mem_cons,List.not_mem_nil,or_false] at hx
   rcases hx with rfl | rfl
   . exact ⟨bp,_,by rw [hm]; rfl,by rw [hm]; rfl,_,_,rfl,⟨by rw [hm]; rfl,rfl⟩,_,_,rfl,⟨by rw [hm]; rfl,o1⟩,rfl⟩
   . exact hrow1) ⟨_,_,rfl,⟨bp,by rw [hm]; rfl,rfl⟩,_,_,rfl,⟨bp,by rw [hm]; rfl,rfl⟩,rfl⟩ E w F (by subst hm; exact hs1)
 refine h.mono ?_
 rintro e w' ⟨v,K',L',rfl,⟨vs',u',m',hun,⟨s,rfl⟩,hlen,hok',hres,rfl⟩,hle,hs'⟩
 have hun':((bn hY.outs (t,l)).1.un (bn hY.outs (t,l)).2 5)=some ([(0,.bool t)],⟨[],8,[.blk 0 7 98 [.is 1 .any,.own 5],.row 5 6 75 (.int .u64) l l.length],[5]⟩):=rfl
 rw [hun'] at hun
 cases hun
 obtain rfl:v = .bool t:=hres
 refine ⟨K',rfl,hle,?_⟩
 have hm0:∀ i x,m[i]? = some x→(m++s)[i]? = some x:=fun i x h=>ag (ap m s) h
 exact jo (b0:=bp) (a:=a.1) (hok' _ (by simp)) (hok' _ (by simp)) (hm0 0 _ (by rw [hm]; rfl)) (mi (hm0 1 _ (by rw [hm]; rfl))) hs'
theorem wg {c:Int} {i sz:Int} {ws:List Int} (hf:ci c=some (.inr (i,sz,ws))) (hg:BldA.gk K) (hs:Sep E K F w) :
   Calls Tryd.prog 75 #[.int .i64 c] w fun e w'=>∃ K' b,e = .returned (.tuple #[pB b,.int .i64 i])∧K.le K'∧Sep E K' (MxB.own K' [pB b] (some (sz,ws):Option (Int×List Int)) :: F) w':=by
 have hu:fG.inn.un (TL.list fG.inn.ts (c:Int)) 0=some ([(0,.int .i64 c)],⟨[],0,[],[]⟩):=rfl
 have h:=(@id (aV _ fG) rY.2) (c:Int) (.inr (i,sz,ws)) hf _ _ hu [] K [.int .i64 c] hg rfl (fun x hx=>by cases hx) ⟨_,_,rfl,rfl,rfl⟩ E w F hs
 refine h.mono ?_
 rintro e w' ⟨v,K',L',rfl,⟨vs',u',m',hun,⟨s,rfl⟩,hlen,hok',hres,rfl⟩,hle,hs'⟩
 have hun':((bn fG.outs (.inr (i,sz,ws))).1.un (bn fG.outs (.inr (i,sz,ws))).2 0)=some ([(0,.tup [.ptr 0 0,.int .i64 i])],⟨[],4,[.blk 0 3 98 [.int .i64 sz,.own 1],.row 1 2 75 (.int .u64) ws ws.length],[1]⟩):=rfl
 rw [hun'] at hun
 cases hun
 obtain ⟨us,rfl,h1⟩:=hres
 obtain ⟨u1,q,rfl,⟨b,h2,rfl⟩,h3⟩:=ax h1
 obtain ⟨u2,q2,rfl,h4,h5⟩:=ax h3
 obtain rfl:=aA h5
 obtain rfl:u2 = .int .i64 i:=h4
 exact ⟨K',b,rfl,hle,jo (b0:=b) (z := .int .i64 sz) (a:=sz) (hok' _ (by simp)) (hok' _ (by simp)) h2 (fun u hu=>hu) hs'⟩
end
theorem pJ {a b:Int} {l l2 l' r:List Int} {t:Bool} (h:bB a l b l2=some (t,l',r)):r=l2:=by
 unfold bB at h
 cases hb : !decide (a=b) with
 | true=>rw [hb] at h; simp only [cond_true,Option.some.injEq,Prod.mk.injEq] at h; exact h.2.2.symm
 | false =>
   rw [hb] at h
   simp only [cond_false] at h
   obtain ⟨q,_,h⟩:=ob h
   simp only [Option.some.injEq,Prod.mk.injEq] at h; exact h.2.2.symm
theorem uH {c i sz:Int} {ws:List Int} (h:ci c=some (.inr (i,sz,ws))):i=0:=by
 unfold ci at h
 cases hb:decide (c < 0) with
 | true=>rw [hb] at h; simp at h
 | false =>
   rw [hb] at h
   simp only [cond_false] at h
   cases hb:decide (1048576 < c) with
   | true=>rw [hb] at h; simp at h
   | false =>
     rw [hb] at h
     simp only [cond_false] at h
     obtain ⟨q,_,h⟩:=ob h
     simp only [Option.some.injEq,Sum.inr.injEq,Prod.mk.injEq] at h; exact h.1.symm
def orH (k cols:Int) (l:List (Option (Int×List Int))) (j:Nat) (x:Option (Int×List Int)):Option (Bool×Option (Int×List Int)) :=
 if 0≤k∧k < (l.length:Int) then
   (if k.toNat=j then (match x with
     | none=>some (false,none)
     | some s=>(fQ s.1 s.2).bind fun r=>some (r.1,some (s.1,r.2)))
   else match l[k.toNat]?.join with
     | some b=>(match x with
       | some s=>(bB s.1 s.2 b.1 b.2).bind fun r=>some (r.1,some (s.1,r.2.1))
       | none=>(ci cols).bind fun o=>(match o with
         | .inl _=>none
         | .inr q=>(bB q.2.1 q.2.2 b.1 b.2).bind fun r=>some (r.1,some (q.2.1,r.2.1))))
     | none=>some (false,x))
 else some (false,x)
theorem uU {α:Type} {l:List α} {j:Nat} {x:α} (h:l[j]? = some x):l.set j x=l:=by
 apply List.ext_getElem?
 intro i
 rw [List.getElem?_set]
 by_cases hij:j=i
 . subst hij; rw [if_pos rfl,if_pos (List.getElem?_eq_some_iff.1 h).1,h]
 . rw [if_neg hij]
section
variable {E:En} {K K0 K1:Hp} {L F:List aa} {w:World}
theorem i9 {v:Value} (hs:Sep E K (MxB.own K0 [v] (none:Option (Int×List Int)) :: L) w):v = .pointer none:=by
 have:=hs.fact (p:=[v]=[.pointer none]) (fun h k=>k.1)
 simpa using this
theorem tP {bm g cap j:Nat} {cols:Int} {l:List (Option (Int×List Int))} {x:Option (Int×List Int)} {vr:Value} {t:Bool} {x':Option (Int×List Int)} (hg:BldA.gk K) (hj:j < l.length) (k:Int) (hf:orH k cols l j x=some (t,x'))
   (hs:Sep E K (Cl bm 79 [.int .i64 cols,.slice (some ⟨g,0,none⟩) l.length cap] :: aW K0 MxP MxB (.slice (some ⟨g,0,none⟩) l.length cap) l j [vr] :: MxB.own K0 [vr] x :: F) w) :
   Calls Tryd.prog 81 #[pB bm,.int .i64 (j:Int),.int .i64 k] w fun e w'=>∃ K' vr',e = .returned (.bool t)∧K.le K'∧(x≠none→vr'=vr) ∧
     Sep E K' (Cl bm 79 [.int .i64 cols,.slice (some ⟨g,0,none⟩) l.length cap] :: aW K' MxP MxB (.slice (some ⟨g,0,none⟩) l.length cap) l j [vr'] :: MxB.own K' [vr'] x' :: F) w':=by
 have ccl:∀ {K:Hp} {L:List aa} {w:World},Sep E K (Cl bm 79 [.int .i64 cols,.slice (some ⟨g,0,none⟩) l.length cap] :: L) w→w.cell? ⟨bm,1,none⟩=some (.slice (some ⟨g,0,none⟩) l.length cap)∧w.cell? ⟨bm,0,none⟩=some (.int .i64 cols):=fun h=>by
   have hcl:=h.cl
   exact ⟨by simp [World.cell?,hcl],by simp [World.cell?,hcl]⟩
 have hc:=(ccl hs).1
 have stay:∀ {w},Sep E K (Cl bm 79 [.int .i64 cols,.slice (some ⟨g,0,none⟩) l.length cap] :: aW K0 MxP MxB (.slice (some ⟨g,0,none⟩) l.length cap) l j [vr] :: MxB.own K0 [vr] x :: F) w →
     Sep E K (Cl bm 79 [.int .i64 cols,.slice (some ⟨g,0,none⟩) l.length cap] :: aW K MxP MxB (.slice (some ⟨g,0,none⟩) l.length cap) l j [vr] :: MxB.own K [vr] x :: F) w:=fun h=>by
   have h1:=gB K (Sep.front 2 rfl h)
   have h2:=gh K (Sep.front 2 rfl h1)
   exact Sep.front 2 rfl h2
 have hcj:w.cell? ⟨g,j,none⟩=some vr:=by
   obtain ⟨cs,R,q1,q2,q3,_⟩:=rH hj hs.swap
   exact (dT q3 j vr q2).1
 unfold orH at hf
 split at hf
 . rename_i hk
   obtain ⟨k',rfl⟩:∃ k':Nat,k=k':=⟨k.toNat,by omega⟩
   simp only [Int.toNat_natCast] at hf
   have hk2:k' < l.length:=by omega
   split at hf
   . rename_i hkj
     subst hkj
     cases x with
     | none =>
       simp only [Option.some.injEq,Prod.mk.injEq] at hf
       obtain ⟨rfl,rfl⟩:=hf
       obtain rfl:=i9 (Sep.front 2 rfl hs)
       refine (kW bm l.length cap w hc _ _ ⟨by omega,by omega⟩ (jP bm g l.length cap w hc hj hcj)).mono ?_
       rintro e w' ⟨rfl,rfl⟩
       exact ⟨K,_,rfl,Hp.le_refl K,fun _=>rfl,stay hs⟩
     | some s =>
       simp only at hf
       obtain ⟨r,hr,hf⟩:=ob hf
       simp only [Option.some.injEq,Prod.mk.injEq] at hf
       obtain ⟨rfl,rfl⟩:=hf
       obtain ⟨b,_,_,rfl,_,_⟩:=dS (Sep.front 2 rfl hs)
       refine (mI bm g l.length cap w hc hj hj hcj (Q:=fun b' w2=>∃ K',b'=r.1∧K.le K'∧Sep E K' (MxB.own K' [pB b] (some (s.1,r.2):Option (Int×List Int)) :: Cl bm 79 [.int .i64 cols,.slice (some ⟨g,0,none⟩) l.length cap] :: aW K0 MxP MxB (.slice (some ⟨g,0,none⟩) l.length cap) l k' [pB b] :: F) w2) ?_).mono ?_
       . have hs1:=hs.drew
         have hcj1:w.drew.cell? ⟨g,k',none⟩=some (pB b):=hcj
         refine (nO bm g l.length cap w.drew (ccl hs1).1 hj hcj1).mono ?_
         rintro e w1 ⟨rfl,rfl⟩
         refine ⟨_,rfl,(ccl hs1).1,hcj1,(vt hr hg (Sep.front 2 rfl hs1)).mono ?_⟩
         rintro e w2 ⟨K',rfl,q1,q2⟩
         exact ⟨_,rfl,K',rfl,q1,q2⟩
       . rintro e w2 ⟨b',rfl,K',rfl,q1,q2⟩
         have h1:=gh K' (Sep.front 2 rfl q2)
         exact ⟨K',_,rfl,q1,fun _=>rfl,Sep.front 2 rfl h1⟩
   . rename_i hkj
     have hjk:j≠k':=fun e=>hkj e.symm
     have stop:∀ {y:Option (Int×List Int)},l[k']? = some y→y=none→t=false→x'=x→Calls Tryd.prog 81 #[pB bm,.int .i64 (j:Int),.int .i64 (k':Int)] w fun e w'=>∃ K' vr',e = .returned (.bool t)∧K.le K'∧(x≠none→vr'=vr) ∧
         Sep E K' (Cl bm 79 [.int .i64 cols,.slice (some ⟨g,0,none⟩) l.length cap] :: aW K' MxP MxB (.slice (some ⟨g,0,none⟩) l.length cap) l j [vr'] :: MxB.own K' [vr'] x' :: F) w':=by
       rintro y hy rfl rfl rfl
       obtain ⟨cs,vk,R,q1,q2,q3,q4,_⟩:=rO hj hy hjk hs.swap
       obtain rfl:=i9 q4
       refine (kW bm l.length cap w hc _ _ ⟨by omega,by omega⟩ (jP bm g l.length cap w hc hk2 (dT q4.swap k' _ q3).1)).mono ?_
       rintro e w' ⟨rfl,rfl⟩
       exact ⟨K,_,rfl,Hp.le_refl K,fun _=>rfl,stay hs⟩
     split at hf
     . rename_i b hb0
       have hb:l[k']? = some (some b):=by
         cases hq:l[k']? with
         | none=>rw [hq] at hb0; cases hb0
         | some y=>rw [hq] at hb0; exact congrArg some hb0
       obtain ⟨cs,vk,R,q1,q2,q3,q4,q5⟩:=rO hj hb hjk hs.swap
       obtain ⟨bk,_,_,rfl,_,_⟩:=dS q4
       have hck:=(dT q4.swap k' _ q3).1
       cases x with
       | some s =>
         simp only at hf
         obtain ⟨r,hr,hf⟩:=ob hf
         simp only [Option.some.injEq,Prod.mk.injEq] at hf
         obtain ⟨rfl,rfl⟩:=hf
         obtain ⟨bj,_,_,rfl,_,_⟩:=dS (Sep.front 2 rfl hs)
         refine (mI bm g l.length cap w hc hj hk2 hck (Q:=fun b' w2=>∃ K',b'=r.1∧K.le K'∧Sep E K' (MxB.own K' [pB bj] (some (s.1,r.2.1):Option (Int×List Int)) :: MxB.own K' [pB bk] (some (b.1,r.2.2):Option (Int×List Int)) :: Rw MxP 1 (.slice (some ⟨g,0,none⟩) l.length cap) l.length cs :: R :: Cl bm 79 [.int .i64 cols,.slice (some ⟨g,0,none⟩) l.length cap] :: F) w2) ?_).mono ?_
         . have hs1:=q4.drew
           have hcj1:w.drew.cell? ⟨g,j,none⟩=some (pB bj):=hcj
           have hc1:w.drew.cell? ⟨bm,1,none⟩=some (.slice (some ⟨g,0,none⟩) l.length cap):=hc
           refine (nO bm g l.length cap w.drew hc1 hj hcj1).mono ?_
           rintro e w1 ⟨rfl,rfl⟩
           refine ⟨_,rfl,hc1,hck,(qO (a:=s) (b:=b) hr hg (Sep.front 4 rfl hs1)).mono ?_⟩
           rintro e w2 ⟨K',rfl,p1,p2⟩
           exact ⟨_,rfl,K',rfl,p1,p2⟩
         . rintro e w2 ⟨b',rfl,K',rfl,p1,p2⟩
           have hsame:=pJ hr
           rw [hsame] at p2
           have h1:=gB K0 p2.swap
           have h2:=q5 (pB bj) (E:=E) (K:=K') (w:=w2) (L:=MxB.own K' [pB bj] (some (s.1,r.2.1):Option (Int×List Int)) :: Cl bm 79 [.int .i64 cols,.slice (some ⟨g,0,none⟩) l.length cap] :: F) (by
             rw [uU q2]
             exact Sep.perm (by
               refine List.Perm.cons _ ?_
               exact ((List.Perm.swap _ _ _).trans ((List.Perm.swap _ _ _).cons _))) h1)
           exact ⟨K',_,rfl,p1,fun _=>rfl,Sep.front 2 rfl (gh K' h2)⟩
       | none =>
         simp only at hf
         obtain ⟨o,ho,hf⟩:=ob hf
         cases o with
         | inl _=>simp at hf
         | inr q =>
         obtain ⟨i,sz,ws⟩:=q
         simp only at hf
         obtain ⟨r,hr,hf⟩:=ob hf
         simp only [Option.some.injEq,Prod.mk.injEq] at hf
         obtain ⟨rfl,rfl⟩:=hf
         obtain rfl:=uH ho
         obtain rfl:=i9 (Sep.front 2 rfl hs)
         refine (mI bm g l.length cap w hc hj hk2 hck (Q:=fun b' w2=>∃ K' bj,b'=r.1∧K.le K'∧Sep E K' (MxB.own K' [pB bj] (some (sz,r.2.1):Option (Int×List Int)) :: MxB.own K' [pB bk] (some (b.1,r.2.2):Option (Int×List Int)) :: Rw MxP 1 (.slice (some ⟨g,0,none⟩) l.length cap) l.length (cs.set j (pB bj)) :: R :: Cl bm 79 [.int .i64 cols,.slice (some ⟨g,0,none⟩) l.length cap] :: F) w2) ?_).mono ?_
         . have hs1:=q4.drew.drew
           have hcj1:w.drew.cell? ⟨g,j,none⟩=some (.pointer none):=hcj
           have hc1:w.drew.cell? ⟨bm,1,none⟩=some (.slice (some ⟨g,0,none⟩) l.length cap):=hc
           have hc0:w.drew.cell? ⟨bm,0,none⟩=some (.int .i64 cols):=(ccl hs).2
           refine (tv bm g l.length cap cols w.drew hc1 hc0 hj hcj1 (Q:=fun p w2=>∃ K1 bj,p=⟨bj,0,none⟩∧K.le K1∧Sep E K1 (MxB.own K1 [pB bj] (some (sz,ws):Option (Int×List Int)) :: MxB.own K0 [pB bk] (some b:Option (Int×List Int)) :: Rw MxP 1 (.slice (some ⟨g,0,none⟩) l.length cap) l.length (cs.set j (pB bj)) :: R :: Cl bm 79 [.int .i64 cols,.slice (some ⟨g,0,none⟩) l.length cap] :: F) w2) ?_).mono ?_
           . refine (wg ho hg hs1).mono ?_
             rintro e w1 ⟨K1,bj,rfl,p1,p2⟩
             have e1:=dT (Sep.front 2 rfl p2)
             have p3:Sep E K1 (MxB.own K1 [pB bj] (some (sz,ws):Option (Int×List Int)) :: MxB.own K0 [pB bk] (some b:Option (Int×List Int)) :: Rw MxP 1 (.slice (some ⟨g,0,none⟩) l.length cap) l.length (cs.set j (pB bj)) :: R :: Cl bm 79 [.int .i64 cols,.slice (some ⟨g,0,none⟩) l.length cap] :: MxB.own K0 [.pointer none] (none:Option (Int×List Int)) :: F) (w1.setCell ⟨g,j,none⟩ (pB bj)) :=
               Sep.front 2 rfl (Sep.front 2 rfl (xX (Sep.front 2 rfl p2) (pB bj) hj))
             refine ⟨⟨bj,0,none⟩,rfl,(ccl (Sep.front 4 rfl p2)).1,(e1 j _ q2).1,(e1 j _ q2).2,(ccl (Sep.front 4 rfl p3)).1,(dT (Sep.front 2 rfl p3) j _ (by rw [List.getElem?_set,if_pos rfl,if_pos (by rw [q1]; exact hj)])).1,K1,bj,rfl,p1,?_⟩
             have p4:=(Sep.front 5 rfl p3).drop
             exact p4
           . rintro e w1 ⟨p,rfl,K1,bj,rfl,p1,p2⟩
             refine ⟨⟨bj,0,none⟩,rfl,(ccl (Sep.front 4 rfl p2)).1,(dT (Sep.front 2 rfl p2) k' _ (by rw [List.getElem?_set,if_neg hjk]; exact q3)).1,(qO (K0:=K1) (a:=(sz,ws)) (b:=b) hr (BldA.gkm p1.cle hg) (gB K1 p2.swap).swap).mono ?_⟩
             rintro e w2 ⟨K',rfl,r1,r2⟩
             exact ⟨_,rfl,K',bj,rfl,p1.trans r1,r2⟩
         . rintro e w2 ⟨b',rfl,K',bj,rfl,p1,p2⟩
           have hsame:=pJ hr
           rw [hsame] at p2
           have h1:=gB K0 p2.swap
           have h2:=q5 (pB bj) (E:=E) (K:=K') (w:=w2) (L:=MxB.own K' [pB bj] (some (sz,r.2.1):Option (Int×List Int)) :: Cl bm 79 [.int .i64 cols,.slice (some ⟨g,0,none⟩) l.length cap] :: F) (Sep.perm (by
               refine List.Perm.cons _ ?_
               exact ((List.Perm.swap _ _ _).trans ((List.Perm.swap _ _ _).cons _))) h1)
           exact ⟨K',_,rfl,p1,fun h=>absurd rfl h,Sep.front 2 rfl (gh K' h2)⟩
     . rename_i hno
       have hy:∃ y,l[k']? = some y:=⟨_,List.getElem?_eq_getElem hk2⟩
       obtain ⟨y,hy⟩:=hy
       simp only [Option.some.injEq,Prod.mk.injEq] at hf
       obtain ⟨rfl,rfl⟩:=hf
       cases y with
       | none=>exact stop hy rfl rfl rfl
       | some b=>rw [hy] at hno; cases hno
 . rename_i hk
   simp only [Option.some.injEq,Prod.mk.injEq] at hf
   obtain ⟨rfl,rfl⟩:=hf
   refine (kW bm l.length cap w hc _ _ ⟨by omega,by omega⟩ (uj bm l.length cap w hc _ hk)).mono ?_
   rintro e w' ⟨rfl,rfl⟩
   exact ⟨K,_,rfl,Hp.le_refl K,fun _=>rfl,stay hs⟩
end
abbrev MxM:OT := .row MxP MxB
section
variable {E:En} {K K0 K1:Hp} {L F:List aa} {w:World}
end
abbrev rW:List Bk:=[⟨none,79,[.is 3 (.dat (.int .i64)),.rp 1],false,false,none,false⟩,⟨none,MxP,[.rp 2],true,false,some MxB,false⟩,⟨none,0,[],false,false,some MxB,false⟩,⟨none,0,[],false,true,none,false⟩]
abbrev dB:List Bk:=[⟨some 0,79,[.is 3 .any,.rp 1],false,false,none,false⟩,⟨some 1,MxP,[.rp 2],true,false,some MxB,false⟩,⟨some 2,0,[],false,false,some MxB,false⟩,⟨some 3,0,[],false,true,none,false⟩]
def ep (r k cols:Int) (l:List (Option (Int×List Int))) (j:Int) (x:Option (Int×List Int)):Option (Bool×List (Option (Int×List Int))×Int×Option (Int×List Int)) :=
 if r=j then (match x with | none=>none | some s=>(orH k cols l j.toNat (some s)).bind fun q=>some (q.1,l,j,q.2)) else none
def fT:Spec:=⟨81,⟨[(0,.ptr 0 0),(1,.dat (.int .i64)),(2,.dat (.int .i64))],rW⟩,[⟨[(0,.dat .bool)],dB⟩],fun x=>ep x.1 x.2.1 x.2.2.1 x.2.2.2.1 x.2.2.2.2.1 x.2.2.2.2.2⟩
def en (r cols:Int) (l:List (Option (Int×List Int))) (j:Int) (x:Option (Int×List Int)):Option (List (Option (Int×List Int))×Int×Option (Int×List Int)):=if r=j then some (l,j,x) else none
def fR:Spec:=⟨79,⟨[(0,.ptr 0 0),(1,.dat (.int .i64))],rW⟩,[⟨[(0,.rp 2)],dB⟩],fun x=>en x.1 x.2.1 x.2.2.1 x.2.2.2.1 x.2.2.2.2⟩
section
variable {E:En} {K K0 K1:Hp} {L F:List aa} {w:World}
theorem pK {v:Value} {x:Option (Int×List Int)} (hs:Sep E K (MxB.own K0 [v] x :: L) w):OT.form MxB v x∧∃ p,v = .pointer p:=by
 cases x with
 | none=>obtain rfl:=i9 hs; exact ⟨.inl ⟨rfl,rfl⟩,_,rfl⟩
 | some s=>obtain ⟨b,_,_,rfl,_,_⟩:=dS hs; exact ⟨.inr ⟨_,b,rfl,rfl⟩,_,rfl⟩
theorem pU {m:List M} {bm g cap:Nat} {cols j:Int} {vr:Value} {l:List (Option (Int×List Int))} {x:Option (Int×List Int)} (h7:m.length=7) (m0:m[0]? = some (.val (pB bm))) (m1:m[1]? = some (.val (.slice (some ⟨g,0,none⟩) l.length cap))) (m2:m[2]? = some (.val vr)) (m3:m[3]? = some (.val (.int .i64 cols)))
   (hj:0≤j∧j.toNat < l.length) (hs:Sep E K1 (Cl bm 79 [.int .i64 cols,.slice (some ⟨g,0,none⟩) l.length cap] :: aW K1 MxP MxB (.slice (some ⟨g,0,none⟩) l.length cap) l j.toNat [vr] :: MxB.own K1 [vr] x :: F) w) :
   ∃ m' H,unB [0,1,2,3] dB [0,1,2,3] ⟨[⟨.sl MxB.tp,l⟩,⟨.int .i64,j⟩,⟨MxB.tp,x⟩],7,[],[]⟩=some ⟨[],10,H,[]⟩∧m <+: m'∧m'.length=10∧(∀ a∈H,HA.ok m' K1 a)∧Sep E K1 (H.map (HA.conc m')++F) w:=by
 obtain ⟨hf,p,hp0⟩:=pK (Sep.front 2 rfl hs)
 have hp:=ap m [M.cells [.int .i64 cols,.slice (some ⟨g,0,none⟩) l.length cap],M.hol K1 [vr],M.hp K1]
 obtain ⟨m',hm'⟩:∃ m',m'=m++[M.cells [.int .i64 cols,.slice (some ⟨g,0,none⟩) l.length cap],M.hol K1 [vr],M.hp K1]:=⟨_,rfl⟩
 have g0:m'[7]? = some (.cells [.int .i64 cols,.slice (some ⟨g,0,none⟩) l.length cap]):=by rw [hm',← h7]; exact aB rfl
 have g1:m'[8]? = some (.hol K1 [vr]):=by rw [hm',show (8:Nat)=m.length + 1 by rw [h7]]; exact bS (k:=1) rfl
 have g2:m'[9]? = some (.hp K1):=by rw [hm',show (9:Nat)=m.length + 2 by rw [h7]]; exact bS (k:=2) rfl
 rw [← hm'] at hp
 have n0:=ag hp m0
 have n1:=ag hp m1
 have n2:=ag hp m2
 have n3:=ag hp m3
 refine ⟨m',[.od 2 9 MxB x,.hole 1 8 MxP MxB l j [.own 2],.blk 0 7 79 [.is 3 .any,.own 1]],rfl,hp,by simp [hm',h7],fun a ha=>?_,?_⟩
 . simp only [List.mem_cons,List.not_mem_nil,or_false] at ha
   rcases ha with rfl | rfl | rfl
   . exact ⟨vr,K1,n2,g2,.inr rfl,hf⟩
   . exact ⟨_,cap,K1,[vr],n1,g1,.inr rfl,⟨_,_,rfl,⟨n2,by rw [hp0]; rfl⟩,rfl⟩,hj.1,hj.2,rfl,g,rfl⟩
   . exact ⟨bm,_,n0,g0,_,_,rfl,⟨n3,trivial⟩,_,_,rfl,⟨n1,rfl⟩,rfl⟩
 . simp only [List.map_cons,List.map_nil,HA.conc,n0,n1,n2,g0,g1,g2,List.cons_append,List.nil_append]
   exact Sep.front 2 rfl hs.swap
theorem rq {m:List M} {cols j:Int} {l:List (Option (Int×List Int))} {x:Option (Int×List Int)} (hok:∀ a∈[HA.od 2 6 MxB x,.hole 1 5 MxP MxB l j [.own 2],.blk 0 4 79 [.is 3 (.int .i64 cols),.own 1]],HA.ok m K a)
   (hs:Sep E K ([HA.od 2 6 MxB x,.hole 1 5 MxP MxB l j [.own 2],.blk 0 4 79 [.is 3 (.int .i64 cols),.own 1]].map (HA.conc m)++F) w) :
   ∃ bm g cap vr,m[0]? = some (.val (pB bm))∧m[1]? = some (.val (.slice (some ⟨g,0,none⟩) l.length cap))∧m[2]? = some (.val vr)∧m[3]? = some (.val (.int .i64 cols))∧(0≤j∧j.toNat < l.length) ∧
     Sep E K (Cl bm 79 [.int .i64 cols,.slice (some ⟨g,0,none⟩) l.length cap] :: aW K MxP MxB (.slice (some ⟨g,0,none⟩) l.length cap) l j.toNat [vr] :: MxB.own K [vr] x :: F) w:=by
 obtain ⟨vr,K2,p1,p2,p3,p4⟩:=hok (.od 2 6 MxB x) (by simp)
 obtain ⟨ad,cap,K3,es,q1,q2,q3,q4,q5,q6,q7,g,rfl⟩:=hok (.hole 1 5 MxP MxB l j [.own 2]) (by simp)
 obtain ⟨bm,vs,o1,o2,o3,o4⟩:=HA.ok_blk (hok (.blk 0 4 79 [.is 3 (.int .i64 cols),.own 1]) (by simp))
 obtain ⟨u1,q,rfl,k1,k2⟩:=ax o3
 obtain ⟨u2,q2',rfl,k3,k4⟩:=ax k2
 obtain rfl:=aA k4
 obtain rfl:u1 = .int .i64 cols:=k1.2
 have k3':=k3.1; rw [q1] at k3'; cases k3'
 obtain ⟨u3,q3',rfl,k5,k6⟩:=ax q4
 obtain rfl:=aA k6
 have k5':=k5.1; rw [p1] at k5'; cases k5'
 simp only [List.map_cons,List.map_nil,HA.conc,o1,o2,p1,p2,q1,q2,List.cons_append,List.nil_append] at hs
 refine ⟨bm,g,cap,vr,o1,q1,p1,k1.1,⟨q5,q6⟩,?_⟩
 have h1:=gh K (gB K hs).swap
 exact Sep.front 2 rfl h1
end
theorem sE:aV Tryd.prog fT:=by
 intro x r hr vs u hu m K args hgk hlen hok hsl E w F hs
 obtain ⟨xb,xc,cols,l,j,x⟩:Int×Int×Int×List (Option (Int×List Int))×Int×Option (Int×List Int):=x
 obtain ⟨t,l',j',x'⟩:Bool×List (Option (Int×List Int))×Int×Option (Int×List Int):=r
 have hu':fT.inn.un (TL.list fT.inn.ts ((xb,xc,cols,l,j,x):Int×Int×Int×List (Option (Int×List Int))×Int×Option (Int×List Int))) 0=some ([(0,.ptr 0 0),(1,.int .i64 xb),(2,.int .i64 xc)],⟨[],7,[HA.od 2 6 MxB x,.hole 1 5 MxP MxB l j [.own 2],.blk 0 4 79 [.is 3 (.int .i64 cols),.own 1]],[]⟩):=rfl
 rw [show fT.inn.un (TL.list _ _) 0=_ from hu'] at hu
 cases hu
 replace hr:ep xb xc cols l j x=some (t,l',j',x'):=hr
 obtain ⟨a0,q,rfl,⟨bm',m0',rfl⟩,a1,q,rfl,h1,a2,q,rfl,h2,rfl⟩:=hsl
 obtain rfl:a1 = .int .i64 xb:=h1
 obtain rfl:a2 = .int .i64 xc:=h2
 obtain ⟨bm,g,cap,vr,m0,m1,m2,m3,hj,hs⟩:=rq hok hs
 rw [m0] at m0'; cases m0'
 unfold ep at hr
 split at hr
 . rename_i hxj
   subst hxj
   cases x with
   | none=>cases hr
   | some s =>
   simp only at hr
   obtain ⟨q,hq,hr⟩:=ob hr
   simp only [Option.some.injEq,Prod.mk.injEq] at hr
   obtain ⟨rfl,rfl,rfl,rfl⟩:=hr
   obtain ⟨jn,rfl⟩:∃ jn:Nat,xb=jn:=⟨xb.toNat,by omega⟩
   simp only [Int.toNat_natCast] at hq hs hj
   refine (tP hgk hj.2 xc hq hs).mono ?_
   rintro e w' ⟨K',vr',rfl,r1,r3,r2⟩
   obtain rfl:=r3 (by simp)
   obtain ⟨m',H,e1,e2,e3,e4,e5⟩:=pU (j:=(jn:Int)) hlen m0 m1 m2 m3 (by simpa using hj) r2
   refine ⟨_,K',_,rfl,⟨[(0,.bool q.1)],⟨[],10,H,[]⟩,m',?_,e2,e3,e4,rfl,rfl⟩,r1,e5⟩
   show Sh.un ⟨[(0,.dat .bool)],dB⟩ [⟨.bool,q.1⟩,⟨.sl MxB.tp,l⟩,⟨.int .i64,(jn:Int)⟩,⟨MxB.tp,q.2⟩] 7=_
   have:∀ H,unB [0,1,2,3] dB [0,1,2,3] ⟨[⟨.sl MxB.tp,l⟩,⟨.int .i64,(jn:Int)⟩,⟨MxB.tp,q.2⟩],7,[],[]⟩=some ⟨[],10,H,[]⟩→Sh.un ⟨[(0,.dat .bool)],dB⟩ [⟨.bool,q.1⟩,⟨.sl MxB.tp,l⟩,⟨.int .i64,(jn:Int)⟩,⟨MxB.tp,q.2⟩] 7=some ([(0,.bool q.1)],⟨[],10,H,[]⟩):=fun H h=>by cases h; rfl
   exact this H e1
 . cases hr
def sG:OkSpec Tryd.prog:=⟨fT,sE,Tryd.call81⟩
theorem sC:aV Tryd.prog fR:=by
 intro x r hr vs u hu m K args hgk hlen hok hsl E w F hs
 obtain ⟨xb,cols,l,j,x⟩:Int×Int×List (Option (Int×List Int))×Int×Option (Int×List Int):=x
 obtain ⟨l',j',x'⟩:List (Option (Int×List Int))×Int×Option (Int×List Int):=r
 have hu':fR.inn.un (TL.list fR.inn.ts ((xb,cols,l,j,x):Int×Int×List (Option (Int×List Int))×Int×Option (Int×List Int))) 0=some ([(0,.ptr 0 0),(1,.int .i64 xb)],⟨[],7,[HA.od 2 6 MxB x,.hole 1 5 MxP MxB l j [.own 2],.blk 0 4 79 [.is 3 (.int .i64 cols),.own 1]],[]⟩):=rfl
 rw [show fR.inn.un (TL.list _ _) 0=_ from hu'] at hu
 cases hu
 replace hr:en xb cols l j x=some (l',j',x'):=hr
 obtain ⟨a0,q,rfl,⟨bm',m0',rfl⟩,a1,q,rfl,h1,rfl⟩:=hsl
 obtain rfl:a1 = .int .i64 xb:=h1
 obtain ⟨bm,g,cap,vr,m0,m1,m2,m3,hj,hs⟩:=rq hok hs
 rw [m0] at m0'; cases m0'
 unfold en at hr
 split at hr
 . rename_i hxj
   subst hxj
   simp only [Option.some.injEq,Prod.mk.injEq] at hr
   obtain ⟨rfl,rfl,rfl⟩:=hr
   obtain ⟨jn,rfl⟩:∃ jn:Nat,xb=jn:=⟨xb.toNat,by omega⟩
   simp only [Int.toNat_natCast] at hs hj
   obtain ⟨hf,p,rfl⟩:=pK (Sep.front 2 rfl hs)
   have hc:w.cell? ⟨bm',1,none⟩=some (.slice (some ⟨g,0,none⟩) l.length cap):=by
     have hcl:=hs.cl
     simp [World.cell?,hcl]
   have hcj:w.cell? ⟨g,jn,none⟩=some (.pointer p):=by
     obtain ⟨cs,R,q1,q2,q3,_⟩:=rH hj.2 hs.swap
     exact (dT q3 jn _ q2).1
   refine (jP bm' g l.length cap w hc hj.2 hcj).mono ?_
   rintro e w' ⟨rfl,rfl⟩
   obtain ⟨m',H,e1,e2,e3,e4,e5⟩:=pU (j:=(jn:Int)) hlen m0 m1 m2 m3 (by simpa using hj) hs
   refine ⟨_,K,_,rfl,⟨[(0,.own 2)],⟨[],10,H,[]⟩,m',?_,e2,e3,e4,⟨ag e2 m2,rfl⟩,rfl⟩,Hp.le_refl K,e5⟩
   have:∀ H,unB [0,1,2,3] dB [0,1,2,3] ⟨[⟨.sl MxB.tp,l⟩,⟨.int .i64,(jn:Int)⟩,⟨MxB.tp,x⟩],7,[],[]⟩=some ⟨[],10,H,[]⟩→Sh.un ⟨[(0,.rp 2)],dB⟩ [⟨.sl MxB.tp,l⟩,⟨.int .i64,(jn:Int)⟩,⟨MxB.tp,x⟩] 7=some ([(0,.own 2)],⟨[],10,H,[]⟩):=fun H h=>by cases h; rfl
   exact this H e1
 . cases hr
def sD:OkSpec Tryd.prog:=⟨fR,sC,Tryd.call79⟩
def nt:Spec:=⟨80,⟨[(0,.rp 0)],[⟨none,0,[],false,true,none,false⟩]⟩,[⟨[(0,.fn 89 [.ptr 1 0])],[⟨some 0,0,[],false,true,none,false⟩,⟨none,MxP,[.rp 0],false,false,none,false⟩]⟩],fun _=>some ()⟩
theorem sL:aV Tryd.prog nt:=ak Tryd.func80 .nil (by kernel_rfl) (by kernel_rfl)
def sJ:OkSpec Tryd.prog:=⟨nt,sL,Tryd.call80⟩
def ie (xb qa0:Int):(Int×Bool×List (Option (Int×List Int))×Int×Option (Int×List Int))→Option ((Int×Bool×List (Option (Int×List Int))×Int×Option (Int×List Int))⊕(Bool×List (Option (Int×List Int))×Int×Option (Int×List Int))):=fun s =>
 cond (decide (0≤s.1)) ((ep xb s.1 qa0 s.2.2.1 s.2.2.2.1 s.2.2.2.2).bind fun q=>cond q.1
   ((cF q.2.2.2 (IntKind.wrap .i64 (s.1 + 1))).bind fun i=>some (.inl (i,true,q.2.1,q.2.2.1,q.2.2.2)))
   ((cF q.2.2.2 (IntKind.wrap .i64 (s.1 + 1))).bind fun i=>some (.inl (i,s.2.1,q.2.1,q.2.2.1,q.2.2.2))))
 (some (.inr (s.2.1,s.2.2.1,s.2.2.2.1,s.2.2.2.2)))
def ik (xb:Int) (qa0:Int) (qa1:(List (Option (Int×(List Int))))):Option ((Bool×(List (Option (Int×(List Int)))))) :=
 (ae qa1 xb).bind fun x=>(en xb qa0 qa1 xb x).bind fun q=>(some ()).bind fun _=>(cF q.2.2 0).bind fun i =>
   (loop (ie xb qa0) (i,false,q.1,q.2.1,q.2.2):Option (Bool×List (Option (Int×List Int))×Int×Option (Int×List Int))).bind fun z=>some (z.1,z.2.1.set z.2.2.1.toNat z.2.2.2)
def nj:Spec:=⟨57,⟨[(0,.ptr 0 0),(1,.dat (.int .i64))],[⟨none,79,[.is 1 (.dat (.int .i64)),.od MxM],false,false,none,false⟩,⟨none,0,[],false,true,none,false⟩]⟩,[⟨[(0,.dat .bool)],[⟨(some 0),79,[.is 1 (.any),.od MxM],false,false,none,false⟩,⟨(some 1),0,[],false,true,none,false⟩]⟩],fun x=>ik x.1 x.2.1 x.2.2⟩
abbrev mxW:List Bk:=[⟨some 11,4,[.dat .bool],false,false,none,false⟩,⟨some 22,0,[],false,false,none,true⟩,⟨some 0,79,[.is 5 .any,.rp 3],false,false,none,false⟩,⟨some 2,MxP,[.rp 4],true,false,some MxB,false⟩,⟨some 6,0,[],false,false,some MxB,false⟩,⟨some 1,0,[],false,true,none,false⟩]
def sy:Hn Tryd.prog := .opn 2 1000001 (.cl sD [] (.cl sJ [] (.rg ⟨89,_,Tryd.func89,Tryd.call89⟩ (.cl na [6]
 (.jn [] ⟨[],mxW⟩ [22,11,0,2,6] (.lp ⟨[(3,.dat (.int .i64))],mxW⟩ (.tw 7 (.yl 2 (.cl sG [] (.tw 15 (.cl na [6] (.nil)) (.cl na [6] (.nil))))) (.nil))) (.cls 2 25 (.nil)))))))
theorem sw:aV Tryd.prog nj:=ak Tryd.func57 sy (by kernel_rfl) (by kernel_rfl)
def su:OkSpec Tryd.prog:=⟨nj,sw,Tryd.call57⟩
end
end
end Go.Proofs.YtcfehoggnpafmaaDoor

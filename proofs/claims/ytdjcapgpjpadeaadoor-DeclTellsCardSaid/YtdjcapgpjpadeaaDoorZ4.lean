/- A part of the proof: what lies ahead of the law. Nothing is claimed here. -/
import Derived.Test.YtdjcapgpjpadeaaDoorZ3
import Derived.RangeFuncRecord
import Derived.Shelf.Small.Bits
import Derived.Shelf.Small.Wraps
import Derived.Shelf.Strconv.Itoa0
import Derived.Shelf.Sort.Plain
import Derived.Ground.Names2Prog
import Derived.Shelf.Slices.CompactI
import Derived.Shelf.Slices.SearchI
import Derived.Shelf.Slices.Cells
import Derived.Shelf.Slices.In.SortNone
import Derived.Test.YtdjcapgpjpadeaaDoorProg
import Derived.Sort.OwnSortedInts
import Derived.Shelf.Spec.TrailingZeros
import Derived.Test.YtdjcapgpjpadeaaDoorRows
import Derived.Tactics
import Derived.Tactics2
import Derived.RegionTactic
import Derived.Deep.RegionWith
namespace Go.Proofs.YtdjcapgpjpadeaaDoor
noncomputable section
set_option linter.unusedVariables false
set_option linter.unusedSimpArgs false
set_option linter.unnecessarySimpa false
set_option linter.unusedSectionVars false
open Go.RowKit
section
variable [BldA]
def Hp.del (K:Hp) (D:Nat):Hp:=fun n=>if n=D then none else K n
theorem Hp.cle_del {K:Hp} {D:Nat} {x:Option (List Deferred)} (h:K D=some (.deferred x)):K.cle (K.del D):=fun g o v e=>by
 unfold aJ Hp.del at *
 by_cases hg:g=D
 . subst hg; rw [h] at e; cases e
 . rw [if_neg hg]; exact e
section
variable {P:Program} {E:En} {n:Nat} {m:List M} {K:Hp} {fr:Frz} {σ:Zt} {ρ:Sl1} {w:World}
theorem Rel.unmark (hr:Rel E fr σ m K ρ w) {K2:Hp} {w2:World} (hc:K.cle K2) (hk:fr.K.le K2) (h0:fr.k0.le K2) (hs:Sep E K2 (σ.atoms fr m) w2):Rel E fr ⟨σ.base,σ.top,σ.H,σ.Hf,σ.nx,false⟩ m K2 ⟨ρ.f,[]⟩ w2 where
 hm:=hr.hm
 hK:=hk
 nx:=hr.nx
 kq:=fun e=>(by cases e)
 base:=hr.base
 dead:=hr.dead
 old:=hr.old
 top:=fun i sv hi=>SV.monoC (fun _ _ h=>h) hc sv (hr.top i sv hi)
 okH:=fun a ha=>HA.ok_monoC (fun _ _ h=>h) hc (hr.okH a ha)
 okF:=hr.okF
 mks:=MOk.nil hr.mks.1.1 h0
 sep:=hs
theorem iv {fn:Func} {tmps:Array Value} {R:Ending→World→Prop} {L:List aa} {k0:Hp}:∀ (ds:List Deferred) {K:Hp} {w:World},MOk k0 K ds→Sep E K L w →
   (∀ K2 w2,K.cle K2→k0.le K2→Sep E K2 L w2→∃ v,(results fn tmps).run P w2 = .ok v w2∧R (.returned v) w2)→LeavesInM Fence.wide 0 P fn tmps R ds .returning w
 | [],K,w,hm,hs,h=>h K w (Hp.cle_refl K) hm.1.2 hs
 | d :: ds,K,w,hm,hs,h=>by
   obtain ⟨D,rfl,hD,h0⟩:=hm.2.1 d (by simp)
   have hw:w.heap[D]? = some (.deferred (some [])):=hs.sub D _ hD
   have hnd:=List.nodup_cons.1 hm.2.2
   refine ⟨by simp,.inl ⟨D,w.putObj D (.deferred none),rfl,run_takeDeferred hw,?_⟩⟩
   have other:∀ (k:Nat) (o:Obj),k≠D→w.heap[k]? = some o→(w.putObj D (.deferred none)).heap[k]? = some o:=fun k o hne e=>by rw [World.putObj_heap_other hne]; exact e
   have hs1:Sep E (K.del D) L (w.putObj D (.deferred none)):=by
     refine Sep.move (w:=w) (w':=w.putObj D (.deferred none)) (fun e=>e) hs (fun k o e=>?_) (fun k o e e1=>?_)
     . unfold Hp.del at e
       split at e
       . cases e
       . rename_i hne; exact other k o hne (hs.sub k o e)
     . have hne:k≠D:=fun e2=>by rw [e2,hD] at e1; cases e1
       exact ⟨by unfold Hp.del; rw [if_neg hne]; exact e1,other k o hne e⟩
   refine iv ds ⟨⟨hm.1.1,fun k o e=>?_⟩,fun d' hd'=>?_,hnd.2⟩ hs1 (fun K2 w2 c1 c2 c3=>h K2 w2 ((Hp.cle_del hD).trans c1) c2 c3)
   . unfold Hp.del
     rw [if_neg (fun e2=>by rw [e2,h0] at e; cases e)]
     exact hm.1.2 k o e
   . obtain ⟨D',rfl,h1,h2⟩:=hm.2.1 d' (List.mem_cons_of_mem _ hd')
     refine ⟨D',rfl,?_,h2⟩
     unfold Hp.del
     rw [if_neg (fun e=>hnd.1 (by rw [← e]; exact hd'))]
     exact h1
end
section
variable {P:Program} {E:En} {K:Hp} {L:List aa} {w:World}
theorem LpA.at {l:Nat} {r:Loop} (h:Sep E K (LpA l r :: L) w):w.heap[l]? = some (.loop r):=by
 obtain ⟨h1,rfl,hd,hs⟩:=h
 exact hs.sub l _ (Hp.join_right (aC l _) (hd l _ (aC l _)))
theorem LpA.put {l:Nat} {r r':Loop} (h:Sep E K (LpA l r :: L) w):Sep E K (LpA l r' :: L) (w.putObj l (.loop r')):=by
 have hw:=LpA.at h
 have hlt:=(Array.getElem?_eq_some_iff.1 hw).1
 refine Sep.turn h (fun e=>e) (fun h1 hA hle=>?_)
 obtain rfl:=hA
 refine ⟨one l (.loop r'),rfl,fun n o e=>?_,fun n o e e1=>?_⟩
 . obtain ⟨rfl,rfl⟩:=bS e
   exact ⟨World.putObj_heap_same hlt,fun e2=>by rw [aC] at e2; cases e2⟩
 . have hne:n≠l:=fun e2=>by subst e2; rw [aC] at e1; cases e1
   rw [World.putObj_heap_other hne]; exact e
theorem sj {l₀:Nat} {r₀:Loop} (h:w.heap[l₀]? = some (.loop r₀)) (fn:FuncId) (tmps:Array Value) (ps:Array Tmp) (assign body:Code) :
   (Instr.enterLoop fn tmps ps assign body (some l₀)).run P w =
     .ok (w.heap.size,[]) (w.alloc (.loop { state := .ready,pending:=none,fn,tmps,params:=ps,assign,body,defers:=r₀.defers })):=by
 unfold Instr.enterLoop
 simp only [Sem.run_bind,run_getLoop h,run_newObj_alloc,Result.andThen,Sem.run_pure]
theorem Sep.allocO (h:Sep E K L w) (o:Obj):Sep E K ((fun hh=>hh=one w.heap.size o) :: L) (w.alloc o) :=
 Sep.turn h.emp (fun e=>e) (fun h0 ha _=>by
   unfold _root_.Go.Proofs.YtdjcapgpjpadeaaDoor.emp at ha; subst ha
   refine ⟨one w.heap.size o,rfl,fun n x e=>?_,fun n x e _=>?_⟩
   . obtain ⟨rfl,rfl⟩:=bS e
     exact ⟨World.alloc_heap_new w _,fun _=>Array.getElem?_eq_none (Nat.le_refl _)⟩
   . rw [Below.heap_alloc _ _ _ (lt_of_block e)]; exact e)
theorem Sep.known {o:Obj} {b:Nat} (h:Sep E K ((fun hh=>hh=one b o) :: L) w):Sep E (K.join (one b o)) L w∧K b=none:=by
 obtain ⟨h1,rfl,hd,hs⟩:=h
 exact ⟨hs,hd b _ (aC b o)⟩
end
def dW (r:Loop):Loop:={ r with state := .busy,pending:=none }
def fy (E:En) (fr:Frz):Prop:=∀ l,E.rd=some l→∃ r,LpA l r∈fr.F
section
variable {R:Type} {P:Program} {E:En} {n:Nat} {m m':List M} {K K':Hp} {fr:Frz} {σ σ':Zt} {ρ ρ':Sl1} {w w':World}
def Fok (P:Program) (n:Nat) (c:Code) (f:Hn P→Zt→(R:Type)→(Exit→Hn P→Zt→Option R)→Option R):Prop :=
 ∀ (R:Type) (E:En) (fr:Frz),fy E fr→∀ (h:Hn P) (σ:Zt) (k:Exit→Hn P→Zt→Option R) (r:R) (m:List M) (K:Hp) (ρ:Sl1) (w:World) (Q:Exit→Act→World→Prop),f h σ R k=some r→Rel E fr σ m K ρ w →
   (∀ e h' σ' m' K' ρ' w',Rel E fr σ' m' K' ρ' w'→Same σ σ'→k e h' σ'=some r→Q e (act1 n ρ') w')→c.wpIn (aw E.rd) 0 P Q (act1 n ρ) w
def JOk (J:Rn P):Prop:=∀ n c,Fok P n c (fun h σ R k=>J n c R h σ k)
def cz:List Nat→List Value→Sl0→Sl0
 | p :: ps,x :: xs,f=>cz ps xs (upd f p x)
 | _,_,f=>f
theorem vh {ρ:Sl0} {p:Nat} {v:Value}:(frm n ρ).setIfInBounds p v=frm n (upd ρ p v):=by
 have h:=congrArg Act.tmps (Go.Proofs.YtdjcapgpjpadeaaDoor.put_act n ρ p v)
 unfold act Act.put at h
 exact h
theorem nG:∀ (ps:List Nat) (xs:List Value) (ρ:Sl0),(ps.zip xs).foldl (fun t (q:Nat×Value)=>t.setIfInBounds q.1 q.2) (frm n ρ)=frm n (cz ps xs ρ)
 | [],xs,ρ=>rfl
 | p :: ps,[],ρ=>rfl
 | p :: ps,x :: xs,ρ=>by
   show (ps.zip xs).foldl _ ((frm n ρ).setIfInBounds p x)=_
   rw [vh]
   exact nG ps xs (upd ρ p x)
theorem nH:∀ (ps:List Nat) {xs:List SV} {us:List Value} {f:Nat→SV} {ρ:Sl0},SV.relL m K xs us→(∀ i,SV.rel m K (f i) (ρ i))→∀ i,SV.rel m K (jB ps xs f i) (cz ps us ρ i)
 | [],xs,us,f,ρ,h,hf,i=>hf i
 | p :: ps,[],us,f,ρ,h,hf,i=>by
   obtain rfl:=aA h
   exact hf i
 | p :: ps,x :: xs,us,f,ρ,h,hf,i=>by
   obtain ⟨u,r,rfl,h1,h2⟩:=ax h
   refine nH ps (us:=r) (ρ:=upd ρ p u) h2 (fun j=>?_) i
   show SV.rel m K (bif Nat.beq j p then x else f j) (bif Nat.beq j p then u else ρ j)
   cases Nat.beq j p with
   | true=>exact h1
   | false=>exact hf j
theorem iB:∀ {xs:List SV} {us:List Value},SV.relL m K xs us→us.length=xs.length
 | [],us,h=>by obtain rfl:=aA h; rfl
 | x :: xs,us,h=>by
   obtain ⟨u,r,rfl,h1,h2⟩:=ax h
   simp [iB h2]
theorem sZ {J:Rn P} (hJ:JOk J) {c:SV} {xs:List SV} {h:Hn P} {k:Hn P→Zt→Bool→Option R} {r:R} (hh:lF J σ c xs h k=some r) (hr:Rel E fr σ m K ρ w) {us:List Value} {v:Value} (hv:SV.rel m K c v) (hxs:SV.relL m K xs us) {X:Ending→World→Prop}
   (hX:∀ h' σ' m' K' w' b,Rel E fr σ' m' K' ρ w'→Same σ σ'→k h' σ' b=some r→X (.returned (.bool b)) w') :
   ∃ l,v = .func (.yield l) #[] #[]∧∃ fn tmps ao bo,(Instr.yield l us.toArray).run P w = .ok (.round l fn tmps ao bo) w∧RoundIn (aw E.rd) 0 P l fn tmps ao bo w X:=by
 unfold lF at hh
 split at hh
 . rename_i i n0 vs0 ps ao bo
   obtain ⟨l,rr,ρ0,rfl,hm,ht,hp,ha,hb,hvs⟩:=hv
   replace hh:=ab hh; obtain ⟨hlen,hh⟩:=hh
   have hlen:=Nat.eq_of_beq_eq_true hlen
   split at hh
   . rename_i H hq
     obtain ⟨a,ha',hmem,hperm⟩:=aY hq
     obtain rfl:=lN ha'
     have hsub:∀ a∈H,a∈σ.H:=fun a ha=>hperm.symm.subset (List.mem_cons_of_mem _ ha)
     -- the record, ahead
     have hs0:Sep E K (LpA l (LSt.ready.cr rr) :: (H.map (HA.conc m)++σ.fz fr)) w:=by
       have:=Sep.perm ((hperm.map (HA.conc m)).append_right (σ.fz fr)) hr.toSep
       simpa only [List.map_cons,HA.conc,hm,List.cons_append] using this
     have hw:=LpA.at hs0
     have hy:=run_yield (P:=P) (args:=us.toArray) hw (by
       show us.toArray.size=rr.params.size
       rw [hp,List.size_toArray,iB hxs,hlen])
     refine ⟨l,rfl,_,_,_,_,hy,roundIn_of_wpIn trivial ?_⟩
     have htm:(((LSt.ready.cr rr).params.zip us.toArray).foldl (fun tmps (t,a)=>tmps.setIfInBounds t a) (LSt.ready.cr rr).tmps)=frm n0 (cz ps.toList us ρ0):=by
       show ((rr.params.zip us.toArray).foldl _ rr.tmps)=_
       rw [hp,ht,← Array.foldl_toList,Array.toList_zip]
       exact nG ps.toList us ρ0
     rw [htm]
     show rr.assign.wpIn (aw (some l)) 0 P _ (act1 n0 ⟨cz ps.toList us ρ0,[]⟩) w
     rw [ha]
     have hE:∀ (L:List aa) (K:Hp) (w:World),Sep E K L w→Sep { E with rd:=some l } K L w:=fun L K w=>Sep.rd (E:=E) (E':={ E with rd:=some l }) (fun w h=>h)
     have hE':∀ (L:List aa) (K:Hp) (w:World),Sep { E with rd:=some l } K L w→Sep E K L w:=fun L K w=>Sep.rd (E:={ E with rd:=some l }) (E':=E) (fun w h=>h)
     have mid:∀ (A B C:List aa) (x:aa),(A++(B++x :: C)).Perm (x :: (A++(B++C))):=fun A B C x=>by
       rw [← List.append_assoc,← List.append_assoc]; exact List.perm_middle
     have hrel:Rel { E with rd:=some l } ⟨m,K,⟨cz ps.toList us ρ0,[]⟩,fun _=>false,LpA l (LSt.ready.cr rr) :: fr.F,K⟩ ⟨jB ps.toList xs vs0,[],H,σ.Hf,σ.nx,false⟩ m K ⟨cz ps.toList us ρ0,[]⟩ w:=by
       refine ⟨⟨List.prefix_refl m,Hp.le_refl K,hr.nx,fun e=>(by cases e),fun i=>nH ps.toList hxs hvs i,fun i e=>(by cases e),fun i _ => .inr rfl,fun i sv e=>(by cases e),fun a ha=>hr.okH a (hsub a ha),fun a ha=>hr.toPur.all a (List.mem_append_right _ ha),MOk.nil hr.mks.gk (Hp.le_refl K)⟩,?_⟩
       show Sep _ K (H.map (HA.conc m)++(σ.Hf.map (HA.conc m)++(LpA l (LSt.ready.cr rr) :: fr.F))) w
       refine hE _ _ _ (Sep.perm (mid _ _ _ _).symm ?_)
       rw [hr.toPur.fz']
       exact hs0
     refine hJ n0 ao _ { E with rd:=some l } ⟨m,K,⟨cz ps.toList us ρ0,[]⟩,fun _=>false,LpA l (LSt.ready.cr rr) :: fr.F,K⟩ (by intro l2 e; cases e; exact ⟨_,List.mem_cons_self⟩) h _ _ r m K _ w _ hh hrel (fun e h' σ1 m1 K1 ρ1 w1 h1 h2 h3=>?_)
     cases e with
     | normal =>
       have hs1:Sep E K1 (LpA l (LSt.ready.cr rr) :: (σ1.H.map (HA.conc m1)++(σ1.Hf.map (HA.conc m)++fr.F))) w1:=Sep.perm (mid _ _ _ _) (hE' _ _ _ h1.sep)
       have hw1:=LpA.at hs1
       refine ⟨w1.putObj l (.loop (dW rr)),run_beginRound hw1 rfl,?_⟩
       have hs2:=LpA.put (r':=(dW rr)) hs1
       have hrel2:Rel { E with rd:=some l } ⟨m,K,⟨cz ps.toList us ρ0,[]⟩,fun _=>false,LpA l (dW rr) :: fr.F,K⟩ σ1 m1 K1 ρ1 (w1.putObj l (.loop (dW rr))) :=
         ⟨⟨h1.hm,h1.hK,h1.nx,h1.kq,h1.base,h1.dead,h1.old,h1.top,h1.okH,h1.okF,h1.mks⟩,hE _ _ _ (Sep.perm (mid _ _ _ _).symm hs2)⟩
       show (LSt.ready.cr rr).body.wpIn (aw (some l)) 0 P _ (act1 n0 ρ1) _
       rw [show (LSt.ready.cr rr).body=bo from hb]
       refine hJ n0 bo _ { E with rd:=some l } ⟨m,K,⟨cz ps.toList us ρ0,[]⟩,fun _=>false,LpA l (dW rr) :: fr.F,K⟩ (by intro l2 e; cases e; exact ⟨_,List.mem_cons_self⟩) h' σ1 _ r m1 K1 ρ1 _ _ h3 hrel2 (fun e2 h'' σ2 m2 K2 ρ2 w2 g1 g2 g3=>?_)
       have hs3:Sep E K2 (LpA l (dW rr) :: (σ2.H.map (HA.conc m2)++(σ2.Hf.map (HA.conc m)++fr.F))) w2:=Sep.perm (mid _ _ _ _) (hE' _ _ _ g1.sep)
       have hw3:=LpA.at hs3
       have back:∀ (s:LSt) (b:Bool) (jump:Option Code),qJ e2=some (b,s)→b=jump.isNone→s.cr rr = { dW rr with state:=if jump.isNone then .ready else .done,pending:=jump } →
           ∃ v w',(Instr.endRound l jump).run P w2 = .ok v w'∧X (.returned v) w':=fun s b jump e1 e2 e3=>by
         subst e2
         rw [e1] at g3
         simp only at g3
         refine ⟨_,_,run_endRound jump hw3,?_⟩
         refine hX h'' ⟨σ.base,σ.top,.lp i s :: σ2.H,σ.Hf,σ2.nx,false⟩ m2 K2 _ _ ?_ ⟨rfl,rfl⟩ g3
         have hm2:m <+: m2:=g1.hm
         have hK2:K.le K2:=g1.hK
         have hm2':∀ (i:Nat) (x:M),m[i]? = some x→m2[i]? = some x:=fun _ _ k=>ag hm2 k
         refine ⟨⟨hr.hm.trans hm2,hr.hK.trans hK2,g1.nx,fun e=>(by cases e),hr.base,hr.dead,hr.old,fun i sv hi=>SV.mono hm2' hK2 sv (hr.top i sv hi),fun a ha=>?_,hr.okF,hr.mks.mono hK2⟩,?_⟩
         . rcases List.mem_cons.1 ha with rfl | ha
           . exact ⟨l,rr,hm2' _ _ hm⟩
           . exact g1.okH a ha
         . have:=LpA.put (r':=s.cr rr) hs3
           have hHf:σ2.Hf=σ.Hf:=(h2.trans g2).2
           rw [hHf,hr.toPur.fz'] at this
           show Sep E K2 ((HA.lp i s :: σ2.H).map (HA.conc m2)++(σ.Hf.map (HA.conc fr.m)++fr.F)) _
           simp only [List.map_cons,HA.conc,hm2' _ _ hm,List.cons_append]
           rw [e3] at this ⊢
           exact this
       cases e2 with
       | normal=>exact back .ready true none rfl rfl rfl
       | ret=>exact back .ret false (some .ret) rfl rfl rfl
       | exit id=>exact back (.exit id) false (some (.exit id)) rfl rfl rfl
       | goto t=>cases g3
       | panic ch=>cases g3
       | outgrown=>cases g3
     | exit id=>cases h3
     | goto t=>cases h3
     | ret=>cases h3
     | panic ch=>cases h3
     | outgrown=>cases h3
   . cases hh
 . cases hh
theorem tD {F:Fence} {N:Nat} {o:Oper} {a:Act} {w:World} {X:Act→World→Prop} {Q Q':Exit→Act→World→Prop} (hq:∀ e a w,Q e a w→e ≠ .normal→Q' e a w) (hh:o.wpIn F N P a w X Q):o.wpIn F N P a w X Q':=by
 unfold Oper.wpIn at *
 refine ⟨hh.1,?_⟩
 have hh:=hh.2
 have lo:LetsOut Q→LetsOut Q':=fun ⟨a,w,h⟩=>⟨a,w,hq _ _ _ h nofun⟩
 generalize (o.semAt F.round a.eval).run P w=r at *
 cases r with
 | ok x w' =>
   cases x <;> simp only [Oper.uponIn] at hh ⊢ <;>
     first
       | exact hh
       | exact ⟨hh.1,CallsIn.mono hh.2 (fun e w'' he=>by cases e <;> first | exact he | exact hq _ _ _ he nofun | exact lo he)⟩
       | exact ⟨hh.1,RowsIn.mono hh.2 (fun _ _ he=>he)⟩
       | exact ⟨hh.1,RoundIn.mono hh.2 (fun e w'' he=>by cases e <;> first | exact he | exact hq _ _ _ he nofun | exact lo he)⟩
       | exact hh.elim
 | halt x w'=>cases x <;> simp only [Oper.uponIn] at hh ⊢ <;> first | exact hq _ _ _ hh nofun | exact lo hh | exact hh
theorem kh {r:Option Nat} {ops:Array Oper} {Q:Exit→Act→World→Prop} {rest:List Oper}:∀ {l:List Oper} {a:Act} {w:World},l.all bz=true→ah P ops (fun e a w=>e = .normal∧wpListIn (aw r) 0 P ops Q rest a w) l a w→wpListIn (aw r) 0 P ops Q (l++rest) a w
 | [],a,w,_,h=>h.2
 | o :: l,a,w,hd,h=>by
   simp only [List.all_cons,Bool.and_eq_true] at hd
   unfold ah at h
   rw [List.cons_append]
   unfold wpListIn
   split
   . rename_i hw; rw [if_pos hw] at h
     exact tD (fun e a w h hne=>absurd h.1 hne) (Oper.wpIn_mono (fun a w h=>kh hd.2 h) (iz hd.1 h))
   . rename_i hw; rw [if_neg hw] at h
     exact ⟨fun _ _=>trivial,kh hd.2 h⟩
theorem kW {f:Operand→SV} {g:Operand→Value} (hf:∀ x,SV.rel m K (f x) (g x)):∀ l:List Operand,SV.relL m K (l.map f) (l.map g)
 | []=>rfl
 | x :: l=>⟨_,_,rfl,hf x,kW hf l⟩
theorem kQ:∀ {vs:List SV} {us:List Value} {j i:Nat} {sv:SV},SV.relL m K vs us→ai (slA j vs) i=some sv→∃ k u,i=j + k∧us[k]? = some u∧SV.rel m K sv u
 | [],us,j,i,sv,h,hl=>by cases hl
 | v :: vs,us,j,i,sv,h,hl=>by
   obtain ⟨u,q,rfl,h1,h2⟩:=ax h
   change (bif Nat.beq j i then some v else ai (slA (j + 1) vs) i)=some sv at hl
   cases hb:Nat.beq j i with
   | true =>
     rw [hb] at hl
     cases hl
     exact ⟨0,u,(Nat.eq_of_beq_eq_true hb).symm,rfl,h1⟩
   | false =>
     rw [hb] at hl
     obtain ⟨k,u',e1,e2,e3⟩:=kQ (j:=j + 1) h2 hl
     exact ⟨k + 1,u',by omega,by simpa using e2,e3⟩
theorem vf {fn:Func} {ρ:Sl0} {j:Nat} (h:fn.results.toList=[.tmp j]):(results fn (frm n ρ)).run P w = .ok (Go.Proofs.YtdjcapgpjpadeaaDoor.ev n ρ (.tmp j)) w:=by
 have h':fn.results = #[.tmp j]:=Array.ext' (by rw [h])
 exact Res.one (C:=fun _=>True) (v1:=Go.Proofs.YtdjcapgpjpadeaaDoor.ev n ρ (.tmp j)) h' rfl w trivial
theorem ug {J:Rn P} (hJ:JOk J) {q:ItFn P} {c:Code} (hc:q.fn.body=some c) {vs:List SV} {us:List Value} (hus:SV.relL m K vs us) {j d:Nat} (hres:q.fn.results.toList=[.tmp j]) (hlen:vs.length≤q.fn.ntmps) {h0:Hn P} {k:Hn P→Zt→Option R} {r:R}
   (hh:J q.fn.ntmps c R h0 ⟨fun _ => .any,slA 0 vs,σ.H,σ.Hf,σ.nx,false⟩ (fun e h σ'=>bif jg e then k h.unw (Zt.set ⟨σ.base,σ.top,σ'.H,σ.Hf,σ'.nx,false⟩ d (σ'.ev q.fn.ntmps (.tmp j))) else none)=some r)
   (hr:Rel E fr σ m K ρ w) {X:Ending→World→Prop}
   (hX:∀ h' σ1 sv v m' K' w',Rel E fr σ1 m' K' ρ w'→Same σ σ1→SV.rel m' K' sv v→k h' (σ1.set d sv)=some r→X (.returned v) w') :
   CallsIn (aw E.rd) 0 P q.f us.toArray w X:=by
 obtain ⟨args,hargs⟩:∃ args:Array Value,args=us.toArray:=⟨_,rfl⟩
 rw [← hargs]
 have hsz:args.size≤q.fn.ntmps:=by rw [hargs,List.size_toArray,iB hus]; exact hlen
 have hrel:Rel E.out0 ⟨m,K,bG args,fun _=>false,fr.F,K⟩ ⟨fun _ => .any,slA 0 vs,σ.H,σ.Hf,σ.nx,false⟩ m K (bG args) w:=by
   refine ⟨⟨List.prefix_refl _,Hp.le_refl K,hr.nx,fun e=>(by cases e),fun i=>trivial,fun i e=>(by cases e),fun i _ => .inr rfl,fun i sv hi=>?_,fun a ha=>hr.okH a ha,fun a ha=>hr.toPur.all a (List.mem_append_right _ ha),MOk.nil hr.mks.gk (Hp.le_refl K)⟩,?_⟩
   . obtain ⟨j',u,e1,e2,e3⟩:=kQ hus hi
     have:bG args i=u:=by
       show cv args i=u
       unfold cv
       rw [e1,Nat.zero_add,hargs]
       simp [e2]
     rw [this]; exact e3
   . show Sep E.out0 K (σ.H.map (HA.conc m)++(σ.Hf.map (HA.conc m)++fr.F)) w
     rw [hr.toPur.fz']
     exact hr.toSep.out0
 have key:CallsIn Fence.wide 0 P q.f args w X:=by
   refine callsIn_of_wp_marks (F:=Fence.wide) (n:=0) q.at_ hc trivial ?_
   rw [iJ hsz]
   refine hJ q.fn.ntmps c R E.out0 ⟨m,K,bG args,fun _=>false,fr.F,K⟩ (fun l2 e=>by cases e) h0 _ _ r _ K (bG args) w _ hh hrel (fun e h' σ' m' K' ρ' w' h1 h2 h3=>?_)
   replace h3:=ab h3; obtain ⟨hov,h3⟩:=h3
   have fini:LeavesInM Fence.wide 0 P q.fn (act1 q.fn.ntmps ρ').tmps X ρ'.ds .returning w':=by
     refine iv ρ'.ds h1.mks h1.toSep (fun K2 w2 c1 c2 c3=>?_)
     refine ⟨_,vf (n:=q.fn.ntmps) (ρ:=ρ'.f) hres,?_⟩
     have g:=h1.unmark c1 c2 c2 c3
     have hm2:m <+: m':=g.hm
     have hm2':∀ (i:Nat) (x:M),m[i]? = some x→m'[i]? = some x:=fun _ _ k=>ag hm2 k
     have hv:SV.rel m' K2 (σ'.ev q.fn.ntmps (.tmp j)) (Go.Proofs.YtdjcapgpjpadeaaDoor.ev q.fn.ntmps ρ'.f (.tmp j)):=SV.monoC (fun _ _ h=>h) c1 _ (h1.toPur.ev q.fn.ntmps (.tmp j))
     have e2:σ'.Hf.map (HA.conc m)=σ.Hf.map (HA.conc fr.m):=by rw [h2.2]; exact hr.toPur.fz'
     have hs3:Sep E K2 (σ'.H.map (HA.conc m')++(σ.Hf.map (HA.conc fr.m)++fr.F)) w2:=by
       have:=c3.back (E:=E)
       rw [← e2]; exact this
     refine hX h'.unw ⟨σ.base,σ.top,σ'.H,σ.Hf,σ'.nx,false⟩ _ _ m' K2 w2 ⟨⟨hr.hm.trans hm2,hr.hK.trans c2,g.nx,fun e=>(by cases e),hr.base,hr.dead,hr.old,fun i sv hi=>SV.mono hm2' c2 sv (hr.top i sv hi),fun a ha=>g.okH a ha,hr.okF,hr.mks.mono c2⟩,hs3⟩ ⟨rfl,rfl⟩ hv h3
   cases e with
   | normal=>exact fini
   | ret=>exact fini
   | exit id=>cases hov
   | goto t=>cases hov
   | panic ch=>cases hov
   | outgrown=>cases hov
 exact key
theorem wA {J:Rn P} (hJ:JOk J) {o:Oper} {h:Hn P} {k:Hn P→Zt→Option R} {r:R} {ops:Array Oper} {rest:List Oper} {Q:Exit→Act→World→Prop} (hh:yop J n o h σ k=some r) (hr:Rel E fr σ m K ρ w) (hwt:Region.wanted o (yielded ops (act1 n ρ).tmps)=true)
   (hk:∀ h' σ' m' K' ρ' w',Rel E fr σ' m' K' ρ' w'→Same σ σ'→k h' σ'=some r→wpListIn (aw E.rd) 0 P ops Q rest (act1 n ρ') w'):wpListIn (aw E.rd) 0 P ops Q (o :: rest) (act1 n ρ) w:=by
 unfold yop at hh
 split at hh
 . rename_i d c args ats t pos af gu
   split at hh
   . rename_i q h1
     split at hh
     . rename_i f e
       have hv:=hr.toPur.ev n c
       rw [e] at hv
       obtain ⟨caps,hv,hcaps⟩:=hv
       obtain rfl:=aA hcaps
       unfold qq at hh
       split at hh
       . rename_i cc j hcc hres
         replace hh:=ab hh; obtain ⟨hb,hh⟩:=hh
         rw [Bool.and_eq_true] at hb
         obtain rfl:=Nat.eq_of_beq_eq_true hb.1
         unfold wpListIn
         rw [if_pos hwt]
         refine ⟨fun _ _=>trivial,?_⟩
         rw [mw rfl,bn]
         have hrun:(execOp (Go.Proofs.YtdjcapgpjpadeaaDoor.ev n ρ.f) ⟨some d,.call ⟨.value c,args,ats⟩,t,pos,af,gu⟩).run P w = .ok (.enter q.f (args.toList.map (Go.Proofs.YtdjcapgpjpadeaaDoor.ev n ρ.f)).toArray) w:=by
           have e2:(args.toList.map (Go.Proofs.YtdjcapgpjpadeaaDoor.ev n ρ.f)).toArray=args.map (Go.Proofs.YtdjcapgpjpadeaaDoor.ev n ρ.f):=Array.ext' (by rw [Array.toList_map])
           have hv':Go.Proofs.YtdjcapgpjpadeaaDoor.ev n ρ.f c = .func (.func q.f) #[] #[]:=hv
           have:=q.ent (args.map (Go.Proofs.YtdjcapgpjpadeaaDoor.ev n ρ.f)) w
           rw [e2]
           simp [execOp,resolve,Deferred.ofValue,hv',invoke,this]
         rw [hrun,Oper.uponIn_enter]
         refine ⟨fun hh=>(by cases (show false=true from hh)),?_⟩
         refine ug hJ hcc (kW (fun x=>hr.toPur.evr n x) args.toList) hres (Nat.le_of_ble_eq_true hb.2) hh hr (fun h' σ1 sv v m' K' w' g1 g2 g3 g4=>?_)
         show wpListIn _ _ _ _ _ _ ((act1 n ρ).put (some d) v) _
         rw [ba]
         exact hk h' _ m' K' _ w' (g1.set (d:=d) (sv:=sv) (v:=v) g3) g2 g4
       . cases hh
     . cases hh
   . obtain ⟨l,hv,fn,tmps,ao,bo,hy,hround⟩:=sZ hJ hh hr (hr.toPur.ev n c) (kW (fun x=>hr.toPur.evr n x) args.toList)
       (X:=fun e w''=>match e with
         | .returned v=>wpListIn (aw E.rd) 0 P ops Q rest ((act1 n ρ).put (some d) v) w''
         | .panicked chain=>Q (.panic chain) (act1 n ρ) w''
         | .outgrown=>LetsOut Q)
       (fun h' σ' m' K' w' b h1 h2 h3=>by
         show wpListIn _ _ _ _ _ _ ((act1 n ρ).put (some d) (.bool b)) _
         rw [ba]
         exact hk h' _ m' K' _ w' (h1.set (d:=d) (sv := .bool b) (v := .bool b) rfl) h2 h3)
     unfold wpListIn
     rw [if_pos hwt]
     refine ⟨fun _ _=>trivial,?_⟩
     rw [mw rfl,bn]
     have hrun:(execOp (Go.Proofs.YtdjcapgpjpadeaaDoor.ev n ρ.f) ⟨some d,.call ⟨.value c,args,ats⟩,t,pos,af,gu⟩).run P w = .ok (.round l fn tmps ao bo) w:=by
       have e:(args.toList.map (Go.Proofs.YtdjcapgpjpadeaaDoor.ev n ρ.f)).toArray=args.map (Go.Proofs.YtdjcapgpjpadeaaDoor.ev n ρ.f):=Array.ext' (by rw [Array.toList_map])
       rw [e] at hy
       have hv':Go.Proofs.YtdjcapgpjpadeaaDoor.ev n ρ.f c = .func (.yield l) #[] #[]:=hv
       simp [execOp,resolve,Deferred.ofValue,hv',invoke,hy]
     rw [hrun,Oper.uponIn_round]
     refine ⟨fun hh=>(by cases (show false=true from hh)),hround.mono (fun e w'' he=>?_)⟩
     cases e <;> exact he
 . cases hh
theorem ua {fn:Func} {tmps:Array Value} (h:fn.results.isEmpty=true):∃ v,(results fn tmps).run P w = .ok v w:=by
 have h':fn.results = #[]:=by simpa using h
 refine ⟨.tuple #[],?_⟩
 unfold results
 simp [h']
theorem vK {J:Rn P} (hJ:JOk J) {ps:Array Nat} {ao bo:Code} {h0:Hn P} {k:Exit→Hn P→Zt→Option R} {r:R} {Q:Exit→Act→World→Prop} {q:ItFn P} {c:Code} (hc:q.fn.body=some c) {cs:List SV} {us:List Value} (hus:SV.relL m K cs us)
   (hres:q.fn.results.isEmpty=true) (hlen:cs.length + 1≤q.fn.ntmps)
   (hh : J q.fn.ntmps c R h0 ⟨fun _ => .any, slA 0 (.yld σ.nx n σ.get ps ao bo :: cs), .lp σ.nx .ready :: σ.H, σ.Hf, σ.nx + 1, false⟩ (fun e h σ' =>
         bif jg e then (match pick (HA.lpR σ.nx) σ'.H with
           | some (s,H)=>LSt.go s k h ⟨σ.base,σ.top,H,σ.Hf,σ'.nx,false⟩
           | none=>none) else none)=some r)
   (hr:Rel E fr σ m K ρ w) {l:Nat} {mark:List Deferred} {K1:Hp} {w1:World} {fn1:FuncId} {D:Nat}
   (hs1:Sep E K1 (LpA l { state := .ready,pending:=none,fn:=fn1,tmps:=frm n ρ.f,params:=ps,assign:=ao,body:=bo,defers:=D } :: σ.atoms fr m) w1) (hK1:K.le K1) (hm1:MOk fr.k0 K1 (mark++ρ.ds))
   (hQ:∀ e h' σ' m' K' ρ' w',Rel E fr σ' m' K' ρ' w'→Same σ σ'→k e h' σ'=some r→Q e (act1 n ρ') w') :
   CallsIn (aw E.rd) 0 P q.f (#[.func (.yield l) #[] #[]]++us.toArray) w1 (rangePost (aw E.rd) 0 P l Q { act1 n ρ with defers:=mark++(act1 n ρ).defers }):=by
 obtain ⟨r1,hr1⟩:∃ r1:Loop,r1 = { state := .ready,pending:=none,fn:=fn1,tmps:=frm n ρ.f,params:=ps,assign:=ao,body:=bo,defers:=D }:=⟨_,rfl⟩
 rw [← hr1] at hs1
 obtain ⟨args,hargs⟩:∃ args:Array Value,args=(Value.func (.yield l) #[] #[] :: us).toArray:=⟨_,rfl⟩
 have hargs':(#[.func (.yield l) #[] #[]]++us.toArray:Array Value)=args:=by rw [hargs]; exact Array.ext' (by simp)
 rw [hargs']
 have hp:=aj m [M.loop l r1]
 have hmm:∀ (i:Nat) (x:M),m[i]? = some x→(m++[M.loop l r1])[i]? = some x:=fun _ _ k=>ag hp k
 have hgn:(m++[M.loop l r1])[σ.nx]? = some (.loop l r1):=aB hr.nx
 have hsz:args.size≤q.fn.ntmps:=by
   rw [hargs,List.size_toArray,List.length_cons,iB hus]
   exact hlen
 have hall:SV.relL (m++[M.loop l r1]) K1 (.yld σ.nx n σ.get ps ao bo :: cs) (Value.func (.yield l) #[] #[] :: us) :=
   ⟨_,_,rfl,⟨l,r1,ρ.f,rfl,hgn,by rw [hr1],by rw [hr1],by rw [hr1],by rw [hr1],fun j=>SV.mono hmm hK1 _ (hr.toPur.get j)⟩,SV.monoL hmm hK1 _ hus⟩
 have hrel:Rel E.out0 ⟨m++[M.loop l r1],K1,bG args,fun _=>false,fr.F,K1⟩ ⟨fun _ => .any,slA 0 (.yld σ.nx n σ.get ps ao bo :: cs),.lp σ.nx .ready :: σ.H,σ.Hf,σ.nx + 1,false⟩ (m++[M.loop l r1]) K1 (bG args) w1:=by
   refine ⟨⟨List.prefix_refl _,Hp.le_refl K1,by simp [hr.nx],fun e=>(by cases e),fun i=>trivial,fun i e=>(by cases e),fun i _ => .inr rfl,fun i sv hi=>?_,fun a ha=>?_,fun a ha=>HA.ok_mono hmm hK1 (hr.toPur.all a (List.mem_append_right _ ha)),MOk.nil hm1.gk (Hp.le_refl K1)⟩,?_⟩
   . obtain ⟨j,u,e1,e2,e3⟩:=kQ hall hi
     have:bG args i=u:=by
       show cv args i=u
       unfold cv
       rw [e1,Nat.zero_add,hargs]
       simp [e2]
     rw [this]; exact e3
   . rcases List.mem_cons.1 ha with rfl | ha
     . exact ⟨l,r1,hgn⟩
     . exact HA.ok_mono hmm hK1 (hr.okH a ha)
   . show Sep E.out0 K1 ((HA.lp σ.nx .ready :: σ.H).map (HA.conc (m++[M.loop l r1]))++(σ.Hf.map (HA.conc (m++[M.loop l r1]))++fr.F)) w1
     have e1:σ.H.map (HA.conc (m++[M.loop l r1]))=σ.H.map (HA.conc m):=b6 (K:=K) hmm hr.okH
     have e2:σ.Hf.map (HA.conc (m++[M.loop l r1]))=σ.Hf.map (HA.conc fr.m):=(b6 (K:=K) hmm (fun a ha=>hr.toPur.all a (List.mem_append_right _ ha))).trans hr.toPur.fz'
     rw [List.map_cons,e1,e2]
     have e3:HA.conc (m++[M.loop l r1]) (.lp σ.nx .ready)=LpA l r1:=by
       simp only [HA.conc,hgn]
       rw [hr1]; rfl
     rw [e3]
     exact hs1.out0
 have key:CallsIn Fence.wide 0 P q.f args w1 (rangePost (aw E.rd) 0 P l Q { act1 n ρ with defers:=mark++(act1 n ρ).defers }):=by
   refine callsIn_of_wp_marks (F:=Fence.wide) (n:=0) q.at_ hc trivial ?_
   rw [iJ hsz]
   refine hJ q.fn.ntmps c R E.out0 ⟨m++[M.loop l r1],K1,bG args,fun _=>false,fr.F,K1⟩ (fun l2 e=>by cases e) h0 _ _ r _ K1 (bG args) w1 _ hh hrel (fun e h' σ' m' K' ρ' w' h1 h2 h3=>?_)
   replace h3:=ab h3; obtain ⟨hov,h3⟩:=h3
   have fini:LeavesInM Fence.wide 0 P q.fn (act1 q.fn.ntmps ρ').tmps (rangePost (aw E.rd) 0 P l Q { act1 n ρ with defers:=mark++(act1 n ρ).defers }) ρ'.ds .returning w':=by
     split at h3
     . rename_i s H hq
       obtain ⟨a,ha',hmem,hperm⟩:=aY hq
       obtain rfl:=lN ha'
       have hsub:∀ a∈H,a∈σ'.H:=fun a ha=>hperm.symm.subset (List.mem_cons_of_mem _ ha)
       refine iv ρ'.ds h1.mks h1.toSep (fun K2 w2 c1 c2 c3=>?_)
       obtain ⟨v,hv⟩:=ua (P:=P) (w:=w2) (tmps:=(act1 q.fn.ntmps ρ').tmps) hres
       refine ⟨v,hv,?_⟩
       have g:=h1.unmark c1 c2 c2 c3
       have hmp:m++[M.loop l r1] <+: m':=g.hm
       have hgn':m'[σ.nx]? = some (.loop l r1):=ag hmp hgn
       have hm2:m <+: m':=hp.trans hmp
       have hm2':∀ (i:Nat) (x:M),m[i]? = some x→m'[i]? = some x:=fun _ _ k=>ag hm2 k
       have e2:σ'.Hf.map (HA.conc (m++[M.loop l r1]))=σ.Hf.map (HA.conc fr.m):=by
         rw [h2.2]
         exact (b6 (K:=K) hmm (fun a ha=>hr.toPur.all a (List.mem_append_right _ ha))).trans hr.toPur.fz'
       have hs3:Sep E K2 (LpA l (s.cr r1) :: (H.map (HA.conc m')++(σ.Hf.map (HA.conc fr.m)++fr.F))) w2:=by
         have:=Sep.perm ((hperm.map (HA.conc m')).append_right (σ'.Hf.map (HA.conc (m++[M.loop l r1]))++fr.F)) c3.back
         rw [e2] at this
         simpa only [List.map_cons,HA.conc,hgn',List.cons_append] using this
       have hnb:(s.cr r1).state ≠ .busy:=by cases s <;> simp [LSt.cr]
       refine ⟨_,_,run_endLoop (LpA.at hs3) hnb,?_⟩
       have hs4:=(LpA.put (r':={ s.cr r1 with state := .exhausted }) hs3).drop
       have hKK:K.le K2:=hK1.trans c2
       have hrel4:Rel E fr ⟨σ.base,σ.top,H,σ.Hf,σ'.nx,false⟩ m' K2 ⟨ρ.f,mark++ρ.ds⟩ (w2.putObj l (.loop { s.cr r1 with state := .exhausted })) :=
         ⟨⟨hr.hm.trans hm2,hr.hK.trans hKK,g.nx,fun e=>(by cases e),hr.base,hr.dead,hr.old,fun i sv hi=>SV.mono hm2' hKK sv (hr.top i sv hi),fun a ha=>g.okH a (hsub a ha),hr.okF,hm1.mono c2⟩,hs4⟩
       cases s with
       | ready=>exact hQ .normal h' _ m' K2 ⟨ρ.f,mark++ρ.ds⟩ _ hrel4 ⟨rfl,rfl⟩ h3
       | ret=>exact wpIn_ret (hQ .ret h' _ m' K2 ⟨ρ.f,mark++ρ.ds⟩ _ hrel4 ⟨rfl,rfl⟩ h3)
       | exit id=>exact wpIn_exit (hQ (.exit id) h' _ m' K2 ⟨ρ.f,mark++ρ.ds⟩ _ hrel4 ⟨rfl,rfl⟩ h3)
     . cases h3
   cases e with
   | normal=>exact fini
   | ret=>exact fini
   | exit id=>cases hov
   | goto t=>cases hov
   | panic ch=>cases hov
   | outgrown=>cases hov
 exact key
theorem uH {J:Rn P} (hJ:JOk J) (hrd:fy E fr) {g:Operand} {ps:Array Nat} {ao bo:Code} {h:Hn P} {k:Exit→Hn P→Zt→Option R} {r:R} {Q:Exit→Act→World→Prop} (hh:jO J n g ps ao bo h σ k=some r) (hr:Rel E fr σ m K ρ w)
   (hQ:∀ e h' σ' m' K' ρ' w',Rel E fr σ' m' K' ρ' w'→Same σ σ'→k e h' σ'=some r→Q e (act1 n ρ') w'):(Code.rangeFunc g ps ao bo).wpIn (aw E.rd) 0 P Q (act1 n ρ) w:=by
 unfold jO at hh
 split at hh
 . rename_i q h0
   split at hh
   . rename_i f cs e
     split at hh
     . rename_i c hc
       replace hh:=ab hh; obtain ⟨hb,hh⟩:=hh
       simp only [Bool.and_eq_true] at hb
       obtain ⟨hb1,hb2,hb3⟩:=hb
       obtain rfl:=Nat.eq_of_beq_eq_true hb1
       have hv:=hr.toPur.ev n g
       rw [e] at hv
       obtain ⟨us,hv,hus⟩:=hv
       refine wpIn_rangeFunc (fun fn hfn=>?_)
       have tail:∀ {l:Nat} {mark:List Deferred} {K1:Hp} {w1:World} {D:Nat},(Instr.enterLoop fn (act1 n ρ).tmps ps ao bo E.rd).run P w = .ok (l,mark) w1 →
           Sep E K1 (LpA l { state := .ready,pending:=none,fn:=fn,tmps:=frm n ρ.f,params:=ps,assign:=ao,body:=bo,defers:=D } :: σ.atoms fr m) w1→K.le K1→MOk fr.k0 K1 (mark++ρ.ds) →
           ∃ (l:Nat) (mark:List Deferred) (w₁:World) (d:Deferred) (w₁':World) (f:FuncId) (args:Array Value) (w₂:World),
             (Instr.enterLoop fn (act1 n ρ).tmps ps ao bo (aw E.rd).round).run P w = .ok (l,mark) w₁ ∧
             (resolve (act1 n ρ).eval (rangeCall g l) 0).run P w₁ = .ok d w₁' ∧
             (∀ f',Target.leads P w₁' d.target d.args=some f'→(aw E.rd).fn f') ∧
             (invoke d.target d.args).run P w₁' = .ok (.enter f args) w₂ ∧
             ((aw E.rd).depth.isSome=true→1≤0) ∧
             CallsIn (aw E.rd) (0 - 1) P f args w₂ (rangePost (aw E.rd) 0 P l Q { act1 n ρ with defers:=mark++(act1 n ρ).defers }):=fun {l mark K1 w1 D} he hs1 hK1 hm1=>by
         refine ⟨l,mark,w1,{ target := .fn (.func q.f) us.toArray,args:=#[.func (.yield l) #[] #[]] },w1,q.f,#[.func (.yield l) #[] #[]]++us.toArray,w1,he,?_,fun _ _=>trivial,?_,fun hh=>(by cases (show false=true from hh)),?_⟩
         . have hv':Go.Proofs.YtdjcapgpjpadeaaDoor.ev n ρ.f g = .func (.func q.f) #[] us.toArray:=hv
           rw [bn]
           have hc2:Go.Proofs.YtdjcapgpjpadeaaDoor.ev n ρ.f (.const (.func (.yield l) #[] #[])) = .func (.yield l) #[] #[]:=rfl
           simp [resolve,Deferred.ofValue,hv',hc2]
         . exact q.ent _ _
         . exact vK hJ hc hus hb2 (Nat.le_of_ble_eq_true hb3) hh hr hs1 hK1 hm1 hQ
       cases hE:E.rd with
       | none =>
         rw [hE] at tail
         obtain ⟨s1,hD⟩:=(hr.toSep.allocO (.deferred (some []))).known
         have s2:=s1.allocO (.loop { state := .ready,pending:=none,fn:=fn,tmps:=frm n ρ.f,params:=ps,assign:=ao,body:=bo,defers:=w.heap.size })
         rw [World.size_alloc] at s2
         refine tail (run_enterLoop_outer fn _ ps ao bo) s2 (Hp.le_join _ _) ⟨⟨hr.mks.1.1,hr.mks.1.2.trans (Hp.le_join _ _)⟩,fun d hd=>?_,?_⟩
         . rcases List.mem_append.1 hd with hd | hd
           . simp only [List.mem_singleton] at hd
             subst hd
             refine ⟨w.heap.size,rfl,Hp.join_right (aC _ _) hD,?_⟩
             cases hk0:fr.k0 w.heap.size with
             | none=>rfl
             | some x=>rw [hr.mks.1.2 _ _ hk0] at hD; cases hD
           . obtain ⟨D',e1,e2,e3⟩:=hr.mks.2.1 d hd
             exact ⟨D',e1,Hp.le_join _ _ _ _ e2,e3⟩
         . refine List.nodup_cons.2 ⟨fun hd=>?_,hr.mks.2.2⟩
           obtain ⟨D',e1,e2,e3⟩:=hr.mks.2.1 _ hd
           simp only [Deferred.mk.injEq,Target.collected.injEq,and_true] at e1
           rw [← e1,hD] at e2
           cases e2
       | some l0 =>
         rw [hE] at tail
         obtain ⟨r0,hmem⟩:=hrd l0 hE
         have hw0:w.heap[l0]? = some (.loop r0):=by
           obtain ⟨i,hi⟩:=List.getElem?_of_mem (show LpA l0 r0∈σ.atoms fr m from List.mem_append_right _ (List.mem_append_right _ hmem))
           exact LpA.at (Sep.front i hi hr.toSep)
         exact tail (sj hw0 fn _ ps ao bo) (hr.toSep.allocO _) (Hp.le_refl K) (by simpa using hr.mks)
     . cases hh
   . cases hh
 . cases hh
end
end
section
variable [BldA]
section
variable {R:Type} {P:Program} {E:En} {n:Nat} {m m':List M} {K K':Hp} {fr:Frz} {σ σ':Zt} {ρ ρ':Sl1} {w w':World}
theorem oR {c:Code} {f:Hn P→Zt→(R:Type)→(Exit→Hn P→Zt→Option R)→Option R} (hf:Fok P n c f) (hrd:fy E fr) {s:Sh} {act W:List Nat} {a b:Hn P} {k:Hn P→Zt→Option R} {r:R} {Q:Exit→Act→World→Prop} (h:fi f s act W a b σ k=some r) (hr:Rel E fr σ m K ρ w)
   (hQ:∀ h' σ' m' K' ρ' w',Rel E fr σ' m' K' ρ' w'→Same σ σ'→k h' σ'=some r→Q .normal (Go.Proofs.YtdjcapgpjpadeaaDoor.act1 n ρ') w'):c.wpIn (aw E.rd) 0 P Q (Go.Proofs.YtdjcapgpjpadeaaDoor.act1 n ρ) w:=by
 unfold fi at h
 obtain ⟨x,hx,h⟩:=ob h
 refine hf _ E ⟨m,K,ρ,fun _=>false,fr.F,fr.k0⟩ hrd a (σ.frz act) _ x m K ρ w Q hx (hr.frz act) (fun e h' σ' m' K' ρ' w' h1 h2 h3=>?_)
 cases e with
 | normal =>
   obtain ⟨h'',σ2,m2,K2,g1,g2,g3⟩:=aD h' h3 h1
   have hi:Inn σ fr ⟨m,K,ρ,fun _=>false,fr.F,fr.k0⟩ m K ρ (bd σ.H act) σ2 W:=⟨rfl,rfl,rfl,rfl,rfl,(g2.2.trans h2.2),dL,fun _ _=>rfl⟩
   obtain ⟨σ3,m3,q1,q2,q3⟩:=jq hr hi g3 g1 h
   exact hQ b σ3 m3 K2 ρ' w' q3 q2 q1
 | _=>cases h3
theorem oU {c:Code} {f:Hn P→Zt→(R:Type)→(Exit→Hn P→Zt→Option R)→Option R} (hf:Fok P n c f) (hrd:fy E fr) {s:Sh} {act W:List Nat} {a b:Hn P} {k:Exit→Hn P→Zt→Option R} {r:R} {Q:Exit→Act→World→Prop} (h:fl f s act W a b σ k=some r) (hr:Rel E fr σ m K ρ w)
   (hQ:∀ e h' σ' m' K' ρ' w',Rel E fr σ' m' K' ρ' w'→Same σ σ'→k e h' σ'=some r→Q e (Go.Proofs.YtdjcapgpjpadeaaDoor.act1 n ρ') w'):c.wpIn (aw E.rd) 0 P Q (Go.Proofs.YtdjcapgpjpadeaaDoor.act1 n ρ) w:=by
 unfold fl at h
 obtain ⟨o,ho,h⟩:=ob h
 refine hf _ E ⟨m,K,ρ,fun _=>false,fr.F,fr.k0⟩ hrd a (σ.frz act) _ o m K ρ w Q ho (hr.frz act) (fun e h' σ' m' K' ρ' w' h1 h2 h3=>?_)
 have other:(k e h' (σ.thaw σ' (bd σ.H act) [])).map Sum.inr=some o→Q e (Go.Proofs.YtdjcapgpjpadeaaDoor.act1 n ρ') w':=fun h3=>by
   rw [Option.map_eq_some_iff] at h3
   obtain ⟨r',h4,rfl⟩:=h3
   cases h
   have hi:Inn σ fr ⟨m,K,ρ,fun _=>false,fr.F,fr.k0⟩ m K ρ (bd σ.H act) σ' []:=⟨rfl,rfl,rfl,rfl,rfl,h2.2,dL,fun _ _=>rfl⟩
   obtain ⟨q1,q2⟩:=li hr hi h1
   exact hQ e h' _ m' K' ρ' w' q2 q1 h4
 cases e with
 | normal =>
   obtain ⟨h'',σ2,m2,K2,g1,g2,g3⟩:=aD h' h3 h1
   rw [Option.map_eq_some_iff] at g1
   obtain ⟨x,g1,rfl⟩:=g1
   have hi:Inn σ fr ⟨m,K,ρ,fun _=>false,fr.F,fr.k0⟩ m K ρ (bd σ.H act) σ2 W:=⟨rfl,rfl,rfl,rfl,rfl,(g2.2.trans h2.2),dL,fun _ _=>rfl⟩
   obtain ⟨σ3,m3,q1,q2,q3⟩:=jq hr hi g3 g1 h
   exact hQ .normal b σ3 m3 K2 ρ' w' q3 q2 q1
 | _=>exact other h3
theorem uR {s:Sh} {W:List Nat} {rest:List HA} {x:TL s.ts} (hr:Rel E fr σ m K ρ w) {g:Gt} {f:Nat→SV} {H:List HA} {us:List aa}
   (hg:s.get f H=some g) (hx:TL.of s.ts g.ds=some x) (hok:∀ a∈H,HA.ok m' K' a) (hf:∀ i,SV.rel m' K' (f i) (ρ' i)) (hmm:m <+: m') (hKK:K.le K') (hrest:∀ a∈rest,a∈σ.H) (hs:Sep E K' (H.map (HA.conc m')++(us++(rest.map (HA.conc m)++σ.fz fr))) w')
   (hds:MOk fr.k0 K' ρ'.ds) (hold:∀ i,i∉W→ρ' i=ρ i) {vs:List (Nat×SV)} {u:Un} (hu:s.un (TL.list s.ts x) σ.nx=some (vs,u)) :
   ∃ m'',Rel E ⟨m,K,ρ,fun i=>W.contains i,fr.F,fr.k0⟩ ⟨fun i=>bif W.contains i then .any else σ.get i,aQ (a8 σ) vs,u.H.map (HA.sub (a8 σ)),rest++σ.Hf,u.nx,false⟩ m'' K' ρ' w':=by
 rw [TL.of_list hx] at hu
 have hoo:aX s.bl m.length=true:=by
   unfold Sh.un at hu
   rw [hr.nx]
   cases ho:aX s.bl σ.nx with
   | true=>rfl
   | false=>rw [ho] at hu; cases hu
 obtain ⟨vs',u',ms,e1,e2,e3,e4,e5,e6,e7,e8⟩:=Sh.get_un hg hok hmm hoo
 rw [hr.nx,hu] at e1
 cases e1
 have hp':=aj m ms
 refine ⟨m++ms,Rel.subs (σ:=⟨fun i=>bif W.contains i then .any else σ.get i,vs,u.H,rest++σ.Hf,u.nx,false⟩) (iC hr.toPur (m':=m++ms) (fun _ _ k=>ag hp' k) hKK) ⟨⟨aj m ms,hKK,e2,fun e=>(by cases e),fun i=>?_,fun i hi=>?_,fun i hi=>?_,fun i sv hi=>iK e3 hi _ (hf i),e4,fun a ha=>?_,hds⟩,?_⟩⟩
 . show SV.rel m K (bif W.contains i then .any else σ.get i) (ρ i)
   cases W.contains i with
   | true=>exact trivial
   | false=>exact hr.toPur.get i
 . show (bif W.contains i then SV.any else σ.get i) = .any
   have hi:W.contains i=true:=hi
   rw [hi]; rfl
 . by_cases hW:i∈W
   . exact .inl (by simpa using hW)
   . exact .inr (hold i hW)
 . refine hr.toPur.all a ?_
   rcases List.mem_append.1 ha with ha | ha
   . exact List.mem_append_left _ (hrest a ha)
   . exact List.mem_append_right _ ha
 . have s1:=e6 E _ w' hs
   have s2:Sep E K' ((g.H.map (HA.conc m')++us)++(u.H.map (HA.conc (m++ms))++(rest.map (HA.conc m)++σ.fz fr))) w':=Sep.perm (by
     rw [List.append_assoc]
     refine (fj _ _ _).trans (List.Perm.append_left _ (fj _ _ _)) ) s1
   show Sep E K' (u.H.map (HA.conc (m++ms))++((rest++σ.Hf).map (HA.conc m)++fr.F)) w'
   rw [List.map_append,hr.toPur.fz',List.append_assoc]
   exact Sep.drops s2
theorem nP {s:Sh} {ds:List Dat} {nx:Nat} {o:List (Nat×SV)×Un} (h:s.un ds nx=some o):aX s.bl nx=true:=by
 unfold Sh.un at h
 cases ho:aX s.bl nx with
 | true=>rfl
 | false=>rw [ho] at h; cases h
theorem ux {c:Code} {f:Hn P→Zt→(R:Type)→(Exit→Hn P→Zt→Option R)→Option R} (hf:Fok P n c f) (hrd:fy E fr) {s:Sh} {W:List Nat} {a:Hn P} {k:Exit→Hn P→Zt→Option R} {r:R} {Q:Exit→Act→World→Prop} (h:jD f s W a σ k=some r) (hr:Rel E fr σ m K ρ w)
   (hQ:∀ e h' σ' m' K' ρ' w',Rel E fr σ' m' K' ρ' w'→Same σ σ'→k e h' σ'=some r→Q e (Go.Proofs.YtdjcapgpjpadeaaDoor.act1 n ρ') w'):(Code.loop c).wpIn (aw E.rd) 0 P Q (Go.Proofs.YtdjcapgpjpadeaaDoor.act1 n ρ) w:=by
 unfold jD at h
 split at h
 . rename_i g hg
   split at h
   . rename_i x0 hx0
     obtain ⟨N,hN⟩:=kA h
     refine wpIn_loop_rounds N ?_
     -- a round's head
     have round:∀ (N:Nat) (x:TL s.ts) (m1:List M) (K1:Hp) (ρ1:Sl1) (w1:World) (vs:List (Nat×SV)) (u:Un),bJ (gv f s W g a σ k) N x=some r→s.un (TL.list s.ts x) σ.nx=some (vs,u) →
         Rel E ⟨m,K,ρ,fun i=>W.contains i,fr.F,fr.k0⟩ ⟨fun i=>bif W.contains i then .any else σ.get i,aQ (a8 σ) vs,u.H.map (HA.sub (a8 σ)),g.H++σ.Hf,u.nx,false⟩ m1 K1 ρ1 w1→Code.roundsIn (aw E.rd) 0 P c Q N (Go.Proofs.YtdjcapgpjpadeaaDoor.act1 n ρ1) w1:=by
       intro N
       induction N with
       | zero=>intro x m1 K1 ρ1 w1 vs u hi; cases hi
       | succ N ih =>
         intro x m1 K1 ρ1 w1 vs u hi hu hrel
         unfold bJ at hi
         obtain ⟨o,ho,hi⟩:=ob hi
         rw [roundsIn_succ]
         unfold gv at ho
         rw [hu] at ho
         simp only at ho
         have hgsub:∀ a∈g.H,a∈σ.H:=by
           obtain ⟨_,_,_,_,_,_,_,e5,_⟩:=Sh.get_un (m:=m) (K:=K) hg hr.okH (List.prefix_refl m) (by rw [hr.nx]; exact nP hu)
           exact e5
         refine hf _ E ⟨m,K,ρ,fun i=>W.contains i,fr.F,fr.k0⟩ hrd a _ _ o m1 K1 ρ1 w1 _ ho hrel (fun e h' σ' m' K' ρ' w' h1 h2 h3=>?_)
         have other:e ≠ .normal→(k e h' (σ.thaw σ' g.H W)).map Sum.inr=some o→Q e (Go.Proofs.YtdjcapgpjpadeaaDoor.act1 n ρ') w':=fun _ h3=>by
           rw [Option.map_eq_some_iff] at h3
           obtain ⟨r',h4,rfl⟩:=h3
           cases hi
           have hii:Inn σ fr ⟨m,K,ρ,fun i=>W.contains i,fr.F,fr.k0⟩ m K ρ g.H σ' W:=⟨rfl,rfl,rfl,rfl,rfl,h2.2,hgsub,fun i hi=>by simpa using hi⟩
           obtain ⟨q1,q2⟩:=li hr hii h1
           exact hQ e h' _ m' K' ρ' w' q2 q1 h4
         cases e with
         | normal =>
           obtain ⟨h'',σ2,m2,K2,g1,g2,g3⟩:=aD h' h3 h1
           rw [Option.map_eq_some_iff] at g1
           obtain ⟨x',g1,rfl⟩:=g1
           have hsame:=h2.trans g2
           unfold Zt.pack at g1
           replace g1:=ab g1; obtain ⟨hk,g1⟩:=g1
           split at g1
           . rename_i g' hg'
             cases hu':s.un (TL.list s.ts x') σ.nx with
             | none =>
               -- the next round would not run
               cases N with
               | zero=>cases hi
               | succ N =>
                 unfold bJ at hi
                 obtain ⟨o2,ho2,_⟩:=ob hi
                 unfold gv at ho2
                 rw [hu'] at ho2
                 cases ho2
             | some q =>
               obtain ⟨vs',u'⟩:=q
               have hii:Inn σ fr ⟨m,K,ρ,fun i=>W.contains i,fr.F,fr.k0⟩ m K ρ g.H σ2 W:=⟨rfl,rfl,rfl,rfl,rfl,hsame.2,hgsub,fun i hi=>by simpa using hi⟩
               obtain ⟨m'',hrel'⟩:=uR (W:=W) (rest:=g.H) (us:=[]) hr hg' g1 g3.okH g3.toPur.get g3.hm g3.hK hgsub (by rw [List.nil_append]; exact hii.sep hr g3) g3.mks (fun i hi=>by
                 have:=g3.old i (iw hk hi)
                 rcases this with h4 | h4
                 . exact absurd (by simpa using h4) hi
                 . exact h4) hu'
               exact ih x' m'' K2 ρ' w' vs' u' hi hu' hrel'
           . cases g1
         | exit i=>exact other nofun h3
         | goto l=>exact other nofun h3
         | ret=>exact other nofun h3
         | panic c=>exact other nofun h3
         | outgrown=>exact other nofun h3
     cases hu:s.un (TL.list s.ts x0) σ.nx with
     | none =>
       cases N with
       | zero=>cases hN
       | succ N =>
         unfold bJ at hN
         obtain ⟨o2,ho2,_⟩:=ob hN
         unfold gv at ho2
         rw [hu] at ho2
         cases ho2
     | some q =>
       obtain ⟨vs,u⟩:=q
       have hu2:=hu
       rw [TL.of_list hx0] at hu2
       obtain ⟨vs',u',ms,e1,e2,e3,e4,e5,e6,e7,e8⟩:=Sh.get_un (m:=m) (K:=K) hg hr.okH (List.prefix_refl m) (by rw [hr.nx]; exact nP hu2)
       rw [hr.nx,hu2] at e1
       cases e1
       have hp':=aj m ms
       refine round N x0 (m++ms) K ρ w vs u hN hu (Rel.subs (σ:=⟨fun i=>bif W.contains i then .any else σ.get i,vs,u.H,g.H++σ.Hf,u.nx,false⟩) (iC hr.toPur (m':=m++ms) (fun _ _ k=>ag hp' k) (Hp.le_refl K)) ⟨⟨aj m ms,Hp.le_refl K,e2,fun e=>(by cases e),fun i=>?_,fun i hi=>?_,fun i hi => .inr rfl,fun i sv hi=>iK e3 hi _ (hr.toPur.get i),e4,fun a ha=>?_,hr.mks⟩,?_⟩)
       . show SV.rel m K (bif W.contains i then .any else σ.get i) (ρ i)
         cases W.contains i with
         | true=>exact trivial
         | false=>exact hr.toPur.get i
       . show (bif W.contains i then SV.any else σ.get i) = .any
         have hi:W.contains i=true:=hi
         rw [hi]; rfl
       . refine hr.toPur.all a ?_
         rcases List.mem_append.1 ha with ha | ha
         . exact List.mem_append_left _ (e5 a ha)
         . exact List.mem_append_right _ ha
       . have s1:=e6 E _ w hr.toSep
         show Sep E K (u.H.map (HA.conc (m++ms))++((g.H++σ.Hf).map (HA.conc m)++fr.F)) w
         rw [List.map_append,hr.toPur.fz',List.append_assoc]
         exact s1
   . cases h
 . cases h
theorem nN {c:Code} {f:Hn P→Zt→(R:Type)→(Exit→Hn P→Zt→Option R)→Option R} (hf:Fok P n c f) (hrd:fy E fr) {k:Exit→Hn P→Zt→Option R} {r:R} {Q:Exit→Act→World→Prop}
   (hQ:∀ e h' σ' m' K' ρ' w',Rel E fr σ' m' K' ρ' w'→Same σ σ'→k e h' σ'=some r→Q e (Go.Proofs.YtdjcapgpjpadeaaDoor.act1 n ρ') w'):∀ (N:Nat) {h:Hn P} {σ1:Zt} {m:List M} {K:Hp} {ρ:Sl1} {w:World},gC (fun h σ k=>f h σ _ k) k N h σ1=some r→Rel E fr σ1 m K ρ w→Same σ σ1→Code.roundsIn (aw E.rd) 0 P c Q N (Go.Proofs.YtdjcapgpjpadeaaDoor.act1 n ρ) w
 | 0,h,σ1,m,K,ρ,w,hh,hr,hs=>by cases hh
 | N + 1,h,σ1,m,K,ρ,w,hh,hr,hs=>by
   rw [roundsIn_succ]
   unfold gC at hh
   refine hf _ E fr hrd h σ1 _ r m K ρ w _ hh hr (fun e h' σ' m' K' ρ' w' h1 h2 h3=>?_)
   cases e with
   | normal=>exact nN hf hrd hQ N h3 h1 (hs.trans h2)
   | exit i=>exact hQ _ h' σ' m' K' ρ' w' h1 (hs.trans h2) h3
   | goto i=>exact hQ _ h' σ' m' K' ρ' w' h1 (hs.trans h2) h3
   | ret=>exact hQ _ h' σ' m' K' ρ' w' h1 (hs.trans h2) h3
   | panic i=>exact hQ _ h' σ' m' K' ρ' w' h1 (hs.trans h2) h3
   | outgrown=>exact hQ _ h' σ' m' K' ρ' w' h1 (hs.trans h2) h3
theorem nY {y:Code} {k:Exit→Hn P→Zt→Option R} {f:Hn P→Zt→Option R} {r:R} {Q:Exit→Act→World→Prop} {σ0:Zt} (hf:∀ h' σ' m' K' ρ' w',Rel E fr σ' m' K' ρ' w'→Same σ0 σ'→f h' σ'=some r→y.wpIn (aw E.rd) 0 P Q (Go.Proofs.YtdjcapgpjpadeaaDoor.act1 n ρ') w')
   (hQ:∀ e h' σ' m' K' ρ' w',Rel E fr σ' m' K' ρ' w'→Same σ0 σ'→k e h' σ'=some r→Q e (Go.Proofs.YtdjcapgpjpadeaaDoor.act1 n ρ') w'):∀ e h' σ' m' K' ρ' w',Rel E fr σ' m' K' ρ' w'→Same σ0 σ'→eX k f e h' σ'=some r→Exit.then (y.wpIn (aw E.rd) 0 P Q) Q e (Go.Proofs.YtdjcapgpjpadeaaDoor.act1 n ρ') w':=by
 intro e h' σ' m' K' ρ' w' h1 h2 h3
 cases e with
 | normal=>exact hf h' σ' m' K' ρ' w' h1 h2 h3
 | exit i=>exact hQ _ h' σ' m' K' ρ' w' h1 h2 h3
 | goto i=>exact hQ _ h' σ' m' K' ρ' w' h1 h2 h3
 | ret=>exact hQ _ h' σ' m' K' ρ' w' h1 h2 h3
 | panic i=>exact hQ _ h' σ' m' K' ρ' w' h1 h2 h3
 | outgrown=>exact hQ _ h' σ' m' K' ρ' w' h1 h2 h3
theorem bE {J:Rn P} (hJ:JOk J):∀ (c:Code),Fok P n c (fun h σ R k=>exec J n c h σ k)
 | .skip=>fun R E fr hrd h σ k r m K ρ w Q hh hr hQ=>wpIn_skip (hQ _ h σ m K ρ w hr Same.rfl' hh)
 | .ret=>fun R E fr hrd h σ k r m K ρ w Q hh hr hQ=>wpIn_ret (hQ _ h σ m K ρ w hr Same.rfl' hh)
 | .exit id=>fun R E fr hrd h σ k r m K ρ w Q hh hr hQ=>wpIn_exit (hQ _ h σ m K ρ w hr Same.rfl' hh)
 | .label l=>fun R E fr hrd h σ k r m K ρ w Q hh hr hQ=>wpIn_label (hQ _ h σ m K ρ w hr Same.rfl' hh)
 | .scope b=>fun R E fr hrd h σ k r m K ρ w Q hh hr hQ=>by
   refine rG (bE hJ b R E fr hrd h σ _ r m K ρ w _ (show exec J n b h σ (pE k)=some r from hh) hr (fun e h' σ' m' K' ρ' w' h1 h2 h3=>?_))
   cases e with
   | goto l=>cases h3
   | normal=>exact hQ _ h' σ' m' K' ρ' w' h1 h2 h3
   | exit i=>exact hQ _ h' σ' m' K' ρ' w' h1 h2 h3
   | ret=>exact hQ _ h' σ' m' K' ρ' w' h1 h2 h3
   | panic i=>exact hQ _ h' σ' m' K' ρ' w' h1 h2 h3
   | outgrown=>exact hQ _ h' σ' m' K' ρ' w' h1 h2 h3
 | .region id ops draw=>fun R E fr hrd h σ k r m K ρ w Q hh hr hQ=>by
   change (bif !ops.toList.all bz then none else bif draw then av h σ fun h σ=>fv n ops.toList h σ fun h σ=>(match h with | .mix plan fin tail act r=>mF n ops plan fin tail act r σ (k .normal) | .tr t s act a b=>trS n ops t s act a b σ (k .normal) | _=>none) else av h σ fun h σ=>mK J n ops h σ (k .normal))=some r at hh
   replace hh:=cB hh; obtain ⟨hn,hh⟩:=hh
   have hn:ops.toList.all bz=true:=by simpa using hn
   cases draw with
   | false =>
     simp only [cond_false] at hh
     obtain ⟨h1,σ1,m1,K1,hh,g1,hr⟩:=aD h hh hr
     replace hQ:∀ e h' σ' m' K' ρ' w',Rel E fr σ' m' K' ρ' w'→Same σ1 σ'→k e h' σ'=some r→Q e (act1 n ρ') w':=fun e h' σ' m' K' ρ' w' q1 q2 q3=>hQ e h' σ' m' K' ρ' w' q1 (g1.trans q2) q3
     clear g1
     unfold mK at hh
     split at hh
     . rename_i q h2
       have key:wpListIn (aw E.rd) 0 P ops Q (ops.toList.take q++ops.toList.drop q) (act1 n ρ) w:=by
         have hn1:(ops.toList.take q).all bz=true:=List.all_eq_true.2 (fun x hx=>List.all_eq_true.1 hn x (List.mem_of_mem_take hx))
         have hn2:(ops.toList.drop q).all bz=true:=List.all_eq_true.2 (fun x hx=>List.all_eq_true.1 hn x (List.mem_of_mem_drop hx))
         refine kh hn1 ?_
         have:=eW (ops:=ops) (Q:=fun e a w=>e = .normal∧wpListIn (aw E.rd) 0 P ops Q (ops.toList.drop q) a w) (ops.toList.take q) 0 hh hr (fun h' σ' m' K' ρ' w' h1 h2 h3=>?_)
         . simpa using this
         . refine ⟨rfl,?_⟩
           split at h3
           . rename_i o rest hd
             rw [hd] at hn2 ⊢
             simp only [List.all_cons,Bool.and_eq_true] at hn2
             obtain ⟨dst,op,t,pos,af,gu⟩:=o
             obtain ⟨h4,σ4,s4,hr4,hg⟩:=eV h3 h1
             rcases hg with ⟨hw,hg⟩ | ⟨hw,hg⟩
             . refine wA hJ hg hr4 hw (fun h'' σ'' m'' K'' ρ'' w'' g1 g2 g3=>?_)
               have:=eW (ops:=ops) (Q:=Q) rest 0 g3 g1 (fun h3 σ3 m3 K3 ρ3 w3 b1 b2 b3=>hQ _ h3 σ3 m3 K3 ρ3 w3 b1 (((h2.trans s4).trans g2).trans b2) b3)
               exact eB hn2.2 (by simpa using this)
             . unfold wpListIn
               rw [if_neg (by rw [hw]; exact Bool.false_ne_true)]
               refine ⟨fun _ _=>trivial,?_⟩
               cases dst with
               | none =>
                 have:=eW (ops:=ops) (Q:=Q) rest 0 hg hr4 (fun h3 σ3 m3 K3 ρ3 w3 b1 b2 b3=>hQ _ h3 σ3 m3 K3 ρ3 w3 b1 ((h2.trans s4).trans b2) b3)
                 exact eB hn2.2 (by rw [List.drop_zero] at this; exact this)
               | some d =>
                 show wpListIn _ _ _ _ _ _ ((act1 n ρ').put (some d) undef) _
                 rw [ba]
                 have:=eW (ops:=ops) (Q:=Q) rest 0 hg (hr4.set (d:=d) (sv := .raw undef) (v:=undef) rfl) (fun h3 σ3 m3 K3 ρ3 w3 b1 b2 b3=>hQ _ h3 σ3 m3 K3 ρ3 w3 b1 (((h2.trans s4).trans ⟨rfl,rfl⟩).trans b2) b3)
                 exact eB hn2.2 (by simpa using this)
           . cases h3
       rw [List.take_append_drop] at key
       have:=wpIn_region_lit (id:=id) (l:=ops.toList) (by simpa using key)
       simpa using this
     . have:=wpIn_region_lit (id:=id) (eB (r:=E.rd) (n:=0) hn (eW (Q:=Q) (ops:=ops.toList.toArray) ops.toList 0 (by simpa using hh) hr (fun h' σ' m' K' ρ' w' h1 h2 h3=>hQ _ h' σ' m' K' ρ' w' h1 h2 h3)))
       simpa using this
   | true =>
     simp only [cond_true] at hh
     obtain ⟨h1,σ1,m1,K1,hh,g1,hr⟩:=aD h hh hr
     obtain ⟨h2,σ2,m2,hh,g2,hr⟩:=pu h1 hh hr
     replace hQ:∀ e h' σ' m' K' ρ' w',Rel E fr σ' m' K' ρ' w'→Same σ2 σ'→k e h' σ'=some r→Q e (act1 n ρ') w':=fun e h' σ' m' K' ρ' w' q1 q2 q3=>hQ e h' σ' m' K' ρ' w' q1 ((g1.trans g2).trans q2) q3
     clear g1 g2
     generalize K1=K at hr
     generalize m2=m at hr
     generalize σ2=σ at hr hh hQ
     split at hh
     . rename_i plan fin tail act' h0
       unfold mF at hh
       replace hh:=be hh; obtain ⟨hm,hB,hh⟩:=hh
       have hB':gR .any ops.toList.toArray plan fin tail=true:=by simpa using hB
       have hfr:=(hr.frz act').drew
       have hplan:∀ s i,(s,i)∈plan→i < ops.toList.length:=by
         intro s i hi
         have h0:=hB
         unfold gR at h0
         simp only [Bool.and_eq_true] at h0
         obtain ⟨_,h1⟩:=h0
         split at h1
         . rename_i l1 hl1
           simpa using nr plan _ _ hl1 s i hi
         . cases h1
       have key:=jb (l:=ops.toList) (Q:=Q) plan hh hfr rfl hplan (fun h' σ' m' K' ρ' w' h1 h2 h3=>by
         have hi:Inn σ fr ⟨m,K,ρ,fun _=>false,fr.F,fr.k0⟩ m K ρ (bd σ.H act') σ' []:=⟨rfl,rfl,rfl,rfl,rfl,h2.2,dL,fun _ _=>rfl⟩
         obtain ⟨z1,z2⟩:=li hr hi h1
         have:=eW (ops:=ops.toList.toArray) (Q:=Q) (aM ops.toList tail) 0 (by simpa using h3) z2 (fun h'' σ'' m'' K'' ρ'' w'' b1 b2 b3=>hQ .normal h'' σ'' m'' K'' ρ'' w'' b1 (z1.trans b2) b3)
         rwa [List.drop_zero] at this)
       have:=rW (id:=id) (Q:=Q) plan fin tail hm hB' _ hfr.cfz rfl rfl rfl key hn (r:=E.rd) (n:=0)
       simpa using this
     . rename_i t s act' a b
       unfold trS at hh
       replace hh:=be hh; obtain ⟨hm,hB,hh⟩:=hh
       obtain ⟨x,hx,hh⟩:=ob hh
       have hfr:=(hr.frz act').drew
       have key:=iZ (l:=ops.toList) (F:=fun a' w'=>ah P ops.toList.toArray Q (aM ops.toList []) a' w') t hx hfr rfl (fun h' σ' m' K' ρ' w' h1 h2 h3=>by
         obtain ⟨h'',σ2,m2,K2,g1,g2,g3⟩:=aD h' h3 h1
         have hi:Inn σ fr ⟨m,K,ρ,fun _=>false,fr.F,fr.k0⟩ m K ρ (bd σ.H act') σ2 (s.sl.map (·.1)++an ops.toList):=⟨rfl,rfl,rfl,rfl,rfl,(g2.2.trans h2.2),dL,fun _ _=>rfl⟩
         obtain ⟨σ3,m3,q1,q2,q3⟩:=jq hr hi g3 g1 hh
         exact hQ .normal b σ3 m3 K2 ρ' w' q3 q2 q1)
       have:=rQ (id:=id) (Q:=Q) t [] hm hB _ hfr.cfz rfl key hn (r:=E.rd) (n:=0)
       simpa using this
     . cases hh
 | .seq a b=>fun R E fr hrd h σ k r m K ρ w Q hh hr hQ=>by
   have plain:∀ h0,exec J n a h0 σ (eX k (fun h σ=>exec J n b h σ k))=some r→(Code.seq a b).wpIn (aw E.rd) 0 P Q (act1 n ρ) w:=fun h0 hh =>
     wpIn_seq (bE hJ a R E fr hrd h0 σ _ r m K ρ w _ hh hr (nY (σ0:=σ) (fun h' σ' m' K' ρ' w' h1 h2 h3=>bE hJ b R E fr hrd h' σ' k r m' K' ρ' w' Q h3 h1 (fun e h'' σ'' m'' K'' ρ'' w'' q1 q2 q3=>hQ e h'' σ'' m'' K'' ρ'' w'' q1 (h2.trans q2) q3)) hQ))
   cases h with
   | sq mk s act ha hb =>
     have hh:(match Zt.mcs mk σ with | some σ=>fi (fun h σ R k=>exec J n a h σ k) s act (s.sl.map (·.1)++bf a) ha hb σ (fun h σ=>exec J n b h σ k) | none=>none)=some r:=hh
     split at hh
     . rename_i σ1 hm
       obtain ⟨m1,k1,k2⟩:=gF hm hr
       refine wpIn_seq (oR (bE hJ a) hrd hh k2 (fun h' σ' m' K' ρ' w' h1 h2 h3=>?_))
       exact bE hJ b R E fr hrd h' σ' k r m' K' ρ' w' Q h3 h1 (fun e h'' σ'' m'' K'' ρ'' w'' q1 q2 q3=>hQ e h'' σ'' m'' K'' ρ'' w'' q1 ((k1.trans h2).trans q2) q3)
     . cases hh
   | sx mk s act ha hb =>
     have hh:(match Zt.mcs mk σ with | some σ=>fl (fun h σ R k=>exec J n a h σ k) s act (s.sl.map (·.1)++bf a) ha hb σ (eX k (fun h σ=>exec J n b h σ k)) | none=>none)=some r:=hh
     split at hh
     . rename_i σ1 hm
       obtain ⟨m1,k1,k2⟩:=gF hm hr
       refine wpIn_seq (oU (bE hJ a) hrd hh k2 ?_)
       exact nY (σ0:=σ1) (fun h' σ' m' K' ρ' w' h1 h2 h3=>bE hJ b R E fr hrd h' σ' k r m' K' ρ' w' Q h3 h1 (fun e h'' σ'' m'' K'' ρ'' w'' q1 q2 q3=>hQ e h'' σ'' m'' K'' ρ'' w'' q1 ((k1.trans h2).trans q2) q3)) (fun e h' σ' m' K' ρ' w' q1 q2 q3=>hQ e h' σ' m' K' ρ' w' q1 (k1.trans q2) q3)
     . cases hh
   | pl h=>exact plain h hh
   | nil=>exact plain _ hh
   | two _ _ _=>exact plain _ hh
   | tw _ _ _=>exact plain _ hh
   | jn _ _ _ _ _=>exact plain _ hh
   | jx _ _ _ _ _=>exact plain _ hh
   | lp _ _=>exact plain _ hh
   | un _ _=>exact plain _ hh
   | per _ _ _=>exact plain _ hh
   | perb _ _ _ _=>exact plain _ hh
   | mc _ _ _ _=>exact plain _ hh
   | ms _ _=>exact plain _ hh
   | wt _ _=>exact plain _ hh
   | cl _ _ _=>exact plain _ hh
   | c2 _ _ _ _=>exact plain _ hh
   | gp _ _=>exact plain _ hh
   | gj _ _ _ _ _=>exact plain _ hh
   | mix _ _ _ _ _=>exact plain _ hh
   | opn _ _ _=>exact plain _ hh
   | opb _ _ _=>exact plain _ hh
   | cls _ _ _=>exact plain _ hh
   | opp _ _ _ _=>exact plain _ hh
   | ot _ _=>exact plain _ hh
   | cm _ _ _ _=>exact plain _ hh
   | cm2 _ _ _ _ _=>exact plain _ hh
   | tr _ _ _ _ _=>exact plain _ hh
   | tru _=>exact plain _ hh
   | yl _ _=>exact plain _ hh
   | rg _ _=>exact plain _ hh
   | il _ _=>exact plain _ hh
 | .cond c x y=>fun R E fr hrd h σ k r m K ρ w Q hh hr hQ=>by
   obtain ⟨h1,σ1,m1,K1,g1,g2,g3⟩:=aD h (show av h σ (fun h σ=>lU c (σ.evr n c) h σ (fun h σ=>exec J n x h σ k) (fun h σ=>exec J n y h σ k))=some r from hh) hr
   have hv:=g3.toPur.evr n c
   have goX:∀ h2 σ2,Rel E fr σ2 m1 K1 ρ w→Same σ σ2→exec J n x h2 σ2 k=some r→x.wpIn (aw E.rd) 0 P Q (act1 n ρ) w:=fun h2 σ2 q1 q2 q3 =>
     bE hJ x R E fr hrd h2 σ2 k r m1 K1 ρ w Q q3 q1 (fun e h'' σ'' m'' K'' ρ'' w'' p1 p2 p3=>hQ e h'' σ'' m'' K'' ρ'' w'' p1 (q2.trans p2) p3)
   have goY:∀ h2 σ2,Rel E fr σ2 m1 K1 ρ w→Same σ σ2→exec J n y h2 σ2 k=some r→y.wpIn (aw E.rd) 0 P Q (act1 n ρ) w:=fun h2 σ2 q1 q2 q3 =>
     bE hJ y R E fr hrd h2 σ2 k r m1 K1 ρ w Q q3 q1 (fun e h'' σ'' m'' K'' ρ'' w'' p1 p2 p3=>hQ e h'' σ'' m'' K'' ρ'' w'' p1 (q2.trans p2) p3)
   have slot:∀ (d:Nat) (sv:SV),c = .tmp d→σ1.evr n c=sv→sv ≠ .any→σ1.get d=sv:=fun d sv hc he hne=>by
     subst hc
     cases hh:Nat.blt d n with
     | false =>
       have:σ1.evr n (.tmp d) = .any:=by show (bif Nat.blt d n then σ1.get d else .any)=_; rw [hh]; rfl
       rw [this] at he; exact absurd he.symm hne
     | true =>
       have:σ1.evr n (.tmp d)=σ1.get d:=by show (bif Nat.blt d n then σ1.get d else .any)=_; rw [hh]; rfl
       rw [← this]; exact he
   unfold lU at g1
   split at g1
   . rename_i jm w0 e
     rw [e] at hv
     obtain ⟨hj,hv⟩:=hv
     split at g1
     . rename_i t
       have hb:ev n ρ c = .bool t:=hv
       rw [hb] at hj
       refine wpIn_cond_split (t:=t) (by rw [bn]; exact hb) (fun ht=>?_) (fun ht=>?_)
       . subst ht
         split at g1
         . exact goX _ _ (g3.fix (v := .bool true) hj rfl) (g2.trans ⟨rfl,rfl⟩) g1
         . exact goX _ σ1 g3 g2 g1
         . exact goX _ σ1 g3 g2 g1
       . subst ht
         split at g1
         . exact goY _ _ (g3.fix (v := .bool false) hj rfl) (g2.trans ⟨rfl,rfl⟩) g1
         . exact goY _ σ1 g3 g2 g1
         . exact goY _ σ1 g3 g2 g1
     . cases g1
   . rename_i t e
     rw [e] at hv
     have hb:ev n ρ c = .bool t:=hv
     refine wpIn_cond_split (t:=t) (by rw [bn]; exact hb) (fun ht=>?_) (fun ht=>?_)
     . subst ht
       split at g1
       . rename_i ha hbn d _
         have hg:=slot d _ rfl e nofun
         exact goX ha _ (g3.ref (fun _ _ u hu=>by rw [hg] at hu; exact hu) (by rw [hg]; nofun)) (g2.trans ⟨rfl,dZ.2⟩) g1
       . exact goX _ σ1 g3 g2 g1
       . exact goX _ σ1 g3 g2 g1
     . subst ht
       split at g1
       . rename_i ha hbn d _
         have hg:=slot d _ rfl e nofun
         exact goY hbn _ (g3.ref (fun _ _ u hu=>by rw [hg] at hu; exact hu) (by rw [hg]; nofun)) (g2.trans ⟨rfl,dZ.2⟩) g1
       . exact goY _ σ1 g3 g2 g1
       . exact goY _ σ1 g3 g2 g1
   . rename_i tp l ng e
     rw [e] at hv
     obtain ⟨q,hb,hl⟩:=hv
     refine wpIn_cond_split (t:=q ^^ ng) (by rw [bn]; exact hb) (fun ht=>?_) (fun ht=>?_)
     . split at g1
       . rename_i ha hbn _
         cases ng with
         | true =>
           rw [Bool.xor_true] at ht
           simp only [cond_true] at g1
           exact goX ha _ g3 g2 (nL g1)
         | false =>
           rw [Bool.xor_false] at ht
           simp only [cond_false] at g1
           exact goX ha _ g3 g2 (om (hl ht) g1)
       . cases g1
     . split at g1
       . rename_i ha hbn _
         cases ng with
         | true =>
           rw [Bool.xor_true] at ht
           simp only [cond_true] at g1
           exact goY hbn _ g3 g2 (om (hl (by simpa using ht)) g1)
         | false =>
           rw [Bool.xor_false] at ht
           simp only [cond_false] at g1
           exact goY hbn _ g3 g2 (nL g1)
       . cases g1
   . cases g1
 | .block id b=>fun R E fr hrd h σ k r m K ρ w Q hh hr hQ=>by
   have blk:∀ {R:Type} {k:Exit→Hn P→Zt→Option R} {r:R} {Q:Exit→Act→World→Prop} {fr:Frz} {σ:Zt},(∀ e h' σ' m' K' ρ' w',Rel E fr σ' m' K' ρ' w'→Same σ σ'→k e h' σ'=some r→Q e (act1 n ρ') w') →
       ∀ e h' σ' m' K' ρ' w',Rel E fr σ' m' K' ρ' w'→Same σ σ'→dB id k e h' σ'=some r→Exit.inBlock id Q e (act1 n ρ') w':=by
     intro R k r Q fr σ hQ e h' σ' m' K' ρ' w' h1 h2 h3
     cases e with
     | exit i =>
       change (bif Nat.beq i id then k .normal h' σ' else k (.exit i) h' σ')=some r at h3
       show if i=id then _ else _
       cases hb:Nat.beq i id with
       | true =>
         rw [hb] at h3
         rw [if_pos (Nat.eq_of_beq_eq_true hb)]
         exact hQ _ h' σ' m' K' ρ' w' h1 h2 h3
       | false =>
         rw [hb] at h3
         rw [if_neg (fun e=>by rw [e,Nat.beq_refl] at hb; cases hb)]
         exact hQ _ h' σ' m' K' ρ' w' h1 h2 h3
     | normal=>exact hQ _ h' σ' m' K' ρ' w' h1 h2 h3
     | goto l=>exact hQ _ h' σ' m' K' ρ' w' h1 h2 h3
     | ret=>exact hQ _ h' σ' m' K' ρ' w' h1 h2 h3
     | panic i=>exact hQ _ h' σ' m' K' ρ' w' h1 h2 h3
     | outgrown=>exact hQ _ h' σ' m' K' ρ' w' h1 h2 h3
   have fb:Fok P n (.block id b) (fun h σ R k=>exec J n b h σ (dB id k)):=fun R E fr hrd h σ k r m K ρ w Q hh hr hQ=>by
     refine wpIn_block (bE hJ b R E fr hrd h σ _ r m K ρ w _ hh hr ?_)
     intro e h' σ' m' K' ρ' w' h1 h2 h3
     cases e with
     | exit i =>
       change (bif Nat.beq i id then k .normal h' σ' else k (.exit i) h' σ')=some r at h3
       show if i=id then _ else _
       cases hb:Nat.beq i id with
       | true =>
         rw [hb] at h3
         rw [if_pos (Nat.eq_of_beq_eq_true hb)]
         exact hQ _ h' σ' m' K' ρ' w' h1 h2 h3
       | false =>
         rw [hb] at h3
         rw [if_neg (fun e=>by rw [e,Nat.beq_refl] at hb; cases hb)]
         exact hQ _ h' σ' m' K' ρ' w' h1 h2 h3
     | normal=>exact hQ _ h' σ' m' K' ρ' w' h1 h2 h3
     | goto l=>exact hQ _ h' σ' m' K' ρ' w' h1 h2 h3
     | ret=>exact hQ _ h' σ' m' K' ρ' w' h1 h2 h3
     | panic i=>exact hQ _ h' σ' m' K' ρ' w' h1 h2 h3
     | outgrown=>exact hQ _ h' σ' m' K' ρ' w' h1 h2 h3
   have plain:∀ h0,exec J n b h0 σ (dB id k)=some r→(Code.block id b).wpIn (aw E.rd) 0 P Q (act1 n ρ) w:=fun h0 hh=>fb R E fr hrd h0 σ k r m K ρ w Q hh hr hQ
   cases h with
   | jn mk s act ha hb =>
     have hh:(match Zt.mcs mk σ with | some σ=>fi (fun h σ R k=>exec J n b h σ (dB id k)) s act (s.sl.map (·.1)++bf b) ha hb σ (k .normal) | none=>none)=some r:=hh
     split at hh
     . rename_i σ1 hm
       obtain ⟨m1,k1,k2⟩:=gF hm hr
       exact oR fb hrd hh k2 (fun h' σ' m' K' ρ' w' h1 h2 h3=>hQ _ h' σ' m' K' ρ' w' h1 (k1.trans h2) h3)
     . cases hh
   | jx mk s act ha hb =>
     have hh:(match Zt.mcs mk σ with | some σ=>fl (fun h σ R k=>exec J n b h σ (dB id k)) s act (s.sl.map (·.1)++bf b) ha hb σ k | none=>none)=some r:=hh
     split at hh
     . rename_i σ1 hm
       obtain ⟨m1,k1,k2⟩:=gF hm hr
       exact oU fb hrd hh k2 (fun e h' σ' m' K' ρ' w' q1 q2 q3=>hQ e h' σ' m' K' ρ' w' q1 (k1.trans q2) q3)
     . cases hh
   | pl h=>exact plain _ hh
   | nil=>exact plain _ hh
   | two _ _ _=>exact plain _ hh
   | tw _ _ _=>exact plain _ hh
   | sq _ _ _ _ _=>exact plain _ hh
   | sx _ _ _ _ _=>exact plain _ hh
   | lp _ _=>exact plain _ hh
   | un _ _=>exact plain _ hh
   | per _ _ _=>exact plain _ hh
   | perb _ _ _ _=>exact plain _ hh
   | mc _ _ _ _=>exact plain _ hh
   | ms _ _=>exact plain _ hh
   | wt _ _=>exact plain _ hh
   | cl _ _ _=>exact plain _ hh
   | c2 _ _ _ _=>exact plain _ hh
   | gp _ _=>exact plain _ hh
   | gj _ _ _ _ _=>exact plain _ hh
   | mix _ _ _ _ _=>exact plain _ hh
   | opn _ _ _=>exact plain _ hh
   | opb _ _ _=>exact plain _ hh
   | cls _ _ _=>exact plain _ hh
   | opp _ _ _ _=>exact plain _ hh
   | ot _ _=>exact plain _ hh
   | cm _ _ _ _=>exact plain _ hh
   | cm2 _ _ _ _ _=>exact plain _ hh
   | tr _ _ _ _ _=>exact plain _ hh
   | tru _=>exact plain _ hh
   | yl _ _=>exact plain _ hh
   | rg _ _=>exact plain _ hh
   | il _ _=>exact plain _ hh
 | .loop b=>fun R E fr hrd h σ k r m K ρ w Q hh hr hQ=>by
   obtain ⟨h1,σ1,m1,K1,g1,g2,g3⟩:=aD h (show av h σ (fun h σ=>match h with
     | .un m r=>gC (fun h σ k=>exec J n b h σ k) k m r σ
     | .lp s ha=>jD (fun h σ R k=>exec J n b h σ k) s (s.sl.map (·.1)++bf b) ha σ k
     | _=>none)=some r from hh) hr
   have hQ':∀ e h' σ' m' K' ρ' w',Rel E fr σ' m' K' ρ' w'→Same σ1 σ'→k e h' σ'=some r→Q e (act1 n ρ') w':=fun e h'' σ'' m'' K'' ρ'' w'' p1 p2 p3=>hQ e h'' σ'' m'' K'' ρ'' w'' p1 (g2.trans p2) p3
   split at g1
   . exact wpIn_loop_rounds _ (nN (bE hJ b) hrd hQ' _ g1 g3 Same.rfl')
   . exact ux (bE hJ b) hrd g1 g3 hQ'
   . cases g1
 | .rangeFunc g ps ao bo=>fun R E fr hrd h σ k r m K ρ w Q hh hr hQ=>by
   obtain ⟨h1,σ1,m1,K1,g1,g2,g3⟩:=aD h (show av h σ (fun h σ=>jO J n g ps ao bo h σ k)=some r from hh) hr
   exact uH hJ hrd g1 g3 (fun e h'' σ'' m'' K'' ρ'' w'' p1 p2 p3=>hQ e h'' σ'' m'' K'' ρ'' w'' p1 (g2.trans p2) p3)
 | .goto l=>fun R E fr hrd h σ k r m K ρ w Q hh hr hQ=>by cases hh
 | .refuse s=>fun R E fr hrd h σ k r m K ρ w Q hh hr hQ=>by cases hh
theorem ol:∀ d:Nat,JOk (lY (P:=P) d)
 | 0=>fun n c R E fr hrd h σ k r m K ρ w Q hh hr hQ=>by cases hh
 | d + 1=>fun n c=>bE (ol d) c
end
end
section
variable [BldA]
def cC (P:Program) (n:Nat) (σ:Zt):List ResultVar→Option (List SV)
 | []=>some []
 | .tmp t :: r=>(match cC P n σ r with | some vs=>some (σ.ev n (.tmp t) :: vs) | none=>none)
 | .cell a ty :: r=>(match σ.ev n (.tmp a) with
   | .ptr i o=>(match aE (HA.blkR i) (σ.H++σ.Hf) with
     | some q=>(match ldv P ty q.cs o,cC P n σ r with | some v,some vs=>some (v :: vs) | _,_=>none)
     | none=>none)
   | _=>none)
def rh:List SV→SV
 | [v]=>v
 | vs => .tup vs
def dE (σ:Zt) (rs:List SV) (o:Sh):Option (TL o.ts):=bif (match rs,o.sl with | [],[]=>true | _ :: _,[p]=>Nat.beq p.1 0 | _,_=>false) then (match o.get (fun _=>rh rs) σ.H with | some g=>TL.of o.ts g.ds | none=>none) else none
def jW {P:Program} (σ:Zt) (rs:List SV):(os:List Sh)→Hn P→Option (bN os)
 | [a],_=>dE σ rs a
 | [a,b],h=>(match h with | .pl _=>(dE σ rs b).map Sum.inr | _=>(dE σ rs a).map Sum.inl)
 | _,_=>none
def jR {P:Program} (n:Nat) (fn:Func) (os:List Sh) (h:Hn P) (σ:Zt):Option (bN os):=av h σ fun h σ=>match cC P n σ fn.results.toList with | some rs=>jW σ rs os h | none=>none
def fin {P:Program} (n:Nat) (fn:Func) (os:List Sh) (e:Exit) (h:Hn P) (σ:Zt):Option (bN os):=match e with
 | .normal=>jR n fn os h σ
 | .ret=>jR n fn os h σ
 | _=>none
def mo {P:Program} (n:Nat) (fn:Func) (c:Code) (inn:Sh) (os:List Sh) (h:Hn P) (x:TL inn.ts):Option (bN os):=match inn.un (TL.list inn.ts x) 0 with
 | some (vs,u)=>av h ⟨fun _ => .any,vs,u.H,[],u.nx,false⟩ fun h σ=>exec (lY 4) n c h σ (fin n fn os)
 | none=>none
section
variable {P:Program} {E:En} {n:Nat} {m:List M} {K:Hp} {fr:Frz} {σ:Zt} {ρ:Sl1} {w:World}
theorem lm (hr:Rel E fr σ m K ρ w):∀ {l:List ResultVar} {rs:List SV},cC P n σ l=some rs→∃ us:List Value,SV.relL m K rs us∧l.length=us.length∧∀ (j:Nat) (r:ResultVar) (v:Value),l[j]? = some r→us[j]? = some v→gU P n (Hold E K (σ.atoms fr m)) ρ r v
 | [],rs,h=>by cases h; exact ⟨[],rfl,rfl,fun j r v h=>by simp at h⟩
 | .tmp t :: l,rs,h=>by
   unfold cC at h
   split at h
   . rename_i vs hvs
     cases h
     obtain ⟨us,h1,h2,h3⟩:=lm hr hvs
     refine ⟨ev n ρ (.tmp t) :: us,⟨_,us,rfl,hr.toPur.ev n (.tmp t),h1⟩,by simp [h2],fun j r v hj hv=>?_⟩
     cases j with
     | zero=>simp at hj hv; subst hj hv; rfl
     | succ j=>exact h3 j r v (by simpa using hj) (by simpa using hv)
   . cases h
 | .cell a ty :: l,rs,h=>by
   unfold cC at h
   split at h
   . rename_i i o e
     split at h
     . rename_i q hq
       split at h
       . rename_i v vs hv hvs
         cases h
         obtain ⟨us,h1,h2,h3⟩:=lm hr hvs
         obtain ⟨x,hx,hmem⟩:=aR hq
         obtain rfl:=bU hx
         obtain ⟨b,ws,g1,g2,g3⟩:=hr.cls.blk hmem
         obtain ⟨u,g4,g5⟩:=gH (P:=P) (o0:=0) hv g2 (fun j u hu=>by rw [Nat.zero_add]; exact g3 j u hu)
         rw [Nat.zero_add] at g4
         have hev:=hr.toPur.ev n (.tmp a)
         rw [e] at hev
         obtain ⟨b',q1,q2⟩:=hev
         rw [g1] at q1; cases q1
         refine ⟨u :: us,⟨_,us,rfl,g5,h1⟩,by simp [h2],fun j r v hj hv=>?_⟩
         cases j with
         | zero=>simp at hj hv; subst hj hv; exact ⟨b,o,q2,g4⟩
         | succ j=>exact h3 j r v (by simpa using hj) (by simpa using hv)
       . cases h
     . cases h
   . cases h
theorem ov {C:World→Prop} {w:World} (hw:C w):∀ {l:List ResultVar} {us:List Value},l.length=us.length→(∀ (j:Nat) (r:ResultVar) (v:Value),l[j]? = some r→us[j]? = some v→gU P n C ρ r v)→(l.mapM (rvS (frm n ρ))).run P w = .ok us w
 | [],us,h,_=>by
   obtain rfl:us=[]:=List.length_eq_zero_iff.1 h.symm
   simp
 | r :: l,us,h,hr=>by
   cases us with
   | nil=>cases h
   | cons u us =>
     have h1:=pZ (hr 0 r u rfl rfl) hw
     have h2:=ov hw (l:=l) (us:=us) (by simpa using h) (fun j r v hj hv=>hr (j + 1) r v (by simpa using hj) (by simpa using hv))
     simp [List.mapM_cons,h1,h2]
def gP:List Value→Value
 | [v]=>v
 | vs => .tuple vs.toArray
theorem vN {C:World→Prop} {w:World} (hw:C w) {fn:Func} {us:List Value} (hl:fn.results.toList.length=us.length) (h:∀ (j:Nat) (r:ResultVar) (v:Value),fn.results.toList[j]? = some r→us[j]? = some v→gU P n C ρ r v):(results fn (frm n ρ)).run P w = .ok (gP us) w:=by
 have h1:=ov hw hl h
 rw [m9]
 simp only [Array.mapM_eq_mapM_toList]
 simp only [Sem.run_bind,Sem.run_map,h1,Result.andThen_ok,Sem.run_pure]
 match us with
 | []=>rfl
 | [u]=>rfl
 | u :: v :: r =>
   rw [dif_neg (by simp)]
   rfl
theorem tZ {rs:List SV} {us:List Value} (h:SV.relL m K rs us) (hne:rs≠[]):SV.rel m K (rh rs) (gP us):=by
 match rs,us,h with
 | [],_,_=>exact absurd rfl hne
 | [v],us,h =>
   obtain ⟨u,q,rfl,h1,h2⟩:=ax h
   obtain rfl:=aA h2
   exact h1
 | v :: v2 :: r,us,h =>
   obtain ⟨u,q,rfl,h1,h2⟩:=ax h
   obtain ⟨u2,q2,rfl,h3,h4⟩:=ax h2
   exact ⟨_,rfl,u,_,rfl,h1,u2,q2,rfl,h3,h4⟩
theorem lr {rs:List SV} {us:List Value} {o:Sh} {x:TL o.ts} {K0:Hp} {m0:List M} (h:dE σ rs o=some x) (hr:Rel E fr σ m K ρ w) (hrel:SV.relL m K rs us) (hm:m0 <+: m) (ho:aX o.bl m0.length=true) (hF:σ.Hf=[]) :
   ∃ vs' u' m',o.un (TL.list o.ts x) m0.length=some (vs',u')∧m0 <+: m'∧m'.length=u'.nx∧(∀ a∈u'.H,HA.ok m' K a)∧fp m' K vs' (gP us)∧Sep E K (u'.H.map (HA.conc m')++fr.F) w:=by
 unfold dE at h
 replace h:=ab h; obtain ⟨hs,h⟩:=h
 split at h
 . rename_i g hg
   obtain ⟨vs,u,ms,e1,e2,e3,e4,e5,e6,e7,e8⟩:=Sh.get_un hg hr.okH hm ho
   rw [TL.of_list h]
   refine ⟨vs,u,m0++ms,e1,aj _ _,e2,e4,?_,?_⟩
   . split at hs
     . rename_i hsl
       rw [hsl] at e3
       obtain rfl:vs=[]:=e3
       obtain rfl:=aA hrel
       rfl
     . rename_i v r p hsl
       rw [hsl] at e3
       obtain ⟨sv,q,rfl,g1,g2⟩:=e3
       obtain rfl:q=[]:=g2
       exact g1 _ (tZ hrel (by simp))
     . cases hs
   . have:=e6 E _ w hr.toSep
     have h2:σ.fz fr=fr.F:=by unfold Zt.fz; rw [hF]; rfl
     rw [h2] at this
     have h3:Sep E K (g.H.map (HA.conc m)++(u.H.map (HA.conc (m0++ms))++fr.F)) w:=Sep.perm (fj _ _ _) this
     exact Sep.drops h3
 . cases h
theorem vp {rs:List SV} {us:List Value} {m0:List M} (hr:Rel E fr σ m K ρ w) (hrel:SV.relL m K rs us) (hm:m0 <+: m) (hF:σ.Hf=[]):∀ {os:List Sh} {h0:Hn P} {r:bN os},(∀ o∈os,aX o.bl m0.length=true)→jW σ rs os h0=some r →
   ∃ vs' u' m',(bg os r).1.un (bg os r).2 m0.length=some (vs',u')∧m0 <+: m'∧m'.length=u'.nx∧(∀ a∈u'.H,HA.ok m' K a)∧fp m' K vs' (gP us)∧Sep E K (u'.H.map (HA.conc m')++fr.F) w
 | [],h0,r,_,h=>Empty.elim r
 | [a],h0,r,ho,h=>lr (K0:=K) (show dE σ rs a=some r from h) hr hrel hm (ho a (by simp)) hF
 | [a,b],h0,r,ho,h=>by
   have key:(dE σ rs b).map Sum.inr=some r∨(dE σ rs a).map Sum.inl=some r:=by
     cases h0 <;> first | exact .inl h | exact .inr h
   clear h
   rcases key with h | h
   . rw [Option.map_eq_some_iff] at h
     obtain ⟨x,h,rfl⟩:=h
     exact lr (K0:=K) h hr hrel hm (ho b (by simp)) hF
   . rw [Option.map_eq_some_iff] at h
     obtain ⟨x,h,rfl⟩:=h
     exact lr (K0:=K) h hr hrel hm (ho a (by simp)) hF
 | a :: b :: c :: os,h0,r,_,h=>by cases h
theorem nV:∀ {sl:List (Nat×Kd)} {vs:List (Nat×SV)} {us:List Value} {j N:Nat},slN j sl N=true→vs.map (·.1)=sl.map (·.1)→slR m K vs us→∀ i sv,ai vs i=some sv→∃ k u,i=j + k∧us[k]? = some u∧SV.rel m K sv u
 | [],vs,us,j,N,h1,h2,h3,i,sv,hl=>by
   have:vs=[]:=by cases vs with | nil=>rfl | cons a b=>cases h2
   subst this; cases hl
 | p :: sl,vs,us,j,N,h1,h2,h3,i,sv,hl=>by
   cases vs with
   | nil=>cases h2
   | cons q vs =>
     simp only [List.map_cons,List.cons.injEq] at h2
     simp only [slN,Bool.and_eq_true] at h1
     have hj:=Nat.eq_of_beq_eq_true h1.1
     obtain ⟨u,r,rfl,g1,g2⟩:=h3
     change (bif Nat.beq q.1 i then some q.2 else ai vs i)=some sv at hl
     cases hb:Nat.beq q.1 i with
     | true =>
       rw [hb] at hl; cases hl
       have:=Nat.eq_of_beq_eq_true hb
       exact ⟨0,u,by rw [← this,h2.1,hj]; rfl,rfl,g1⟩
     | false =>
       rw [hb] at hl
       obtain ⟨k,u',e1,e2,e3⟩:=nV h1.2 h2.2 g2 i sv hl
       exact ⟨k + 1,u',by omega,by simpa using e2,e3⟩
theorem oZ {bi:List Nat}:∀ {sl:List (Nat×Kd)} {u u':Un} {vs:List (Nat×SV)},unS bi sl u=some (vs,u')→vs.map (·.1)=sl.map (·.1)
 | [],u,u',vs,h=>by cases h; rfl
 | p :: sl,u,u',vs,h=>by
   unfold unS at h
   split at h
   . split at h
     . rename_i h2
       cases h
       simp [oZ h2]
     . cases h
   . cases h
theorem vQ {s:Sh} {ds:List Dat} {nx:Nat} {vs:List (Nat×SV)} {u:Un} (h:s.un ds nx=some (vs,u)):vs.map (·.1)=s.sl.map (·.1):=by
 unfold Sh.un at h
 replace h:=(ab h).2
 split at h
 split at h
 . rename_i h1
   split at h
   . cases h; exact oZ h1
   . cases h
 . cases h
theorem pD:∀ {vs:List (Nat×SV)} {us:List Value},slR m K vs us→us.length=vs.length
 | [],us,h=>by obtain rfl:us=[]:=h; rfl
 | p :: vs,us,⟨u,r,e,_,h⟩=>by subst e; simp [pD h]
end
section
variable {P:Program} {E:En} {n:Nat} {m:List M} {K:Hp} {fr:Frz} {σ:Zt} {ρ:Sl1} {w:World}
theorem lu {b:Bool}:∀ l:List ResultVar,cC P n ⟨σ.base,σ.top,σ.H,σ.Hf,σ.nx,b⟩ l=cC P n σ l
 | []=>rfl
 | .tmp t :: r=>by unfold cC; rw [lu r]; rfl
 | .cell a ty :: r=>by unfold cC; rw [lu r]; rfl
theorem ve {b:Bool} {rs:List SV}:∀ {os:List Sh} {h:Hn P},jW ⟨σ.base,σ.top,σ.H,σ.Hf,σ.nx,b⟩ rs os h=jW σ rs os h
 | [],h=>rfl
 | [a],h=>rfl
 | [a,b],h=>by cases h <;> rfl
 | a :: b :: c :: os,h=>rfl
end
section
variable {P:Program} {n:Nat}
theorem wO {s:Spec} {fn:Func} {c:Code} (hf:P.funcs[s.f]? = some fn) (hb:fn.body=some c) (hn:fn.ntmps=n) (h:Hn P) (hc:(slN 0 s.inn.sl s.inn.sl.length&&Nat.ble s.inn.sl.length n)=true) (hold:∀ ds vs u,s.inn.un ds 0=some (vs,u)→∀ o∈s.outs,aX o.bl u.nx=true)
   (hex:∀ (x:TL s.inn.ts) r,s.fn x=some r→mo n fn c s.inn s.outs h x=some r):br P s:=by
 intro x r hx vs u hu m K args hgk hm hok hsl E w F hs
 rw [Bool.and_eq_true] at hc
 obtain ⟨hc1,hc2⟩:=hc
 have hkeys:=vQ hu
 have hlen:args.toArray.size≤n:=by
   have h1:=pD hsl
   have h2:vs.length=s.inn.sl.length:=by have:=congrArg List.length hkeys; simpa using this
   simp only [List.size_toArray]
   have:=Nat.le_of_ble_eq_true hc2
   omega
 refine callsIn_wide.1 (callsIn_of_wp_marks (F:=Fence.wide) (n:=0) hf hb trivial ?_)
 rw [hn,iJ hlen]
 have hrun:=hex x r hx
 unfold mo at hrun
 rw [hu] at hrun
 simp only at hrun
 have hrel:Rel E.out0 ⟨m,K,bG args.toArray,fun _=>false,F,K⟩ ⟨fun _ => .any,vs,u.H,[],u.nx,false⟩ m K (bG args.toArray) w:=by
   refine ⟨⟨List.prefix_refl m,Hp.le_refl K,hm,fun e=>(by cases e),fun i=>trivial,fun i e=>rfl,fun i _ => .inr rfl,fun i sv hi=>?_,hok,fun a ha=>by simp at ha,MOk.nil hgk (Hp.le_refl K)⟩,?_⟩
   . obtain ⟨k,v,e1,e2,e3⟩:=nV hc1 hkeys hsl i sv hi
     have:bG args.toArray i=v:=by
       show cv args.toArray i=v
       unfold cv
       rw [e1,Nat.zero_add]
       simp [e2]
     rw [this]; exact e3
   . exact hs.out0
 obtain ⟨hp,σp,mp,Kp,p1,p2,p3⟩:=aD h hrun hrel
 refine bE (ol 4) c (bN s.outs) E.out0 ⟨m,K,bG args.toArray,fun _=>false,F,K⟩ (fun l e=>by cases e) hp σp (fin n fn s.outs) r mp Kp _ w _ p1 p3 (fun e h' σ' m' K' ρ' w' h1 h2 h3=>?_)
 have fini:jR n fn s.outs h' σ'=some r→LeavesInM Fence.wide 0 P fn (act1 n ρ').tmps (fun e w'=>∃ v K' L',e = .returned v∧(∃ vs' u' m',(bg s.outs r).1.un (bg s.outs r).2 u.nx=some (vs',u')∧m <+: m'∧m'.length=u'.nx∧(∀ a∈u'.H,HA.ok m' K' a)∧fp m' K' vs' v∧L'=u'.H.map (HA.conc m'))∧K.le K'∧Sep E K' (L'++F) w') (act1 n ρ').defers .returning w':=fun h3=>by
   unfold jR at h3
   obtain ⟨h'',σ2,m2,K2,g1,g2,g3⟩:=aD h' h3 h1
   split at g1
   . rename_i rs hrs
     refine iv ρ'.ds g3.mks g3.toSep (fun K3 w3 c1 c2 c3=>?_)
     have g4:=g3.unmark c1 c2 c2 c3
     rw [← lu (b:=false)] at hrs
     rw [← ve (b:=false)] at g1
     obtain ⟨us,q1,q2,q3⟩:=lm g4 hrs
     refine ⟨gP us,vN (ρ:=(⟨ρ'.f,[]⟩:Sl1)) g4.hold q2 q3,?_⟩
     obtain ⟨vs',u',m'',z1,z2,z3,z4,z5,z6⟩:=vp (m0:=m) g4 q1 g4.hm (((p2.trans h2).trans g2).2) (fun o ho=>by rw [hm]; exact hold _ _ _ hu o ho) g1
     rw [hm] at z1
     exact ⟨_,K3,_,rfl,⟨vs',u',m'',z1,z2,z3,z4,z5,rfl⟩,g4.hK,z6.back⟩
   . cases g1
 cases e with
 | normal=>exact fini h3
 | ret=>exact fini h3
 | _=>cases h3
end
end
section
variable [BldA]
mutual
theorem jN {bi:List Nat}:∀ (k:Kd) {u u':Un} {v:SV},Kd.un bi k u=some (v,u')→u.nx≤u'.nx
 | .any,u,u',v,h=>by cases h; exact Nat.le_refl _
 | .dat t,u,u',v,h=>by unfold Kd.un at h; split at h <;> cases h; exact Nat.le_refl _
 | .nilp,u,u',v,h=>by cases h; exact Nat.le_refl _
 | .nils,u,u',v,h=>by cases h; exact Nat.le_refl _
 | .nilf,u,u',v,h=>by cases h; exact Nat.le_refl _
 | .ptr j o,u,u',v,h=>by unfold Kd.un at h; split at h <;> cases h; exact Nat.le_refl _
 | .own e t,u,u',v,h=>by unfold Kd.un at h; split at h <;> cases h; exact Nat.le_add_right _ _
 | .al j,u,u',v,h=>by unfold Kd.un at h; split at h <;> cases h; exact Nat.le_refl _
 | .fsl j m,u,u',v,h=>by unfold Kd.un at h; split at h <;> cases h; exact Nat.le_refl _
 | .agg ks,u,u',v,h=>by
   unfold Kd.un at h; split at h
   . cases h; exact fd ks (by assumption)
   . cases h
 | .tup ks,u,u',v,h=>by
   unfold Kd.un at h; split at h
   . cases h; exact fd ks (by assumption)
   . cases h
 | .fn f ks,u,u',v,h=>by
   unfold Kd.un at h; split at h
   . cases h; exact fd ks (by assumption)
   . cases h
 | .kat t o,u,u',v,h=>by
   unfold Kd.un at h; split at h
   . split at h
     . cases h; exact Nat.le_refl _
     . cases h
   . cases h
 | .ifc t k,u,u',v,h=>by
   unfold Kd.un at h; split at h
   . cases h; exact jN k (by assumption)
   . cases h
 | .lit w,u,u',v,h=>by cases h; exact Nat.le_refl _
 | .od o,u,u',v,h=>by
   unfold Kd.un at h
   replace h:=(ab h).2
   split at h
   . split at h
     . cases h; exact Nat.le_add_right _ _
     . cases h
   . cases h
 | .rp j,u,u',v,h=>by unfold Kd.un at h; split at h <;> cases h; exact Nat.le_refl _
 | .is j k,u,u',v,h=>by
   unfold Kd.un at h; split at h
   . split at h
     . cases h; exact jN k (by assumption)
     . cases h
   . cases h
theorem fd {bi:List Nat}:∀ (ks:List Kd) {u u':Un} {vs:List SV},Kd.unL bi ks u=some (vs,u')→u.nx≤u'.nx
 | [],u,u',vs,h=>by cases h; exact Nat.le_refl _
 | k :: ks,u,u',vs,h=>by
   unfold Kd.unL at h; split at h
   . rename_i h1
     split at h
     . rename_i h2; cases h; exact Nat.le_trans (jN k h1) (fd ks h2)
     . cases h
   . cases h
end
theorem pV {bi:List Nat}:∀ (sl:List (Nat×Kd)) {u u':Un} {vs:List (Nat×SV)},unS bi sl u=some (vs,u')→u.nx≤u'.nx
 | [],u,u',vs,h=>by cases h; exact Nat.le_refl _
 | p :: sl,u,u',vs,h=>by
   unfold unS at h; split at h
   . rename_i h1
     split at h
     . rename_i h2; cases h; exact Nat.le_trans (jN p.2 h1) (pV sl h2)
     . cases h
   . cases h
theorem qy {bi:List Nat}:∀ (bl:List Bk) (is:List Nat) {u u':Un},unB bi bl is u=some u'→u.nx≤u'.nx
 | [],[],u,u',h=>by cases h; exact Nat.le_refl _
 | [],i :: is,u,u',h=>by cases h
 | b :: bl,[],u,u',h=>by cases h
 | b :: bl, i :: is, u, u', h => by
   unfold unB at h; split at h
   . rename_i u1 h1
     refine Nat.le_trans ?_ (qy bl is h)
     unfold cV at h1
     cases hn:b.nu with
     | true=>rw [hn] at h1; cases h1; exact Nat.le_refl _
     | false =>
       rw [hn] at h1; simp only [cond_false] at h1
       cases hlp:b.lp with
       | true=>rw [hlp] at h1; simp only [cond_true] at h1; cases h1; exact Nat.le_refl _
       | false =>
       rw [hlp] at h1; simp only [cond_false] at h1
       cases hr:b.rw with
       | some o =>
         rw [hr] at h1
         dsimp only at h1
         cases hb:b.bu with
         | true =>
           rw [hb] at h1; simp only [cond_true] at h1
           split at h1
           . split at h1
             . split at h1
               . rename_i h2
                 cases h1
                 have h3:=fd b.ks h2
                 exact Nat.le_trans (show u.nx≤_ from h3) (Nat.le_succ _)
               . cases h1
             . cases h1
           . cases h1
         | false =>
         rw [hb] at h1; simp only [cond_false] at h1
         split at h1
         . split at h1
           . cases h1; exact Nat.le_succ _
           . cases h1
         . cases h1
       | none =>
       rw [hr] at h1
       dsimp only at h1
       cases hb:b.bu with
       | true =>
         rw [hb] at h1; simp only [cond_true] at h1
         split at h1 <;> cases h1
         exact Nat.le_refl _
       | false =>
         rw [hb] at h1; simp only [cond_false] at h1
         split at h1
         . rename_i h2
           cases h1
           exact Nat.le_trans (fd b.ks h2) (Nat.le_succ _)
         . cases h1
   . cases h
theorem pP:∀ (bl:List Bk) (nx:Nat),cu bl=true→(aK bl nx).2=nx + bl.length
 | [],nx,_=>rfl
 | b :: bl,nx,h=>by
   simp only [cu,Bool.and_eq_true] at h
   cases hb:b.old with
   | some i=>rw [hb] at h; cases h.1
   | none =>
     simp only [aK,hb,List.length_cons]
     rw [pP bl (nx + 1) h.2]
     omega
theorem wZ {s:Sh} {ds:List Dat} {vs:List (Nat×SV)} {u:Un} (h:s.un ds 0=some (vs,u)) (ho:cu s.bl=true):s.bl.length≤u.nx:=by
 unfold Sh.un at h
 replace h:=(ab h).2
 have hn:=pP s.bl 0 ho
 split at h
 rename_i bi nx he
 rw [he] at hn
 simp only [Nat.zero_add] at hn
 split at h
 . rename_i h1
   split at h
   . rename_i h2
     cases h
     have:=pV s.sl h1
     have:=qy s.bl bi h2
     simp only at *
     omega
   . cases h
 . cases h
theorem oM:∀ (bl:List Bk) {a b:Nat},aX bl a=true→a≤b→aX bl b=true
 | [],a,b,h,hab=>rfl
 | x :: bl,a,b,h,hab=>by
   simp only [aX,Bool.and_eq_true] at h ⊢
   refine ⟨?_,oM bl h.2 hab⟩
   cases ho:x.old with
   | none=>rfl
   | some i =>
     have h1:=h.1
     rw [ho] at h1
     simp only [Nat.blt_eq] at h1 ⊢
     omega
def lP (fn:Func):Code:=match fn.body with | some c=>c | none => .skip
def qt (s:Spec) (fn:Func):Bool:=fn.body.isSome&&(slN 0 s.inn.sl s.inn.sl.length&&Nat.ble s.inn.sl.length fn.ntmps)&&(cu s.inn.bl&&s.outs.all fun o=>aX o.bl s.inn.bl.length)
theorem ar {P:Program} {s:Spec} {fn:Func} (hf:P.funcs[s.f]? = some fn) (h:Hn P) (hc:qt s fn=true) (hex:(fun x=>mo fn.ntmps fn (lP fn) s.inn s.outs h x)=s.fn):br P s:=by
 unfold qt at hc
 simp only [Bool.and_eq_true] at hc
 obtain ⟨⟨h1,h2,h2'⟩,h3,h4⟩:=hc
 have hb:fn.body=some (lP fn):=by
   unfold lP
   cases hbd:fn.body with
   | none=>rw [hbd] at h1; cases h1
   | some c=>rfl
 refine wO hf hb rfl h (by rw [h2,h2']; rfl) (fun ds vs u hu o ho=>oM o.bl (List.all_eq_true.1 h4 o ho) (wZ hu h3)) (fun x r hx=>?_)
 rw [← hx]
 exact congrFun hex x
end
theorem wR [BldA] {P:Program} {s:Spec} {W:World} (hs:br P s) {x:TL s.inn.ts} {r:bN s.outs} (hr:s.fn x=some r) (hgk:BldA.gk (Hp.of W)) {vs:List (Nat×SV)} (hun:s.inn.un (TL.list _ x) 0=some (vs,⟨[],0,[],[]⟩))
   (hout:(bg s.outs r).1.un (bg s.outs r).2 0=some ([(0,.bool true)],⟨[],0,[],[]⟩)) {args:List Value} (hsl:slR [] (Hp.of W) vs args) :
   Calls P s.f args.toArray W fun e W'=>e = .returned (.bool true)∧Below W.heap.size W W':=by
 have h:=hs x r hr vs _ hun [] (Hp.of W) args hgk rfl (fun a ha=>by cases ha) hsl (En.of W) W [] (Sep.start W)
 refine h.mono fun e W' h=>?_
 obtain ⟨v,K',L',rfl,⟨vs',u',m',h1,_,_,_,h2,_⟩,h3,h4⟩:=h
 have h1:=h1.symm.trans hout
 cases h1
 obtain rfl:v = .bool true:=h2
 exact ⟨rfl,h4.below h3⟩
end
end Go.Proofs.YtdjcapgpjpadeaaDoor
namespace Go.Proofs
open Go.Shelf
def Tryd.lays189_ren:Go.Shelf.Ren:=⟨fun | 189=>23 | 125=>34 | 257=>33 | 128=>55 | 129=>56 | 294=>46 | 295=>47 | 296=>48 | 297=>49 | 298=>50 | 299=>51 | 216=>52 | 300=>53 | 301=>54 | 328=>63 | 329=>64 | 330=>65 | 331=>66 | 332=>67 | 215=>68 | 343=>74 | n=>n,fun | 28=>36 | 3=>3 | 46=>60 | 0=>0 | 51=>76 | 53=>78 | 4=>4 | 183=>70 | 182=>69 | 131=>56 | 5=>5 | 9=>9 | 218=>87 | 222=>91 | 228=>95 | 229=>96 | n=>n,fun | n=>n⟩
theorem Tryd.lays189:Go.Proofs.Lays.n189 Tryd.prog Tryd.lays189_ren:={
  mixed:=by kernel_rfl
  f125:=Tryd.func34.trans (congrArg some (by kernel_rfl))
  f128:=Tryd.func55.trans (congrArg some (by kernel_rfl))
  f129:=Tryd.func56.trans (congrArg some (by kernel_rfl))
  f189:=Tryd.func23.trans (congrArg some (by kernel_rfl))
  f215:=Tryd.func68.trans (congrArg some (by kernel_rfl))
  f216:=Tryd.func52.trans (congrArg some (by kernel_rfl))
  f257:=Tryd.func33.trans (congrArg some (by kernel_rfl))
  f294:=Tryd.func46.trans (congrArg some (by kernel_rfl))
  f295:=Tryd.func47.trans (congrArg some (by kernel_rfl))
  f296:=Tryd.func48.trans (congrArg some (by kernel_rfl))
  f297:=Tryd.func49.trans (congrArg some (by kernel_rfl))
  f298:=Tryd.func50.trans (congrArg some (by kernel_rfl))
  f299:=Tryd.func51.trans (congrArg some (by kernel_rfl))
  f300:=Tryd.func53.trans (congrArg some (by kernel_rfl))
  f301:=Tryd.func54.trans (congrArg some (by kernel_rfl))
  f328:=Tryd.func63.trans (congrArg some (by kernel_rfl))
  f329:=Tryd.func64.trans (congrArg some (by kernel_rfl))
  f330:=Tryd.func65.trans (congrArg some (by kernel_rfl))
  f331:=Tryd.func66.trans (congrArg some (by kernel_rfl))
  f332:=Tryd.func67.trans (congrArg some (by kernel_rfl))
  f343:=Tryd.func74.trans (congrArg some (by kernel_rfl))
  t0:=Tryd.underlying0
  a0:=Tryd.isAgg0
  z0:=Tryd.sizeOf0
  v0:=Tryd.zeroValue0
  t3:=Tryd.underlying3
  a3:=Tryd.isAgg3
  z3:=Tryd.sizeOf3
  v3:=Tryd.zeroValue3
  t4:=Tryd.underlying4
  a4:=Tryd.isAgg4
  z4:=Tryd.sizeOf4
  v4:=Tryd.zeroValue4
  t5:=Tryd.underlying5
  a5:=Tryd.isAgg5
  z5:=Tryd.sizeOf5
  v5:=Tryd.zeroValue5
  t9:=Tryd.underlying9
  a9:=Tryd.isAgg9
  z9:=Tryd.sizeOf9
  v9:=Tryd.zeroValue9
  t28:=Tryd.underlying36
  a28:=Tryd.isAgg36
  z28:=Tryd.sizeOf36
  v28:=Tryd.zeroValue36
  t46:=Tryd.underlying60
  a46:=Tryd.isAgg60
  z46:=Tryd.sizeOf60
  v46:=Tryd.zeroValue60
  t51:=Tryd.underlying76
  a51:=Tryd.isAgg76
  z51:=Tryd.sizeOf76
  v51:=Tryd.zeroValue76
  t53:=Tryd.underlying78
  a53:=Tryd.isAgg78
  z53:=Tryd.sizeOf78
  v53:=Tryd.zeroValue78
  t131:=Tryd.underlying56
  a131:=Tryd.isAgg56
  z131:=Tryd.sizeOf56
  v131:=Tryd.zeroValue56
  t182:=Tryd.underlying69
  a182:=Tryd.isAgg69
  z182:=Tryd.sizeOf69
  v182:=Tryd.zeroValue69
  t183:=Tryd.underlying70
  a183:=Tryd.isAgg70
  z183:=Tryd.sizeOf70
  v183:=Tryd.zeroValue70
  t218:=Tryd.underlying87
  a218:=Tryd.isAgg87
  z218:=Tryd.sizeOf87
  v218:=Tryd.zeroValue87
  t222:=Tryd.underlying91
  a222:=Tryd.isAgg91
  z222:=Tryd.sizeOf91
  v222:=Tryd.zeroValue91
  t228:=Tryd.underlying95
  a228:=Tryd.isAgg95
  z228:=Tryd.sizeOf95
  v228:=Tryd.zeroValue95
  t229:=Tryd.underlying96
  a229:=Tryd.isAgg96
  z229:=Tryd.sizeOf96
  v229:=Tryd.zeroValue96 }
open Go.Sort Go.RowKit in
theorem Tryd.slices_Sort_int (blk off cap:Nat) (zs:List Int) (w:World) (hH:Holds (Value.int .i64) w blk off zs.toArray) (hblk:blk < w.heap.size) (hsz:zs.length < 4611686018427387904) :
    Calls Tryd.prog 23 #[.slice (some ⟨blk,off,none⟩) zs.length cap] w fun e w' =>
      e = .returned (.tuple #[])∧∃ n os,w'=grow (putRow (Value.int .i64) (Sort.ahead w n) blk off (zs.mergeSort fun x y=>decide (x≤y)).toArray) os:=Any.slices_Sort_int Tryd.lays189 blk off cap zs w hH hblk hsz
def Tryd.laysNm220_ren:Go.Shelf.Ren:=⟨fun | 20=>32 | n=>n,fun | 22=>36 | 3=>3 | 4=>4 | 0=>0 | n=>n,fun | n=>n⟩
theorem Tryd.laysNm220:Go.Proofs.Lays2.n20 Tryd.prog Tryd.laysNm220_ren:={
  mixed:=by kernel_rfl
  f20:=Tryd.func32.trans (congrArg some (by kernel_rfl))
  t0:=Tryd.underlying0
  a0:=Tryd.isAgg0
  z0:=Tryd.sizeOf0
  v0:=Tryd.zeroValue0
  t3:=Tryd.underlying3
  a3:=Tryd.isAgg3
  z3:=Tryd.sizeOf3
  v3:=Tryd.zeroValue3
  t4:=Tryd.underlying4
  a4:=Tryd.isAgg4
  z4:=Tryd.sizeOf4
  v4:=Tryd.zeroValue4
  t22:=Tryd.underlying36
  a22:=Tryd.isAgg36
  z22:=Tryd.sizeOf36
  v22:=Tryd.zeroValue36
  i3:=by kernel_rfl }
open Go.RowKit Go.Lib Go.Sort in
/-- slices.Compact at []int: "Compact replaces consecutive runs of equal elements with a single copy. This is like the uniq command found on Unix. Compact modifies the contents of the slice s and returns the modified slice, which may have a smaller length. Compact zeroes the elements between the new length and the original length. The result preserves the nilness of s.": IT RETURNS THE SLICE CUT TO 'Lib.compact zs'; ITS CELLS HOLD 'Lib.compact zs', THEN ZERO VALUES up to the old length; all else is as it was, but for the count of draws. IN THE WORDS OF slices.Sort's CONTRACT ('Holds', 'putRow'): so the everyday 'slices.Sort(xs); xs = slices.Compact(xs)' goes from the one oK to the other. It asks 'zs.length ≤ cap' (every slice's: the reslicing 's[:k]' looks at it). Length 0, nil: '.._empty'. (LAID: no walk: one application.) -/
theorem Tryd.slices_Compact_int (blk off cap:Nat) (zs:List Int) (w:World) (hH:Holds (Value.int .i64) w blk off zs.toArray) (hsz:zs.length≤9223372036854775807) (hcap:zs.length≤cap) :
    Calls Tryd.prog 32 #[.slice (some ⟨blk,off,none⟩) zs.length cap] w fun e w'=>e = .returned (.slice (some ⟨blk,off,none⟩) (Lib.compact zs).length cap)∧∃ q,w'=putRow (Value.int .i64) (Sort.ahead w q) blk off (Lib.compact zs++List.replicate (zs.length - (Lib.compact zs).length) 0).toArray:=Any.slices_Compact_int Tryd.laysNm220 blk off cap zs w hH hsz hcap
open Go.RowKit Go.Lib Go.Sort in
/-- The same at a slice of length 0, a nil one too: it comes back as it is. (LAID: no walk: one application.) -/
theorem Tryd.slices_Compact_int_empty (a:Option Addr) (cap:Nat) (w:World) :
    Calls Tryd.prog 32 #[.slice a 0 cap] w fun e w'=>e = .returned (.slice a 0 cap)∧w'=w:=Any.slices_Compact_int_empty Tryd.laysNm220 a cap w
open Go.RowKit Go.Sort in
/-- .. and plain. (LAID: no walk: one application.) -/
theorem Tryd.slices_Sort_int_none (p:Option Addr) (cap:Nat) (w:World) :
    Calls Tryd.prog 23 #[.slice p 0 cap] w fun e w'=>e = .returned (.tuple #[])∧w'=w:=Any.slices_Sort_int_none Tryd.lays189 p cap w
end Go.Proofs
namespace Go.Proofs.YtdjcapgpjpadeaaDoor
noncomputable section
set_option linter.unusedVariables false
open Go.RowKit
def srt (xs:List Int):Option (List Int):=if xs.length≤1073741824 then some (xs.mergeSort fun x y=>decide (x≤y)) else none
theorem uf {xs r:List Int} (h:srt xs=some r):xs.length≤1073741824∧xs.mergeSort (fun x y=>decide (x≤y))=r:=by
 unfold srt at h; split at h
 . rename_i hh; cases h; exact ⟨hh,rfl⟩
 . cases h
theorem kX (K:Hp):∀ xs:List Int,Els K (.int .i64) (xs.map (Value.int .i64)) xs
 | []=>rfl
 | x :: xs=>⟨[.int .i64 x],_,rfl,rfl,kX K xs⟩
theorem kj {K:Hp}:∀ {xs:List Int} {cs:List Value},Els K (.int .i64) cs xs→cs=xs.map (Value.int .i64)
 | [],cs,h=>h
 | x :: xs,cs,h=>by
   obtain ⟨es,r,rfl,h1,h2⟩:=h
   obtain rfl:es=[.int .i64 x]:=h1
   rw [kj h2]; rfl
theorem rP {K:Hp} {ad:Option Addr} {m cap:Nat} {xs r:List Int} (h:srt xs=some r) :
   Tr Tryd.prog 23 #[.slice ad m cap] K [Row Hp.nil 3 (.int .i64) (.slice ad m cap) xs] (fun v K' L'=>(∃ (l:List Int),l=r∧v = .tuple #[]∧L'=[Row Hp.nil 3 (.int .i64) (.slice ad m cap) l])∧K=K'):=by
 obtain ⟨hl,rfl⟩:=uf h
 refine Tr.k (fun E w F hs=>?_)
 have hs':=hs
 obtain ⟨h0,⟨cs,h1,h2⟩,hd,hs2⟩:=hs
 have hle:h0.le (Hp.of w):=fun n o e=>hs2.sub n o (Hp.join_right e (hd n o e))
 obtain rfl:=kj h1
 have h2':=h2
 obtain ⟨h3,h4⟩:=h2
 rcases h4 with ⟨h5,h6,_⟩ | ⟨g,cp,cur,h5,rfl,h6,h7,h8,h9⟩
 . cases h5
   obtain rfl:xs=[]:=List.length_eq_zero_iff.1 h6
   refine (Tryd.slices_Sort_int_none none 0 w).mono ?_
   rintro e w' ⟨rfl,rfl⟩
   exact ⟨_,K,_,rfl,⟨_,rfl,rfl,rfl⟩,Hp.le_refl K,by simpa using hs'⟩
 . cases h5
   have hb:=hle g _ (aC g _)
   have ht:cur.toList.take xs.length=xs.map (Value.int .i64):=by simpa [Tp.size] using h9
   refine (Tryd.slices_Sort_int g 0 cap xs w (holds_of_blockI hb ht) (lt_of_block hb) (by omega)).mono ?_
   rintro e w' ⟨rfl,n,os,rfl⟩
   have hlen:(xs.mergeSort fun x y=>decide (x≤y)).length=xs.length:=List.length_mergeSort xs
   have ho:=ownsRow_sortedI (n:=n) (os:=os) (base:=0) (cap:=cap) hlen (Nat.zero_le g) hb h6 h7 (by simpa [Tp.size] using h8)
   refine ⟨_,K,[Row Hp.nil 3 (.int .i64) (.slice (some ⟨g,0,none⟩) xs.length cap) (xs.mergeSort fun x y=>decide (x≤y))],rfl,⟨_,rfl,rfl,rfl⟩,Hp.le_refl K,?_⟩
   exact hs'.grown hlen.symm (by simpa [hlen,Tp.size] using ho) (kX _ _) (grownBy_sortedI _) (.inl rfl)
def jX (xs:List Int):Option (List Int):=some (Lib.compact xs)
theorem rL {K:Hp} {ad:Option Addr} {m cap:Nat} {xs r:List Int} (h:jX xs=some r) :
   Tr Tryd.prog 32 #[.slice ad m cap] K [Row Hp.nil 3 (.int .i64) (.slice ad m cap) xs] (fun v K' L'=>(∃ (l:List Int) (ad1:Option Addr) (cp1:Nat),l=r∧v = .slice ad1 l.length cp1∧L'=[Row Hp.nil 3 (.int .i64) (.slice ad1 l.length cp1) l])∧K=K'):=by
 cases h
 refine Tr.k (fun E w F hs=>?_)
 have hs':=hs
 obtain ⟨h0,⟨cs,h1,h2⟩,hd,hs2⟩:=hs
 have hle:h0.le (Hp.of w):=fun n o e=>hs2.sub n o (Hp.join_right e (hd n o e))
 obtain rfl:=kj h1
 obtain ⟨h3,h4⟩:=h2
 rcases h4 with ⟨h5,h6,_⟩ | ⟨g,cp,cur,h5,rfl,h6,h7,h8,h9⟩
 . cases h5
   obtain rfl:xs=[]:=List.length_eq_zero_iff.1 h6
   refine (Tryd.slices_Compact_int_empty none 0 w).mono ?_
   rintro e w' ⟨rfl,rfl⟩
   exact ⟨_,K,_,rfl,⟨_,none,0,rfl,rfl,rfl⟩,Hp.le_refl K,hs'⟩
 . cases h5
   have hb:=hle g _ (aC g _)
   have ht:cur.toList.take xs.length=xs.map (Value.int .i64):=by simpa [Tp.size] using h9
   have hcl:(Lib.compact xs).length≤xs.length:=Lib.compact_length_le xs
   refine (Tryd.slices_Compact_int g 0 cap xs w (holds_of_blockI hb ht) (by unfold maxLen at h7; omega) h6).mono ?_
   rintro e w' ⟨rfl,q,rfl⟩
   have hlen:(Lib.compact xs++List.replicate (xs.length - (Lib.compact xs).length) (0:Int)).length=xs.length:=by simp; omega
   have ho:=ownsRow_sortedI (n:=q) (os:=#[]) (base:=0) (cap:=cap) hlen (Nat.zero_le g) hb h6 h7 (by simpa [Tp.size] using h8)
   have hg:=grownBy_sortedI (w:=w) (g:=g) (n:=q) (os:=#[]) (Lib.compact xs++List.replicate (xs.length - (Lib.compact xs).length) (0:Int)).toArray
   rw [show ∀ W:World,Sort.grow W #[]=W from fun W=>by simp [Sort.grow]] at ho hg
   refine ⟨_,K,[Row Hp.nil 3 (.int .i64) (.slice (some ⟨g,0,none⟩) (Lib.compact xs).length cap) (Lib.compact xs)],rfl,⟨_,_,_,rfl,rfl,rfl⟩,Hp.le_refl K,?_⟩
   refine hs'.grown rfl ?_ (kX _ _) hg (.inl rfl)
   obtain ⟨o1,o2⟩:=ho
   refine ⟨by simp [Tp.size],?_⟩
   rcases o2 with ⟨o2,_⟩ | ⟨g',cp',cur',o2,o3,o4,o5,o6,o7,o8⟩
   . cases o2
   . simp only [Value.slice.injEq,Option.some.injEq,Addr.mk.injEq,and_true] at o2
     obtain ⟨rfl,_,rfl⟩:=o2
     refine .inr ⟨g,cap,cur',rfl,Nat.zero_le _,o4,by omega,o6,by simpa [Tp.size] using o7,?_⟩
     have:cur'.toList.take (Lib.compact xs).length=(cur'.toList.take xs.length).take (Lib.compact xs).length:=by rw [List.take_take,Nat.min_eq_left hcl]
     simp only [Nat.mul_one] at o8
     have hsz:(Tp.int IntKind.i64).size=1:=rfl
     rw [hsz,Nat.mul_one,this,o8,List.map_append,List.take_append_of_le_length (by simp),List.take_of_length_le (by simp)]
set_option linter.unnecessarySimpa false
set_option linter.unusedSectionVars false
set_option linter.unusedSimpArgs false
section
variable [BldA]
theorem pG {m:List M} {K:Hp} {x:List Int} {e:TypeId} {args:List Value} {E:En} {w:World} {F:List aa} (hm:m.length=2) (hH:HA.ok m K (.row 0 1 e (.int .i64) x x.length)) (hsl:slR m K [(0,.own 0)] args) (hs:Sep E K ([HA.row 0 1 e (.int .i64) x x.length].map (HA.conc m)++F) w) :
   ∃ ad cap,args=[.slice ad x.length cap]∧m[0]? = some (.val (.slice ad x.length cap))∧Sep E K (Row Hp.nil e (.int .i64) (.slice ad x.length cap) x :: F) w:=by
 obtain ⟨ad,cap,cs,e0,e1,hE,_,h1,h2,h3⟩:=hH
 obtain ⟨u,r,rfl,⟨e2,e3⟩,rfl⟩:=hsl
 rw [e0] at e2
 cases e2
 refine ⟨ad,cap,rfl,e0,?_⟩
 have hs':Sep E K (HA.conc m (.row 0 1 e (.int .i64) x x.length) :: F) w:=hs
 simp only [HA.conc,e0,e1] at hs'
 exact hs'.mono (fun h k=>⟨cs,Els.flat rfl hE,k⟩)
theorem oW {K:Hp} {e:TypeId} {ad:Option Addr} {n cap:Nat} {l:List Int} {E:En} {w:World} {F:List aa} (hs:Sep E K ([Row Hp.nil e (.int .i64) (.slice ad n cap) l]++F) w) :
   n=l.length∧l.length≤cap∧cap≤maxLen∧(l≠[]→∃ g,ad=some ⟨g,0,none⟩)∧∃ cs,Els K (.int .i64) cs l∧Sep E K (Rw e 1 (.slice ad l.length cap) l.length cs :: F) w:=by
 have hs:Sep E K (Row Hp.nil e (.int .i64) (.slice ad n cap) l :: F) w:=hs
 obtain ⟨ad',cap',h1,h2,h3,h4⟩:=hs.fact (fun h k=>Row.form h k)
 cases h1
 obtain ⟨h0,⟨cs,hE,hR⟩,hd,hs2⟩:=hs
 exact ⟨rfl,h2,h3,h4,cs,Els.flat rfl hE,h0,hR,hd,hs2⟩
def lz:Spec:=⟨23,⟨[(0,.rp 0)],[⟨none,0,[],false,false,some (.row 3 (.dat (.int .i64))),false⟩]⟩,[⟨[],[⟨some 0,0,[],false,false,some (.row 3 (.dat (.int .i64))),false⟩]⟩],fun x=>srt x⟩
theorem vq:br Tryd.prog lz:=by
 intro x r hr vs u hu m K args hgk hm hH hsl E w F hs
 have hu':lz.inn.un (TL.list _ x) 0=some ([(0,.own 0)],⟨[],2,[.row 0 1 3 (.int .i64) x (List.length (α:=Int) x)],[]⟩):=rfl
 rw [hu'] at hu
 cases hu
 replace hm:m.length=2:=hm
 obtain ⟨ad,cap,rfl,e0,hs'⟩:=pG hm (hH _ (by simp)) hsl hs
 refine (rP (K:=K) hr E w F hs').mono ?_
 rintro e w' ⟨v,K',L',rfl,⟨⟨l,rfl,rfl,rfl⟩,rfl⟩,h1,h2⟩
 obtain ⟨g1,g2,g3,g4,cs,g5,g6⟩:=oW h2
 have hm0:(m++[M.cont (.int .i64) l cs])[0]? = some (.val (.slice ad (List.length (α:=Int) l) cap)):=by
   rw [List.getElem?_append_left (by omega),e0,g1]
 have hm1:(m++[M.cont (.int .i64) l cs])[2]? = some (.cont (.int .i64) l cs):=by
   rw [List.getElem?_append_right (by omega),hm]; rfl
 refine ⟨_,K,_,rfl,⟨[],⟨[],3,[.row 0 2 3 (.int .i64) l (List.length (α:=Int) l)],[]⟩,m++[.cont (.int .i64) l cs],rfl,List.prefix_append _ _,by simp [hm],?_,rfl,rfl⟩,h1,?_⟩
 . intro a ha
   simp only [List.mem_singleton] at ha
   subst ha
   exact ⟨ad,cap,cs,hm0,hm1,g5,rfl,g2,g3,g4⟩
 . show Sep E K (HA.conc _ (.row 0 2 3 (.int .i64) l (List.length (α:=Int) l)) :: F) w'
   simp only [HA.conc,hm0,hm1]
   exact g6
def pC:OkSpec Tryd.prog:=⟨lz,vq,Tryd.call23⟩
def kv:Spec:=⟨32,⟨[(0,.own 3 (.int .i64))],[]⟩,[⟨[(0,.own 3 (.int .i64))],[]⟩],fun x=>jX x⟩
theorem sk:br Tryd.prog kv:=by
 intro x r hr vs u hu m K args hgk hm hH hsl E w F hs
 have hu':kv.inn.un (TL.list _ x) 0=some ([(0,.own 0)],⟨[],2,[.row 0 1 3 (.int .i64) x (List.length (α:=Int) x)],[0]⟩):=rfl
 rw [hu'] at hu
 cases hu
 replace hm:m.length=2:=hm
 obtain ⟨ad,cap,rfl,e0,hs'⟩:=pG hm (hH _ (by simp)) hsl hs
 refine (rL (K:=K) hr E w F hs').mono ?_
 rintro e w' ⟨v,K',L',rfl,⟨⟨l,ad1,cp1,rfl,rfl,rfl⟩,rfl⟩,h1,h2⟩
 obtain ⟨_,g2,g3,g4,cs,g5,g6⟩:=oW h2
 have hm0:(m++[M.val (.slice ad1 (List.length (α:=Int) l) cp1),M.cont (.int .i64) l cs])[2]? = some (.val (.slice ad1 (List.length (α:=Int) l) cp1)):=by
   rw [List.getElem?_append_right (by omega),hm]; rfl
 have hm1:(m++[M.val (.slice ad1 (List.length (α:=Int) l) cp1),M.cont (.int .i64) l cs])[3]? = some (.cont (.int .i64) l cs):=by
   rw [List.getElem?_append_right (by omega),hm]; rfl
 refine ⟨_,K,_,rfl,⟨[(0,.own 2)],⟨[],4,[.row 2 3 3 (.int .i64) l (List.length (α:=Int) l)],[2]⟩,m++[M.val (.slice ad1 (List.length (α:=Int) l) cp1),M.cont (.int .i64) l cs],rfl,List.prefix_append _ _,by simp [hm],?_,⟨hm0,rfl⟩,rfl⟩,h1,?_⟩
 . intro a ha
   simp only [List.mem_singleton] at ha
   subst ha
   exact ⟨ad1,cp1,cs,hm0,hm1,g5,rfl,g2,g3,g4⟩
 . show Sep E K (HA.conc _ (.row 2 3 3 (.int .i64) l (List.length (α:=Int) l)) :: F) w'
   simp only [HA.conc,hm0,hm1]
   exact g6
def sA:OkSpec Tryd.prog:=⟨kv,sk,Tryd.call32⟩
end
end
end Go.Proofs.YtdjcapgpjpadeaaDoor
namespace Go.Proofs
open Go.Shelf
def Tryd.lays29_ren:Go.Shelf.Ren:=⟨fun | 29=>75 | n=>n,fun | 22=>78 | 3=>3 | 4=>4 | 25=>60 | 54=>98 | 0=>0 | 5=>5 | n=>n,fun | 1=>0 | n=>n⟩
theorem Tryd.lays29:Go.Proofs.Lays7.n29 Tryd.prog Tryd.lays29_ren:={
  mixed:=by kernel_rfl
  f29:=Tryd.func75.trans (congrArg some (by kernel_rfl))
  t0:=Tryd.underlying0
  a0:=Tryd.isAgg0
  z0:=Tryd.sizeOf0
  v0:=Tryd.zeroValue0
  i0:=by kernel_rfl
  t3:=Tryd.underlying3
  a3:=Tryd.isAgg3
  z3:=Tryd.sizeOf3
  v3:=Tryd.zeroValue3
  i3:=by kernel_rfl
  t4:=Tryd.underlying4
  a4:=Tryd.isAgg4
  z4:=Tryd.sizeOf4
  v4:=Tryd.zeroValue4
  i4:=by kernel_rfl
  t5:=Tryd.underlying5
  a5:=Tryd.isAgg5
  z5:=Tryd.sizeOf5
  v5:=Tryd.zeroValue5
  i5:=by kernel_rfl
  t22:=Tryd.underlying78
  a22:=Tryd.isAgg78
  z22:=Tryd.sizeOf78
  v22:=Tryd.zeroValue78
  i22:=by kernel_rfl
  t25:=Tryd.underlying60
  a25:=Tryd.isAgg60
  z25:=Tryd.sizeOf60
  v25:=Tryd.zeroValue60
  i25:=by kernel_rfl
  t54:=Tryd.underlying98
  a54:=Tryd.isAgg98
  z54:=Tryd.sizeOf98
  g1:=by kernel_rfl }
end Go.Proofs
namespace Go.Proofs.YtdjcapgpjpadeaaDoor
noncomputable section
set_option linter.unusedVariables false
set_option linter.unnecessarySimpa false
set_option linter.unusedSectionVars false
set_option linter.unusedSimpArgs false
open Go.RowKit
def tzF (x:Int):Option Int:=if 0≤x∧x < 18446744073709551616 then some ((Lib.ctz 64 x.toNat:Nat):Int) else none
def tzGk (K:Hp):Prop:=∀ j,j < 64→aJ K 0 j=some (.int .u8 ((Lib.deBruijn64tab.getD j 0:Nat):Int))
theorem tzGk.mono {K K':Hp} (h:K.cle K') (g:tzGk K):tzGk K':=fun j hj=>h _ _ _ (g j hj)
def lX:Spec:=⟨75,⟨[(0,.dat (.int .u64))],[]⟩,[⟨[(0,.dat (.int .i64))],[]⟩],tzF⟩
theorem wV [BldA] (hg:∀ K,BldA.gk K→tzGk K):br Tryd.prog lX:=by
 intro x r hr vs u hu m K args hgk hm hH hsl E w F hs
 have hu':lX.inn.un (TL.list _ x) 0=some ([(0,.int .u64 x)],⟨[],0,[],[]⟩):=rfl
 rw [hu'] at hu
 cases hu
 obtain ⟨v,q,rfl,h1,rfl⟩:=hsl
 obtain rfl:v = .int .u64 x:=h1
 replace hr:tzF x=some r:=hr
 unfold tzF at hr
 split at hr
 . rename_i hx
   cases hr
   have hxe:((x.toNat:Nat):Int)=x:=Int.toNat_of_nonneg hx.1
   have hc:=Any7.bits_TrailingZeros64 Tryd.lays29 x.toNat (by omega) w (fun _ j hj=>cG hs.sub (hg K hgk j hj))
   rw [hxe] at hc
   refine Calls.mono (show Calls Tryd.prog 75 #[.int .u64 x] w _ from hc) ?_
   rintro e w' ⟨rfl,rfl⟩
   exact ⟨_,K,[],rfl,⟨[(0,.int .i64 _)],⟨[],0,[],[]⟩,m,rfl,List.prefix_rfl,hm,fun a h=>(by cases h),rfl,rfl⟩,Hp.le_refl K,hs⟩
 . cases hr
set_option maxRecDepth 100000
set_option maxHeartbeats 4000000
section
open Go.RowKit _root_.Go.Proofs.Tryd
abbrev bkO (i:Nat) (o:OT):Bk:=⟨some i,0,[],false,false,some o,false⟩
abbrev bkC (i:Nat) (e:TypeId) (ks:List Kd):Bk:=⟨some i,e,ks,false,false,none,false⟩
abbrev bkN (e:TypeId) (ks:List Kd):Bk:=⟨none,e,ks,false,false,none,false⟩
abbrev bkU (i:Nat):Bk:=⟨some i,0,[],false,true,none,false⟩
abbrev bkM:Bk:=⟨none,0,[],false,true,none,false⟩
abbrev kdI (i:Nat):Nat×Kd:=(i,.dat (.int .i64))
abbrev kdB (i:Nat):Nat×Kd:=(i,.dat .bool)
abbrev Tq1:Type:=(Option (Int×(List (Option (Int×(List Int))))))
abbrev Yq1:Tp:=(.int .i64)
abbrev Tq2:Type:=(Option (List (Int×Int)))
abbrev Yq2:Tp:=(.sl (.cons Yq1 (.one Yq1)))
abbrev Tq3:Type:=(Option (Int×(List Int)))
abbrev Yq3:Tp:=(.int .u64)
abbrev Tq4:Type:=(List (Int×Int))
abbrev Tq5:Type:=(List (List Int))
abbrev Tq6:Type:=(Int×(List Int)×Tq2×Tq1)
abbrev Yq4:Tp:=(.ptr (.cons Yq1 (.one (.sl Yq3))))
abbrev Tq7:Type:=((Bool×(List Int)×Tq2×Tq1))
abbrev Yq5:Tp:=(.cons Yq1 (.one Yq1))
instance nob:BldA:=⟨1000000000,fun b _=>Cl b 1000000000 [.pointer none,.slice none 0 0],fun h=>h,tzGk,tzGk.mono⟩
def wQ:OkSpec Tryd.prog:=⟨lX,wV (fun _ h=>h),call75⟩

def fO (xb:Int) (qa0:Int) (qa1:(List Int)) (qa2:Tq2) (qa3:Tq1):Option (((List Int)×Tq2×Tq1)) :=
 qa2.bind fun y34=>cond (!((az xb y34 0).isSome)) (qa2.bind fun y37=>(app qa1 ([xb]:List Int)).bind fun z50=>some ((z50,(some (bI xb 0 y37):Tq2),qa3))) (some ((qa1,qa2,qa3)))
def hQ0:Hn Tryd.prog := .tw 16 .nil .nil
def sQ0:Spec:=⟨22,⟨[(0,.ptr 0 0),kdI 1],[bkN 47 [.is 1 (.dat Yq1),.own 3 Yq1,.od (.obj 0 Yq2),.od (.box 63 (.cons (.dat Yq1) (.one (.row 64 (.box 83 (.cons (.dat Yq1) (.one (.row 78 (.dat Yq3)))))))))],bkM]⟩,[⟨[],[bkC 0 47 [.is 1 (.any),.own 3 Yq1,.od (.obj 0 Yq2),.od (.box 63 (.cons (.dat Yq1) (.one (.row 64 (.box 83 (.cons (.dat Yq1) (.one (.row 78 (.dat Yq3)))))))))],bkU 1]⟩],fun x=>fO x.1 x.2.1 x.2.2.1 x.2.2.2.1 x.2.2.2.2⟩
def oQ0:OkSpec Tryd.prog:=⟨sQ0,ar func22 hQ0 (by kernel_rfl) (by kernel_rfl),call22⟩

def dH (qa0:Int) (qa1:(List Int)) (qa2:Tq2) (qa3:Tq1):Option (Tq6) :=
 some ((qa0,qa1,qa2,qa3))
def hQ1:Hn Tryd.prog := .nil
def sQ1:Spec:=⟨9,⟨[(0,.ptr 0 0)],[bkN 47 [.is 1 (.dat Yq1),.own 3 Yq1,.od (.obj 0 Yq2),.od (.box 63 (.cons (.dat Yq1) (.one (.row 64 (.box 83 (.cons (.dat Yq1) (.one (.row 78 (.dat Yq3)))))))))],bkM]⟩,[⟨[kdI 0],[bkC 0 47 [.is 1 (.any),.own 3 Yq1,.od (.obj 0 Yq2),.od (.box 63 (.cons (.dat Yq1) (.one (.row 64 (.box 83 (.cons (.dat Yq1) (.one (.row 78 (.dat Yq3)))))))))],bkU 1]⟩],fun x=>dH x.1 x.2.1 x.2.2.1 x.2.2.2⟩
def oQ1:OkSpec Tryd.prog:=⟨sQ1,ar func9 hQ1 (by kernel_rfl) (by kernel_rfl),call9⟩

def bZ (xb:Int) (qa0:Int) (qa1:(List Int)) (qa2:Tq2) (qa3:Tq1):Option Tq7 :=
 cond (decide (0≤xb)) ((dH qa0 qa1 qa2 qa3).bind fun (i4,l5,l6,l7)=>some ((decide (xb < i4),l5,l6,l7))) (some ((false,qa1,qa2,qa3)))
def hQ2:Hn Tryd.prog := .two 7 (.cl oQ1 [] .nil) .nil
def sQ2:Spec:=⟨21,⟨[(0,.ptr 0 0),kdI 1],[bkN 47 [.is 1 (.dat Yq1),.own 3 Yq1,.od (.obj 0 Yq2),.od (.box 63 (.cons (.dat Yq1) (.one (.row 64 (.box 83 (.cons (.dat Yq1) (.one (.row 78 (.dat Yq3)))))))))],bkM]⟩,[⟨[kdB 0],[bkC 0 47 [.is 1 (.any),.own 3 Yq1,.od (.obj 0 Yq2),.od (.box 63 (.cons (.dat Yq1) (.one (.row 64 (.box 83 (.cons (.dat Yq1) (.one (.row 78 (.dat Yq3)))))))))],bkU 1]⟩],fun x=>bZ x.1 x.2.1 x.2.2.1 x.2.2.2.1 x.2.2.2.2⟩
def oQ2:OkSpec Tryd.prog:=⟨sQ2,ar func21 hQ2 (by kernel_rfl) (by kernel_rfl),call21⟩

def f8 (xa:Int) (xb:Int):Option ((Int⊕(Int×Int×(List Tq3)))) :=
 cond ((decide (xa < 0))||(decide (xb < 0))) (some (.inl 2)) (cond ((decide (65536 < xa))||(decide (65536 < xb))) (some (.inl 5)) ((mk xa xa none:Option (List Tq3)).bind fun z25=>some (.inr (0,xb,z25))))
def hQ3:Hn Tryd.prog := .gp 2 (.tw 11 .nil (.wt 14 (.gp 2 (.tw 17 .nil (.ot (.box 83 (.cons (.dat Yq1) (.one (.row 78 (.dat Yq3))))) (.pl .nil))))))
def sQ3:Spec:=⟨24,⟨[kdI 0,kdI 1],[]⟩,[⟨[(0,.tup [.nilp,.dat Yq1])],[]⟩,⟨[(0,.tup [.ptr 0 0,.dat Yq1])],[bkN 63 [.dat Yq1,.od (.row 64 (.box 83 (.cons (.dat Yq1) (.one (.row 78 (.dat Yq3))))))]]⟩],fun x=>f8 x.1 x.2⟩
def oQ3:OkSpec Tryd.prog:=⟨sQ3,ar func24 hQ3 (by kernel_rfl) (by kernel_rfl),call24⟩

def cE (qa0:Int) (qa1:(List Tq3)):Option ((Int×(List Tq3))) :=
 some (((qa1.length:Int),qa1))
def hQ4:Hn Tryd.prog := .nil
def sQ4:Spec:=⟨38,⟨[(0,.ptr 0 0)],[bkN 63 [.is 1 (.dat Yq1),.od (.row 64 (.box 83 (.cons (.dat Yq1) (.one (.row 78 (.dat Yq3))))))],bkM]⟩,[⟨[kdI 0],[bkC 0 63 [.is 1 (.any),.od (.row 64 (.box 83 (.cons (.dat Yq1) (.one (.row 78 (.dat Yq3))))))],bkU 1]⟩],fun x=>cE x.1 x.2⟩
def oQ4:OkSpec Tryd.prog:=⟨sQ4,ar func38 hQ4 (by kernel_rfl) (by kernel_rfl),call38⟩

def d8 (xb:Int) (qa0:Int) (qa1:(List Tq3)):Option ((Bool×(List Tq3))) :=
 cond (decide (0≤xb)) ((cE qa0 qa1).bind fun (i70,l71)=>some ((decide (xb < i70),l71))) (some ((false,qa1)))
def hQ5:Hn Tryd.prog := .two 7 (.cl oQ4 [] .nil) .nil
def sQ5:Spec:=⟨35,⟨[(0,.ptr 0 0),kdI 1],[bkN 63 [.is 1 (.dat Yq1),.od (.row 64 (.box 83 (.cons (.dat Yq1) (.one (.row 78 (.dat Yq3))))))],bkM]⟩,[⟨[kdB 0],[bkC 0 63 [.is 1 (.any),.od (.row 64 (.box 83 (.cons (.dat Yq1) (.one (.row 78 (.dat Yq3))))))],bkU 1]⟩],fun x=>d8 x.1 x.2.1 x.2.2⟩
def oQ5:OkSpec Tryd.prog:=⟨sQ5,ar func35 hQ5 (by kernel_rfl) (by kernel_rfl),call35⟩

def cj (xa:Int):Option ((Int⊕(Int×Int×(List Int)))) :=
 cond (decide (xa < 0)) (some (.inl 2)) (cond (decide (1048576 < xa)) (some (.inl 5)) ((mk (IntKind.wrap .i64 (Int.tdiv (IntKind.wrap .i64 ((IntKind.wrap .i64 (xa + 64)) - 1)) 64)) (IntKind.wrap .i64 (Int.tdiv (IntKind.wrap .i64 ((IntKind.wrap .i64 (xa + 64)) - 1)) 64)) 0:Option (List Int)).bind fun z20=>some (.inr (0,xa,z20))))
def hQ6:Hn Tryd.prog := .tw 5 .nil (.tw 7 .nil (.pl (.pl .nil)))
def sQ6:Spec:=⟨57,⟨[kdI 0],[]⟩,[⟨[(0,.tup [.nilp,.dat Yq1])],[]⟩,⟨[(0,.tup [.ptr 0 0,.dat Yq1])],[bkN 83 [.dat Yq1,.own 78 Yq3]]⟩],fun x=>cj x⟩
def oQ6:OkSpec Tryd.prog:=⟨sQ6,ar func57 hQ6 (by kernel_rfl) (by kernel_rfl),call57⟩

def ic (xa:Tq3):Option Int :=
 cond (xa.isNone) (some (0)) (xa.bind fun y11=>some (y11.1))
def hQ7:Hn Tryd.prog := .tw 4 .nil .nil
def sQ7:Spec:=⟨69,⟨[(0,.dat Yq4)],[]⟩,[⟨[kdI 0],[]⟩],fun x=>ic x⟩
def oQ7:OkSpec Tryd.prog:=⟨sQ7,ar func69 hQ7 (by kernel_rfl) (by kernel_rfl),call69⟩

def db (xa:Tq3) (xb:Int):Option Bool :=
 (cond (decide (0≤xb)) ((ic xa).bind fun i28=>some (decide (xb < i28))) (some (false))).bind fun t24=>some (t24)
def hQ8:Hn Tryd.prog := .gj 4 ⟨[kdB 12],[]⟩ [] (.two 7 (.cl oQ7 [] .nil) .nil) .nil
def sQ8:Spec:=⟨58,⟨[(0,.dat Yq4),kdI 1],[]⟩,[⟨[kdB 0],[]⟩],fun x=>db x.1 x.2⟩
def oQ8:OkSpec Tryd.prog:=⟨sQ8,ar func58 hQ8 (by kernel_rfl) (by kernel_rfl),call58⟩

def cF (xa:Tq3) (xb:Int):Option Bool :=
 (db xa xb).bind fun t1=>cond (t1) (xa.bind fun y2=>(ae y2.2 (IntKind.wrap .i64 (Int.tdiv xb 64))).bind fun x3=>(ge0 (Int.tmod xb 64)).bind fun u4=>some (!decide ((IntKind.wrap .u64 ((BitVec.ofInt (IntKind.bits .u64) x3 &&& BitVec.ofInt (IntKind.bits .u64) (IntKind.wrap .u64 (1 * 2 ^ (min (Int.toNat (Int.tmod xb 64)) (IntKind.bits .u64))))).toNat:Int))=0))) (some (false))
def hQ9:Hn Tryd.prog := .mix [([0,1],2)] [3,4,5,6,7,8,9,10,11,12,13,14,15,16,17,18] [] [] (.cl oQ8 [] (.two 8 .nil .nil))
def sQ9:Spec:=⟨59,⟨[(0,.dat Yq4),kdI 1],[]⟩,[⟨[kdB 0],[]⟩],fun x=>cF x.1 x.2⟩
def oQ9:OkSpec Tryd.prog:=⟨sQ9,ar func59 hQ9 (by kernel_rfl) (by kernel_rfl),call59⟩

def da (xb:Int) (qa0:Int) (qa1:(List Int)):Option ((Bool×(List Int))) :=
 (db (some (qa0,qa1)) xb).bind fun t2=>(cond (!t2) (some (true)) ((cF (some (qa0,qa1)) xb).bind fun t3=>some (t3))).bind fun t4=>cond (t4) (some ((false,qa1))) ((ae qa1 (IntKind.wrap .i64 (Int.tdiv xb 64))).bind fun x5=>(ge0 (Int.tmod xb 64)).bind fun u6=>(ae qa1 (IntKind.wrap .i64 (Int.tdiv xb 64))).bind fun x7=>(some (qa1.set (IntKind.wrap .i64 (Int.tdiv xb 64)).toNat (IntKind.wrap .u64 ((BitVec.ofInt (IntKind.bits .u64) x5 ||| BitVec.ofInt (IntKind.bits .u64) (IntKind.wrap .u64 (1 * 2 ^ (min (Int.toNat (Int.tmod xb 64)) (IntKind.bits .u64))))).toNat:Int)))).bind fun z8=>some ((true,z8)))
def yB:Hn Tryd.prog := .cl oQ8 [2,0] (.gj 3 ⟨[kdB 13],[]⟩ [] (.two 9 .nil (.cl oQ9 [2,0] .nil)) (.tw 13 .nil (.mix [] [0,1,2,3,4,5,6,7,8,9,10,11,12] [13] [] .nil)))
def xN:Spec:=⟨37,⟨[(0,.ptr 0 0),kdI 1],[bkN 83 [.is 1 (.dat Yq1),.own 78 Yq3],bkM]⟩,[⟨[kdB 0],[bkC 0 83 [.is 1 (.any),.own 78 Yq3],bkU 1]⟩],fun x=>da x.1 x.2.1 x.2.2⟩
def mC:OkSpec Tryd.prog:=⟨xN,ar func37 yB (by kernel_rfl) (by kernel_rfl),call37⟩

def fP (xb:Int) (xc:Int) (qa0:Int) (qa1:(List Tq3)):Option ((Bool×(List Tq3))) :=
 (d8 xb qa0 qa1).bind fun (t2,l3)=>cond (((!t2)||(decide (xc < 0)))||(decide (qa0≤xc))) (some ((false,l3))) ((ae l3 xb).bind fun x4=>(ae l3 xb).bind fun _=>(bh xb xb).bind fun _=>cond (x4.isNone) ((ae (l3.set xb.toNat x4) xb).bind fun x5=>(cj qa0).bind fun o=>match o with | .inl i6=>(ae (l3.set xb.toNat x4) xb).bind fun _=>(bh xb xb).bind fun _=>(ae ((l3.set xb.toNat x4).set xb.toNat none) xb).bind fun x7=>(ae ((l3.set xb.toNat x4).set xb.toNat none) xb).bind fun _=>(bh xb xb).bind fun _=>(x7).bind fun y8=>(da xc y8.1 y8.2).bind fun (t9,l10)=>some ((t9,((l3.set xb.toNat x4).set xb.toNat none).set xb.toNat (some (y8.1,l10)))) | .inr (i11,i12,l13)=>(ae (l3.set xb.toNat x4) xb).bind fun _=>(bh xb xb).bind fun _=>(ae ((l3.set xb.toNat x4).set xb.toNat (some (i12,l13))) xb).bind fun x14=>(ae ((l3.set xb.toNat x4).set xb.toNat (some (i12,l13))) xb).bind fun _=>(bh xb xb).bind fun _=>(x14).bind fun y15=>(da xc y15.1 y15.2).bind fun (t16,l17)=>some ((t16,((l3.set xb.toNat x4).set xb.toNat (some (i12,l13))).set xb.toNat (some (y15.1,l17))))) ((ae (l3.set xb.toNat x4) xb).bind fun x18=>(ae (l3.set xb.toNat x4) xb).bind fun _=>(bh xb xb).bind fun _=>(x18).bind fun y19=>(da xc y19.1 y19.2).bind fun (t20,l21)=>some ((t20,(l3.set xb.toNat x4).set xb.toNat (some (y19.1,l21))))))
def ye:Hn Tryd.prog := .cl oQ5 [] (.gp 2 (.wt 15 (.gp 6 (.tw 22 .nil (.yl 2 (.il ⟨36,_,func36,call36⟩ (.opn 8 9 (.wt 12 (.wt 1000013 (.cls 8 11 (.tw 12 (.opp [4] 8 18 (.mix [([0,1,2,3,4,5,6,7,8],9),([10,11,12,13],14)] [] [] [8] (.c2 oQ6 [] (.cls 8 16 (.opn 8 31 (.wt 999999 (.wt 26 (.opb 19 17 (.wt 1000023 (.mc 19 0 20 (.cl mC [] (.cls 8 18 .nil))))))))) (.cls 8 20 (.opn 8 31 (.wt 999999 (.wt 26 (.opb 23 21 (.wt 1000027 (.mc 23 0 24 (.cl mC [] (.cls 8 22 .nil)))))))))))) (.opn 8 31 (.wt 999999 (.wt 26 (.opb 15 13 (.wt 1000019 (.mc 15 0 16 (.cl mC [] (.cls 8 14 .nil)))))))))))))))))))
def xh:Spec:=⟨25,⟨[(0,.ptr 0 0),kdI 1,kdI 2],[bkN 63 [.is 1 (.dat Yq1),.od (.row 64 (.box 83 (.cons (.dat Yq1) (.one (.row 78 (.dat Yq3))))))],bkM]⟩,[⟨[kdB 0],[bkC 0 63 [.is 1 (.any),.od (.row 64 (.box 83 (.cons (.dat Yq1) (.one (.row 78 (.dat Yq3))))))],bkU 1]⟩],fun x=>fP x.1 x.2.1 x.2.2.1 x.2.2.2⟩
def xv:OkSpec Tryd.prog:=⟨xh,ar func25 ye (by kernel_rfl) (by kernel_rfl),call25⟩

def j7 (qa0:Int) (qa1:(List Tq3)):Option ((Int×(List Tq3))) :=
 some ((qa0,qa1))
def xr:Hn Tryd.prog := .nil
def xC:Spec:=⟨39,⟨[(0,.ptr 0 0)],[bkN 63 [.is 1 (.dat Yq1),.od (.row 64 (.box 83 (.cons (.dat Yq1) (.one (.row 78 (.dat Yq3))))))],bkM]⟩,[⟨[kdI 0],[bkC 0 63 [.is 1 (.any),.od (.row 64 (.box 83 (.cons (.dat Yq1) (.one (.row 78 (.dat Yq3))))))],bkU 1]⟩],fun x=>j7 x.1 x.2⟩
def yS:OkSpec Tryd.prog:=⟨xC,ar func39 xr (by kernel_rfl) (by kernel_rfl),call39⟩

def hZ (xa:Int):Option Int :=
 some (IntKind.wrap .i64 ((BitVec.ofInt (IntKind.bits .i64) (IntKind.wrap .i64 (IntKind.wrap .u64 ((IntKind.wrap .u64 ((IntKind.wrap .u64 ((IntKind.wrap .u64 ((BitVec.ofInt (IntKind.bits .u64) (IntKind.wrap .u64 ((Int.fdiv (IntKind.wrap .u64 ((IntKind.wrap .u64 ((BitVec.ofInt (IntKind.bits .u64) (Int.fdiv (IntKind.wrap .u64 ((IntKind.wrap .u64 ((BitVec.ofInt (IntKind.bits .u64) (Int.fdiv xa (2 ^ (min (Int.toNat 1) (IntKind.bits .u64)))) &&& BitVec.ofInt (IntKind.bits .u64) 6148914691236517205).toNat:Int)) + (IntKind.wrap .u64 ((BitVec.ofInt (IntKind.bits .u64) xa &&& BitVec.ofInt (IntKind.bits .u64) 6148914691236517205).toNat:Int)))) (2 ^ (min (Int.toNat 2) (IntKind.bits .u64)))) &&& BitVec.ofInt (IntKind.bits .u64) 3689348814741910323).toNat:Int)) + (IntKind.wrap .u64 ((BitVec.ofInt (IntKind.bits .u64) (IntKind.wrap .u64 ((IntKind.wrap .u64 ((BitVec.ofInt (IntKind.bits .u64) (Int.fdiv xa (2 ^ (min (Int.toNat 1) (IntKind.bits .u64)))) &&& BitVec.ofInt (IntKind.bits .u64) 6148914691236517205).toNat:Int)) + (IntKind.wrap .u64 ((BitVec.ofInt (IntKind.bits .u64) xa &&& BitVec.ofInt (IntKind.bits .u64) 6148914691236517205).toNat:Int)))) &&& BitVec.ofInt (IntKind.bits .u64) 3689348814741910323).toNat:Int)))) (2 ^ (min (Int.toNat 4) (IntKind.bits .u64)))) + (IntKind.wrap .u64 ((IntKind.wrap .u64 ((BitVec.ofInt (IntKind.bits .u64) (Int.fdiv (IntKind.wrap .u64 ((IntKind.wrap .u64 ((BitVec.ofInt (IntKind.bits .u64) (Int.fdiv xa (2 ^ (min (Int.toNat 1) (IntKind.bits .u64)))) &&& BitVec.ofInt (IntKind.bits .u64) 6148914691236517205).toNat:Int)) + (IntKind.wrap .u64 ((BitVec.ofInt (IntKind.bits .u64) xa &&& BitVec.ofInt (IntKind.bits .u64) 6148914691236517205).toNat:Int)))) (2 ^ (min (Int.toNat 2) (IntKind.bits .u64)))) &&& BitVec.ofInt (IntKind.bits .u64) 3689348814741910323).toNat:Int)) + (IntKind.wrap .u64 ((BitVec.ofInt (IntKind.bits .u64) (IntKind.wrap .u64 ((IntKind.wrap .u64 ((BitVec.ofInt (IntKind.bits .u64) (Int.fdiv xa (2 ^ (min (Int.toNat 1) (IntKind.bits .u64)))) &&& BitVec.ofInt (IntKind.bits .u64) 6148914691236517205).toNat:Int)) + (IntKind.wrap .u64 ((BitVec.ofInt (IntKind.bits .u64) xa &&& BitVec.ofInt (IntKind.bits .u64) 6148914691236517205).toNat:Int)))) &&& BitVec.ofInt (IntKind.bits .u64) 3689348814741910323).toNat:Int)))))) &&& BitVec.ofInt (IntKind.bits .u64) 1085102592571150095).toNat:Int)) + (Int.fdiv (IntKind.wrap .u64 ((BitVec.ofInt (IntKind.bits .u64) (IntKind.wrap .u64 ((Int.fdiv (IntKind.wrap .u64 ((IntKind.wrap .u64 ((BitVec.ofInt (IntKind.bits .u64) (Int.fdiv (IntKind.wrap .u64 ((IntKind.wrap .u64 ((BitVec.ofInt (IntKind.bits .u64) (Int.fdiv xa (2 ^ (min (Int.toNat 1) (IntKind.bits .u64)))) &&& BitVec.ofInt (IntKind.bits .u64) 6148914691236517205).toNat:Int)) + (IntKind.wrap .u64 ((BitVec.ofInt (IntKind.bits .u64) xa &&& BitVec.ofInt (IntKind.bits .u64) 6148914691236517205).toNat:Int)))) (2 ^ (min (Int.toNat 2) (IntKind.bits .u64)))) &&& BitVec.ofInt (IntKind.bits .u64) 3689348814741910323).toNat:Int)) + (IntKind.wrap .u64 ((BitVec.ofInt (IntKind.bits .u64) (IntKind.wrap .u64 ((IntKind.wrap .u64 ((BitVec.ofInt (IntKind.bits .u64) (Int.fdiv xa (2 ^ (min (Int.toNat 1) (IntKind.bits .u64)))) &&& BitVec.ofInt (IntKind.bits .u64) 6148914691236517205).toNat:Int)) + (IntKind.wrap .u64 ((BitVec.ofInt (IntKind.bits .u64) xa &&& BitVec.ofInt (IntKind.bits .u64) 6148914691236517205).toNat:Int)))) &&& BitVec.ofInt (IntKind.bits .u64) 3689348814741910323).toNat:Int)))) (2 ^ (min (Int.toNat 4) (IntKind.bits .u64)))) + (IntKind.wrap .u64 ((IntKind.wrap .u64 ((BitVec.ofInt (IntKind.bits .u64) (Int.fdiv (IntKind.wrap .u64 ((IntKind.wrap .u64 ((BitVec.ofInt (IntKind.bits .u64) (Int.fdiv xa (2 ^ (min (Int.toNat 1) (IntKind.bits .u64)))) &&& BitVec.ofInt (IntKind.bits .u64) 6148914691236517205).toNat:Int)) + (IntKind.wrap .u64 ((BitVec.ofInt (IntKind.bits .u64) xa &&& BitVec.ofInt (IntKind.bits .u64) 6148914691236517205).toNat:Int)))) (2 ^ (min (Int.toNat 2) (IntKind.bits .u64)))) &&& BitVec.ofInt (IntKind.bits .u64) 3689348814741910323).toNat:Int)) + (IntKind.wrap .u64 ((BitVec.ofInt (IntKind.bits .u64) (IntKind.wrap .u64 ((IntKind.wrap .u64 ((BitVec.ofInt (IntKind.bits .u64) (Int.fdiv xa (2 ^ (min (Int.toNat 1) (IntKind.bits .u64)))) &&& BitVec.ofInt (IntKind.bits .u64) 6148914691236517205).toNat:Int)) + (IntKind.wrap .u64 ((BitVec.ofInt (IntKind.bits .u64) xa &&& BitVec.ofInt (IntKind.bits .u64) 6148914691236517205).toNat:Int)))) &&& BitVec.ofInt (IntKind.bits .u64) 3689348814741910323).toNat:Int)))))) &&& BitVec.ofInt (IntKind.bits .u64) 1085102592571150095).toNat:Int)) (2 ^ (min (Int.toNat 8) (IntKind.bits .u64)))))) + (Int.fdiv (IntKind.wrap .u64 ((IntKind.wrap .u64 ((BitVec.ofInt (IntKind.bits .u64) (IntKind.wrap .u64 ((Int.fdiv (IntKind.wrap .u64 ((IntKind.wrap .u64 ((BitVec.ofInt (IntKind.bits .u64) (Int.fdiv (IntKind.wrap .u64 ((IntKind.wrap .u64 ((BitVec.ofInt (IntKind.bits .u64) (Int.fdiv xa (2 ^ (min (Int.toNat 1) (IntKind.bits .u64)))) &&& BitVec.ofInt (IntKind.bits .u64) 6148914691236517205).toNat:Int)) + (IntKind.wrap .u64 ((BitVec.ofInt (IntKind.bits .u64) xa &&& BitVec.ofInt (IntKind.bits .u64) 6148914691236517205).toNat:Int)))) (2 ^ (min (Int.toNat 2) (IntKind.bits .u64)))) &&& BitVec.ofInt (IntKind.bits .u64) 3689348814741910323).toNat:Int)) + (IntKind.wrap .u64 ((BitVec.ofInt (IntKind.bits .u64) (IntKind.wrap .u64 ((IntKind.wrap .u64 ((BitVec.ofInt (IntKind.bits .u64) (Int.fdiv xa (2 ^ (min (Int.toNat 1) (IntKind.bits .u64)))) &&& BitVec.ofInt (IntKind.bits .u64) 6148914691236517205).toNat:Int)) + (IntKind.wrap .u64 ((BitVec.ofInt (IntKind.bits .u64) xa &&& BitVec.ofInt (IntKind.bits .u64) 6148914691236517205).toNat:Int)))) &&& BitVec.ofInt (IntKind.bits .u64) 3689348814741910323).toNat:Int)))) (2 ^ (min (Int.toNat 4) (IntKind.bits .u64)))) + (IntKind.wrap .u64 ((IntKind.wrap .u64 ((BitVec.ofInt (IntKind.bits .u64) (Int.fdiv (IntKind.wrap .u64 ((IntKind.wrap .u64 ((BitVec.ofInt (IntKind.bits .u64) (Int.fdiv xa (2 ^ (min (Int.toNat 1) (IntKind.bits .u64)))) &&& BitVec.ofInt (IntKind.bits .u64) 6148914691236517205).toNat:Int)) + (IntKind.wrap .u64 ((BitVec.ofInt (IntKind.bits .u64) xa &&& BitVec.ofInt (IntKind.bits .u64) 6148914691236517205).toNat:Int)))) (2 ^ (min (Int.toNat 2) (IntKind.bits .u64)))) &&& BitVec.ofInt (IntKind.bits .u64) 3689348814741910323).toNat:Int)) + (IntKind.wrap .u64 ((BitVec.ofInt (IntKind.bits .u64) (IntKind.wrap .u64 ((IntKind.wrap .u64 ((BitVec.ofInt (IntKind.bits .u64) (Int.fdiv xa (2 ^ (min (Int.toNat 1) (IntKind.bits .u64)))) &&& BitVec.ofInt (IntKind.bits .u64) 6148914691236517205).toNat:Int)) + (IntKind.wrap .u64 ((BitVec.ofInt (IntKind.bits .u64) xa &&& BitVec.ofInt (IntKind.bits .u64) 6148914691236517205).toNat:Int)))) &&& BitVec.ofInt (IntKind.bits .u64) 3689348814741910323).toNat:Int)))))) &&& BitVec.ofInt (IntKind.bits .u64) 1085102592571150095).toNat:Int)) + (Int.fdiv (IntKind.wrap .u64 ((BitVec.ofInt (IntKind.bits .u64) (IntKind.wrap .u64 ((Int.fdiv (IntKind.wrap .u64 ((IntKind.wrap .u64 ((BitVec.ofInt (IntKind.bits .u64) (Int.fdiv (IntKind.wrap .u64 ((IntKind.wrap .u64 ((BitVec.ofInt (IntKind.bits .u64) (Int.fdiv xa (2 ^ (min (Int.toNat 1) (IntKind.bits .u64)))) &&& BitVec.ofInt (IntKind.bits .u64) 6148914691236517205).toNat:Int)) + (IntKind.wrap .u64 ((BitVec.ofInt (IntKind.bits .u64) xa &&& BitVec.ofInt (IntKind.bits .u64) 6148914691236517205).toNat:Int)))) (2 ^ (min (Int.toNat 2) (IntKind.bits .u64)))) &&& BitVec.ofInt (IntKind.bits .u64) 3689348814741910323).toNat:Int)) + (IntKind.wrap .u64 ((BitVec.ofInt (IntKind.bits .u64) (IntKind.wrap .u64 ((IntKind.wrap .u64 ((BitVec.ofInt (IntKind.bits .u64) (Int.fdiv xa (2 ^ (min (Int.toNat 1) (IntKind.bits .u64)))) &&& BitVec.ofInt (IntKind.bits .u64) 6148914691236517205).toNat:Int)) + (IntKind.wrap .u64 ((BitVec.ofInt (IntKind.bits .u64) xa &&& BitVec.ofInt (IntKind.bits .u64) 6148914691236517205).toNat:Int)))) &&& BitVec.ofInt (IntKind.bits .u64) 3689348814741910323).toNat:Int)))) (2 ^ (min (Int.toNat 4) (IntKind.bits .u64)))) + (IntKind.wrap .u64 ((IntKind.wrap .u64 ((BitVec.ofInt (IntKind.bits .u64) (Int.fdiv (IntKind.wrap .u64 ((IntKind.wrap .u64 ((BitVec.ofInt (IntKind.bits .u64) (Int.fdiv xa (2 ^ (min (Int.toNat 1) (IntKind.bits .u64)))) &&& BitVec.ofInt (IntKind.bits .u64) 6148914691236517205).toNat:Int)) + (IntKind.wrap .u64 ((BitVec.ofInt (IntKind.bits .u64) xa &&& BitVec.ofInt (IntKind.bits .u64) 6148914691236517205).toNat:Int)))) (2 ^ (min (Int.toNat 2) (IntKind.bits .u64)))) &&& BitVec.ofInt (IntKind.bits .u64) 3689348814741910323).toNat:Int)) + (IntKind.wrap .u64 ((BitVec.ofInt (IntKind.bits .u64) (IntKind.wrap .u64 ((IntKind.wrap .u64 ((BitVec.ofInt (IntKind.bits .u64) (Int.fdiv xa (2 ^ (min (Int.toNat 1) (IntKind.bits .u64)))) &&& BitVec.ofInt (IntKind.bits .u64) 6148914691236517205).toNat:Int)) + (IntKind.wrap .u64 ((BitVec.ofInt (IntKind.bits .u64) xa &&& BitVec.ofInt (IntKind.bits .u64) 6148914691236517205).toNat:Int)))) &&& BitVec.ofInt (IntKind.bits .u64) 3689348814741910323).toNat:Int)))))) &&& BitVec.ofInt (IntKind.bits .u64) 1085102592571150095).toNat:Int)) (2 ^ (min (Int.toNat 8) (IntKind.bits .u64)))))) (2 ^ (min (Int.toNat 16) (IntKind.bits .u64)))))) + (Int.fdiv (IntKind.wrap .u64 ((IntKind.wrap .u64 ((IntKind.wrap .u64 ((BitVec.ofInt (IntKind.bits .u64) (IntKind.wrap .u64 ((Int.fdiv (IntKind.wrap .u64 ((IntKind.wrap .u64 ((BitVec.ofInt (IntKind.bits .u64) (Int.fdiv (IntKind.wrap .u64 ((IntKind.wrap .u64 ((BitVec.ofInt (IntKind.bits .u64) (Int.fdiv xa (2 ^ (min (Int.toNat 1) (IntKind.bits .u64)))) &&& BitVec.ofInt (IntKind.bits .u64) 6148914691236517205).toNat:Int)) + (IntKind.wrap .u64 ((BitVec.ofInt (IntKind.bits .u64) xa &&& BitVec.ofInt (IntKind.bits .u64) 6148914691236517205).toNat:Int)))) (2 ^ (min (Int.toNat 2) (IntKind.bits .u64)))) &&& BitVec.ofInt (IntKind.bits .u64) 3689348814741910323).toNat:Int)) + (IntKind.wrap .u64 ((BitVec.ofInt (IntKind.bits .u64) (IntKind.wrap .u64 ((IntKind.wrap .u64 ((BitVec.ofInt (IntKind.bits .u64) (Int.fdiv xa (2 ^ (min (Int.toNat 1) (IntKind.bits .u64)))) &&& BitVec.ofInt (IntKind.bits .u64) 6148914691236517205).toNat:Int)) + (IntKind.wrap .u64 ((BitVec.ofInt (IntKind.bits .u64) xa &&& BitVec.ofInt (IntKind.bits .u64) 6148914691236517205).toNat:Int)))) &&& BitVec.ofInt (IntKind.bits .u64) 3689348814741910323).toNat:Int)))) (2 ^ (min (Int.toNat 4) (IntKind.bits .u64)))) + (IntKind.wrap .u64 ((IntKind.wrap .u64 ((BitVec.ofInt (IntKind.bits .u64) (Int.fdiv (IntKind.wrap .u64 ((IntKind.wrap .u64 ((BitVec.ofInt (IntKind.bits .u64) (Int.fdiv xa (2 ^ (min (Int.toNat 1) (IntKind.bits .u64)))) &&& BitVec.ofInt (IntKind.bits .u64) 6148914691236517205).toNat:Int)) + (IntKind.wrap .u64 ((BitVec.ofInt (IntKind.bits .u64) xa &&& BitVec.ofInt (IntKind.bits .u64) 6148914691236517205).toNat:Int)))) (2 ^ (min (Int.toNat 2) (IntKind.bits .u64)))) &&& BitVec.ofInt (IntKind.bits .u64) 3689348814741910323).toNat:Int)) + (IntKind.wrap .u64 ((BitVec.ofInt (IntKind.bits .u64) (IntKind.wrap .u64 ((IntKind.wrap .u64 ((BitVec.ofInt (IntKind.bits .u64) (Int.fdiv xa (2 ^ (min (Int.toNat 1) (IntKind.bits .u64)))) &&& BitVec.ofInt (IntKind.bits .u64) 6148914691236517205).toNat:Int)) + (IntKind.wrap .u64 ((BitVec.ofInt (IntKind.bits .u64) xa &&& BitVec.ofInt (IntKind.bits .u64) 6148914691236517205).toNat:Int)))) &&& BitVec.ofInt (IntKind.bits .u64) 3689348814741910323).toNat:Int)))))) &&& BitVec.ofInt (IntKind.bits .u64) 1085102592571150095).toNat:Int)) + (Int.fdiv (IntKind.wrap .u64 ((BitVec.ofInt (IntKind.bits .u64) (IntKind.wrap .u64 ((Int.fdiv (IntKind.wrap .u64 ((IntKind.wrap .u64 ((BitVec.ofInt (IntKind.bits .u64) (Int.fdiv (IntKind.wrap .u64 ((IntKind.wrap .u64 ((BitVec.ofInt (IntKind.bits .u64) (Int.fdiv xa (2 ^ (min (Int.toNat 1) (IntKind.bits .u64)))) &&& BitVec.ofInt (IntKind.bits .u64) 6148914691236517205).toNat:Int)) + (IntKind.wrap .u64 ((BitVec.ofInt (IntKind.bits .u64) xa &&& BitVec.ofInt (IntKind.bits .u64) 6148914691236517205).toNat:Int)))) (2 ^ (min (Int.toNat 2) (IntKind.bits .u64)))) &&& BitVec.ofInt (IntKind.bits .u64) 3689348814741910323).toNat:Int)) + (IntKind.wrap .u64 ((BitVec.ofInt (IntKind.bits .u64) (IntKind.wrap .u64 ((IntKind.wrap .u64 ((BitVec.ofInt (IntKind.bits .u64) (Int.fdiv xa (2 ^ (min (Int.toNat 1) (IntKind.bits .u64)))) &&& BitVec.ofInt (IntKind.bits .u64) 6148914691236517205).toNat:Int)) + (IntKind.wrap .u64 ((BitVec.ofInt (IntKind.bits .u64) xa &&& BitVec.ofInt (IntKind.bits .u64) 6148914691236517205).toNat:Int)))) &&& BitVec.ofInt (IntKind.bits .u64) 3689348814741910323).toNat:Int)))) (2 ^ (min (Int.toNat 4) (IntKind.bits .u64)))) + (IntKind.wrap .u64 ((IntKind.wrap .u64 ((BitVec.ofInt (IntKind.bits .u64) (Int.fdiv (IntKind.wrap .u64 ((IntKind.wrap .u64 ((BitVec.ofInt (IntKind.bits .u64) (Int.fdiv xa (2 ^ (min (Int.toNat 1) (IntKind.bits .u64)))) &&& BitVec.ofInt (IntKind.bits .u64) 6148914691236517205).toNat:Int)) + (IntKind.wrap .u64 ((BitVec.ofInt (IntKind.bits .u64) xa &&& BitVec.ofInt (IntKind.bits .u64) 6148914691236517205).toNat:Int)))) (2 ^ (min (Int.toNat 2) (IntKind.bits .u64)))) &&& BitVec.ofInt (IntKind.bits .u64) 3689348814741910323).toNat:Int)) + (IntKind.wrap .u64 ((BitVec.ofInt (IntKind.bits .u64) (IntKind.wrap .u64 ((IntKind.wrap .u64 ((BitVec.ofInt (IntKind.bits .u64) (Int.fdiv xa (2 ^ (min (Int.toNat 1) (IntKind.bits .u64)))) &&& BitVec.ofInt (IntKind.bits .u64) 6148914691236517205).toNat:Int)) + (IntKind.wrap .u64 ((BitVec.ofInt (IntKind.bits .u64) xa &&& BitVec.ofInt (IntKind.bits .u64) 6148914691236517205).toNat:Int)))) &&& BitVec.ofInt (IntKind.bits .u64) 3689348814741910323).toNat:Int)))))) &&& BitVec.ofInt (IntKind.bits .u64) 1085102592571150095).toNat:Int)) (2 ^ (min (Int.toNat 8) (IntKind.bits .u64)))))) + (Int.fdiv (IntKind.wrap .u64 ((IntKind.wrap .u64 ((BitVec.ofInt (IntKind.bits .u64) (IntKind.wrap .u64 ((Int.fdiv (IntKind.wrap .u64 ((IntKind.wrap .u64 ((BitVec.ofInt (IntKind.bits .u64) (Int.fdiv (IntKind.wrap .u64 ((IntKind.wrap .u64 ((BitVec.ofInt (IntKind.bits .u64) (Int.fdiv xa (2 ^ (min (Int.toNat 1) (IntKind.bits .u64)))) &&& BitVec.ofInt (IntKind.bits .u64) 6148914691236517205).toNat:Int)) + (IntKind.wrap .u64 ((BitVec.ofInt (IntKind.bits .u64) xa &&& BitVec.ofInt (IntKind.bits .u64) 6148914691236517205).toNat:Int)))) (2 ^ (min (Int.toNat 2) (IntKind.bits .u64)))) &&& BitVec.ofInt (IntKind.bits .u64) 3689348814741910323).toNat:Int)) + (IntKind.wrap .u64 ((BitVec.ofInt (IntKind.bits .u64) (IntKind.wrap .u64 ((IntKind.wrap .u64 ((BitVec.ofInt (IntKind.bits .u64) (Int.fdiv xa (2 ^ (min (Int.toNat 1) (IntKind.bits .u64)))) &&& BitVec.ofInt (IntKind.bits .u64) 6148914691236517205).toNat:Int)) + (IntKind.wrap .u64 ((BitVec.ofInt (IntKind.bits .u64) xa &&& BitVec.ofInt (IntKind.bits .u64) 6148914691236517205).toNat:Int)))) &&& BitVec.ofInt (IntKind.bits .u64) 3689348814741910323).toNat:Int)))) (2 ^ (min (Int.toNat 4) (IntKind.bits .u64)))) + (IntKind.wrap .u64 ((IntKind.wrap .u64 ((BitVec.ofInt (IntKind.bits .u64) (Int.fdiv (IntKind.wrap .u64 ((IntKind.wrap .u64 ((BitVec.ofInt (IntKind.bits .u64) (Int.fdiv xa (2 ^ (min (Int.toNat 1) (IntKind.bits .u64)))) &&& BitVec.ofInt (IntKind.bits .u64) 6148914691236517205).toNat:Int)) + (IntKind.wrap .u64 ((BitVec.ofInt (IntKind.bits .u64) xa &&& BitVec.ofInt (IntKind.bits .u64) 6148914691236517205).toNat:Int)))) (2 ^ (min (Int.toNat 2) (IntKind.bits .u64)))) &&& BitVec.ofInt (IntKind.bits .u64) 3689348814741910323).toNat:Int)) + (IntKind.wrap .u64 ((BitVec.ofInt (IntKind.bits .u64) (IntKind.wrap .u64 ((IntKind.wrap .u64 ((BitVec.ofInt (IntKind.bits .u64) (Int.fdiv xa (2 ^ (min (Int.toNat 1) (IntKind.bits .u64)))) &&& BitVec.ofInt (IntKind.bits .u64) 6148914691236517205).toNat:Int)) + (IntKind.wrap .u64 ((BitVec.ofInt (IntKind.bits .u64) xa &&& BitVec.ofInt (IntKind.bits .u64) 6148914691236517205).toNat:Int)))) &&& BitVec.ofInt (IntKind.bits .u64) 3689348814741910323).toNat:Int)))))) &&& BitVec.ofInt (IntKind.bits .u64) 1085102592571150095).toNat:Int)) + (Int.fdiv (IntKind.wrap .u64 ((BitVec.ofInt (IntKind.bits .u64) (IntKind.wrap .u64 ((Int.fdiv (IntKind.wrap .u64 ((IntKind.wrap .u64 ((BitVec.ofInt (IntKind.bits .u64) (Int.fdiv (IntKind.wrap .u64 ((IntKind.wrap .u64 ((BitVec.ofInt (IntKind.bits .u64) (Int.fdiv xa (2 ^ (min (Int.toNat 1) (IntKind.bits .u64)))) &&& BitVec.ofInt (IntKind.bits .u64) 6148914691236517205).toNat:Int)) + (IntKind.wrap .u64 ((BitVec.ofInt (IntKind.bits .u64) xa &&& BitVec.ofInt (IntKind.bits .u64) 6148914691236517205).toNat:Int)))) (2 ^ (min (Int.toNat 2) (IntKind.bits .u64)))) &&& BitVec.ofInt (IntKind.bits .u64) 3689348814741910323).toNat:Int)) + (IntKind.wrap .u64 ((BitVec.ofInt (IntKind.bits .u64) (IntKind.wrap .u64 ((IntKind.wrap .u64 ((BitVec.ofInt (IntKind.bits .u64) (Int.fdiv xa (2 ^ (min (Int.toNat 1) (IntKind.bits .u64)))) &&& BitVec.ofInt (IntKind.bits .u64) 6148914691236517205).toNat:Int)) + (IntKind.wrap .u64 ((BitVec.ofInt (IntKind.bits .u64) xa &&& BitVec.ofInt (IntKind.bits .u64) 6148914691236517205).toNat:Int)))) &&& BitVec.ofInt (IntKind.bits .u64) 3689348814741910323).toNat:Int)))) (2 ^ (min (Int.toNat 4) (IntKind.bits .u64)))) + (IntKind.wrap .u64 ((IntKind.wrap .u64 ((BitVec.ofInt (IntKind.bits .u64) (Int.fdiv (IntKind.wrap .u64 ((IntKind.wrap .u64 ((BitVec.ofInt (IntKind.bits .u64) (Int.fdiv xa (2 ^ (min (Int.toNat 1) (IntKind.bits .u64)))) &&& BitVec.ofInt (IntKind.bits .u64) 6148914691236517205).toNat:Int)) + (IntKind.wrap .u64 ((BitVec.ofInt (IntKind.bits .u64) xa &&& BitVec.ofInt (IntKind.bits .u64) 6148914691236517205).toNat:Int)))) (2 ^ (min (Int.toNat 2) (IntKind.bits .u64)))) &&& BitVec.ofInt (IntKind.bits .u64) 3689348814741910323).toNat:Int)) + (IntKind.wrap .u64 ((BitVec.ofInt (IntKind.bits .u64) (IntKind.wrap .u64 ((IntKind.wrap .u64 ((BitVec.ofInt (IntKind.bits .u64) (Int.fdiv xa (2 ^ (min (Int.toNat 1) (IntKind.bits .u64)))) &&& BitVec.ofInt (IntKind.bits .u64) 6148914691236517205).toNat:Int)) + (IntKind.wrap .u64 ((BitVec.ofInt (IntKind.bits .u64) xa &&& BitVec.ofInt (IntKind.bits .u64) 6148914691236517205).toNat:Int)))) &&& BitVec.ofInt (IntKind.bits .u64) 3689348814741910323).toNat:Int)))))) &&& BitVec.ofInt (IntKind.bits .u64) 1085102592571150095).toNat:Int)) (2 ^ (min (Int.toNat 8) (IntKind.bits .u64)))))) (2 ^ (min (Int.toNat 16) (IntKind.bits .u64)))))) (2 ^ (min (Int.toNat 32) (IntKind.bits .u64))))))) &&& BitVec.ofInt (IntKind.bits .i64) 127).toNat:Int))
def yx:Hn Tryd.prog := .nil
def xp:Spec:=⟨70,⟨[(0,.dat Yq3)],[]⟩,[⟨[kdI 0],[]⟩],fun x=>hZ x⟩
def xW:OkSpec Tryd.prog:=⟨xp,ar func70 yx (by kernel_rfl) (by kernel_rfl),call70⟩
def fT (y1:(Int×(List Int))):(Int×Int)→Option ((Int×Int)⊕Int):=fun (i2,i3)=>cond (decide (i3 < (y1.2.length:Int))) ((ae y1.2 i3).bind fun x4=>(hZ x4).bind fun i5=>some (.inl ((IntKind.wrap .i64 (i2 + i5),IntKind.wrap .i64 (i3 + 1))))) (some (.inr (i2)))
def ek (xa:Tq3):Option Int :=
 cond (xa.isNone) (some (0)) (xa.bind fun y1=>(loop (fT y1) (0,0)).bind fun i2=>some (i2))
def yv:Hn Tryd.prog := .tw 7 .nil (.jn [] ⟨[kdI 3],[]⟩ [] (.lp ⟨[kdI 3,kdI 13],[]⟩ (.tw 14 (.cl xW [] .nil) .nil)) .nil)
def xq:Spec:=⟨60,⟨[(0,.dat Yq4)],[]⟩,[⟨[kdI 0],[]⟩],fun x=>ek x⟩
def xn:OkSpec Tryd.prog:=⟨xq,ar func60 yv (by kernel_rfl) (by kernel_rfl),call60⟩
def hG (i1:Int):(Int×Int×(List Tq3))→Option ((Int×Int×(List Tq3))⊕(Int×(List Tq3))):=fun (i2,i3,l4)=>cond (decide (i3 < i1)) ((ae l4 i3).bind fun x5=>(ae l4 i3).bind fun _=>(bh i3 i3).bind fun _=>(ek x5).bind fun i6=>some (.inl ((IntKind.wrap .i64 (i2 + i6),IntKind.wrap .i64 (i3 + 1),l4.set i3.toNat x5)))) (some (.inr (((i2,l4)))))
def fN (qa0:Int) (qa1:(List Tq3)):Option ((Int×(List Tq3))) :=
 (cE qa0 qa1).bind fun (i2,l3)=>(loop (hG i2) (0,0,l3)).bind fun (i4,l5)=>some ((i4,l5))
def yi:Hn Tryd.prog := .cl oQ4 [] (.jn [] ⟨[kdI 3],[bkO 8 (.row 64 (.box 83 (.cons (.dat Yq1) (.one (.row 78 (.dat Yq3))))))]⟩ [8] (.lp ⟨[kdI 3,kdI 7],[bkO 8 (.row 64 (.box 83 (.cons (.dat Yq1) (.one (.row 78 (.dat Yq3))))))]⟩ (.tw 8 (.opn 8 15 (.cl xn [13] (.cls 8 12 .nil))) .nil)) .nil)
def yF:Spec:=⟨40,⟨[(0,.ptr 0 0)],[bkN 63 [.is 1 (.dat Yq1),.od (.row 64 (.box 83 (.cons (.dat Yq1) (.one (.row 78 (.dat Yq3))))))],bkM]⟩,[⟨[kdI 0],[bkC 0 63 [.is 1 (.any),.od (.row 64 (.box 83 (.cons (.dat Yq1) (.one (.row 78 (.dat Yq3))))))],bkU 1]⟩],fun x=>fN x.1 x.2⟩
def rm:OkSpec Tryd.prog:=⟨yF,ar func40 yi (by kernel_rfl) (by kernel_rfl),call40⟩
def ej (y1:(Int×(List Int))):(Int×Int)→Option ((Int×Int)⊕((Int×Int)⊕Int)):=fun (i2,i3)=>cond (decide (i3=0)) (cond (decide ((IntKind.wrap .i64 (i2 + 1))=(y1.2.length:Int))) (some (.inr ((.inr ((-1)))))) ((ae y1.2 (IntKind.wrap .i64 (i2 + 1))).bind fun x4=>some (.inl ((IntKind.wrap .i64 (i2 + 1),x4))))) (some (.inr ((.inl (i2,i3)))))
def bK (xa:Tq3) (xb:Int):Option Int :=
 (db xa (if xb < 0 then 0 else xb)).bind fun t1=>cond (!t1) (some ((-1))) (xa.bind fun y2=>(ae y2.2 (IntKind.wrap .i64 (Int.tdiv (if xb < 0 then 0 else xb) 64))).bind fun x3=>(ge0 (Int.tmod (if xb < 0 then 0 else xb) 64)).bind fun u4=>(ge0 (Int.tmod (if xb < 0 then 0 else xb) 64)).bind fun u5=>(loop (ej y2) ((IntKind.wrap .i64 (Int.tdiv (if xb < 0 then 0 else xb) 64),IntKind.wrap .u64 ((Int.fdiv x3 (2 ^ (min (Int.toNat (Int.tmod (if xb < 0 then 0 else xb) 64)) (IntKind.bits .u64)))) * 2 ^ (min (Int.toNat (Int.tmod (if xb < 0 then 0 else xb) 64)) (IntKind.bits .u64)))))).bind fun o=>match o with | .inr r=>some r | .inl (i6,i7)=>(tzF i7).bind fun i8=>some (IntKind.wrap .i64 ((IntKind.wrap .i64 (i6 * 64)) + i8)))
def xi:Hn Tryd.prog := .ms 0 (.cl oQ8 [] (.tw 12 .nil (.jx [] ⟨[kdI 5,(6,.dat Yq3)],[]⟩ [] (.lp ⟨[kdI 5,(6,.dat Yq3)],[]⟩ (.tw 29 (.tw 38 .nil .nil) .nil)) (.cl wQ [] .nil))))
def yh:Spec:=⟨72,⟨[(0,.dat Yq4),kdI 1],[]⟩,[⟨[kdI 0],[]⟩],fun x=>bK x.1 x.2⟩
def gW:OkSpec Tryd.prog:=⟨yh,ar func72 xi (by kernel_rfl) (by kernel_rfl),call72⟩
def j6 (qb1:(List Int)):(Bool×Int×(List Int))→Option ((Bool×Int×(List Int))⊕(Bool×(List Int))):=fun (t2,i3,l4)=>cond (decide (i3 < (qb1.length:Int))) ((ae qb1 i3).bind fun x5=>(ae l4 i3).bind fun x6=>cond (!decide ((IntKind.wrap .u64 ((BitVec.ofInt (IntKind.bits .u64) x5 &&& ~~~BitVec.ofInt (IntKind.bits .u64) x6).toNat:Int))=0)) ((ae l4 i3).bind fun x7=>(ae l4 i3).bind fun x8=>(some (l4.set i3.toNat (IntKind.wrap .u64 ((BitVec.ofInt (IntKind.bits .u64) x7 ||| BitVec.ofInt (IntKind.bits .u64) x5).toNat:Int)))).bind fun z9=>some (.inl ((true,IntKind.wrap .i64 (i3 + 1),z9)))) (some (.inl ((t2,IntKind.wrap .i64 (i3 + 1),l4))))) (some (.inr (((t2,l4)))))
def bB (qa0:Int) (qa1:(List Int)) (qb0:Int) (qb1:(List Int)):Option ((Bool×(List Int)×(List Int))) :=
 cond (!decide (qa0=qb0)) (some ((false,qa1,qb1))) ((loop (j6 qb1) (false,0,qa1)).bind fun (t2,l3)=>some ((t2,l3,qb1)))
def xD:Hn Tryd.prog := .mix [] [0,1,2,3,4,5,6,7,8,9,10,11,12,13,14,15,16] [] [] (.tw 24 .nil (.jn [] ⟨[kdB 5],[bkC 0 83 [.is 1 (.any),.own 78 Yq3],bkU 2]⟩ [4,0] (.lp ⟨[kdB 5,kdI 30],[bkC 0 83 [.is 1 (.any),.own 78 Yq3],bkU 2]⟩ (.tw 31 (.tw 44 .nil .nil) .nil)) .nil))
def gT:Spec:=⟨73,⟨[(0,.ptr 0 0),(1,.ptr 1 0)],[bkN 83 [.is 2 (.dat Yq1),.own 78 Yq3],bkN 83 [.is 3 (.dat Yq1),.own 78 Yq3],bkM,bkM]⟩,[⟨[kdB 0],[bkC 0 83 [.is 2 (.any),.own 78 Yq3],bkC 1 83 [.is 3 (.any),.own 78 Yq3],bkU 2,bkU 3]⟩],fun x=>bB x.1 x.2.1 x.2.2.1 x.2.2.2⟩
theorem rz:br Tryd.prog gT:=ar func73 xD (by kernel_rfl) (by kernel_rfl)
def hY (qa1:(List Int)):(Bool×(List Int)×Int)→Option ((Bool×(List Int)×Int)⊕(Bool×(List Int))):=fun (t2,l3,i4)=>cond (decide (i4 < (qa1.length:Int))) ((ae l3 i4).bind fun x5=>(ae l3 i4).bind fun x6=>cond (!decide ((IntKind.wrap .u64 ((BitVec.ofInt (IntKind.bits .u64) x5 &&& ~~~BitVec.ofInt (IntKind.bits .u64) x6).toNat:Int))=0)) ((ae l3 i4).bind fun x7=>(ae l3 i4).bind fun x8=>(some (l3.set i4.toNat (IntKind.wrap .u64 ((BitVec.ofInt (IntKind.bits .u64) x7 ||| BitVec.ofInt (IntKind.bits .u64) x5).toNat:Int)))).bind fun z9=>some (.inl ((true,z9,IntKind.wrap .i64 (i4 + 1))))) (some (.inl ((t2,l3,IntKind.wrap .i64 (i4 + 1)))))) (some (.inr (((t2,l3)))))
def fR (qa0:Int) (qa1:(List Int)):Option ((Bool×(List Int))) :=
 cond (!decide (qa0=qa0)) (some ((false,qa1))) ((loop (hY qa1) (false,qa1,0)).bind fun (t2,l3)=>some ((t2,l3)))
def yw:Hn Tryd.prog := .mix [] [0,1,2,3,4,5,6,7,8,9,10,11,12,13,14,15,16] [] [] (.tw 24 .nil (.jn [] ⟨[kdB 5,(28,.any)],[bkC 0 83 [.is 1 (.any),.own 78 Yq3],bkU 1]⟩ [2,0] (.lp ⟨[kdB 5,(28,.own 78 Yq3),kdI 30],[bkC 0 83 [.is 1 (.any),.al 0],bkU 1]⟩ (.tw 31 (.tw 44 .nil .nil) .nil)) .nil))
def gO:Spec:=⟨73,⟨[(0,.ptr 0 0),(1,.ptr 0 0)],[bkN 83 [.is 1 (.dat Yq1),.own 78 Yq3],bkM]⟩,[⟨[kdB 0],[bkC 0 83 [.is 1 (.any),.own 78 Yq3],bkU 1]⟩],fun x=>fR x.1 x.2⟩
theorem rA:br Tryd.prog gO:=ar func73 yw (by kernel_rfl) (by kernel_rfl)
end
section
section
variable (bm g n cap:Nat) (cols:Int) (w:World)
theorem vP {ad:Option Addr} (hc:w.cell? ⟨bm,1,none⟩=some (.slice ad n cap)) :
   Calls Tryd.prog 38 #[.pointer (some ⟨bm,0,none⟩)] w fun e w'=>e = .returned (.int .i64 (n:Int))∧w'=w:=by
 go_enter Tryd.func38,Tryd.ntmps38
 go_wp2
 go_ret; exact ⟨rfl,rfl⟩
theorem iH {ad:Option Addr} (hc:w.cell? ⟨bm,1,none⟩=some (.slice ad n cap)) (r:Int) :
   Calls Tryd.prog 35 #[.pointer (some ⟨bm,0,none⟩),.int .i64 r] w fun e w'=>e = .returned (.bool (decide (0≤r)&&decide (r < (n:Int))))∧w'=w:=by
 by_cases h0:0≤r
 . have h0':decide (0≤r)=true:=by simpa using h0
   go_enter Tryd.func35,Tryd.ntmps35
   go_wp2_with (first | (go_at_call 38; refine (vP bm n cap w hc).mono ?_; rintro e w' ⟨rfl,rfl⟩))
   all_goals (go_ret; simp [h0'])
 . have h0':decide (0≤r)=false:=by simpa using h0
   go_enter Tryd.func35,Tryd.ntmps35
   go_wp2
   all_goals (go_ret; simp [h0'])
theorem sS {ad:Option Addr} (hc:w.cell? ⟨bm,1,none⟩=some (.slice ad n cap)) (r:Int) (hr:¬ (0≤r∧r < (n:Int))) :
   Calls Tryd.prog 44 #[.pointer (some ⟨bm,0,none⟩),.int .i64 r] w fun e w'=>e = .returned (.pointer none)∧w'=w:=by
 have hb:(decide (0≤r)&&decide (r < (n:Int)))=false:=by simpa using hr
 go_enter Tryd.func44,Tryd.ntmps44
 go_wp2_with (first | (go_at_call 35; refine (iH bm n cap w hc r).mono ?_; rintro e w' ⟨rfl,rfl⟩; rw [hb]))
 go_ret; exact ⟨rfl,rfl⟩
theorem je {r:Nat} (hc:w.cell? ⟨bm,1,none⟩=some (.slice (some ⟨g,0,none⟩) n cap)) (hr:r < n) {p:Option Addr} (hv:w.cell? ⟨g,r,none⟩=some (.pointer p)) :
   Calls Tryd.prog 44 #[.pointer (some ⟨bm,0,none⟩),.int .i64 (r:Int)] w fun e w'=>e = .returned (.pointer p)∧w'=w:=by
 have hb:(decide (0≤(r:Int))&&decide ((r:Int) < (n:Int)))=true:=by simp; omega
 have h1:(0:Int)≤(r:Int):=Int.natCast_nonneg r
 have h2:(r:Int) < (n:Int):=by omega
 go_enter Tryd.func44,Tryd.ntmps44
 go_wp2_with (first | (go_at_call 35; refine (iH bm n cap w hc r).mono ?_; rintro e w' ⟨rfl,rfl⟩; rw [hb]))
 all_goals (go_ret; exact ⟨rfl,rfl⟩)
theorem nf {r:Nat} (hc:w.cell? ⟨bm,1,none⟩=some (.slice (some ⟨g,0,none⟩) n cap)) (hr:r < n) {p:Addr} (hv:w.cell? ⟨g,r,none⟩=some (.pointer (some p))) :
   Calls Tryd.prog 36 #[.pointer (some ⟨bm,0,none⟩),.int .i64 (r:Int)] w fun e w'=>e = .returned (.pointer (some p))∧w'=w:=by
 have h1:(0:Int)≤(r:Int):=Int.natCast_nonneg r
 have h2:(r:Int) < (n:Int):=by omega
 go_enter Tryd.func36,Tryd.ntmps36
 go_wp2
 all_goals (go_ret; exact ⟨rfl,rfl⟩)
theorem si {r:Nat} (hc:w.cell? ⟨bm,1,none⟩=some (.slice (some ⟨g,0,none⟩) n cap)) (h0:w.cell? ⟨bm,0,none⟩=some (.int .i64 cols)) (hr:r < n) (hv:w.cell? ⟨g,r,none⟩=some (.pointer none)) {Q:Addr→World→Prop}
   (hnew:Calls Tryd.prog 57 #[.int .i64 cols] w.drew fun e w1=>∃ p,e = .returned (.tuple #[.pointer (some p),.int .i64 0])∧w1.cell? ⟨bm,1,none⟩=some (.slice (some ⟨g,0,none⟩) n cap)∧w1.cell? ⟨g,r,none⟩=some (.pointer none)∧w1.frozen? ⟨g,r,none⟩=false∧(w1.setCell ⟨g,r,none⟩ (.pointer (some p))).cell? ⟨bm,1,none⟩=some (.slice (some ⟨g,0,none⟩) n cap)∧(w1.setCell ⟨g,r,none⟩ (.pointer (some p))).cell? ⟨g,r,none⟩=some (.pointer (some p))∧Q p (w1.setCell ⟨g,r,none⟩ (.pointer (some p)))) :
   Calls Tryd.prog 36 #[.pointer (some ⟨bm,0,none⟩),.int .i64 (r:Int)] w fun e w'=>∃ p,e = .returned (.pointer (some p))∧Q p w':=by
 have h1:(0:Int)≤(r:Int):=Int.natCast_nonneg r
 have h2:(r:Int) < (n:Int):=by omega
 go_enter Tryd.func36,Tryd.ntmps36
 go_wp2
 go_region_with (first | (go_at_call 57; refine hnew.mono ?_; rintro e w1 ⟨p,rfl,k1,k2,k3,k4,k5,k6⟩))
 all_goals go_wp2
 all_goals (go_ret; exact ⟨_,rfl,k6⟩)
theorem kG {ad:Option Addr} (hc:w.cell? ⟨bm,1,none⟩=some (.slice ad n cap)) (r k:Int) (hr:0≤r∧r < (n:Int))
   (hrow:Calls Tryd.prog 44 #[.pointer (some ⟨bm,0,none⟩),.int .i64 k] w fun e w'=>e = .returned (.pointer none)∧w'=w) :
   Calls Tryd.prog 62 #[.pointer (some ⟨bm,0,none⟩),.int .i64 r,.int .i64 k] w fun e w'=>e = .returned (.bool false)∧w'=w:=by
 have hb:(decide (0≤r)&&decide (r < (n:Int)))=true:=by simpa using hr
 go_enter Tryd.func62,Tryd.ntmps62
 go_wp2_with (first | (go_at_call 35; refine (iH bm n cap w hc r).mono ?_; rintro e w' ⟨rfl,rfl⟩; rw [hb]) | (go_at_call 44; refine hrow.mono ?_; rintro e w' ⟨rfl,rfl⟩))
 all_goals (go_ret; exact ⟨rfl,rfl⟩)
theorem lV {r k:Nat} (hc:w.cell? ⟨bm,1,none⟩=some (.slice (some ⟨g,0,none⟩) n cap)) (hr:r < n) (hk:k < n) {q:Addr} (hv:w.cell? ⟨g,k,none⟩=some (.pointer (some q))) {Q:Bool→World→Prop}
   (hmade:Calls Tryd.prog 36 #[.pointer (some ⟨bm,0,none⟩),.int .i64 (r:Int)] w.drew fun e w1=>∃ p,e = .returned (.pointer (some p))∧w1.cell? ⟨bm,1,none⟩=some (.slice (some ⟨g,0,none⟩) n cap)∧w1.cell? ⟨g,k,none⟩=some (.pointer (some q)) ∧
     Calls Tryd.prog 73 #[.pointer (some p),.pointer (some q)] w1 fun e w2=>∃ b,e = .returned (.bool b)∧Q b w2) :
   Calls Tryd.prog 62 #[.pointer (some ⟨bm,0,none⟩),.int .i64 (r:Int),.int .i64 (k:Int)] w fun e w2=>∃ b,e = .returned (.bool b)∧Q b w2:=by
 have hb:(decide (0≤(r:Int))&&decide ((r:Int) < (n:Int)))=true:=by simp; omega
 have h1:(0:Int)≤(k:Int):=Int.natCast_nonneg k
 have h2:(k:Int) < (n:Int):=by omega
 have hrow:=je bm g n cap w hc hk hv
 go_enter Tryd.func62,Tryd.ntmps62
 go_wp2_with (first | (go_at_call 35; refine (iH bm n cap w hc r).mono ?_; rintro e w' ⟨rfl,rfl⟩; rw [hb]) | (go_at_call 44; refine hrow.mono ?_; rintro e w' ⟨rfl,rfl⟩))
 go_region_with (first | (go_at_call 36; refine hmade.mono ?_; rintro e w1 ⟨p,rfl,k1,k2,k3⟩) | (go_at_call 73; refine k3.mono ?_; rintro e w2 ⟨b,rfl,k4⟩))
 all_goals go_wp2
 all_goals (go_ret; exact ⟨_,rfl,k4⟩)
end
end
section
abbrev MxS:OT := .cons (.dat (.int .i64)) (.one (.row 78 (.dat (.int .u64))))
abbrev MxB:OT := .box 83 MxS
abbrev MxP:TypeId:=64
abbrev pB (b:Nat):Value := .pointer (some ⟨b,0,none⟩)
section
variable {E:En} {K K0 K1:Hp} {L F:List aa} {w:World}
theorem dP {e:TypeId} {g n cap:Nat} {cs:List Value} (hs:Sep E K (Rw e 1 (.slice (some ⟨g,0,none⟩) n cap) n cs :: L) w):∀ i u,cs[i]? = some u→w.cell? ⟨g,i,none⟩=some u∧w.frozen? ⟨g,i,none⟩=false:=by
 intro i u hu
 obtain ⟨h,⟨hlen,h3⟩,hd0,hs2⟩:=hs
 rcases h3 with ⟨h3,_⟩ | ⟨gb,cp,cur,h3,rfl,h4,h5,h6,h7⟩
 . cases h3
 simp only [Value.slice.injEq,Option.some.injEq,Addr.mk.injEq,and_true] at h3
 obtain ⟨rfl,_,rfl⟩:=h3
 have hblk:w.heap[g]? = some (.cells cur e (0,0)):=hs2.sub g _ (Hp.join_right (aC g _) (hd0 g _ (aC g _)))
 have hc:cur[i]? = some u:=by
   rw [← h7,List.getElem?_take] at hu
   split at hu
   . rw [← Array.getElem?_toList]; exact hu
   . cases hu
 exact ⟨by simp [World.cell?,hblk,hc],by simp [World.frozen?,hblk]⟩
theorem wi {e:TypeId} {g n cap i:Nat} {cs:List Value} (hs:Sep E K (Rw e 1 (.slice (some ⟨g,0,none⟩) n cap) n cs :: L) w) (v:Value) (hi:i < n):Sep E K (Rw e 1 (.slice (some ⟨g,0,none⟩) n cap) n (cs.set i v) :: L) (w.setCell ⟨g,i,none⟩ v):=by
 obtain ⟨h,⟨hlen,h3⟩,hd0,hs2⟩:=hs
 rcases h3 with ⟨h3,_⟩ | ⟨gb,cp,cur,h3,rfl,h4,h5,h6,h7⟩
 . cases h3
 simp only [Value.slice.injEq,Option.some.injEq,Addr.mk.injEq,and_true] at h3
 obtain ⟨rfl,_,rfl⟩:=h3
 have hblk:w.heap[g]? = some (.cells cur e (0,0)):=hs2.sub g _ (Hp.join_right (aC g _) (hd0 g _ (aC g _)))
 refine Sep.turn (A:=fun h=>h=one g (.cells cur e (0,0))) ⟨_,rfl,hd0,hs2⟩ (fun e=>e) (fun h0 ha _=>?_)
 obtain rfl:h0=_:=ha
 refine ⟨one g (.cells (cur.setIfInBounds i v) e (0,0)),⟨by simpa using hlen,.inr ⟨g,cap,_,rfl,rfl,h4,h5,by simpa using h6,?_⟩⟩,fun n' o' e'=>?_,fun n' o' e' h1=>?_⟩
 . rw [Array.toList_setIfInBounds,← h7,List.take_set]
 . obtain ⟨rfl,rfl⟩:=bS e'
   exact ⟨by simp [World.setCell,Array.getElem?_modify,hblk],fun e2=>by rw [aC] at e2; cases e2⟩
 . have hne:n'≠g:=fun e2=>by subst e2; rw [aC] at h1; cases h1
   rw [sD hne]; exact e'
theorem dR {v:Value} {y:Int×List Int} (hs:Sep E K (MxB.own K0 [v] (some y:Option (Int×List Int)) :: L) w):∃ b u cs,v=pB b∧Els K0 (.int .u64) cs y.2∧Sep E K (Cl b 83 [.int .i64 y.1,u] :: Rw 78 1 u y.2.length cs :: L) w:=by
 obtain ⟨b,vs,e1,h1⟩:=Sep.ownBox (a:=MxS) (y:=y) hs
 cases e1
 obtain ⟨c1,c2,rfl,hl,h2⟩:=Sep.ownCons (a := .dat (.int .i64)) (r := .one (.row 78 (.dat (.int .u64)))) (x:=y) h1.swap
 obtain ⟨h3,h4⟩:=Sep.ownDat (t := .int .i64) (x:=y.1) h2
 obtain rfl:c1=[.int .i64 y.1]:=h3
 obtain ⟨u,cs,rfl,hE,h5⟩:=Sep.ownLeaf (t := .int .u64) (xs:=y.2) h4
 exact ⟨b,u,cs,rfl,hE,h5.swap⟩
theorem ue {b:Nat} {u:Value} {cs:List Value} {a:Int} {l:List Int} (hE:Els K1 (.int .u64) cs l) (hs:Sep E K (Cl b 83 [.int .i64 a,u] :: Rw 78 1 u l.length cs :: L) w):Sep E K (MxB.own K1 [pB b] (some (a,l):Option (Int×List Int)) :: L) w:=by
 have h1:=Sep.ownLeaf' (t := .int .u64) (K0:=K1) hE hs.swap
 have h2:=Sep.ownDat' (t := .int .i64) (x:=a) (K0:=K1) (cs:=[.int .i64 a]) rfl h1
 have h3:Sep E K (MxS.own K1 ([.int .i64 a]++[u]) (a,l) :: Cl b 83 [.int .i64 a,u] :: L) w:=Sep.ownCons' (a := .dat (.int .i64)) (r := .one (.row 78 (.dat (.int .u64)))) (x:=a) (y:=l) h2
 exact Sep.ownBox' (a:=MxS) (y:=(a,l)) h3.swap
theorem gx {v:List Value} {x:Option (Int×List Int)} (K1:Hp) (hs:Sep E K (MxB.own K0 v x :: L) w):Sep E K (MxB.own K1 v x :: L) w:=hs.mono (fun h k=>OT.own_flat MxB rfl k)
theorem gm {e:TypeId} {v:Value} {l:List (Option (Int×List Int))} {j:Nat} {es:List Value} (K1:Hp) (hs:Sep E K (aV K0 e MxB v l j es :: L) w):Sep E K (aV K1 e MxB v l j es :: L) w :=
 hs.mono (fun h ⟨a1,a2,e1,hst⟩=>⟨a1,a2,e1,b9 (fun _ k=>k) (fun h k=>b9 (fun h k=>EEls.mono (fun es x h k=>OT.own_flat MxB rfl k) k) (fun h k=>EEls.mono (fun es x h k=>OT.own_flat MxB rfl k) k) k) hst⟩)
theorem ke {α:Type} {y:α}:∀ {l:List α} {k:Nat},l[k]? = some y→l.take k++y :: l.drop (k + 1)=l
 | [],k,h=>by simp at h
 | x :: l,0,h=>by simp at h; subst h; rfl
 | x :: l,k + 1,h=>by simp at h; simpa using ke h
theorem qL {e:TypeId} {v vr:Value} {l:List (Option (Int×List Int))} {j:Nat} (hj:j < l.length) (hs:Sep E K (aV K0 e MxB v l j [vr] :: L) w):∃ cs R,cs.length=l.length∧cs[j]? = some vr∧Sep E K (Rw e 1 v l.length cs :: R :: L) w ∧
   ∀ (vr':Value) {E K L w},Sep E K (Rw e 1 v l.length (cs.set j vr') :: R :: L) w→Sep E K (aV K0 e MxB v l j [vr'] :: L) w:=by
 obtain ⟨h,⟨c1,c2,hc,hst⟩,hd,hs⟩:=hs
 have hc':c1.length=j:=by rw [hc]; exact Nat.mul_one j
 have h1:Sep E K (Rw e 1 v l.length (c1++([vr]++c2)) :: aU (EEls (OT.own K0 MxB) c1 (l.take j)) (EEls (OT.own K0 MxB) c2 (l.drop (j + 1))) :: L) w:=Sep.split ⟨h,hst,hd,hs⟩
 have hlen:(c1++([vr]++c2)).length=l.length:=by have:=h1.fact (fun h k=>k.1); rwa [Nat.mul_one] at this
 refine ⟨_,_,hlen,by rw [← hc']; simp,h1,fun vr' {E K L w} h2=>?_⟩
 have he:(c1++([vr]++c2)).set j vr'=c1++([vr']++c2):=by rw [← hc']; simp
 rw [he] at h2
 exact (Sep.join h2).mono (fun h k=>⟨c1,c2,hc,k⟩)
theorem qF {e:TypeId} {v vr:Value} {l:List (Option (Int×List Int))} {j k:Nat} {y:Option (Int×List Int)} (hj:j < l.length) (hk:l[k]? = some y) (hjk:j≠k) (hs:Sep E K (aV K0 e MxB v l j [vr] :: L) w) :
   ∃ cs vk R,cs.length=l.length∧cs[j]? = some vr∧cs[k]? = some vk∧Sep E K (MxB.own K0 [vk] y :: Rw e 1 v l.length cs :: R :: L) w ∧
   ∀ (vr':Value) {E K L w},Sep E K (MxB.own K0 [vk] y :: Rw e 1 v l.length (cs.set j vr') :: R :: L) w→Sep E K (aV K0 e MxB v l j [vr'] :: L) w:=by
 obtain ⟨h,⟨c1,c2,hc,hst⟩,hd,hs⟩:=hs
 have hc':c1.length=j:=by rw [hc]; exact Nat.mul_one j
 have h1:Sep E K (Rw e 1 v l.length (c1++([vr]++c2)) :: aU (EEls (OT.own K0 MxB) c1 (l.take j)) (EEls (OT.own K0 MxB) c2 (l.drop (j + 1))) :: L) w:=Sep.split ⟨h,hst,hd,hs⟩
 have hlen:(c1++([vr]++c2)).length=l.length:=by have:=h1.fact (fun h k=>k.1); rwa [Nat.mul_one] at this
 have hcj:(c1++([vr]++c2))[j]? = some vr:=by rw [← hc']; simp
 have h2:=Sep.split h1.swap
 have hsz:∀ (es:List Value) (x:Option (Int×List Int)) (h:Hp),OT.own K0 MxB es x h→es.length=1:=fun es x h k=>OT.own_len MxB k
 rcases Nat.lt_or_ge k j with hlt | hge
 . have hk':(l.take j)[k]? = some y:=by rw [List.getElem?_take,if_pos hlt]; exact hk
   obtain ⟨a,es,b,rfl,ha,he,h3⟩:=Sep.openEls hsz k hk' h2
   rw [Nat.mul_one] at ha
   obtain ⟨vk,rfl⟩:∃ vk,es=[vk]:=by
     match es,he with
     | [x],_=>exact ⟨x,rfl⟩
   have hset:(l.take j).take k++y :: (l.take j).drop (k + 1)=l.take j:=ke hk'
   refine ⟨_,vk,aU (aU (EEls (OT.own K0 MxB) a ((l.take j).take k)) (EEls (OT.own K0 MxB) b ((l.take j).drop (k + 1)))) (EEls (OT.own K0 MxB) c2 (l.drop (j + 1))),hlen,hcj,?_,?_,fun vr' {E K L w} h4=>?_⟩
   . rw [← ha]; simp
   . have e1:Sep E K (aU (EEls (OT.own K0 MxB) a ((l.take j).take k)) (EEls (OT.own K0 MxB) b ((l.take j).drop (k + 1))) :: OT.own K0 MxB [vk] y :: EEls (OT.own K0 MxB) c2 (l.drop (j + 1)) :: Rw e 1 v l.length (a++([vk]++b)++([vr]++c2)) :: L) w:=Sep.join (Sep.front 2 rfl h3).swap
     exact Sep.rot3 (Sep.join (Sep.front 2 rfl e1).swap)
   . have he:(a++([vk]++b)++([vr]++c2)).set j vr'=a++([vk]++b)++([vr']++c2):=by rw [← hc']; simp
     rw [he] at h4
     have e2:Sep E K (EEls (OT.own K0 MxB) a ((l.take j).take k) :: EEls (OT.own K0 MxB) b ((l.take j).drop (k + 1)) :: EEls (OT.own K0 MxB) c2 (l.drop (j + 1)) :: OT.own K0 MxB [vk] y :: Rw e 1 v l.length (a++([vk]++b)++([vr']++c2)) :: L) w:=Sep.split (Sep.split (Sep.front 2 rfl h4))
     have e3:=Sep.closeEls (pre:=(l.take j).take k) (post:=(l.take j).drop (k + 1)) (x:=y) (es:=[vk]) (c1:=a) (c2:=b) (Sep.front 3 rfl e2).swap
     rw [hset] at e3
     exact (Sep.join (Sep.join e3).swap).mono (fun h q=>⟨_,c2,hc,q⟩)
 . have hkj:j + 1≤k:=by omega
   have hk':(l.drop (j + 1))[k - (j + 1)]? = some y:=by rw [List.getElem?_drop,Nat.add_sub_cancel' hkj]; exact hk
   obtain ⟨a,es,b,rfl,ha,he,h3⟩:=Sep.openEls hsz (k - (j + 1)) hk' h2.swap
   rw [Nat.mul_one] at ha
   obtain ⟨vk,rfl⟩:∃ vk,es=[vk]:=by
     match es,he with
     | [x],_=>exact ⟨x,rfl⟩
   have hset:=ke hk'
   refine ⟨_,vk,aU (aU (EEls (OT.own K0 MxB) a ((l.drop (j + 1)).take (k - (j + 1)))) (EEls (OT.own K0 MxB) b ((l.drop (j + 1)).drop (k - (j + 1) + 1)))) (EEls (OT.own K0 MxB) c1 (l.take j)),hlen,hcj,?_,?_,fun vr' {E K L w} h4=>?_⟩
   . have:k=(c1++([vr]++a)).length:=by simp; omega
     rw [this]
     simp [← List.append_assoc]
   . have e1:Sep E K (aU (EEls (OT.own K0 MxB) a ((l.drop (j + 1)).take (k - (j + 1)))) (EEls (OT.own K0 MxB) b ((l.drop (j + 1)).drop (k - (j + 1) + 1))) :: OT.own K0 MxB [vk] y :: EEls (OT.own K0 MxB) c1 (l.take j) :: Rw e 1 v l.length (c1++([vr]++(a++([vk]++b)))) :: L) w:=Sep.join (Sep.front 2 rfl h3).swap
     exact Sep.rot3 (Sep.join (Sep.front 2 rfl e1).swap)
   . have he:(c1++([vr]++(a++([vk]++b)))).set j vr'=c1++([vr']++(a++([vk]++b))):=by rw [← hc']; simp
     rw [he] at h4
     have e2:Sep E K (EEls (OT.own K0 MxB) a ((l.drop (j + 1)).take (k - (j + 1))) :: EEls (OT.own K0 MxB) b ((l.drop (j + 1)).drop (k - (j + 1) + 1)) :: EEls (OT.own K0 MxB) c1 (l.take j) :: OT.own K0 MxB [vk] y :: Rw e 1 v l.length (c1++([vr']++(a++([vk]++b)))) :: L) w:=Sep.split (Sep.split (Sep.front 2 rfl h4))
     have e3:=Sep.closeEls (pre:=(l.drop (j + 1)).take (k - (j + 1))) (post:=(l.drop (j + 1)).drop (k - (j + 1) + 1)) (x:=y) (es:=[vk]) (c1:=a) (c2:=b) (Sep.front 3 rfl e2).swap
     rw [hset] at e3
     exact (Sep.join (Sep.join e3.swap).swap).mono (fun h q=>⟨c1,_,hc,q⟩)
theorem iX {m:List M} {i c r rc b0:Nat} {z:SV} {a:Int} {l:List Int} (hb:HA.ok m K (.blk i c 83 [z,.own r])) (hr:HA.ok m K (.row r rc 78 (.int .u64) l l.length)) (hi:m[i]? = some (.val (pB b0))) (hz:∀ u,SV.rel m K z u→u = .int .i64 a)
   (hs:Sep E K (HA.conc m (.blk i c 83 [z,.own r]) :: HA.conc m (.row r rc 78 (.int .u64) l l.length) :: L) w):Sep E K (MxB.own K [pB b0] (some (a,l):Option (Int×List Int)) :: L) w:=by
 obtain ⟨b,vs,o1,o2,o3,o4⟩:=HA.ok_blk hb
 obtain ⟨ad,cap,cs,h1,h2,h3,h4,h5,h6,h7⟩:=hr
 rw [o4] at hs
 simp only [HA.conc,h1,h2] at hs
 rw [hi] at o1; cases o1
 obtain ⟨u,q,rfl,k1,k2⟩:=ax o3
 obtain ⟨u2,q2,rfl,k3,k4⟩:=ax k2
 obtain rfl:=aA k4
 obtain rfl:=hz u k1
 have k3':=k3.1; rw [h1] at k3'; cases k3'
 exact ue h3 hs
theorem lD {m:List M} {z:Nat} {a:Value} (h:m[z]? = some (.val a)):∀ u,SV.rel m K (.is z .any) u→u=a:=fun u hu=>by have:=hu.1; rw [h] at this; cases this; rfl
theorem lB {cs:List Value} {l:List Int} (h:Els K0 (.int .u64) cs l):Els K1 (.int .u64) cs l:=Els.flat rfl h
theorem p8 {p q:Value} {a b:Int×List Int} {t:Bool} {l l2:List Int} (hf:bB a.1 a.2 b.1 b.2=some (t,l,l2)) (hg:BldA.gk K) (hs:Sep E K (MxB.own K0 [p] (some a:Option (Int×List Int)) :: MxB.own K0 [q] (some b:Option (Int×List Int)) :: F) w) :
   Calls Tryd.prog 73 #[p,q] w fun e w'=>∃ K',e = .returned (.bool t)∧K.le K'∧Sep E K' (MxB.own K' [p] (some (a.1,l):Option (Int×List Int)) :: MxB.own K' [q] (some (b.1,l2):Option (Int×List Int)) :: F) w':=by
 obtain ⟨bp,u,cs,rfl,hE1,hs1⟩:=dR hs
 obtain ⟨bq,u2,cs2,rfl,hE2,hs2⟩:=dR (Sep.front 2 rfl hs1)
 have hs3:Sep E K (Cl bq 83 [.int .i64 b.1,u2] :: Rw 78 1 u2 b.2.length cs2 :: Cl bp 83 [.int .i64 a.1,u] :: Rw 78 1 u a.2.length cs :: F) w:=hs2
 obtain ⟨ad2,cap2,e2,f1,f2,f3⟩:=hs3.swap.fact (fun h k=>Rw.form h k)
 obtain ⟨ad1,cap1,e1,g1,g2,g3⟩:=(Sep.front 3 rfl hs3).fact (fun h k=>Rw.form h k)
 obtain ⟨m,hm⟩:∃ m:List M,m=[.val (pB bp),.val (pB bq),.val (.int .i64 a.1),.val (.int .i64 b.1),.val u,.cont (.int .u64) a.2 cs,.cells [.int .i64 a.1,u],.val u2,.cont (.int .u64) b.2 cs2,.cells [.int .i64 b.1,u2]]:=⟨_,rfl⟩
 have hu:gT.inn.un (TL.list gT.inn.ts ((a.1,a.2,b.1,b.2):Int×List Int×Int×List Int)) 0=some ([(0,.ptr 0 0),(1,.ptr 1 0)],⟨[],10,[.blk 1 9 83 [.is 3 (.int .i64 b.1),.own 7],.row 7 8 78 (.int .u64) b.2 b.2.length,.blk 0 6 83 [.is 2 (.int .i64 a.1),.own 4],.row 4 5 78 (.int .u64) a.2 a.2.length],[4,7]⟩):=rfl
 have hrow1:HA.ok m K (.row 4 5 78 (.int .u64) a.2 a.2.length):=⟨ad1,cap1,cs,by rw [hm,← e1]; rfl,by rw [hm]; rfl,lB hE1,rfl,g1,g2,fun h=>g3 (fun h0=>h (List.length_eq_zero_iff.1 h0))⟩
 have hrow2:HA.ok m K (.row 7 8 78 (.int .u64) b.2 b.2.length):=⟨ad2,cap2,cs2,by rw [hm,← e2]; rfl,by rw [hm]; rfl,lB hE2,rfl,f1,f2,fun h=>f3 (fun h0=>h (List.length_eq_zero_iff.1 h0))⟩
 have o1:u.oneCell'=true:=by rw [e1]; rfl
 have o2:u2.oneCell'=true:=by rw [e2]; rfl
 have h:=rz (a.1,a.2,b.1,b.2) (t,l,l2) hf _ _ hu m K [pB bp,pB bq] hg (by rw [hm]; rfl) (fun x hx=>by
   simp only [List.mem_cons,List.not_mem_nil,or_false] at hx
   rcases hx with rfl | rfl | rfl | rfl
   . exact ⟨bq,_,by rw [hm]; rfl,by rw [hm]; rfl,_,_,rfl,⟨by rw [hm]; rfl,rfl⟩,_,_,rfl,⟨by rw [hm]; rfl,o2⟩,rfl⟩
   . exact hrow2
   . exact ⟨bp,_,by rw [hm]; rfl,by rw [hm]; rfl,_,_,rfl,⟨by rw [hm]; rfl,rfl⟩,_,_,rfl,⟨by rw [hm]; rfl,o1⟩,rfl⟩
   . exact hrow1) ⟨_,_,rfl,⟨bp,by rw [hm]; rfl,rfl⟩,_,_,rfl,⟨bq,by rw [hm]; rfl,rfl⟩,rfl⟩ E w F (by subst hm; exact hs3)
 refine h.mono ?_
 rintro e w' ⟨v,K',L',rfl,⟨vs',u',m',hun,⟨s,rfl⟩,hlen,hok',hres,rfl⟩,hle,hs'⟩
 have hun':((bg gT.outs (t,l,l2)).1.un (bg gT.outs (t,l,l2)).2 10)=some ([(0,.bool t)],⟨[],16,[.blk 1 15 83 [.is 3 .any,.own 13],.row 13 14 78 (.int .u64) l2 l2.length,.blk 0 12 83 [.is 2 .any,.own 10],.row 10 11 78 (.int .u64) l l.length],[10,13]⟩):=rfl
 rw [hun'] at hun
 cases hun
 obtain rfl:v = .bool t:=hres
 refine ⟨K',rfl,hle,?_⟩
 have hm0:∀ i x,m[i]? = some x→(m++s)[i]? = some x:=fun i x h=>ag (aj m s) h
 have r1:=iX (b0:=bq) (a:=b.1) (hok' _ (by simp)) (hok' _ (by simp)) (hm0 1 _ (by rw [hm]; rfl)) (lD (hm0 3 _ (by rw [hm]; rfl))) hs'
 exact (iX (b0:=bp) (a:=a.1) (hok' (.blk 0 12 83 [.is 2 .any,.own 10]) (by simp)) (hok' (.row 10 11 78 (.int .u64) l l.length) (by simp)) (hm0 0 _ (by rw [hm]; rfl)) (lD (hm0 2 _ (by rw [hm]; rfl))) (Sep.front 2 rfl (Sep.front 2 rfl r1)))
theorem uP {p:Value} {a:Int×List Int} {t:Bool} {l:List Int} (hf:fR a.1 a.2=some (t,l)) (hg:BldA.gk K) (hs:Sep E K (MxB.own K0 [p] (some a:Option (Int×List Int)) :: F) w) :
   Calls Tryd.prog 73 #[p,p] w fun e w'=>∃ K',e = .returned (.bool t)∧K.le K'∧Sep E K' (MxB.own K' [p] (some (a.1,l):Option (Int×List Int)) :: F) w':=by
 obtain ⟨bp,u,cs,rfl,hE1,hs1⟩:=dR hs
 obtain ⟨ad1,cap1,e1,g1,g2,g3⟩:=hs1.swap.fact (fun h k=>Rw.form h k)
 obtain ⟨m,hm⟩:∃ m:List M,m=[.val (pB bp),.val (.int .i64 a.1),.val u,.cont (.int .u64) a.2 cs,.cells [.int .i64 a.1,u]]:=⟨_,rfl⟩
 have hu:gO.inn.un (TL.list gO.inn.ts ((a.1,a.2):Int×List Int)) 0=some ([(0,.ptr 0 0),(1,.ptr 0 0)],⟨[],5,[.blk 0 4 83 [.is 1 (.int .i64 a.1),.own 2],.row 2 3 78 (.int .u64) a.2 a.2.length],[2]⟩):=rfl
 have hrow1:HA.ok m K (.row 2 3 78 (.int .u64) a.2 a.2.length):=⟨ad1,cap1,cs,by rw [hm,← e1]; rfl,by rw [hm]; rfl,lB hE1,rfl,g1,g2,fun h=>g3 (fun h0=>h (List.length_eq_zero_iff.1 h0))⟩
 have o1:u.oneCell'=true:=by rw [e1]; rfl
 have h:=rA (a.1,a.2) (t,l) hf _ _ hu m K [pB bp,pB bp] hg (by rw [hm]; rfl) (fun x hx=>by
   simp only [List.mem_cons,List.not_mem_nil,or_false] at hx
   rcases hx with rfl | rfl
   . exact ⟨bp,_,by rw [hm]; rfl,by rw [hm]; rfl,_,_,rfl,⟨by rw [hm]; rfl,rfl⟩,_,_,rfl,⟨by rw [hm]; rfl,o1⟩,rfl⟩
   . exact hrow1) ⟨_,_,rfl,⟨bp,by rw [hm]; rfl,rfl⟩,_,_,rfl,⟨bp,by rw [hm]; rfl,rfl⟩,rfl⟩ E w F (by subst hm; exact hs1)
 refine h.mono ?_
 rintro e w' ⟨v,K',L',rfl,⟨vs',u',m',hun,⟨s,rfl⟩,hlen,hok',hres,rfl⟩,hle,hs'⟩
 have hun':((bg gO.outs (t,l)).1.un (bg gO.outs (t,l)).2 5)=some ([(0,.bool t)],⟨[],8,[.blk 0 7 83 [.is 1 .any,.own 5],.row 5 6 78 (.int .u64) l l.length],[5]⟩):=rfl
 rw [hun'] at hun
 cases hun
 obtain rfl:v = .bool t:=hres
 refine ⟨K',rfl,hle,?_⟩
 have hm0:∀ i x,m[i]? = some x→(m++s)[i]? = some x:=fun i x h=>ag (aj m s) h
 exact iX (b0:=bp) (a:=a.1) (hok' _ (by simp)) (hok' _ (by simp)) (hm0 0 _ (by rw [hm]; rfl)) (lD (hm0 1 _ (by rw [hm]; rfl))) hs'
theorem vS {c:Int} {i sz:Int} {ws:List Int} (hf:cj c=some (.inr (i,sz,ws))) (hg:BldA.gk K) (hs:Sep E K F w) :
   Calls Tryd.prog 57 #[.int .i64 c] w fun e w'=>∃ K' b,e = .returned (.tuple #[pB b,.int .i64 i])∧K.le K'∧Sep E K' (MxB.own K' [pB b] (some (sz,ws):Option (Int×List Int)) :: F) w':=by
 have hu:sQ6.inn.un (TL.list sQ6.inn.ts (c:Int)) 0=some ([(0,.int .i64 c)],⟨[],0,[],[]⟩):=rfl
 have h:=(@id (br _ sQ6) oQ6.2) (c:Int) (.inr (i,sz,ws)) hf _ _ hu [] K [.int .i64 c] hg rfl (fun x hx=>by cases hx) ⟨_,_,rfl,rfl,rfl⟩ E w F hs
 refine h.mono ?_
 rintro e w' ⟨v,K',L',rfl,⟨vs',u',m',hun,⟨s,rfl⟩,hlen,hok',hres,rfl⟩,hle,hs'⟩
 have hun':((bg sQ6.outs (.inr (i,sz,ws))).1.un (bg sQ6.outs (.inr (i,sz,ws))).2 0)=some ([(0,.tup [.ptr 0 0,.int .i64 i])],⟨[],4,[.blk 0 3 83 [.int .i64 sz,.own 1],.row 1 2 78 (.int .u64) ws ws.length],[1]⟩):=rfl
 rw [hun'] at hun
 cases hun
 obtain ⟨us,rfl,h1⟩:=hres
 obtain ⟨u1,q,rfl,⟨b,h2,rfl⟩,h3⟩:=ax h1
 obtain ⟨u2,q2,rfl,h4,h5⟩:=ax h3
 obtain rfl:=aA h5
 obtain rfl:u2 = .int .i64 i:=h4
 exact ⟨K',b,rfl,hle,iX (b0:=b) (z := .int .i64 sz) (a:=sz) (hok' _ (by simp)) (hok' _ (by simp)) h2 (fun u hu=>hu) hs'⟩
end
theorem oH {a b:Int} {l l2 l' r:List Int} {t:Bool} (h:bB a l b l2=some (t,l',r)):r=l2:=by
 unfold bB at h
 cases hb : !decide (a=b) with
 | true=>rw [hb] at h; simp only [cond_true,Option.some.injEq,Prod.mk.injEq] at h; exact h.2.2.symm
 | false =>
   rw [hb] at h
   simp only [cond_false] at h
   obtain ⟨q,_,h⟩:=ob h
   simp only [Option.some.injEq,Prod.mk.injEq] at h; exact h.2.2.symm
theorem sO {c i sz:Int} {ws:List Int} (h:cj c=some (.inr (i,sz,ws))):i=0:=by
 unfold cj at h
 cases hb:decide (c < 0) with
 | true=>rw [hb] at h; simp at h
 | false =>
   rw [hb] at h
   simp only [cond_false] at h
   cases hb:decide (1048576 < c) with
   | true=>rw [hb] at h; simp at h
   | false =>
     rw [hb] at h
     simp only [cond_false] at h
     obtain ⟨q,_,h⟩:=ob h
     simp only [Option.some.injEq,Sum.inr.injEq,Prod.mk.injEq] at h; exact h.1.symm
def orH (k cols:Int) (l:List (Option (Int×List Int))) (j:Nat) (x:Option (Int×List Int)):Option (Bool×Option (Int×List Int)) :=
 if 0≤k∧k < (l.length:Int) then
   (if k.toNat=j then (match x with
     | none=>some (false,none)
     | some s=>(fR s.1 s.2).bind fun r=>some (r.1,some (s.1,r.2)))
   else match l[k.toNat]?.join with
     | some b=>(match x with
       | some s=>(bB s.1 s.2 b.1 b.2).bind fun r=>some (r.1,some (s.1,r.2.1))
       | none=>(cj cols).bind fun o=>(match o with
         | .inl _=>none
         | .inr q=>(bB q.2.1 q.2.2 b.1 b.2).bind fun r=>some (r.1,some (q.2.1,r.2.1))))
     | none=>some (false,x))
 else some (false,x)
theorem ud {α:Type} {l:List α} {j:Nat} {x:α} (h:l[j]? = some x):l.set j x=l:=by
 apply List.ext_getElem?
 intro i
 rw [List.getElem?_set]
 by_cases hij:j=i
 . subst hij; rw [if_pos rfl,if_pos (List.getElem?_eq_some_iff.1 h).1,h]
 . rw [if_neg hij]
section
variable {E:En} {K K0 K1:Hp} {L F:List aa} {w:World}
theorem iM {v:Value} (hs:Sep E K (MxB.own K0 [v] (none:Option (Int×List Int)) :: L) w):v = .pointer none:=by
 have:=hs.fact (p:=[v]=[.pointer none]) (fun h k=>k.1)
 simpa using this
theorem sG {bm g cap j:Nat} {cols:Int} {l:List (Option (Int×List Int))} {x:Option (Int×List Int)} {vr:Value} {t:Bool} {x':Option (Int×List Int)} (hg:BldA.gk K) (hj:j < l.length) (k:Int) (hf:orH k cols l j x=some (t,x'))
   (hs:Sep E K (Cl bm 63 [.int .i64 cols,.slice (some ⟨g,0,none⟩) l.length cap] :: aV K0 MxP MxB (.slice (some ⟨g,0,none⟩) l.length cap) l j [vr] :: MxB.own K0 [vr] x :: F) w) :
   Calls Tryd.prog 62 #[pB bm,.int .i64 (j:Int),.int .i64 k] w fun e w'=>∃ K' vr',e = .returned (.bool t)∧K.le K'∧(x≠none→vr'=vr) ∧
     Sep E K' (Cl bm 63 [.int .i64 cols,.slice (some ⟨g,0,none⟩) l.length cap] :: aV K' MxP MxB (.slice (some ⟨g,0,none⟩) l.length cap) l j [vr'] :: MxB.own K' [vr'] x' :: F) w':=by
 have ccl:∀ {K:Hp} {L:List aa} {w:World},Sep E K (Cl bm 63 [.int .i64 cols,.slice (some ⟨g,0,none⟩) l.length cap] :: L) w→w.cell? ⟨bm,1,none⟩=some (.slice (some ⟨g,0,none⟩) l.length cap)∧w.cell? ⟨bm,0,none⟩=some (.int .i64 cols):=fun h=>by
   have hcl:=h.cl
   exact ⟨by simp [World.cell?,hcl],by simp [World.cell?,hcl]⟩
 have hc:=(ccl hs).1
 have stay:∀ {w},Sep E K (Cl bm 63 [.int .i64 cols,.slice (some ⟨g,0,none⟩) l.length cap] :: aV K0 MxP MxB (.slice (some ⟨g,0,none⟩) l.length cap) l j [vr] :: MxB.own K0 [vr] x :: F) w →
     Sep E K (Cl bm 63 [.int .i64 cols,.slice (some ⟨g,0,none⟩) l.length cap] :: aV K MxP MxB (.slice (some ⟨g,0,none⟩) l.length cap) l j [vr] :: MxB.own K [vr] x :: F) w:=fun h=>by
   have h1:=gx K (Sep.front 2 rfl h)
   have h2:=gm K (Sep.front 2 rfl h1)
   exact Sep.front 2 rfl h2
 have hcj:w.cell? ⟨g,j,none⟩=some vr:=by
   obtain ⟨cs,R,q1,q2,q3,_⟩:=qL hj hs.swap
   exact (dP q3 j vr q2).1
 unfold orH at hf
 split at hf
 . rename_i hk
   obtain ⟨k',rfl⟩:∃ k':Nat,k=k':=⟨k.toNat,by omega⟩
   simp only [Int.toNat_natCast] at hf
   have hk2:k' < l.length:=by omega
   split at hf
   . rename_i hkj
     subst hkj
     cases x with
     | none =>
       simp only [Option.some.injEq,Prod.mk.injEq] at hf
       obtain ⟨rfl,rfl⟩:=hf
       obtain rfl:=iM (Sep.front 2 rfl hs)
       refine (kG bm l.length cap w hc _ _ ⟨by omega,by omega⟩ (je bm g l.length cap w hc hj hcj)).mono ?_
       rintro e w' ⟨rfl,rfl⟩
       exact ⟨K,_,rfl,Hp.le_refl K,fun _=>rfl,stay hs⟩
     | some s =>
       simp only at hf
       obtain ⟨r,hr,hf⟩:=ob hf
       simp only [Option.some.injEq,Prod.mk.injEq] at hf
       obtain ⟨rfl,rfl⟩:=hf
       obtain ⟨b,_,_,rfl,_,_⟩:=dR (Sep.front 2 rfl hs)
       refine (lV bm g l.length cap w hc hj hj hcj (Q:=fun b' w2=>∃ K',b'=r.1∧K.le K'∧Sep E K' (MxB.own K' [pB b] (some (s.1,r.2):Option (Int×List Int)) :: Cl bm 63 [.int .i64 cols,.slice (some ⟨g,0,none⟩) l.length cap] :: aV K0 MxP MxB (.slice (some ⟨g,0,none⟩) l.length cap) l k' [pB b] :: F) w2) ?_).mono ?_
       . have hs1:=hs.drew
         have hcj1:w.drew.cell? ⟨g,k',none⟩=some (pB b):=hcj
         refine (nf bm g l.length cap w.drew (ccl hs1).1 hj hcj1).mono ?_
         rintro e w1 ⟨rfl,rfl⟩
         refine ⟨_,rfl,(ccl hs1).1,hcj1,(uP hr hg (Sep.front 2 rfl hs1)).mono ?_⟩
         rintro e w2 ⟨K',rfl,q1,q2⟩
         exact ⟨_,rfl,K',rfl,q1,q2⟩
       . rintro e w2 ⟨b',rfl,K',rfl,q1,q2⟩
         have h1:=gm K' (Sep.front 2 rfl q2)
         exact ⟨K',_,rfl,q1,fun _=>rfl,Sep.front 2 rfl h1⟩
   . rename_i hkj
     have hjk:j≠k':=fun e=>hkj e.symm
     have stop:∀ {y:Option (Int×List Int)},l[k']? = some y→y=none→t=false→x'=x→Calls Tryd.prog 62 #[pB bm,.int .i64 (j:Int),.int .i64 (k':Int)] w fun e w'=>∃ K' vr',e = .returned (.bool t)∧K.le K'∧(x≠none→vr'=vr) ∧
         Sep E K' (Cl bm 63 [.int .i64 cols,.slice (some ⟨g,0,none⟩) l.length cap] :: aV K' MxP MxB (.slice (some ⟨g,0,none⟩) l.length cap) l j [vr'] :: MxB.own K' [vr'] x' :: F) w':=by
       rintro y hy rfl rfl rfl
       obtain ⟨cs,vk,R,q1,q2,q3,q4,_⟩:=qF hj hy hjk hs.swap
       obtain rfl:=iM q4
       refine (kG bm l.length cap w hc _ _ ⟨by omega,by omega⟩ (je bm g l.length cap w hc hk2 (dP q4.swap k' _ q3).1)).mono ?_
       rintro e w' ⟨rfl,rfl⟩
       exact ⟨K,_,rfl,Hp.le_refl K,fun _=>rfl,stay hs⟩
     split at hf
     . rename_i b hb0
       have hb:l[k']? = some (some b):=by
         cases hq:l[k']? with
         | none=>rw [hq] at hb0; cases hb0
         | some y=>rw [hq] at hb0; exact congrArg some hb0
       obtain ⟨cs,vk,R,q1,q2,q3,q4,q5⟩:=qF hj hb hjk hs.swap
       obtain ⟨bk,_,_,rfl,_,_⟩:=dR q4
       have hck:=(dP q4.swap k' _ q3).1
       cases x with
       | some s =>
         simp only at hf
         obtain ⟨r,hr,hf⟩:=ob hf
         simp only [Option.some.injEq,Prod.mk.injEq] at hf
         obtain ⟨rfl,rfl⟩:=hf
         obtain ⟨bj,_,_,rfl,_,_⟩:=dR (Sep.front 2 rfl hs)
         refine (lV bm g l.length cap w hc hj hk2 hck (Q:=fun b' w2=>∃ K',b'=r.1∧K.le K'∧Sep E K' (MxB.own K' [pB bj] (some (s.1,r.2.1):Option (Int×List Int)) :: MxB.own K' [pB bk] (some (b.1,r.2.2):Option (Int×List Int)) :: Rw MxP 1 (.slice (some ⟨g,0,none⟩) l.length cap) l.length cs :: R :: Cl bm 63 [.int .i64 cols,.slice (some ⟨g,0,none⟩) l.length cap] :: F) w2) ?_).mono ?_
         . have hs1:=q4.drew
           have hcj1:w.drew.cell? ⟨g,j,none⟩=some (pB bj):=hcj
           have hc1:w.drew.cell? ⟨bm,1,none⟩=some (.slice (some ⟨g,0,none⟩) l.length cap):=hc
           refine (nf bm g l.length cap w.drew hc1 hj hcj1).mono ?_
           rintro e w1 ⟨rfl,rfl⟩
           refine ⟨_,rfl,hc1,hck,(p8 (a:=s) (b:=b) hr hg (Sep.front 4 rfl hs1)).mono ?_⟩
           rintro e w2 ⟨K',rfl,p1,p2⟩
           exact ⟨_,rfl,K',rfl,p1,p2⟩
         . rintro e w2 ⟨b',rfl,K',rfl,p1,p2⟩
           have hsame:=oH hr
           rw [hsame] at p2
           have h1:=gx K0 p2.swap
           have h2:=q5 (pB bj) (E:=E) (K:=K') (w:=w2) (L:=MxB.own K' [pB bj] (some (s.1,r.2.1):Option (Int×List Int)) :: Cl bm 63 [.int .i64 cols,.slice (some ⟨g,0,none⟩) l.length cap] :: F) (by
             rw [ud q2]
             exact Sep.perm (by
               refine List.Perm.cons _ ?_
               exact ((List.Perm.swap _ _ _).trans ((List.Perm.swap _ _ _).cons _))) h1)
           exact ⟨K',_,rfl,p1,fun _=>rfl,Sep.front 2 rfl (gm K' h2)⟩
       | none =>
         simp only at hf
         obtain ⟨o,ho,hf⟩:=ob hf
         cases o with
         | inl _=>simp at hf
         | inr q =>
         obtain ⟨i,sz,ws⟩:=q
         simp only at hf
         obtain ⟨r,hr,hf⟩:=ob hf
         simp only [Option.some.injEq,Prod.mk.injEq] at hf
         obtain ⟨rfl,rfl⟩:=hf
         obtain rfl:=sO ho
         obtain rfl:=iM (Sep.front 2 rfl hs)
         refine (lV bm g l.length cap w hc hj hk2 hck (Q:=fun b' w2=>∃ K' bj,b'=r.1∧K.le K'∧Sep E K' (MxB.own K' [pB bj] (some (sz,r.2.1):Option (Int×List Int)) :: MxB.own K' [pB bk] (some (b.1,r.2.2):Option (Int×List Int)) :: Rw MxP 1 (.slice (some ⟨g,0,none⟩) l.length cap) l.length (cs.set j (pB bj)) :: R :: Cl bm 63 [.int .i64 cols,.slice (some ⟨g,0,none⟩) l.length cap] :: F) w2) ?_).mono ?_
         . have hs1:=q4.drew.drew
           have hcj1:w.drew.cell? ⟨g,j,none⟩=some (.pointer none):=hcj
           have hc1:w.drew.cell? ⟨bm,1,none⟩=some (.slice (some ⟨g,0,none⟩) l.length cap):=hc
           have hc0:w.drew.cell? ⟨bm,0,none⟩=some (.int .i64 cols):=(ccl hs).2
           refine (si bm g l.length cap cols w.drew hc1 hc0 hj hcj1 (Q:=fun p w2=>∃ K1 bj,p=⟨bj,0,none⟩∧K.le K1∧Sep E K1 (MxB.own K1 [pB bj] (some (sz,ws):Option (Int×List Int)) :: MxB.own K0 [pB bk] (some b:Option (Int×List Int)) :: Rw MxP 1 (.slice (some ⟨g,0,none⟩) l.length cap) l.length (cs.set j (pB bj)) :: R :: Cl bm 63 [.int .i64 cols,.slice (some ⟨g,0,none⟩) l.length cap] :: F) w2) ?_).mono ?_
           . refine (vS ho hg hs1).mono ?_
             rintro e w1 ⟨K1,bj,rfl,p1,p2⟩
             have e1:=dP (Sep.front 2 rfl p2)
             have p3:Sep E K1 (MxB.own K1 [pB bj] (some (sz,ws):Option (Int×List Int)) :: MxB.own K0 [pB bk] (some b:Option (Int×List Int)) :: Rw MxP 1 (.slice (some ⟨g,0,none⟩) l.length cap) l.length (cs.set j (pB bj)) :: R :: Cl bm 63 [.int .i64 cols,.slice (some ⟨g,0,none⟩) l.length cap] :: MxB.own K0 [.pointer none] (none:Option (Int×List Int)) :: F) (w1.setCell ⟨g,j,none⟩ (pB bj)) :=
               Sep.front 2 rfl (Sep.front 2 rfl (wi (Sep.front 2 rfl p2) (pB bj) hj))
             refine ⟨⟨bj,0,none⟩,rfl,(ccl (Sep.front 4 rfl p2)).1,(e1 j _ q2).1,(e1 j _ q2).2,(ccl (Sep.front 4 rfl p3)).1,(dP (Sep.front 2 rfl p3) j _ (by rw [List.getElem?_set,if_pos rfl,if_pos (by rw [q1]; exact hj)])).1,K1,bj,rfl,p1,?_⟩
             have p4:=(Sep.front 5 rfl p3).drop
             exact p4
           . rintro e w1 ⟨p,rfl,K1,bj,rfl,p1,p2⟩
             refine ⟨⟨bj,0,none⟩,rfl,(ccl (Sep.front 4 rfl p2)).1,(dP (Sep.front 2 rfl p2) k' _ (by rw [List.getElem?_set,if_neg hjk]; exact q3)).1,(p8 (K0:=K1) (a:=(sz,ws)) (b:=b) hr (BldA.gkm p1.cle hg) (gx K1 p2.swap).swap).mono ?_⟩
             rintro e w2 ⟨K',rfl,r1,r2⟩
             exact ⟨_,rfl,K',bj,rfl,p1.trans r1,r2⟩
         . rintro e w2 ⟨b',rfl,K',bj,rfl,p1,p2⟩
           have hsame:=oH hr
           rw [hsame] at p2
           have h1:=gx K0 p2.swap
           have h2:=q5 (pB bj) (E:=E) (K:=K') (w:=w2) (L:=MxB.own K' [pB bj] (some (sz,r.2.1):Option (Int×List Int)) :: Cl bm 63 [.int .i64 cols,.slice (some ⟨g,0,none⟩) l.length cap] :: F) (Sep.perm (by
               refine List.Perm.cons _ ?_
               exact ((List.Perm.swap _ _ _).trans ((List.Perm.swap _ _ _).cons _))) h1)
           exact ⟨K',_,rfl,p1,fun h=>absurd rfl h,Sep.front 2 rfl (gm K' h2)⟩
     . rename_i hno
       have hy:∃ y,l[k']? = some y:=⟨_,List.getElem?_eq_getElem hk2⟩
       obtain ⟨y,hy⟩:=hy
       simp only [Option.some.injEq,Prod.mk.injEq] at hf
       obtain ⟨rfl,rfl⟩:=hf
       cases y with
       | none=>exact stop hy rfl rfl rfl
       | some b=>rw [hy] at hno; cases hno
 . rename_i hk
   simp only [Option.some.injEq,Prod.mk.injEq] at hf
   obtain ⟨rfl,rfl⟩:=hf
   refine (kG bm l.length cap w hc _ _ ⟨by omega,by omega⟩ (sS bm l.length cap w hc _ hk)).mono ?_
   rintro e w' ⟨rfl,rfl⟩
   exact ⟨K,_,rfl,Hp.le_refl K,fun _=>rfl,stay hs⟩
end
abbrev MxM:OT := .row MxP MxB
section
variable {E:En} {K K0 K1:Hp} {L F:List aa} {w:World}
end
abbrev qW:List Bk:=[⟨none,63,[.is 3 (.dat (.int .i64)),.rp 1],false,false,none,false⟩,⟨none,MxP,[.rp 2],true,false,some MxB,false⟩,⟨none,0,[],false,false,some MxB,false⟩,⟨none,0,[],false,true,none,false⟩]
abbrev dA:List Bk:=[⟨some 0,63,[.is 3 .any,.rp 1],false,false,none,false⟩,⟨some 1,MxP,[.rp 2],true,false,some MxB,false⟩,⟨some 2,0,[],false,false,some MxB,false⟩,⟨some 3,0,[],false,true,none,false⟩]
def eh (r k cols:Int) (l:List (Option (Int×List Int))) (j:Int) (x:Option (Int×List Int)):Option (Bool×List (Option (Int×List Int))×Int×Option (Int×List Int)) :=
 if r=j then (match x with | none=>none | some s=>(orH k cols l j.toNat (some s)).bind fun q=>some (q.1,l,j,q.2)) else none
def fU:Spec:=⟨62,⟨[(0,.ptr 0 0),(1,.dat (.int .i64)),(2,.dat (.int .i64))],qW⟩,[⟨[(0,.dat .bool)],dA⟩],fun x=>eh x.1 x.2.1 x.2.2.1 x.2.2.2.1 x.2.2.2.2.1 x.2.2.2.2.2⟩
def ed (r cols:Int) (l:List (Option (Int×List Int))) (j:Int) (x:Option (Int×List Int)):Option (List (Option (Int×List Int))×Int×Option (Int×List Int)):=if r=j then some (l,j,x) else none
def fS:Spec:=⟨44,⟨[(0,.ptr 0 0),(1,.dat (.int .i64))],qW⟩,[⟨[(0,.rp 2)],dA⟩],fun x=>ed x.1 x.2.1 x.2.2.1 x.2.2.2.1 x.2.2.2.2⟩
section
variable {E:En} {K K0 K1:Hp} {L F:List aa} {w:World}
theorem oF {v:Value} {x:Option (Int×List Int)} (hs:Sep E K (MxB.own K0 [v] x :: L) w):OT.form MxB v x∧∃ p,v = .pointer p:=by
 cases x with
 | none=>obtain rfl:=iM hs; exact ⟨.inl ⟨rfl,rfl⟩,_,rfl⟩
 | some s=>obtain ⟨b,_,_,rfl,_,_⟩:=dR hs; exact ⟨.inr ⟨_,b,rfl,rfl⟩,_,rfl⟩
theorem pM {m:List M} {bm g cap:Nat} {cols j:Int} {vr:Value} {l:List (Option (Int×List Int))} {x:Option (Int×List Int)} (h7:m.length=7) (m0:m[0]? = some (.val (pB bm))) (m1:m[1]? = some (.val (.slice (some ⟨g,0,none⟩) l.length cap))) (m2:m[2]? = some (.val vr)) (m3:m[3]? = some (.val (.int .i64 cols)))
   (hj:0≤j∧j.toNat < l.length) (hs:Sep E K1 (Cl bm 63 [.int .i64 cols,.slice (some ⟨g,0,none⟩) l.length cap] :: aV K1 MxP MxB (.slice (some ⟨g,0,none⟩) l.length cap) l j.toNat [vr] :: MxB.own K1 [vr] x :: F) w) :
   ∃ m' H,unB [0,1,2,3] dA [0,1,2,3] ⟨[⟨.sl MxB.tp,l⟩,⟨.int .i64,j⟩,⟨MxB.tp,x⟩],7,[],[]⟩=some ⟨[],10,H,[]⟩∧m <+: m'∧m'.length=10∧(∀ a∈H,HA.ok m' K1 a)∧Sep E K1 (H.map (HA.conc m')++F) w:=by
 obtain ⟨hf,p,hp0⟩:=oF (Sep.front 2 rfl hs)
 have hp:=aj m [M.cells [.int .i64 cols,.slice (some ⟨g,0,none⟩) l.length cap],M.hol K1 [vr],M.hp K1]
 obtain ⟨m',hm'⟩:∃ m',m'=m++[M.cells [.int .i64 cols,.slice (some ⟨g,0,none⟩) l.length cap],M.hol K1 [vr],M.hp K1]:=⟨_,rfl⟩
 have g0:m'[7]? = some (.cells [.int .i64 cols,.slice (some ⟨g,0,none⟩) l.length cap]):=by rw [hm',← h7]; exact aB rfl
 have g1:m'[8]? = some (.hol K1 [vr]):=by rw [hm',show (8:Nat)=m.length + 1 by rw [h7]]; exact bT (k:=1) rfl
 have g2:m'[9]? = some (.hp K1):=by rw [hm',show (9:Nat)=m.length + 2 by rw [h7]]; exact bT (k:=2) rfl
 rw [← hm'] at hp
 have n0:=ag hp m0
 have n1:=ag hp m1
 have n2:=ag hp m2
 have n3:=ag hp m3
 refine ⟨m',[.od 2 9 MxB x,.hole 1 8 MxP MxB l j [.own 2],.blk 0 7 63 [.is 3 .any,.own 1]],rfl,hp,by simp [hm',h7],fun a ha=>?_,?_⟩
 . simp only [List.mem_cons,List.not_mem_nil,or_false] at ha
   rcases ha with rfl | rfl | rfl
   . exact ⟨vr,K1,n2,g2,.inr rfl,hf⟩
   . exact ⟨_,cap,K1,[vr],n1,g1,.inr rfl,⟨_,_,rfl,⟨n2,by rw [hp0]; rfl⟩,rfl⟩,hj.1,hj.2,rfl,g,rfl⟩
   . exact ⟨bm,_,n0,g0,_,_,rfl,⟨n3,trivial⟩,_,_,rfl,⟨n1,rfl⟩,rfl⟩
 . simp only [List.map_cons,List.map_nil,HA.conc,n0,n1,n2,g0,g1,g2,List.cons_append,List.nil_append]
   exact Sep.front 2 rfl hs.swap
theorem qa {m:List M} {cols j:Int} {l:List (Option (Int×List Int))} {x:Option (Int×List Int)} (hok:∀ a∈[HA.od 2 6 MxB x,.hole 1 5 MxP MxB l j [.own 2],.blk 0 4 63 [.is 3 (.int .i64 cols),.own 1]],HA.ok m K a)
   (hs:Sep E K ([HA.od 2 6 MxB x,.hole 1 5 MxP MxB l j [.own 2],.blk 0 4 63 [.is 3 (.int .i64 cols),.own 1]].map (HA.conc m)++F) w) :
   ∃ bm g cap vr,m[0]? = some (.val (pB bm))∧m[1]? = some (.val (.slice (some ⟨g,0,none⟩) l.length cap))∧m[2]? = some (.val vr)∧m[3]? = some (.val (.int .i64 cols))∧(0≤j∧j.toNat < l.length) ∧
     Sep E K (Cl bm 63 [.int .i64 cols,.slice (some ⟨g,0,none⟩) l.length cap] :: aV K MxP MxB (.slice (some ⟨g,0,none⟩) l.length cap) l j.toNat [vr] :: MxB.own K [vr] x :: F) w:=by
 obtain ⟨vr,K2,p1,p2,p3,p4⟩:=hok (.od 2 6 MxB x) (by simp)
 obtain ⟨ad,cap,K3,es,q1,q2,q3,q4,q5,q6,q7,g,rfl⟩:=hok (.hole 1 5 MxP MxB l j [.own 2]) (by simp)
 obtain ⟨bm,vs,o1,o2,o3,o4⟩:=HA.ok_blk (hok (.blk 0 4 63 [.is 3 (.int .i64 cols),.own 1]) (by simp))
 obtain ⟨u1,q,rfl,k1,k2⟩:=ax o3
 obtain ⟨u2,q2',rfl,k3,k4⟩:=ax k2
 obtain rfl:=aA k4
 obtain rfl:u1 = .int .i64 cols:=k1.2
 have k3':=k3.1; rw [q1] at k3'; cases k3'
 obtain ⟨u3,q3',rfl,k5,k6⟩:=ax q4
 obtain rfl:=aA k6
 have k5':=k5.1; rw [p1] at k5'; cases k5'
 simp only [List.map_cons,List.map_nil,HA.conc,o1,o2,p1,p2,q1,q2,List.cons_append,List.nil_append] at hs
 refine ⟨bm,g,cap,vr,o1,q1,p1,k1.1,⟨q5,q6⟩,?_⟩
 have h1:=gm K (gx K hs).swap
 exact Sep.front 2 rfl h1
end
theorem rD:br Tryd.prog fU:=by
 intro x r hr vs u hu m K args hgk hlen hok hsl E w F hs
 obtain ⟨xb,xc,cols,l,j,x⟩:Int×Int×Int×List (Option (Int×List Int))×Int×Option (Int×List Int):=x
 obtain ⟨t,l',j',x'⟩:Bool×List (Option (Int×List Int))×Int×Option (Int×List Int):=r
 have hu':fU.inn.un (TL.list fU.inn.ts ((xb,xc,cols,l,j,x):Int×Int×Int×List (Option (Int×List Int))×Int×Option (Int×List Int))) 0=some ([(0,.ptr 0 0),(1,.int .i64 xb),(2,.int .i64 xc)],⟨[],7,[HA.od 2 6 MxB x,.hole 1 5 MxP MxB l j [.own 2],.blk 0 4 63 [.is 3 (.int .i64 cols),.own 1]],[]⟩):=rfl
 rw [show fU.inn.un (TL.list _ _) 0=_ from hu'] at hu
 cases hu
 replace hr:eh xb xc cols l j x=some (t,l',j',x'):=hr
 obtain ⟨a0,q,rfl,⟨bm',m0',rfl⟩,a1,q,rfl,h1,a2,q,rfl,h2,rfl⟩:=hsl
 obtain rfl:a1 = .int .i64 xb:=h1
 obtain rfl:a2 = .int .i64 xc:=h2
 obtain ⟨bm,g,cap,vr,m0,m1,m2,m3,hj,hs⟩:=qa hok hs
 rw [m0] at m0'; cases m0'
 unfold eh at hr
 split at hr
 . rename_i hxj
   subst hxj
   cases x with
   | none=>cases hr
   | some s =>
   simp only at hr
   obtain ⟨q,hq,hr⟩:=ob hr
   simp only [Option.some.injEq,Prod.mk.injEq] at hr
   obtain ⟨rfl,rfl,rfl,rfl⟩:=hr
   obtain ⟨jn,rfl⟩:∃ jn:Nat,xb=jn:=⟨xb.toNat,by omega⟩
   simp only [Int.toNat_natCast] at hq hs hj
   refine (sG hgk hj.2 xc hq hs).mono ?_
   rintro e w' ⟨K',vr',rfl,r1,r3,r2⟩
   obtain rfl:=r3 (by simp)
   obtain ⟨m',H,e1,e2,e3,e4,e5⟩:=pM (j:=(jn:Int)) hlen m0 m1 m2 m3 (by simpa using hj) r2
   refine ⟨_,K',_,rfl,⟨[(0,.bool q.1)],⟨[],10,H,[]⟩,m',?_,e2,e3,e4,rfl,rfl⟩,r1,e5⟩
   show Sh.un ⟨[(0,.dat .bool)],dA⟩ [⟨.bool,q.1⟩,⟨.sl MxB.tp,l⟩,⟨.int .i64,(jn:Int)⟩,⟨MxB.tp,q.2⟩] 7=_
   have:∀ H,unB [0,1,2,3] dA [0,1,2,3] ⟨[⟨.sl MxB.tp,l⟩,⟨.int .i64,(jn:Int)⟩,⟨MxB.tp,q.2⟩],7,[],[]⟩=some ⟨[],10,H,[]⟩→Sh.un ⟨[(0,.dat .bool)],dA⟩ [⟨.bool,q.1⟩,⟨.sl MxB.tp,l⟩,⟨.int .i64,(jn:Int)⟩,⟨MxB.tp,q.2⟩] 7=some ([(0,.bool q.1)],⟨[],10,H,[]⟩):=fun H h=>by cases h; rfl
   exact this H e1
 . cases hr
def rF:OkSpec Tryd.prog:=⟨fU,rD,Tryd.call62⟩
theorem rB:br Tryd.prog fS:=by
 intro x r hr vs u hu m K args hgk hlen hok hsl E w F hs
 obtain ⟨xb,cols,l,j,x⟩:Int×Int×List (Option (Int×List Int))×Int×Option (Int×List Int):=x
 obtain ⟨l',j',x'⟩:List (Option (Int×List Int))×Int×Option (Int×List Int):=r
 have hu':fS.inn.un (TL.list fS.inn.ts ((xb,cols,l,j,x):Int×Int×List (Option (Int×List Int))×Int×Option (Int×List Int))) 0=some ([(0,.ptr 0 0),(1,.int .i64 xb)],⟨[],7,[HA.od 2 6 MxB x,.hole 1 5 MxP MxB l j [.own 2],.blk 0 4 63 [.is 3 (.int .i64 cols),.own 1]],[]⟩):=rfl
 rw [show fS.inn.un (TL.list _ _) 0=_ from hu'] at hu
 cases hu
 replace hr:ed xb cols l j x=some (l',j',x'):=hr
 obtain ⟨a0,q,rfl,⟨bm',m0',rfl⟩,a1,q,rfl,h1,rfl⟩:=hsl
 obtain rfl:a1 = .int .i64 xb:=h1
 obtain ⟨bm,g,cap,vr,m0,m1,m2,m3,hj,hs⟩:=qa hok hs
 rw [m0] at m0'; cases m0'
 unfold ed at hr
 split at hr
 . rename_i hxj
   subst hxj
   simp only [Option.some.injEq,Prod.mk.injEq] at hr
   obtain ⟨rfl,rfl,rfl⟩:=hr
   obtain ⟨jn,rfl⟩:∃ jn:Nat,xb=jn:=⟨xb.toNat,by omega⟩
   simp only [Int.toNat_natCast] at hs hj
   obtain ⟨hf,p,rfl⟩:=oF (Sep.front 2 rfl hs)
   have hc:w.cell? ⟨bm',1,none⟩=some (.slice (some ⟨g,0,none⟩) l.length cap):=by
     have hcl:=hs.cl
     simp [World.cell?,hcl]
   have hcj:w.cell? ⟨g,jn,none⟩=some (.pointer p):=by
     obtain ⟨cs,R,q1,q2,q3,_⟩:=qL hj.2 hs.swap
     exact (dP q3 jn _ q2).1
   refine (je bm' g l.length cap w hc hj.2 hcj).mono ?_
   rintro e w' ⟨rfl,rfl⟩
   obtain ⟨m',H,e1,e2,e3,e4,e5⟩:=pM (j:=(jn:Int)) hlen m0 m1 m2 m3 (by simpa using hj) hs
   refine ⟨_,K,_,rfl,⟨[(0,.own 2)],⟨[],10,H,[]⟩,m',?_,e2,e3,e4,⟨ag e2 m2,rfl⟩,rfl⟩,Hp.le_refl K,e5⟩
   have:∀ H,unB [0,1,2,3] dA [0,1,2,3] ⟨[⟨.sl MxB.tp,l⟩,⟨.int .i64,(jn:Int)⟩,⟨MxB.tp,x⟩],7,[],[]⟩=some ⟨[],10,H,[]⟩→Sh.un ⟨[(0,.rp 2)],dA⟩ [⟨.sl MxB.tp,l⟩,⟨.int .i64,(jn:Int)⟩,⟨MxB.tp,x⟩] 7=some ([(0,.own 2)],⟨[],10,H,[]⟩):=fun H h=>by cases h; rfl
   exact this H e1
 . cases hr
def rC:OkSpec Tryd.prog:=⟨fS,rB,Tryd.call44⟩
def mO:Spec:=⟨61,⟨[(0,.rp 0)],[⟨none,0,[],false,true,none,false⟩]⟩,[⟨[(0,.fn 71 [.ptr 1 0])],[⟨some 0,0,[],false,true,none,false⟩,⟨none,MxP,[.rp 0],false,false,none,false⟩]⟩],fun _=>some ()⟩
theorem rH:br Tryd.prog mO:=ar Tryd.func61 .nil (by kernel_rfl) (by kernel_rfl)
def rJ:OkSpec Tryd.prog:=⟨mO,rH,Tryd.call61⟩
def gX (xb qa0:Int):(Int×Bool×List (Option (Int×List Int))×Int×Option (Int×List Int))→Option ((Int×Bool×List (Option (Int×List Int))×Int×Option (Int×List Int))⊕(Bool×List (Option (Int×List Int))×Int×Option (Int×List Int))):=fun s =>
 cond (decide (0≤s.1)) ((eh xb s.1 qa0 s.2.2.1 s.2.2.2.1 s.2.2.2.2).bind fun q=>cond q.1
   ((bK q.2.2.2 (IntKind.wrap .i64 (s.1 + 1))).bind fun i=>some (.inl (i,true,q.2.1,q.2.2.1,q.2.2.2)))
   ((bK q.2.2.2 (IntKind.wrap .i64 (s.1 + 1))).bind fun i=>some (.inl (i,s.2.1,q.2.1,q.2.2.1,q.2.2.2))))
 (some (.inr (s.2.1,s.2.2.1,s.2.2.2.1,s.2.2.2.2)))
def hO (xb:Int) (qa0:Int) (qa1:(List (Option (Int×(List Int))))):Option ((Bool×(List (Option (Int×(List Int)))))) :=
 (ae qa1 xb).bind fun x=>(ed xb qa0 qa1 xb x).bind fun q=>(some ()).bind fun _=>(bK q.2.2 0).bind fun i =>
   (loop (gX xb qa0) (i,false,q.1,q.2.1,q.2.2):Option (Bool×List (Option (Int×List Int))×Int×Option (Int×List Int))).bind fun z=>some (z.1,z.2.1.set z.2.2.1.toNat z.2.2.2)
def mM:Spec:=⟨41,⟨[(0,.ptr 0 0),(1,.dat (.int .i64))],[⟨none,63,[.is 1 (.dat (.int .i64)),.od MxM],false,false,none,false⟩,⟨none,0,[],false,true,none,false⟩]⟩,[⟨[(0,.dat .bool)],[⟨(some 0),63,[.is 1 (.any),.od MxM],false,false,none,false⟩,⟨(some 1),0,[],false,true,none,false⟩]⟩],fun x=>hO x.1 x.2.1 x.2.2⟩
abbrev mxW:List Bk:=[⟨some 11,4,[.dat .bool],false,false,none,false⟩,⟨some 22,0,[],false,false,none,true⟩,⟨some 0,63,[.is 5 .any,.rp 3],false,false,none,false⟩,⟨some 2,MxP,[.rp 4],true,false,some MxB,false⟩,⟨some 6,0,[],false,false,some MxB,false⟩,⟨some 1,0,[],false,true,none,false⟩]
def ru:Hn Tryd.prog := .opn 2 1000001 (.cl rC [] (.cl rJ [] (.rg ⟨71,_,Tryd.func71,Tryd.call71⟩ (.cl gW [6]
 (.jn [] ⟨[],mxW⟩ [22,11,0,2,6] (.lp ⟨[(3,.dat (.int .i64))],mxW⟩ (.tw 7 (.yl 2 (.cl rF [] (.tw 15 (.cl gW [6] (.nil)) (.cl gW [6] (.nil))))) (.nil))) (.cls 2 25 (.nil)))))))
theorem rq:br Tryd.prog mM:=ar Tryd.func41 ru (by kernel_rfl) (by kernel_rfl)
def ro:OkSpec Tryd.prog:=⟨mM,rq,Tryd.call41⟩
end
section
open Go.RowKit _root_.Go.Proofs.Tryd
def g9 (qa0:Int) (i1:Int):(List Tq3)→Option ((List Tq3)⊕(List Tq3)):=fun l2=>(hO i1 qa0 l2).bind fun (t3,l4)=>cond (t3) (some (.inl l4)) (some (.inr (l4)))
def gZ (qa0:Int) (i1:Int):(Int×(List Tq3))→Option ((Int×(List Tq3))⊕(List Tq3)):=fun (i2,l3)=>cond (decide (i2 < i1)) ((loop (g9 qa0 i2) l3).bind fun l4=>some (.inl ((IntKind.wrap .i64 (i2 + 1),l4)))) (some (.inr (l3)))
def hP (qa0:Int) (qa1:(List Tq3)):Option ((Int×(List Tq3))) :=
 (cE qa0 qa1).bind fun (i2,l3)=>(j7 qa0 l3).bind fun (i4,l5)=>cond (!decide (i2=i4)) (some ((0,l5))) ((fN qa0 l5).bind fun (i6,l7)=>(cE qa0 l7).bind fun (i8,l9)=>(loop (gZ qa0 i8) (0,l9)).bind fun l10=>(fN qa0 l10).bind fun (i11,l12)=>some ((IntKind.wrap .i64 (i11 - i6),l12)))
def yD:Hn Tryd.prog := .cl oQ4 [] (.cl yS [] (.tw 9 .nil (.cl rm [] (.cl oQ4 [] (.jn [] ⟨[],[bkC 0 63 [.is 1 (.any),.od (.row 64 (.box 83 (.cons (.dat Yq1) (.one (.row 78 (.dat Yq3))))))],bkU 1]⟩ [0,26] (.lp ⟨[kdI 14],[bkC 0 63 [.is 1 (.any),.od (.row 64 (.box 83 (.cons (.dat Yq1) (.one (.row 78 (.dat Yq3))))))],bkU 1]⟩ (.tw 15 (.pl (.pl (.jn [] ⟨[],[bkC 0 63 [.is 1 (.any),.od (.row 64 (.box 83 (.cons (.dat Yq1) (.one (.row 78 (.dat Yq3))))))],bkU 1]⟩ [0,29] (.lp ⟨[],[bkC 0 63 [.is 1 (.any),.od (.row 64 (.box 83 (.cons (.dat Yq1) (.one (.row 78 (.dat Yq3))))))],bkU 1]⟩ (.cl ro [] (.tw 19 .nil .nil))) .nil))) .nil)) (.cl rm [] .nil))))))
def xt:Spec:=⟨26,⟨[(0,.ptr 0 0)],[bkN 63 [.is 1 (.dat Yq1),.od (.row 64 (.box 83 (.cons (.dat Yq1) (.one (.row 78 (.dat Yq3))))))],bkM]⟩,[⟨[kdI 0],[bkC 0 63 [.is 1 (.any),.od (.row 64 (.box 83 (.cons (.dat Yq1) (.one (.row 78 (.dat Yq3))))))],bkU 1]⟩],fun x=>hP x.1 x.2⟩
def yJ:OkSpec Tryd.prog:=⟨xt,ar func26 yD (by kernel_rfl) (by kernel_rfl),call26⟩
def ir (xa:Int) (xb:Tq4):Tq6→Option (Tq6⊕((List Int)×Tq2×Tq1)):=fun (i1,l2,l3,l4)=>cond (decide (i1 < (xb.length:Int))) ((ae xb i1).bind fun x5=>(bZ x5.1 xa l2 l3 l4).bind fun (t6,l7,l8,l9)=>cond (t6) ((bZ x5.2 xa l7 l8 l9).bind fun (t10,l11,l12,l13)=>cond (t10) ((fO x5.1 xa l11 l12 l13).bind fun (l14,l15,l16)=>(fO x5.2 xa l14 l15 l16).bind fun (l17,l18,l19)=>some (.inl ((IntKind.wrap .i64 (i1 + 1),l17,l18,l19)))) (some (.inl ((IntKind.wrap .i64 (i1 + 1),l11,l12,l13))))) (some (.inl ((IntKind.wrap .i64 (i1 + 1),l7,l8,l9))))) (some (.inr (((l2,l3,l4)))))
def iq (l1:List Int):(Int×Tq2)→Option ((Int×Tq2)⊕Tq2):=fun (i2,l3)=>cond (decide (i2 < (l1.length:Int))) ((ae l1 i2).bind fun x4=>l3.bind fun y5=>some (.inl ((IntKind.wrap .i64 (i2 + 1),(some (bI x4 i2 y5):Tq2))))) (some (.inr (l3)))
def iu (xa:Int) (xb:Tq4):Tq6→Option (Tq6⊕((List Int)×Tq2×Tq1)):=fun (i1,l2,l3,l4)=>cond (decide (i1 < (xb.length:Int))) ((ae xb i1).bind fun x5=>(bZ x5.1 xa l2 l3 l4).bind fun (t6,l7,l8,l9)=>cond (t6) ((bZ x5.2 xa l7 l8 l9).bind fun (t10,l11,l12,l13)=>cond (t10) (l12.bind fun y14=>l12.bind fun y15=>(l13).bind fun y16=>(fP (aH x5.1 y14) (aH x5.2 y15) y16.1 y16.2).bind fun (t17,l18)=>some (.inl ((IntKind.wrap .i64 (i1 + 1),l11,l12,some (y16.1,l18))))) (some (.inl ((IntKind.wrap .i64 (i1 + 1),l11,l12,l13))))) (some (.inl ((IntKind.wrap .i64 (i1 + 1),l7,l8,l9))))) (some (.inr (((l2,l3,l4)))))
def cH (xa:Int) (xb:Tq4):Option (Tq6) :=
 cond ((decide (xa < 0))||(decide (65536 < xa))) (some ((0,[],none,none))) ((loop (ir xa xb) ((0,[],(some []:Tq2),none))).bind fun (l1,l2,l3)=>(srt l1).bind fun l4=>(loop (iq l4) (0,l2)).bind fun l5=>(((f8 (l4.length:Int) (l4.length:Int)).bind fun o=>match o with | .inl i6=>some (none) | .inr (i7,i8,l9)=>some (some (i8,l9))).bind fun x10=>((f8 (l4.length:Int) (l4.length:Int)).bind fun o=>match o with | .inl i11=>some (none) | .inr (i12,i13,l14)=>some (some (i13,l14))).bind fun y15=>agr x10 y15 (some x10):Option (Tq1)).bind fun l16=>(loop (iu xa xb) (0,l4,l5,l16)).bind fun (l17,l18,l19)=>(l19).bind fun y20=>(hP y20.1 y20.2).bind fun (i21,l22)=>some ((xa,l17,l18,some (y20.1,l22))))
def xz:Hn Tryd.prog := .gp 2 (.tw 17 .nil (.ot (.obj 0 Yq2) (.jn [(2,0)] ⟨[],[bkC 2 47 [.is 1 (.any),.own 3 Yq1,.od (.obj 0 Yq2),.od (.box 63 (.cons (.dat Yq1) (.one (.row 64 (.box 83 (.cons (.dat Yq1) (.one (.row 78 (.dat Yq3)))))))))],bkU 4]⟩ [2,0] (.lp ⟨[kdI 26],[bkC 2 47 [.is 1 (.any),.own 3 Yq1,.od (.obj 0 Yq2),.od (.box 63 (.cons (.dat Yq1) (.one (.row 64 (.box 83 (.cons (.dat Yq1) (.one (.row 78 (.dat Yq3)))))))))],bkU 4]⟩ (.tw 27 (.cl oQ2 [] (.two 34 (.cl oQ2 [] (.tw 39 (.cl oQ0 [] (.cl oQ0 [] .nil)) .nil)) .nil)) .nil)) (.cl pC [] (.jn [] ⟨[],[bkO 7 (.obj 0 Yq2)]⟩ [7] (.lp ⟨[kdI 59],[bkO 7 (.obj 0 Yq2)]⟩ (.tw 60 .nil .nil)) (.mc 2 1 11 (.mc 2 2 11 (.tr (.still [0,1,2,3,6,7,8] (.alt 4 (.still [5] (.alt 9 (.still [10] (.alt 11 (.still [12,13,14,15,16] (.alt 17 (.leaf []) .done)) .done)) .done)) (.alt 9 (.still [10] (.alt 4 (.still [5] (.alt 11 (.still [12,13,14,15,16] (.alt 17 (.leaf []) .done)) .done)) .done)) .done))) ⟨[],[bkC 2 47 [.is 1 (.any),.is 2 (.any),.is 3 (.any),.od (.box 63 (.cons (.dat Yq1) (.one (.row 64 (.box 83 (.cons (.dat Yq1) (.one (.row 78 (.dat Yq3)))))))))],bkU 4,bkU 15,bkU 16]⟩ [2] (.two 0 (.c2 oQ3 [] .nil .nil) (.c2 oQ3 [] .nil .nil)) (.jn [] ⟨[],[bkC 2 47 [.is 1 (.any),.own 3 Yq1,.od (.obj 0 Yq2),.od (.box 63 (.cons (.dat Yq1) (.one (.row 64 (.box 83 (.cons (.dat Yq1) (.one (.row 78 (.dat Yq3)))))))))],bkU 4]⟩ [2,7,5,17,9] (.lp ⟨[kdI 90],[bkC 2 47 [.is 1 (.any),.own 3 Yq1,.od (.obj 0 Yq2),.od (.box 63 (.cons (.dat Yq1) (.one (.row 64 (.box 83 (.cons (.dat Yq1) (.one (.row 78 (.dat Yq3)))))))))],bkU 4]⟩ (.tw 91 (.cl oQ2 [] (.two 98 (.cl oQ2 [] (.tw 103 (.mix [] [0,1,2,3,4,5,6,7,8,9,10,11,12,13,14,15,16,17] [18] [] (.wt 121 (.opb 55 56 (.wt 1000060 (.mc 55 0 58 (.cl xv [] .nil)))))) .nil)) .nil)) .nil)) (.wt 127 (.opb 24 25 (.wt 1000029 (.mc 24 0 27 (.cl yJ [] .nil))))))))))))))
def yL:Spec:=⟨7,⟨[kdI 0,(1,.dat Yq2)],[]⟩,[⟨[(0,.ptr 0 0)],[bkN 47 [.dat Yq1,.own 3 Yq1,.od (.obj 0 Yq2),.od (.box 63 (.cons (.dat Yq1) (.one (.row 64 (.box 83 (.cons (.dat Yq1) (.one (.row 78 (.dat Yq3)))))))))]]⟩],fun x=>cH x.1 x.2⟩
def rb:OkSpec Tryd.prog:=⟨yL,ar func7 xz (by kernel_rfl) (by kernel_rfl),call7⟩

def j9 (xa:Tq1):Option Int :=
 cond (xa.isNone) (some (0)) (xa.bind fun y14=>some (y14.2.length:Int))
def yo:Hn Tryd.prog := .tw 4 .nil .nil
def xJ:Spec:=⟨38,⟨[(0,.dat (.ptr (.cons Yq1 (.one (.sl Yq4)))))],[]⟩,[⟨[kdI 0],[]⟩],fun x=>j9 x⟩
def yM:OkSpec Tryd.prog:=⟨xJ,ar func38 yo (by kernel_rfl) (by kernel_rfl),call38⟩

def j8 (xa:Tq1) (xb:Int):Option Bool :=
 (cond (decide (0≤xb)) ((j9 xa).bind fun i28=>some (decide (xb < i28))) (some (false))).bind fun t24=>some (t24)
def yR:Hn Tryd.prog := .gj 4 ⟨[kdB 12],[]⟩ [] (.two 7 (.cl yM [] .nil) .nil) .nil
def yQ:Spec:=⟨35,⟨[(0,.dat (.ptr (.cons Yq1 (.one (.sl Yq4))))),kdI 1],[]⟩,[⟨[kdB 0],[]⟩],fun x=>j8 x.1 x.2⟩
def yg:OkSpec Tryd.prog:=⟨yQ,ar func35 yR (by kernel_rfl) (by kernel_rfl),call35⟩

def fX (xa:Tq1) (xb:Int):Option (Tq3) :=
 (j8 xa xb).bind fun t36=>cond (!t36) (some (none)) (xa.bind fun y41=>(ae y41.2 xb).bind fun x51=>some (x51))
def ym:Hn Tryd.prog := .cl yg [] (.tw 8 .nil .nil)
def xY:Spec:=⟨44,⟨[(0,.dat (.ptr (.cons Yq1 (.one (.sl Yq4))))),kdI 1],[]⟩,[⟨[(0,.dat Yq4)],[]⟩],fun x=>fX x.1 x.2⟩
def qX:OkSpec Tryd.prog:=⟨xY,ar func44 ym (by kernel_rfl) (by kernel_rfl),call44⟩

def ia (xa:Tq1) (xb:Int) (xc:Int):Option Bool :=
 (fX xa xb).bind fun p18=>(cF p18 xc).bind fun t26=>some (t26)
def xj:Hn Tryd.prog := .cl qX [] (.cl oQ9 [] .nil)
def xA:Spec:=⟨42,⟨[(0,.dat (.ptr (.cons Yq1 (.one (.sl Yq4))))),kdI 1,kdI 2],[]⟩,[⟨[kdB 0],[]⟩],fun x=>ia x.1 x.2.1 x.2.2⟩
def ya:OkSpec Tryd.prog:=⟨xA,ar func42 xj (by kernel_rfl) (by kernel_rfl),call42⟩

def fJ (xb:Int) (xc:Int) (qa0:Int) (qa1:(List Int)) (qa2:Tq2) (qa3:Tq1):Option Tq7 :=
 qa2.bind fun y50=>qa2.bind fun y52=>(cond (((az xb y50 0).isSome)&&((az xc y52 0).isSome)) ((ia qa3 (aH xb y50) (aH xc y52)).bind fun t83=>some (t83)) (some (false))).bind fun t79=>some ((t79,qa1,qa2,qa3))
def yz:Hn Tryd.prog := .gp 1 (.wt 33 (.gj 7 ⟨[kdB 41],[]⟩ [] (.two 33 (.cl ya [6] .nil) .nil) .nil))
def xG:Spec:=⟨28,⟨[(0,.ptr 0 0),kdI 1,kdI 2],[bkN 47 [.is 1 (.dat Yq1),.own 3 Yq1,.od (.obj 0 Yq2),.od (.box 63 (.cons (.dat Yq1) (.one (.row 64 (.box 83 (.cons (.dat Yq1) (.one (.row 78 (.dat Yq3)))))))))],bkM]⟩,[⟨[kdB 0],[bkC 0 47 [.is 1 (.any),.own 3 Yq1,.od (.obj 0 Yq2),.od (.box 63 (.cons (.dat Yq1) (.one (.row 64 (.box 83 (.cons (.dat Yq1) (.one (.row 78 (.dat Yq3)))))))))],bkU 1]⟩],fun x=>fJ x.1 x.2.1 x.2.2.1 x.2.2.2.1 x.2.2.2.2.1 x.2.2.2.2.2⟩
def rn:OkSpec Tryd.prog:=⟨xG,ar func28 yz (by kernel_rfl) (by kernel_rfl),call28⟩

def fH (xb:Int) (qa0:Int) (qa1:(List Int)) (qa2:Tq2) (qa3:Tq1):Option Tq7 :=
 cond (decide (xb=0)) (some ((true,qa1,qa2,qa3))) ((fJ xb 0 qa0 qa1 qa2 qa3).bind fun (t4,l5,l6,l7)=>some ((t4,l5,l6,l7)))
def xw:Hn Tryd.prog := .two 7 .nil (.cl rn [] .nil)
def yP:Spec:=⟨27,⟨[(0,.ptr 0 0),kdI 1],[bkN 47 [.is 1 (.dat Yq1),.own 3 Yq1,.od (.obj 0 Yq2),.od (.box 63 (.cons (.dat Yq1) (.one (.row 64 (.box 83 (.cons (.dat Yq1) (.one (.row 78 (.dat Yq3)))))))))],bkM]⟩,[⟨[kdB 0],[bkC 0 47 [.is 1 (.any),.own 3 Yq1,.od (.obj 0 Yq2),.od (.box 63 (.cons (.dat Yq1) (.one (.row 64 (.box 83 (.cons (.dat Yq1) (.one (.row 78 (.dat Yq3)))))))))],bkU 1]⟩],fun x=>fH x.1 x.2.1 x.2.2.1 x.2.2.2.1 x.2.2.2.2⟩
def rk:OkSpec Tryd.prog:=⟨yP,ar func27 xw (by kernel_rfl) (by kernel_rfl),call27⟩

def bA (xb:Int) (xc:Int) (qa0:Int) (qa1:(List Int)) (qa2:Tq2) (qa3:Tq1):Option Tq7 :=
 (bZ xb qa0 qa1 qa2 qa3).bind fun (t4,l5,l6,l7)=>cond (t4) ((bZ xc qa0 l5 l6 l7).bind fun (t8,l9,l10,l11)=>cond (t8) (cond (decide (xb=xc)) (some ((true,l9,l10,l11))) ((fH xb qa0 l9 l10 l11).bind fun (t12,l13,l14,l15)=>cond (t12) (some ((true,l13,l14,l15))) ((fJ xb xc qa0 l13 l14 l15).bind fun (t16,l17,l18,l19)=>some ((t16,l17,l18,l19))))) (some ((false,l9,l10,l11)))) (some ((false,l5,l6,l7)))
def yr:Hn Tryd.prog := .cl oQ2 [] (.two 10 (.cl oQ2 [] (.two 15 (.two 19 .nil (.cl rk [] (.two 24 .nil (.cl rn [] .nil)))) .nil)) .nil)
def yn:Spec:=⟨10,⟨[(0,.ptr 0 0),kdI 1,kdI 2],[bkN 47 [.is 1 (.dat Yq1),.own 3 Yq1,.od (.obj 0 Yq2),.od (.box 63 (.cons (.dat Yq1) (.one (.row 64 (.box 83 (.cons (.dat Yq1) (.one (.row 78 (.dat Yq3)))))))))],bkM]⟩,[⟨[kdB 0],[bkC 0 47 [.is 1 (.any),.own 3 Yq1,.od (.obj 0 Yq2),.od (.box 63 (.cons (.dat Yq1) (.one (.row 64 (.box 83 (.cons (.dat Yq1) (.one (.row 78 (.dat Yq3)))))))))],bkU 1]⟩],fun x=>bA x.1 x.2.1 x.2.2.1 x.2.2.2.1 x.2.2.2.2.1 x.2.2.2.2.2⟩
def dG:OkSpec Tryd.prog:=⟨yn,ar func10 yr (by kernel_rfl) (by kernel_rfl),call10⟩

def ie (xa:Tq3):Option Unit :=
 some (())
def yO:Hn Tryd.prog := .nil
def yG:Spec:=⟨61,⟨[(0,.is 0 (.dat Yq4))],[bkM]⟩,[⟨[(0,.fn 71 [.ptr 0 0])],[bkN 64 [.is 1 (.any)],bkU 0]⟩],fun x=>ie x⟩
def xO:OkSpec Tryd.prog:=⟨yG,ar func61 yO (by kernel_rfl) (by kernel_rfl),call61⟩
def fV (xa:Tq3):(Int×(List Int))→Option ((Int×(List Int))⊕(List Int)):=fun (i1,l2)=>cond (decide (0≤i1)) ((app l2 ([i1]:List Int)).bind fun z3=>(bK xa (IntKind.wrap .i64 (i1 + 1))).bind fun i4=>some (.inl (i4,z3))) (some (.inr (l2)))
def fZ (xa:Tq3):Option (List Int) :=
 (ie xa).bind fun _=>(bK xa 0).bind fun i1=>(loop (fV xa) (i1,[])).bind fun l2=>some (l2)
def yE:Hn Tryd.prog := .ms 5 (.cl xO [] (.rg ⟨71,_,func71,call71⟩ (.cl gW [] (.jn [] ⟨[],[bkC 0 36 [.own 3 Yq1],⟨(some 5),0,[],false,false,none,true⟩]⟩ [5,0] (.lp ⟨[kdI 3],[bkC 0 36 [.own 3 Yq1],⟨(some 5),0,[],false,false,none,true⟩]⟩ (.tw 7 (.yl 2 (.cl gW [] .nil)) .nil)) .nil))))
def w9:Spec:=⟨45,⟨[(0,.dat Yq4)],[]⟩,[⟨[(0,.own 3 Yq1)],[]⟩],fun x=>fZ x⟩
def yI:OkSpec Tryd.prog:=⟨w9,ar func45 yE (by kernel_rfl) (by kernel_rfl),call45⟩

def fW (xa:Tq1) (xb:Int):Option (List Int) :=
 (fX xa xb).bind fun p26=>(fZ p26).bind fun l34=>some (l34)
def yH:Hn Tryd.prog := .cl qX [] (.cl yI [] .nil)
def xS:Spec:=⟨31,⟨[(0,.dat (.ptr (.cons Yq1 (.one (.sl Yq4))))),kdI 1],[]⟩,[⟨[(0,.own 3 Yq1)],[]⟩],fun x=>fW x.1 x.2⟩
def xQ:OkSpec Tryd.prog:=⟨xS,ar func31 yH (by kernel_rfl) (by kernel_rfl),call31⟩
def gY (qa0:Int):((List Int)×Int)→Option (((List Int)×Int)⊕(List Int)):=fun (l1,i2)=>cond (decide (i2 < qa0)) ((app l1 ([i2]:List Int)).bind fun z3=>some (.inl ((z3,IntKind.wrap .i64 (i2 + 1))))) (some (.inr (l1)))
def d7 (l1:(List Int)) (l2:(List Int)):((List Int)×Int)→Option (((List Int)×Int)⊕(List Int)):=fun (l3,i4)=>cond (decide (i4 < (l2.length:Int))) ((ae l2 i4).bind fun x5=>(ae l1 x5).bind fun x6=>(app l3 ([x6]:List Int)).bind fun z7=>some (.inl ((z7,IntKind.wrap .i64 (i4 + 1))))) (some (.inr (l3)))
def c9 (xb:Int) (qa0:Int) (qa1:(List Int)) (qa2:Tq2) (qa3:Tq1):Option (((List Int)×(List Int)×Tq2×Tq1)) :=
 (bZ xb qa0 qa1 qa2 qa3).bind fun (t4,l5,l6,l7)=>cond (!t4) (some (([],l5,l6,l7))) ((fH xb qa0 l5 l6 l7).bind fun (t8,l9,l10,l11)=>cond (t8) ((loop (gY qa0) ([],0)).bind fun l12=>some ((l12,l9,l10,l11))) ((l10.bind fun y13=>cond ((az xb y13 0).isSome) ((fW l11 (aH xb y13)).bind fun l14=>(loop (d7 l9 l14) ([],0)).bind fun l15=>some (l15)) (some ([])):Option (List Int)).bind fun l16=>(app l16 ([xb]:List Int)).bind fun z17=>(srt z17).bind fun l18=>(jX l18).bind fun l19=>some ((l19,l9,l10,l11))))
def xZ:Hn Tryd.prog := .cl oQ2 [] (.tw 14 .nil (.cl rk [] (.tw 17 (.jn [] ⟨[(5,.own 3 Yq1)],[]⟩ [] (.lp ⟨[(5,.own 3 Yq1),kdI 22],[]⟩ (.tw 23 .nil .nil)) .nil) (.sq [] ⟨[(5,.own 3 Yq1)],[]⟩ [] (.tw 40 (.cl xQ [34] (.jn [] ⟨[(5,.own 3 Yq1)],[]⟩ [] (.lp ⟨[(5,.own 3 Yq1),kdI 48],[]⟩ (.tw 49 .nil .nil)) .nil)) .nil) (.cl pC [] (.cl sA [] .nil))))))
def xm:Spec:=⟨19,⟨[(0,.ptr 0 0),kdI 1],[bkN 47 [.is 1 (.dat Yq1),.own 3 Yq1,.od (.obj 0 Yq2),.od (.box 63 (.cons (.dat Yq1) (.one (.row 64 (.box 83 (.cons (.dat Yq1) (.one (.row 78 (.dat Yq3)))))))))],bkM]⟩,[⟨[(0,.own 3 Yq1)],[bkC 0 47 [.is 1 (.any),.own 3 Yq1,.od (.obj 0 Yq2),.od (.box 63 (.cons (.dat Yq1) (.one (.row 64 (.box 83 (.cons (.dat Yq1) (.one (.row 78 (.dat Yq3)))))))))],bkU 1]⟩],fun x=>c9 x.1 x.2.1 x.2.2.1 x.2.2.2.1 x.2.2.2.2⟩
def qU:OkSpec Tryd.prog:=⟨xm,ar func19 xZ (by kernel_rfl) (by kernel_rfl),call19⟩
def fI (i1:Int) (l2:(List Int)):(Tq4×Int)→Option ((Tq4×Int)⊕Tq4):=fun (l3,i4)=>cond (decide (i4 < (l2.length:Int))) ((ae l2 i4).bind fun x5=>cond (!decide (x5=i1)) ((app l3 (([(i1,x5)]:List (Int×Int)))).bind fun z6=>some (.inl ((z6,IntKind.wrap .i64 (i4 + 1))))) (some (.inl ((l3,IntKind.wrap .i64 (i4 + 1)))))) (some (.inr (l3)))
def j5 (qa0:Int):(Tq4×Int×(List Int)×Tq2×Tq1)→Option ((Tq4×Int×(List Int)×Tq2×Tq1)⊕(Tq4×(List Int)×Tq2×Tq1)):=fun (l1,i2,l3,l4,l5)=>(dH qa0 l3 l4 l5).bind fun (i6,l7,l8,l9)=>cond (decide (i2 < i6)) ((c9 i2 qa0 l7 l8 l9).bind fun (l10,l11,l12,l13)=>(loop (fI i2 l10) (l1,0)).bind fun l14=>some (.inl ((l14,IntKind.wrap .i64 (i2 + 1),l11,l12,l13)))) (some (.inr (((l1,l7,l8,l9)))))
def d9 (qa0:Int) (qa1:(List Int)) (qa2:Tq2) (qa3:Tq1):Option ((Tq4×(List Int)×Tq2×Tq1)) :=
 (loop (j5 qa0) ([],1,qa1,qa2,qa3)).bind fun (l4,l5,l6,l7)=>some ((l4,l5,l6,l7))
def xx:Hn Tryd.prog := .jn [] ⟨[(3,.own 43 Yq5)],[bkC 0 47 [.is 1 (.any),.own 3 Yq1,.od (.obj 0 Yq2),.od (.box 63 (.cons (.dat Yq1) (.one (.row 64 (.box 83 (.cons (.dat Yq1) (.one (.row 78 (.dat Yq3)))))))))],bkU 1]⟩ [2,0,4,6] (.lp ⟨[(3,.own 43 Yq5),kdI 4],[bkC 0 47 [.is 1 (.any),.own 3 Yq1,.od (.obj 0 Yq2),.od (.box 63 (.cons (.dat Yq1) (.one (.row 64 (.box 83 (.cons (.dat Yq1) (.one (.row 78 (.dat Yq3)))))))))],bkU 1]⟩ (.cl oQ1 [] (.tw 10 (.cl qU [] (.jn [] ⟨[(3,.own 43 Yq5)],[]⟩ [9] (.lp ⟨[(3,.own 43 Yq5),kdI 17],[]⟩ (.tw 18 (.tw 23 .nil .nil) .nil)) .nil)) .nil))) .nil
def xK:Spec:=⟨16,⟨[(0,.ptr 0 0)],[bkN 47 [.is 1 (.dat Yq1),.own 3 Yq1,.od (.obj 0 Yq2),.od (.box 63 (.cons (.dat Yq1) (.one (.row 64 (.box 83 (.cons (.dat Yq1) (.one (.row 78 (.dat Yq3)))))))))],bkM]⟩,[⟨[(0,.own 43 Yq5)],[bkC 0 47 [.is 1 (.any),.own 3 Yq1,.od (.obj 0 Yq2),.od (.box 63 (.cons (.dat Yq1) (.one (.row 64 (.box 83 (.cons (.dat Yq1) (.one (.row 78 (.dat Yq3)))))))))],bkU 1]⟩],fun x=>d9 x.1 x.2.1 x.2.2.1 x.2.2.2⟩
def rf:OkSpec Tryd.prog:=⟨xK,ar func16 xx (by kernel_rfl) (by kernel_rfl),call16⟩
def ib (xa:Tq4) (xb:Tq4):Int→Option (Int⊕(Unit⊕Bool)):=fun i1=>cond (decide (i1 < (xa.length:Int))) ((ae xa i1).bind fun x2=>(ae xb i1).bind fun x3=>cond (!((decide (x2.1=x3.1))&&((decide (x2.2=x3.2))))) (some (.inr ((.inr (false))))) (some (.inl (IntKind.wrap .i64 (i1 + 1))))) (some (.inr ((.inl ()))))
def en (xa:Tq4) (xb:Tq4):Option Bool :=
 cond (!decide ((xa.length:Int)=(xb.length:Int))) (some (false)) ((loop (ib xa xb) 0).bind fun o=>match o with | .inr r=>some r | .inl ()=>some (true))
def yp:Hn Tryd.prog := .tw 10 .nil (.jx [] ⟨[],[]⟩ [] (.lp ⟨[kdI 5],[]⟩ (.tw 14 (.mix [] [0,1,2,3,4,5,6,7,8] [] [] (.tw 25 .nil .nil)) .nil)) .nil)
def xT:Spec:=⟨15,⟨[(0,.dat Yq2),(1,.dat Yq2)],[]⟩,[⟨[kdB 0],[]⟩],fun x=>en x.1 x.2⟩
def qV:OkSpec Tryd.prog:=⟨xT,ar func15 yp (by kernel_rfl) (by kernel_rfl),call15⟩

def eo  : Option Bool :=
 (cH 4 (([(1,2),(2,3)]:List (Int×Int)))).bind fun (i1,l2,l3,l4)=>(bA 1 3 i1 l2 l3 l4).bind fun (t5,l6,l7,l8)=>cond (t5) ((bA 3 1 i1 l6 l7 l8).bind fun (t9,l10,l11,l12)=>cond (!t9) ((bA 0 3 i1 l10 l11 l12).bind fun (t13,l14,l15,l16)=>cond (t13) ((d9 i1 l14 l15 l16).bind fun (l17,l18,l19,l20)=>(en l17 (([(1,2),(1,3),(2,3)]:List (Int×Int)))).bind fun t21=>some (t21)) (some (false))) (some (false))) (some (false))
def rZ:Hn Tryd.prog := .per 0 1 (.cl rb [] (.mc 2 0 9 (.cl dG [] (.two 8 (.cl dG [] (.two 13 (.cl dG [] (.two 17 (.cl rf [] (.cl qV [60,69] .nil)) .nil)) .nil)) .nil))))
def mS:Spec:=⟨6,⟨[],[]⟩,[⟨[kdB 0],[]⟩],fun x=>eo⟩
theorem rR:br Tryd.prog mS:=ar func6 rZ (by kernel_rfl) (by kernel_rfl)
def mT:OkSpec Tryd.prog:=⟨mS,rR,call6⟩
def ip (xb:Tq4) (i1:Int) (i2:Int):(Int×Int)→Option ((Int×Int)⊕Int):=fun (i3,i4)=>cond (decide (i4 < (xb.length:Int))) ((ae xb i4).bind fun x5=>(cond (decide (x5.1=i1)) ((ae xb i4).bind fun x6=>some (decide (x6.2=i2))) (some (false))).bind fun t7=>cond (t7) (some (.inl ((1,IntKind.wrap .i64 (i4 + 1))))) (some (.inl ((i3,IntKind.wrap .i64 (i4 + 1)))))) (some (.inr (i3)))
def ij (xa:Int) (xb:Tq4) (i1:Int):((List Int)×Int)→Option (((List Int)×Int)⊕(List Int)):=fun (l2,i3)=>cond (decide (i3 < xa)) ((cond ((decide (i1=i3))||(decide (i1=0))) (some (1)) (some (0)):Option Int).bind fun i4=>(loop (ip xb i1 i3) (i4,0)).bind fun i5=>(app l2 ([i5]:List Int)).bind fun z6=>some (.inl ((z6,IntKind.wrap .i64 (i3 + 1))))) (some (.inr (l2)))
def f7 (xa:Int) (xb:Tq4):(Tq5×Int)→Option ((Tq5×Int)⊕Tq5):=fun (l1,i2)=>cond (decide (i2 < xa)) ((loop (ij xa xb i2) ((([]:List Int),0))).bind fun l3=>(app (l1:List (List Int)) (([l3]:List (List Int)):List (List Int))).bind fun z4=>some (.inl ((z4,IntKind.wrap .i64 (i2 + 1))))) (some (.inr (l1)))
def ii (xa:Int) (i1:Int) (i2:Int):(Bool×Int×Tq5)→Option ((Bool×Int×Tq5)⊕(Bool×Tq5)):=fun (t3,i4,l5)=>cond (decide (i4 < xa)) ((ae l5 i1).bind fun x6=>(ae l5 i1).bind fun _=>(bh i1 i1).bind fun _=>(ae x6 i2).bind fun x7=>cond (decide (x7=1)) ((ae (l5.set i1.toNat x6) i2).bind fun x8=>(ae (l5.set i1.toNat x6) i2).bind fun _=>(bh i2 i2).bind fun _=>(ae x8 i4).bind fun x9=>cond (decide (x9=1)) ((ae ((l5.set i1.toNat x6).set i2.toNat x8) i1).bind fun x10=>(ae ((l5.set i1.toNat x6).set i2.toNat x8) i1).bind fun _=>(bh i1 i1).bind fun _=>(ae x10 i4).bind fun x11=>cond (decide (x11=0)) ((ae (((l5.set i1.toNat x6).set i2.toNat x8).set i1.toNat x10) i1).bind fun x12=>(ae (((l5.set i1.toNat x6).set i2.toNat x8).set i1.toNat x10) i1).bind fun _=>(bh i1 i1).bind fun _=>(ae x12 i4).bind fun x13=>(some (x12.set i4.toNat 1)).bind fun z14=>some (.inl ((true,IntKind.wrap .i64 (i4 + 1),(((l5.set i1.toNat x6).set i2.toNat x8).set i1.toNat x10).set i1.toNat z14)))) (some (.inl ((t3,IntKind.wrap .i64 (i4 + 1),((l5.set i1.toNat x6).set i2.toNat x8).set i1.toNat x10))))) (some (.inl ((t3,IntKind.wrap .i64 (i4 + 1),(l5.set i1.toNat x6).set i2.toNat x8))))) (some (.inl ((t3,IntKind.wrap .i64 (i4 + 1),l5.set i1.toNat x6))))) (some (.inr (((t3,l5)))))
def io (xa:Int) (i1:Int):(Bool×Int×Tq5)→Option ((Bool×Int×Tq5)⊕(Bool×Tq5)):=fun (t2,i3,l4)=>cond (decide (i3 < xa)) ((loop (ii xa i1 i3) (t2,0,l4)).bind fun (t5,l6)=>some (.inl ((t5,IntKind.wrap .i64 (i3 + 1),l6)))) (some (.inr (((t2,l4)))))
def ik (xa:Int):(Bool×Int×Tq5)→Option ((Bool×Int×Tq5)⊕(Bool×Tq5)):=fun (t1,i2,l3)=>cond (decide (i2 < xa)) ((loop (io xa i2) (t1,0,l3)).bind fun (t4,l5)=>some (.inl ((t4,IntKind.wrap .i64 (i2 + 1),l5)))) (some (.inr (((t1,l3)))))
def im (xa:Int):(Bool×Tq5)→Option ((Bool×Tq5)⊕Tq5):=fun (t1,l2)=>cond (t1) ((loop (ik xa) (false,0,l2)).bind fun (t3,l4)=>some (.inl (t3,l4))) (some (.inr (l2)))
def ew (xa:Int) (xb:Tq4):Option (Tq5) :=
 cond ((decide (xa < 0))||(decide (65536 < xa))) (some (([]:List (List Int)))) ((loop (f7 xa xb) ((([]:List (List Int)),0))).bind fun l1=>(loop (im xa) (true,l1)).bind fun l2=>some (l2))
def xH:Hn Tryd.prog := .ot (.row 3 (.dat Yq1)) (.gp 2 (.tw 21 .nil (.jn [] ⟨[(5,.od (.row 36 (.row 3 (.dat Yq1))))],[]⟩ [0] (.lp ⟨[(5,.od (.row 36 (.row 3 (.dat Yq1)))),kdI 6],[]⟩ (.tw 25 (.pl (.pl (.jn [] ⟨[(7,.own 3 Yq1),(28,.any)],[]⟩ [4] (.lp ⟨[(7,.own 3 Yq1),kdI 8],[]⟩ (.tw 31 (.pl (.pl (.sq [] ⟨[kdI 9],[]⟩ [] (.wt 37 (.gp 2 (.tw 40 .nil .nil))) (.jn [] ⟨[kdI 9],[]⟩ [] (.lp ⟨[kdI 9,kdI 10],[]⟩ (.tw 44 (.wt 54 (.gj 7 ⟨[kdB 62],[]⟩ [] (.two 54 .nil .nil) (.tw 62 .nil .nil))) .nil)) .nil)))) .nil)) (.ot (.row 3 (.dat Yq1)) (.ot (.row 3 (.dat Yq1)) .nil))))) .nil)) (.jn [] ⟨[],[bkO 2 (.row 36 (.row 3 (.dat Yq1)))]⟩ [2] (.lp ⟨[kdB 11],[bkO 2 (.row 36 (.row 3 (.dat Yq1)))]⟩ (.tw 71 (.pl (.jn [] ⟨[kdB 11],[bkO 2 (.row 36 (.row 3 (.dat Yq1)))]⟩ [2] (.lp ⟨[kdB 11,kdI 12],[bkO 2 (.row 36 (.row 3 (.dat Yq1)))]⟩ (.tw 74 (.pl (.pl (.jn [] ⟨[kdB 11],[bkO 2 (.row 36 (.row 3 (.dat Yq1)))]⟩ [2] (.lp ⟨[kdB 11,kdI 13],[bkO 2 (.row 36 (.row 3 (.dat Yq1)))]⟩ (.tw 79 (.pl (.pl (.jn [] ⟨[kdB 11],[bkO 2 (.row 36 (.row 3 (.dat Yq1)))]⟩ [2] (.lp ⟨[kdB 11,kdI 14],[bkO 2 (.row 36 (.row 3 (.dat Yq1)))]⟩ (.tw 84 (.opn 2 88 (.two 95 (.wt 97 (.cls 2 8 (.opn 2 97 (.two 105 (.wt 107 (.cls 2 12 (.opn 2 107 (.wt 114 (.wt 1000019 (.cls 2 16 (.tw 114 (.opn 2 116 (.wt 120 (.wt 1000024 (.cls 2 20 .nil)))) .nil))))))) (.cls 2 12 .nil))))) (.cls 2 8 .nil))) .nil)) .nil))) .nil)) .nil))) .nil)) .nil)) .nil)) .nil))))
def xf:Spec:=⟨8,⟨[kdI 0,(1,.dat Yq2)],[]⟩,[⟨[(0,.od (.row 36 (.row 3 (.dat Yq1))))],[]⟩],fun x=>ew x.1 x.2⟩
def xk:OkSpec Tryd.prog:=⟨xf,ar func8 xH (by kernel_rfl) (by kernel_rfl),call8⟩

def bQ (xa:Tq5) (xb:Int) (xc:Int):Option Bool :=
 (cond ((((decide (0≤xb))&&(decide (xb < (xa.length:Int))))&&(decide (0≤xc)))&&(decide (xc < (xa.length:Int)))) ((ae xa xb).bind fun x86=>(ae x86 xc).bind fun x99=>some (decide (x99=1))) (some (false))).bind fun t84=>some (t84)
def yd:Hn Tryd.prog := .gp 4 (.wt 15 (.gp 2 (.wt 19 (.gp 4 (.wt 25 (.gj 8 ⟨[kdB 34],[]⟩ [] (.two 25 .nil .nil) .nil))))))
def yb:Spec:=⟨11,⟨[(0,.dat (.sl (.sl Yq1))),kdI 1,kdI 2],[]⟩,[⟨[kdB 0],[]⟩],fun x=>bQ x.1 x.2.1 x.2.2⟩
def fD:OkSpec Tryd.prog:=⟨yb,ar func11 yd (by kernel_rfl) (by kernel_rfl),call11⟩

def fL (xb:Int) (xc:Int) (qa0:Int) (qa1:(List Int)) (qa2:Tq2) (qa3:Tq1):Option Tq7 :=
 (bA xb xc qa0 qa1 qa2 qa3).bind fun (t4,l5,l6,l7)=>cond (t4) ((bA xc xb qa0 l5 l6 l7).bind fun (t8,l9,l10,l11)=>some ((t8,l9,l10,l11))) (some ((false,l5,l6,l7)))
def yA:Hn Tryd.prog := .cl dG [] (.two 11 (.cl dG [] .nil) .nil)
def yy:Spec:=⟨12,⟨[(0,.ptr 0 0),kdI 1,kdI 2],[bkN 47 [.is 1 (.dat Yq1),.own 3 Yq1,.od (.obj 0 Yq2),.od (.box 63 (.cons (.dat Yq1) (.one (.row 64 (.box 83 (.cons (.dat Yq1) (.one (.row 78 (.dat Yq3)))))))))],bkM]⟩,[⟨[kdB 0],[bkC 0 47 [.is 1 (.any),.own 3 Yq1,.od (.obj 0 Yq2),.od (.box 63 (.cons (.dat Yq1) (.one (.row 64 (.box 83 (.cons (.dat Yq1) (.one (.row 78 (.dat Yq3)))))))))],bkU 1]⟩],fun x=>fL x.1 x.2.1 x.2.2.1 x.2.2.2.1 x.2.2.2.2.1 x.2.2.2.2.2⟩
def xB:OkSpec Tryd.prog:=⟨yy,ar func12 yA (by kernel_rfl) (by kernel_rfl),call12⟩

def j4 (xa:(Int×Int)) (qb0:Int) (qb1:(List Int)) (qb2:Tq2) (qb3:Tq1):Option Tq7 :=
 (bA xa.1 xa.2 qb0 qb1 qb2 qb3).bind fun (t65,l66,l67,l68)=>some ((!t65,l66,l67,l68))
def yc:Hn Tryd.prog := .cl dG [] .nil
def yK:Spec:=⟨30,⟨[(0,.dat Yq5),(1,.ptr 0 0)],[bkN 24 [.ptr 1 0],bkN 47 [.is 2 (.dat Yq1),.own 3 Yq1,.od (.obj 0 Yq2),.od (.box 63 (.cons (.dat Yq1) (.one (.row 64 (.box 83 (.cons (.dat Yq1) (.one (.row 78 (.dat Yq3)))))))))],bkM]⟩,[⟨[kdB 0],[bkC 0 24 [.ptr 1 0],bkC 1 47 [.is 2 (.any),.own 3 Yq1,.od (.obj 0 Yq2),.od (.box 63 (.cons (.dat Yq1) (.one (.row 64 (.box 83 (.cons (.dat Yq1) (.one (.row 78 (.dat Yq3)))))))))],bkU 2]⟩],fun x=>j4 x.1 x.2.1 x.2.2.1 x.2.2.2.1 x.2.2.2.2⟩
def yq:OkSpec Tryd.prog:=⟨yK,ar func30 yc (by kernel_rfl) (by kernel_rfl),call30⟩
def jY (xa:Tq4) (qb0:Int):Tq6→Option (Tq6⊕(((List Int)×Tq2×Tq1)⊕Tq6)):=fun (i1,l2,l3,l4)=>cond (decide (i1 < (xa.length:Int))) ((ae xa i1).bind fun x5=>(j4 (x5.1,x5.2) qb0 l2 l3 l4).bind fun (t6,l7,l8,l9)=>cond (t6) (some (.inr ((.inr ((i1,l7,l8,l9)))))) (some (.inl ((IntKind.wrap .i64 (i1 + 1),l7,l8,l9))))) (some (.inr ((.inl (l2,l3,l4)))))
def j3 (xa:Tq4) (qb0:Int) (qb1:(List Int)) (qb2:Tq2) (qb3:Tq1):Option (Tq6) :=
 (loop (jY xa qb0) (0,qb1,qb2,qb3)).bind fun o=>match o with | .inr r=>some r | .inl (l4,l5,l6)=>some (((-1),l4,l5,l6))
def xy:Hn Tryd.prog := .jx [] ⟨[],[bkC 0 24 [.ptr 1 0],bkC 1 47 [.is 2 (.any),.own 3 Yq1,.od (.obj 0 Yq2),.od (.box 63 (.cons (.dat Yq1) (.one (.row 64 (.box 83 (.cons (.dat Yq1) (.one (.row 78 (.dat Yq3)))))))))],bkU 2]⟩ [4,0,1,6,8] (.lp ⟨[kdI 8],[bkC 0 24 [.ptr 1 0],bkC 1 47 [.is 2 (.any),.own 3 Yq1,.od (.obj 0 Yq2),.od (.box 63 (.cons (.dat Yq1) (.one (.row 64 (.box 83 (.cons (.dat Yq1) (.one (.row 78 (.dat Yq3)))))))))],bkU 2]⟩ (.tw 9 (.cl yq [] (.tw 16 .nil .nil)) .nil)) .nil
def xM:Spec:=⟨43,⟨[(0,.dat Yq2),(1,.fn 30 [.ptr 0 0])],[bkN 24 [.ptr 1 0],bkN 47 [.is 2 (.dat Yq1),.own 3 Yq1,.od (.obj 0 Yq2),.od (.box 63 (.cons (.dat Yq1) (.one (.row 64 (.box 83 (.cons (.dat Yq1) (.one (.row 78 (.dat Yq3)))))))))],bkM]⟩,[⟨[kdI 0],[bkC 0 24 [.ptr 1 0],bkC 1 47 [.is 2 (.any),.own 3 Yq1,.od (.obj 0 Yq2),.od (.box 63 (.cons (.dat Yq1) (.one (.row 64 (.box 83 (.cons (.dat Yq1) (.one (.row 78 (.dat Yq3)))))))))],bkU 2]⟩],fun x=>j3 x.1 x.2.1 x.2.2.1 x.2.2.2.1 x.2.2.2.2⟩
def yj:OkSpec Tryd.prog:=⟨xM,ar func43 xy (by kernel_rfl) (by kernel_rfl),call43⟩

def jZ (xa:Tq4) (qb0:Int) (qb1:(List Int)) (qb2:Tq2) (qb3:Tq1):Option Tq7 :=
 (j3 xa qb0 qb1 qb2 qb3).bind fun (i61,l62,l63,l64)=>some ((decide (0≤i61),l62,l63,l64))
def yC:Hn Tryd.prog := .cl yj [] .nil
def xU:Spec:=⟨29,⟨[(0,.dat Yq2),(1,.fn 30 [.ptr 0 0])],[bkN 24 [.ptr 1 0],bkN 47 [.is 2 (.dat Yq1),.own 3 Yq1,.od (.obj 0 Yq2),.od (.box 63 (.cons (.dat Yq1) (.one (.row 64 (.box 83 (.cons (.dat Yq1) (.one (.row 78 (.dat Yq3)))))))))],bkM]⟩,[⟨[kdB 0],[bkC 0 24 [.ptr 1 0],bkC 1 47 [.is 2 (.any),.own 3 Yq1,.od (.obj 0 Yq2),.od (.box 63 (.cons (.dat Yq1) (.one (.row 64 (.box 83 (.cons (.dat Yq1) (.one (.row 78 (.dat Yq3)))))))))],bkU 2]⟩],fun x=>jZ x.1 x.2.1 x.2.2.1 x.2.2.2.1 x.2.2.2.2⟩
def xE:OkSpec Tryd.prog:=⟨xU,ar func29 yC (by kernel_rfl) (by kernel_rfl),call29⟩

def fQ (xb:Tq4) (qa0:Int) (qa1:(List Int)) (qa2:Tq2) (qa3:Tq1):Option Tq7 :=
 (jZ xb qa0 qa1 qa2 qa3).bind fun (t65,l66,l67,l68)=>some ((!t65,l66,l67,l68))
def yU:Hn Tryd.prog := .cl xE [] .nil
def yT:Spec:=⟨13,⟨[(0,.ptr 0 0),(1,.dat Yq2)],[bkN 47 [.is 1 (.dat Yq1),.own 3 Yq1,.od (.obj 0 Yq2),.od (.box 63 (.cons (.dat Yq1) (.one (.row 64 (.box 83 (.cons (.dat Yq1) (.one (.row 78 (.dat Yq3)))))))))],bkM]⟩,[⟨[kdB 0],[bkC 0 47 [.is 1 (.any),.own 3 Yq1,.od (.obj 0 Yq2),.od (.box 63 (.cons (.dat Yq1) (.one (.row 64 (.box 83 (.cons (.dat Yq1) (.one (.row 78 (.dat Yq3)))))))))],bkU 1]⟩],fun x=>fQ x.1 x.2.1 x.2.2.1 x.2.2.2.1 x.2.2.2.2⟩
def xP:OkSpec Tryd.prog:=⟨yT,ar func13 yU (by kernel_rfl) (by kernel_rfl),call13⟩
def ig (xa:Tq5) (xb:Tq4):Int→Option (Int⊕(Unit⊕Bool)):=fun i1=>cond (decide (i1 < (xb.length:Int))) ((ae xb i1).bind fun x2=>(ae xb i1).bind fun x3=>(bQ xa x2.1 x3.2).bind fun t4=>cond (!t4) (some (.inr ((.inr (false))))) (some (.inl (IntKind.wrap .i64 (i1 + 1))))) (some (.inr ((.inl ()))))
def f9 (xa:Tq5) (xb:Tq4):Option Bool :=
 (loop (ig xa xb) 0).bind fun o=>match o with | .inr r=>some r | .inl ()=>some (true)
def xX:Hn Tryd.prog := .jx [] ⟨[],[]⟩ [] (.lp ⟨[kdI 5],[]⟩ (.tw 9 (.mix [] [0,1,2,3,4,5,6,7,8,9,10] [11,12] [] (.cl fD [] (.tw 24 .nil .nil))) .nil)) .nil
def xg:Spec:=⟨14,⟨[(0,.dat (.sl (.sl Yq1))),(1,.dat Yq2)],[]⟩,[⟨[kdB 0],[]⟩],fun x=>f9 x.1 x.2⟩
def xu:OkSpec Tryd.prog:=⟨xg,ar func14 xX (by kernel_rfl) (by kernel_rfl),call14⟩
def fY (xa:Tq5) (i1:Int):(Tq4×Int)→Option ((Tq4×Int)⊕Tq4):=fun (l2,i3)=>cond (decide (i3 < (xa.length:Int))) ((cond (!decide (i1=i3)) ((ae xa i1).bind fun x4=>(ae x4 i3).bind fun x5=>some (decide (x5=1))) (some (false))).bind fun t6=>cond (t6) ((app l2 (([(i1,i3)]:List (Int×Int)))).bind fun z7=>some (.inl ((z7,IntKind.wrap .i64 (i3 + 1))))) (some (.inl ((l2,IntKind.wrap .i64 (i3 + 1)))))) (some (.inr (l2)))
def kb (xa:Tq5):(Tq4×Int)→Option ((Tq4×Int)⊕Tq4):=fun (l1,i2)=>cond (decide (i2 < (xa.length:Int))) ((loop (fY xa i2) (l1,0)).bind fun l3=>some (.inl ((l3,IntKind.wrap .i64 (i2 + 1))))) (some (.inr (l1)))
def f6 (xa:Tq5):Option (Tq4) :=
 (loop (kb xa) ((([]:List (Int×Int)),1))).bind fun l1=>some (l1)
def xL:Hn Tryd.prog := .jn [] ⟨[(3,.own 43 Yq5),(6,.any)],[]⟩ [0] (.lp ⟨[(3,.own 43 Yq5),kdI 4],[]⟩ (.tw 10 (.pl (.pl (.jn [] ⟨[(3,.own 43 Yq5)],[]⟩ [2] (.lp ⟨[(3,.own 43 Yq5),kdI 5],[]⟩ (.tw 16 (.wt 22 (.gj 8 ⟨[kdB 31],[]⟩ [] (.two 22 .nil .nil) (.tw 31 .nil .nil))) .nil)) .nil))) .nil)) .nil
def xo:Spec:=⟨17,⟨[(0,.dat (.sl (.sl Yq1)))],[]⟩,[⟨[(0,.own 43 Yq5)],[]⟩],fun x=>f6 x⟩
def xF:OkSpec Tryd.prog:=⟨xo,ar func17 xL (by kernel_rfl) (by kernel_rfl),call17⟩
def kc (xa:(List Int)) (xb:(List Int)):Int→Option (Int⊕(Unit⊕Bool)):=fun i1=>cond (decide (i1 < (xa.length:Int))) ((ae xa i1).bind fun x2=>(ae xb i1).bind fun x3=>cond (!decide (x2=x3)) (some (.inr ((.inr (false))))) (some (.inl (IntKind.wrap .i64 (i1 + 1))))) (some (.inr ((.inl ()))))
def dI (xa:(List Int)) (xb:(List Int)):Option Bool :=
 cond (!decide ((xa.length:Int)=(xb.length:Int))) (some (false)) ((loop (kc xa xb) 0).bind fun o=>match o with | .inr r=>some r | .inl ()=>some (true))
def yN:Hn Tryd.prog := .tw 10 .nil (.jx [] ⟨[],[]⟩ [] (.lp ⟨[kdI 5],[]⟩ (.tw 14 (.mix [] [0,1,2,3,4,5,6,7,8] [] [] (.tw 25 .nil .nil)) .nil)) .nil)
def yk:Spec:=⟨18,⟨[(0,.dat (.sl Yq1)),(1,.dat (.sl Yq1))],[]⟩,[⟨[kdB 0],[]⟩],fun x=>dI x.1 x.2⟩
def qZ:OkSpec Tryd.prog:=⟨yk,ar func18 yN (by kernel_rfl) (by kernel_rfl),call18⟩
def g8 (xb:Int) (qa0:Int) (i1:Int):((List Int)×Int×(List Int)×Tq2×Tq1)→Option (((List Int)×Int×(List Int)×Tq2×Tq1)⊕((List Int)×(List Int)×Tq2×Tq1)):=fun (l2,i3,l4,l5,l6)=>cond (decide (i3 < i1)) ((bA i3 xb qa0 l4 l5 l6).bind fun (t7,l8,l9,l10)=>cond (t7) ((app l2 ([i3]:List Int)).bind fun z11=>some (.inl ((z11,IntKind.wrap .i64 (i3 + 1),l8,l9,l10)))) (some (.inl ((l2,IntKind.wrap .i64 (i3 + 1),l8,l9,l10))))) (some (.inr (((l2,l4,l5,l6)))))
def fM (xb:Int) (qa0:Int) (qa1:(List Int)) (qa2:Tq2) (qa3:Tq1):Option (((List Int)×(List Int)×Tq2×Tq1)) :=
 (dH qa0 qa1 qa2 qa3).bind fun (i4,l5,l6,l7)=>(loop (g8 xb qa0 i4) ([],0,l5,l6,l7)).bind fun (l8,l9,l10,l11)=>some ((l8,l9,l10,l11))
def xR:Hn Tryd.prog := .cl oQ1 [] (.jn [] ⟨[(5,.own 3 Yq1)],[bkC 0 47 [.is 1 (.any),.own 3 Yq1,.od (.obj 0 Yq2),.od (.box 63 (.cons (.dat Yq1) (.one (.row 64 (.box 83 (.cons (.dat Yq1) (.one (.row 78 (.dat Yq3)))))))))],bkU 1]⟩ [16,0,18,20] (.lp ⟨[(5,.own 3 Yq1),kdI 9],[bkC 0 47 [.is 1 (.any),.own 3 Yq1,.od (.obj 0 Yq2),.od (.box 63 (.cons (.dat Yq1) (.one (.row 64 (.box 83 (.cons (.dat Yq1) (.one (.row 78 (.dat Yq3)))))))))],bkU 1]⟩ (.tw 10 (.cl dG [] (.tw 15 .nil .nil)) .nil)) .nil)
def xl:Spec:=⟨20,⟨[(0,.ptr 0 0),kdI 1],[bkN 47 [.is 1 (.dat Yq1),.own 3 Yq1,.od (.obj 0 Yq2),.od (.box 63 (.cons (.dat Yq1) (.one (.row 64 (.box 83 (.cons (.dat Yq1) (.one (.row 78 (.dat Yq3)))))))))],bkM]⟩,[⟨[(0,.own 3 Yq1)],[bkC 0 47 [.is 1 (.any),.own 3 Yq1,.od (.obj 0 Yq2),.od (.box 63 (.cons (.dat Yq1) (.one (.row 64 (.box 83 (.cons (.dat Yq1) (.one (.row 78 (.dat Yq3)))))))))],bkU 1]⟩],fun x=>fM x.1 x.2.1 x.2.2.1 x.2.2.2.1 x.2.2.2.2⟩
def xV:OkSpec Tryd.prog:=⟨xl,ar func20 xR (by kernel_rfl) (by kernel_rfl),call20⟩
def ef (xd:Int) (l1:Tq5):((List Int)×(List Int)×Int)→Option (((List Int)×(List Int)×Int)⊕((List Int)×(List Int))):=fun (l2,l3,i4)=>cond (decide (i4 < (l1.length:Int))) (((bQ l1 xd i4).bind fun t5=>cond (t5) ((app l2 ([i4]:List Int)).bind fun z6=>some (z6)) (some (l2)):Option (List Int)).bind fun l7=>(bQ l1 i4 xd).bind fun t8=>cond (t8) ((app l3 ([i4]:List Int)).bind fun z9=>some (.inl ((l7,z9,IntKind.wrap .i64 (i4 + 1))))) (some (.inl ((l7,l3,IntKind.wrap .i64 (i4 + 1)))))) (some (.inr (((l2,l3)))))
def ka (xa:Int) (xb:Tq4) (xc:Tq4) (xd:Int) (xe:Int):Option Bool :=
 cond (((decide (30 < (xb.length:Int)))||(decide (30 < (xc.length:Int))))||((decide (12 < xa))&&(decide (xa≤65536)))) ((eo).bind fun t1=>some (t1)) ((cH xa xb).bind fun (i2,l3,l4,l5)=>(ew xa xb).bind fun l6=>(dH i2 l3 l4 l5).bind fun (i7,l8,l9,l10)=>cond (!decide (i7=(l6.length:Int))) (some (false)) ((bA xd xe i2 l8 l9 l10).bind fun (t11,l12,l13,l14)=>(bQ l6 xd xe).bind fun t15=>cond (!(t11 == t15)) (some (false)) ((fL xd xe i2 l12 l13 l14).bind fun (t16,l17,l18,l19)=>(bQ l6 xd xe).bind fun t20=>(cond (t20) ((bQ l6 xe xd).bind fun t21=>some (t21)) (some (false))).bind fun t22=>cond (!(t16 == t22)) (some (false)) ((fQ xc i2 l17 l18 l19).bind fun (t23,l24,l25,l26)=>(f9 l6 xc).bind fun t27=>cond (!(t23 == t27)) (some (false)) ((d9 i2 l24 l25 l26).bind fun (l28,l29,l30,l31)=>(f6 l6).bind fun l32=>(en l28 l32).bind fun t33=>cond (!t33) (some (false)) ((loop (ef xd l6) ((([]:List Int),([]:List Int),0))).bind fun (l34,l35)=>(c9 xd i2 l29 l30 l31).bind fun (l36,l37,l38,l39)=>(dI l36 l34).bind fun t40=>cond (t40) ((fM xd i2 l37 l38 l39).bind fun (l41,l42,l43,l44)=>(dI l41 l35).bind fun t45=>(cond (t45) ((eo).bind fun t46=>some (t46)) (some (false))).bind fun t47=>some (t47)) (some (false))))))))
def rK:Hn Tryd.prog := .gp 3 (.wt 24 (.gp 6 (.tw 31 (.cl mT [] .nil) (.cl rb [] (.cl xk [] (.wt 1000010 (.mc 0 0 7 (.cl oQ1 [] (.two 44 .nil (.cl dG [] (.per 8 9 (.cl fD [] (.two 55 .nil (.cl xB [] (.cl fD [] (.wt 64 (.gj 4 ⟨[kdB 69],[]⟩ [] (.two 64 (.cl fD [] .nil) .nil) (.two 72 .nil (.cl xP [] (.cl xu [] (.two 81 .nil (.cl rf [] (.cl xF [] (.cl qV [74,83] (.tw 88 .nil (.jn [] ⟨[(13,.own 3 Yq1),(14,.own 3 Yq1),(83,.any),(85,.any),(89,.any),(90,.any)],[]⟩ [87,85,74,83] (.lp ⟨[(13,.own 3 Yq1),(14,.own 3 Yq1),kdI 15],[]⟩ (.tw 94 (.pl (.sq [] ⟨[(13,.own 3 Yq1)],[]⟩ [89] (.cl fD [] (.tw 100 .nil .nil)) (.cl fD [] (.tw 108 .nil .nil)))) .nil)) (.cl qU [] (.cl qZ [100,89] (.two 118 (.cl xV [] (.cl qZ [116,91] (.wt 125 (.gj 1 ⟨[kdB 127],[]⟩ [] (.two 125 (.cl mT [] .nil) .nil) .nil)))) .nil)))))))))))))))))))))))))))))
def mP:Spec:=⟨3,⟨[kdI 0,(1,.dat Yq2),(2,.dat Yq2),kdI 3,kdI 4],[]⟩,[⟨[kdB 0],[]⟩],fun x=>ka x.1 x.2.1 x.2.2.1 x.2.2.2.1 x.2.2.2.2⟩
theorem rI:br Tryd.prog mP:=ar func3 rK (by kernel_rfl) (by kernel_rfl)
end
section
section
variable {σ β:Type} {body:σ→Option (σ⊕β)}
theorem ca (st:Nat→σ) (n:Nat) {b:β} (h:∀ k,k < n→body (st k)=some (.inl (st (k + 1)))) (he:body (st n)=some (.inr b)):loop body (st 0)=some b:=by
 have:∀ m k,k + m=n→loop body (st k)=some b:=by
   intro m
   induction m with
   | zero => intro k hk; have : k = n := by omega
             subst this; exact eG he
   | succ m ih=>intro k hk; rw [ky (h k (by omega))]; exact ih (k + 1) (by omega)
 exact this n 0 (by omega)
theorem least (p:Nat→Prop):∀ n,(∃ k,k < n∧p k∧∀ j,j < k→¬ p j)∨∀ j,j < n→¬ p j
 | 0 => .inr (fun j hj=>by omega)
 | n + 1=>by
   rcases least p n with ⟨k,h1,h2,h3⟩ | h
   . exact .inl ⟨k,by omega,h2,h3⟩
   . by_cases hp:p n
     . exact .inl ⟨n,by omega,hp,h⟩
     . exact .inr (fun j hj=>if e:j=n then e ▸ hp else h j (by omega))
theorem tJ (p:Nat→Prop) (st:Nat→σ) (n:Nat) (hit:Nat→β) (e:β) (hgo:∀ k,k < n→¬ p k→body (st k)=some (.inl (st (k + 1)))) (hhit:∀ k,k < n→p k→body (st k)=some (.inr (hit k))) (hend:body (st n)=some (.inr e)) :
   (∃ k,k < n∧p k∧(∀ j,j < k→¬ p j)∧loop body (st 0)=some (hit k))∨((∀ j,j < n→¬ p j)∧loop body (st 0)=some e):=by
 rcases least p n with ⟨k,h1,h2,h3⟩ | h
 . exact .inl ⟨k,h1,h2,h3,ca st k (fun j hj=>hgo j (by omega) (h3 j hj)) (hhit k h1 h2)⟩
 . exact .inr ⟨h,ca st n (fun k hk=>hgo k hk (h k hk)) hend⟩
end
theorem w64 {x:Int} (h1 : -9223372036854775808≤x) (h2:x≤9223372036854775807):IntKind.wrap .i64 x=x:=by
 rw [IntWalk.i64_left,IntWalk.wrap64_in _ ⟨h1,h2⟩]
theorem aG {k n:Nat} (h:k < n) (hn:n≤9223372036854775807):IntKind.wrap .i64 ((k:Int) + 1)=((k + 1:Nat):Int):=by
 rw [w64 (by omega) (by omega)]; rfl
theorem aF {α:Type} {l:List α} {k:Nat} (h:k < l.length):ae l (k:Int)=some l[k]:=py rfl h
end
theorem dd (x:Nat):BitVec.ofInt 64 (x:Int)=BitVec.ofNat 64 x:=by simp
theorem cg (x:Nat) (h:x < 18446744073709551616):IntKind.wrap .u64 (x:Int)=(x:Int):=by
 rw [IntKind.wrap_u64]
 omega
theorem iN {k:Nat} (hk:k < 64):2 ^ k < 18446744073709551616:=Nat.pow_lt_pow_right (by decide) hk
theorem pF {k:Nat} (hk:k < 64):IntKind.wrap .u64 (1 * 2 ^ (min k (IntKind.bits .u64)))=((2 ^ k:Nat):Int):=by
 have h1:min k (IntKind.bits .u64)=k:=Nat.min_eq_left (Nat.le_of_lt hk)
 rw [h1,Int.one_mul]
 have:=cg (2 ^ k) (iN hk)
 rw [← this]
 congr 1
theorem ri (x y:Nat) (hx:x < 18446744073709551616) (hy:y < 18446744073709551616):IntKind.wrap .u64 ((BitVec.ofInt (IntKind.bits .u64) (x:Int) &&& BitVec.ofInt (IntKind.bits .u64) (y:Int)).toNat:Int)=((x &&& y:Nat):Int):=by
 show IntKind.wrap .u64 ((BitVec.ofInt 64 (x:Int) &&& BitVec.ofInt 64 (y:Int)).toNat:Int)=_
 rw [dd,dd,BitVec.toNat_and,BitVec.toNat_ofNat,BitVec.toNat_ofNat,Nat.mod_eq_of_lt hx,Nat.mod_eq_of_lt hy]
 exact cg _ (Nat.and_lt_two_pow (n:=64) _ hy)
theorem orU (x y:Nat) (hx:x < 18446744073709551616) (hy:y < 18446744073709551616):IntKind.wrap .u64 ((BitVec.ofInt (IntKind.bits .u64) (x:Int) ||| BitVec.ofInt (IntKind.bits .u64) (y:Int)).toNat:Int)=((x ||| y:Nat):Int):=by
 show IntKind.wrap .u64 ((BitVec.ofInt 64 (x:Int) ||| BitVec.ofInt 64 (y:Int)).toNat:Int)=_
 rw [dd,dd,BitVec.toNat_or,BitVec.toNat_ofNat,BitVec.toNat_ofNat,Nat.mod_eq_of_lt hx,Nat.mod_eq_of_lt hy]
 exact cg _ (Nat.or_lt_two_pow (n:=64) hx hy)
theorem vO (x k:Nat):(x &&& 2 ^ k=0)↔x.testBit k=false:=by
 constructor
 . intro h
   have:=congrArg (fun n=>n.testBit k) h
   simpa [Nat.testBit_and,Nat.testBit_two_pow_self] using this
 . intro h
   apply Nat.eq_of_testBit_eq
   intro i
   rw [Nat.testBit_and,Nat.testBit_two_pow,Nat.zero_testBit]
   by_cases hi:k=i
   . subst hi; simp [h]
   . simp [hi]
theorem wC (x k i:Nat):(x ||| 2 ^ k).testBit i=(x.testBit i||decide (k=i)):=by
 rw [Nat.testBit_or,Nat.testBit_two_pow]
def Wd (w:Int):Prop:=0≤w∧w < 18446744073709551616
def mem (l:List Int) (i:Nat):Bool:=match l[i / 64]? with | some w=>w.toNat.testBit (i % 64) | none=>false
structure Ds (n:Nat) (l:List Int):Prop where
 hn:n≤1048576
 len:l.length=(n + 63) / 64
 wd:∀ w∈l,Wd w
 top:∀ i,n≤i→mem l i=false
theorem ki {n:Nat} {l:List Int} (i:Int):db (some ((n:Int),l)) i=some (decide (0≤i∧i < n)):=by
 unfold db
 rw [show ic (some ((n:Int),l))=some (n:Int) from rfl]
 by_cases h:0≤i
 . simp [h]
 . simp [h]
theorem Ds.word {n:Nat} {l:List Int} (h:Ds n l) {k:Nat} (hk:k < n):∃ x:Nat,l[k / 64]? = some (x:Int)∧x < 18446744073709551616:=by
 have hl:k / 64 < l.length:=by rw [h.len]; omega
 refine ⟨(l[k / 64]).toNat,?_,?_⟩
 . rw [List.getElem?_eq_getElem hl,Int.toNat_of_nonneg (h.wd _ (List.getElem_mem hl)).1]
 . have:=h.wd _ (List.getElem_mem hl)
   unfold Wd at this
   omega
theorem co {l:List Int} {k x:Nat} (h:l[k / 64]? = some (x:Int)):mem l k=x.testBit (k % 64):=by
 unfold mem
 rw [h]
 simp
theorem kN {n:Nat} {l:List Int} (h:Ds n l) (i:Int):cF (some ((n:Int),l)) i=some (decide (0≤i∧i < n)&&mem l i.toNat):=by
 unfold cF
 rw [ki]
 by_cases hi:0≤i∧i < n
 . obtain ⟨k,rfl⟩:=Int.eq_ofNat_of_zero_le hi.1
   have hk:k < n:=by omega
   have hn:=h.hn
   obtain ⟨x,hx,hx2⟩:=h.word hk
   have e1:IntKind.wrap .i64 (Int.tdiv (k:Int) 64)=((k / 64:Nat):Int):=by
     rw [show Int.tdiv (k:Int) 64=((k / 64:Nat):Int) from rfl]
     exact w64 (by omega) (by omega)
   have e2:Int.tmod (k:Int) 64=((k % 64:Nat):Int):=rfl
   have g:ae l ((k / 64:Nat):Int)=some (x:Int):=by
     unfold ae
     rw [if_pos (Int.natCast_nonneg _),Int.toNat_natCast]
     exact hx
   have hd:decide (0≤(k:Int)∧(k:Int) < n)=true:=by simpa using hk
   rw [hd,e1,e2]
   simp only [Option.bind_some,cond_true,g,lG (Int.natCast_nonneg _),Int.toNat_natCast,Bool.true_and]
   have E:IntKind.wrap .u64 ((BitVec.ofInt (IntKind.bits .u64) (x:Int) &&& BitVec.ofInt (IntKind.bits .u64) (IntKind.wrap .u64 (1 * 2 ^ (min (k % 64) (IntKind.bits .u64))))).toNat:Int)=((x &&& 2 ^ (k % 64):Nat):Int):=by
     rw [pF (Nat.mod_lt k (by decide))]
     exact ri x _ hx2 (iN (Nat.mod_lt k (by decide)))
   simp only [E,co hx]
   have hb:=vO x (k % 64)
   cases ht:x.testBit (k % 64) with
   | false=>simp [hb.2 ht]
   | true =>
     have:¬ (x &&& 2 ^ (k % 64)=0):=fun e=>by rw [hb.1 e] at ht; cases ht
     have h2:¬ (((x &&& 2 ^ (k % 64):Nat):Int)=0):=by omega
     rw [decide_eq_false h2]
     rfl
 . rw [decide_eq_false hi]
   rfl
theorem pa {l:List Int} {q x y:Nat} (hq:l[q]? = some (x:Int)) (j:Nat):mem (l.set q (y:Int)) j=if j / 64=q then y.testBit (j % 64) else mem l j:=by
 unfold mem
 rw [List.getElem?_set]
 have hlt:q < l.length:=(List.getElem?_eq_some_iff.1 hq).1
 by_cases hj:j / 64=q
 . rw [if_pos hj.symm,if_pos hj,← hj] 
   simp [hj,hlt]
 . rw [if_neg (fun e=>hj e.symm),if_neg hj]
theorem ou {n:Nat} {l:List Int} (h:Ds n l) (i:Int):∃ l',da i n l=some (decide (0≤i∧i < n)&&!mem l i.toNat,l')∧Ds n l'∧∀ j,mem l' j=(mem l j||decide ((0≤i∧i < n)∧i.toNat=j)):=by
 unfold da
 rw [ki,kN h]
 by_cases hi:0≤i∧i < n
 . rw [decide_eq_true hi]
   cases hm:mem l i.toNat with
   | true=>exact ⟨l,rfl,h,fun j=>by
       by_cases hj:i.toNat=j
       . subst hj; simp [hm]
       . simp [hj]⟩
   | false =>
     obtain ⟨k,rfl⟩:=Int.eq_ofNat_of_zero_le hi.1
     have hk:k < n:=by omega
     have hn:=h.hn
     obtain ⟨x,hx,hx2⟩:=h.word hk
     have e1:IntKind.wrap .i64 (Int.tdiv (k:Int) 64)=((k / 64:Nat):Int):=by
       rw [show Int.tdiv (k:Int) 64=((k / 64:Nat):Int) from rfl]
       exact w64 (by omega) (by omega)
     have e2:Int.tmod (k:Int) 64=((k % 64:Nat):Int):=rfl
     have g:ae l ((k / 64:Nat):Int)=some (x:Int):=by
       unfold ae
       rw [if_pos (Int.natCast_nonneg _),Int.toNat_natCast]
       exact hx
     have E:IntKind.wrap .u64 ((BitVec.ofInt (IntKind.bits .u64) (x:Int) ||| BitVec.ofInt (IntKind.bits .u64) (IntKind.wrap .u64 (1 * 2 ^ (min (k % 64) (IntKind.bits .u64))))).toNat:Int)=((x ||| 2 ^ (k % 64):Nat):Int):=by
       rw [pF (Nat.mod_lt k (by decide))]
       exact orU x _ hx2 (iN (Nat.mod_lt k (by decide)))
     have hlt:k / 64 < l.length:=(List.getElem?_eq_some_iff.1 hx).1
     have hmem:∀ j,mem (l.set (k / 64) ((x ||| 2 ^ (k % 64):Nat):Int)) j=(mem l j||decide (((0:Int)≤(k:Int)∧(k:Int) < n)∧k=j)):=fun j=>by
       rw [pa hx]
       by_cases hj:j / 64=k / 64
       . rw [if_pos hj,wC,co (by rw [hj]; exact hx)]
         have:(k % 64=j % 64)↔k=j:=by omega
         simp [this,hk]
       . rw [if_neg hj]
         have:¬ k=j:=fun e=>hj (by rw [e])
         simp [this]
     refine ⟨l.set (k / 64) ((x ||| 2 ^ (k % 64):Nat):Int),?_,⟨hn,by rw [List.length_set]; exact h.len,fun w hw=>?_,fun j hj=>?_⟩,hmem⟩
     . rw [e1,e2]
       simp only [Option.bind_some,cond_true,cond_false,g,lG (Int.natCast_nonneg _),Int.toNat_natCast,Bool.true_and,Bool.not_true,Bool.not_false,E]
     . rcases List.mem_or_eq_of_mem_set hw with hw | rfl
       . exact h.wd w hw
       . have:=Nat.or_lt_two_pow (n:=64) hx2 (iN (Nat.mod_lt k (by decide)))
         unfold Wd
         omega
     . rw [hmem,h.top j hj]
       have:¬ k=j:=by omega
       simp [this]
 . rw [decide_eq_false hi]
   exact ⟨l,rfl,h,fun j=>by simp [hi]⟩
theorem iO (x r j:Nat):(x / 2 ^ r * 2 ^ r).testBit j=(decide (r≤j)&&x.testBit j):=by
 rw [Nat.testBit_mul_two_pow]
 by_cases h:r≤j
 . rw [Nat.testBit_div_two_pow,Nat.sub_add_cancel h]
 . simp [h]
theorem sV (x r:Nat) (hx:x < 18446744073709551616) (hr:r < 64):IntKind.wrap .u64 ((Int.fdiv (x:Int) (2 ^ (min r (IntKind.bits .u64)))) * 2 ^ (min r (IntKind.bits .u64)))=((x / 2 ^ r * 2 ^ r:Nat):Int):=by
 have h1:min r (IntKind.bits .u64)=r:=Nat.min_eq_left (Nat.le_of_lt hr)
 have hp:((2:Int) ^ r)=((2 ^ r:Nat):Int):=by simp
 have h2:Int.fdiv (x:Int) ((2 ^ r:Nat):Int)=((x / 2 ^ r:Nat):Int):=by
   rw [Int.fdiv_eq_ediv_of_nonneg _ (Int.natCast_nonneg _)]
   rfl
 rw [h1,hp,h2,← Int.natCast_mul]
 exact cg _ (Nat.lt_of_le_of_lt (Nat.div_mul_le_self x (2 ^ r)) hx)
theorem vj {x:Nat} (h0:x≠0) (h:x < 18446744073709551616):Lib.ctz 64 x < 64∧x.testBit (Lib.ctz 64 x)=true∧∀ j,j < Lib.ctz 64 x→x.testBit j=false:=by
 have h':x < 2 ^ 64:=h
 obtain ⟨m,hm,hk⟩:=Lib.ctzFrom_spec 64 x (by omega) h'
 have e:Lib.ctz 64 x=Lib.ctzFrom 64 x:=by simp [Lib.ctz,h0]
 rw [e]
 clear e
 revert hm hk
 generalize Lib.ctzFrom 64 x=c
 intro hm hk
 refine ⟨hk,?_,fun j hj=>?_⟩
 . rw [hm,Nat.mul_comm,Nat.testBit_mul_two_pow]
   simp
 . rw [hm,Nat.mul_comm,Nat.testBit_mul_two_pow]
   simp [Nat.not_le.2 hj]
theorem sT {n:Int} {l:List Int} (hw:∀ w∈l,Wd w) (hlen:l.length≤20000):∀ (d a w:Nat),a + 1 + d=l.length→w < 18446744073709551616 →
   ∃ r,loop (ej (n,l)) ((a:Int),(w:Int))=some r∧((r = .inr (-1)∧w=0∧∀ q,a < q→q < l.length→l[q]? = some 0) ∨
     ∃ b v:Nat,r = .inl ((b:Int),(v:Int))∧v≠0∧v < 18446744073709551616∧a≤b∧b < l.length∧((b=a∧v=w)∨(a < b∧w=0∧l[b]? = some (v:Int)))∧∀ q,a < q→q < b→l[q]? = some 0):=by
 intro d
 induction d with
 | zero =>
   intro a w ha hx
   by_cases h0:w=0
   . subst h0
     refine ⟨.inr (-1),eG ?_,.inl ⟨rfl,rfl,fun q h1 h2=>by omega⟩⟩
     have e:IntKind.wrap .i64 ((a:Int) + 1)=((l.length:Nat):Int):=by rw [w64 (by omega) (by omega)]; omega
     unfold ej
     simp [e]
   . refine ⟨.inl ((a:Int),(w:Int)),eG ?_,.inr ⟨a,w,rfl,h0,hx,Nat.le_refl a,by omega,.inl ⟨rfl,rfl⟩,fun q h1 h2=>by omega⟩⟩
     have h1:¬ ((w:Int)=0):=by omega
     unfold ej
     simp [h1,h0]
 | succ d ih =>
   intro a w ha hx
   by_cases h0:w=0
   . subst h0
     have hlt:a + 1 < l.length:=by omega
     have hwd:=hw _ (List.getElem_mem hlt)
     obtain ⟨x,hxe⟩:∃ x:Nat,l[a + 1]=(x:Int):=⟨l[a + 1].toNat,(Int.toNat_of_nonneg hwd.1).symm⟩
     have hx2:x < 18446744073709551616:=by have:=hwd.2; rw [hxe] at this; omega
     have hq:l[a + 1]? = some (x:Int):=by rw [List.getElem?_eq_getElem hlt,hxe]
     obtain ⟨r,h1,h2⟩:=ih (a + 1) x (by omega) hx2
     have e:IntKind.wrap .i64 ((a:Int) + 1)=((a + 1:Nat):Int):=by rw [w64 (by omega) (by omega)]; rfl
     have hne:¬ (((a + 1:Nat):Int)=((l.length:Nat):Int)):=by omega
     have hg:ae l ((a + 1:Nat):Int)=some (x:Int):=by
       unfold ae
       rw [if_pos (Int.natCast_nonneg _),Int.toNat_natCast]
       exact hq
     refine ⟨r,(ky (s':=(((a + 1:Nat):Int),(x:Int))) ?_).trans h1,?_⟩
     . unfold ej
       simp only [e,hg,Option.bind_some,decide_eq_false hne,cond_false]
       rfl
     . rcases h2 with ⟨h3,h4,h5⟩ | ⟨b,v,h3,h4,h5,h6,h7,h8,h9⟩
       . refine .inl ⟨h3,rfl,fun q g1 g2=>?_⟩
         by_cases hqa:q=a + 1
         . subst hqa; rw [hq,h4]; rfl
         . exact h5 q (by omega) g2
       . refine .inr ⟨b,v,h3,h4,h5,by omega,h7,.inr ?_,fun q g1 g2=>?_⟩
         . rcases h8 with ⟨rfl,rfl⟩ | ⟨g1,g2,g3⟩
           . exact ⟨by omega,rfl,hq⟩
           . exact ⟨by omega,rfl,g3⟩
         . by_cases hqa:q=a + 1
           . subst hqa
             rcases h8 with ⟨rfl,rfl⟩ | ⟨k1,k2,k3⟩
             . omega
             . rw [hq,k2]; rfl
           . exact h9 q (by omega) g2
   . refine ⟨.inl ((a:Int),(w:Int)),eG ?_,.inr ⟨a,w,rfl,h0,hx,Nat.le_refl a,by omega,.inl ⟨rfl,rfl⟩,fun q h1 h2=>by omega⟩⟩
     have h1:¬ ((w:Int)=0):=by omega
     unfold ej
     simp [h1,h0]
theorem k7 {l:List Int} {j:Nat} (h:∀ w,l[j / 64]? = some w→w=0):mem l j=false:=by
 unfold mem
 cases hl:l[j / 64]? with
 | none=>rfl
 | some w=>rw [h w hl]; simp
theorem kz {n:Nat} {l:List Int} (h:Ds n l) (i:Int):∃ r,bK (some ((n:Int),l)) i=some r∧((r = -1∧∀ j:Nat,i≤(j:Int)→mem l j=false) ∨
   ∃ k:Nat,r=(k:Int)∧i≤(k:Int)∧mem l k=true∧∀ j:Nat,i≤(j:Int)→j < k→mem l j=false):=by
 obtain ⟨c,hc⟩:∃ c:Nat,(if i < 0 then 0 else i)=(c:Int):=⟨(if i < 0 then 0 else i).toNat,by split <;> omega⟩
 have hci:∀ j:Nat,i≤(j:Int)↔c≤j:=fun j=>by split at hc <;> omega
 have hn:=h.hn
 have hl:=h.len
 unfold bK
 simp only [hc,ki,Option.bind_some]
 by_cases hk:c < n
 . have hd : decide (0 ≤ (c : Int) ∧ (c : Int) < n) = true := by simpa using hk
   obtain ⟨x,hx,hx2⟩:=h.word hk
   have e1:IntKind.wrap .i64 (Int.tdiv (c:Int) 64)=((c / 64:Nat):Int):=by
     rw [show Int.tdiv (c:Int) 64=((c / 64:Nat):Int) from rfl]
     exact w64 (by omega) (by omega)
   have e2:Int.tmod (c:Int) 64=((c % 64:Nat):Int):=rfl
   have g:ae l ((c / 64:Nat):Int)=some (x:Int):=by
     unfold ae
     rw [if_pos (Int.natCast_nonneg _),Int.toNat_natCast]
     exact hx
   have hr:c % 64 < 64:=Nat.mod_lt c (by decide)
   have hw2:x / 2 ^ (c % 64) * 2 ^ (c % 64) < 18446744073709551616:=Nat.lt_of_le_of_lt (Nat.div_mul_le_self x _) hx2
   obtain ⟨r,hlp,hcase⟩:=sT (n:=(n:Int)) h.wd (by omega) (l.length - 1 - c / 64) (c / 64) _ (by omega) hw2
   simp only [hd,Bool.not_true,cond_false,e1,e2,g,Option.bind_some,lG (Int.natCast_nonneg _),Int.toNat_natCast,sV x _ hx2 hr,hlp]
   rcases hcase with ⟨rfl,h4,h5⟩ | ⟨b,v,rfl,h4,h5,h6,h7,h8,h9⟩
   . refine ⟨-1,rfl,.inl ⟨rfl,fun j hj=>?_⟩⟩
     have hj:=(hci j).1 hj
     by_cases hja:j / 64=c / 64
     . rw [co (by rw [hja]; exact hx)]
       have:=iO x (c % 64) (j % 64)
       rw [h4,Nat.zero_testBit] at this
       have hle:c % 64≤j % 64:=by omega
       simpa [hle] using this.symm
     . refine k7 (fun w hw=>?_)
       have hlt:=(List.getElem?_eq_some_iff.1 hw).1
       rw [h5 (j / 64) (by omega) hlt] at hw
       exact (Option.some.inj hw).symm
   . obtain ⟨t1,t2,t3⟩:=vj h4 h5
     have ht:tzF (v:Int)=some ((Lib.ctz 64 v:Nat):Int):=by
       unfold tzF
       rw [if_pos ⟨Int.natCast_nonneg _,by omega⟩,Int.toNat_natCast]
     have e3:IntKind.wrap .i64 (IntKind.wrap .i64 ((b:Int) * 64) + ((Lib.ctz 64 v:Nat):Int))=((b * 64 + Lib.ctz 64 v:Nat):Int):=by
       rw [w64 (x:=(b:Int) * 64) (by omega) (by omega),w64 (by omega) (by omega)]
       omega
     refine ⟨((b * 64 + Lib.ctz 64 v:Nat):Int),by simp only [ht,Option.bind_some,e3],.inr ⟨_,rfl,?_⟩⟩
     generalize Lib.ctz 64 v=z at t1 t2 t3
     have d1:(b * 64 + z) / 64=b:=by omega
     have d2:(b * 64 + z) % 64=z:=by omega
     rcases h8 with ⟨rfl,rfl⟩ | ⟨g1,g2,g3⟩
     . rw [iO,Bool.and_eq_true] at t2
       have hz:c % 64≤z:=by simpa using t2.1
       refine ⟨(hci _).2 (by omega),?_,fun j hj hjk=>?_⟩
       . rw [co (x:=x) (by rw [d1]; exact hx),d2]
         exact t2.2
       . have hj:=(hci j).1 hj
         have:=t3 (j % 64) (by omega)
         rw [iO] at this
         rw [co (by rw [show j / 64=c / 64 by omega]; exact hx)]
         have hle:c % 64≤j % 64:=by omega
         simpa [hle] using this
     . refine ⟨(hci _).2 (by omega),?_,fun j hj hjk=>?_⟩
       . rw [co (x:=v) (by rw [d1]; exact g3),d2]
         exact t2
       . have hj:=(hci j).1 hj
         by_cases hja:j / 64=c / 64
         . rw [co (by rw [hja]; exact hx)]
           have:=iO x (c % 64) (j % 64)
           rw [g2,Nat.zero_testBit] at this
           have hle:c % 64≤j % 64:=by omega
           simpa [hle] using this.symm
         . by_cases hjb:j / 64=b
           . rw [co (by rw [hjb]; exact g3)]
             exact t3 _ (by omega)
           . exact k7 (fun w hw=>by
               rw [h9 (j / 64) (by omega) (by omega)] at hw
               exact (Option.some.inj hw).symm)
 . have hd:decide (0≤(c:Int)∧(c:Int) < n)=false:=by simpa using hk
   simp only [hd,Bool.not_false,cond_true]
   exact ⟨-1,rfl,.inl ⟨rfl,fun j hj=>h.top j (by have:=(hci j).1 hj; omega)⟩⟩
theorem gt (m j:Nat):mem (List.replicate m 0) j=false:=k7 (fun w hw=>by
 rw [List.getElem?_replicate] at hw
 split at hw
 . exact (Option.some.inj hw).symm
 . cases hw)
theorem pX {n:Nat} (h:n≤1048576):Ds n (List.replicate ((n + 63) / 64) 0) :=
 ⟨h,List.length_replicate,fun w hw=>by
   obtain ⟨_,rfl⟩:=List.mem_replicate.1 hw
   exact ⟨Int.le_refl _,by decide⟩,fun j _=>gt _ j⟩
theorem tW (n:Int):cj n=if n < 0 then some (.inl 2) else if 1048576 < n then some (.inl 5) else some (.inr (0,n,List.replicate ((n.toNat + 63) / 64) 0)):=by
 unfold cj
 by_cases h1:n < 0
 . simp [h1]
 . by_cases h2:1048576 < n
   . simp [h1,h2]
   . obtain ⟨k,rfl⟩:=Int.eq_ofNat_of_zero_le (by omega:0≤n)
     have e:IntKind.wrap .i64 (Int.tdiv (IntKind.wrap .i64 (IntKind.wrap .i64 ((k:Int) + 64) - 1)) 64)=(((k + 63) / 64:Nat):Int):=by
       rw [w64 (x:=(k:Int) + 64) (by omega) (by omega),w64 (x:=(k:Int) + 64 - 1) (by omega) (by omega),show (k:Int) + 64 - 1=((k + 63:Nat):Int) by omega]
       rw [show Int.tdiv ((k + 63:Nat):Int) 64=(((k + 63) / 64:Nat):Int) from rfl]
       exact w64 (by omega) (by omega)
     rw [e]
     have hm:(mk ((((k + 63) / 64:Nat):Int)) ((((k + 63) / 64:Nat):Int)) (0:Int))=some (List.replicate ((k + 63) / 64) 0):=by
       unfold mk
       rw [if_pos (by constructor <;> omega),Int.toNat_natCast]
     rw [hm]
     simp [h1,h2]
def bY (n:Nat) (l:List Int):List Nat:=(List.range n).filter (mem l)
def liN (L:List Nat):List Int:=L.map Int.ofNat
theorem ix {p:Nat→Bool} {c:Nat}:∀ (d:Nat),(∀ j,c≤j→j < c + d→p j=false)→(List.range (c + d)).filter p=(List.range c).filter p
 | 0,_=>rfl
 | d + 1,h=>by
   rw [← Nat.add_assoc,List.range_succ,List.filter_append,ix d (fun j h1 h2=>h j h1 (by omega))]
   simp [h (c + d) (by omega) (by omega)]
theorem eC (p:Nat→Bool) (c:Nat):((List.range c).filter p).length≤c:=by
 have:=List.length_filter_le p (List.range c)
 simpa using this
theorem vW {n:Nat} {l:List Int} (h:Ds n l) {body:Int×List Int→Option ((Int×List Int)⊕List Int)}
   (hb:∀ (c:List Int) (k:Nat),mem l k=true→body ((k:Int),c)=(app c [(k:Int)]).bind fun z=>(bK (some ((n:Int),l)) ((k:Int) + 1)).bind fun i=>some (.inl (i,z))) (he:∀ c,body (-1,c)=some (.inr c)) :
   ∃ r,bK (some ((n:Int),l)) 0=some r∧loop body (r,[])=some (liN (bY n l)):=by
 have hn:=h.hn
 have lt_of:∀ k,mem l k=true→k < n:=fun k hk=>by
   rcases Nat.lt_or_ge k n with h1 | h1
   . exact h1
   . rw [h.top k h1] at hk; cases hk
 have key:∀ (r:Int) (acc:List Int),(∃ c:Nat,c≤n∧acc=liN ((List.range c).filter (mem l))∧((r = -1∧∀ j:Nat,(c:Int)≤(j:Int)→mem l j=false)∨∃ k:Nat,r=(k:Int)∧(c:Int)≤(k:Int)∧mem l k=true∧∀ j:Nat,(c:Int)≤(j:Int)→j < k→mem l j=false)) →
     loop body (r,acc)=some (liN (bY n l)):=by
   intro r acc hI
   refine uv (fun s=>∃ c:Nat,c≤n∧s.2=liN ((List.range c).filter (mem l))∧((s.1 = -1∧∀ j:Nat,(c:Int)≤(j:Int)→mem l j=false)∨∃ k:Nat,s.1=(k:Int)∧(c:Int)≤(k:Int)∧mem l k=true∧∀ j:Nat,(c:Int)≤(j:Int)→j < k→mem l j=false)) (fun s=>if s.1 < 0 then 0 else n + 1 - s.1.toNat) ?_ (s:=(r,acc)) hI
   rintro ⟨r,acc⟩ ⟨c,hcn,rfl,hr⟩
   rcases hr with ⟨rfl,h2⟩ | ⟨k,rfl,h2,h3,h4⟩
   . right
     have e:bY n l=(List.range c).filter (mem l):=by
       unfold bY
       have:=ix (p:=mem l) (c:=c) (n - c) (fun j h1 _=>h2 j (by omega))
       rw [show c + (n - c)=n by omega] at this
       exact this
     rw [e]
     exact he _
   . left
     have hk:=lt_of k h3
     obtain ⟨r',g1,g2⟩:=kz h (((k + 1:Nat):Int))
     have e1:(k:Int) + 1=((k + 1:Nat):Int):=rfl
     have e2:(List.range (k + 1)).filter (mem l)=(List.range c).filter (mem l)++[k]:=by
       have:=ix (p:=mem l) (c:=c) (k - c) (fun j h5 h6=>h4 j (by omega) (by omega))
       rw [show c + (k - c)=k by omega] at this
       rw [List.range_succ,List.filter_append,this]
       simp [h3]
     have e3:app (liN ((List.range c).filter (mem l))) [(k:Int)]=some (liN ((List.range (k + 1)).filter (mem l))):=by
       have:=eC (mem l) c
       unfold app
       rw [if_pos (by simp [liN]; omega),e2]
       simp [liN]
     refine ⟨(r',liN ((List.range (k + 1)).filter (mem l))),?_,⟨k + 1,by omega,rfl,g2⟩,?_⟩
     . rw [hb _ k h3]
       simp only [e3,e1,g1,Option.bind_some]
     . show (if r' < 0 then 0 else n + 1 - r'.toNat) < (if (k:Int) < 0 then 0 else n + 1 - (k:Int).toNat)
       rw [if_neg (by omega:¬ (k:Int) < 0),Int.toNat_natCast]
       rcases g2 with ⟨rfl,_⟩ | ⟨k',rfl,k1,k2,_⟩
       . simp; omega
       . rw [if_neg (by omega:¬ (k':Int) < 0),Int.toNat_natCast]
         have:=lt_of k' k2
         omega
 obtain ⟨r,g1,g2⟩:=kz h 0
 exact ⟨r,g1,key r [] ⟨0,Nat.zero_le n,rfl,g2⟩⟩
end
end Go.Proofs.YtdjcapgpjpadeaaDoor

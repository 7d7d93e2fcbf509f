/- A part of the proof: what lies ahead of the law. Nothing is claimed here. -/
import Derived.Test.YtelekeapfgfknaaGreatZ3
import Derived.RangeFuncRecord
import Derived.Shelf.Strings.Builder1
import Derived.Shelf.Strings.Builder2
import Derived.Shelf.Strings.OnBuilder
import Derived.Shelf.Strings.BuilderF
import Derived.Shelf.Strings.BuilderK
import Derived.Shelf.Strings.Builder2Cap
import Derived.Shelf.Strings.BuilderCap
import Derived.Test.YtelekeapfgfknaaGreatProg
import Derived.Shelf.Vars
import Derived.Test.YtelekeapfgfknaaGreatRows
namespace Go.Proofs.YtelekeapfgfknaaGreat
noncomputable section
set_option linter.unusedVariables false
set_option linter.unusedSimpArgs false
set_option linter.unnecessarySimpa false
set_option linter.unusedSectionVars false
open Go.RowKit
section
variable [BldA]
def Hp.del (K:Hp) (D:Nat):Hp:=fun n=>if n=D then none else K n
theorem Hp.cle_del {K:Hp} {D:Nat} {x:Option (List Deferred)} (h:K D=some (.deferred x)):K.cle (K.del D):=fun g o v e=>by
 unfold aO Hp.del at *
 by_cases hg:g=D
 . subst hg; rw [h] at e; cases e
 . rw [if_neg hg]; exact e
section
variable {P:Program} {E:En} {n:Nat} {m:List M} {K:Hp} {fr:Frz} {σ:Zt} {ρ:Sl1} {w:World}
theorem Rel.unmark (hr:Rel E fr σ m K ρ w) {K2:Hp} {w2:World} (hc:K.cle K2) (hk:fr.K.le K2) (h0:fr.k0.le K2) (hs:Sep E K2 (σ.atoms fr m) w2):Rel E fr ⟨σ.base,σ.top,σ.H,σ.Hf,σ.nx,false⟩ m K2 ⟨ρ.f,[]⟩ w2 where
 hm:=hr.hm
 hK:=hk
 nx:=hr.nx
 kq:=fun e=>(by cases e)
 base:=hr.base
 dead:=hr.dead
 old:=hr.old
 top:=fun i sv hi=>SV.monoC (fun _ _ h=>h) hc sv (hr.top i sv hi)
 okH:=fun a ha=>HA.ok_monoC (fun _ _ h=>h) hc (hr.okH a ha)
 okF:=hr.okF
 mks:=MOk.nil hr.mks.1.1 h0
 sep:=hs
theorem kc {fn:Func} {tmps:Array Value} {R:Ending→World→Prop} {L:List ab} {k0:Hp}:∀ (ds:List Deferred) {K:Hp} {w:World},MOk k0 K ds→Sep E K L w →
   (∀ K2 w2,K.cle K2→k0.le K2→Sep E K2 L w2→∃ v,(results fn tmps).run P w2 = .ok v w2∧R (.returned v) w2)→LeavesInM Fence.wide 0 P fn tmps R ds .returning w
 | [],K,w,hm,hs,h=>h K w (Hp.cle_refl K) hm.1.2 hs
 | d :: ds,K,w,hm,hs,h=>by
   obtain ⟨D,rfl,hD,h0⟩:=hm.2.1 d (by simp)
   have hw:w.heap[D]? = some (.deferred (some [])):=hs.sub D _ hD
   have hnd:=List.nodup_cons.1 hm.2.2
   refine ⟨by simp,.inl ⟨D,w.putObj D (.deferred none),rfl,run_takeDeferred hw,?_⟩⟩
   have other:∀ (k:Nat) (o:Obj),k≠D→w.heap[k]? = some o→(w.putObj D (.deferred none)).heap[k]? = some o:=fun k o hne e=>by rw [World.putObj_heap_other hne]; exact e
   have hs1:Sep E (K.del D) L (w.putObj D (.deferred none)):=by
     refine Sep.move (w:=w) (w':=w.putObj D (.deferred none)) (fun e=>e) hs (fun k o e=>?_) (fun k o e e1=>?_)
     . unfold Hp.del at e
       split at e
       . cases e
       . rename_i hne; exact other k o hne (hs.sub k o e)
     . have hne:k≠D:=fun e2=>by rw [e2,hD] at e1; cases e1
       exact ⟨by unfold Hp.del; rw [if_neg hne]; exact e1,other k o hne e⟩
   refine kc ds ⟨⟨hm.1.1,fun k o e=>?_⟩,fun d' hd'=>?_,hnd.2⟩ hs1 (fun K2 w2 c1 c2 c3=>h K2 w2 ((Hp.cle_del hD).trans c1) c2 c3)
   . unfold Hp.del
     rw [if_neg (fun e2=>by rw [e2,h0] at e; cases e)]
     exact hm.1.2 k o e
   . obtain ⟨D',rfl,h1,h2⟩:=hm.2.1 d' (List.mem_cons_of_mem _ hd')
     refine ⟨D',rfl,?_,h2⟩
     unfold Hp.del
     rw [if_neg (fun e=>hnd.1 (by rw [← e]; exact hd'))]
     exact h1
end
section
variable {P:Program} {E:En} {K:Hp} {L:List ab} {w:World}
theorem LpA.at {l:Nat} {r:Loop} (h:Sep E K (LpA l r :: L) w):w.heap[l]? = some (.loop r):=by
 obtain ⟨h1,rfl,hd,hs⟩:=h
 exact hs.sub l _ (Hp.join_right (aM l _) (hd l _ (aM l _)))
theorem LpA.put {l:Nat} {r r':Loop} (h:Sep E K (LpA l r :: L) w):Sep E K (LpA l r' :: L) (w.putObj l (.loop r')):=by
 have hw:=LpA.at h
 have hlt:=(Array.getElem?_eq_some_iff.1 hw).1
 refine Sep.turn h (fun e=>e) (fun h1 hA hle=>?_)
 obtain rfl:=hA
 refine ⟨one l (.loop r'),rfl,fun n o e=>?_,fun n o e e1=>?_⟩
 . obtain ⟨rfl,rfl⟩:=b0 e
   exact ⟨World.putObj_heap_same hlt,fun e2=>by rw [aM] at e2; cases e2⟩
 . have hne:n≠l:=fun e2=>by subst e2; rw [aM] at e1; cases e1
   rw [World.putObj_heap_other hne]; exact e
theorem uZ {l₀:Nat} {r₀:Loop} (h:w.heap[l₀]? = some (.loop r₀)) (fn:FuncId) (tmps:Array Value) (ps:Array Tmp) (assign body:Code) :
   (Instr.enterLoop fn tmps ps assign body (some l₀)).run P w =
     .ok (w.heap.size,[]) (w.alloc (.loop { state := .ready,pending:=none,fn,tmps,params:=ps,assign,body,defers:=r₀.defers })):=by
 unfold Instr.enterLoop
 simp only [Sem.run_bind,run_getLoop h,run_newObj_alloc,Result.andThen,Sem.run_pure]
theorem Sep.allocO (h:Sep E K L w) (o:Obj):Sep E K ((fun hh=>hh=one w.heap.size o) :: L) (w.alloc o) :=
 Sep.turn h.emp (fun e=>e) (fun h0 ha _=>by
   unfold _root_.Go.Proofs.YtelekeapfgfknaaGreat.emp at ha; subst ha
   refine ⟨one w.heap.size o,rfl,fun n x e=>?_,fun n x e _=>?_⟩
   . obtain ⟨rfl,rfl⟩:=b0 e
     exact ⟨World.alloc_heap_new w _,fun _=>Array.getElem?_eq_none (Nat.le_refl _)⟩
   . rw [Below.heap_alloc _ _ _ (lt_of_block e)]; exact e)
theorem Sep.known {o:Obj} {b:Nat} (h:Sep E K ((fun hh=>hh=one b o) :: L) w):Sep E (K.join (one b o)) L w∧K b=none:=by
 obtain ⟨h1,rfl,hd,hs⟩:=h
 exact ⟨hs,hd b _ (aM b o)⟩
end
def fA (r:Loop):Loop:={ r with state := .busy,pending:=none }
def hY (E:En) (fr:Frz):Prop:=∀ l,E.rd=some l→∃ r,LpA l r∈fr.F
section
variable {R:Type} {P:Program} {E:En} {n:Nat} {m m':List M} {K K':Hp} {fr:Frz} {σ σ':Zt} {ρ ρ':Sl1} {w w':World}
def Fok (P:Program) (n:Nat) (c:Code) (f:Hn P→Zt→(R:Type)→(Exit→Hn P→Zt→Option R)→Option R):Prop :=
 ∀ (R:Type) (E:En) (fr:Frz),hY E fr→∀ (h:Hn P) (σ:Zt) (k:Exit→Hn P→Zt→Option R) (r:R) (m:List M) (K:Hp) (ρ:Sl1) (w:World) (Q:Exit→Act→World→Prop),f h σ R k=some r→Rel E fr σ m K ρ w →
   (∀ e h' σ' m' K' ρ' w',Rel E fr σ' m' K' ρ' w'→Same σ σ'→k e h' σ'=some r→Q e (act1 n ρ') w')→c.wpIn (aw E.rd) 0 P Q (act1 n ρ) w
def JOk (J:Rn P):Prop:=∀ n c,Fok P n c (fun h σ R k=>J n c R h σ k)
def cS:List Nat→List Value→Sl0→Sl0
 | p :: ps,x :: xs,f=>cS ps xs (upd f p x)
 | _,_,f=>f
theorem yA {ρ:Sl0} {p:Nat} {v:Value}:(frm n ρ).setIfInBounds p v=frm n (upd ρ p v):=by
 have h:=congrArg Act.tmps (Go.Proofs.YtelekeapfgfknaaGreat.put_act n ρ p v)
 unfold act Act.put at h
 exact h
theorem qG:∀ (ps:List Nat) (xs:List Value) (ρ:Sl0),(ps.zip xs).foldl (fun t (q:Nat×Value)=>t.setIfInBounds q.1 q.2) (frm n ρ)=frm n (cS ps xs ρ)
 | [],xs,ρ=>rfl
 | p :: ps,[],ρ=>rfl
 | p :: ps,x :: xs,ρ=>by
   show (ps.zip xs).foldl _ ((frm n ρ).setIfInBounds p x)=_
   rw [yA]
   exact qG ps xs (upd ρ p x)
theorem qF:∀ (ps:List Nat) {xs:List SV} {us:List Value} {f:Nat→SV} {ρ:Sl0},SV.relL m K xs us→(∀ i,SV.rel m K (f i) (ρ i))→∀ i,SV.rel m K (lW ps xs f i) (cS ps us ρ i)
 | [],xs,us,f,ρ,h,hf,i=>hf i
 | p :: ps,[],us,f,ρ,h,hf,i=>by
   obtain rfl:=aI h
   exact hf i
 | p :: ps,x :: xs,us,f,ρ,h,hf,i=>by
   obtain ⟨u,r,rfl,h1,h2⟩:=aA h
   refine qF ps (us:=r) (ρ:=upd ρ p u) h2 (fun j=>?_) i
   show SV.rel m K (bif Nat.beq j p then x else f j) (bif Nat.beq j p then u else ρ j)
   cases Nat.beq j p with
   | true=>exact h1
   | false=>exact hf j
theorem ky:∀ {xs:List SV} {us:List Value},SV.relL m K xs us→us.length=xs.length
 | [],us,h=>by obtain rfl:=aI h; rfl
 | x :: xs,us,h=>by
   obtain ⟨u,r,rfl,h1,h2⟩:=aA h
   simp [ky h2]
theorem vY {J:Rn P} (hJ:JOk J) {c:SV} {xs:List SV} {h:Hn P} {k:Hn P→Zt→Bool→Option R} {r:R} (hh:ow J σ c xs h k=some r) (hr:Rel E fr σ m K ρ w) {us:List Value} {v:Value} (hv:SV.rel m K c v) (hxs:SV.relL m K xs us) {X:Ending→World→Prop}
   (hX:∀ h' σ' m' K' w' b,Rel E fr σ' m' K' ρ w'→Same σ σ'→k h' σ' b=some r→X (.returned (.bool b)) w') :
   ∃ l,v = .func (.yield l) #[] #[]∧∃ fn tmps ao bo,(Instr.yield l us.toArray).run P w = .ok (.round l fn tmps ao bo) w∧RoundIn (aw E.rd) 0 P l fn tmps ao bo w X:=by
 unfold ow at hh
 split at hh
 . rename_i i n0 vs0 ps ao bo
   obtain ⟨l,rr,ρ0,rfl,hm,ht,hp,ha,hb,hvs⟩:=hv
   replace hh:=ah hh; obtain ⟨hlen,hh⟩:=hh
   have hlen:=Nat.eq_of_beq_eq_true hlen
   split at hh
   . rename_i H hq
     obtain ⟨a,ha',hmem,hperm⟩:=bd hq
     obtain rfl:=ox ha'
     have hsub:∀ a∈H,a∈σ.H:=fun a ha=>hperm.symm.subset (List.mem_cons_of_mem _ ha)
     -- the record, ahead
     have hs0:Sep E K (LpA l (LSt.ready.cr rr) :: (H.map (HA.conc m)++σ.fz fr)) w:=by
       have:=Sep.perm ((hperm.map (HA.conc m)).append_right (σ.fz fr)) hr.toSep
       simpa only [List.map_cons,HA.conc,hm,List.cons_append] using this
     have hw:=LpA.at hs0
     have hy:=run_yield (P:=P) (args:=us.toArray) hw (by
       show us.toArray.size=rr.params.size
       rw [hp,List.size_toArray,ky hxs,hlen])
     refine ⟨l,rfl,_,_,_,_,hy,roundIn_of_wpIn trivial ?_⟩
     have htm:(((LSt.ready.cr rr).params.zip us.toArray).foldl (fun tmps (t,a)=>tmps.setIfInBounds t a) (LSt.ready.cr rr).tmps)=frm n0 (cS ps.toList us ρ0):=by
       show ((rr.params.zip us.toArray).foldl _ rr.tmps)=_
       rw [hp,ht,← Array.foldl_toList,Array.toList_zip]
       exact qG ps.toList us ρ0
     rw [htm]
     show rr.assign.wpIn (aw (some l)) 0 P _ (act1 n0 ⟨cS ps.toList us ρ0,[]⟩) w
     rw [ha]
     have hE:∀ (L:List ab) (K:Hp) (w:World),Sep E K L w→Sep { E with rd:=some l } K L w:=fun L K w=>Sep.rd (E:=E) (E':={ E with rd:=some l }) (fun w h=>h)
     have hE':∀ (L:List ab) (K:Hp) (w:World),Sep { E with rd:=some l } K L w→Sep E K L w:=fun L K w=>Sep.rd (E:={ E with rd:=some l }) (E':=E) (fun w h=>h)
     have mid:∀ (A B C:List ab) (x:ab),(A++(B++x :: C)).Perm (x :: (A++(B++C))):=fun A B C x=>by
       rw [← List.append_assoc,← List.append_assoc]; exact List.perm_middle
     have hrel:Rel { E with rd:=some l } ⟨m,K,⟨cS ps.toList us ρ0,[]⟩,fun _=>false,LpA l (LSt.ready.cr rr) :: fr.F,K⟩ ⟨lW ps.toList xs vs0,[],H,σ.Hf,σ.nx,false⟩ m K ⟨cS ps.toList us ρ0,[]⟩ w:=by
       refine ⟨⟨List.prefix_refl m,Hp.le_refl K,hr.nx,fun e=>(by cases e),fun i=>qF ps.toList hxs hvs i,fun i e=>(by cases e),fun i _ => .inr rfl,fun i sv e=>(by cases e),fun a ha=>hr.okH a (hsub a ha),fun a ha=>hr.toPur.all a (List.mem_append_right _ ha),MOk.nil hr.mks.gk (Hp.le_refl K)⟩,?_⟩
       show Sep _ K (H.map (HA.conc m)++(σ.Hf.map (HA.conc m)++(LpA l (LSt.ready.cr rr) :: fr.F))) w
       refine hE _ _ _ (Sep.perm (mid _ _ _ _).symm ?_)
       rw [hr.toPur.fz']
       exact hs0
     refine hJ n0 ao _ { E with rd:=some l } ⟨m,K,⟨cS ps.toList us ρ0,[]⟩,fun _=>false,LpA l (LSt.ready.cr rr) :: fr.F,K⟩ (by intro l2 e; cases e; exact ⟨_,List.mem_cons_self⟩) h _ _ r m K _ w _ hh hrel (fun e h' σ1 m1 K1 ρ1 w1 h1 h2 h3=>?_)
     cases e with
     | normal =>
       have hs1:Sep E K1 (LpA l (LSt.ready.cr rr) :: (σ1.H.map (HA.conc m1)++(σ1.Hf.map (HA.conc m)++fr.F))) w1:=Sep.perm (mid _ _ _ _) (hE' _ _ _ h1.sep)
       have hw1:=LpA.at hs1
       refine ⟨w1.putObj l (.loop (fA rr)),run_beginRound hw1 rfl,?_⟩
       have hs2:=LpA.put (r':=(fA rr)) hs1
       have hrel2:Rel { E with rd:=some l } ⟨m,K,⟨cS ps.toList us ρ0,[]⟩,fun _=>false,LpA l (fA rr) :: fr.F,K⟩ σ1 m1 K1 ρ1 (w1.putObj l (.loop (fA rr))) :=
         ⟨⟨h1.hm,h1.hK,h1.nx,h1.kq,h1.base,h1.dead,h1.old,h1.top,h1.okH,h1.okF,h1.mks⟩,hE _ _ _ (Sep.perm (mid _ _ _ _).symm hs2)⟩
       show (LSt.ready.cr rr).body.wpIn (aw (some l)) 0 P _ (act1 n0 ρ1) _
       rw [show (LSt.ready.cr rr).body=bo from hb]
       refine hJ n0 bo _ { E with rd:=some l } ⟨m,K,⟨cS ps.toList us ρ0,[]⟩,fun _=>false,LpA l (fA rr) :: fr.F,K⟩ (by intro l2 e; cases e; exact ⟨_,List.mem_cons_self⟩) h' σ1 _ r m1 K1 ρ1 _ _ h3 hrel2 (fun e2 h'' σ2 m2 K2 ρ2 w2 g1 g2 g3=>?_)
       have hs3:Sep E K2 (LpA l (fA rr) :: (σ2.H.map (HA.conc m2)++(σ2.Hf.map (HA.conc m)++fr.F))) w2:=Sep.perm (mid _ _ _ _) (hE' _ _ _ g1.sep)
       have hw3:=LpA.at hs3
       have back:∀ (s:LSt) (b:Bool) (jump:Option Code),tj e2=some (b,s)→b=jump.isNone→s.cr rr = { fA rr with state:=if jump.isNone then .ready else .done,pending:=jump } →
           ∃ v w',(Instr.endRound l jump).run P w2 = .ok v w'∧X (.returned v) w':=fun s b jump e1 e2 e3=>by
         subst e2
         rw [e1] at g3
         simp only at g3
         refine ⟨_,_,run_endRound jump hw3,?_⟩
         refine hX h'' ⟨σ.base,σ.top,.lp i s :: σ2.H,σ.Hf,σ2.nx,false⟩ m2 K2 _ _ ?_ ⟨rfl,rfl⟩ g3
         have hm2:m <+: m2:=g1.hm
         have hK2:K.le K2:=g1.hK
         have hm2':∀ (i:Nat) (x:M),m[i]? = some x→m2[i]? = some x:=fun _ _ k=>aj hm2 k
         refine ⟨⟨hr.hm.trans hm2,hr.hK.trans hK2,g1.nx,fun e=>(by cases e),hr.base,hr.dead,hr.old,fun i sv hi=>SV.mono hm2' hK2 sv (hr.top i sv hi),fun a ha=>?_,hr.okF,hr.mks.mono hK2⟩,?_⟩
         . rcases List.mem_cons.1 ha with rfl | ha
           . exact ⟨l,rr,hm2' _ _ hm⟩
           . exact g1.okH a ha
         . have:=LpA.put (r':=s.cr rr) hs3
           have hHf:σ2.Hf=σ.Hf:=(h2.trans g2).2
           rw [hHf,hr.toPur.fz'] at this
           show Sep E K2 ((HA.lp i s :: σ2.H).map (HA.conc m2)++(σ.Hf.map (HA.conc fr.m)++fr.F)) _
           simp only [List.map_cons,HA.conc,hm2' _ _ hm,List.cons_append]
           rw [e3] at this ⊢
           exact this
       cases e2 with
       | normal=>exact back .ready true none rfl rfl rfl
       | ret=>exact back .ret false (some .ret) rfl rfl rfl
       | exit id=>exact back (.exit id) false (some (.exit id)) rfl rfl rfl
       | goto t=>cases g3
       | panic ch=>cases g3
       | outgrown=>cases g3
     | exit id=>cases h3
     | goto t=>cases h3
     | ret=>cases h3
     | panic ch=>cases h3
     | outgrown=>cases h3
   . cases hh
 . cases hh
theorem vJ {F:Fence} {N:Nat} {o:Oper} {a:Act} {w:World} {X:Act→World→Prop} {Q Q':Exit→Act→World→Prop} (hq:∀ e a w,Q e a w→e ≠ .normal→Q' e a w) (hh:o.wpIn F N P a w X Q):o.wpIn F N P a w X Q':=by
 unfold Oper.wpIn at *
 refine ⟨hh.1,?_⟩
 have hh:=hh.2
 have lo:LetsOut Q→LetsOut Q':=fun ⟨a,w,h⟩=>⟨a,w,hq _ _ _ h nofun⟩
 generalize (o.semAt F.round a.eval).run P w=r at *
 cases r with
 | ok x w' =>
   cases x <;> simp only [Oper.uponIn] at hh ⊢ <;>
     first
       | exact hh
       | exact ⟨hh.1,CallsIn.mono hh.2 (fun e w'' he=>by cases e <;> first | exact he | exact hq _ _ _ he nofun | exact lo he)⟩
       | exact ⟨hh.1,RowsIn.mono hh.2 (fun _ _ he=>he)⟩
       | exact ⟨hh.1,RoundIn.mono hh.2 (fun e w'' he=>by cases e <;> first | exact he | exact hq _ _ _ he nofun | exact lo he)⟩
       | exact hh.elim
 | halt x w'=>cases x <;> simp only [Oper.uponIn] at hh ⊢ <;> first | exact hq _ _ _ hh nofun | exact lo hh | exact hh
theorem mU {r:Option Nat} {ops:Array Oper} {Q:Exit→Act→World→Prop} {rest:List Oper}:∀ {l:List Oper} {a:Act} {w:World},l.all bw=true→ak P ops (fun e a w=>e = .normal∧wpListIn (aw r) 0 P ops Q rest a w) l a w→wpListIn (aw r) 0 P ops Q (l++rest) a w
 | [],a,w,_,h=>h.2
 | o :: l,a,w,hd,h=>by
   simp only [List.all_cons,Bool.and_eq_true] at hd
   unfold ak at h
   rw [List.cons_append]
   unfold wpListIn
   split
   . rename_i hw; rw [if_pos hw] at h
     exact vJ (fun e a w h hne=>absurd h.1 hne) (Oper.wpIn_mono (fun a w h=>mU hd.2 h) (km hd.1 h))
   . rename_i hw; rw [if_neg hw] at h
     exact ⟨fun _ _=>trivial,mU hd.2 h⟩
theorem nt {f:Operand→SV} {g:Operand→Value} (hf:∀ x,SV.rel m K (f x) (g x)):∀ l:List Operand,SV.relL m K (l.map f) (l.map g)
 | []=>rfl
 | x :: l=>⟨_,_,rfl,hf x,nt hf l⟩
theorem nq:∀ {vs:List SV} {us:List Value} {j i:Nat} {sv:SV},SV.relL m K vs us→an (slA j vs) i=some sv→∃ k u,i=j + k∧us[k]? = some u∧SV.rel m K sv u
 | [],us,j,i,sv,h,hl=>by cases hl
 | v :: vs,us,j,i,sv,h,hl=>by
   obtain ⟨u,q,rfl,h1,h2⟩:=aA h
   change (bif Nat.beq j i then some v else an (slA (j + 1) vs) i)=some sv at hl
   cases hb:Nat.beq j i with
   | true =>
     rw [hb] at hl
     cases hl
     exact ⟨0,u,(Nat.eq_of_beq_eq_true hb).symm,rfl,h1⟩
   | false =>
     rw [hb] at hl
     obtain ⟨k,u',e1,e2,e3⟩:=nq (j:=j + 1) h2 hl
     exact ⟨k + 1,u',by omega,by simpa using e2,e3⟩
theorem xM {fn:Func} {ρ:Sl0} {j:Nat} (h:fn.results.toList=[.tmp j]):(results fn (frm n ρ)).run P w = .ok (Go.Proofs.YtelekeapfgfknaaGreat.ev n ρ (.tmp j)) w:=by
 have h':fn.results = #[.tmp j]:=Array.ext' (by rw [h])
 exact Res.one (C:=fun _=>True) (v1:=Go.Proofs.YtelekeapfgfknaaGreat.ev n ρ (.tmp j)) h' rfl w trivial
theorem xF {J:Rn P} (hJ:JOk J) {q:ItFn P} {c:Code} (hc:q.fn.body=some c) {vs:List SV} {us:List Value} (hus:SV.relL m K vs us) {j d:Nat} (hres:q.fn.results.toList=[.tmp j]) (hlen:vs.length≤q.fn.ntmps) {h0:Hn P} {k:Hn P→Zt→Option R} {r:R}
   (hh:J q.fn.ntmps c R h0 ⟨fun _ => .any,slA 0 vs,σ.H,σ.Hf,σ.nx,false⟩ (fun e h σ'=>bif k9 e then k h.unw (Zt.set ⟨σ.base,σ.top,σ'.H,σ.Hf,σ'.nx,false⟩ d (σ'.ev q.fn.ntmps (.tmp j))) else none)=some r)
   (hr:Rel E fr σ m K ρ w) {X:Ending→World→Prop}
   (hX:∀ h' σ1 sv v m' K' w',Rel E fr σ1 m' K' ρ w'→Same σ σ1→SV.rel m' K' sv v→k h' (σ1.set d sv)=some r→X (.returned v) w') :
   CallsIn (aw E.rd) 0 P q.f us.toArray w X:=by
 obtain ⟨args,hargs⟩:∃ args:Array Value,args=us.toArray:=⟨_,rfl⟩
 rw [← hargs]
 have hsz:args.size≤q.fn.ntmps:=by rw [hargs,List.size_toArray,ky hus]; exact hlen
 have hrel:Rel E.out0 ⟨m,K,bR args,fun _=>false,fr.F,K⟩ ⟨fun _ => .any,slA 0 vs,σ.H,σ.Hf,σ.nx,false⟩ m K (bR args) w:=by
   refine ⟨⟨List.prefix_refl _,Hp.le_refl K,hr.nx,fun e=>(by cases e),fun i=>trivial,fun i e=>(by cases e),fun i _ => .inr rfl,fun i sv hi=>?_,fun a ha=>hr.okH a ha,fun a ha=>hr.toPur.all a (List.mem_append_right _ ha),MOk.nil hr.mks.gk (Hp.le_refl K)⟩,?_⟩
   . obtain ⟨j',u,e1,e2,e3⟩:=nq hus hi
     have:bR args i=u:=by
       show cM args i=u
       unfold cM
       rw [e1,Nat.zero_add,hargs]
       simp [e2]
     rw [this]; exact e3
   . show Sep E.out0 K (σ.H.map (HA.conc m)++(σ.Hf.map (HA.conc m)++fr.F)) w
     rw [hr.toPur.fz']
     exact hr.toSep.out0
 have key:CallsIn Fence.wide 0 P q.f args w X:=by
   refine callsIn_of_wp_marks (F:=Fence.wide) (n:=0) q.at_ hc trivial ?_
   rw [kH hsz]
   refine hJ q.fn.ntmps c R E.out0 ⟨m,K,bR args,fun _=>false,fr.F,K⟩ (fun l2 e=>by cases e) h0 _ _ r _ K (bR args) w _ hh hrel (fun e h' σ' m' K' ρ' w' h1 h2 h3=>?_)
   replace h3:=ah h3; obtain ⟨hov,h3⟩:=h3
   have fini:LeavesInM Fence.wide 0 P q.fn (act1 q.fn.ntmps ρ').tmps X ρ'.ds .returning w':=by
     refine kc ρ'.ds h1.mks h1.toSep (fun K2 w2 c1 c2 c3=>?_)
     refine ⟨_,xM (n:=q.fn.ntmps) (ρ:=ρ'.f) hres,?_⟩
     have g:=h1.unmark c1 c2 c2 c3
     have hm2:m <+: m':=g.hm
     have hm2':∀ (i:Nat) (x:M),m[i]? = some x→m'[i]? = some x:=fun _ _ k=>aj hm2 k
     have hv:SV.rel m' K2 (σ'.ev q.fn.ntmps (.tmp j)) (Go.Proofs.YtelekeapfgfknaaGreat.ev q.fn.ntmps ρ'.f (.tmp j)):=SV.monoC (fun _ _ h=>h) c1 _ (h1.toPur.ev q.fn.ntmps (.tmp j))
     have e2:σ'.Hf.map (HA.conc m)=σ.Hf.map (HA.conc fr.m):=by rw [h2.2]; exact hr.toPur.fz'
     have hs3:Sep E K2 (σ'.H.map (HA.conc m')++(σ.Hf.map (HA.conc fr.m)++fr.F)) w2:=by
       have:=c3.back (E:=E)
       rw [← e2]; exact this
     refine hX h'.unw ⟨σ.base,σ.top,σ'.H,σ.Hf,σ'.nx,false⟩ _ _ m' K2 w2 ⟨⟨hr.hm.trans hm2,hr.hK.trans c2,g.nx,fun e=>(by cases e),hr.base,hr.dead,hr.old,fun i sv hi=>SV.mono hm2' c2 sv (hr.top i sv hi),fun a ha=>g.okH a ha,hr.okF,hr.mks.mono c2⟩,hs3⟩ ⟨rfl,rfl⟩ hv h3
   cases e with
   | normal=>exact fini
   | ret=>exact fini
   | exit id=>cases hov
   | goto t=>cases hov
   | panic ch=>cases hov
   | outgrown=>cases hov
 exact key
theorem yW {J:Rn P} (hJ:JOk J) {o:Oper} {h:Hn P} {k:Hn P→Zt→Option R} {r:R} {ops:Array Oper} {rest:List Oper} {Q:Exit→Act→World→Prop} (hh:yop J n o h σ k=some r) (hr:Rel E fr σ m K ρ w) (hwt:Region.wanted o (yielded ops (act1 n ρ).tmps)=true)
   (hk:∀ h' σ' m' K' ρ' w',Rel E fr σ' m' K' ρ' w'→Same σ σ'→k h' σ'=some r→wpListIn (aw E.rd) 0 P ops Q rest (act1 n ρ') w'):wpListIn (aw E.rd) 0 P ops Q (o :: rest) (act1 n ρ) w:=by
 unfold yop at hh
 split at hh
 . rename_i d c args ats t pos af gu
   split at hh
   . rename_i q h1
     split at hh
     . rename_i f e
       have hv:=hr.toPur.ev n c
       rw [e] at hv
       obtain ⟨caps,hv,hcaps⟩:=hv
       obtain rfl:=aI hcaps
       unfold sM at hh
       split at hh
       . rename_i cc j hcc hres
         replace hh:=ah hh; obtain ⟨hb,hh⟩:=hh
         rw [Bool.and_eq_true] at hb
         obtain rfl:=Nat.eq_of_beq_eq_true hb.1
         unfold wpListIn
         rw [if_pos hwt]
         refine ⟨fun _ _=>trivial,?_⟩
         rw [oN rfl,bx]
         have hrun:(execOp (Go.Proofs.YtelekeapfgfknaaGreat.ev n ρ.f) ⟨some d,.call ⟨.value c,args,ats⟩,t,pos,af,gu⟩).run P w = .ok (.enter q.f (args.toList.map (Go.Proofs.YtelekeapfgfknaaGreat.ev n ρ.f)).toArray) w:=by
           have e2:(args.toList.map (Go.Proofs.YtelekeapfgfknaaGreat.ev n ρ.f)).toArray=args.map (Go.Proofs.YtelekeapfgfknaaGreat.ev n ρ.f):=Array.ext' (by rw [Array.toList_map])
           have hv':Go.Proofs.YtelekeapfgfknaaGreat.ev n ρ.f c = .func (.func q.f) #[] #[]:=hv
           have:=q.ent (args.map (Go.Proofs.YtelekeapfgfknaaGreat.ev n ρ.f)) w
           rw [e2]
           simp [execOp,resolve,Deferred.ofValue,hv',invoke,this]
         rw [hrun,Oper.uponIn_enter]
         refine ⟨fun hh=>(by cases (show false=true from hh)),?_⟩
         refine xF hJ hcc (nt (fun x=>hr.toPur.evr n x) args.toList) hres (Nat.le_of_ble_eq_true hb.2) hh hr (fun h' σ1 sv v m' K' w' g1 g2 g3 g4=>?_)
         show wpListIn _ _ _ _ _ _ ((act1 n ρ).put (some d) v) _
         rw [bn]
         exact hk h' _ m' K' _ w' (g1.set (d:=d) (sv:=sv) (v:=v) g3) g2 g4
       . cases hh
     . cases hh
   . obtain ⟨l,hv,fn,tmps,ao,bo,hy,hround⟩:=vY hJ hh hr (hr.toPur.ev n c) (nt (fun x=>hr.toPur.evr n x) args.toList)
       (X:=fun e w''=>match e with
         | .returned v=>wpListIn (aw E.rd) 0 P ops Q rest ((act1 n ρ).put (some d) v) w''
         | .panicked chain=>Q (.panic chain) (act1 n ρ) w''
         | .outgrown=>LetsOut Q)
       (fun h' σ' m' K' w' b h1 h2 h3=>by
         show wpListIn _ _ _ _ _ _ ((act1 n ρ).put (some d) (.bool b)) _
         rw [bn]
         exact hk h' _ m' K' _ w' (h1.set (d:=d) (sv := .bool b) (v := .bool b) rfl) h2 h3)
     unfold wpListIn
     rw [if_pos hwt]
     refine ⟨fun _ _=>trivial,?_⟩
     rw [oN rfl,bx]
     have hrun:(execOp (Go.Proofs.YtelekeapfgfknaaGreat.ev n ρ.f) ⟨some d,.call ⟨.value c,args,ats⟩,t,pos,af,gu⟩).run P w = .ok (.round l fn tmps ao bo) w:=by
       have e:(args.toList.map (Go.Proofs.YtelekeapfgfknaaGreat.ev n ρ.f)).toArray=args.map (Go.Proofs.YtelekeapfgfknaaGreat.ev n ρ.f):=Array.ext' (by rw [Array.toList_map])
       rw [e] at hy
       have hv':Go.Proofs.YtelekeapfgfknaaGreat.ev n ρ.f c = .func (.yield l) #[] #[]:=hv
       simp [execOp,resolve,Deferred.ofValue,hv',invoke,hy]
     rw [hrun,Oper.uponIn_round]
     refine ⟨fun hh=>(by cases (show false=true from hh)),hround.mono (fun e w'' he=>?_)⟩
     cases e <;> exact he
 . cases hh
theorem wS {fn:Func} {tmps:Array Value} (h:fn.results.isEmpty=true):∃ v,(results fn tmps).run P w = .ok v w:=by
 have h':fn.results = #[]:=by simpa using h
 refine ⟨.tuple #[],?_⟩
 unfold results
 simp [h']
theorem yF {J:Rn P} (hJ:JOk J) {ps:Array Nat} {ao bo:Code} {h0:Hn P} {k:Exit→Hn P→Zt→Option R} {r:R} {Q:Exit→Act→World→Prop} {q:ItFn P} {c:Code} (hc:q.fn.body=some c) {cs:List SV} {us:List Value} (hus:SV.relL m K cs us)
   (hres:q.fn.results.isEmpty=true) (hlen:cs.length + 1≤q.fn.ntmps)
   (hh : J q.fn.ntmps c R h0 ⟨fun _ => .any, slA 0 (.yld σ.nx n σ.get ps ao bo :: cs), .lp σ.nx .ready :: σ.H, σ.Hf, σ.nx + 1, false⟩ (fun e h σ' =>
         bif k9 e then (match pick (HA.lpR σ.nx) σ'.H with
           | some (s,H)=>LSt.go s k h ⟨σ.base,σ.top,H,σ.Hf,σ'.nx,false⟩
           | none=>none) else none)=some r)
   (hr:Rel E fr σ m K ρ w) {l:Nat} {mark:List Deferred} {K1:Hp} {w1:World} {fn1:FuncId} {D:Nat}
   (hs1:Sep E K1 (LpA l { state := .ready,pending:=none,fn:=fn1,tmps:=frm n ρ.f,params:=ps,assign:=ao,body:=bo,defers:=D } :: σ.atoms fr m) w1) (hK1:K.le K1) (hm1:MOk fr.k0 K1 (mark++ρ.ds))
   (hQ:∀ e h' σ' m' K' ρ' w',Rel E fr σ' m' K' ρ' w'→Same σ σ'→k e h' σ'=some r→Q e (act1 n ρ') w') :
   CallsIn (aw E.rd) 0 P q.f (#[.func (.yield l) #[] #[]]++us.toArray) w1 (rangePost (aw E.rd) 0 P l Q { act1 n ρ with defers:=mark++(act1 n ρ).defers }):=by
 obtain ⟨r1,hr1⟩:∃ r1:Loop,r1 = { state := .ready,pending:=none,fn:=fn1,tmps:=frm n ρ.f,params:=ps,assign:=ao,body:=bo,defers:=D }:=⟨_,rfl⟩
 rw [← hr1] at hs1
 obtain ⟨args,hargs⟩:∃ args:Array Value,args=(Value.func (.yield l) #[] #[] :: us).toArray:=⟨_,rfl⟩
 have hargs':(#[.func (.yield l) #[] #[]]++us.toArray:Array Value)=args:=by rw [hargs]; exact Array.ext' (by simp)
 rw [hargs']
 have hp:=ar m [M.loop l r1]
 have hmm:∀ (i:Nat) (x:M),m[i]? = some x→(m++[M.loop l r1])[i]? = some x:=fun _ _ k=>aj hp k
 have hgn:(m++[M.loop l r1])[σ.nx]? = some (.loop l r1):=aC hr.nx
 have hsz:args.size≤q.fn.ntmps:=by
   rw [hargs,List.size_toArray,List.length_cons,ky hus]
   exact hlen
 have hall:SV.relL (m++[M.loop l r1]) K1 (.yld σ.nx n σ.get ps ao bo :: cs) (Value.func (.yield l) #[] #[] :: us) :=
   ⟨_,_,rfl,⟨l,r1,ρ.f,rfl,hgn,by rw [hr1],by rw [hr1],by rw [hr1],by rw [hr1],fun j=>SV.mono hmm hK1 _ (hr.toPur.get j)⟩,SV.monoL hmm hK1 _ hus⟩
 have hrel:Rel E.out0 ⟨m++[M.loop l r1],K1,bR args,fun _=>false,fr.F,K1⟩ ⟨fun _ => .any,slA 0 (.yld σ.nx n σ.get ps ao bo :: cs),.lp σ.nx .ready :: σ.H,σ.Hf,σ.nx + 1,false⟩ (m++[M.loop l r1]) K1 (bR args) w1:=by
   refine ⟨⟨List.prefix_refl _,Hp.le_refl K1,by simp [hr.nx],fun e=>(by cases e),fun i=>trivial,fun i e=>(by cases e),fun i _ => .inr rfl,fun i sv hi=>?_,fun a ha=>?_,fun a ha=>HA.ok_mono hmm hK1 (hr.toPur.all a (List.mem_append_right _ ha)),MOk.nil hm1.gk (Hp.le_refl K1)⟩,?_⟩
   . obtain ⟨j,u,e1,e2,e3⟩:=nq hall hi
     have:bR args i=u:=by
       show cM args i=u
       unfold cM
       rw [e1,Nat.zero_add,hargs]
       simp [e2]
     rw [this]; exact e3
   . rcases List.mem_cons.1 ha with rfl | ha
     . exact ⟨l,r1,hgn⟩
     . exact HA.ok_mono hmm hK1 (hr.okH a ha)
   . show Sep E.out0 K1 ((HA.lp σ.nx .ready :: σ.H).map (HA.conc (m++[M.loop l r1]))++(σ.Hf.map (HA.conc (m++[M.loop l r1]))++fr.F)) w1
     have e1:σ.H.map (HA.conc (m++[M.loop l r1]))=σ.H.map (HA.conc m):=ce (K:=K) hmm hr.okH
     have e2:σ.Hf.map (HA.conc (m++[M.loop l r1]))=σ.Hf.map (HA.conc fr.m):=(ce (K:=K) hmm (fun a ha=>hr.toPur.all a (List.mem_append_right _ ha))).trans hr.toPur.fz'
     rw [List.map_cons,e1,e2]
     have e3:HA.conc (m++[M.loop l r1]) (.lp σ.nx .ready)=LpA l r1:=by
       simp only [HA.conc,hgn]
       rw [hr1]; rfl
     rw [e3]
     exact hs1.out0
 have key:CallsIn Fence.wide 0 P q.f args w1 (rangePost (aw E.rd) 0 P l Q { act1 n ρ with defers:=mark++(act1 n ρ).defers }):=by
   refine callsIn_of_wp_marks (F:=Fence.wide) (n:=0) q.at_ hc trivial ?_
   rw [kH hsz]
   refine hJ q.fn.ntmps c R E.out0 ⟨m++[M.loop l r1],K1,bR args,fun _=>false,fr.F,K1⟩ (fun l2 e=>by cases e) h0 _ _ r _ K1 (bR args) w1 _ hh hrel (fun e h' σ' m' K' ρ' w' h1 h2 h3=>?_)
   replace h3:=ah h3; obtain ⟨hov,h3⟩:=h3
   have fini:LeavesInM Fence.wide 0 P q.fn (act1 q.fn.ntmps ρ').tmps (rangePost (aw E.rd) 0 P l Q { act1 n ρ with defers:=mark++(act1 n ρ).defers }) ρ'.ds .returning w':=by
     split at h3
     . rename_i s H hq
       obtain ⟨a,ha',hmem,hperm⟩:=bd hq
       obtain rfl:=ox ha'
       have hsub:∀ a∈H,a∈σ'.H:=fun a ha=>hperm.symm.subset (List.mem_cons_of_mem _ ha)
       refine kc ρ'.ds h1.mks h1.toSep (fun K2 w2 c1 c2 c3=>?_)
       obtain ⟨v,hv⟩:=wS (P:=P) (w:=w2) (tmps:=(act1 q.fn.ntmps ρ').tmps) hres
       refine ⟨v,hv,?_⟩
       have g:=h1.unmark c1 c2 c2 c3
       have hmp:m++[M.loop l r1] <+: m':=g.hm
       have hgn':m'[σ.nx]? = some (.loop l r1):=aj hmp hgn
       have hm2:m <+: m':=hp.trans hmp
       have hm2':∀ (i:Nat) (x:M),m[i]? = some x→m'[i]? = some x:=fun _ _ k=>aj hm2 k
       have e2:σ'.Hf.map (HA.conc (m++[M.loop l r1]))=σ.Hf.map (HA.conc fr.m):=by
         rw [h2.2]
         exact (ce (K:=K) hmm (fun a ha=>hr.toPur.all a (List.mem_append_right _ ha))).trans hr.toPur.fz'
       have hs3:Sep E K2 (LpA l (s.cr r1) :: (H.map (HA.conc m')++(σ.Hf.map (HA.conc fr.m)++fr.F))) w2:=by
         have:=Sep.perm ((hperm.map (HA.conc m')).append_right (σ'.Hf.map (HA.conc (m++[M.loop l r1]))++fr.F)) c3.back
         rw [e2] at this
         simpa only [List.map_cons,HA.conc,hgn',List.cons_append] using this
       have hnb:(s.cr r1).state ≠ .busy:=by cases s <;> simp [LSt.cr]
       refine ⟨_,_,run_endLoop (LpA.at hs3) hnb,?_⟩
       have hs4:=(LpA.put (r':={ s.cr r1 with state := .exhausted }) hs3).drop
       have hKK:K.le K2:=hK1.trans c2
       have hrel4:Rel E fr ⟨σ.base,σ.top,H,σ.Hf,σ'.nx,false⟩ m' K2 ⟨ρ.f,mark++ρ.ds⟩ (w2.putObj l (.loop { s.cr r1 with state := .exhausted })) :=
         ⟨⟨hr.hm.trans hm2,hr.hK.trans hKK,g.nx,fun e=>(by cases e),hr.base,hr.dead,hr.old,fun i sv hi=>SV.mono hm2' hKK sv (hr.top i sv hi),fun a ha=>g.okH a (hsub a ha),hr.okF,hm1.mono c2⟩,hs4⟩
       cases s with
       | ready=>exact hQ .normal h' _ m' K2 ⟨ρ.f,mark++ρ.ds⟩ _ hrel4 ⟨rfl,rfl⟩ h3
       | ret=>exact wpIn_ret (hQ .ret h' _ m' K2 ⟨ρ.f,mark++ρ.ds⟩ _ hrel4 ⟨rfl,rfl⟩ h3)
       | exit id=>exact wpIn_exit (hQ (.exit id) h' _ m' K2 ⟨ρ.f,mark++ρ.ds⟩ _ hrel4 ⟨rfl,rfl⟩ h3)
     . cases h3
   cases e with
   | normal=>exact fini
   | ret=>exact fini
   | exit id=>cases hov
   | goto t=>cases hov
   | panic ch=>cases hov
   | outgrown=>cases hov
 exact key
theorem xm {J:Rn P} (hJ:JOk J) (hrd:hY E fr) {g:Operand} {ps:Array Nat} {ao bo:Code} {h:Hn P} {k:Exit→Hn P→Zt→Option R} {r:R} {Q:Exit→Act→World→Prop} (hh:lz J n g ps ao bo h σ k=some r) (hr:Rel E fr σ m K ρ w)
   (hQ:∀ e h' σ' m' K' ρ' w',Rel E fr σ' m' K' ρ' w'→Same σ σ'→k e h' σ'=some r→Q e (act1 n ρ') w'):(Code.rangeFunc g ps ao bo).wpIn (aw E.rd) 0 P Q (act1 n ρ) w:=by
 unfold lz at hh
 split at hh
 . rename_i q h0
   split at hh
   . rename_i f cs e
     split at hh
     . rename_i c hc
       replace hh:=ah hh; obtain ⟨hb,hh⟩:=hh
       simp only [Bool.and_eq_true] at hb
       obtain ⟨hb1,hb2,hb3⟩:=hb
       obtain rfl:=Nat.eq_of_beq_eq_true hb1
       have hv:=hr.toPur.ev n g
       rw [e] at hv
       obtain ⟨us,hv,hus⟩:=hv
       refine wpIn_rangeFunc (fun fn hfn=>?_)
       have tail:∀ {l:Nat} {mark:List Deferred} {K1:Hp} {w1:World} {D:Nat},(Instr.enterLoop fn (act1 n ρ).tmps ps ao bo E.rd).run P w = .ok (l,mark) w1 →
           Sep E K1 (LpA l { state := .ready,pending:=none,fn:=fn,tmps:=frm n ρ.f,params:=ps,assign:=ao,body:=bo,defers:=D } :: σ.atoms fr m) w1→K.le K1→MOk fr.k0 K1 (mark++ρ.ds) →
           ∃ (l:Nat) (mark:List Deferred) (w₁:World) (d:Deferred) (w₁':World) (f:FuncId) (args:Array Value) (w₂:World),
             (Instr.enterLoop fn (act1 n ρ).tmps ps ao bo (aw E.rd).round).run P w = .ok (l,mark) w₁ ∧
             (resolve (act1 n ρ).eval (rangeCall g l) 0).run P w₁ = .ok d w₁' ∧
             (∀ f',Target.leads P w₁' d.target d.args=some f'→(aw E.rd).fn f') ∧
             (invoke d.target d.args).run P w₁' = .ok (.enter f args) w₂ ∧
             ((aw E.rd).depth.isSome=true→1≤0) ∧
             CallsIn (aw E.rd) (0 - 1) P f args w₂ (rangePost (aw E.rd) 0 P l Q { act1 n ρ with defers:=mark++(act1 n ρ).defers }):=fun {l mark K1 w1 D} he hs1 hK1 hm1=>by
         refine ⟨l,mark,w1,{ target := .fn (.func q.f) us.toArray,args:=#[.func (.yield l) #[] #[]] },w1,q.f,#[.func (.yield l) #[] #[]]++us.toArray,w1,he,?_,fun _ _=>trivial,?_,fun hh=>(by cases (show false=true from hh)),?_⟩
         . have hv':Go.Proofs.YtelekeapfgfknaaGreat.ev n ρ.f g = .func (.func q.f) #[] us.toArray:=hv
           rw [bx]
           have hc2:Go.Proofs.YtelekeapfgfknaaGreat.ev n ρ.f (.const (.func (.yield l) #[] #[])) = .func (.yield l) #[] #[]:=rfl
           simp [resolve,Deferred.ofValue,hv',hc2]
         . exact q.ent _ _
         . exact yF hJ hc hus hb2 (Nat.le_of_ble_eq_true hb3) hh hr hs1 hK1 hm1 hQ
       cases hE:E.rd with
       | none =>
         rw [hE] at tail
         obtain ⟨s1,hD⟩:=(hr.toSep.allocO (.deferred (some []))).known
         have s2:=s1.allocO (.loop { state := .ready,pending:=none,fn:=fn,tmps:=frm n ρ.f,params:=ps,assign:=ao,body:=bo,defers:=w.heap.size })
         rw [World.size_alloc] at s2
         refine tail (run_enterLoop_outer fn _ ps ao bo) s2 (Hp.le_join _ _) ⟨⟨hr.mks.1.1,hr.mks.1.2.trans (Hp.le_join _ _)⟩,fun d hd=>?_,?_⟩
         . rcases List.mem_append.1 hd with hd | hd
           . simp only [List.mem_singleton] at hd
             subst hd
             refine ⟨w.heap.size,rfl,Hp.join_right (aM _ _) hD,?_⟩
             cases hk0:fr.k0 w.heap.size with
             | none=>rfl
             | some x=>rw [hr.mks.1.2 _ _ hk0] at hD; cases hD
           . obtain ⟨D',e1,e2,e3⟩:=hr.mks.2.1 d hd
             exact ⟨D',e1,Hp.le_join _ _ _ _ e2,e3⟩
         . refine List.nodup_cons.2 ⟨fun hd=>?_,hr.mks.2.2⟩
           obtain ⟨D',e1,e2,e3⟩:=hr.mks.2.1 _ hd
           simp only [Deferred.mk.injEq,Target.collected.injEq,and_true] at e1
           rw [← e1,hD] at e2
           cases e2
       | some l0 =>
         rw [hE] at tail
         obtain ⟨r0,hmem⟩:=hrd l0 hE
         have hw0:w.heap[l0]? = some (.loop r0):=by
           obtain ⟨i,hi⟩:=List.getElem?_of_mem (show LpA l0 r0∈σ.atoms fr m from List.mem_append_right _ (List.mem_append_right _ hmem))
           exact LpA.at (Sep.front i hi hr.toSep)
         exact tail (uZ hw0 fn _ ps ao bo) (hr.toSep.allocO _) (Hp.le_refl K) (by simpa using hr.mks)
     . cases hh
   . cases hh
 . cases hh
end
end
section
variable [BldA]
section
variable {R:Type} {P:Program} {E:En} {n:Nat} {m m':List M} {K K':Hp} {fr:Frz} {σ σ':Zt} {ρ ρ':Sl1} {w w':World}
theorem rN {c:Code} {f:Hn P→Zt→(R:Type)→(Exit→Hn P→Zt→Option R)→Option R} (hf:Fok P n c f) (hrd:hY E fr) {s:Sh} {act W:List Nat} {a b:Hn P} {k:Hn P→Zt→Option R} {r:R} {Q:Exit→Act→World→Prop} (h:gR f s act W a b σ k=some r) (hr:Rel E fr σ m K ρ w)
   (hQ:∀ h' σ' m' K' ρ' w',Rel E fr σ' m' K' ρ' w'→Same σ σ'→k h' σ'=some r→Q .normal (Go.Proofs.YtelekeapfgfknaaGreat.act1 n ρ') w'):c.wpIn (aw E.rd) 0 P Q (Go.Proofs.YtelekeapfgfknaaGreat.act1 n ρ) w:=by
 unfold gR at h
 obtain ⟨x,hx,h⟩:=ob h
 refine hf _ E ⟨m,K,ρ,fun _=>false,fr.F,fr.k0⟩ hrd a (σ.frz act) _ x m K ρ w Q hx (hr.frz act) (fun e h' σ' m' K' ρ' w' h1 h2 h3=>?_)
 cases e with
 | normal =>
   obtain ⟨h'',σ2,m2,K2,g1,g2,g3⟩:=aF h' h3 h1
   have hi:Inn σ fr ⟨m,K,ρ,fun _=>false,fr.F,fr.k0⟩ m K ρ (bp σ.H act) σ2 W:=⟨rfl,rfl,rfl,rfl,rfl,(g2.2.trans h2.2),eX,fun _ _=>rfl⟩
   obtain ⟨σ3,m3,q1,q2,q3⟩:=lm hr hi g3 g1 h
   exact hQ b σ3 m3 K2 ρ' w' q3 q2 q1
 | _=>cases h3
theorem qY {c:Code} {f:Hn P→Zt→(R:Type)→(Exit→Hn P→Zt→Option R)→Option R} (hf:Fok P n c f) (hrd:hY E fr) {s:Sh} {act W:List Nat} {a b:Hn P} {k:Exit→Hn P→Zt→Option R} {r:R} {Q:Exit→Act→World→Prop} (h:gU f s act W a b σ k=some r) (hr:Rel E fr σ m K ρ w)
   (hQ:∀ e h' σ' m' K' ρ' w',Rel E fr σ' m' K' ρ' w'→Same σ σ'→k e h' σ'=some r→Q e (Go.Proofs.YtelekeapfgfknaaGreat.act1 n ρ') w'):c.wpIn (aw E.rd) 0 P Q (Go.Proofs.YtelekeapfgfknaaGreat.act1 n ρ) w:=by
 unfold gU at h
 obtain ⟨o,ho,h⟩:=ob h
 refine hf _ E ⟨m,K,ρ,fun _=>false,fr.F,fr.k0⟩ hrd a (σ.frz act) _ o m K ρ w Q ho (hr.frz act) (fun e h' σ' m' K' ρ' w' h1 h2 h3=>?_)
 have other:(k e h' (σ.thaw σ' (bp σ.H act) [])).map Sum.inr=some o→Q e (Go.Proofs.YtelekeapfgfknaaGreat.act1 n ρ') w':=fun h3=>by
   rw [Option.map_eq_some_iff] at h3
   obtain ⟨r',h4,rfl⟩:=h3
   cases h
   have hi:Inn σ fr ⟨m,K,ρ,fun _=>false,fr.F,fr.k0⟩ m K ρ (bp σ.H act) σ' []:=⟨rfl,rfl,rfl,rfl,rfl,h2.2,eX,fun _ _=>rfl⟩
   obtain ⟨q1,q2⟩:=nQ hr hi h1
   exact hQ e h' _ m' K' ρ' w' q2 q1 h4
 cases e with
 | normal =>
   obtain ⟨h'',σ2,m2,K2,g1,g2,g3⟩:=aF h' h3 h1
   rw [Option.map_eq_some_iff] at g1
   obtain ⟨x,g1,rfl⟩:=g1
   have hi:Inn σ fr ⟨m,K,ρ,fun _=>false,fr.F,fr.k0⟩ m K ρ (bp σ.H act) σ2 W:=⟨rfl,rfl,rfl,rfl,rfl,(g2.2.trans h2.2),eX,fun _ _=>rfl⟩
   obtain ⟨σ3,m3,q1,q2,q3⟩:=lm hr hi g3 g1 h
   exact hQ .normal b σ3 m3 K2 ρ' w' q3 q2 q1
 | _=>exact other h3
theorem yq {s:Sh} {W:List Nat} {rest:List HA} {x:TL s.ts} (hr:Rel E fr σ m K ρ w) {g:Gt} {f:Nat→SV} {H:List HA} {us:List ab}
   (hg:s.get f H=some g) (hx:TL.of s.ts g.ds=some x) (hok:∀ a∈H,HA.ok m' K' a) (hf:∀ i,SV.rel m' K' (f i) (ρ' i)) (hmm:m <+: m') (hKK:K.le K') (hrest:∀ a∈rest,a∈σ.H) (hs:Sep E K' (H.map (HA.conc m')++(us++(rest.map (HA.conc m)++σ.fz fr))) w')
   (hds:MOk fr.k0 K' ρ'.ds) (hold:∀ i,i∉W→ρ' i=ρ i) {vs:List (Nat×SV)} {u:Un} (hu:s.un (TL.list s.ts x) σ.nx=some (vs,u)) :
   ∃ m'',Rel E ⟨m,K,ρ,fun i=>W.contains i,fr.F,fr.k0⟩ ⟨fun i=>bif W.contains i then .any else σ.get i,aV (bf σ) vs,u.H.map (HA.sub (bf σ)),rest++σ.Hf,u.nx,false⟩ m'' K' ρ' w':=by
 rw [TL.of_list hx] at hu
 have hoo:bc s.bl m.length=true:=by
   unfold Sh.un at hu
   rw [hr.nx]
   cases ho:bc s.bl σ.nx with
   | true=>rfl
   | false=>rw [ho] at hu; cases hu
 obtain ⟨vs',u',ms,e1,e2,e3,e4,e5,e6,e7,e8⟩:=Sh.get_un hg hok hmm hoo
 rw [hr.nx,hu] at e1
 cases e1
 have hp':=ar m ms
 refine ⟨m++ms,Rel.subs (σ:=⟨fun i=>bif W.contains i then .any else σ.get i,vs,u.H,rest++σ.Hf,u.nx,false⟩) (kx hr.toPur (m':=m++ms) (fun _ _ k=>aj hp' k) hKK) ⟨⟨ar m ms,hKK,e2,fun e=>(by cases e),fun i=>?_,fun i hi=>?_,fun i hi=>?_,fun i sv hi=>kG e3 hi _ (hf i),e4,fun a ha=>?_,hds⟩,?_⟩⟩
 . show SV.rel m K (bif W.contains i then .any else σ.get i) (ρ i)
   cases W.contains i with
   | true=>exact trivial
   | false=>exact hr.toPur.get i
 . show (bif W.contains i then SV.any else σ.get i) = .any
   have hi:W.contains i=true:=hi
   rw [hi]; rfl
 . by_cases hW:i∈W
   . exact .inl (by simpa using hW)
   . exact .inr (hold i hW)
 . refine hr.toPur.all a ?_
   rcases List.mem_append.1 ha with ha | ha
   . exact List.mem_append_left _ (hrest a ha)
   . exact List.mem_append_right _ ha
 . have s1:=e6 E _ w' hs
   have s2:Sep E K' ((g.H.map (HA.conc m')++us)++(u.H.map (HA.conc (m++ms))++(rest.map (HA.conc m)++σ.fz fr))) w':=Sep.perm (by
     rw [List.append_assoc]
     refine (gP _ _ _).trans (List.Perm.append_left _ (gP _ _ _)) ) s1
   show Sep E K' (u.H.map (HA.conc (m++ms))++((rest++σ.Hf).map (HA.conc m)++fr.F)) w'
   rw [List.map_append,hr.toPur.fz',List.append_assoc]
   exact Sep.drops s2
theorem qC {s:Sh} {ds:List Dat} {nx:Nat} {o:List (Nat×SV)×Un} (h:s.un ds nx=some o):bc s.bl nx=true:=by
 unfold Sh.un at h
 cases ho:bc s.bl nx with
 | true=>rfl
 | false=>rw [ho] at h; cases h
theorem wF {c:Code} {f:Hn P→Zt→(R:Type)→(Exit→Hn P→Zt→Option R)→Option R} (hf:Fok P n c f) (hrd:hY E fr) {s:Sh} {W:List Nat} {a:Hn P} {k:Exit→Hn P→Zt→Option R} {r:R} {Q:Exit→Act→World→Prop} (h:lC f s W a σ k=some r) (hr:Rel E fr σ m K ρ w)
   (hQ:∀ e h' σ' m' K' ρ' w',Rel E fr σ' m' K' ρ' w'→Same σ σ'→k e h' σ'=some r→Q e (Go.Proofs.YtelekeapfgfknaaGreat.act1 n ρ') w'):(Code.loop c).wpIn (aw E.rd) 0 P Q (Go.Proofs.YtelekeapfgfknaaGreat.act1 n ρ) w:=by
 unfold lC at h
 split at h
 . rename_i g hg
   split at h
   . rename_i x0 hx0
     obtain ⟨N,hN⟩:=kw h
     refine wpIn_loop_rounds N ?_
     -- a round's head
     have round:∀ (N:Nat) (x:TL s.ts) (m1:List M) (K1:Hp) (ρ1:Sl1) (w1:World) (vs:List (Nat×SV)) (u:Un),bM (iY f s W g a σ k) N x=some r→s.un (TL.list s.ts x) σ.nx=some (vs,u) →
         Rel E ⟨m,K,ρ,fun i=>W.contains i,fr.F,fr.k0⟩ ⟨fun i=>bif W.contains i then .any else σ.get i,aV (bf σ) vs,u.H.map (HA.sub (bf σ)),g.H++σ.Hf,u.nx,false⟩ m1 K1 ρ1 w1→Code.roundsIn (aw E.rd) 0 P c Q N (Go.Proofs.YtelekeapfgfknaaGreat.act1 n ρ1) w1:=by
       intro N
       induction N with
       | zero=>intro x m1 K1 ρ1 w1 vs u hi; cases hi
       | succ N ih =>
         intro x m1 K1 ρ1 w1 vs u hi hu hrel
         unfold bM at hi
         obtain ⟨o,ho,hi⟩:=ob hi
         rw [roundsIn_succ]
         unfold iY at ho
         rw [hu] at ho
         simp only at ho
         have hgsub:∀ a∈g.H,a∈σ.H:=by
           obtain ⟨_,_,_,_,_,_,_,e5,_⟩:=Sh.get_un (m:=m) (K:=K) hg hr.okH (List.prefix_refl m) (by rw [hr.nx]; exact qC hu)
           exact e5
         refine hf _ E ⟨m,K,ρ,fun i=>W.contains i,fr.F,fr.k0⟩ hrd a _ _ o m1 K1 ρ1 w1 _ ho hrel (fun e h' σ' m' K' ρ' w' h1 h2 h3=>?_)
         have other:e ≠ .normal→(k e h' (σ.thaw σ' g.H W)).map Sum.inr=some o→Q e (Go.Proofs.YtelekeapfgfknaaGreat.act1 n ρ') w':=fun _ h3=>by
           rw [Option.map_eq_some_iff] at h3
           obtain ⟨r',h4,rfl⟩:=h3
           cases hi
           have hii:Inn σ fr ⟨m,K,ρ,fun i=>W.contains i,fr.F,fr.k0⟩ m K ρ g.H σ' W:=⟨rfl,rfl,rfl,rfl,rfl,h2.2,hgsub,fun i hi=>by simpa using hi⟩
           obtain ⟨q1,q2⟩:=nQ hr hii h1
           exact hQ e h' _ m' K' ρ' w' q2 q1 h4
         cases e with
         | normal =>
           obtain ⟨h'',σ2,m2,K2,g1,g2,g3⟩:=aF h' h3 h1
           rw [Option.map_eq_some_iff] at g1
           obtain ⟨x',g1,rfl⟩:=g1
           have hsame:=h2.trans g2
           unfold Zt.pack at g1
           replace g1:=ah g1; obtain ⟨hk,g1⟩:=g1
           split at g1
           . rename_i g' hg'
             cases hu':s.un (TL.list s.ts x') σ.nx with
             | none =>
               -- the next round would not run
               cases N with
               | zero=>cases hi
               | succ N =>
                 unfold bM at hi
                 obtain ⟨o2,ho2,_⟩:=ob hi
                 unfold iY at ho2
                 rw [hu'] at ho2
                 cases ho2
             | some q =>
               obtain ⟨vs',u'⟩:=q
               have hii:Inn σ fr ⟨m,K,ρ,fun i=>W.contains i,fr.F,fr.k0⟩ m K ρ g.H σ2 W:=⟨rfl,rfl,rfl,rfl,rfl,hsame.2,hgsub,fun i hi=>by simpa using hi⟩
               obtain ⟨m'',hrel'⟩:=yq (W:=W) (rest:=g.H) (us:=[]) hr hg' g1 g3.okH g3.toPur.get g3.hm g3.hK hgsub (by rw [List.nil_append]; exact hii.sep hr g3) g3.mks (fun i hi=>by
                 have:=g3.old i (ke hk hi)
                 rcases this with h4 | h4
                 . exact absurd (by simpa using h4) hi
                 . exact h4) hu'
               exact ih x' m'' K2 ρ' w' vs' u' hi hu' hrel'
           . cases g1
         | exit i=>exact other nofun h3
         | goto l=>exact other nofun h3
         | ret=>exact other nofun h3
         | panic c=>exact other nofun h3
         | outgrown=>exact other nofun h3
     cases hu:s.un (TL.list s.ts x0) σ.nx with
     | none =>
       cases N with
       | zero=>cases hN
       | succ N =>
         unfold bM at hN
         obtain ⟨o2,ho2,_⟩:=ob hN
         unfold iY at ho2
         rw [hu] at ho2
         cases ho2
     | some q =>
       obtain ⟨vs,u⟩:=q
       have hu2:=hu
       rw [TL.of_list hx0] at hu2
       obtain ⟨vs',u',ms,e1,e2,e3,e4,e5,e6,e7,e8⟩:=Sh.get_un (m:=m) (K:=K) hg hr.okH (List.prefix_refl m) (by rw [hr.nx]; exact qC hu2)
       rw [hr.nx,hu2] at e1
       cases e1
       have hp':=ar m ms
       refine round N x0 (m++ms) K ρ w vs u hN hu (Rel.subs (σ:=⟨fun i=>bif W.contains i then .any else σ.get i,vs,u.H,g.H++σ.Hf,u.nx,false⟩) (kx hr.toPur (m':=m++ms) (fun _ _ k=>aj hp' k) (Hp.le_refl K)) ⟨⟨ar m ms,Hp.le_refl K,e2,fun e=>(by cases e),fun i=>?_,fun i hi=>?_,fun i hi => .inr rfl,fun i sv hi=>kG e3 hi _ (hr.toPur.get i),e4,fun a ha=>?_,hr.mks⟩,?_⟩)
       . show SV.rel m K (bif W.contains i then .any else σ.get i) (ρ i)
         cases W.contains i with
         | true=>exact trivial
         | false=>exact hr.toPur.get i
       . show (bif W.contains i then SV.any else σ.get i) = .any
         have hi:W.contains i=true:=hi
         rw [hi]; rfl
       . refine hr.toPur.all a ?_
         rcases List.mem_append.1 ha with ha | ha
         . exact List.mem_append_left _ (e5 a ha)
         . exact List.mem_append_right _ ha
       . have s1:=e6 E _ w hr.toSep
         show Sep E K (u.H.map (HA.conc (m++ms))++((g.H++σ.Hf).map (HA.conc m)++fr.F)) w
         rw [List.map_append,hr.toPur.fz',List.append_assoc]
         exact s1
   . cases h
 . cases h
theorem qy {c:Code} {f:Hn P→Zt→(R:Type)→(Exit→Hn P→Zt→Option R)→Option R} (hf:Fok P n c f) (hrd:hY E fr) {k:Exit→Hn P→Zt→Option R} {r:R} {Q:Exit→Act→World→Prop}
   (hQ:∀ e h' σ' m' K' ρ' w',Rel E fr σ' m' K' ρ' w'→Same σ σ'→k e h' σ'=some r→Q e (Go.Proofs.YtelekeapfgfknaaGreat.act1 n ρ') w'):∀ (N:Nat) {h:Hn P} {σ1:Zt} {m:List M} {K:Hp} {ρ:Sl1} {w:World},jd (fun h σ k=>f h σ _ k) k N h σ1=some r→Rel E fr σ1 m K ρ w→Same σ σ1→Code.roundsIn (aw E.rd) 0 P c Q N (Go.Proofs.YtelekeapfgfknaaGreat.act1 n ρ) w
 | 0,h,σ1,m,K,ρ,w,hh,hr,hs=>by cases hh
 | N + 1,h,σ1,m,K,ρ,w,hh,hr,hs=>by
   rw [roundsIn_succ]
   unfold jd at hh
   refine hf _ E fr hrd h σ1 _ r m K ρ w _ hh hr (fun e h' σ' m' K' ρ' w' h1 h2 h3=>?_)
   cases e with
   | normal=>exact qy hf hrd hQ N h3 h1 (hs.trans h2)
   | exit i=>exact hQ _ h' σ' m' K' ρ' w' h1 (hs.trans h2) h3
   | goto i=>exact hQ _ h' σ' m' K' ρ' w' h1 (hs.trans h2) h3
   | ret=>exact hQ _ h' σ' m' K' ρ' w' h1 (hs.trans h2) h3
   | panic i=>exact hQ _ h' σ' m' K' ρ' w' h1 (hs.trans h2) h3
   | outgrown=>exact hQ _ h' σ' m' K' ρ' w' h1 (hs.trans h2) h3
theorem qQ {y:Code} {k:Exit→Hn P→Zt→Option R} {f:Hn P→Zt→Option R} {r:R} {Q:Exit→Act→World→Prop} {σ0:Zt} (hf:∀ h' σ' m' K' ρ' w',Rel E fr σ' m' K' ρ' w'→Same σ0 σ'→f h' σ'=some r→y.wpIn (aw E.rd) 0 P Q (Go.Proofs.YtelekeapfgfknaaGreat.act1 n ρ') w')
   (hQ:∀ e h' σ' m' K' ρ' w',Rel E fr σ' m' K' ρ' w'→Same σ0 σ'→k e h' σ'=some r→Q e (Go.Proofs.YtelekeapfgfknaaGreat.act1 n ρ') w'):∀ e h' σ' m' K' ρ' w',Rel E fr σ' m' K' ρ' w'→Same σ0 σ'→gO k f e h' σ'=some r→Exit.then (y.wpIn (aw E.rd) 0 P Q) Q e (Go.Proofs.YtelekeapfgfknaaGreat.act1 n ρ') w':=by
 intro e h' σ' m' K' ρ' w' h1 h2 h3
 cases e with
 | normal=>exact hf h' σ' m' K' ρ' w' h1 h2 h3
 | exit i=>exact hQ _ h' σ' m' K' ρ' w' h1 h2 h3
 | goto i=>exact hQ _ h' σ' m' K' ρ' w' h1 h2 h3
 | ret=>exact hQ _ h' σ' m' K' ρ' w' h1 h2 h3
 | panic i=>exact hQ _ h' σ' m' K' ρ' w' h1 h2 h3
 | outgrown=>exact hQ _ h' σ' m' K' ρ' w' h1 h2 h3
theorem bP {J:Rn P} (hJ:JOk J):∀ (c:Code),Fok P n c (fun h σ R k=>exec J n c h σ k)
 | .skip=>fun R E fr hrd h σ k r m K ρ w Q hh hr hQ=>wpIn_skip (hQ _ h σ m K ρ w hr Same.rfl' hh)
 | .ret=>fun R E fr hrd h σ k r m K ρ w Q hh hr hQ=>wpIn_ret (hQ _ h σ m K ρ w hr Same.rfl' hh)
 | .exit id=>fun R E fr hrd h σ k r m K ρ w Q hh hr hQ=>wpIn_exit (hQ _ h σ m K ρ w hr Same.rfl' hh)
 | .label l=>fun R E fr hrd h σ k r m K ρ w Q hh hr hQ=>wpIn_label (hQ _ h σ m K ρ w hr Same.rfl' hh)
 | .scope b=>fun R E fr hrd h σ k r m K ρ w Q hh hr hQ=>by
   refine uq (bP hJ b R E fr hrd h σ _ r m K ρ w _ (show exec J n b h σ (sg k)=some r from hh) hr (fun e h' σ' m' K' ρ' w' h1 h2 h3=>?_))
   cases e with
   | goto l=>cases h3
   | normal=>exact hQ _ h' σ' m' K' ρ' w' h1 h2 h3
   | exit i=>exact hQ _ h' σ' m' K' ρ' w' h1 h2 h3
   | ret=>exact hQ _ h' σ' m' K' ρ' w' h1 h2 h3
   | panic i=>exact hQ _ h' σ' m' K' ρ' w' h1 h2 h3
   | outgrown=>exact hQ _ h' σ' m' K' ρ' w' h1 h2 h3
 | .region id ops draw=>fun R E fr hrd h σ k r m K ρ w Q hh hr hQ=>by
   change (bif !ops.toList.all bw then none else bif draw then av h σ fun h σ=>gZ n ops.toList h σ fun h σ=>(match h with | .mix plan fin tail act r=>pe n ops plan fin tail act r σ (k .normal) | .tr t s act a b=>trS n ops t s act a b σ (k .normal) | _=>none) else av h σ fun h σ=>oU J n ops h σ (k .normal))=some r at hh
   replace hh:=cV hh; obtain ⟨hn,hh⟩:=hh
   have hn:ops.toList.all bw=true:=by simpa using hn
   cases draw with
   | false =>
     simp only [cond_false] at hh
     obtain ⟨h1,σ1,m1,K1,hh,g1,hr⟩:=aF h hh hr
     replace hQ:∀ e h' σ' m' K' ρ' w',Rel E fr σ' m' K' ρ' w'→Same σ1 σ'→k e h' σ'=some r→Q e (act1 n ρ') w':=fun e h' σ' m' K' ρ' w' q1 q2 q3=>hQ e h' σ' m' K' ρ' w' q1 (g1.trans q2) q3
     clear g1
     unfold oU at hh
     split at hh
     . rename_i q h2
       have key:wpListIn (aw E.rd) 0 P ops Q (ops.toList.take q++ops.toList.drop q) (act1 n ρ) w:=by
         have hn1:(ops.toList.take q).all bw=true:=List.all_eq_true.2 (fun x hx=>List.all_eq_true.1 hn x (List.mem_of_mem_take hx))
         have hn2:(ops.toList.drop q).all bw=true:=List.all_eq_true.2 (fun x hx=>List.all_eq_true.1 hn x (List.mem_of_mem_drop hx))
         refine mU hn1 ?_
         have:=gt (ops:=ops) (Q:=fun e a w=>e = .normal∧wpListIn (aw E.rd) 0 P ops Q (ops.toList.drop q) a w) (ops.toList.take q) 0 hh hr (fun h' σ' m' K' ρ' w' h1 h2 h3=>?_)
         . simpa using this
         . refine ⟨rfl,?_⟩
           split at h3
           . rename_i o rest hd
             rw [hd] at hn2 ⊢
             simp only [List.all_cons,Bool.and_eq_true] at hn2
             obtain ⟨dst,op,t,pos,af,gu⟩:=o
             obtain ⟨h4,σ4,s4,hr4,hg⟩:=gB h3 h1
             rcases hg with ⟨hw,hg⟩ | ⟨hw,hg⟩
             . refine yW hJ hg hr4 hw (fun h'' σ'' m'' K'' ρ'' w'' g1 g2 g3=>?_)
               have:=gt (ops:=ops) (Q:=Q) rest 0 g3 g1 (fun h3 σ3 m3 K3 ρ3 w3 b1 b2 b3=>hQ _ h3 σ3 m3 K3 ρ3 w3 b1 (((h2.trans s4).trans g2).trans b2) b3)
               exact eU hn2.2 (by simpa using this)
             . unfold wpListIn
               rw [if_neg (by rw [hw]; exact Bool.false_ne_true)]
               refine ⟨fun _ _=>trivial,?_⟩
               cases dst with
               | none =>
                 have:=gt (ops:=ops) (Q:=Q) rest 0 hg hr4 (fun h3 σ3 m3 K3 ρ3 w3 b1 b2 b3=>hQ _ h3 σ3 m3 K3 ρ3 w3 b1 ((h2.trans s4).trans b2) b3)
                 exact eU hn2.2 (by rw [List.drop_zero] at this; exact this)
               | some d =>
                 show wpListIn _ _ _ _ _ _ ((act1 n ρ').put (some d) undef) _
                 rw [bn]
                 have:=gt (ops:=ops) (Q:=Q) rest 0 hg (hr4.set (d:=d) (sv := .raw undef) (v:=undef) rfl) (fun h3 σ3 m3 K3 ρ3 w3 b1 b2 b3=>hQ _ h3 σ3 m3 K3 ρ3 w3 b1 (((h2.trans s4).trans ⟨rfl,rfl⟩).trans b2) b3)
                 exact eU hn2.2 (by simpa using this)
           . cases h3
       rw [List.take_append_drop] at key
       have:=wpIn_region_lit (id:=id) (l:=ops.toList) (by simpa using key)
       simpa using this
     . have:=wpIn_region_lit (id:=id) (eU (r:=E.rd) (n:=0) hn (gt (Q:=Q) (ops:=ops.toList.toArray) ops.toList 0 (by simpa using hh) hr (fun h' σ' m' K' ρ' w' h1 h2 h3=>hQ _ h' σ' m' K' ρ' w' h1 h2 h3)))
       simpa using this
   | true =>
     simp only [cond_true] at hh
     obtain ⟨h1,σ1,m1,K1,hh,g1,hr⟩:=aF h hh hr
     obtain ⟨h2,σ2,m2,hh,g2,hr⟩:=sd h1 hh hr
     replace hQ:∀ e h' σ' m' K' ρ' w',Rel E fr σ' m' K' ρ' w'→Same σ2 σ'→k e h' σ'=some r→Q e (act1 n ρ') w':=fun e h' σ' m' K' ρ' w' q1 q2 q3=>hQ e h' σ' m' K' ρ' w' q1 ((g1.trans g2).trans q2) q3
     clear g1 g2
     generalize K1=K at hr
     generalize m2=m at hr
     generalize σ2=σ at hr hh hQ
     split at hh
     . rename_i plan fin tail act' h0
       unfold pe at hh
       replace hh:=br hh; obtain ⟨hm,hB,hh⟩:=hh
       have hB':jw .any ops.toList.toArray plan fin tail=true:=by simpa using hB
       have hfr:=(hr.frz act').drew
       have hplan:∀ s i,(s,i)∈plan→i < ops.toList.length:=by
         intro s i hi
         have h0:=hB
         unfold jw at h0
         simp only [Bool.and_eq_true] at h0
         obtain ⟨_,h1⟩:=h0
         split at h1
         . rename_i l1 hl1
           simpa using qd plan _ _ hl1 s i hi
         . cases h1
       have key:=kU (l:=ops.toList) (Q:=Q) plan hh hfr rfl hplan (fun h' σ' m' K' ρ' w' h1 h2 h3=>by
         have hi:Inn σ fr ⟨m,K,ρ,fun _=>false,fr.F,fr.k0⟩ m K ρ (bp σ.H act') σ' []:=⟨rfl,rfl,rfl,rfl,rfl,h2.2,eX,fun _ _=>rfl⟩
         obtain ⟨z1,z2⟩:=nQ hr hi h1
         have:=gt (ops:=ops.toList.toArray) (Q:=Q) (aR ops.toList tail) 0 (by simpa using h3) z2 (fun h'' σ'' m'' K'' ρ'' w'' b1 b2 b3=>hQ .normal h'' σ'' m'' K'' ρ'' w'' b1 (z1.trans b2) b3)
         rwa [List.drop_zero] at this)
       have:=uN (id:=id) (Q:=Q) plan fin tail hm hB' _ hfr.cfz rfl rfl rfl key hn (r:=E.rd) (n:=0)
       simpa using this
     . rename_i t s act' a b
       unfold trS at hh
       replace hh:=br hh; obtain ⟨hm,hB,hh⟩:=hh
       obtain ⟨x,hx,hh⟩:=ob hh
       have hfr:=(hr.frz act').drew
       have key:=kK (l:=ops.toList) (F:=fun a' w'=>ak P ops.toList.toArray Q (aR ops.toList []) a' w') t hx hfr rfl (fun h' σ' m' K' ρ' w' h1 h2 h3=>by
         obtain ⟨h'',σ2,m2,K2,g1,g2,g3⟩:=aF h' h3 h1
         have hi:Inn σ fr ⟨m,K,ρ,fun _=>false,fr.F,fr.k0⟩ m K ρ (bp σ.H act') σ2 (s.sl.map (·.1)++aq ops.toList):=⟨rfl,rfl,rfl,rfl,rfl,(g2.2.trans h2.2),eX,fun _ _=>rfl⟩
         obtain ⟨σ3,m3,q1,q2,q3⟩:=lm hr hi g3 g1 hh
         exact hQ .normal b σ3 m3 K2 ρ' w' q3 q2 q1)
       have:=uE (id:=id) (Q:=Q) t [] hm hB _ hfr.cfz rfl key hn (r:=E.rd) (n:=0)
       simpa using this
     . cases hh
 | .seq a b=>fun R E fr hrd h σ k r m K ρ w Q hh hr hQ=>by
   have plain:∀ h0,exec J n a h0 σ (gO k (fun h σ=>exec J n b h σ k))=some r→(Code.seq a b).wpIn (aw E.rd) 0 P Q (act1 n ρ) w:=fun h0 hh =>
     wpIn_seq (bP hJ a R E fr hrd h0 σ _ r m K ρ w _ hh hr (qQ (σ0:=σ) (fun h' σ' m' K' ρ' w' h1 h2 h3=>bP hJ b R E fr hrd h' σ' k r m' K' ρ' w' Q h3 h1 (fun e h'' σ'' m'' K'' ρ'' w'' q1 q2 q3=>hQ e h'' σ'' m'' K'' ρ'' w'' q1 (h2.trans q2) q3)) hQ))
   cases h with
   | sq mk s act ha hb =>
     have hh:(match Zt.mcs mk σ with | some σ=>gR (fun h σ R k=>exec J n a h σ k) s act (s.sl.map (·.1)++bv a) ha hb σ (fun h σ=>exec J n b h σ k) | none=>none)=some r:=hh
     split at hh
     . rename_i σ1 hm
       obtain ⟨m1,k1,k2⟩:=jc hm hr
       refine wpIn_seq (rN (bP hJ a) hrd hh k2 (fun h' σ' m' K' ρ' w' h1 h2 h3=>?_))
       exact bP hJ b R E fr hrd h' σ' k r m' K' ρ' w' Q h3 h1 (fun e h'' σ'' m'' K'' ρ'' w'' q1 q2 q3=>hQ e h'' σ'' m'' K'' ρ'' w'' q1 ((k1.trans h2).trans q2) q3)
     . cases hh
   | sx mk s act ha hb =>
     have hh:(match Zt.mcs mk σ with | some σ=>gU (fun h σ R k=>exec J n a h σ k) s act (s.sl.map (·.1)++bv a) ha hb σ (gO k (fun h σ=>exec J n b h σ k)) | none=>none)=some r:=hh
     split at hh
     . rename_i σ1 hm
       obtain ⟨m1,k1,k2⟩:=jc hm hr
       refine wpIn_seq (qY (bP hJ a) hrd hh k2 ?_)
       exact qQ (σ0:=σ1) (fun h' σ' m' K' ρ' w' h1 h2 h3=>bP hJ b R E fr hrd h' σ' k r m' K' ρ' w' Q h3 h1 (fun e h'' σ'' m'' K'' ρ'' w'' q1 q2 q3=>hQ e h'' σ'' m'' K'' ρ'' w'' q1 ((k1.trans h2).trans q2) q3)) (fun e h' σ' m' K' ρ' w' q1 q2 q3=>hQ e h' σ' m' K' ρ' w' q1 (k1.trans q2) q3)
     . cases hh
   | pl h=>exact plain h hh
   | nil=>exact plain _ hh
   | two _ _ _=>exact plain _ hh
   | tw _ _ _=>exact plain _ hh
   | jn _ _ _ _ _=>exact plain _ hh
   | jx _ _ _ _ _=>exact plain _ hh
   | lp _ _=>exact plain _ hh
   | un _ _=>exact plain _ hh
   | per _ _ _=>exact plain _ hh
   | perb _ _ _ _=>exact plain _ hh
   | mc _ _ _ _=>exact plain _ hh
   | ms _ _=>exact plain _ hh
   | wt _ _=>exact plain _ hh
   | cl _ _ _=>exact plain _ hh
   | c2 _ _ _ _=>exact plain _ hh
   | gp _ _=>exact plain _ hh
   | gj _ _ _ _ _=>exact plain _ hh
   | mix _ _ _ _ _=>exact plain _ hh
   | opn _ _ _=>exact plain _ hh
   | opb _ _ _=>exact plain _ hh
   | cls _ _ _=>exact plain _ hh
   | opp _ _ _ _=>exact plain _ hh
   | ot _ _=>exact plain _ hh
   | cm _ _ _ _=>exact plain _ hh
   | cm2 _ _ _ _ _=>exact plain _ hh
   | tr _ _ _ _ _=>exact plain _ hh
   | tru _=>exact plain _ hh
   | yl _ _=>exact plain _ hh
   | rg _ _=>exact plain _ hh
   | il _ _=>exact plain _ hh
 | .cond c x y=>fun R E fr hrd h σ k r m K ρ w Q hh hr hQ=>by
   obtain ⟨h1,σ1,m1,K1,g1,g2,g3⟩:=aF h (show av h σ (fun h σ=>oJ c (σ.evr n c) h σ (fun h σ=>exec J n x h σ k) (fun h σ=>exec J n y h σ k))=some r from hh) hr
   have hv:=g3.toPur.evr n c
   have goX:∀ h2 σ2,Rel E fr σ2 m1 K1 ρ w→Same σ σ2→exec J n x h2 σ2 k=some r→x.wpIn (aw E.rd) 0 P Q (act1 n ρ) w:=fun h2 σ2 q1 q2 q3 =>
     bP hJ x R E fr hrd h2 σ2 k r m1 K1 ρ w Q q3 q1 (fun e h'' σ'' m'' K'' ρ'' w'' p1 p2 p3=>hQ e h'' σ'' m'' K'' ρ'' w'' p1 (q2.trans p2) p3)
   have goY:∀ h2 σ2,Rel E fr σ2 m1 K1 ρ w→Same σ σ2→exec J n y h2 σ2 k=some r→y.wpIn (aw E.rd) 0 P Q (act1 n ρ) w:=fun h2 σ2 q1 q2 q3 =>
     bP hJ y R E fr hrd h2 σ2 k r m1 K1 ρ w Q q3 q1 (fun e h'' σ'' m'' K'' ρ'' w'' p1 p2 p3=>hQ e h'' σ'' m'' K'' ρ'' w'' p1 (q2.trans p2) p3)
   have slot:∀ (d:Nat) (sv:SV),c = .tmp d→σ1.evr n c=sv→sv ≠ .any→σ1.get d=sv:=fun d sv hc he hne=>by
     subst hc
     cases hh:Nat.blt d n with
     | false =>
       have:σ1.evr n (.tmp d) = .any:=by show (bif Nat.blt d n then σ1.get d else .any)=_; rw [hh]; rfl
       rw [this] at he; exact absurd he.symm hne
     | true =>
       have:σ1.evr n (.tmp d)=σ1.get d:=by show (bif Nat.blt d n then σ1.get d else .any)=_; rw [hh]; rfl
       rw [← this]; exact he
   unfold oJ at g1
   split at g1
   . rename_i jm w0 e
     rw [e] at hv
     obtain ⟨hj,hv⟩:=hv
     split at g1
     . rename_i t
       have hb:ev n ρ c = .bool t:=hv
       rw [hb] at hj
       refine wpIn_cond_split (t:=t) (by rw [bx]; exact hb) (fun ht=>?_) (fun ht=>?_)
       . subst ht
         split at g1
         . exact goX _ _ (g3.fix (v := .bool true) hj rfl) (g2.trans ⟨rfl,rfl⟩) g1
         . exact goX _ σ1 g3 g2 g1
         . exact goX _ σ1 g3 g2 g1
       . subst ht
         split at g1
         . exact goY _ _ (g3.fix (v := .bool false) hj rfl) (g2.trans ⟨rfl,rfl⟩) g1
         . exact goY _ σ1 g3 g2 g1
         . exact goY _ σ1 g3 g2 g1
     . cases g1
   . rename_i t e
     rw [e] at hv
     have hb:ev n ρ c = .bool t:=hv
     refine wpIn_cond_split (t:=t) (by rw [bx]; exact hb) (fun ht=>?_) (fun ht=>?_)
     . subst ht
       split at g1
       . rename_i ha hbn d _
         have hg:=slot d _ rfl e nofun
         exact goX ha _ (g3.ref (fun _ _ u hu=>by rw [hg] at hu; exact hu) (by rw [hg]; nofun)) (g2.trans ⟨rfl,fC.2⟩) g1
       . exact goX _ σ1 g3 g2 g1
       . exact goX _ σ1 g3 g2 g1
     . subst ht
       split at g1
       . rename_i ha hbn d _
         have hg:=slot d _ rfl e nofun
         exact goY hbn _ (g3.ref (fun _ _ u hu=>by rw [hg] at hu; exact hu) (by rw [hg]; nofun)) (g2.trans ⟨rfl,fC.2⟩) g1
       . exact goY _ σ1 g3 g2 g1
       . exact goY _ σ1 g3 g2 g1
   . rename_i tp l ng e
     rw [e] at hv
     obtain ⟨q,hb,hl⟩:=hv
     refine wpIn_cond_split (t:=q ^^ ng) (by rw [bx]; exact hb) (fun ht=>?_) (fun ht=>?_)
     . split at g1
       . rename_i ha hbn _
         cases ng with
         | true =>
           rw [Bool.xor_true] at ht
           simp only [cond_true] at g1
           exact goX ha _ g3 g2 (qA g1)
         | false =>
           rw [Bool.xor_false] at ht
           simp only [cond_false] at g1
           exact goX ha _ g3 g2 (rL (hl ht) g1)
       . cases g1
     . split at g1
       . rename_i ha hbn _
         cases ng with
         | true =>
           rw [Bool.xor_true] at ht
           simp only [cond_true] at g1
           exact goY hbn _ g3 g2 (rL (hl (by simpa using ht)) g1)
         | false =>
           rw [Bool.xor_false] at ht
           simp only [cond_false] at g1
           exact goY hbn _ g3 g2 (qA g1)
       . cases g1
   . cases g1
 | .block id b=>fun R E fr hrd h σ k r m K ρ w Q hh hr hQ=>by
   have blk:∀ {R:Type} {k:Exit→Hn P→Zt→Option R} {r:R} {Q:Exit→Act→World→Prop} {fr:Frz} {σ:Zt},(∀ e h' σ' m' K' ρ' w',Rel E fr σ' m' K' ρ' w'→Same σ σ'→k e h' σ'=some r→Q e (act1 n ρ') w') →
       ∀ e h' σ' m' K' ρ' w',Rel E fr σ' m' K' ρ' w'→Same σ σ'→dW id k e h' σ'=some r→Exit.inBlock id Q e (act1 n ρ') w':=by
     intro R k r Q fr σ hQ e h' σ' m' K' ρ' w' h1 h2 h3
     cases e with
     | exit i =>
       change (bif Nat.beq i id then k .normal h' σ' else k (.exit i) h' σ')=some r at h3
       show if i=id then _ else _
       cases hb:Nat.beq i id with
       | true =>
         rw [hb] at h3
         rw [if_pos (Nat.eq_of_beq_eq_true hb)]
         exact hQ _ h' σ' m' K' ρ' w' h1 h2 h3
       | false =>
         rw [hb] at h3
         rw [if_neg (fun e=>by rw [e,Nat.beq_refl] at hb; cases hb)]
         exact hQ _ h' σ' m' K' ρ' w' h1 h2 h3
     | normal=>exact hQ _ h' σ' m' K' ρ' w' h1 h2 h3
     | goto l=>exact hQ _ h' σ' m' K' ρ' w' h1 h2 h3
     | ret=>exact hQ _ h' σ' m' K' ρ' w' h1 h2 h3
     | panic i=>exact hQ _ h' σ' m' K' ρ' w' h1 h2 h3
     | outgrown=>exact hQ _ h' σ' m' K' ρ' w' h1 h2 h3
   have fb:Fok P n (.block id b) (fun h σ R k=>exec J n b h σ (dW id k)):=fun R E fr hrd h σ k r m K ρ w Q hh hr hQ=>by
     refine wpIn_block (bP hJ b R E fr hrd h σ _ r m K ρ w _ hh hr ?_)
     intro e h' σ' m' K' ρ' w' h1 h2 h3
     cases e with
     | exit i =>
       change (bif Nat.beq i id then k .normal h' σ' else k (.exit i) h' σ')=some r at h3
       show if i=id then _ else _
       cases hb:Nat.beq i id with
       | true =>
         rw [hb] at h3
         rw [if_pos (Nat.eq_of_beq_eq_true hb)]
         exact hQ _ h' σ' m' K' ρ' w' h1 h2 h3
       | false =>
         rw [hb] at h3
         rw [if_neg (fun e=>by rw [e,Nat.beq_refl] at hb; cases hb)]
         exact hQ _ h' σ' m' K' ρ' w' h1 h2 h3
     | normal=>exact hQ _ h' σ' m' K' ρ' w' h1 h2 h3
     | goto l=>exact hQ _ h' σ' m' K' ρ' w' h1 h2 h3
     | ret=>exact hQ _ h' σ' m' K' ρ' w' h1 h2 h3
     | panic i=>exact hQ _ h' σ' m' K' ρ' w' h1 h2 h3
     | outgrown=>exact hQ _ h' σ' m' K' ρ' w' h1 h2 h3
   have plain:∀ h0,exec J n b h0 σ (dW id k)=some r→(Code.block id b).wpIn (aw E.rd) 0 P Q (act1 n ρ) w:=fun h0 hh=>fb R E fr hrd h0 σ k r m K ρ w Q hh hr hQ
   cases h with
   | jn mk s act ha hb =>
     have hh:(match Zt.mcs mk σ with | some σ=>gR (fun h σ R k=>exec J n b h σ (dW id k)) s act (s.sl.map (·.1)++bv b) ha hb σ (k .normal) | none=>none)=some r:=hh
     split at hh
     . rename_i σ1 hm
       obtain ⟨m1,k1,k2⟩:=jc hm hr
       exact rN fb hrd hh k2 (fun h' σ' m' K' ρ' w' h1 h2 h3=>hQ _ h' σ' m' K' ρ' w' h1 (k1.trans h2) h3)
     . cases hh
   | jx mk s act ha hb =>
     have hh:(match Zt.mcs mk σ with | some σ=>gU (fun h σ R k=>exec J n b h σ (dW id k)) s act (s.sl.map (·.1)++bv b) ha hb σ k | none=>none)=some r:=hh
     split at hh
     . rename_i σ1 hm
       obtain ⟨m1,k1,k2⟩:=jc hm hr
       exact qY fb hrd hh k2 (fun e h' σ' m' K' ρ' w' q1 q2 q3=>hQ e h' σ' m' K' ρ' w' q1 (k1.trans q2) q3)
     . cases hh
   | pl h=>exact plain _ hh
   | nil=>exact plain _ hh
   | two _ _ _=>exact plain _ hh
   | tw _ _ _=>exact plain _ hh
   | sq _ _ _ _ _=>exact plain _ hh
   | sx _ _ _ _ _=>exact plain _ hh
   | lp _ _=>exact plain _ hh
   | un _ _=>exact plain _ hh
   | per _ _ _=>exact plain _ hh
   | perb _ _ _ _=>exact plain _ hh
   | mc _ _ _ _=>exact plain _ hh
   | ms _ _=>exact plain _ hh
   | wt _ _=>exact plain _ hh
   | cl _ _ _=>exact plain _ hh
   | c2 _ _ _ _=>exact plain _ hh
   | gp _ _=>exact plain _ hh
   | gj _ _ _ _ _=>exact plain _ hh
   | mix _ _ _ _ _=>exact plain _ hh
   | opn _ _ _=>exact plain _ hh
   | opb _ _ _=>exact plain _ hh
   | cls _ _ _=>exact plain _ hh
   | opp _ _ _ _=>exact plain _ hh
   | ot _ _=>exact plain _ hh
   | cm _ _ _ _=>exact plain _ hh
   | cm2 _ _ _ _ _=>exact plain _ hh
   | tr _ _ _ _ _=>exact plain _ hh
   | tru _=>exact plain _ hh
   | yl _ _=>exact plain _ hh
   | rg _ _=>exact plain _ hh
   | il _ _=>exact plain _ hh
 | .loop b=>fun R E fr hrd h σ k r m K ρ w Q hh hr hQ=>by
   obtain ⟨h1,σ1,m1,K1,g1,g2,g3⟩:=aF h (show av h σ (fun h σ=>match h with
     | .un m r=>jd (fun h σ k=>exec J n b h σ k) k m r σ
     | .lp s ha=>lC (fun h σ R k=>exec J n b h σ k) s (s.sl.map (·.1)++bv b) ha σ k
     | _=>none)=some r from hh) hr
   have hQ':∀ e h' σ' m' K' ρ' w',Rel E fr σ' m' K' ρ' w'→Same σ1 σ'→k e h' σ'=some r→Q e (act1 n ρ') w':=fun e h'' σ'' m'' K'' ρ'' w'' p1 p2 p3=>hQ e h'' σ'' m'' K'' ρ'' w'' p1 (g2.trans p2) p3
   split at g1
   . exact wpIn_loop_rounds _ (qy (bP hJ b) hrd hQ' _ g1 g3 Same.rfl')
   . exact wF (bP hJ b) hrd g1 g3 hQ'
   . cases g1
 | .rangeFunc g ps ao bo=>fun R E fr hrd h σ k r m K ρ w Q hh hr hQ=>by
   obtain ⟨h1,σ1,m1,K1,g1,g2,g3⟩:=aF h (show av h σ (fun h σ=>lz J n g ps ao bo h σ k)=some r from hh) hr
   exact xm hJ hrd g1 g3 (fun e h'' σ'' m'' K'' ρ'' w'' p1 p2 p3=>hQ e h'' σ'' m'' K'' ρ'' w'' p1 (g2.trans p2) p3)
 | .goto l=>fun R E fr hrd h σ k r m K ρ w Q hh hr hQ=>by cases hh
 | .refuse s=>fun R E fr hrd h σ k r m K ρ w Q hh hr hQ=>by cases hh
theorem rR:∀ d:Nat,JOk (oz (P:=P) d)
 | 0=>fun n c R E fr hrd h σ k r m K ρ w Q hh hr hQ=>by cases hh
 | d + 1=>fun n c=>bP (rR d) c
end
end
section
variable [BldA]
def cU (P:Program) (n:Nat) (σ:Zt):List ResultVar→Option (List SV)
 | []=>some []
 | .tmp t :: r=>(match cU P n σ r with | some vs=>some (σ.ev n (.tmp t) :: vs) | none=>none)
 | .cell a ty :: r=>(match σ.ev n (.tmp a) with
   | .ptr i o=>(match aG (HA.blkR i) (σ.H++σ.Hf) with
     | some q=>(match ldv P ty q.cs o,cU P n σ r with | some v,some vs=>some (v :: vs) | _,_=>none)
     | none=>none)
   | _=>none)
def tZ:List SV→SV
 | [v]=>v
 | vs => .tup vs
def dY (σ:Zt) (rs:List SV) (o:Sh):Option (TL o.ts):=bif (match rs,o.sl with | [],[]=>true | _ :: _,[p]=>Nat.beq p.1 0 | _,_=>false) then (match o.get (fun _=>tZ rs) σ.H with | some g=>TL.of o.ts g.ds | none=>none) else none
def mf {P:Program} (σ:Zt) (rs:List SV):(os:List Sh)→Hn P→Option (bZ os)
 | [a],_=>dY σ rs a
 | [a,b],h=>(match h with | .pl _=>(dY σ rs b).map Sum.inr | _=>(dY σ rs a).map Sum.inl)
 | _,_=>none
def me {P:Program} (n:Nat) (fn:Func) (os:List Sh) (h:Hn P) (σ:Zt):Option (bZ os):=av h σ fun h σ=>match cU P n σ fn.results.toList with | some rs=>mf σ rs os h | none=>none
def fin {P:Program} (n:Nat) (fn:Func) (os:List Sh) (e:Exit) (h:Hn P) (σ:Zt):Option (bZ os):=match e with
 | .normal=>me n fn os h σ
 | .ret=>me n fn os h σ
 | _=>none
def oM {P:Program} (n:Nat) (fn:Func) (c:Code) (inn:Sh) (os:List Sh) (h:Hn P) (x:TL inn.ts):Option (bZ os):=match inn.un (TL.list inn.ts x) 0 with
 | some (vs,u)=>av h ⟨fun _ => .any,vs,u.H,[],u.nx,false⟩ fun h σ=>exec (oz 4) n c h σ (fin n fn os)
 | none=>none
section
variable {P:Program} {E:En} {n:Nat} {m:List M} {K:Hp} {fr:Frz} {σ:Zt} {ρ:Sl1} {w:World}
theorem nU (hr:Rel E fr σ m K ρ w):∀ {l:List ResultVar} {rs:List SV},cU P n σ l=some rs→∃ us:List Value,SV.relL m K rs us∧l.length=us.length∧∀ (j:Nat) (r:ResultVar) (v:Value),l[j]? = some r→us[j]? = some v→jt P n (Hold E K (σ.atoms fr m)) ρ r v
 | [],rs,h=>by cases h; exact ⟨[],rfl,rfl,fun j r v h=>by simp at h⟩
 | .tmp t :: l,rs,h=>by
   unfold cU at h
   split at h
   . rename_i vs hvs
     cases h
     obtain ⟨us,h1,h2,h3⟩:=nU hr hvs
     refine ⟨ev n ρ (.tmp t) :: us,⟨_,us,rfl,hr.toPur.ev n (.tmp t),h1⟩,by simp [h2],fun j r v hj hv=>?_⟩
     cases j with
     | zero=>simp at hj hv; subst hj hv; rfl
     | succ j=>exact h3 j r v (by simpa using hj) (by simpa using hv)
   . cases h
 | .cell a ty :: l,rs,h=>by
   unfold cU at h
   split at h
   . rename_i i o e
     split at h
     . rename_i q hq
       split at h
       . rename_i v vs hv hvs
         cases h
         obtain ⟨us,h1,h2,h3⟩:=nU hr hvs
         obtain ⟨x,hx,hmem⟩:=aX hq
         obtain rfl:=b7 hx
         obtain ⟨b,ws,g1,g2,g3⟩:=hr.cls.blk hmem
         obtain ⟨u,g4,g5⟩:=jg (P:=P) (o0:=0) hv g2 (fun j u hu=>by rw [Nat.zero_add]; exact g3 j u hu)
         rw [Nat.zero_add] at g4
         have hev:=hr.toPur.ev n (.tmp a)
         rw [e] at hev
         obtain ⟨b',q1,q2⟩:=hev
         rw [g1] at q1; cases q1
         refine ⟨u :: us,⟨_,us,rfl,g5,h1⟩,by simp [h2],fun j r v hj hv=>?_⟩
         cases j with
         | zero=>simp at hj hv; subst hj hv; exact ⟨b,o,q2,g4⟩
         | succ j=>exact h3 j r v (by simpa using hj) (by simpa using hv)
       . cases h
     . cases h
   . cases h
theorem rh {C:World→Prop} {w:World} (hw:C w):∀ {l:List ResultVar} {us:List Value},l.length=us.length→(∀ (j:Nat) (r:ResultVar) (v:Value),l[j]? = some r→us[j]? = some v→jt P n C ρ r v)→(l.mapM (rvS (frm n ρ))).run P w = .ok us w
 | [],us,h,_=>by
   obtain rfl:us=[]:=List.length_eq_zero_iff.1 h.symm
   simp
 | r :: l,us,h,hr=>by
   cases us with
   | nil=>cases h
   | cons u us =>
     have h1:=sQ (hr 0 r u rfl rfl) hw
     have h2:=rh hw (l:=l) (us:=us) (by simpa using h) (fun j r v hj hv=>hr (j + 1) r v (by simpa using hj) (by simpa using hv))
     simp [List.mapM_cons,h1,h2]
def jA:List Value→Value
 | [v]=>v
 | vs => .tuple vs.toArray
theorem xO {C:World→Prop} {w:World} (hw:C w) {fn:Func} {us:List Value} (hl:fn.results.toList.length=us.length) (h:∀ (j:Nat) (r:ResultVar) (v:Value),fn.results.toList[j]? = some r→us[j]? = some v→jt P n C ρ r v):(results fn (frm n ρ)).run P w = .ok (jA us) w:=by
 have h1:=rh hw hl h
 rw [pN]
 simp only [Array.mapM_eq_mapM_toList]
 simp only [Sem.run_bind,Sem.run_map,h1,Result.andThen_ok,Sem.run_pure]
 match us with
 | []=>rfl
 | [u]=>rfl
 | u :: v :: r =>
   rw [dif_neg (by simp)]
   rfl
theorem wX {rs:List SV} {us:List Value} (h:SV.relL m K rs us) (hne:rs≠[]):SV.rel m K (tZ rs) (jA us):=by
 match rs,us,h with
 | [],_,_=>exact absurd rfl hne
 | [v],us,h =>
   obtain ⟨u,q,rfl,h1,h2⟩:=aA h
   obtain rfl:=aI h2
   exact h1
 | v :: v2 :: r,us,h =>
   obtain ⟨u,q,rfl,h1,h2⟩:=aA h
   obtain ⟨u2,q2,rfl,h3,h4⟩:=aA h2
   exact ⟨_,rfl,u,_,rfl,h1,u2,q2,rfl,h3,h4⟩
theorem nM {rs:List SV} {us:List Value} {o:Sh} {x:TL o.ts} {K0:Hp} {m0:List M} (h:dY σ rs o=some x) (hr:Rel E fr σ m K ρ w) (hrel:SV.relL m K rs us) (hm:m0 <+: m) (ho:bc o.bl m0.length=true) (hF:σ.Hf=[]) :
   ∃ vs' u' m',o.un (TL.list o.ts x) m0.length=some (vs',u')∧m0 <+: m'∧m'.length=u'.nx∧(∀ a∈u'.H,HA.ok m' K a)∧hZ m' K vs' (jA us)∧Sep E K (u'.H.map (HA.conc m')++fr.F) w:=by
 unfold dY at h
 replace h:=ah h; obtain ⟨hs,h⟩:=h
 split at h
 . rename_i g hg
   obtain ⟨vs,u,ms,e1,e2,e3,e4,e5,e6,e7,e8⟩:=Sh.get_un hg hr.okH hm ho
   rw [TL.of_list h]
   refine ⟨vs,u,m0++ms,e1,ar _ _,e2,e4,?_,?_⟩
   . split at hs
     . rename_i hsl
       rw [hsl] at e3
       obtain rfl:vs=[]:=e3
       obtain rfl:=aI hrel
       rfl
     . rename_i v r p hsl
       rw [hsl] at e3
       obtain ⟨sv,q,rfl,g1,g2⟩:=e3
       obtain rfl:q=[]:=g2
       exact g1 _ (wX hrel (by simp))
     . cases hs
   . have:=e6 E _ w hr.toSep
     have h2:σ.fz fr=fr.F:=by unfold Zt.fz; rw [hF]; rfl
     rw [h2] at this
     have h3:Sep E K (g.H.map (HA.conc m)++(u.H.map (HA.conc (m0++ms))++fr.F)) w:=Sep.perm (gP _ _ _) this
     exact Sep.drops h3
 . cases h
theorem yu {rs:List SV} {us:List Value} {m0:List M} (hr:Rel E fr σ m K ρ w) (hrel:SV.relL m K rs us) (hm:m0 <+: m) (hF:σ.Hf=[]):∀ {os:List Sh} {h0:Hn P} {r:bZ os},(∀ o∈os,bc o.bl m0.length=true)→mf σ rs os h0=some r →
   ∃ vs' u' m',(cy os r).1.un (cy os r).2 m0.length=some (vs',u')∧m0 <+: m'∧m'.length=u'.nx∧(∀ a∈u'.H,HA.ok m' K a)∧hZ m' K vs' (jA us)∧Sep E K (u'.H.map (HA.conc m')++fr.F) w
 | [],h0,r,_,h=>Empty.elim r
 | [a],h0,r,ho,h=>nM (K0:=K) (show dY σ rs a=some r from h) hr hrel hm (ho a (by simp)) hF
 | [a,b],h0,r,ho,h=>by
   have key:(dY σ rs b).map Sum.inr=some r∨(dY σ rs a).map Sum.inl=some r:=by
     cases h0 <;> first | exact .inl h | exact .inr h
   clear h
   rcases key with h | h
   . rw [Option.map_eq_some_iff] at h
     obtain ⟨x,h,rfl⟩:=h
     exact nM (K0:=K) h hr hrel hm (ho b (by simp)) hF
   . rw [Option.map_eq_some_iff] at h
     obtain ⟨x,h,rfl⟩:=h
     exact nM (K0:=K) h hr hrel hm (ho a (by simp)) hF
 | a :: b :: c :: os,h0,r,_,h=>by cases h
theorem qN:∀ {sl:List (Nat×Kd)} {vs:List (Nat×SV)} {us:List Value} {j N:Nat},slN j sl N=true→vs.map (·.1)=sl.map (·.1)→slR m K vs us→∀ i sv,an vs i=some sv→∃ k u,i=j + k∧us[k]? = some u∧SV.rel m K sv u
 | [],vs,us,j,N,h1,h2,h3,i,sv,hl=>by
   have:vs=[]:=by cases vs with | nil=>rfl | cons a b=>cases h2
   subst this; cases hl
 | p :: sl,vs,us,j,N,h1,h2,h3,i,sv,hl=>by
   cases vs with
   | nil=>cases h2
   | cons q vs =>
     simp only [List.map_cons,List.cons.injEq] at h2
     simp only [slN,Bool.and_eq_true] at h1
     have hj:=Nat.eq_of_beq_eq_true h1.1
     obtain ⟨u,r,rfl,g1,g2⟩:=h3
     change (bif Nat.beq q.1 i then some q.2 else an vs i)=some sv at hl
     cases hb:Nat.beq q.1 i with
     | true =>
       rw [hb] at hl; cases hl
       have:=Nat.eq_of_beq_eq_true hb
       exact ⟨0,u,by rw [← this,h2.1,hj]; rfl,rfl,g1⟩
     | false =>
       rw [hb] at hl
       obtain ⟨k,u',e1,e2,e3⟩:=qN h1.2 h2.2 g2 i sv hl
       exact ⟨k + 1,u',by omega,by simpa using e2,e3⟩
theorem rl {bi:List Nat}:∀ {sl:List (Nat×Kd)} {u u':Un} {vs:List (Nat×SV)},unS bi sl u=some (vs,u')→vs.map (·.1)=sl.map (·.1)
 | [],u,u',vs,h=>by cases h; rfl
 | p :: sl,u,u',vs,h=>by
   unfold unS at h
   split at h
   . split at h
     . rename_i h2
       cases h
       simp [rl h2]
     . cases h
   . cases h
theorem yf {s:Sh} {ds:List Dat} {nx:Nat} {vs:List (Nat×SV)} {u:Un} (h:s.un ds nx=some (vs,u)):vs.map (·.1)=s.sl.map (·.1):=by
 unfold Sh.un at h
 replace h:=(ah h).2
 split at h
 split at h
 . rename_i h1
   split at h
   . cases h; exact rl h1
   . cases h
 . cases h
theorem sk:∀ {vs:List (Nat×SV)} {us:List Value},slR m K vs us→us.length=vs.length
 | [],us,h=>by obtain rfl:us=[]:=h; rfl
 | p :: vs,us,⟨u,r,e,_,h⟩=>by subst e; simp [sk h]
end
section
variable {P:Program} {E:En} {n:Nat} {m:List M} {K:Hp} {fr:Frz} {σ:Zt} {ρ:Sl1} {w:World}
theorem nT {b:Bool}:∀ l:List ResultVar,cU P n ⟨σ.base,σ.top,σ.H,σ.Hf,σ.nx,b⟩ l=cU P n σ l
 | []=>rfl
 | .tmp t :: r=>by unfold cU; rw [nT r]; rfl
 | .cell a ty :: r=>by unfold cU; rw [nT r]; rfl
theorem xY {b:Bool} {rs:List SV}:∀ {os:List Sh} {h:Hn P},mf ⟨σ.base,σ.top,σ.H,σ.Hf,σ.nx,b⟩ rs os h=mf σ rs os h
 | [],h=>rfl
 | [a],h=>rfl
 | [a,b],h=>by cases h <;> rfl
 | a :: b :: c :: os,h=>rfl
end
section
variable {P:Program} {n:Nat}
theorem zy {s:Spec} {fn:Func} {c:Code} (hf:P.funcs[s.f]? = some fn) (hb:fn.body=some c) (hn:fn.ntmps=n) (h:Hn P) (hc:(slN 0 s.inn.sl s.inn.sl.length&&Nat.ble s.inn.sl.length n)=true) (hold:∀ ds vs u,s.inn.un ds 0=some (vs,u)→∀ o∈s.outs,bc o.bl u.nx=true)
   (hex:∀ (x:TL s.inn.ts) r,s.fn x=some r→oM n fn c s.inn s.outs h x=some r):cH P s:=by
 intro x r hx vs u hu m K args hgk hm hok hsl E w F hs
 rw [Bool.and_eq_true] at hc
 obtain ⟨hc1,hc2⟩:=hc
 have hkeys:=yf hu
 have hlen:args.toArray.size≤n:=by
   have h1:=sk hsl
   have h2:vs.length=s.inn.sl.length:=by have:=congrArg List.length hkeys; simpa using this
   simp only [List.size_toArray]
   have:=Nat.le_of_ble_eq_true hc2
   omega
 refine callsIn_wide.1 (callsIn_of_wp_marks (F:=Fence.wide) (n:=0) hf hb trivial ?_)
 rw [hn,kH hlen]
 have hrun:=hex x r hx
 unfold oM at hrun
 rw [hu] at hrun
 simp only at hrun
 have hrel:Rel E.out0 ⟨m,K,bR args.toArray,fun _=>false,F,K⟩ ⟨fun _ => .any,vs,u.H,[],u.nx,false⟩ m K (bR args.toArray) w:=by
   refine ⟨⟨List.prefix_refl m,Hp.le_refl K,hm,fun e=>(by cases e),fun i=>trivial,fun i e=>rfl,fun i _ => .inr rfl,fun i sv hi=>?_,hok,fun a ha=>by simp at ha,MOk.nil hgk (Hp.le_refl K)⟩,?_⟩
   . obtain ⟨k,v,e1,e2,e3⟩:=qN hc1 hkeys hsl i sv hi
     have:bR args.toArray i=v:=by
       show cM args.toArray i=v
       unfold cM
       rw [e1,Nat.zero_add]
       simp [e2]
     rw [this]; exact e3
   . exact hs.out0
 obtain ⟨hp,σp,mp,Kp,p1,p2,p3⟩:=aF h hrun hrel
 refine bP (rR 4) c (bZ s.outs) E.out0 ⟨m,K,bR args.toArray,fun _=>false,F,K⟩ (fun l e=>by cases e) hp σp (fin n fn s.outs) r mp Kp _ w _ p1 p3 (fun e h' σ' m' K' ρ' w' h1 h2 h3=>?_)
 have fini:me n fn s.outs h' σ'=some r→LeavesInM Fence.wide 0 P fn (act1 n ρ').tmps (fun e w'=>∃ v K' L',e = .returned v∧(∃ vs' u' m',(cy s.outs r).1.un (cy s.outs r).2 u.nx=some (vs',u')∧m <+: m'∧m'.length=u'.nx∧(∀ a∈u'.H,HA.ok m' K' a)∧hZ m' K' vs' v∧L'=u'.H.map (HA.conc m'))∧K.le K'∧Sep E K' (L'++F) w') (act1 n ρ').defers .returning w':=fun h3=>by
   unfold me at h3
   obtain ⟨h'',σ2,m2,K2,g1,g2,g3⟩:=aF h' h3 h1
   split at g1
   . rename_i rs hrs
     refine kc ρ'.ds g3.mks g3.toSep (fun K3 w3 c1 c2 c3=>?_)
     have g4:=g3.unmark c1 c2 c2 c3
     rw [← nT (b:=false)] at hrs
     rw [← xY (b:=false)] at g1
     obtain ⟨us,q1,q2,q3⟩:=nU g4 hrs
     refine ⟨jA us,xO (ρ:=(⟨ρ'.f,[]⟩:Sl1)) g4.hold q2 q3,?_⟩
     obtain ⟨vs',u',m'',z1,z2,z3,z4,z5,z6⟩:=yu (m0:=m) g4 q1 g4.hm (((p2.trans h2).trans g2).2) (fun o ho=>by rw [hm]; exact hold _ _ _ hu o ho) g1
     rw [hm] at z1
     exact ⟨_,K3,_,rfl,⟨vs',u',m'',z1,z2,z3,z4,z5,rfl⟩,g4.hK,z6.back⟩
   . cases g1
 cases e with
 | normal=>exact fini h3
 | ret=>exact fini h3
 | _=>cases h3
end
end
section
variable [BldA]
mutual
theorem lN {bi:List Nat}:∀ (k:Kd) {u u':Un} {v:SV},Kd.un bi k u=some (v,u')→u.nx≤u'.nx
 | .any,u,u',v,h=>by cases h; exact Nat.le_refl _
 | .dat t,u,u',v,h=>by unfold Kd.un at h; split at h <;> cases h; exact Nat.le_refl _
 | .nilp,u,u',v,h=>by cases h; exact Nat.le_refl _
 | .nils,u,u',v,h=>by cases h; exact Nat.le_refl _
 | .nilf,u,u',v,h=>by cases h; exact Nat.le_refl _
 | .ptr j o,u,u',v,h=>by unfold Kd.un at h; split at h <;> cases h; exact Nat.le_refl _
 | .own e t,u,u',v,h=>by unfold Kd.un at h; split at h <;> cases h; exact Nat.le_add_right _ _
 | .al j,u,u',v,h=>by unfold Kd.un at h; split at h <;> cases h; exact Nat.le_refl _
 | .fsl j m,u,u',v,h=>by unfold Kd.un at h; split at h <;> cases h; exact Nat.le_refl _
 | .agg ks,u,u',v,h=>by
   unfold Kd.un at h; split at h
   . cases h; exact gI ks (by assumption)
   . cases h
 | .tup ks,u,u',v,h=>by
   unfold Kd.un at h; split at h
   . cases h; exact gI ks (by assumption)
   . cases h
 | .fn f ks,u,u',v,h=>by
   unfold Kd.un at h; split at h
   . cases h; exact gI ks (by assumption)
   . cases h
 | .kat t o,u,u',v,h=>by
   unfold Kd.un at h; split at h
   . split at h
     . cases h; exact Nat.le_refl _
     . cases h
   . cases h
 | .ifc t k,u,u',v,h=>by
   unfold Kd.un at h; split at h
   . cases h; exact lN k (by assumption)
   . cases h
 | .lit w,u,u',v,h=>by cases h; exact Nat.le_refl _
 | .od o,u,u',v,h=>by
   unfold Kd.un at h
   replace h:=(ah h).2
   split at h
   . split at h
     . cases h; exact Nat.le_add_right _ _
     . cases h
   . cases h
 | .rp j,u,u',v,h=>by unfold Kd.un at h; split at h <;> cases h; exact Nat.le_refl _
 | .is j k,u,u',v,h=>by
   unfold Kd.un at h; split at h
   . split at h
     . cases h; exact lN k (by assumption)
     . cases h
   . cases h
theorem gI {bi:List Nat}:∀ (ks:List Kd) {u u':Un} {vs:List SV},Kd.unL bi ks u=some (vs,u')→u.nx≤u'.nx
 | [],u,u',vs,h=>by cases h; exact Nat.le_refl _
 | k :: ks,u,u',vs,h=>by
   unfold Kd.unL at h; split at h
   . rename_i h1
     split at h
     . rename_i h2; cases h; exact Nat.le_trans (lN k h1) (gI ks h2)
     . cases h
   . cases h
end
theorem sH {bi:List Nat}:∀ (sl:List (Nat×Kd)) {u u':Un} {vs:List (Nat×SV)},unS bi sl u=some (vs,u')→u.nx≤u'.nx
 | [],u,u',vs,h=>by cases h; exact Nat.le_refl _
 | p :: sl,u,u',vs,h=>by
   unfold unS at h; split at h
   . rename_i h1
     split at h
     . rename_i h2; cases h; exact Nat.le_trans (lN p.2 h1) (sH sl h2)
     . cases h
   . cases h
theorem s8 {bi:List Nat}:∀ (bl:List Bk) (is:List Nat) {u u':Un},unB bi bl is u=some u'→u.nx≤u'.nx
 | [],[],u,u',h=>by cases h; exact Nat.le_refl _
 | [],i :: is,u,u',h=>by cases h
 | b :: bl,[],u,u',h=>by cases h
 | b :: bl, i :: is, u, u', h => by
   unfold unB at h; split at h
   . rename_i u1 h1
     refine Nat.le_trans ?_ (s8 bl is h)
     unfold dv at h1
     cases hn:b.nu with
     | true=>rw [hn] at h1; cases h1; exact Nat.le_refl _
     | false =>
       rw [hn] at h1; simp only [cond_false] at h1
       cases hlp:b.lp with
       | true=>rw [hlp] at h1; simp only [cond_true] at h1; cases h1; exact Nat.le_refl _
       | false =>
       rw [hlp] at h1; simp only [cond_false] at h1
       cases hr:b.rw with
       | some o =>
         rw [hr] at h1
         dsimp only at h1
         cases hb:b.bu with
         | true =>
           rw [hb] at h1; simp only [cond_true] at h1
           split at h1
           . split at h1
             . split at h1
               . rename_i h2
                 cases h1
                 have h3:=gI b.ks h2
                 exact Nat.le_trans (show u.nx≤_ from h3) (Nat.le_succ _)
               . cases h1
             . cases h1
           . cases h1
         | false =>
         rw [hb] at h1; simp only [cond_false] at h1
         split at h1
         . split at h1
           . cases h1; exact Nat.le_succ _
           . cases h1
         . cases h1
       | none =>
       rw [hr] at h1
       dsimp only at h1
       cases hb:b.bu with
       | true =>
         rw [hb] at h1; simp only [cond_true] at h1
         split at h1 <;> cases h1
         exact Nat.le_refl _
       | false =>
         rw [hb] at h1; simp only [cond_false] at h1
         split at h1
         . rename_i h2
           cases h1
           exact Nat.le_trans (gI b.ks h2) (Nat.le_succ _)
         . cases h1
   . cases h
theorem rY:∀ (bl:List Bk) (nx:Nat),cI bl=true→(aP bl nx).2=nx + bl.length
 | [],nx,_=>rfl
 | b :: bl,nx,h=>by
   simp only [cI,Bool.and_eq_true] at h
   cases hb:b.old with
   | some i=>rw [hb] at h; cases h.1
   | none =>
     simp only [aP,hb,List.length_cons]
     rw [rY bl (nx + 1) h.2]
     omega
theorem zl {s:Sh} {ds:List Dat} {vs:List (Nat×SV)} {u:Un} (h:s.un ds 0=some (vs,u)) (ho:cI s.bl=true):s.bl.length≤u.nx:=by
 unfold Sh.un at h
 replace h:=(ah h).2
 have hn:=rY s.bl 0 ho
 split at h
 rename_i bi nx he
 rw [he] at hn
 simp only [Nat.zero_add] at hn
 split at h
 . rename_i h1
   split at h
   . rename_i h2
     cases h
     have:=sH s.sl h1
     have:=s8 s.bl bi h2
     simp only at *
     omega
   . cases h
 . cases h
theorem rC:∀ (bl:List Bk) {a b:Nat},bc bl a=true→a≤b→bc bl b=true
 | [],a,b,h,hab=>rfl
 | x :: bl,a,b,h,hab=>by
   simp only [bc,Bool.and_eq_true] at h ⊢
   refine ⟨?_,rC bl h.2 hab⟩
   cases ho:x.old with
   | none=>rfl
   | some i =>
     have h1:=h.1
     rw [ho] at h1
     simp only [Nat.blt_eq] at h1 ⊢
     omega
def n7 (fn:Func):Code:=match fn.body with | some c=>c | none => .skip
def sN (s:Spec) (fn:Func):Bool:=fn.body.isSome&&(slN 0 s.inn.sl s.inn.sl.length&&Nat.ble s.inn.sl.length fn.ntmps)&&(cI s.inn.bl&&s.outs.all fun o=>bc o.bl s.inn.bl.length)
theorem ae {P:Program} {s:Spec} {fn:Func} (hf:P.funcs[s.f]? = some fn) (h:Hn P) (hc:sN s fn=true) (hex:(fun x=>oM fn.ntmps fn (n7 fn) s.inn s.outs h x)=s.fn):cH P s:=by
 unfold sN at hc
 simp only [Bool.and_eq_true] at hc
 obtain ⟨⟨h1,h2,h2'⟩,h3,h4⟩:=hc
 have hb:fn.body=some (n7 fn):=by
   unfold n7
   cases hbd:fn.body with
   | none=>rw [hbd] at h1; cases h1
   | some c=>rfl
 refine zy hf hb rfl h (by rw [h2,h2']; rfl) (fun ds vs u hu o ho=>rC o.bl (List.all_eq_true.1 h4 o ho) (zl hu h3)) (fun x r hx=>?_)
 rw [← hx]
 exact congrFun hex x
end
theorem zx [BldA] {P:Program} {s:Spec} {W:World} (hs:cH P s) {x:TL s.inn.ts} {r:bZ s.outs} (hr:s.fn x=some r) (hgk:BldA.gk (Hp.of W)) {vs:List (Nat×SV)} (hun:s.inn.un (TL.list _ x) 0=some (vs,⟨[],0,[],[]⟩))
   (hout:(cy s.outs r).1.un (cy s.outs r).2 0=some ([(0,.bool true)],⟨[],0,[],[]⟩)) {args:List Value} (hsl:slR [] (Hp.of W) vs args) :
   Calls P s.f args.toArray W fun e W'=>e = .returned (.bool true)∧Below W.heap.size W W':=by
 have h:=hs x r hr vs _ hun [] (Hp.of W) args hgk rfl (fun a ha=>by cases ha) hsl (En.of W) W [] (Sep.start W)
 refine h.mono fun e W' h=>?_
 obtain ⟨v,K',L',rfl,⟨vs',u',m',h1,_,_,_,h2,_⟩,h3,h4⟩:=h
 have h1:=h1.symm.trans hout
 cases h1
 obtain rfl:v = .bool true:=h2
 exact ⟨rfl,h4.below h3⟩
section
open Go.ChangeShapes Go.WideShapes Go.RowKit Go.Deep
namespace Tp
def flatW:Tp→Bool
 | .sl _=>false
 | .one a=>flatW a
 | .cons a r=>flatW a&&flatW r
 | _=>true
mutual
def heavy (P:Program):Tp→TypeId→Bool
 | .sl e,t=>match P.underlying t with | some (.slice e')=>decide (0 < P.bytesOf e')&&heavy P e e' | _=>false
 | .one a,t=>match P.underlying t with | some (.struct fs)=>(match fs.toList with | [f]=>heavy P a f.type | _=>false) | some (.array _ _)=>flatW a | _=>false
 | .cons a r,t=>match P.underlying t with | some (.struct fs)=>(match fs.toList with | f :: fs=>heavy P a f.type&&heavyAll P r fs | []=>false) | some (.array _ _)=>flatW a&&flatW r | _=>false
 | _,_=>true
def heavyAll (P:Program):Tp→List Field→Bool
 | .emp,[]=>true
 | .one a,[f]=>heavy P a f.type
 | .cons a r,f :: fs=>heavy P a f.type&&heavyAll P r fs
 | _,_=>false
end
def Fit:(t:Tp)→t.den→Prop
 | .sl e,l=>l.length≤140737488351232∧∀ x∈l,Fit e x
 | .one a,d=>Fit a d
 | .cons a r,d=>Fit a d.1∧Fit r d.2
 | _,_=>True
theorem flat_fit:∀ (t:Tp) (d:t.den),t.flatW=true→t.Fit d
 | .int _,_,_=>trivial
 | .bool,_,_=>trivial
 | .str,_,_=>trivial
 | .ptr _,_,_=>trivial
 | .emp,_,_=>trivial
 | .sl _,_,h=>by cases h
 | .one a,d,h=>flat_fit a d h
 | .cons a r,d,h=>by
   unfold flatW at h
   rw [Bool.and_eq_true] at h
   exact ⟨flat_fit a d.1 h.1,flat_fit r d.2 h.2⟩
end Tp
theorem vR (b o m:Nat):(⟨b,o,none⟩:Addr).add m=⟨b,o + m,none⟩:=by
 unfold Addr.add; split
 . rename_i h; subst h; rfl
 . rfl
section
variable {H:Type} {P:Program} {p:Nat→Bool}
theorem fD:∀ (ts:List TypeId) (ds:List (DataW H)),(DataW.weightsEach P ts ds).all p=true→∀ (i:Nat) t d,ts[i]? = some t→ds[i]? = some d→(d.weights P t).all p=true
 | [],ds,h,i,t,d,ht,hd=>by simp at ht
 | t :: ts,[],h,i,t',d,ht,hd=>by simp at hd
 | t :: ts,d :: ds,h,0,t',d',ht,hd=>by
   simp at ht hd; subst ht; subst hd
   unfold DataW.weightsEach at h
   rw [List.all_append,Bool.and_eq_true] at h; exact h.1
 | t :: ts,d :: ds,h,i + 1,t',d',ht,hd=>by
   unfold DataW.weightsEach at h
   rw [List.all_append,Bool.and_eq_true] at h
   exact fD ts ds h.2 i t' d' (by simpa using ht) (by simpa using hd)
theorem ug {e:TypeId}:∀ (ds:List (DataW H)),(DataW.weightsAll P e ds).all p=true→∀ d∈ds,(d.weights P e).all p=true
 | [],h,d,hd=>by cases hd
 | d :: ds,h,d',hd=>by
   unfold DataW.weightsAll at h
   rw [List.all_append,Bool.and_eq_true] at h
   rcases List.mem_cons.1 hd with rfl | hd
   . exact h.1
   . exact ug ds h.2 d' hd
end
section
variable {H:Type} {enc:TypeId×Value→H} {P:Program} {W:World} {base:Nat} {spare:Nat→Bool} {held:Bool}
mutual
theorem Tp.fit:∀ (ty:Tp) {t:TypeId} {fuel:Nat} {cs:List Value} {x:DataW H×List MemPlace} {d:ty.den},ty.has P t=true→ty.heavy P t=true→DataW.trod enc P W base spare held fuel t cs=some x→Is (Hp.of W) ty cs d→(x.1.weights P t).all (·≤reachBytes)=true→ty.Fit d
 | .int k,_,_,_,_,_,_,_,_,_,_=>trivial
 | .bool,_,_,_,_,_,_,_,_,_,_=>trivial
 | .str,_,_,_,_,_,_,_,_,_,_=>trivial
 | .ptr e,_,_,_,_,_,_,_,_,_,_=>trivial
 | .emp,_,_,_,_,_,_,_,_,_,_=>trivial
 | .sl e,t,fuel,cs,x,d,hh,hv,h,hi,hw=>by
   unfold Tp.has at hh
   unfold Tp.heavy at hv
   split at hh
   . rename_i e' ht
     rw [ht] at hv
     simp only [Bool.and_eq_true,decide_eq_true_eq] at hh hv
     obtain ⟨⟨he,hc⟩,h0⟩:=hh
     obtain ⟨hb0,hv⟩:=hv
     simp only [Is] at hi
     obtain ⟨ad,cp,hcs,hl1,hl2,hi⟩:=hi
     rcases open_slice ht h with ⟨rfl,rfl⟩ | ⟨a,len,cap,m,n,D,Pl,rfl,hb,hl,hm,hmm,rfl,hx⟩
     . simp only [List.cons.injEq,Value.slice.injEq,and_true] at hcs
       obtain ⟨_,hz,_⟩:=hcs
       obtain rfl:d=[]:=List.length_eq_zero_iff.1 hz.symm
       exact ⟨by simp,fun x hx=>by simp at hx⟩
     . simp only [List.cons.injEq,Value.slice.injEq,and_true] at hcs
       obtain ⟨rfl,hlen,rfl⟩:=hcs
       unfold DataW.weights at hw
       rw [ht] at hw
       simp only [List.all_cons,List.all_append,Bool.and_eq_true,decide_eq_true_eq,List.length_map,List.length_range] at hw
       obtain ⟨hw1,hw2,hw3⟩:=hw
       have hle:len≤(len + (m - len)) * P.bytesOf e':=by
         have:(len + (m - len)) * 1≤(len + (m - len)) * P.bytesOf e':=Nat.mul_le_mul_left _ hb0
         omega
       have hr:reachBytes=140737488351232:=by decide
       refine ⟨by omega,fun y hy=>?_⟩
       obtain ⟨k,hk,rfl⟩:=List.getElem_of_mem hy
       have hkl:k < len:=by omega
       obtain ⟨b,o,hb',hes⟩:=hi (fun hn=>by rw [hn] at hk; simp at hk)
       simp only [Option.some.injEq] at hb'
       subst hb'
       obtain ⟨es,hel,hie,hce⟩:=hes k d[k] (List.getElem?_eq_getElem hk)
       obtain ⟨cs',hcs',ht'⟩:=hx k (by rw [hmm]; split <;> omega)
       rw [hc] at hcs'
       obtain ⟨_,hlen',hcell⟩:=World.cells?_some hcs'
       have e:cs'=es:=by
         apply List.ext_getElem?
         intro j
         by_cases hj:j < e.size
         . rw [← hcell j hj]
           have h1:=hce j hj
           rw [List.getElem?_eq_getElem (by omega)] at h1 ⊢
           have h2:=dd (w:=W) (Hp.le_refl _) h1
           rw [← h2,Go.Deep.add_add,vR]
           congr 2; omega
         . rw [List.getElem?_eq_none (by omega),List.getElem?_eq_none (by omega)]
       subst e
       exact Tp.fit e he hv ht' hie (ug _ hw2 _ (List.mem_map.2 ⟨k,List.mem_range.2 hkl,rfl⟩))
   . simp at hh
 | .one a,t,fuel,cs,x,d,hh,hv,h,hi,hw=>by
   unfold Tp.has at hh
   unfold Tp.heavy at hv
   split at hh
   . rename_i fs ht
     rw [ht] at hv
     simp only [Bool.and_eq_true,decide_eq_true_eq] at hh
     obtain ⟨hh,hC⟩:=hh
     split at hh
     . rename_i f hfs
       simp only [hfs] at hv
       simp only [Bool.and_eq_true,decide_eq_true_eq] at hh hv
       obtain ⟨⟨h1,h2⟩,h3⟩:=hh
       obtain ⟨xs,n,_,rfl,hlen,hxl,hf⟩:=DataW.trod_struct ht h
       have hsz:fs.size=1:=by rw [← Array.length_toList,hfs]; simp
       have hget:∀ i,fs[i]? = [f][i]?:=fun i=>by rw [← hfs,Array.getElem?_toList]
       have t0:=hf 0 f (by rw [hget]; rfl)
       rw [h1,h2,List.drop_zero,List.getElem?_eq_getElem (by omega),List.take_of_length_le (by omega)] at t0
       unfold DataW.weights at hw
       simp only [ht,hfs] at hw
       exact Tp.fit a h3 hv t0 hi (fD _ _ hw 0 _ _ rfl (by simp [List.getElem?_eq_getElem (show 0 < xs.length by omega)]))
     . simp at hh
   . rename_i n e ht
     rw [ht] at hv
     exact Tp.flat_fit a d hv
   . simp at hh
 | .cons a r,t,fuel,cs,x,d,hh,hv,h,hi,hw=>by
   unfold Tp.has at hh
   unfold Tp.heavy at hv
   split at hh
   . rename_i fs ht
     rw [ht] at hv
     simp only [Bool.and_eq_true,decide_eq_true_eq] at hh
     obtain ⟨hh,hC⟩:=hh
     split at hh
     . rename_i f fs' hfs
       simp only [hfs] at hv
       simp only [Bool.and_eq_true,decide_eq_true_eq] at hh hv
       obtain ⟨⟨⟨h1,h2⟩,h3⟩,h4⟩:=hh
       obtain ⟨xs,n,_,rfl,hlen,hxl,hf⟩:=DataW.trod_struct ht h
       have hsz:fs.size=fs'.length + 1:=by rw [← Array.length_toList,hfs]; simp
       have hget:∀ i,fs[i]? = (f :: fs')[i]?:=fun i=>by rw [← hfs,Array.getElem?_toList]
       have t0:=hf 0 f (by rw [hget]; rfl)
       rw [h1,h2,List.drop_zero,List.getElem?_eq_getElem (by omega)] at t0
       unfold DataW.weights at hw
       simp only [ht,hfs] at hw
       simp only [Is] at hi
       obtain ⟨c1,c2,rfl,hl1,hi1,hi2⟩:=hi
       rw [List.take_left' hl1] at t0
       refine ⟨Tp.fit a h3 hv.1 t0 hi1 (fD _ _ hw 0 _ _ rfl (by simp [List.getElem?_eq_getElem (show 0 < xs.length by omega)])),?_⟩
       refine Tp.fitAll a.size r fs' (cs:=c2) (all:=c1++c2) h4 hv.2 (fun i g hg=>?_) (by rw [List.drop_left' hl1]) hi2
       have t1:=hf (i + 1) g (by rw [hget]; exact hg)
       have hi':i < fs'.length:=(List.getElem?_eq_some_iff.1 hg).1
       rw [List.getElem?_eq_getElem (by omega)] at t1
       exact ⟨n,_,t1,fD _ _ hw (i + 1) _ _ (by simp [hg]) (by simp [List.getElem?_eq_getElem (show i + 1 < xs.length by omega)])⟩
     . simp at hh
   . rename_i n e ht
     rw [ht] at hv
     rw [Bool.and_eq_true] at hv
     exact ⟨Tp.flat_fit a d.1 hv.1,Tp.flat_fit r d.2 hv.2⟩
   . simp at hh
theorem Tp.fitAll:∀ (o:Nat) (ty:Tp) (fs:List Field) {cs all:List Value} {d:ty.den},ty.hasAll P o fs=true→ty.heavyAll P fs=true →
   (∀ (i:Nat) (f:Field),fs[i]? = some f→∃ n x,DataW.trod enc P W base spare held n f.type ((all.drop f.offset).take (P.cellsOf f.type))=some x∧(x.1.weights P f.type).all (·≤reachBytes)=true)→cs=all.drop o→Is (Hp.of W) ty cs d→ty.Fit d
 | o,.emp,[],cs,all,d,hh,hv,hf,hc,hi=>trivial
 | o,.one a,[f],cs,all,d,hh,hv,hf,hc,hi=>by
   unfold Tp.hasAll at hh
   unfold Tp.heavyAll at hv
   simp only [Bool.and_eq_true,decide_eq_true_eq] at hh
   obtain ⟨⟨h1,h2⟩,h3⟩:=hh
   obtain ⟨n,x,t0,w0⟩:=hf 0 f rfl
   have hl:=Is.len (t := .one a) hi
   rw [h1,h2,← hc,List.take_of_length_le (by rw [hl]; exact Nat.le_refl _)] at t0
   exact Tp.fit a h3 hv t0 hi w0
 | o,.cons a r,f :: fs,cs,all,d,hh,hv,hf,hc,hi=>by
   unfold Tp.hasAll at hh
   unfold Tp.heavyAll at hv
   simp only [Bool.and_eq_true,decide_eq_true_eq] at hh hv
   obtain ⟨⟨⟨h1,h2⟩,h3⟩,h4⟩:=hh
   obtain ⟨n,x,t0,w0⟩:=hf 0 f rfl
   simp only [Is] at hi
   obtain ⟨c1,c2,rfl,hl1,hi1,hi2⟩:=hi
   rw [h1,h2,← hc,List.take_left' hl1] at t0
   refine ⟨Tp.fit a h3 hv.1 t0 hi1 w0,Tp.fitAll (o + a.size) r fs (cs:=c2) (all:=all) h4 hv.2 (fun i g hg=>hf (i + 1) g hg) (by rw [← List.drop_drop,← hc,List.drop_left' hl1]) hi2⟩
 | _,.int _,_,_,_,_,hh,_,_,_,_=>by simp [Tp.hasAll] at hh
 | _,.bool,_,_,_,_,hh,_,_,_,_=>by simp [Tp.hasAll] at hh
 | _,.str,_,_,_,_,hh,_,_,_,_=>by simp [Tp.hasAll] at hh
 | _,.sl _,_,_,_,_,hh,_,_,_,_=>by simp [Tp.hasAll] at hh
 | _,.ptr _,_,_,_,_,hh,_,_,_,_=>by simp [Tp.hasAll] at hh
 | _,.emp,_ :: _,_,_,_,hh,_,_,_,_=>by simp [Tp.hasAll] at hh
 | _,.one _,[],_,_,_,hh,_,_,_,_=>by simp [Tp.hasAll] at hh
 | _,.one _,_ :: _ :: _,_,_,_,hh,_,_,_,_=>by simp [Tp.hasAll] at hh
 | _,.cons _ _,[],_,_,_,hh,_,_,_,_=>by simp [Tp.hasAll] at hh
end
theorem Tp.argFit (ty:Tp) {r:Reach} {b:Nat} {t:TypeId} {v:Value} {d:DataW H} {p:List MemPlace} {x:ty.den} (hh:ty.has P t=true) (hv:ty.heavy P t=true) (h:DataW.Trod enc P W base spare held t v d p) (hx:IsV (Hp.of W) ty v x) (hw:(d.weights P t).all (·≤reachBytes)=true):ty.Fit x:=by
 obtain ⟨f,hf⟩:=h
 cases ty with
 | int k=>trivial
 | bool=>trivial
 | str=>trivial
 | ptr e=>trivial
 | emp=>trivial
 | sl e =>
   obtain ⟨ad,cp,rfl⟩:=Is.slv hx
   exact Tp.fit (.sl e) hh hv hf hx hw
 | one a =>
   obtain ⟨cs,rfl,hi⟩:=hx
   exact Tp.fit (.one a) hh hv (show DataW.trod enc P W base spare held f t cs=some (d,p) from hf) hi hw
 | cons a q =>
   obtain ⟨cs,rfl,hi⟩:=hx
   exact Tp.fit (.cons a q) hh hv (show DataW.trod enc P W base spare held f t cs=some (d,p) from hf) hi hw
end
end
section
section
variable {E:En} {K K0:Hp} {L:List ab} {w:World}
theorem Sep.arr {b:Nat} {e:TypeId} {t:Tp} {m:Nat} {cs:List Value} {xs:List t.den} (he:Els Hp.nil t cs xs) (hl:xs.length=m) (hm:Nat.ble m 1048576=true) (hs:Sep E K (Cl b e cs :: L) w):Sep E K (Row Hp.nil e t (.slice (some ⟨b,0,none⟩) m m) xs :: L) w:=by
 have hm:=Nat.le_of_ble_eq_true hm
 subst hl
 refine hs.mono (fun h ha=>?_)
 obtain rfl:h=_:=ha
 exact ⟨cs,he,he.len,.inr ⟨b,xs.length,cs.toArray,rfl,rfl,Nat.le_refl _,by unfold maxLen; omega,by rw [List.size_toArray]; exact he.len,by simp [← he.len]⟩⟩
end
section
variable {P:Program} {K0:Hp}
theorem V.subA {tx e:TypeId} {tp:Tp} {b m:Nat} {s z:List tp.den} {l h:Int} (ht:P.underlying tx=some (.array m e)) (hz:(P.info? e).map (·.size)=some tp.size) (hl:s.length=m) (hs:Is K0 (.sl tp) [.slice (some ⟨b,0,none⟩) m m] s) (hy:subL s l h=some z) :
   ∃ ad' cp',(∀ {n:Nat} {C:World→Prop} {ρ:Sl0} {d:Option Nat} {t:TypeId} {pos:String} {af:Array Edge} {g:Option (Nat×Bool)} {x:Operand} {lo hi:Option Operand},ev n ρ x = .pointer (some ⟨b,0,none⟩)→(∀ q,lo=some q→∃ k,ev n ρ q = .int k l)→(lo=none→l=0)→(∀ q,hi=some q→∃ k,ev n ρ q = .int k h)→(hi=none→h=(m:Nat)) →
     Val P n C ρ ⟨d,.slice tx x lo hi none,t,pos,af,g⟩ (.slice ad' z.length cp'))∧Is K0 (.sl tp) [.slice ad' z.length cp'] z:=by
 subst hl
 obtain ⟨a1,a2,a3,rfl⟩:=eW hy
 obtain ⟨l,rfl⟩:=Int.eq_ofNat_of_zero_le a1
 obtain ⟨h,rfl⟩:=Int.eq_ofNat_of_zero_le (show 0≤h by omega)
 have b1:l≤h:=by omega
 have b2:h≤s.length:=by omega
 simp only [Int.toNat_natCast]
 have hlen:((s.take h).drop l).length=h - l:=by rw [List.length_drop,List.length_take]; omega
 refine ⟨some (if s.length=l then ⟨b,0,none⟩ else ⟨b,0 + l * tp.size,none⟩),s.length - l,?_,by rw [hlen]; exact hs.part l h b1 b2⟩
 intro n C ρ d t pos af g x lo hi hx hl hl0 hh hh0 w _
 rw [hlen]
 cases hi':P.info? e with
 | none=>rw [hi'] at hz; simp at hz
 | some i' =>
   rw [hi'] at hz
   simp at hz
   cases lo with
   | none =>
     have:=hl0 rfl
     obtain rfl:l=0:=by omega
     cases hi with
     | none =>
       have:=hh0 rfl
       obtain rfl:h=s.length:=by omega
       simp [execOp,hx,Instr.sliceAt,run_underlying ht,Instr.sureAddr,Instr.sliceBounds,sizeOf,typeInfo,hi',hz,aJ]
     | some q =>
       obtain ⟨k,hq⟩:=hh q rfl
       simp [execOp,hx,hq,Instr.sliceAt,run_underlying ht,Instr.sureAddr,Instr.sliceBounds,Instr.sliceBound,asIntOf,b2,sizeOf,typeInfo,hi',hz,aJ]
       try (by_cases q:s.length=0 <;> simp [q])
   | some ql =>
     obtain ⟨k1,hq1⟩:=hl ql rfl
     cases hi with
     | none =>
       have:=hh0 rfl
       obtain rfl:h=s.length:=by omega
       simp [execOp,hx,hq1,Instr.sliceAt,run_underlying ht,Instr.sureAddr,Instr.sliceBounds,Instr.sliceBound,asIntOf,b1,sizeOf,typeInfo,hi',hz,aJ]
       try (by_cases q:s.length=l <;> simp [q])
     | some q =>
       obtain ⟨k,hq⟩:=hh q rfl
       simp [execOp,hx,hq,hq1,Instr.sliceAt,run_underlying ht,Instr.sureAddr,Instr.sliceBounds,Instr.sliceBound,asIntOf,b1,b2,sizeOf,typeInfo,hi',hz,aJ]
       try (by_cases q:s.length=l <;> simp [q])
theorem yT {α:Type} {xs:List α} {i:Int} {m:Nat} (h:i < (xs.length:Nat)) (hl:xs.length=m):i < (m:Nat):=by subst hl; exact h
end
end
end
end Go.Proofs.YtelekeapfgfknaaGreat
namespace Go.Proofs
open Go.Shelf
def Tryz.lays156_ren:Go.Shelf.Ren:=⟨fun | 156=>62 | 165=>84 | 166=>85 | 169=>86 | 240=>103 | 241=>104 | 276=>114 | 277=>115 | n=>n,fun | 31=>45 | 9=>9 | 3=>3 | 4=>4 | 0=>0 | 20=>20 | 72=>140 | 76=>144 | 70=>138 | 37=>137 | 75=>143 | 127=>158 | 164=>165 | 5=>5 | 80=>146 | n=>n,fun | n=>n⟩
theorem Tryz.lays156:Go.Proofs.Lays.n156 Tryz.prog Tryz.lays156_ren:={
  mixed:=by kernel_rfl
  f156:=Tryz.func62.trans (congrArg some (by kernel_rfl))
  f165:=Tryz.func84.trans (congrArg some (by kernel_rfl))
  f166:=Tryz.func85.trans (congrArg some (by kernel_rfl))
  f169:=Tryz.func86.trans (congrArg some (by kernel_rfl))
  f240:=Tryz.func103.trans (congrArg some (by kernel_rfl))
  f241:=Tryz.func104.trans (congrArg some (by kernel_rfl))
  f276:=Tryz.func114.trans (congrArg some (by kernel_rfl))
  f277:=Tryz.func115.trans (congrArg some (by kernel_rfl))
  t0:=Tryz.underlying0
  a0:=Tryz.isAgg0
  z0:=Tryz.sizeOf0
  v0:=Tryz.zeroValue0
  t3:=Tryz.underlying3
  a3:=Tryz.isAgg3
  z3:=Tryz.sizeOf3
  v3:=Tryz.zeroValue3
  t4:=Tryz.underlying4
  a4:=Tryz.isAgg4
  z4:=Tryz.sizeOf4
  v4:=Tryz.zeroValue4
  t9:=Tryz.underlying9
  a9:=Tryz.isAgg9
  z9:=Tryz.sizeOf9
  v9:=Tryz.zeroValue9
  t20:=Tryz.underlying20
  a20:=Tryz.isAgg20
  z20:=Tryz.sizeOf20
  v20:=Tryz.zeroValue20
  t31:=Tryz.underlying45
  a31:=Tryz.isAgg45
  z31:=Tryz.sizeOf45
  v31:=Tryz.zeroValue45
  t37:=Tryz.underlying137
  a37:=Tryz.isAgg137
  z37:=Tryz.sizeOf137
  v37:=Tryz.zeroValue137
  t70:=Tryz.underlying138
  a70:=Tryz.isAgg138
  z70:=Tryz.sizeOf138
  v70:=Tryz.zeroValue138
  t72:=Tryz.underlying140
  a72:=Tryz.isAgg140
  z72:=Tryz.sizeOf140
  v72:=Tryz.zeroValue140
  t75:=Tryz.underlying143
  a75:=Tryz.isAgg143
  z75:=Tryz.sizeOf143
  v75:=Tryz.zeroValue143
  t76:=Tryz.underlying144
  a76:=Tryz.isAgg144
  z76:=Tryz.sizeOf144
  v76:=Tryz.zeroValue144
  t127:=Tryz.underlying158
  a127:=Tryz.isAgg158
  z127:=Tryz.sizeOf158
  v127:=Tryz.zeroValue158
  t164:=Tryz.underlying165
  a164:=Tryz.isAgg165
  z164:=Tryz.sizeOf165
  v164:=Tryz.zeroValue165 }
theorem Tryz.Builder_Extra_156:Builder.Extra Tryz.prog Tryz.lays156_ren:={
  sizeBuilder:=by kernel_rfl
  liesBuilder:=by kernel_rfl
  t5:=Tryz.underlying5
  a5:=Tryz.isAgg5
  z5:=Tryz.sizeOf5
  v5:=Tryz.zeroValue5
  infoByte:=by kernel_rfl
  cellsByte:=by kernel_rfl
  sizeByte:=by kernel_rfl
  neB5:=by decide }
open Go.RowKit in
/-- No element: the empty string; the lI is as it was. (Whatever the slice's address and capacity: a nil slice too.) (LAID: no walk: one application.) -/
theorem Tryz.strings_Join_none (a:Option Addr) (c:Nat) (sep:ByteArray) (w:World) :
    Calls Tryz.prog 62 #[.slice a 0 c,.string sep] w fun e w'=>e = .returned (.string ⟨#[]⟩)∧w'=w:=Any.strings_Join_none Tryz.lays156 Tryz.Builder_Extra_156 a c sep w
open Go.RowKit in
/-- strings.Join: "Join concatenates the elements of its first argument to create a single string. The separator string sep is placed between elements in the resulting string.": HOWEVER MANY ELEMENTS. Below the heap's end the lI is as it was. (LAID: no walk: one application.) -/
theorem Tryz.strings_Join (bk o c:Nat) (xs:List ByteArray) (sep:ByteArray) (w:World) (hcells:∀ (j:Nat) x,xs[j]? = some x→w.cell? ⟨bk,o + j,none⟩=some (.string x)) (hbk:bk < w.heap.size) (hN:xs.length≤140737488355328) (hcap:xs.length≤c) (hlen:(Lib.join (xs.map (·.data.toList)) sep.data.toList).length≤140737488355328) :
    Calls Tryz.prog 62 #[.slice (some ⟨bk,o,none⟩) xs.length c,.string sep] w fun e w'=>e = .returned (.string ⟨(Lib.join (xs.map (·.data.toList)) sep.data.toList).toArray⟩)∧Below w.heap.size w w':=Any.strings_Join Tryz.lays156 Tryz.Builder_Extra_156 bk o c xs sep w hcells hbk hN hcap hlen
end Go.Proofs
namespace Go.Proofs.YtelekeapfgfknaaGreat
noncomputable section
set_option linter.unusedVariables false
set_option linter.unusedSimpArgs false
set_option linter.unnecessarySimpa false
open Go.RowKit
theorem Sep.ofBelow {E:En} {K:Hp} {L:List ab} {w w':World} (h:Sep E K L w) (b:Below w.heap.size w w'):Sep E K L w':=h.fr (Fr.of_below b)
def Gk (K:Hp):Prop:=∃ m:Int,aO K 0 0=some (.int .i64 m)
theorem Gk.mono {K K':Hp} (h:Gk K) (f:K.le K'):Gk K':=let ⟨m,h⟩:=h; ⟨m,di f h⟩
theorem Gk.of {W:World} (h:W.ShapedOpen Tryz.prog):Gk (Hp.of W) :=
 let ⟨m,hm⟩:=Go.Proofs.cell_of_shapedOpen_int (zero:=#[.int .i64 0]) (t:=3) h (of_decide_eq_true (by kernel_rfl)) (by kernel_rfl) rfl (by kernel_rfl) (by kernel_rfl) Tryz.underlying3
 ⟨m,rF hm⟩
def fx (xs:List (List UInt8)) (sep:List UInt8):Option (List UInt8):=if (Lib.join xs sep).length≤140737488355328∧xs.length≤140737488355328 then some (Lib.join xs sep) else none
theorem pO {K:Hp}:∀ {xs:List (List UInt8)} {cs:List Value},Els K .str cs xs→cs=xs.map fun x=>Value.string ⟨x.toArray⟩
 | [],cs,h=>h
 | x :: xs,cs,h=>by
   obtain ⟨es,r,rfl,h1,h2⟩:=h
   simp only [Is] at h1
   subst h1
   rw [pO h2]; rfl
theorem uy {K:Hp} {xa:List (List UInt8)} {xb:List UInt8} {ad:Option Addr} {cp:Nat} (fa:Is K (.sl .str) [.slice ad xa.length cp] xa) {r:List UInt8} (h:fx xa xb=some r) :
   Tr Tryz.prog 62 #[.slice ad xa.length cp,.string ⟨xb.toArray⟩] K [] (fun v K' L'=>(∃ s1:List UInt8,s1=r∧v = .string ⟨s1.toArray⟩∧L'=[])∧K=K'):=by
 refine Tr.k (fun E w F hs=>?_)
 unfold fx at h
 split at h
 . rename_i hlt
   cases h
   by_cases hx:xa=[]
   . subst hx
     refine (Tryz.strings_Join_none ad cp ⟨xb.toArray⟩ w).mono ?_
     rintro e w' ⟨rfl,rfl⟩
     exact ⟨_,K,[],rfl,⟨[],rfl,rfl,rfl⟩,Hp.le_refl K,hs⟩
   . have fa':=fa
     simp only [Is] at fa
     obtain ⟨ad',cp',e0,a1,a2,a3⟩:=fa
     simp only [List.cons.injEq,Value.slice.injEq,and_true] at e0
     obtain ⟨rfl,_,rfl⟩:=e0
     obtain ⟨b,o,rfl,a4⟩:=a3 hx
     obtain ⟨cs,c1,c2,c3⟩:=fa'.cells (by decide)
     obtain rfl:=pO c1
     have hc:∀ (j:Nat) x,(xa.map fun x=>(⟨x.toArray⟩:ByteArray))[j]? = some x→w.cell? ⟨b,o + j,none⟩=some (.string x):=fun j x hj=>by
       have:=c3 w hs.sub j (.string x) (by rw [List.getElem?_map] at hj ⊢; cases hq:xa[j]? with
         | none=>rw [hq] at hj; simp at hj
         | some q=>rw [hq] at hj; simp at hj ⊢; exact hj)
       rwa [aJ] at this
     have hb:b < w.heap.size:=by
       cases xa with
       | nil=>exact absurd rfl hx
       | cons q xs =>
         have:=hc 0 _ rfl
         unfold World.cell? at this
         simp only at this
         split at this
         . rename_i e; exact lt_of_block e
         . cases this
     have hm:(xa.map fun x=>(⟨x.toArray⟩:ByteArray)).map (·.data.toList)=xa:=by simp [Function.comp_def]
     have hl:(xa.map fun x=>(⟨x.toArray⟩:ByteArray)).length=xa.length:=by simp
     have:=Tryz.strings_Join b o cp (xa.map fun x=>(⟨x.toArray⟩:ByteArray)) ⟨xb.toArray⟩ w hc hb (by rw [hl]; exact hlt.2) (by rw [hl]; exact a1) (by rw [hm]; exact hlt.1)
     rw [hl,hm] at this
     refine this.mono ?_
     rintro e w' ⟨rfl,hbl⟩
     exact ⟨_,K,[],rfl,⟨_,rfl,rfl,rfl⟩,Hp.le_refl K,hs.ofBelow hbl⟩
 . cases h
set_option linter.unusedSectionVars false
set_option maxRecDepth 20000
section
theorem yN:Inf Tryz.prog 136 (.agg #[.int .u8 0,.int .u8 0,.int .u8 0,.int .u8 0,.int .u8 0,.int .u8 0,.int .u8 0,.int .u8 0,.int .u8 0,.int .u8 0,.int .u8 0,.int .u8 0,.int .u8 0,.int .u8 0,.int .u8 0,.int .u8 0,.int .u8 0,.int .u8 0,.int .u8 0,.int .u8 0]) 20 20:=by unfold Inf; kernel_rfl
theorem sz5:(Tryz.prog.info? 5).map (·.size)=some 1:=by kernel_rfl
def ik  : (Int×(List Int)×Int)→Option ((Int×(List Int)×Int)⊕List UInt8):=fun ((i262,l263,i266):(Int×(List Int)×Int))=>(aa l263 (IntKind.wrap .i64 (i266 - 1))).bind fun x295=>(some (l263.set (IntKind.wrap .i64 (i266 - 1)).toNat (IntKind.wrap .u8 (IntKind.wrap .i64 (48 + (Int.tmod i262 10)))))).bind fun z300=>cond (decide ((IntKind.wrap .i64 (Int.tdiv i262 10))=0)) ((subL z300 (IntKind.wrap .i64 (i266 - 1)) (((20:Nat):Int))).bind fun y308=>some (.inr (bh y308))) (some (.inl ((IntKind.wrap .i64 (Int.tdiv i262 10),z300,IntKind.wrap .i64 (i266 - 1)))))
def cz (xa:Int):Option (List UInt8) :=
  cond (decide (xa < 0)) (some (([]:List UInt8))) (loop (ik) ((xa,([0,0,0,0,0,0,0,0,0,0,0,0,0,0,0,0,0,0,0,0]:List Int),20)))
set_option maxRecDepth 100000 in
set_option maxHeartbeats 4000000 in
theorem uw {K:Hp} {xa:Int}   {r:List UInt8} (h:cz xa=some r) :
    Tr Tryz.prog 60 #[ii xa] K [] (fun v K' L'=>(∃ (s157:List UInt8),s157=r ∧ .string ⟨s157.toArray⟩=v∧L'=[])∧K=K'):=by
 refine Tr.k <| Tr.of Tryz.func60 rfl Tryz.ntmps60 rfl fun E F=>?_
 unfold cz at h
 refine cr <| ja (.string ⟨([]:List UInt8).toArray⟩) rfl <| J.nil <| CJ.seq <| CJ.seq <| CJ.region ?_
 refine jm (ii xa) rfl <| jv (.bool (decide (xa < 0))) (V.lss rfl rfl) <| J.nil <| cc rfl h (fun hc158 h=>?_) fun hc158 h=>?_
 . refine cr <| ja (.string ⟨([]:List UInt8).toArray⟩) rfl <| J.nil <| CJ.ret ?_
   obtain rfl:=si h
   exact ⟨_,_,Res.one rfl rfl,⟨([]:List UInt8),rfl,rfl,rfl⟩,(Hp.le_refl _),fun w hs=>hs⟩
 refine CJ.skip <| cr <| jal yN [.int .u8 0,.int .u8 0,.int .u8 0,.int .u8 0,.int .u8 0,.int .u8 0,.int .u8 0,.int .u8 0,.int .u8 0,.int .u8 0,.int .u8 0,.int .u8 0,.int .u8 0,.int .u8 0,.int .u8 0,.int .u8 0,.int .u8 0,.int .u8 0,.int .u8 0,.int .u8 0] rfl fun b159=>?_
 have hl160:([0,0,0,0,0,0,0,0,0,0,0,0,0,0,0,0,0,0,0,0]:List Int).length=20:=rfl
 refine J.by (fun w hs=>Sep.arr (t:=(.int .u8)) (xs:=([0,0,0,0,0,0,0,0,0,0,0,0,0,0,0,0,0,0,0,0]:List Int)) ⟨_,_,rfl,rfl,⟨_,_,rfl,rfl,⟨_,_,rfl,rfl,⟨_,_,rfl,rfl,⟨_,_,rfl,rfl,⟨_,_,rfl,rfl,⟨_,_,rfl,rfl,⟨_,_,rfl,rfl,⟨_,_,rfl,rfl,⟨_,_,rfl,rfl,⟨_,_,rfl,rfl,⟨_,_,rfl,rfl,⟨_,_,rfl,rfl,⟨_,_,rfl,rfl,⟨_,_,rfl,rfl,⟨_,_,rfl,rfl,⟨_,_,rfl,rfl,⟨_,_,rfl,rfl,⟨_,_,rfl,rfl,⟨_,_,rfl,rfl,rfl⟩⟩⟩⟩⟩⟩⟩⟩⟩⟩⟩⟩⟩⟩⟩⟩⟩⟩⟩⟩ hl160 rfl hs) <| J.nil <| cr <| ja (ii 20) rfl <| J.nil <| CJ.block ?_
 refine CJ.loop (fun s ρ K' L'=>∃ (i262:Int) (l263:(List Int)) (i266:Int),(i262,l263,i266)=s∧Fits [(0,ii i262),(3,.pointer (some ⟨b159,0,none⟩)),(4,ii i266)] ρ∧K=K'∧L'=Row Hp.nil 136 (.int .u8) (.slice (some ⟨b159,0,none⟩) 20 20) l263 :: F) h ⟨xa,([0,0,0,0,0,0,0,0,0,0,0,0,0,0,0,0,0,0,0,0]:List Int),20,rfl,⟨rfl,rfl,rfl,trivial⟩,rfl,rfl⟩ ?_
 rintro s ρ _ _ r294 ⟨i262,l263,i266,rfl,hf292,rfl,rfl⟩ h291
 obtain ⟨ρ,rfl⟩:=hf292.ex
 refine CJ.wit Row.len fun hl265=>CJ.block <| cr <| jm (ii i266) rfl <| jv (ii (IntKind.wrap .i64 (i266 - 1))) (V.sub rfl rfl) <| ja (ii (IntKind.wrap .i64 (i266 - 1))) rfl ?_
 refine J.nil <| cr <| jm (ii (IntKind.wrap .i64 (i266 - 1))) rfl <| jm (ii i262) rfl <| jv (ii (Int.tmod i262 10)) (V.rem rfl rfl (by decide)) <| jv (ii (IntKind.wrap .i64 (48 + (Int.tmod i262 10)))) (V.add rfl rfl) ?_
 refine jv (.int .u8 (IntKind.wrap .u8 (IntKind.wrap .i64 (48 + (Int.tmod i262 10))))) (V.conv Tryz.underlying3 Tryz.underlying5 rfl) ?_
 obtain ⟨x295,hx296,h291⟩:=ob h291
 obtain ⟨p297,p298,p299⟩:=ci hx296
 refine jv _ (V.iadA Tryz.underlying136 sz5 rfl rfl p297 (yT p299 hl265)) ?_
 obtain ⟨z300,hz301,h291⟩:=ob h291
 have e302:=Option.some.inj hz301
 have hl303:z300.length=20:=by rw [← e302,List.length_set]; exact hl265
 refine J.op rfl (A.storeR (ty:=(.int .u8)) (q:=0) (y0:=IntKind.wrap .u8 (IntKind.wrap .i64 (48 + (Int.tmod i262 10)))) (zs:=z300) sz5 rfl rfl rfl rfl rfl p298 (by simp [Tp.size]) (by decide) (by rintro _ rfl; exact rfl) e302) ?_
 rintro _ _ _ ⟨rfl,rfl,rfl⟩
 refine J.nil <| cr <| jm (ii i262) rfl <| jv (ii (IntKind.wrap .i64 (Int.tdiv i262 10))) (V.quo rfl rfl (by decide)) <| ja (ii (IntKind.wrap .i64 (Int.tdiv i262 10))) rfl <| J.nil ?_
 refine cr <| jm (ii (IntKind.wrap .i64 (Int.tdiv i262 10))) rfl <| jv (.bool (decide ((IntKind.wrap .i64 (Int.tdiv i262 10))=0))) (V.eql rfl rfl) <| J.nil <| cc rfl h291 (fun hc304 h291=>?_) fun hc304 h291=>?_
 . refine cr <| jm (ii (IntKind.wrap .i64 (i266 - 1))) rfl <| J.persist (Hp.nil_le _) (by decide) fun K305 hK306 f307=>?_
   obtain ⟨y308,hy309,h291⟩:=ob h291
   obtain ⟨ad310,cp311,hv312,f313⟩:=V.subA (tp:=(.int .u8)) Tryz.underlying136 sz5 hl303 f307 hy309
   refine jv (.slice ad310 y308.length cp311) (hv312 rfl (fun _ h=>by cases h; exact ⟨_,rfl⟩) nofun nofun (fun _=>rfl)) <| jv (.string ⟨(bh y308).toArray⟩) (V.b2sK Tryz.underlying137 Tryz.underlying5 Tryz.underlying9 rfl f313 (Hp.le_refl _)) <| ja (.string ⟨(bh y308).toArray⟩) rfl <| J.nil <| CJ.ret ?_
   obtain rfl:=si h291
   refine ⟨nofun,fun e=>?_⟩
   subst e
   exact ⟨_,_,Res.one rfl rfl,⟨bh y308,rfl,rfl,rfl⟩,hK306,fun w hs=>hs⟩
 refine CJ.skip ?_
 obtain rfl:=si h291
 exact ⟨rfl,⟨IntKind.wrap .i64 (Int.tdiv i262 10),z300,IntKind.wrap .i64 (i266 - 1),rfl,⟨rfl,rfl,rfl,trivial⟩,rfl,rfl⟩⟩

variable [BldA]
theorem xk {P:Program} {f:Nat} {fn:Int→Option (List UInt8)} (ok:∀ {K:Hp} {xa:Int} {r:List UInt8},fn xa=some r→Tr P f #[ii xa] K [] (fun v K' L'=>(∃ s:List UInt8,s=r ∧ .string ⟨s.toArray⟩=v∧L'=[])∧K=K')):cH P ⟨f,⟨[(0,.dat (.int .i64))],[]⟩,[⟨[(0,.dat .str)],[]⟩],fn⟩:=by
  intro x r hr vs u hu m K args hgk hm hH hsl E w F hs
  have hu':Sh.un ⟨[(0,.dat (.int .i64))],[]⟩ (TL.list [Tp.int .i64] x) 0=some ([(0,.int .i64 x)],⟨[],0,[],[]⟩):=rfl
  rw [show (Spec.inn ⟨f,⟨[(0,.dat (.int .i64))],[]⟩,[⟨[(0,.dat .str)],[]⟩],fn⟩).un (TL.list _ x) 0=_ from hu'] at hu
  cases hu
  obtain ⟨v,q,rfl,h1,rfl⟩:=hsl
  obtain rfl:v=ii x:=h1
  refine (ok (K:=K) hr E w F hs).mono ?_
  rintro e w' ⟨v,K',L',rfl,⟨⟨s,rfl,rfl,rfl⟩,rfl⟩,h1,h2⟩
  exact ⟨_,K,[],rfl,⟨[(0,.str s)],⟨[],0,[],[]⟩,m,rfl,List.prefix_rfl,hm,fun a h=>(by cases h),rfl,rfl⟩,h1,h2⟩
theorem yg {P:Program} {f:Nat} {fn:List (List UInt8)→List UInt8→Option (List UInt8)} (ok:∀ {K:Hp} {xa:List (List UInt8)} {xb:List UInt8} {ad:Option Addr} {cp:Nat} (fa:Is K (.sl .str) [.slice ad xa.length cp] xa) {r:List UInt8},fn xa xb=some r→Tr P f #[.slice ad xa.length cp,.string ⟨xb.toArray⟩] K [] (fun v K' L'=>(∃ s1:List UInt8,s1=r∧v = .string ⟨s1.toArray⟩∧L'=[])∧K=K')):cH P ⟨f,⟨[(0,.dat (.sl .str)),(1,.dat .str)],[]⟩,[⟨[(0,.dat .str)],[]⟩],fun x=>fn x.1 x.2⟩:=by
  intro x r hr vs u hu m K args hgk hm hH hsl E w F hs
  have hu':Sh.un ⟨[(0,.dat (.sl .str)),(1,.dat .str)],[]⟩ (TL.list [Tp.sl .str,Tp.str] x) 0=some ([(0,.row .str x.1 (List.length (α:=List UInt8) x.1)),(1,.str x.2)],⟨[],0,[],[]⟩):=rfl
  rw [show (Spec.inn ⟨f,⟨[(0,.dat (.sl .str)),(1,.dat .str)],[]⟩,[⟨[(0,.dat .str)],[]⟩],fun x=>fn x.1 x.2⟩).un (TL.list _ x) 0=_ from hu'] at hu
  cases hu
  obtain ⟨v,q,rfl,h1,v2,q2,rfl,h2,rfl⟩:=hsl
  obtain rfl:v2 = .string ⟨x.2.toArray⟩:=h2
  obtain ⟨fa,_⟩:=h1
  have fa0:=fa
  simp only [Is] at fa
  obtain ⟨ad,cp,e0,_⟩:=fa
  simp only [List.cons.injEq,and_true] at e0
  subst e0
  refine (ok (K:=K) fa0 hr E w F hs).mono ?_
  rintro e w' ⟨v,K',L',rfl,⟨⟨s,rfl,rfl,rfl⟩,rfl⟩,h1,h2⟩
  exact ⟨_,K,[],rfl,⟨[(0,.str s)],⟨[],0,[],[]⟩,m,rfl,List.prefix_rfl,hm,fun a h=>(by cases h),rfl,rfl⟩,h1,h2⟩
def pA:Spec:=⟨60,⟨[(0,.dat (.int .i64))],[]⟩,[⟨[(0,.dat .str)],[]⟩],cz⟩
theorem uA:cH Tryz.prog pA:=xk fun h=>uw h
def iw:OkSpec Tryz.prog:=⟨pA,uA,Tryz.call60⟩
def sh:Spec:=⟨62,⟨[(0,.dat (.sl .str)),(1,.dat .str)],[]⟩,[⟨[(0,.dat .str)],[]⟩],fun x=>fx x.1 x.2⟩
theorem xR:cH Tryz.prog sh:=yg uy
def sA:OkSpec Tryz.prog:=⟨sh,xR,Tryz.call62⟩
end
set_option maxRecDepth 100000
set_option maxHeartbeats 4000000
section
open Go.RowKit _root_.Go.Proofs.Tryz
abbrev bkO (i:Nat) (o:OT):Bk:=⟨some i,0,[],false,false,some o,false⟩
abbrev bkC (i:Nat) (e:TypeId) (ks:List Kd):Bk:=⟨some i,e,ks,false,false,none,false⟩
abbrev bkN (e:TypeId) (ks:List Kd):Bk:=⟨none,e,ks,false,false,none,false⟩
abbrev bkU (i:Nat):Bk:=⟨some i,0,[],false,true,none,false⟩
abbrev bkM:Bk:=⟨none,0,[],false,true,none,false⟩
abbrev kdI (i:Nat):Nat×Kd:=(i,.dat (.int .i64))
abbrev kdB (i:Nat):Nat×Kd:=(i,.dat .bool)
abbrev Yq1:Tp:=(.cons (.int .i64) (.cons (.int .i64) (.cons (.sl (.cons (.int .i64) (.one (.int .i64)))) (.cons (.sl (.one (.sl (.cons (.int .i64) (.one .bool))))) (.cons (.one (.sl (.cons (.int .i64) (.one .bool)))) (.cons (.sl (.cons (.int .i64) (.cons (.sl (.cons (.int .i64) (.one (.int .i64)))) (.cons (.sl (.one (.sl (.cons (.int .i64) (.one .bool))))) (.one (.one (.sl (.cons (.int .i64) (.one .bool))))))))) (.one (.sl (.cons (.sl (.cons (.int .i64) (.cons (.int .i64) (.cons (.int .i64) (.cons (.int .i64) (.one .bool)))))) (.one (.cons (.int .i64) (.cons (.int .i64) (.cons (.int .i64) (.cons (.sl (.int .i64)) (.cons (.sl (.int .i64)) (.one (.sl (.int .i64))))))))))))))))))
abbrev Tq1:Type:=(Int×Int×(List (Int×Int))×(List (List (Int×Bool)))×(List (Int×Bool))×(List (Int×(List (Int×Int))×(List (List (Int×Bool)))×(List (Int×Bool))))×(List ((List (Int×Int×Int×Int×Bool))×(Int×Int×Int×(List Int)×(List Int)×(List Int)))))
abbrev Yq2:Tp:=(.cons (.int .i64) (.cons (.int .i64) (.cons (.int .i64) (.cons (.int .i64) (.one .bool)))))
abbrev Tq2:Type:=(Int×Int×Int×Int×Bool)
abbrev Yq3:Tp:=(.cons (.int .i64) (.one .bool))
abbrev Tq3:Type:=(List (Int×Bool))
abbrev Yq4:Tp:=(.int .i64)
abbrev Yq5:Tp:=(.cons Yq4 (.cons (.sl (.cons Yq4 (.one Yq4))) (.cons (.sl (.one (.sl Yq3))) (.one (.one (.sl Yq3))))))
abbrev Tq4:Type:=(Int×(List (Int×Int))×(List Tq3)×Tq3)
abbrev Tq5:Type:=(Int×Int×Int×(List Int)×(List Int)×(List Int))
abbrev Tq6:Type:=(Int×Int×Int×Int)
abbrev Tq7:Type:=(List (Int×Int×Tq2))
abbrev Yq6:Tp:=(.cons Yq4 (.cons Yq4 (.cons Yq4 (.cons (.sl Yq4) (.cons (.sl Yq4) (.one (.sl Yq4)))))))
abbrev Yq7:Tp:=(.one (.sl Yq3))
abbrev Yq8:Tp:=(.cons Yq4 (.cons Yq4 (.one Yq2)))
abbrev Tq8:Type:=((List Tq2)×Int)
abbrev Tq9:Type:=(Int×Int×Bool)
abbrev Yq9:Tp:=(.ptr (.cons (.sl Yq4) (.one Yq4)))
abbrev cW:Type:=(Option ((List Int)×Int))
abbrev hO:Type:=(Int×Int×(List Tq3)×Tq3×(List Tq4))
abbrev mo:Tp:=(.cons Yq4 (.cons Yq4 (.cons (.sl Yq7) (.cons Yq7 (.one (.sl Yq5))))))
instance nob:BldA:=⟨1000000000,fun b _=>Cl b 1000000000 [.pointer none,.slice none 0 0],fun h=>h,fun _=>True,fun _ _=>trivial⟩

def eR (xa:Tq3) (xb:Int):Option Bool :=
 some (decide ((xa.length:Int)≤xb))
def hQ0:Hn Tryz.prog := .nil
def sQ0:Spec:=⟨19,⟨[(0,.dat Yq7),kdI 1],[]⟩,[⟨[kdB 0],[]⟩],fun x=>eR x.1 x.2⟩
def oQ0:OkSpec Tryz.prog:=⟨sQ0,ae func19 hQ0 (by kernel_rfl) (by kernel_rfl),call19⟩
def pB (xa:Tq4):Int→Option (Int⊕(Unit⊕Bool)):=fun i1=>cond (decide (i1 < (xa.2.2.1.length:Int))) ((aa xa.2.2.1 i1).bind fun x2=>(eR x2 20).bind fun t3=>cond (!t3) (some (.inr ((.inr (false))))) (some (.inl (IntKind.wrap .i64 (i1 + 1))))) (some (.inr ((.inl ()))))
def dH (xa:Tq4):Option Bool :=
 (cond ((decide (20 < (xa.2.1.length:Int)))||(decide (20 < (xa.2.2.1.length:Int)))) (some (true)) ((eR xa.2.2.2 20).bind fun t1=>some (!t1))).bind fun t2=>cond (t2) (some (false)) ((loop (pB xa) 0).bind fun o=>match o with | .inr r=>some r | .inl ()=>some (true))
def hQ1:Hn Tryz.prog := .gp 4 (.wt 14 (.gj 4 ⟨[kdB 19],[]⟩ [] (.two 14 .nil (.cl oQ0 [] .nil)) (.tw 19 .nil (.jx [] ⟨[],[]⟩ [] (.lp ⟨[kdI 3],[]⟩ (.tw 24 (.cl oQ0 [] (.tw 33 .nil .nil)) .nil)) .nil))))
def sQ1:Spec:=⟨20,⟨[(0,.dat Yq5)],[]⟩,[⟨[kdB 0],[]⟩],fun x=>dH x⟩
def oQ1:OkSpec Tryz.prog:=⟨sQ1,ae func20 hQ1 (by kernel_rfl) (by kernel_rfl),call20⟩
def pw (xa:Tq1):Int→Option (Int⊕(Unit⊕Bool)):=fun i1=>cond (decide (i1 < (xa.2.2.2.1.length:Int))) ((aa xa.2.2.2.1 i1).bind fun x2=>(eR x2 20).bind fun t3=>cond (!t3) (some (.inr ((.inr (false))))) (some (.inl (IntKind.wrap .i64 (i1 + 1))))) (some (.inr ((.inl ()))))
def fQ (xa:Tq1):Int→Option (Int⊕(Unit⊕Bool)):=fun i1=>cond (decide (i1 < (xa.2.2.2.2.2.1.length:Int))) ((aa xa.2.2.2.2.2.1 i1).bind fun x2=>(dH (x2.1,x2.2.1,x2.2.2.1,x2.2.2.2)).bind fun t3=>cond (!t3) (some (.inr ((.inr (false))))) (some (.inl (IntKind.wrap .i64 (i1 + 1))))) (some (.inr ((.inl ()))))
def eD (xa:Tq1):(Int×Int)→Option ((Int×Int)⊕(Int⊕Bool)):=fun (i1,i2)=>cond (decide (i2 < (xa.2.2.2.2.2.2.length:Int))) ((aa xa.2.2.2.2.2.2 i2).bind fun x3=>(aa xa.2.2.2.2.2.2 i2).bind fun x4=>cond (((decide (20 < (x3.2.2.2.2.1.length:Int)))||(decide (20 < (x3.2.2.2.2.2.1.length:Int))))||(decide (20 < (x3.2.2.2.2.2.2.length:Int)))) (some (.inr ((.inr (false))))) (some (.inl ((IntKind.wrap .i64 (i1 + (x4.1.length:Int)),IntKind.wrap .i64 (i2 + 1)))))) (some (.inr (.inl i1)))
def eN (xa:Tq1):Option Bool :=
 (cond ((((decide (20 < (xa.2.2.1.length:Int)))||(decide (10 < (xa.2.2.2.1.length:Int))))||(decide (4 < (xa.2.2.2.2.2.1.length:Int))))||(decide (8 < (xa.2.2.2.2.2.2.length:Int)))) (some (true)) ((eR xa.2.2.2.2.1 20).bind fun t1=>some (!t1))).bind fun t2=>cond (t2) (some (false)) ((loop (pw xa) 0).bind fun o=>match o with | .inr r=>some r | .inl ()=>(loop (fQ xa) 0).bind fun o=>match o with | .inr r=>some r | .inl ()=>(loop (eD xa) (0,0)).bind fun o=>match o with | .inr r=>some r | .inl i3=>some (decide (i3≤24)))
def hQ2:Hn Tryz.prog := .gp 4 (.wt 18 (.gp 4 (.wt 24 (.gp 4 (.wt 30 (.gj 4 ⟨[kdB 35],[]⟩ [] (.two 30 .nil (.cl oQ0 [] .nil)) (.tw 35 .nil (.jx [] ⟨[],[]⟩ [] (.lp ⟨[kdI 3],[]⟩ (.tw 40 (.cl oQ0 [] (.tw 49 .nil .nil)) .nil)) (.jx [] ⟨[],[]⟩ [] (.lp ⟨[kdI 4],[]⟩ (.tw 54 (.cl oQ1 [] (.tw 63 .nil .nil)) .nil)) (.jx [] ⟨[kdI 5],[]⟩ [] (.lp ⟨[kdI 5,kdI 6],[]⟩ (.tw 68 (.wt 90 (.gp 4 (.wt 96 (.gp 4 (.tw 101 .nil .nil))))) .nil)) .nil))))))))))
def sQ2:Spec:=⟨5,⟨[(0,.dat Yq1)],[]⟩,[⟨[kdB 0],[]⟩],fun x=>eN x⟩
def oQ2:OkSpec Tryz.prog:=⟨sQ2,ae func5 hQ2 (by kernel_rfl) (by kernel_rfl),call5⟩
def eG (xa:Tq1):Int→Option (Int⊕(Unit⊕Tq6)):=fun i1=>cond (decide (i1 < (xa.2.2.1.length:Int))) ((aa xa.2.2.1 i1).bind fun x2=>cond ((((decide (x2.1 < 0))||(decide (xa.1≤x2.1)))||(decide (x2.2 < 0)))||(decide (xa.1≤x2.2))) (some (.inr ((.inr ((7,1,i1,0)))))) (some (.inl (IntKind.wrap .i64 (i1 + 1))))) (some (.inr ((.inl ()))))
def eP (xa:Tq1):Option Tq6 :=
 cond ((decide (xa.1 < 1))||(decide (xa.2.1 < xa.1))) (some ((7,0,0,0))) (cond (decide (65536 < xa.2.1)) (some ((6,0,0,0))) (cond (decide (65536 < (xa.2.2.1.length:Int))) (some ((6,1,0,0))) ((loop (eG xa) 0).bind fun o=>match o with | .inr r=>some r | .inl ()=>some ((0,0,0,0)))))
def hQ3:Hn Tryz.prog := .gp 5 (.tw 14 .nil (.tw 18 .nil (.tw 23 .nil (.jx [] ⟨[],[bkC 2 95 [.lit (.int .i64 0),.lit (.int .i64 0),.lit (.int .i64 0),.lit (.int .i64 0)]]⟩ [2] (.lp ⟨[kdI 3],[bkC 2 95 [.lit (.int .i64 0),.lit (.int .i64 0),.lit (.int .i64 0),.lit (.int .i64 0)]]⟩ (.tw 29 (.wt 40 (.gp 5 (.wt 47 (.gp 3 (.wt 52 (.gp 5 (.tw 58 .nil .nil))))))) .nil)) .nil))))
def sQ3:Spec:=⟨52,⟨[(0,.dat Yq1)],[]⟩,[⟨[(0,.agg [.dat Yq4,.dat Yq4,.dat Yq4,.dat Yq4])],[]⟩],fun x=>eP x⟩
def oQ3:OkSpec Tryz.prog:=⟨sQ3,ae func52 hQ3 (by kernel_rfl) (by kernel_rfl),call52⟩
def jO (xa:Tq3) (xb:Int):Int→Option (Int⊕(Unit⊕Int)):=fun i1=>cond (decide (i1 < (xa.length:Int))) ((aa xa i1).bind fun x2=>(cond (decide (x2.1 < 0)) (some (true)) ((aa xa i1).bind fun x3=>some (decide (xb≤x3.1)))).bind fun t4=>cond (t4) (some (.inr ((.inr (7))))) (some (.inl (IntKind.wrap .i64 (i1 + 1))))) (some (.inr ((.inl ()))))
def eJ (xa:Tq3) (xb:Int):Option Int :=
 cond (decide (16 < (xa.length:Int))) (some (6)) ((loop (jO xa xb) 0).bind fun o=>match o with | .inr r=>some r | .inl ()=>some (0))
def hQ4:Hn Tryz.prog := .tw 9 .nil (.jx [] ⟨[],[]⟩ [] (.lp ⟨[kdI 5],[]⟩ (.tw 14 (.wt 24 (.gj 8 ⟨[kdB 33],[]⟩ [] (.two 24 .nil .nil) (.tw 33 .nil .nil))) .nil)) .nil)
def sQ4:Spec:=⟨68,⟨[(0,.dat Yq7),kdI 1],[]⟩,[⟨[kdI 0],[]⟩],fun x=>eJ x.1 x.2⟩
def oQ4:OkSpec Tryz.prog:=⟨sQ4,ae func68 hQ4 (by kernel_rfl) (by kernel_rfl),call68⟩
def mL (xa:Tq3) (xb:Tq3):Int→Option (Int⊕(Unit⊕Bool)):=fun i1=>cond (decide (i1 < (xa.length:Int))) ((aa xa i1).bind fun x2=>(aa xb i1).bind fun x3=>cond (!(x2.2 == x3.2)) (some (.inr ((.inr (false))))) (some (.inl (IntKind.wrap .i64 (i1 + 1))))) (some (.inr ((.inl ()))))
def eM (xa:Tq3) (xb:Tq3):Option Bool :=
 cond (!decide ((xa.length:Int)=(xb.length:Int))) (some (false)) ((loop (mL xa xb) 0).bind fun o=>match o with | .inr r=>some r | .inl ()=>some (true))
def hQ5:Hn Tryz.prog := .tw 12 .nil (.jx [] ⟨[],[]⟩ [] (.lp ⟨[kdI 5],[]⟩ (.tw 17 (.mix [] [0,1,2,3,4,5,6,7,8,9,10,11,12] [] [] (.tw 32 .nil .nil)) .nil)) .nil)
def sQ5:Spec:=⟨63,⟨[(0,.dat Yq7),(1,.dat Yq7)],[]⟩,[⟨[kdB 0],[]⟩],fun x=>eM x.1 x.2⟩
def oQ5:OkSpec Tryz.prog:=⟨sQ5,ae func63 hQ5 (by kernel_rfl) (by kernel_rfl),call63⟩
def jN (xa:Tq4):Int→Option (Int⊕(Unit⊕Int)):=fun i1=>cond (decide (i1 < (xa.2.1.length:Int))) ((aa xa.2.1 i1).bind fun x2=>cond ((((decide (x2.1 < 0))||(decide (xa.1≤x2.1)))||(decide (x2.2 < 0)))||(decide (xa.1≤x2.2))) (some (.inr ((.inr (7))))) (some (.inl (IntKind.wrap .i64 (i1 + 1))))) (some (.inr ((.inl ()))))
def jM (xa:Tq4):Int→Option (Int⊕(Unit⊕Int)):=fun i1=>cond (decide (i1 < (xa.2.2.1.length:Int))) ((aa xa.2.2.1 i1).bind fun x2=>(eJ x2 xa.1).bind fun i3=>cond (!decide (i3=0)) (some (.inr ((.inr (i3))))) (some (.inl (IntKind.wrap .i64 (i1 + 1))))) (some (.inr ((.inl ()))))
def dE (xa:Tq4):Option Int :=
 cond (decide (xa.1 < 0)) (some (7)) (cond (((decide (16 < xa.1))||(decide (16 < (xa.2.1.length:Int))))||(decide (16 < (xa.2.2.1.length:Int)))) (some (6)) ((loop (jN xa) 0).bind fun o=>match o with | .inr r=>some r | .inl ()=>(loop (jM xa) 0).bind fun o=>match o with | .inr r=>some r | .inl ()=>(eJ xa.2.2.2 xa.1).bind fun i1=>some (i1)))
def hQ6:Hn Tryz.prog := .tw 9 .nil (.wt 13 (.gp 4 (.wt 19 (.gp 4 (.tw 24 .nil (.jx [] ⟨[],[]⟩ [] (.lp ⟨[kdI 3],[]⟩ (.tw 29 (.wt 40 (.gp 5 (.wt 47 (.gp 3 (.wt 52 (.gp 5 (.tw 58 .nil .nil))))))) .nil)) (.jx [] ⟨[],[]⟩ [] (.lp ⟨[kdI 5],[]⟩ (.tw 63 (.mix [] [0,1,2,3,4,5,6] [7,8] [] (.cl oQ4 [] (.tw 75 .nil .nil))) .nil)) (.cl oQ4 [] .nil))))))))
def sQ6:Spec:=⟨65,⟨[(0,.dat Yq5)],[]⟩,[⟨[kdI 0],[]⟩],fun x=>dE x⟩
def oQ6:OkSpec Tryz.prog:=⟨sQ6,ae func65 hQ6 (by kernel_rfl) (by kernel_rfl),call65⟩
def eB (xa:Tq1):Int→Option (Int⊕(Unit⊕Tq6)):=fun i1=>cond (decide (i1 < (xa.2.2.2.1.length:Int))) ((aa xa.2.2.2.1 i1).bind fun x2=>(eJ x2 xa.2.1).bind fun i3=>cond (!decide (i3=0)) (some (.inr ((.inr ((i3,2,i1,0)))))) (some (.inl (IntKind.wrap .i64 (i1 + 1))))) (some (.inr ((.inl ()))))
def eC (xa:Tq1):Int→Option (Int⊕(Unit⊕Tq6)):=fun i1=>cond (decide (i1 < (xa.2.2.2.2.2.1.length:Int))) ((aa xa.2.2.2.2.2.1 i1).bind fun x2=>(dE (x2.1,x2.2.1,x2.2.2.1,x2.2.2.2)).bind fun i3=>cond (!decide (i3=0)) (some (.inr ((.inr ((i3,4,i1,0)))))) (some (.inl (IntKind.wrap .i64 (i1 + 1))))) (some (.inr ((.inl ()))))
def eO (xa:Tq1):Option Tq6 :=
 cond (decide ((xa.2.2.2.1.length:Int)=0)) (some ((14,2,0,0))) (cond (decide (65536 < (xa.2.2.2.1.length:Int))) (some ((6,2,0,0))) ((loop (eB xa) 0).bind fun o=>match o with | .inr r=>some r | .inl ()=>(eJ xa.2.2.2.2.1 xa.1).bind fun i1=>cond (!decide (i1=0)) (some ((i1,3,0,0))) ((aa xa.2.2.2.1 0).bind fun x2=>(eM x2 xa.2.2.2.2.1).bind fun t3=>cond (!t3) (some ((8,3,0,0))) (cond (decide (65536 < (xa.2.2.2.2.2.1.length:Int))) (some ((6,4,0,0))) ((loop (eC xa) 0).bind fun o=>match o with | .inr r=>some r | .inl ()=>some ((0,0,0,0)))))))
def hQ7:Hn Tryz.prog := .tw 11 .nil (.tw 16 .nil (.jx [] ⟨[],[bkC 2 95 [.lit (.int .i64 0),.lit (.int .i64 0),.lit (.int .i64 0),.lit (.int .i64 0)]]⟩ [2] (.lp ⟨[kdI 3],[bkC 2 95 [.lit (.int .i64 0),.lit (.int .i64 0),.lit (.int .i64 0),.lit (.int .i64 0)]]⟩ (.tw 22 (.mix [] [0,1,2,3,4,5,6] [7,8] [] (.cl oQ4 [] (.tw 34 .nil .nil))) .nil)) (.cl oQ4 [] (.tw 44 .nil (.mix [] [0,1,2,3,4,5] [6,7] [] (.cl oQ5 [] (.tw 54 .nil (.tw 59 .nil (.jx [] ⟨[],[bkC 2 95 [.lit (.int .i64 0),.lit (.int .i64 0),.lit (.int .i64 0),.lit (.int .i64 0)]]⟩ [2] (.lp ⟨[kdI 6],[bkC 2 95 [.lit (.int .i64 0),.lit (.int .i64 0),.lit (.int .i64 0),.lit (.int .i64 0)]]⟩ (.tw 65 (.cl oQ6 [] (.tw 75 .nil .nil)) .nil)) .nil)))))))))
def sQ7:Spec:=⟨53,⟨[(0,.dat Yq1)],[]⟩,[⟨[(0,.agg [.dat Yq4,.dat Yq4,.dat Yq4,.dat Yq4])],[]⟩],fun x=>eO x⟩
def oQ7:OkSpec Tryz.prog:=⟨sQ7,ae func53 hQ7 (by kernel_rfl) (by kernel_rfl),call53⟩

def iF (xa:Int):Option Bool :=
 some ((((decide (xa=1))||(decide (xa=2)))||(decide (xa=3)))||(decide (xa=5)))
def hQ8:Hn Tryz.prog := .gp 2 (.wt 9 (.gp 2 (.wt 13 (.gp 2 .nil))))
def sQ8:Spec:=⟨47,⟨[kdI 0],[]⟩,[⟨[kdB 0],[]⟩],fun x=>iF x⟩
def oQ8:OkSpec Tryz.prog:=⟨sQ8,ae func47 hQ8 (by kernel_rfl) (by kernel_rfl),call47⟩

def iH (xa:Int):Option Bool :=
 some ((decide (1≤xa))&&(decide (xa≤4)))
def hQ9:Hn Tryz.prog := .gp 2 .nil
def sQ9:Spec:=⟨48,⟨[kdI 0],[]⟩,[⟨[kdB 0],[]⟩],fun x=>iH x⟩
def oQ9:OkSpec Tryz.prog:=⟨sQ9,ae func48 hQ9 (by kernel_rfl) (by kernel_rfl),call48⟩

def iy (xa:Int):Option Bool :=
 some ((decide (xa=2))||(decide (xa=3)))
def A5:Hn Tryz.prog := .gp 2 .nil
def B3:Spec:=⟨49,⟨[kdI 0],[]⟩,[⟨[kdB 0],[]⟩],fun x=>iy x⟩
def tY:OkSpec Tryz.prog:=⟨B3,ae func49 A5 (by kernel_rfl) (by kernel_rfl),call49⟩

def eQ (xa:Tq2):Option Bool :=
 (cond ((decide (0≤xa.1))&&(decide (xa.1≤5))) ((iF xa.1).bind fun t97=>some (t97||(decide (xa.2.1=0)))) (some (false))).bind fun t93=>(cond (t93) ((iH xa.1).bind fun t1=>some (t1||(decide (xa.2.2.1=0)))) (some (false))).bind fun t2=>(cond (t2) ((iy xa.1).bind fun t3=>some (t3||((decide (xa.2.2.2.1=0))&&(!xa.2.2.2.2)))) (some (false))).bind fun t4=>some (t4)
def Bb:Hn Tryz.prog := .gp 3 (.wt 11 (.gj 8 ⟨[kdB 20],[]⟩ [] (.two 11 (.cl oQ8 [] (.wt 15 (.gp 3 .nil))) .nil) (.wt 21 (.gj 8 ⟨[kdB 30],[]⟩ [] (.two 21 (.cl oQ9 [] (.wt 25 (.gp 3 .nil))) .nil) (.wt 31 (.gj 13 ⟨[kdB 45],[]⟩ [] (.two 31 (.cl tY [] (.wt 35 (.gp 8 .nil))) .nil) .nil))))))
def A2:Spec:=⟨46,⟨[(0,.dat Yq2)],[]⟩,[⟨[kdB 0],[]⟩],fun x=>eQ x⟩
def BV:OkSpec Tryz.prog:=⟨A2,ae func46 Bb (by kernel_rfl) (by kernel_rfl),call46⟩
def jI (xb:Tq3) (xc:Tq3) (xd:Int) (xe:Int):Tq8→Option (Tq8⊕(List Tq2)):=fun (l1,i2)=>cond (decide (i2 < (xb.length:Int))) ((aa xb i2).bind fun x3=>(aa xc i2).bind fun x4=>(app l1 (([(x3.1,x4.1,xd,IntKind.wrap .i64 (xe + i2),false)]:List Tq2))).bind fun z5=>(aa xc i2).bind fun x6=>cond (x6.2) ((aa xc i2).bind fun x7=>(aa xb i2).bind fun x8=>(app z5 (([(x7.1,x8.1,xd,IntKind.wrap .i64 (xe + i2),true)]:List Tq2))).bind fun z9=>some (.inl ((z9,IntKind.wrap .i64 (i2 + 1))))) (some (.inl ((z5,IntKind.wrap .i64 (i2 + 1)))))) (some (.inr (l1)))
def ef (xb:Tq3) (xc:Tq3) (xd:Int) (xe:Int) (qxa:(List Tq2)):Option ((List Tq2)) :=
 (loop (jI xb xc xd xe) (qxa,0)).bind fun l1=>some (l1)
def Dl:Hn Tryz.prog := .jn [] ⟨[(0,.own 93 Yq2)],[]⟩ [0] (.lp ⟨[(0,.own 93 Yq2),kdI 11],[]⟩ (.tw 15 (.mix [([0,1,2,3,4,5,6,7,8,9,10,11,12,13,14,15],16)] [] [17,18] [] (.tw 40 (.mix [([0,1,2,3,4,5,6,7,8,9,10,11,12,13,14,15],16)] [] [17,18] [] .nil) .nil)) .nil)) .nil
def Cx:Spec:=⟨64,⟨[(0,.own 93 Yq2),(1,.dat (.sl Yq3)),(2,.dat (.sl Yq3)),kdI 3,kdI 4],[]⟩,[⟨[(0,.own 93 Yq2)],[]⟩],fun x=>ef x.2.1 x.2.2.1 x.2.2.2.1 x.2.2.2.2 x.1⟩
def oQ:OkSpec Tryz.prog:=⟨Cx,ae func64 Dl (by kernel_rfl) (by kernel_rfl),call64⟩

def cb (xa:Tq3) (xb:Tq3) (xc:Int) (xd:Int):Option (Tq8) :=
 (eM xa xb).bind fun t34=>cond (!t34) (some (([],8))) ((ef xa xb xc xd (([]:List Tq2))).bind fun l45=>some ((l45,0)))
def Df:Hn Tryz.prog := .cl oQ5 [] (.tw 13 .nil (.cl oQ [] .nil))
def Aj:Spec:=⟨44,⟨[(0,.dat Yq7),(1,.dat Yq7),kdI 2,kdI 3],[]⟩,[⟨[(0,.tup [.own 93 Yq2,.dat Yq4])],[]⟩],fun x=>cb x.1 x.2.1 x.2.2.1 x.2.2.2⟩
def lZ:OkSpec Tryz.prog:=⟨Aj,ae func44 Df (by kernel_rfl) (by kernel_rfl),call44⟩
def mM (xa:Tq3) (xc:Bool):(Tq3×Int)→Option ((Tq3×Int)⊕Tq3):=fun (l1,i2)=>cond (decide (i2 < (xa.length:Int))) ((aa xa i2).bind fun x3=>(aa xa i2).bind fun x4=>cond (x4.2) ((app l1 (([(x3.1,true)]:List (Int×Bool)))).bind fun z5=>some (.inl ((z5,IntKind.wrap .i64 (i2 + 1))))) ((app l1 (([(x3.1,xc)]:List (Int×Bool)))).bind fun z6=>some (.inl ((z6,IntKind.wrap .i64 (i2 + 1)))))) (some (.inr (l1)))
def ka (xa:Tq3) (xb:Int) (xc:Bool):Option (Tq3) :=
 (loop (mM xa xc) ((([(xb,false)]:List (Int×Bool)),0))).bind fun l1=>some (l1)
def De:Hn Tryz.prog := .jn [] ⟨[(7,.own 72 Yq3),(11,.any)],[]⟩ [4] (.lp ⟨[(7,.own 72 Yq3),kdI 8],[]⟩ (.tw 16 (.mix [([0,1,2,3,4,5,6,7,8,9,10,11,12,13,14,15,16],17)] [] [18,19] [] (.two 32 .nil .nil)) .nil)) .nil
def C4:Spec:=⟨67,⟨[(0,.dat Yq7),kdI 1,kdB 2],[]⟩,[⟨[(0,.agg [.own 72 Yq3])],[]⟩],fun x=>ka x.1 x.2.1 x.2.2⟩
def zS:OkSpec Tryz.prog:=⟨C4,ae func67 De (by kernel_rfl) (by kernel_rfl),call67⟩

def j3 (xa:Tq3) (xb:Tq3) (xc:Int) (xd:Bool):Option (Tq8) :=
 (ka xa xc xd).bind fun l1=>(eM l1 xb).bind fun t2=>cond (!t2) (some (([],8))) ((aa xb 0).bind fun x3=>(subL xb 1 (xb.length:Int)).bind fun y4=>(ef xa y4 1 1 (([(xc,x3.1,2,0,false)]:List Tq2))).bind fun l5=>some ((l5,0)))
def Dq:Hn Tryz.prog := .mix [([0,1,2,4],3)] [] [5,6] [] (.cl zS [] (.cl oQ5 [4] (.tw 17 .nil (.mix [] [0,1,2,3,4,5] [6,7,8] [] (.cl oQ [] .nil)))))
def Ap:Spec:=⟨50,⟨[(0,.dat Yq7),(1,.dat Yq7),kdI 2,kdB 3],[]⟩,[⟨[(0,.tup [.own 93 Yq2,.dat Yq4])],[]⟩],fun x=>j3 x.1 x.2.1 x.2.2.1 x.2.2.2⟩
def zL:OkSpec Tryz.prog:=⟨Ap,ae func50 Dq (by kernel_rfl) (by kernel_rfl),call50⟩
def fR (xa:Tq3) (xd:Bool):Int→Option (Int⊕(Unit⊕Tq8)):=fun i1=>cond (decide (i1 < (xa.length:Int))) ((cond (xd) ((aa xa i1).bind fun x2=>some (!x2.2)) (some (false))).bind fun t3=>cond (t3) (some (.inr ((.inr (([],8)))))) (some (.inl (IntKind.wrap .i64 (i1 + 1))))) (some (.inr ((.inl ()))))
def jU (xa:Tq3) (xb:Tq3) (xc:Int) (xd:Bool):Option (Tq8) :=
 (cond (decide ((xa.length:Int)=0)) (some (true)) ((eM xa xb).bind fun t1=>some (!t1))).bind fun t2=>(cond (t2) (some (true)) ((aa xa 0).bind fun x3=>some (x3.2))).bind fun t4=>cond (t4) (some (([],8))) ((loop (fR xa xd) 1).bind fun o=>match o with | .inr r=>some r | .inl ()=>(aa xa 0).bind fun x5=>(aa xb 0).bind fun x6=>(subL xa 1 (xa.length:Int)).bind fun y7=>(subL xb 1 (xb.length:Int)).bind fun y8=>(ef y7 y8 1 1 (([(x5.1,xc,3,0,false),(xc,x6.1,2,0,false)]:List Tq2))).bind fun l9=>some ((l9,0)))
def BS:Hn Tryz.prog := .gj 4 ⟨[kdB 21],[]⟩ [] (.two 16 .nil (.cl oQ5 [] .nil)) (.wt 22 (.gj 5 ⟨[kdB 28],[]⟩ [] (.two 22 .nil .nil) (.tw 28 .nil (.jx [] ⟨[],[]⟩ [] (.lp ⟨[kdI 10],[]⟩ (.tw 33 (.wt 37 (.gj 7 ⟨[kdB 45],[]⟩ [] (.two 37 .nil .nil) (.tw 45 .nil .nil))) .nil)) (.mix [([0,1,2,3,4,5,6,7,8,9,10,11,12,13],14)] [15] [] [] (.mix [] [0,1,2,3,4,5,6] [7,8,9] [] (.cl oQ [] .nil)))))))
def AW:Spec:=⟨51,⟨[(0,.dat Yq7),(1,.dat Yq7),kdI 2,kdB 3],[]⟩,[⟨[(0,.tup [.own 93 Yq2,.dat Yq4])],[]⟩],fun x=>jU x.1 x.2.1 x.2.2.1 x.2.2.2⟩
def Aa:OkSpec Tryz.prog:=⟨AW,ae func51 BS (by kernel_rfl) (by kernel_rfl),call51⟩

def a8 (xa:Tq2) (xb:(List Tq3)) (xc:Int):Option (Tq8) :=
 (eQ (xa.1,xa.2.1,xa.2.2.1,xa.2.2.2.1,xa.2.2.2.2)).bind fun t1=>cond (!t1) (some (([],3))) ((iF xa.1).bind fun t2=>(cond (t2&&((decide (xa.2.1 < 0))||(decide ((xb.length:Int)≤xa.2.1)))) (some (true)) ((iH xa.1).bind fun t3=>some (t3&&((decide (xa.2.2.1 < 0))||(decide ((xb.length:Int)≤xa.2.2.1)))))).bind fun t4=>(cond (t4) (some (true)) ((iy xa.1).bind fun t5=>some (t5&&((decide (xa.2.2.2.1 < 0))||(decide (xc≤xa.2.2.2.1)))))).bind fun t6=>cond (t6) (some (([],7))) (cond (decide (xa.1=1)) ((aa xb xa.2.2.1).bind fun x7=>(aa xb xa.2.1).bind fun x8=>(cb x7 x8 1 0).bind fun (l9,i10)=>some ((l9,i10))) (cond (decide (xa.1=2)) ((aa xb xa.2.2.1).bind fun x11=>(aa xb xa.2.1).bind fun x12=>(j3 x11 x12 xa.2.2.2.1 xa.2.2.2.2).bind fun (l13,i14)=>some ((l13,i14))) (cond (decide (xa.1=3)) ((aa xb xa.2.2.1).bind fun x15=>(aa xb xa.2.1).bind fun x16=>(jU x15 x16 xa.2.2.2.1 xa.2.2.2.2).bind fun (l17,i18)=>some ((l17,i18))) (some (([],0)))))))
def zT:Hn Tryz.prog := .cl BV [] (.tw 10 .nil (.cl oQ8 [] (.gp 10 (.wt 26 (.gj 15 ⟨[kdB 42],[]⟩ [] (.two 26 .nil (.cl oQ9 [] (.wt 30 (.gp 10 .nil)))) (.wt 43 (.gj 14 ⟨[kdB 58],[]⟩ [] (.two 43 .nil (.cl tY [] (.wt 47 (.gp 9 .nil)))) (.tw 58 .nil (.tw 61 (.mix [([0,1,2,3,4,5,6,7,8,9],10)] [11,12,13,14] [] [] (.cl lZ [] .nil)) (.tw 77 (.mix [([0,1,2,3,4,5,6,7,8,9,10,11,12,13],14)] [15,16,17,18] [] [] (.cl zL [] .nil)) (.tw 97 (.mix [([0,1,2,3,4,5,6,7,8,9,10,11,12,13],14)] [15,16,17,18] [] [] (.cl Aa [] .nil)) .nil)))))))))))
def Bf:Spec:=⟨31,⟨[(0,.dat Yq2),(1,.dat (.sl Yq7)),kdI 2],[]⟩,[⟨[(0,.tup [.own 93 Yq2,.dat Yq4])],[]⟩],fun x=>a8 x.1 x.2.1 x.2.2⟩
def tV:OkSpec Tryz.prog:=⟨Bf,ae func31 zT (by kernel_rfl) (by kernel_rfl),call31⟩

def dF (xa:Tq5):Option Int :=
 cond ((decide (xa.1 < 1))||(decide (4 < xa.1))) (some (3)) (cond (((((decide (xa.1=1))||(decide (xa.1=4)))&&(!decide ((xa.2.2.2.1.length:Int)=1)))||((decide (xa.1=2))&&(decide ((xa.2.2.2.1.length:Int)=0))))||((decide (xa.1=3))&&(!decide ((xa.2.2.2.1.length:Int)=0)))) (some (3)) (cond ((!decide (xa.1=4))&&(((!decide (xa.2.1=0))||(!decide (xa.2.2.1=0)))||(!decide ((xa.2.2.2.2.2.length:Int)=0)))) (some (3)) (cond (((decide (xa.1=1))||(decide (xa.1=3)))&&(!decide ((xa.2.2.2.2.1.length:Int)=0))) (some (3)) (cond (((decide (16 < (xa.2.2.2.1.length:Int)))||(decide (16 < (xa.2.2.2.2.1.length:Int))))||(decide (16 < (xa.2.2.2.2.2.length:Int)))) (some (6)) (some (0))))))
def Cp:Hn Tryz.prog := .gp 3 (.tw 10 .nil (.wt 14 (.gp 3 (.wt 19 (.gp 4 (.wt 25 (.gp 9 (.wt 36 (.gp 9 (.tw 46 .nil (.wt 50 (.gp 14 (.tw 65 .nil (.wt 69 (.gp 3 (.wt 74 (.gp 4 (.tw 79 .nil (.wt 84 (.gp 4 (.wt 90 (.gp 4 (.tw 95 .nil .nil)))))))))))))))))))))))
def Am:Spec:=⟨42,⟨[(0,.dat Yq6)],[]⟩,[⟨[kdI 0],[]⟩],fun x=>dF x⟩
def BI:OkSpec Tryz.prog:=⟨Am,ae func42 Cp (by kernel_rfl) (by kernel_rfl),call42⟩
def jK (xa:(List Int)) (xb:Int):Int→Option (Int⊕(Unit⊕Bool)):=fun i1=>cond (decide (i1 < (xa.length:Int))) ((aa xa i1).bind fun x2=>(cond (decide (x2 < 0)) (some (true)) ((aa xa i1).bind fun x3=>some (decide (xb≤x3)))).bind fun t4=>cond (t4) (some (.inr ((.inr (false))))) (some (.inl (IntKind.wrap .i64 (i1 + 1))))) (some (.inr ((.inl ()))))
def cA (xa:(List Int)) (xb:Int):Option Bool :=
 (loop (jK xa xb) 0).bind fun o=>match o with | .inr r=>some r | .inl ()=>some (true)
def zB:Hn Tryz.prog := .jx [] ⟨[],[]⟩ [] (.lp ⟨[kdI 5],[]⟩ (.tw 9 (.wt 17 (.gj 6 ⟨[kdB 24],[]⟩ [] (.two 17 .nil .nil) (.tw 24 .nil .nil))) .nil)) .nil
def BB:Spec:=⟨43,⟨[(0,.dat (.sl Yq4)),kdI 1],[]⟩,[⟨[kdB 0],[]⟩],fun x=>cA x.1 x.2⟩
def jB:OkSpec Tryz.prog:=⟨BB,ae func43 zB (by kernel_rfl) (by kernel_rfl),call43⟩
def im (xa:Tq3) (xb:(List Int)):(Tq3×Int)→Option ((Tq3×Int)⊕(Tq3⊕(Tq3×Int))):=fun (l1,i2)=>cond (decide (i2 < (xa.length:Int))) ((aa xa i2).bind fun x3=>cond ((decide (x3.1 < 0))||(decide ((xb.length:Int)≤x3.1))) (some (.inr ((.inr (([],7)))))) ((aa xb x3.1).bind fun x4=>(aa xa i2).bind fun x5=>(app l1 (([(x4,x5.2)]:List (Int×Bool)))).bind fun z6=>some (.inl ((z6,IntKind.wrap .i64 (i2 + 1)))))) (some (.inr (.inl l1)))
def iA (xa:Tq3) (xb:(List Int)):Option ((Tq3×Int)) :=
 (loop (im xa xb) ((([]:List (Int×Bool)),0))).bind fun o=>match o with | .inr r=>some r | .inl l1=>some ((l1,0))
def BY:Hn Tryz.prog := .jx [] ⟨[(6,.own 72 Yq3),(9,.any)],[bkC 2 26 [.nils]]⟩ [4,2] (.lp ⟨[(6,.own 72 Yq3),kdI 7],[bkC 2 26 [.nils]]⟩ (.tw 14 (.wt 25 (.gp 4 (.tw 30 .nil (.mix [([0,1,2,3,4,5,6,7,8,9,10,11],12)] [] [13,14] [] .nil)))) .nil)) .nil
def CN:Spec:=⟨66,⟨[(0,.dat Yq7),(1,.dat (.sl Yq4))],[]⟩,[⟨[(0,.tup [.agg [.own 72 Yq3],.dat Yq4])],[]⟩],fun x=>iA x.1 x.2⟩
def ul:OkSpec Tryz.prog:=⟨CN,ae func66 BY (by kernel_rfl) (by kernel_rfl),call66⟩
def jR (xa:Tq4) (xb:(List Int)):Tq8→Option (Tq8⊕(List Tq2)):=fun (l1,i2)=>cond (decide (i2 < (xa.2.1.length:Int))) ((aa xa.2.1 i2).bind fun x3=>(aa xb x3.1).bind fun x4=>(aa xa.2.1 i2).bind fun x5=>(aa xb x5.2).bind fun x6=>(app l1 (([(x4,x6,4,i2,false)]:List Tq2))).bind fun z7=>some (.inl ((z7,IntKind.wrap .i64 (i2 + 1))))) (some (.inr (l1)))
def iq (xa:Tq4) (xb:(List Int)) (xc:(List Tq3)):Tq8→Option (Tq8⊕((List Tq2)⊕Tq8)):=fun (l1,i2)=>cond (decide (i2 < (xa.2.2.1.length:Int))) ((aa xa.2.2.1 i2).bind fun x3=>(iA x3 xb).bind fun (l4,i5)=>(aa xc i2).bind fun x6=>(cb x6 l4 5 (IntKind.wrap .i64 (16 * i2))).bind fun (l7,i8)=>cond (!decide (i8=0)) (some (.inr ((.inr (([],i8)))))) ((app l1 l7).bind fun z9=>some (.inl ((z9,IntKind.wrap .i64 (i2 + 1)))))) (some (.inr (.inl l1)))
def iE (xa:Tq4) (xb:(List Int)) (xc:(List Tq3)) (xd:Tq3):Option (Tq8) :=
 (dE (xa.1,xa.2.1,xa.2.2.1,xa.2.2.2)).bind fun i1=>cond (!decide (i1=0)) (some (([],i1))) (cond ((!decide ((xb.length:Int)=xa.1))||(!decide ((xc.length:Int)=(xa.2.2.1.length:Int)))) (some (([],2))) ((loop (jR xa xb) ((([]:List Tq2),0))).bind fun l2=>(loop (iq xa xb xc) (l2,0)).bind fun o=>match o with | .inr r=>some r | .inl l3=>(iA xa.2.2.2 xb).bind fun (l4,i5)=>(cb l4 xd 6 0).bind fun (l6,i7)=>cond (!decide (i7=0)) (some (([],i7))) ((app l3 l6).bind fun z8=>some ((z8,0)))))
def Bg:Hn Tryz.prog := .cl oQ6 [] (.tw 25 .nil (.wt 32 (.gp 6 (.tw 39 .nil (.jn [] ⟨[(11,.own 93 Yq2),(40,.any)],[]⟩ [4] (.lp ⟨[(11,.own 93 Yq2),kdI 12],[]⟩ (.tw 45 (.mix [([0,1,2,3,4,5,6,7,8,9,10,11,12,13,14,15,16,17,18,19,20],21)] [] [22,23] [] .nil) .nil)) (.jx [] ⟨[(11,.own 93 Yq2)],[]⟩ [6] (.lp ⟨[(11,.own 93 Yq2),kdI 13],[]⟩ (.tw 75 (.cl ul [] (.per 10 11 (.mix [([0,1,2,3,4,5,6],7)] [8,9,10,11,12] [] [] (.cl lZ [] (.tw 100 .nil .nil))))) .nil)) (.cl ul [] (.per 10 11 (.cl lZ [] (.tw 119 .nil .nil))))))))))
def BU:Spec:=⟨45,⟨[(0,.dat Yq5),(1,.dat (.sl Yq4)),(2,.dat (.sl Yq7)),(3,.dat Yq7)],[]⟩,[⟨[(0,.tup [.own 93 Yq2,.dat Yq4])],[]⟩],fun x=>iE x.1 x.2.1 x.2.2.1 x.2.2.2⟩
def CE:OkSpec Tryz.prog:=⟨BU,ae func45 Bg (by kernel_rfl) (by kernel_rfl),call45⟩
def px (xa:Tq5) (xb:hO):((List Tq3)×Int)→Option (((List Tq3)×Int)⊕(List Tq3)):=fun (l1,i2)=>cond (decide (i2 < (xa.2.2.2.2.1.length:Int))) ((aa xa.2.2.2.2.1 i2).bind fun x3=>(aa xb.2.2.1 x3).bind fun x4=>(app l1 (([x4]:List Tq3))).bind fun z5=>some (.inl ((z5,IntKind.wrap .i64 (i2 + 1))))) (some (.inr (l1)))
def bj (xa:Tq5) (xb:hO):Option (Tq8) :=
 (dF (xa.1,xa.2.1,xa.2.2.1,xa.2.2.2.1,xa.2.2.2.2.1,xa.2.2.2.2.2)).bind fun i1=>cond (!decide (i1=0)) (some (([],i1))) ((cA xa.2.2.2.1 xb.1).bind fun t2=>(cond (!t2) (some (true)) ((cA xa.2.2.2.2.1 (xb.2.2.1.length:Int)).bind fun t3=>some (!t3))).bind fun t4=>(cond (t4) (some (true)) ((cA xa.2.2.2.2.2 xb.2.1).bind fun t5=>some (!t5))).bind fun t6=>cond (t6) (some (([],7))) ((cond (decide (xa.1=4)) ((cA ([xa.2.2.1]:List Int) (xb.2.2.1.length:Int)).bind fun t7=>(cond (!t7) (some (true)) ((cA ([xa.2.1]:List Int) (xb.2.2.2.2.length:Int)).bind fun t8=>some (!t8))).bind fun t9=>some (t9)) (some (false))).bind fun t10=>cond (t10) (some (([],7))) (cond ((decide (xa.1=3))&&(decide ((xb.2.2.1.length:Int)=0))) (some (([],14))) (cond (decide (xa.1=3)) ((aa xb.2.2.1 0).bind fun x11=>(cb x11 xb.2.2.2.1 7 0).bind fun (l12,i13)=>some ((l12,i13))) (cond (decide (xa.1=4)) ((loop (px xa xb) ((([]:List Tq3),0))).bind fun l14=>(aa xb.2.2.2.2 xa.2.1).bind fun x15=>(aa xb.2.2.1 xa.2.2.1).bind fun x16=>(iE (x15.1,x15.2.1,x15.2.2.1,x15.2.2.2) xa.2.2.2.2.2 l14 x16).bind fun (l17,i18)=>some ((l17,i18))) (some (([],0))))))))
def BC:Hn Tryz.prog := .cl BI [] (.tw 12 .nil (.cl jB [] (.gj 7 ⟨[kdB 28],[]⟩ [] (.two 20 .nil (.cl jB [] .nil)) (.wt 29 (.gj 6 ⟨[kdB 36],[]⟩ [] (.two 29 .nil (.cl jB [] .nil)) (.tw 36 .nil (.wt 40 (.gj 18 ⟨[kdB 59],[]⟩ [] (.two 40 (.cl jB [4] (.wt 49 (.gj 8 ⟨[kdB 58],[]⟩ [] (.two 49 .nil (.cl jB [6] .nil)) .nil))) .nil) (.tw 59 .nil (.wt 63 (.gp 4 (.tw 68 .nil (.tw 71 (.mix [([0,1,2,3,4,5],6)] [7,8,9,10] [] [] (.cl lZ [] .nil)) (.tw 83 (.jn [] ⟨[(7,.own 26 Yq7),(84,.any)],[]⟩ [4] (.lp ⟨[(7,.own 26 Yq7),kdI 8],[]⟩ (.tw 89 (.mix [([0,1,2,3,4,5,6,7,8,9],10)] [] [11,12] [] .nil) .nil)) (.mix [([0,1,2,3,4,5,6,7,8,9,10,11,12,13,14],15)] [16,17,18,19] [] [6] (.per 6 7 (.cl CE [] .nil)))) .nil))))))))))))))
def Cs:Spec:=⟨30,⟨[(0,.dat Yq6),(1,.dat mo)],[]⟩,[⟨[(0,.tup [.own 93 Yq2,.dat Yq4])],[]⟩],fun x=>bj x.1 x.2⟩
def tS:OkSpec Tryz.prog:=⟨Cs,ae func30 BC (by kernel_rfl) (by kernel_rfl),call30⟩
def fO (xa:Tq1):(Int×Int)→Option ((Int×Int)⊕(Unit⊕Tq6)):=fun (i1,i2)=>cond (decide (i2 < (xa.2.2.2.2.2.2.length:Int))) ((aa xa.2.2.2.2.2.2 i2).bind fun x3=>cond (decide (65536 < (IntKind.wrap .i64 (i1 + (x3.1.length:Int))))) (some (.inr ((.inr ((6,5,i2,0)))))) (some (.inl ((IntKind.wrap .i64 (i1 + (x3.1.length:Int)),IntKind.wrap .i64 (i2 + 1)))))) (some (.inr ((.inl ()))))
def eo (xa:Tq1) (i1:Int) (x2:((List Tq2)×Tq5)):Int→Option (Int⊕(Unit⊕(Int⊕(Unit⊕Tq6)))):=fun i3=>cond (decide (i3 < (x2.1.length:Int))) ((aa x2.1 i3).bind fun x4=>(a8 (x4.1,x4.2.1,x4.2.2.1,x4.2.2.2.1,x4.2.2.2.2) xa.2.2.2.1 xa.2.1).bind fun (l5,i6)=>cond (!decide (i6=0)) (some (.inr ((.inr (.inr ((.inr ((i6,6,i1,i3))))))))) (some (.inl (IntKind.wrap .i64 (i3 + 1))))) (some (.inr ((.inl ()))))
def ep (xa:Tq1):Int→Option (Int⊕(Unit⊕Tq6)):=fun i1=>cond (decide (i1 < (xa.2.2.2.2.2.2.length:Int))) ((aa xa.2.2.2.2.2.2 i1).bind fun x2=>(loop (eo xa i1 x2) 0).bind fun o=>match o with | .inr r=>some r | .inl ()=>(aa xa.2.2.2.2.2.2 i1).bind fun x3=>(bj (x3.2.1,x3.2.2.1,x3.2.2.2.1,x3.2.2.2.2.1,x3.2.2.2.2.2.1,x3.2.2.2.2.2.2) (((xa.2.2.2.2.2.2.length:Int),xa.2.1,xa.2.2.2.1,xa.2.2.2.2.1,xa.2.2.2.2.2.1))).bind fun (l4,i5)=>cond (!decide (i5=0)) (some (.inr ((.inr ((i5,7,i1,0)))))) (some (.inl (IntKind.wrap .i64 (i1 + 1))))) (some (.inr ((.inl ()))))
def cY (xa:Tq1):Option Tq6 :=
 cond (decide ((xa.2.2.2.2.2.2.length:Int)=0)) (some ((14,5,0,0))) (cond (decide (65536 < (xa.2.2.2.2.2.2.length:Int))) (some ((6,5,0,0))) ((loop (fO xa) (0,0)).bind fun o=>match o with | .inr r=>some r | .inl ()=>(loop (ep xa) 0).bind fun o=>match o with | .inr r=>some r | .inl ()=>some ((0,0,0,0))))
def Ai:Hn Tryz.prog := .tw 16 .nil (.tw 21 .nil (.jx [] ⟨[],[bkC 2 95 [.lit (.int .i64 0),.lit (.int .i64 0),.lit (.int .i64 0),.lit (.int .i64 0)]]⟩ [2] (.lp ⟨[kdI 3,kdI 4],[bkC 2 95 [.lit (.int .i64 0),.lit (.int .i64 0),.lit (.int .i64 0),.lit (.int .i64 0)]]⟩ (.tw 27 (.tw 40 .nil .nil) .nil)) (.jx [] ⟨[],[bkC 2 95 [.lit (.int .i64 0),.lit (.int .i64 0),.lit (.int .i64 0),.lit (.int .i64 0)]]⟩ [2] (.lp ⟨[kdI 6],[bkC 2 95 [.lit (.int .i64 0),.lit (.int .i64 0),.lit (.int .i64 0),.lit (.int .i64 0)]]⟩ (.tw 59 (.pl (.pl (.jx [] ⟨[],[bkC 2 95 [.lit (.int .i64 0),.lit (.int .i64 0),.lit (.int .i64 0),.lit (.int .i64 0)]]⟩ [2] (.lp ⟨[kdI 8],[bkC 2 95 [.lit (.int .i64 0),.lit (.int .i64 0),.lit (.int .i64 0),.lit (.int .i64 0)]]⟩ (.tw 71 (.mix [([0,1,2,3,4,5,6,7],8)] [9,10,11,12,13] [] [] (.cl tV [] (.tw 87 .nil .nil))) .nil)) (.mix [([0,1,2,3,4,5,6],7)] [8,9,10,11,12] [] [] (.cl tS [] (.tw 104 .nil .nil)))))) .nil)) .nil)))
def A0:Spec:=⟨54,⟨[(0,.dat Yq1)],[]⟩,[⟨[(0,.agg [.dat Yq4,.dat Yq4,.dat Yq4,.dat Yq4])],[]⟩],fun x=>cY x⟩
def Cv:OkSpec Tryz.prog:=⟨A0,ae func54 Ai (by kernel_rfl) (by kernel_rfl),call54⟩

def da (xa:Tq1):Option Tq6 :=
 (eP xa).bind fun (i42,i43,i44,i45)=>cond (!decide (i42=0)) (some ((i42,i43,i44,i45))) ((eO xa).bind fun (i53,i54,i55,i56)=>cond (!decide (i53=0)) (some ((i53,i54,i55,i56))) ((cY xa).bind fun (i63,i65,i66,i67)=>some ((i63,i65,i66,i67))))
def Dy:Hn Tryz.prog := .cl oQ3 [] (.tw 8 .nil (.cl oQ7 [] (.tw 14 .nil (.cl Cv [] .nil))))
def A9:Spec:=⟨32,⟨[(0,.dat Yq1)],[]⟩,[⟨[(0,.agg [.dat Yq4,.dat Yq4,.dat Yq4,.dat Yq4])],[]⟩],fun x=>da x⟩
def zE:OkSpec Tryz.prog:=⟨A9,ae func32 Dy (by kernel_rfl) (by kernel_rfl),call32⟩

def dI (xa:Tq1):Option Bool :=
 (da xa).bind fun (i15,i17,i18,i19)=>some (decide (i15=0))
def Dt:Hn Tryz.prog := .cl zE [] .nil
def Cj:Spec:=⟨17,⟨[(0,.dat Yq1)],[]⟩,[⟨[kdB 0],[]⟩],fun x=>dI x⟩
def tX:OkSpec Tryz.prog:=⟨Cj,ae func17 Dt (by kernel_rfl) (by kernel_rfl),call17⟩

def aW (xb:Int) (xc:Int):Option Unit :=
 some (())
def AF:Hn Tryz.prog := .nil
def Ce:Spec:=⟨24,⟨[(0,.nilp),kdI 1,kdI 2],[]⟩,[⟨[],[]⟩],fun x=>aW x.1 x.2⟩
def dZ:OkSpec Tryz.prog:=⟨Ce,ae func24 AF (by kernel_rfl) (by kernel_rfl),call24⟩

def eE (xa:Tq1):Option Tq6 :=
 cond ((decide (xa.1 < 1))||(decide (xa.2.1 < xa.1))) (some ((7,0,0,0))) (cond (decide (65536 < xa.2.1)) (some ((6,0,0,0))) (some ((0,0,0,0))))
def Aq:Hn Tryz.prog := .gp 5 (.tw 7 .nil (.tw 19 .nil .nil))
def zA:Spec:=⟨69,⟨[(0,.dat Yq1),(1,.nilp)],[]⟩,[⟨[(0,.agg [.dat Yq4,.dat Yq4,.dat Yq4,.dat Yq4])],[]⟩],fun x=>eE x⟩
def Ad:OkSpec Tryz.prog:=⟨zA,ae func69 Aq (by kernel_rfl) (by kernel_rfl),call69⟩

def ic (xa:Int) (qa0:Int) (qa1:Int) (qa2:(List (Int×Int))) (qa3:(List Tq3)) (qa4:Tq3) (qa5:(List Tq4)) (qa6:(List ((List Tq2)×Tq5))):Option Bool :=
 some ((decide (0≤xa))&&(decide (xa < qa0)))
def Bq:Hn Tryz.prog := .gp 4 .nil
def Dc:Spec:=⟨87,⟨[kdI 0,(1,.ptr 0 0)],[bkN 30 [.is 1 (.dat Yq4),.is 2 (.dat Yq4),.is 3 (.dat (.sl (.cons Yq4 (.one Yq4)))),.is 4 (.dat (.sl Yq7)),.is 5 (.dat (.sl Yq3)),.is 6 (.dat (.sl Yq5)),.is 7 (.dat (.sl (.cons (.sl Yq2) (.one Yq6))))],bkM,bkM,bkM,bkM,bkM,bkM,bkM]⟩,[⟨[kdB 0],[bkC 0 30 [.is 1 (.any),.is 2 (.any),.is 3 (.any),.is 4 (.any),.is 5 (.any),.is 6 (.any),.is 7 (.any)],bkU 1,bkU 2,bkU 3,bkU 4,bkU 5,bkU 6,bkU 7]⟩],fun x=>ic x.1 x.2.1 x.2.2.1 x.2.2.2.1 x.2.2.2.2.1 x.2.2.2.2.2.1 x.2.2.2.2.2.2.1 x.2.2.2.2.2.2.2⟩
def tT:OkSpec Tryz.prog:=⟨Dc,ae func87 Bq (by kernel_rfl) (by kernel_rfl),call87⟩
def ed (xa:Tq1):Int→Option (Int⊕(Unit⊕Tq6)):=fun i1=>cond (decide (i1 < (xa.2.2.1.length:Int))) ((aa xa.2.2.1 i1).bind fun x2=>(aW 1 1).bind fun _=>(ic x2.1 xa.1 xa.2.1 xa.2.2.1 xa.2.2.2.1 xa.2.2.2.2.1 xa.2.2.2.2.2.1 xa.2.2.2.2.2.2).bind fun t3=>(cond (!t3) (some (true)) ((ic x2.2 xa.1 xa.2.1 xa.2.2.1 xa.2.2.2.1 xa.2.2.2.2.1 xa.2.2.2.2.2.1 xa.2.2.2.2.2.2).bind fun t4=>some (!t4))).bind fun t5=>cond (t5) (some (.inr ((.inr ((7,1,i1,0)))))) (some (.inl (IntKind.wrap .i64 (i1 + 1))))) (some (.inr ((.inl ()))))
def ew (xa:Tq1):Option Tq6 :=
 cond (decide (65536 < (xa.2.2.1.length:Int))) (some ((6,1,0,0))) ((loop (ed xa) 0).bind fun o=>match o with | .inr r=>some r | .inl ()=>some ((0,0,0,0)))
def BN:Hn Tryz.prog := .tw 11 .nil (.jx [] ⟨[],[bkC 2 111 [.lit (.int .i64 0),.lit (.int .i64 0),.lit (.int .i64 0),.lit (.int .i64 0)]]⟩ [2,0] (.mc 0 0 1 (.mc 0 1 1 (.mc 0 2 1 (.mc 0 3 1 (.mc 0 4 1 (.mc 0 5 1 (.mc 0 6 1 (.lp ⟨[kdI 17],[bkC 2 111 [.lit (.int .i64 0),.lit (.int .i64 0),.lit (.int .i64 0),.lit (.int .i64 0)],bkC 0 30 [.is 2 (.any),.is 3 (.any),.is 4 (.any),.is 5 (.any),.is 6 (.any),.is 7 (.any),.is 8 (.any)],bkU 4,bkU 5,bkU 6,bkU 7,bkU 8,bkU 9,bkU 10]⟩ (.tw 18 (.cl dZ [] (.cl tT [] (.gj 5 ⟨[kdB 35],[bkC 0 30 [.is 1 (.any),.is 2 (.any),.is 3 (.any),.is 4 (.any),.is 5 (.any),.is 6 (.any),.is 7 (.any)],bkU 4,bkU 5,bkU 6,bkU 7,bkU 8,bkU 9,bkU 10]⟩ [0] (.two 29 .nil (.cl tT [] .nil)) (.tw 35 .nil .nil)))) .nil))))))))) .nil)
def C5:Spec:=⟨70,⟨[(0,.dat Yq1),(1,.nilp)],[]⟩,[⟨[(0,.agg [.dat Yq4,.dat Yq4,.dat Yq4,.dat Yq4])],[]⟩],fun x=>ew x⟩
def zV:OkSpec Tryz.prog:=⟨C5,ae func70 BN (by kernel_rfl) (by kernel_rfl),call70⟩

def mI (xa:(Int×Bool)) (qa0:Int):Option Bool :=
 some ((decide (xa.1 < 0))||(decide (qa0≤xa.1)))
def AX:Hn Tryz.prog := .gp 4 .nil
def Ba:Spec:=⟨116,⟨[(0,.dat Yq3),(1,.ptr 0 0)],[bkN 3 [.is 1 (.dat Yq4)],bkM]⟩,[⟨[kdB 0],[bkC 0 3 [.is 1 (.any)],bkU 1]⟩],fun x=>mI x.1 x.2⟩
def AH:OkSpec Tryz.prog:=⟨Ba,ae func116 AX (by kernel_rfl) (by kernel_rfl),call116⟩
def jE (xa:Tq3) (qa0:Int):Int→Option (Int⊕(Unit⊕Int)):=fun i1=>cond (decide (i1 < (xa.length:Int))) ((aa xa i1).bind fun x2=>(mI (x2.1,x2.2) qa0).bind fun t3=>cond (t3) (some (.inr ((.inr (i1))))) (some (.inl (IntKind.wrap .i64 (i1 + 1))))) (some (.inr ((.inl ()))))
def mC (xa:Tq3) (qa0:Int):Option Int :=
 (loop (jE xa qa0) 0).bind fun o=>match o with | .inr r=>some r | .inl ()=>some ((-1))
def CZ:Hn Tryz.prog := .jx [] ⟨[],[bkC 0 3 [.is 1 (.any)],bkU 1]⟩ [0] (.lp ⟨[kdI 8],[bkC 0 3 [.is 1 (.any)],bkU 1]⟩ (.tw 9 (.cl AH [] (.tw 16 .nil .nil)) .nil)) .nil
def AU:Spec:=⟨117,⟨[(0,.dat (.sl Yq3)),(1,.fn 116 [.ptr 0 0])],[bkN 3 [.is 1 (.dat Yq4)],bkM]⟩,[⟨[kdI 0],[bkC 0 3 [.is 1 (.any)],bkU 1]⟩],fun x=>mC x.1 x.2⟩
def Da:OkSpec Tryz.prog:=⟨AU,ae func117 CZ (by kernel_rfl) (by kernel_rfl),call117⟩

def mB (xa:Tq3) (qa0:Int):Option Bool :=
 (mC xa qa0).bind fun i10=>some (decide (0≤i10))
def B0:Hn Tryz.prog := .cl Da [] .nil
def B2:Spec:=⟨109,⟨[(0,.dat (.sl Yq3)),(1,.fn 116 [.ptr 0 0])],[bkN 3 [.is 1 (.dat Yq4)],bkM]⟩,[⟨[kdB 0],[bkC 0 3 [.is 1 (.any)],bkU 1]⟩],fun x=>mB x.1 x.2⟩
def BR:OkSpec Tryz.prog:=⟨B2,ae func109 B0 (by kernel_rfl) (by kernel_rfl),call109⟩

def iD (xa:Tq3) (xb:Int):Option Bool :=
 (mB xa xb).bind fun t14=>some (!t14)
def AA:Hn Tryz.prog := .mc 2 0 3 (.cl BR [] .nil)
def Al:Spec:=⟨105,⟨[(0,.dat Yq7),kdI 1],[]⟩,[⟨[kdB 0],[]⟩],fun x=>iD x.1 x.2⟩
def tR:OkSpec Tryz.prog:=⟨Al,ae func105 AA (by kernel_rfl) (by kernel_rfl),call105⟩

def cB (xa:Tq3) (xb:Int):Option Int :=
 cond (decide (16 < (xa.length:Int))) (some (6)) ((iD xa xb).bind fun t15=>cond (!t15) (some (7)) (some (0)))
def Cd:Hn Tryz.prog := .tw 8 .nil (.cl tR [] (.tw 12 .nil .nil))
def Ae:Spec:=⟨88,⟨[(0,.dat Yq7),kdI 1],[]⟩,[⟨[kdI 0],[]⟩],fun x=>cB x.1 x.2⟩
def mh:OkSpec Tryz.prog:=⟨Ae,ae func88 Cd (by kernel_rfl) (by kernel_rfl),call88⟩
def d9 (xa:Tq1):Int→Option (Int⊕(Unit⊕Tq6)):=fun i1=>cond (decide (i1 < (xa.2.2.2.1.length:Int))) ((aa xa.2.2.2.1 i1).bind fun x2=>(aW 1 1).bind fun _=>(cB x2 xa.2.1).bind fun i3=>cond (!decide (i3=0)) (some (.inr ((.inr ((i3,2,i1,0)))))) (some (.inl (IntKind.wrap .i64 (i1 + 1))))) (some (.inr ((.inl ()))))
def eA (xa:Tq1):Option Tq6 :=
 cond (decide ((xa.2.2.2.1.length:Int)=0)) (some ((14,2,0,0))) (cond (decide (65536 < (xa.2.2.2.1.length:Int))) (some ((6,2,0,0))) ((loop (d9 xa) 0).bind fun o=>match o with | .inr r=>some r | .inl ()=>some ((0,0,0,0))))
def Ab:Hn Tryz.prog := .tw 11 .nil (.tw 16 .nil (.jx [] ⟨[],[bkC 2 111 [.lit (.int .i64 0),.lit (.int .i64 0),.lit (.int .i64 0),.lit (.int .i64 0)]]⟩ [2] (.lp ⟨[kdI 21],[bkC 2 111 [.lit (.int .i64 0),.lit (.int .i64 0),.lit (.int .i64 0),.lit (.int .i64 0)]]⟩ (.tw 22 (.cl dZ [] (.cl mh [] (.tw 33 .nil .nil))) .nil)) .nil))
def zJ:Spec:=⟨71,⟨[(0,.dat Yq1),(1,.nilp)],[]⟩,[⟨[(0,.agg [.dat Yq4,.dat Yq4,.dat Yq4,.dat Yq4])],[]⟩],fun x=>eA x⟩
def Ay:OkSpec Tryz.prog:=⟨zJ,ae func71 Ab (by kernel_rfl) (by kernel_rfl),call71⟩

def mR (xa:(Int×Bool)) (xb:(Int×Bool)):Option Bool :=
 some (xa.2 == xb.2)
def CK:Hn Tryz.prog := .nil
def AM:Spec:=⟨107,⟨[(0,.dat Yq3),(1,.dat Yq3)],[]⟩,[⟨[kdB 0],[]⟩],fun x=>mR x.1 x.2⟩
def CG:OkSpec Tryz.prog:=⟨AM,ae func107 CK (by kernel_rfl) (by kernel_rfl),call107⟩
def mw (xa:Tq3) (xb:Tq3):Int→Option (Int⊕(Unit⊕Bool)):=fun i1=>cond (decide (i1 < (xa.length:Int))) ((aa xa i1).bind fun x2=>(aa xb i1).bind fun x3=>(mR (x2.1,x2.2) (x3.1,x3.2)).bind fun t4=>cond (!t4) (some (.inr ((.inr (false))))) (some (.inl (IntKind.wrap .i64 (i1 + 1))))) (some (.inr ((.inl ()))))
def jD (xa:Tq3) (xb:Tq3):Option Bool :=
 cond (!decide ((xa.length:Int)=(xb.length:Int))) (some (false)) ((loop (mw xa xb) 0).bind fun o=>match o with | .inr r=>some r | .inl ()=>some (true))
def A7:Hn Tryz.prog := .tw 14 .nil (.jx [] ⟨[],[]⟩ [] (.lp ⟨[kdI 17],[]⟩ (.tw 18 (.cl CG [] (.tw 30 .nil .nil)) .nil)) .nil)
def Dg:Spec:=⟨106,⟨[(0,.dat (.sl Yq3)),(1,.dat (.sl Yq3)),(2,.fn 107 [])],[]⟩,[⟨[kdB 0],[]⟩],fun x=>jD x.1 x.2⟩
def Ac:OkSpec Tryz.prog:=⟨Dg,ae func106 A7 (by kernel_rfl) (by kernel_rfl),call106⟩

def cC (xa:Tq3) (xb:Tq3):Option Bool :=
 (jD xa xb).bind fun t14=>some (t14)
def AG:Hn Tryz.prog := .cl Ac [] .nil
def AQ:Spec:=⟨89,⟨[(0,.dat Yq7),(1,.dat Yq7)],[]⟩,[⟨[kdB 0],[]⟩],fun x=>cC x.1 x.2⟩
def gX:OkSpec Tryz.prog:=⟨AQ,ae func89 AG (by kernel_rfl) (by kernel_rfl),call89⟩

def cZ (xa:Tq1):Option Tq6 :=
 (cB xa.2.2.2.2.1 xa.1).bind fun i81=>cond (decide (i81=0)) ((aa xa.2.2.2.1 0).bind fun x1=>(cC xa.2.2.2.2.1 x1).bind fun t2=>cond (!t2) (some ((8,3,0,0))) (some ((i81,3,0,0)))) (some ((i81,3,0,0)))
def Dh:Hn Tryz.prog := .cl mh [] (.mix [] [0,1,2,3,4,5,6,7,8,9] [10,11,12] [] (.two 15 (.cl gX [] (.tw 24 .nil .nil)) .nil))
def Ah:Spec:=⟨72,⟨[(0,.dat Yq1),(1,.nilp)],[]⟩,[⟨[(0,.agg [.dat Yq4,.dat Yq4,.dat Yq4,.dat Yq4])],[]⟩],fun x=>cZ x⟩
def Ag:OkSpec Tryz.prog:=⟨Ah,ae func72 Dh (by kernel_rfl) (by kernel_rfl),call72⟩

def ie (xa:Int) (qa0:Int) (qa1:(List (Int×Int))) (qa2:(List Tq3)) (qa3:Tq3):Option Bool :=
 some ((decide (0≤xa))&&(decide (xa < qa0)))
def Bj:Hn Tryz.prog := .gp 4 .nil
def AK:Spec:=⟨108,⟨[kdI 0,(1,.ptr 0 0)],[bkN 70 [.is 1 (.dat Yq4),.is 2 (.dat (.sl (.cons Yq4 (.one Yq4)))),.is 3 (.dat (.sl Yq7)),.is 4 (.dat (.sl Yq3))],bkM,bkM,bkM,bkM]⟩,[⟨[kdB 0],[bkC 0 70 [.is 1 (.any),.is 2 (.any),.is 3 (.any),.is 4 (.any)],bkU 1,bkU 2,bkU 3,bkU 4]⟩],fun x=>ie x.1 x.2.1 x.2.2.1 x.2.2.2.1 x.2.2.2.2⟩
def ua:OkSpec Tryz.prog:=⟨AK,ae func108 Bj (by kernel_rfl) (by kernel_rfl),call108⟩
def eI (xa:Tq4):Int→Option (Int⊕(Unit⊕Int)):=fun i1=>cond (decide (i1 < (xa.2.1.length:Int))) ((aa xa.2.1 i1).bind fun x2=>(ie x2.1 xa.1 xa.2.1 xa.2.2.1 xa.2.2.2).bind fun t3=>(cond (!t3) (some (true)) ((ie x2.2 xa.1 xa.2.1 xa.2.2.1 xa.2.2.2).bind fun t4=>some (!t4))).bind fun t5=>cond (t5) (some (.inr ((.inr (7))))) (some (.inl (IntKind.wrap .i64 (i1 + 1))))) (some (.inr ((.inl ()))))
def eH (xa:Tq4):Int→Option (Int⊕(Unit⊕Int)):=fun i1=>cond (decide (i1 < (xa.2.2.1.length:Int))) ((aa xa.2.2.1 i1).bind fun x2=>(cB x2 xa.1).bind fun i3=>cond (!decide (i3=0)) (some (.inr ((.inr (i3))))) (some (.inl (IntKind.wrap .i64 (i1 + 1))))) (some (.inr ((.inl ()))))
def cg (xa:Tq4):Option Int :=
 cond (decide (xa.1 < 0)) (some (7)) (cond (((decide (16 < xa.1))||(decide (16 < (xa.2.1.length:Int))))||(decide (16 < (xa.2.2.1.length:Int)))) (some (6)) ((loop (eI xa) 0).bind fun o=>match o with | .inr r=>some r | .inl ()=>(loop (eH xa) 0).bind fun o=>match o with | .inr r=>some r | .inl ()=>(cB xa.2.2.2 xa.1).bind fun i1=>some (i1)))
def Cu:Hn Tryz.prog := .tw 11 .nil (.wt 15 (.gp 4 (.wt 21 (.gp 4 (.tw 26 .nil (.jx [(0,0),(0,1),(0,2),(0,3)] ⟨[],[bkC 0 70 [.is 1 (.any),.is 2 (.any),.is 3 (.any),.is 4 (.any)],bkU 2,bkU 3,bkU 4,bkU 5]⟩ [0] (.lp ⟨[kdI 31],[bkC 0 70 [.is 1 (.any),.is 2 (.any),.is 3 (.any),.is 4 (.any)],bkU 2,bkU 3,bkU 4,bkU 5]⟩ (.tw 32 (.cl ua [] (.gj 5 ⟨[kdB 46],[bkC 0 70 [.is 1 (.any),.is 2 (.any),.is 3 (.any),.is 4 (.any)],bkU 2,bkU 3,bkU 4,bkU 5]⟩ [0] (.two 40 .nil (.cl ua [] .nil)) (.tw 46 .nil .nil))) .nil)) (.jx [] ⟨[],[]⟩ [] (.lp ⟨[kdI 51],[]⟩ (.tw 52 (.cl mh [] (.tw 60 .nil .nil)) .nil)) (.cl mh [] .nil))))))))
def CY:Spec:=⟨90,⟨[(0,.dat Yq5)],[]⟩,[⟨[kdI 0],[]⟩],fun x=>cg x⟩
def uj:OkSpec Tryz.prog:=⟨CY,ae func90 Cu (by kernel_rfl) (by kernel_rfl),call90⟩
def ej (xa:Tq1):Int→Option (Int⊕(Unit⊕Tq6)):=fun i1=>cond (decide (i1 < (xa.2.2.2.2.2.1.length:Int))) ((aa xa.2.2.2.2.2.1 i1).bind fun x2=>(aW 1 1).bind fun _=>(cg (x2.1,x2.2.1,x2.2.2.1,x2.2.2.2)).bind fun i3=>cond (!decide (i3=0)) (some (.inr ((.inr ((i3,4,i1,0)))))) (some (.inl (IntKind.wrap .i64 (i1 + 1))))) (some (.inr ((.inl ()))))
def eF (xa:Tq1):Option Tq6 :=
 cond (decide (65536 < (xa.2.2.2.2.2.1.length:Int))) (some ((6,4,0,0))) ((loop (ej xa) 0).bind fun o=>match o with | .inr r=>some r | .inl ()=>some ((0,0,0,0)))
def Be:Hn Tryz.prog := .tw 11 .nil (.jx [] ⟨[],[bkC 2 111 [.lit (.int .i64 0),.lit (.int .i64 0),.lit (.int .i64 0),.lit (.int .i64 0)]]⟩ [2,0] (.lp ⟨[kdI 16],[bkC 2 111 [.lit (.int .i64 0),.lit (.int .i64 0),.lit (.int .i64 0),.lit (.int .i64 0)]]⟩ (.tw 17 (.cl dZ [] (.cl uj [] (.tw 26 .nil .nil))) .nil)) .nil)
def zQ:Spec:=⟨73,⟨[(0,.dat Yq1),(1,.nilp)],[]⟩,[⟨[(0,.agg [.dat Yq4,.dat Yq4,.dat Yq4,.dat Yq4])],[]⟩],fun x=>eF x⟩
def BW:OkSpec Tryz.prog:=⟨zQ,ae func73 Be (by kernel_rfl) (by kernel_rfl),call73⟩
def fN (xa:Tq1):(Int×Int)→Option ((Int×Int)⊕(Unit⊕Tq6)):=fun (i1,i2)=>cond (decide (i2 < (xa.2.2.2.2.2.2.length:Int))) ((aa xa.2.2.2.2.2.2 i2).bind fun x3=>(aW 1 1).bind fun _=>cond (decide (65536 < (IntKind.wrap .i64 (i1 + (x3.1.length:Int))))) (some (.inr ((.inr ((6,5,i2,0)))))) (some (.inl ((IntKind.wrap .i64 (i1 + (x3.1.length:Int)),IntKind.wrap .i64 (i2 + 1)))))) (some (.inr ((.inl ()))))
def er (xa:Tq1):Option Tq6 :=
 cond (decide ((xa.2.2.2.2.2.2.length:Int)=0)) (some ((14,5,0,0))) (cond (decide (65536 < (xa.2.2.2.2.2.2.length:Int))) (some ((6,5,0,0))) ((loop (fN xa) (0,0)).bind fun o=>match o with | .inr r=>some r | .inl ()=>some ((0,0,0,0))))
def CC:Hn Tryz.prog := .tw 11 .nil (.tw 16 .nil (.jx [] ⟨[],[bkC 2 111 [.lit (.int .i64 0),.lit (.int .i64 0),.lit (.int .i64 0),.lit (.int .i64 0)]]⟩ [2,0] (.lp ⟨[kdI 5,kdI 21],[bkC 2 111 [.lit (.int .i64 0),.lit (.int .i64 0),.lit (.int .i64 0),.lit (.int .i64 0)]]⟩ (.tw 22 (.cl dZ [] (.tw 34 .nil .nil)) .nil)) .nil))
def Ch:Spec:=⟨74,⟨[(0,.dat Yq1),(1,.nilp)],[]⟩,[⟨[(0,.agg [.dat Yq4,.dat Yq4,.dat Yq4,.dat Yq4])],[]⟩],fun x=>er x⟩
def C6:OkSpec Tryz.prog:=⟨Ch,ae func74 CC (by kernel_rfl) (by kernel_rfl),call74⟩

def jP (xa:Int):Option (Bool×Bool×Bool×Bool) :=
 cond (decide (xa=0)) (some ((false,false,false,true))) (cond (decide (xa=1)) (some ((true,true,false,true))) ((cond (decide (xa=2)) (some (decide (xa=2))) (some (decide (xa=3))):Option Bool).bind fun t18=>cond (t18) (some ((true,true,true,true))) (cond (decide (xa=4)) (some ((false,true,false,true))) (cond (decide (xa=5)) (some ((true,false,false,true))) (some ((false,false,false,false)))))))
def C3:Hn Tryz.prog := .tw 5 .nil (.tw 8 .nil (.sq [] ⟨[kdB 11],[]⟩ [] (.tw 11 .nil .nil) (.tw 11 .nil (.tw 15 .nil (.tw 18 .nil .nil)))))
def Bi:Spec:=⟨93,⟨[kdI 0],[]⟩,[⟨[(0,.tup [.agg [.dat .bool,.dat .bool,.dat .bool],.dat .bool])],[]⟩],fun x=>jP x⟩
def Cm:OkSpec Tryz.prog:=⟨Bi,ae func93 C3 (by kernel_rfl) (by kernel_rfl),call93⟩

def kd (xa:Tq2) (xb:(Bool×Bool×Bool)):Option Tq2 :=
 (cond (xb.1) (some (xa.2.1)) (some (0)):Option Int).bind fun i22=>(cond (xb.2.1) (some (xa.2.2.1)) (some (0)):Option Int).bind fun i25=>cond (xb.2.2) (some ((xa.1,i22,i25,xa.2.2.2.1,xa.2.2.2.2))) (some ((xa.1,i22,i25,0,false)))
def AJ:Hn Tryz.prog := .pl (.pl (.sq [(6,0)] ⟨[],[bkC 6 65 [.is 1 (.any),.dat Yq4,.lit (.int .i64 0),.lit (.int .i64 0),.lit (.bool false)],bkU 9]⟩ [6] (.tw 10 .nil .nil) (.sq [(6,1)] ⟨[],[bkC 6 65 [.is 1 (.any),.is 2 (.any),.dat Yq4,.lit (.int .i64 0),.lit (.bool false)],bkU 9,bkU 11]⟩ [6] (.tw 15 .nil .nil) (.tw 20 (.mix [([0,1,2,3,4],5)] [6] [7] [6] .nil) .nil))))
def Di:Spec:=⟨94,⟨[(0,.dat Yq2),(1,.dat (.cons .bool (.cons .bool (.one .bool))))],[]⟩,[⟨[(0,.agg [.dat Yq4,.dat Yq4,.dat Yq4,.dat Yq4,.dat .bool])],[]⟩],fun x=>kd x.1 x.2⟩
def B9:OkSpec Tryz.prog:=⟨Di,ae func94 AJ (by kernel_rfl) (by kernel_rfl),call94⟩

def j7 (xa:Tq2):Option (Bool×Bool×Bool×Int) :=
 (jP xa.1).bind fun (t67,t68,t69,t70)=>cond (!t70) (some ((false,false,false,3))) ((kd (xa.1,xa.2.1,xa.2.2.1,xa.2.2.2.1,xa.2.2.2.2) (t67,t68,t69)).bind fun (i1,i2,i3,i4,t5)=>cond (!((decide (xa.1=i1))&&((decide (xa.2.1=i2))&&((decide (xa.2.2.1=i3))&&((decide (xa.2.2.2.1=i4))&&(xa.2.2.2.2 == t5)))))) (some ((false,false,false,3))) (some ((t67,t68,t69,0))))
def C8:Hn Tryz.prog := .cl Cm [] (.mix [([0,1,2,3,4,5],6)] [7,8] [] [] (.two 14 .nil (.cl B9 [] (.tw 20 .nil .nil))))
def Bc:Spec:=⟨76,⟨[(0,.dat Yq2)],[]⟩,[⟨[(0,.tup [.agg [.dat .bool,.dat .bool,.dat .bool],.dat Yq4])],[]⟩],fun x=>j7 x⟩
def zM:OkSpec Tryz.prog:=⟨Bc,ae func76 C8 (by kernel_rfl) (by kernel_rfl),call76⟩

def jJ (xa:Int) (qa0:(List Tq3)):Option Bool :=
 some ((decide (0≤xa))&&(decide (xa < (qa0.length:Int))))
def C2:Hn Tryz.prog := .gp 4 .nil
def Au:Spec:=⟨77,⟨[kdI 0,(1,.ptr 0 0)],[bkN 23 [.is 1 (.dat (.sl Yq7))],bkM]⟩,[⟨[kdB 0],[bkC 0 23 [.is 1 (.any)],bkU 1]⟩],fun x=>jJ x.1 x.2⟩
def uf:OkSpec Tryz.prog:=⟨Au,ae func77 C2 (by kernel_rfl) (by kernel_rfl),call77⟩
def up (xa:Tq3) (xb:Tq3) (xc:Int) (xd:Int):Tq8→Option (Tq8⊕(List Tq2)):=fun (l1,i2)=>cond (decide (i2 < (xa.length:Int))) ((aa xa i2).bind fun x3=>(aa xb i2).bind fun x4=>(app l1 (([(x3.1,x4.1,xc,IntKind.wrap .i64 (xd + i2),false)]:List Tq2))).bind fun z5=>(aa xb i2).bind fun x6=>cond (x6.2) ((aa xb i2).bind fun x7=>(aa xa i2).bind fun x8=>(app z5 (([(x7.1,x8.1,xc,IntKind.wrap .i64 (xd + i2),true)]:List Tq2))).bind fun z9=>some (.inl ((z9,IntKind.wrap .i64 (i2 + 1))))) (some (.inl ((z5,IntKind.wrap .i64 (i2 + 1)))))) (some (.inr (l1)))
def io (xa:Tq3) (xb:Tq3) (xc:Int) (xd:Int):Option ((List Tq2)) :=
 (loop (up xa xb xc xd) ([],0)).bind fun l1=>some (l1)
def Ax:Hn Tryz.prog := .jn [] ⟨[(9,.own 103 Yq2)],[]⟩ [] (.lp ⟨[(9,.own 103 Yq2),kdI 13],[]⟩ (.tw 14 (.mix [([0,1,2,3,4,5,6,7,8,9,10,11,12,13,14,15],16)] [] [17,18] [] (.tw 38 (.mix [([0,1,2,3,4,5,6,7,8,9,10,11,12,13,14,15],16)] [] [17,18] [] .nil) .nil)) .nil)) .nil
def zR:Spec:=⟨95,⟨[(0,.dat (.sl Yq3)),(1,.dat (.sl Yq3)),kdI 2,kdI 3],[]⟩,[⟨[(0,.own 103 Yq2)],[]⟩],fun x=>io x.1 x.2.1 x.2.2.1 x.2.2.2⟩
def oY:OkSpec Tryz.prog:=⟨zR,ae func95 Ax (by kernel_rfl) (by kernel_rfl),call95⟩

def eL (xa:Tq3) (xb:Tq3) (xc:Int) (xd:Int):Option (Tq8) :=
 (cC xa xb).bind fun t30=>cond (!t30) (some (([],8))) ((io xa xb xc xd).bind fun l38=>some ((l38,0)))
def A3:Hn Tryz.prog := .cl gX [] (.tw 13 .nil (.cl oY [] .nil))
def AD:Spec:=⟨78,⟨[(0,.dat Yq7),(1,.dat Yq7),kdI 2,kdI 3],[]⟩,[⟨[(0,.tup [.own 103 Yq2,.dat Yq4])],[]⟩],fun x=>eL x.1 x.2.1 x.2.2.1 x.2.2.2⟩
def ma:OkSpec Tryz.prog:=⟨AD,ae func78 A3 (by kernel_rfl) (by kernel_rfl),call78⟩
def pH (xa:Tq3) (xc:Bool):(Tq3×Int)→Option ((Tq3×Int)⊕Tq3):=fun (l1,i2)=>cond (decide (i2 < (xa.length:Int))) ((aa xa i2).bind fun x3=>(app l1 (([(x3.1,x3.2||xc)]:List (Int×Bool)))).bind fun z4=>some (.inl ((z4,IntKind.wrap .i64 (i2 + 1))))) (some (.inr (l1)))
def kj (xa:Tq3) (xb:Int) (xc:Bool):Option (Tq3) :=
 (loop (pH xa xc) ((([(xb,false)]:List (Int×Bool)),0))).bind fun l1=>some (l1)
def Dm:Hn Tryz.prog := .jn [] ⟨[(7,.own 72 Yq3),(12,.any)],[]⟩ [4,0] (.lp ⟨[(7,.own 72 Yq3),kdI 16],[]⟩ (.tw 17 (.wt 25 (.gp 1 .nil)) .nil)) .nil
def zG:Spec:=⟨96,⟨[(0,.dat Yq7),kdI 1,kdB 2],[]⟩,[⟨[(0,.agg [.own 72 Yq3])],[]⟩],fun x=>kj x.1 x.2.1 x.2.2⟩
def Cg:OkSpec Tryz.prog:=⟨zG,ae func96 Dm (by kernel_rfl) (by kernel_rfl),call96⟩

def jW (xa:Tq3) (xb:Tq3) (xc:Int) (xd:Bool):Option (Tq8) :=
 (kj xa xc xd).bind fun l1=>(cC xb l1).bind fun t2=>cond (!t2) (some (([],8))) ((aa xb 0).bind fun x3=>(subL xb 1 (xb.length:Int)).bind fun y4=>(io xa y4 1 1).bind fun l5=>(app (([(xc,x3.1,2,0,false)]:List Tq2)) l5).bind fun z6=>some ((z6,0)))
def zO:Hn Tryz.prog := .mix [([0,1,2,3],4)] [] [5,6] [] (.cl Cg [] (.cl gX [4] (.tw 17 .nil (.mix [([0,1,2,3,4,5],6)] [] [7,8,9] [] (.cl oY [] .nil)))))
def Dk:Spec:=⟨79,⟨[(0,.dat Yq7),(1,.dat Yq7),kdI 2,kdB 3],[]⟩,[⟨[(0,.tup [.own 103 Yq2,.dat Yq4])],[]⟩],fun x=>jW x.1 x.2.1 x.2.2.1 x.2.2.2⟩
def CF:OkSpec Tryz.prog:=⟨Dk,ae func79 zO (by kernel_rfl) (by kernel_rfl),call79⟩

def mH (xa:(Int×Bool)):Option Bool :=
 some (!xa.2)
def An:Hn Tryz.prog := .nil
def BJ:Spec:=⟨110,⟨[(0,.dat Yq3)],[]⟩,[⟨[kdB 0],[]⟩],fun x=>mH x⟩
def AE:OkSpec Tryz.prog:=⟨BJ,ae func110 An (by kernel_rfl) (by kernel_rfl),call110⟩
def mz (xa:Tq3):Int→Option (Int⊕(Unit⊕Int)):=fun i1=>cond (decide (i1 < (xa.length:Int))) ((aa xa i1).bind fun x2=>(mH (x2.1,x2.2)).bind fun t3=>cond (t3) (some (.inr ((.inr (i1))))) (some (.inl (IntKind.wrap .i64 (i1 + 1))))) (some (.inr ((.inl ()))))
def mA (xa:Tq3):Option Int :=
 (loop (mz xa) 0).bind fun o=>match o with | .inr r=>some r | .inl ()=>some ((-1))
def zX:Hn Tryz.prog := .jx [] ⟨[],[]⟩ [] (.lp ⟨[kdI 8],[]⟩ (.tw 9 (.cl AE [] (.tw 16 .nil .nil)) .nil)) .nil
def Ck:Spec:=⟨117,⟨[(0,.dat (.sl Yq3)),(1,.fn 110 [])],[]⟩,[⟨[kdI 0],[]⟩],fun x=>mA x⟩
def Cr:OkSpec Tryz.prog:=⟨Ck,ae func117 zX (by kernel_rfl) (by kernel_rfl),call117⟩

def my (xa:Tq3):Option Bool :=
 (mA xa).bind fun i10=>some (decide (0≤i10))
def zW:Hn Tryz.prog := .cl Cr [] .nil
def BO:Spec:=⟨109,⟨[(0,.dat (.sl Yq3)),(1,.fn 110 [])],[]⟩,[⟨[kdB 0],[]⟩],fun x=>my x⟩
def By:OkSpec Tryz.prog:=⟨BO,ae func109 zW (by kernel_rfl) (by kernel_rfl),call109⟩

def jH (xa:Tq3) (xb:Tq3) (xc:Bool):Option Bool :=
 (cond (decide ((xa.length:Int)=0)) (some (true)) ((aa xa 0).bind fun x70=>some (x70.2))).bind fun t68=>(cond (t68) (some (true)) ((cC xa xb).bind fun t90=>some (!t90))).bind fun t86=>cond (t86) (some (false)) ((subL xa 1 (xa.length:Int)).bind fun y95=>(my y95).bind fun t1=>some ((!xc)||(!t1)))
def B8:Hn Tryz.prog := .gj 5 ⟨[kdB 18],[]⟩ [] (.two 12 .nil .nil) (.wt 19 (.gj 4 ⟨[kdB 24],[]⟩ [] (.two 19 .nil (.cl gX [] .nil)) (.tw 24 .nil (.cl By [] (.gp 2 .nil)))))
def Ds:Spec:=⟨97,⟨[(0,.dat Yq7),(1,.dat Yq7),kdB 2],[]⟩,[⟨[kdB 0],[]⟩],fun x=>jH x.1 x.2.1 x.2.2⟩
def AL:OkSpec Tryz.prog:=⟨Ds,ae func97 B8 (by kernel_rfl) (by kernel_rfl),call97⟩

def jS (xa:Tq3) (xb:Tq3) (xc:Int) (xd:Bool):Option (Tq8) :=
 (jH xa xb xd).bind fun t1=>cond (!t1) (some (([],8))) ((aa xa 0).bind fun x2=>(aa xb 0).bind fun x3=>(subL xa 1 (xa.length:Int)).bind fun y4=>(subL xb 1 (xb.length:Int)).bind fun y5=>(io y4 y5 1 1).bind fun l6=>(app (([(x2.1,xc,3,0,false),(xc,x3.1,2,0,false)]:List Tq2)) l6).bind fun z7=>some ((z7,0)))
def zZ:Hn Tryz.prog := .cl AL [] (.tw 15 .nil (.mix [([0,1,2,3,4,5,6,7,8,9,10,11,12,13],14)] [15] [] [] (.mix [([0,1,2,3,4,5,6],7)] [] [8,9,10] [] (.cl oY [] .nil))))
def Ct:Spec:=⟨80,⟨[(0,.dat Yq7),(1,.dat Yq7),kdI 2,kdB 3],[]⟩,[⟨[(0,.tup [.own 103 Yq2,.dat Yq4])],[]⟩],fun x=>jS x.1 x.2.1 x.2.2.1 x.2.2.2⟩
def Bm:OkSpec Tryz.prog:=⟨Ct,ae func80 zZ (by kernel_rfl) (by kernel_rfl),call80⟩

def cd (xa:Tq2) (xb:(List Tq3)) (xc:Int):Option (Tq8) :=
 (j7 (xa.1,xa.2.1,xa.2.2.1,xa.2.2.2.1,xa.2.2.2.2)).bind fun (t1,t2,t3,i4)=>cond (!decide (i4=0)) (some (([],i4))) ((cond (t1) ((jJ xa.2.1 xb).bind fun t5=>some (!t5)) (some (false))).bind fun t6=>(cond (t6) (some (true)) ((cond (t2) ((jJ xa.2.2.1 xb).bind fun t7=>some (!t7)) (some (false))).bind fun t8=>some (t8))).bind fun t9=>cond (t9||(t3&&((decide (xa.2.2.2.1 < 0))||(decide (xc≤xa.2.2.2.1))))) (some (([],7))) (cond (decide (xa.1=1)) ((aa xb xa.2.2.1).bind fun x10=>(aa xb xa.2.1).bind fun x11=>(eL x10 x11 1 0).bind fun (l12,i13)=>some ((l12,i13))) (cond (decide (xa.1=2)) ((aa xb xa.2.2.1).bind fun x14=>(aa xb xa.2.1).bind fun x15=>(jW x14 x15 xa.2.2.2.1 xa.2.2.2.2).bind fun (l16,i17)=>some ((l16,i17))) (cond (decide (xa.1=3)) ((aa xb xa.2.2.1).bind fun x18=>(aa xb xa.2.1).bind fun x19=>(jS x18 x19 xa.2.2.2.1 xa.2.2.2.2).bind fun (l20,i21)=>some ((l20,i21))) (some (([],0)))))))
def zH:Hn Tryz.prog := .cl zM [] (.tw 17 .nil (.wt 22 (.mc 2 0 3 (.gj 5 ⟨[kdB 28],[bkC 2 23 [.is 1 (.any)],bkU 7]⟩ [2] (.two 22 (.cl uf [] .nil) .nil) (.wt 29 (.gj 9 ⟨[kdB 39],[bkC 2 23 [.is 1 (.any)],bkU 7]⟩ [2] (.two 29 .nil (.wt 32 (.gj 5 ⟨[kdB 38],[bkC 2 23 [.is 1 (.any)],bkU 7]⟩ [2] (.two 32 (.cl uf [] .nil) .nil) .nil))) (.wt 40 (.gp 13 (.tw 54 .nil (.tw 57 (.mix [([0,1,2,3,4,5,6,7,8,9],10)] [11,12,13,14] [] [] (.cl ma [] .nil)) (.tw 72 (.mix [([0,1,2,3,4,5,6,7,8,9,10,11,12,13],14)] [15,16,17,18] [] [] (.cl CF [] .nil)) (.tw 91 (.mix [([0,1,2,3,4,5,6,7,8,9,10,11,12,13],14)] [15,16,17,18] [] [] (.cl Bm [] .nil)) .nil))))))))))))
def BT:Spec:=⟨58,⟨[(0,.dat Yq2),(1,.dat (.sl Yq7)),kdI 2],[]⟩,[⟨[(0,.tup [.own 103 Yq2,.dat Yq4])],[]⟩],fun x=>cd x.1 x.2.1 x.2.2⟩
def ub:OkSpec Tryz.prog:=⟨BT,ae func58 zH (by kernel_rfl) (by kernel_rfl),call58⟩

def j4 (xa:Tq2) (xb:(List Tq3)) (xc:Int):Option Int :=
 (cd (xa.1,xa.2.1,xa.2.2.1,xa.2.2.2.1,xa.2.2.2.2) xb xc).bind fun (l17,i18)=>some (i18)
def zK:Hn Tryz.prog := .cl ub [] .nil
def B7:Spec:=⟨91,⟨[(0,.dat Yq2),(1,.dat (.sl Yq7)),kdI 2],[]⟩,[⟨[kdI 0],[]⟩],fun x=>j4 x.1 x.2.1 x.2.2⟩
def Bu:OkSpec Tryz.prog:=⟨B7,ae func91 zK (by kernel_rfl) (by kernel_rfl),call91⟩

def fV (xa:Tq5):Option Bool :=
 some (((!decide (xa.2.1=0))||(!decide (xa.2.2.1=0)))||(decide (0 < (xa.2.2.2.2.2.length:Int))))
def CX:Hn Tryz.prog := .gp 3 (.wt 11 (.gp 4 .nil))
def Br:Spec:=⟨98,⟨[(0,.dat Yq6)],[]⟩,[⟨[kdB 0],[]⟩],fun x=>fV x⟩
def pc:OkSpec Tryz.prog:=⟨Br,ae func98 CX (by kernel_rfl) (by kernel_rfl),call98⟩

def fW (xa:Tq5):Option Int :=
 (cond (decide (xa.1=1)) ((cond ((decide ((xa.2.2.2.1.length:Int)=1))&&(decide ((xa.2.2.2.2.1.length:Int)=0))) ((fV (xa.1,xa.2.1,xa.2.2.1,xa.2.2.2.1,xa.2.2.2.2.1,xa.2.2.2.2.2)).bind fun t1=>some (!t1)) (some (false))).bind fun t2=>some (t2)) (cond (decide (xa.1=2)) ((cond (decide (0 < (xa.2.2.2.1.length:Int))) ((fV (xa.1,xa.2.1,xa.2.2.1,xa.2.2.2.1,xa.2.2.2.2.1,xa.2.2.2.2.2)).bind fun t3=>some (!t3)) (some (false))).bind fun t4=>some (t4)) (cond (decide (xa.1=3)) ((cond ((decide ((xa.2.2.2.1.length:Int)=0))&&(decide ((xa.2.2.2.2.1.length:Int)=0))) ((fV (xa.1,xa.2.1,xa.2.2.1,xa.2.2.2.1,xa.2.2.2.2.1,xa.2.2.2.2.2)).bind fun t5=>some (!t5)) (some (false))).bind fun t6=>some (t6)) (cond (decide (xa.1=4)) (some (decide ((xa.2.2.2.1.length:Int)=1))) (some (false))))):Option Bool).bind fun t7=>cond (!t7) (some (3)) (cond (((decide (16 < (xa.2.2.2.1.length:Int)))||(decide (16 < (xa.2.2.2.2.1.length:Int))))||(decide (16 < (xa.2.2.2.2.2.length:Int)))) (some (6)) (some (0)))
def Cn:Hn Tryz.prog := .pl (.pl (.sq [] ⟨[kdB 3],[]⟩ [] (.tw 6 (.wt 12 (.gp 4 (.wt 18 (.gj 3 ⟨[kdB 22],[]⟩ [] (.two 18 (.cl pc [] .nil) .nil) .nil)))) (.tw 23 (.wt 29 (.gj 3 ⟨[kdB 33],[]⟩ [] (.two 29 (.cl pc [] .nil) .nil) .nil)) (.tw 34 (.wt 40 (.gp 4 (.wt 46 (.gj 3 ⟨[kdB 50],[]⟩ [] (.two 46 (.cl pc [] .nil) .nil) .nil)))) (.tw 51 .nil .nil)))) (.tw 58 .nil (.wt 63 (.gp 4 (.wt 69 (.gp 4 (.tw 74 .nil .nil))))))))
def Bv:Spec:=⟨81,⟨[(0,.dat Yq6)],[]⟩,[⟨[kdI 0],[]⟩],fun x=>fW x⟩
def CM:OkSpec Tryz.prog:=⟨Bv,ae func81 Cn (by kernel_rfl) (by kernel_rfl),call81⟩

def fT (xa:Int):Option Int :=
 some (xa)
def Dw:Hn Tryz.prog := .nil
def Bt:Spec:=⟨99,⟨[kdI 0],[]⟩,[⟨[(0,.fn 111 [.ptr 0 0])],[bkN 3 [.dat Yq4]]⟩],fun x=>fT x⟩
def ml:OkSpec Tryz.prog:=⟨Bt,ae func99 Dw (by kernel_rfl) (by kernel_rfl),call99⟩

def fM (xa:Int) (qa0:Int):Option Bool :=
 some ((decide (xa < 0))||(decide (qa0≤xa)))
def Ci:Hn Tryz.prog := .gp 3 .nil
def Co:Spec:=⟨111,⟨[kdI 0,(1,.ptr 0 0)],[bkN 3 [.is 1 (.dat Yq4)],bkM]⟩,[⟨[kdB 0],[bkC 0 3 [.is 1 (.any)],bkU 1]⟩],fun x=>fM x.1 x.2⟩
def pj:OkSpec Tryz.prog:=⟨Co,ae func111 Ci (by kernel_rfl) (by kernel_rfl),call111⟩
def jF (xa:(List Int)) (qa0:Int):Int→Option (Int⊕(Unit⊕Int)):=fun i1=>cond (decide (i1 < (xa.length:Int))) ((aa xa i1).bind fun x2=>(fM x2 qa0).bind fun t3=>cond (t3) (some (.inr ((.inr (i1))))) (some (.inl (IntKind.wrap .i64 (i1 + 1))))) (some (.inr ((.inl ()))))
def mD (xa:(List Int)) (qa0:Int):Option Int :=
 (loop (jF xa qa0) 0).bind fun o=>match o with | .inr r=>some r | .inl ()=>some ((-1))
def Cb:Hn Tryz.prog := .jx [] ⟨[],[bkC 0 3 [.is 1 (.any)],bkU 1]⟩ [0] (.lp ⟨[kdI 8],[bkC 0 3 [.is 1 (.any)],bkU 1]⟩ (.tw 9 (.cl pj [] (.tw 16 .nil .nil)) .nil)) .nil
def CP:Spec:=⟨112,⟨[(0,.dat (.sl Yq4)),(1,.fn 111 [.ptr 0 0])],[bkN 3 [.is 1 (.dat Yq4)],bkM]⟩,[⟨[kdI 0],[bkC 0 3 [.is 1 (.any)],bkU 1]⟩],fun x=>mD x.1 x.2⟩
def zN:OkSpec Tryz.prog:=⟨CP,ae func112 Cb (by kernel_rfl) (by kernel_rfl),call112⟩

def fL (xa:(List Int)) (qa0:Int):Option Bool :=
 (mD xa qa0).bind fun i10=>some (decide (0≤i10))
def zI:Hn Tryz.prog := .cl zN [] .nil
def zY:Spec:=⟨100,⟨[(0,.dat (.sl Yq4)),(1,.fn 111 [.ptr 0 0])],[bkN 3 [.is 1 (.dat Yq4)],bkM]⟩,[⟨[kdB 0],[bkC 0 3 [.is 1 (.any)],bkU 1]⟩],fun x=>fL x.1 x.2⟩
def oR:OkSpec Tryz.prog:=⟨zY,ae func100 zI (by kernel_rfl) (by kernel_rfl),call100⟩

def jV (xa:Tq5) (xb:hO):Option Bool :=
 (fT (xb.2.2.1.length:Int)).bind fun i1=>(fT xb.1).bind fun i2=>(fL xa.2.2.2.1 i2).bind fun t3=>cond (t3) (some (false)) ((fL xa.2.2.2.2.1 i1).bind fun t4=>cond (t4) (some (false)) ((fT xb.2.1).bind fun i5=>(fL xa.2.2.2.2.2 i5).bind fun t6=>cond (t6) (some (false)) (cond (!decide (xa.1=4)) (some (true)) ((fM xa.2.2.1 i1).bind fun t7=>cond (!t7) ((fT (xb.2.2.2.2.length:Int)).bind fun i8=>(fM xa.2.1 i8).bind fun t9=>some (!t9)) (some (false))))))
def Cz:Hn Tryz.prog := .cl ml [] (.mix [([0,1,2,3],4),([],5),([6,7,8,9],10),([11,12,13,14,15,16],17)] [] [18,19] [4] (.cl ml [] (.mc 6 0 7 (.cl oR [] (.two 16 .nil (.wt 1000011 (.mc 4 0 5 (.cl oR [] (.two 22 .nil (.cl ml [] (.mc 14 0 15 (.cl oR [] (.tw 29 .nil (.mix [([0,1,2,3,4,5,6],7),([8,9,10,11,12,14,15],13)] [] [16,17,18,19,20] [4] (.two 33 .nil (.cl pj [] (.two 39 (.cl ml [] (.mc 21 0 22 (.cl pj [] .nil))) .nil)))))))))))))))))
def CA:Spec:=⟨82,⟨[(0,.dat Yq6),(1,.dat mo)],[]⟩,[⟨[kdB 0],[]⟩],fun x=>jV x.1 x.2⟩
def Af:OkSpec Tryz.prog:=⟨CA,ae func82 Cz (by kernel_rfl) (by kernel_rfl),call82⟩
def jL (xa:Tq4) (xc:(List Tq3)):Int→Option (Int⊕(Unit⊕Int)):=fun i1=>cond (decide (i1 < (xa.2.2.1.length:Int))) ((aa xa.2.2.1 i1).bind fun x2=>(aa xc i1).bind fun x3=>(cC x3 x2).bind fun t4=>cond (!t4) (some (.inr ((.inr (8))))) (some (.inl (IntKind.wrap .i64 (i1 + 1))))) (some (.inr ((.inl ()))))
def mN (xa:Tq4) (xb:(List Int)) (xc:(List Tq3)) (xd:Tq3):Option Int :=
 (cg (xa.1,xa.2.1,xa.2.2.1,xa.2.2.2)).bind fun i1=>cond (!decide (i1=0)) (some (i1)) (cond ((!decide ((xb.length:Int)=xa.1))||(!decide ((xc.length:Int)=(xa.2.2.1.length:Int)))) (some (2)) ((loop (jL xa xc) 0).bind fun o=>match o with | .inr r=>some r | .inl ()=>(cC xd xa.2.2.2).bind fun t2=>cond (!t2) (some (8)) (some (0))))
def Bw:Hn Tryz.prog := .cl uj [] (.tw 15 .nil (.wt 22 (.gp 6 (.tw 29 .nil (.jx [] ⟨[],[]⟩ [] (.lp ⟨[kdI 33],[]⟩ (.tw 34 (.mix [] [0,1,2,3,4] [5,6] [] (.cl gX [] (.tw 44 .nil .nil))) .nil)) (.cl gX [] (.tw 50 .nil .nil)))))))
def Du:Spec:=⟨101,⟨[(0,.dat Yq5),(1,.dat (.sl Yq4)),(2,.dat (.sl Yq7)),(3,.dat Yq7)],[]⟩,[⟨[kdI 0],[]⟩],fun x=>mN x.1 x.2.1 x.2.2.1 x.2.2.2⟩
def AC:OkSpec Tryz.prog:=⟨Du,ae func101 Bw (by kernel_rfl) (by kernel_rfl),call101⟩

def mF (xa:Tq3):Option (Tq3) :=
 d7 xa (some ([])) ((app (([]:List (Int×Bool))) xa).bind fun z21=>some (z21))
def C7:Hn Tryz.prog := .two 4 .nil .nil
def CR:Spec:=⟨118,⟨[(0,.dat (.sl Yq3))],[]⟩,[⟨[(0,.own 72 Yq3)],[]⟩],fun x=>mF x⟩
def Dr:OkSpec Tryz.prog:=⟨CR,ae func118 C7 (by kernel_rfl) (by kernel_rfl),call118⟩

def kb (xa:Tq3):Option (Tq3) :=
 (mF xa).bind fun l22=>some (l22)
def BF:Hn Tryz.prog := .cl Dr [] .nil
def BG:Spec:=⟨113,⟨[(0,.dat Yq7)],[]⟩,[⟨[(0,.agg [.own 72 Yq3])],[]⟩],fun x=>kb x⟩
def CD:OkSpec Tryz.prog:=⟨BG,ae func113 BF (by kernel_rfl) (by kernel_rfl),call113⟩
def ix (xb:(List Int)) (l1:Tq3):(Tq3×Int)→Option ((Tq3×Int)⊕Tq3):=fun (l2,i3)=>cond (decide (i3 < (l1.length:Int))) ((aa l2 i3).bind fun x4=>(aa xb x4.1).bind fun x5=>(aa l2 i3).bind fun x6=>(some (l2.set i3.toNat (x5,x6.2))).bind fun z7=>some (.inl ((z7,IntKind.wrap .i64 (i3 + 1))))) (some (.inr (l2)))
def iJ (xa:Tq3) (xb:(List Int)):Option ((Tq3×Int)) :=
 (iD xa (xb.length:Int)).bind fun t1=>cond (!t1) (some (([],7))) ((kb xa).bind fun l2=>(loop (ix xb l2) (l2,0)).bind fun l3=>some ((l3,0)))
def Dv:Hn Tryz.prog := .cl tR [] (.tw 13 .nil (.cl CD [] (.jn [] ⟨[(16,.any),(18,.any)],[bkC 6 26 [.own 72 Yq3]]⟩ [6,4,0] (.lp ⟨[(18,.own 72 Yq3),kdI 20],[bkC 6 26 [.al 0]]⟩ (.tw 21 (.mix [] [0,1,2,3,4,5,6,7,8,9] [10] [] .nil) .nil)) .nil)))
def B6:Spec:=⟨102,⟨[(0,.dat Yq7),(1,.dat (.sl Yq4))],[]⟩,[⟨[(0,.tup [.agg [.own 72 Yq3],.dat Yq4])],[]⟩],fun x=>iJ x.1 x.2⟩
def uk:OkSpec Tryz.prog:=⟨B6,ae func102 Dv (by kernel_rfl) (by kernel_rfl),call102⟩
def jX (xa:Tq4) (xb:(List Int)):Tq8→Option (Tq8⊕(List Tq2)):=fun (l1,i2)=>cond (decide (i2 < (xa.2.1.length:Int))) ((aa xa.2.1 i2).bind fun x3=>(aa xb x3.1).bind fun x4=>(aa xb x3.2).bind fun x5=>(app l1 (([(x4,x5,4,i2,false)]:List Tq2))).bind fun z6=>some (.inl ((z6,IntKind.wrap .i64 (i2 + 1))))) (some (.inr (l1)))
def iC (xa:Tq4) (xb:(List Int)) (xc:(List Tq3)):Tq8→Option (Tq8⊕(List Tq2)):=fun (l1,i2)=>cond (decide (i2 < (xa.2.2.1.length:Int))) ((aa xa.2.2.1 i2).bind fun x3=>(iJ x3 xb).bind fun (l4,i5)=>(aa xc i2).bind fun x6=>(eL x6 l4 5 (IntKind.wrap .i64 (16 * i2))).bind fun (l7,i8)=>(app l1 l7).bind fun z9=>some (.inl ((z9,IntKind.wrap .i64 (i2 + 1))))) (some (.inr (l1)))
def iK (xa:Tq4) (xb:(List Int)) (xc:(List Tq3)) (xd:Tq3):Option (Tq8) :=
 (mN (xa.1,xa.2.1,xa.2.2.1,xa.2.2.2) xb xc xd).bind fun i1=>cond (!decide (i1=0)) (some (([],i1))) ((loop (jX xa xb) ([],0)).bind fun l2=>(loop (iC xa xb xc) (l2,0)).bind fun l3=>(iJ xa.2.2.2 xb).bind fun (l4,i5)=>(eL l4 xd 6 0).bind fun (l6,i7)=>(app l3 l6).bind fun z8=>some ((z8,0)))
def CW:Hn Tryz.prog := .cl AC [] (.tw 30 .nil (.jn [] ⟨[(11,.own 103 Yq2)],[]⟩ [] (.lp ⟨[(11,.own 103 Yq2),kdI 35],[]⟩ (.tw 36 (.mix [([0,1,2,3,4,5,6,7,8,9,10,11,12],13)] [] [14,15] [] .nil) .nil)) (.jn [] ⟨[(11,.own 103 Yq2)],[]⟩ [4] (.lp ⟨[(11,.own 103 Yq2),kdI 59],[]⟩ (.tw 60 (.cl uk [] (.per 11 12 (.mix [([0,1,2,3,4,5,6],7)] [8,9,10,11,12] [] [] (.cl ma [] .nil)))) .nil)) (.cl uk [] (.per 8 9 (.cl ma [] .nil))))))
def BX:Spec:=⟨83,⟨[(0,.dat Yq5),(1,.dat (.sl Yq4)),(2,.dat (.sl Yq7)),(3,.dat Yq7)],[]⟩,[⟨[(0,.tup [.own 103 Yq2,.dat Yq4])],[]⟩],fun x=>iK x.1 x.2.1 x.2.2.1 x.2.2.2⟩
def BK:OkSpec Tryz.prog:=⟨BX,ae func83 CW (by kernel_rfl) (by kernel_rfl),call83⟩
def fS (xa:Tq5) (xb:hO):((List Tq3)×Int)→Option (((List Tq3)×Int)⊕(List Tq3)):=fun (l1,i2)=>cond (decide (i2 < (xa.2.2.2.2.1.length:Int))) ((aa xa.2.2.2.2.1 i2).bind fun x3=>(aa xb.2.2.1 x3).bind fun x4=>(app l1 (([x4]:List Tq3))).bind fun z5=>some (.inl ((z5,IntKind.wrap .i64 (i2 + 1))))) (some (.inr (l1)))
def bV (xa:Tq5) (xb:hO):Option (Tq8) :=
 (fW (xa.1,xa.2.1,xa.2.2.1,xa.2.2.2.1,xa.2.2.2.2.1,xa.2.2.2.2.2)).bind fun i1=>cond (!decide (i1=0)) (some (([],i1))) ((jV (xa.1,xa.2.1,xa.2.2.1,xa.2.2.2.1,xa.2.2.2.2.1,xa.2.2.2.2.2) (xb.1,xb.2.1,xb.2.2.1,xb.2.2.2.1,xb.2.2.2.2)).bind fun t2=>cond (!t2) (some (([],7))) (cond (decide (xa.1=3)) (cond (decide ((xb.2.2.1.length:Int)=0)) (some (([],14))) ((aa xb.2.2.1 0).bind fun x3=>(eL x3 xb.2.2.2.1 7 0).bind fun (l4,i5)=>some ((l4,i5)))) (cond (decide (xa.1=4)) ((loop (fS xa xb) ([],0)).bind fun l6=>(aa xb.2.2.2.2 xa.2.1).bind fun x7=>(aa xb.2.2.1 xa.2.2.1).bind fun x8=>(iK (x7.1,x7.2.1,x7.2.2.1,x7.2.2.2) xa.2.2.2.2.2 l6 x8).bind fun (l9,i10)=>some ((l9,i10))) (some (([],0))))))
def BE:Hn Tryz.prog := .cl CM [] (.tw 13 .nil (.cl Af [] (.tw 18 .nil (.tw 21 (.tw 26 .nil (.mix [([0,1,2,3,4,5],6)] [7,8,9,10] [] [] (.cl ma [] .nil))) (.tw 36 (.jn [] ⟨[(7,.own 26 Yq7)],[]⟩ [] (.lp ⟨[(7,.own 26 Yq7),kdI 41],[]⟩ (.tw 42 .nil .nil)) (.mix [([0,1,2,3,4,5,6,7,8,9,10,11,12,13,14],15)] [16,17,18,19] [] [4] (.per 4 5 (.cl BK [] .nil)))) .nil)))))
def CH:Spec:=⟨59,⟨[(0,.dat Yq6),(1,.dat mo)],[]⟩,[⟨[(0,.tup [.own 103 Yq2,.dat Yq4])],[]⟩],fun x=>bV x.1 x.2⟩
def tU:OkSpec Tryz.prog:=⟨CH,ae func59 BE (by kernel_rfl) (by kernel_rfl),call59⟩

def jZ (xa:Tq5) (xb:hO):Option Int :=
 (bV (xa.1,xa.2.1,xa.2.2.1,xa.2.2.2.1,xa.2.2.2.2.1,xa.2.2.2.2.2) (xb.1,xb.2.1,xb.2.2.1,xb.2.2.2.1,xb.2.2.2.2)).bind fun (l19,i20)=>some (i20)
def CL:Hn Tryz.prog := .cl tU [] .nil
def Dn:Spec:=⟨92,⟨[(0,.dat Yq6),(1,.dat mo)],[]⟩,[⟨[kdI 0],[]⟩],fun x=>jZ x.1 x.2⟩
def C1:OkSpec Tryz.prog:=⟨Dn,ae func92 CL (by kernel_rfl) (by kernel_rfl),call92⟩
def eh (xa:Tq1) (i1:Int) (x2:((List Tq2)×Tq5)):Int→Option (Int⊕(Unit⊕(Int⊕(Unit⊕Tq6)))):=fun i3=>cond (decide (i3 < (x2.1.length:Int))) ((aa x2.1 i3).bind fun x4=>(aW 1 1).bind fun _=>(j4 (x4.1,x4.2.1,x4.2.2.1,x4.2.2.2.1,x4.2.2.2.2) xa.2.2.2.1 xa.2.1).bind fun i5=>cond (!decide (i5=0)) (some (.inr ((.inr (.inr ((.inr ((i5,6,i1,i3))))))))) (some (.inl (IntKind.wrap .i64 (i3 + 1))))) (some (.inr ((.inl ()))))
def ek (xa:Tq1):Int→Option (Int⊕(Unit⊕Tq6)):=fun i1=>cond (decide (i1 < (xa.2.2.2.2.2.2.length:Int))) ((aa xa.2.2.2.2.2.2 i1).bind fun x2=>(loop (eh xa i1 x2) 0).bind fun o=>match o with | .inr r=>some r | .inl ()=>(aW 1 1).bind fun _=>(jZ (x2.2.1,x2.2.2.1,x2.2.2.2.1,x2.2.2.2.2.1,x2.2.2.2.2.2.1,x2.2.2.2.2.2.2) (((xa.2.2.2.2.2.2.length:Int),xa.2.1,xa.2.2.2.1,xa.2.2.2.2.1,xa.2.2.2.2.2.1))).bind fun i3=>cond (!decide (i3=0)) (some (.inr ((.inr ((i3,7,i1,0)))))) (some (.inl (IntKind.wrap .i64 (i1 + 1))))) (some (.inr ((.inl ()))))
def cX (xa:Tq1):Option Tq6 :=
 (loop (ek xa) 0).bind fun o=>match o with | .inr r=>some r | .inl ()=>some ((0,0,0,0))
def B5:Hn Tryz.prog := .jx [] ⟨[],[bkC 2 111 [.lit (.int .i64 0),.lit (.int .i64 0),.lit (.int .i64 0),.lit (.int .i64 0)]]⟩ [2] (.lp ⟨[kdI 27],[bkC 2 111 [.lit (.int .i64 0),.lit (.int .i64 0),.lit (.int .i64 0),.lit (.int .i64 0)]]⟩ (.tw 28 (.pl (.pl (.jx [] ⟨[],[bkC 2 111 [.lit (.int .i64 0),.lit (.int .i64 0),.lit (.int .i64 0),.lit (.int .i64 0)]]⟩ [2] (.lp ⟨[kdI 35],[bkC 2 111 [.lit (.int .i64 0),.lit (.int .i64 0),.lit (.int .i64 0),.lit (.int .i64 0)]]⟩ (.tw 36 (.cl dZ [] (.cl Bu [] (.tw 49 .nil .nil))) .nil)) (.cl dZ [] (.cl C1 [] (.tw 62 .nil .nil)))))) .nil)) .nil
def CI:Spec:=⟨75,⟨[(0,.dat Yq1),(1,.nilp)],[]⟩,[⟨[(0,.agg [.dat Yq4,.dat Yq4,.dat Yq4,.dat Yq4])],[]⟩],fun x=>cX x⟩
def Do:OkSpec Tryz.prog:=⟨CI,ae func75 B5 (by kernel_rfl) (by kernel_rfl),call75⟩

def dD (xa:Tq1):Option Tq6 :=
 (aW 1 1).bind fun _=>(eE xa).bind fun (i1,i2,i3,i4)=>cond (!decide (i1=0)) (some ((i1,i2,i3,i4))) ((ew xa).bind fun (i5,i6,i7,i8)=>cond (!decide (i5=0)) (some ((i5,i6,i7,i8))) ((eA xa).bind fun (i9,i10,i11,i12)=>cond (!decide (i9=0)) (some ((i9,i10,i11,i12))) ((cZ xa).bind fun (i13,i14,i15,i16)=>cond (!decide (i13=0)) (some ((i13,i14,i15,i16))) ((eF xa).bind fun (i17,i18,i19,i20)=>cond (!decide (i17=0)) (some ((i17,i18,i19,i20))) ((er xa).bind fun (i21,i22,i23,i24)=>cond (!decide (i21=0)) (some ((i21,i22,i23,i24))) ((cX xa).bind fun (i25,i26,i27,i28)=>cond (!decide (i25=0)) (some ((i25,i26,i27,i28))) (some ((0,0,0,0)))))))))
def BP:Hn Tryz.prog := .cl dZ [] (.un 64 (.cl Ad [] (.tw 24 .nil (.cl zV [] (.tw 24 .nil (.cl Ay [] (.tw 24 .nil (.cl Ag [] (.tw 24 .nil (.cl BW [] (.tw 24 .nil (.cl C6 [] (.tw 24 .nil (.cl Do [] (.tw 24 .nil .nil)))))))))))))))
def Bd:Spec:=⟨55,⟨[(0,.dat Yq1),(1,.nilp)],[]⟩,[⟨[(0,.agg [.dat Yq4,.dat Yq4,.dat Yq4,.dat Yq4])],[]⟩],fun x=>dD x⟩
def Bh:OkSpec Tryz.prog:=⟨Bd,ae func55 BP (by kernel_rfl) (by kernel_rfl),call55⟩

def ki (xa:Tq1):Option Bool :=
 (dD xa).bind fun (i15,i17,i18,i19)=>some (decide (i15=0))
def CU:Hn Tryz.prog := .cl Bh [] .nil
def AS:Spec:=⟨34,⟨[(0,.dat Yq1)],[]⟩,[⟨[kdB 0],[]⟩],fun x=>ki x⟩
def CO:OkSpec Tryz.prog:=⟨AS,ae func34 CU (by kernel_rfl) (by kernel_rfl),call34⟩
def iu (xa:Tq1):(Int×(List Int)×Int)→Option ((Int×(List Int)×Int)⊕((List Int)×Int)):=fun (i1,l2,i3)=>cond (decide (i1 < (xa.2.2.2.2.2.2.length:Int))) ((aa xa.2.2.2.2.2.2 i1).bind fun x4=>(app l2 ([i3]:List Int)).bind fun z5=>some (.inl ((IntKind.wrap .i64 (i1 + 1),z5,IntKind.wrap .i64 (i3 + (IntKind.wrap .i64 ((x4.1.length:Int) + 1))))))) (some (.inr (((l2,i3)))))
def db (xa:Tq1):Option (cW) :=
 (ki xa).bind fun t1=>cond (!t1) (some ((some ([],0)))) ((loop (iu xa) (0,[],0)).bind fun (l2,i3)=>some ((some (l2,i3))))
def BM:Hn Tryz.prog := .cl CO [] (.tw 10 (.perb 2 3 (.cons (.sl Yq4) (.one Yq4)) .nil) (.jn [] ⟨[],[bkC 2 98 [.own 3 Yq4,.dat Yq4]]⟩ [2,0] (.lp ⟨[kdI 15],[bkC 2 98 [.own 3 Yq4,.dat Yq4]]⟩ (.tw 16 (.mix [([0,1,2,3,4,5,6,7,8],9),([],10)] [11,12] [13] [4] (.mix [] [0,1,2,3,4,5,6,7,8,9,10] [11] [] .nil)) .nil)) (.per 4 5 (.perb 2 6 (.cons (.sl Yq4) (.one Yq4)) .nil))))
def zF:Spec:=⟨21,⟨[(0,.dat Yq1)],[]⟩,[⟨[(0,.dat Yq9)],[]⟩],fun x=>db x⟩
def uh:OkSpec Tryz.prog:=⟨zF,ae func21 BM (by kernel_rfl) (by kernel_rfl),call21⟩

def dC (xa:cW):Option Int :=
 cond (xa.isNone) (some (0)) (xa.bind fun y11=>some (y11.2))
def BH:Hn Tryz.prog := .tw 4 .nil .nil
def Dj:Spec:=⟨22,⟨[(0,.dat Yq9)],[]⟩,[⟨[kdI 0],[]⟩],fun x=>dC x⟩
def pf:OkSpec Tryz.prog:=⟨Dj,ae func22 BH (by kernel_rfl) (by kernel_rfl),call22⟩

def mG (xa:Int) (qa0:cW) (qb0:Int):Option Bool :=
 qa0.bind fun y1=>(aa y1.1 xa).bind fun x2=>some (decide (qb0 < x2))
def Cc:Hn Tryz.prog := .mix [] [0,1,2,3,4,5,6,7,8,9] [] [] .nil
def B4:Spec:=⟨57,⟨[kdI 0,(1,.ptr 0 0),(2,.ptr 1 0)],[bkN 73 [.is 2 (.dat Yq9)],bkN 3 [.is 3 (.dat Yq4)],bkM,bkM]⟩,[⟨[kdB 0],[bkC 0 73 [.is 2 (.any)],bkC 1 3 [.is 3 (.any)],bkU 2,bkU 3]⟩],fun x=>mG x.1 x.2.1 x.2.2⟩
def B1:OkSpec Tryz.prog:=⟨B4,ae func57 Cc (by kernel_rfl) (by kernel_rfl),call57⟩
def mE (qa0:cW) (qb0:Int):(Int×Int)→Option ((Int×Int)⊕Int):=fun (i1,i2)=>cond (decide (i1 < i2)) ((mG (IntKind.wrap .i64 (Int.fdiv (IntKind.wrap .u64 (IntKind.wrap .i64 (i1 + i2))) (2 ^ (min (Int.toNat 1) (IntKind.bits .u64))))) qa0 qb0).bind fun t3=>cond (!t3) (some (.inl ((IntKind.wrap .i64 ((IntKind.wrap .i64 (Int.fdiv (IntKind.wrap .u64 (IntKind.wrap .i64 (i1 + i2))) (2 ^ (min (Int.toNat 1) (IntKind.bits .u64))))) + 1),i2)))) (some (.inl ((i1,IntKind.wrap .i64 (Int.fdiv (IntKind.wrap .u64 (IntKind.wrap .i64 (i1 + i2))) (2 ^ (min (Int.toNat 1) (IntKind.bits .u64))))))))) (some (.inr (i1)))
def jG (xa:Int) (qa0:cW) (qb0:Int):Option Int :=
 (loop (mE qa0 qb0) (0,xa)).bind fun i97=>some (i97)
def A8:Hn Tryz.prog := .jn [] ⟨[kdI 5],[bkC 0 73 [.is 2 (.any)],bkC 1 3 [.is 3 (.any)],bkU 2,bkU 3]⟩ [0,1] (.lp ⟨[kdI 5,kdI 6],[bkC 0 73 [.is 2 (.any)],bkC 1 3 [.is 3 (.any)],bkU 2,bkU 3]⟩ (.tw 11 (.cl B1 [] (.tw 21 .nil .nil)) .nil)) .nil
def AN:Spec:=⟨56,⟨[kdI 0,(1,.fn 57 [.ptr 0 0,.ptr 1 0])],[bkN 73 [.is 2 (.dat Yq9)],bkN 3 [.is 3 (.dat Yq4)],bkM,bkM]⟩,[⟨[kdI 0],[bkC 0 73 [.is 2 (.any)],bkC 1 3 [.is 3 (.any)],bkU 2,bkU 3]⟩],fun x=>jG x.1 x.2.1 x.2.2⟩
def AI:OkSpec Tryz.prog:=⟨AN,ae func56 A8 (by kernel_rfl) (by kernel_rfl),call56⟩

def fP (xa:cW) (xb:Int):Option Tq9 :=
 cond (decide (xb < 0)) (some ((0,0,false))) ((dC xa).bind fun i1=>cond (decide (i1≤xb)) (some ((0,0,false))) (xa.bind fun y2=>(jG (y2.1.length:Int) (some y2) xb).bind fun i3=>(aa y2.1 (IntKind.wrap .i64 (i3 - 1))).bind fun x4=>some ((IntKind.wrap .i64 (i3 - 1),IntKind.wrap .i64 (xb - x4),true))))
def BA:Hn Tryz.prog := .mix [([0,1,2,3,4],5)] [6,7] [] [] (.two 10 .nil (.cl pf [] (.tw 15 .nil (.wt 1000004 (.mc 0 0 1 (.mc 2 0 3 (.cl AI [] (.mix [] [0,1,2,3,4,5,6,7,8,9,10,11,12] [] [] .nil))))))))
def zP:Spec:=⟨35,⟨[(0,.dat Yq9),kdI 1],[]⟩,[⟨[(0,.tup [.dat Yq4,.dat Yq4,.dat .bool])],[]⟩],fun x=>fP x.1 x.2⟩
def CQ:OkSpec Tryz.prog:=⟨zP,ae func35 BA (by kernel_rfl) (by kernel_rfl),call35⟩

def ij (xa:(Tq1×cW)) (xb:Int) (xc:Int):Option ((List Tq2)) :=
 (aa xa.1.2.2.2.2.2.2 xb).bind fun x1=>cond (decide (xc < (x1.1.length:Int))) ((aa x1.1 xc).bind fun x2=>(cd (x2.1,x2.2.1,x2.2.2.1,x2.2.2.2.1,x2.2.2.2.2) xa.1.2.2.2.1 xa.1.2.1).bind fun (l3,i4)=>some (l3)) ((bV (x1.2.1,x1.2.2.1,x1.2.2.2.1,x1.2.2.2.2.1,x1.2.2.2.2.2.1,x1.2.2.2.2.2.2) (((xa.1.2.2.2.2.2.2.length:Int),xa.1.2.1,xa.1.2.2.2.1,xa.1.2.2.2.2.1,xa.1.2.2.2.2.2.1))).bind fun (l5,i6)=>some (l5))
def Cq:Hn Tryz.prog := .tw 24 (.mix [([0,1,2,3,4,5,6,7,8],9)] [10,11,12,13,14] [] [] (.cl ub [] .nil)) (.cl tU [] .nil)
def Cy:Spec:=⟨36,⟨[(0,.dat (.cons Yq1 (.one Yq9))),kdI 1,kdI 2],[]⟩,[⟨[(0,.own 103 Yq2)],[]⟩],fun x=>ij x.1 x.2.1 x.2.2⟩
def CB:OkSpec Tryz.prog:=⟨Cy,ae func36 Cq (by kernel_rfl) (by kernel_rfl),call36⟩
def mJ (i1:Int) (i2:Int) (l3:(List Tq2)):(Tq7×Int)→Option ((Tq7×Int)⊕Tq7):=fun (l4,i5)=>cond (decide (i5 < (l3.length:Int))) ((aa l3 i5).bind fun x6=>(app l4 (([(x6.1,x6.2.1,(i1,i2,x6.2.2.1,x6.2.2.2.1,x6.2.2.2.2))]:List (Int×Int×Tq2)))).bind fun z7=>some (.inl ((z7,IntKind.wrap .i64 (i5 + 1))))) (some (.inr (l4)))
def ir (xa:(Tq1×cW)) (xb:Int):Option (Tq7) :=
 (fP xa.2 xb).bind fun (i1,i2,t3)=>cond (!t3) (some ([])) ((ij ((xa.1,xa.2)) i1 i2).bind fun l4=>(loop (mJ i1 i2 l4) ([],0)).bind fun l5=>some (l5))
def Cf:Hn Tryz.prog := .cl CQ [] (.tw 21 .nil (.cl CB [] (.jn [] ⟨[(8,.own 51 Yq8)],[]⟩ [0] (.lp ⟨[(8,.own 51 Yq8),kdI 27],[]⟩ (.tw 28 .nil .nil)) .nil)))
def CV:Spec:=⟨23,⟨[(0,.dat (.cons Yq1 (.one Yq9))),kdI 1],[]⟩,[⟨[(0,.own 51 Yq8)],[]⟩],fun x=>ir x.1 x.2⟩
def CS:OkSpec Tryz.prog:=⟨CV,ae func23 Cf (by kernel_rfl) (by kernel_rfl),call23⟩
def pz (p1:cW) (i2:Int) (i3:Int) (l4:(List (Int×Int))) (l5:(List Tq3)) (l6:Tq3) (l7:(List Tq4)) (l8:(List ((List Tq2)×Tq5))) (i9:Int):(Tq7×Int)→Option ((Tq7×Int)⊕Tq7):=fun (l10,i11)=>cond (decide (i11 < i9)) ((ir (((i2,i3,l4,l5,l6,l7,l8),p1)) i11).bind fun l12=>(app l10 l12).bind fun z13=>some (.inl ((z13,IntKind.wrap .i64 (i11 + 1))))) (some (.inr (l10)))
def bU (xa:Tq1):Option (Tq7) :=
 (((db xa).bind fun p1=>some ((xa.1,xa.2.1,xa.2.2.1,xa.2.2.2.1,xa.2.2.2.2.1,xa.2.2.2.2.2.1,xa.2.2.2.2.2.2,p1))).bind fun x2=>((db xa).bind fun p3=>some ((xa.1,xa.2.1,xa.2.2.1,xa.2.2.2.1,xa.2.2.2.2.1,xa.2.2.2.2.2.1,xa.2.2.2.2.2.2,p3))).bind fun y4=>agr x2 y4 (some x2):Option ((Int×Int×(List (Int×Int))×(List Tq3)×Tq3×(List Tq4)×(List ((List Tq2)×Tq5))×cW))).bind fun (i5,i6,l7,l8,l9,l10,l11,p12)=>(dC p12).bind fun i13=>(loop (pz p12 i5 i6 l7 l8 l9 l10 l11 i13) ([],0)).bind fun l14=>(dC p12).bind fun i15=>(aW 3 (IntKind.wrap .i64 (i15 + (l14.length:Int)))).bind fun _=>some (l14)
def C9:Hn Tryz.prog := .tr (.still [0,1] (.alt 2 (.still [3] (.alt 4 (.alt 5 (.leaf []) .done) .done)) (.alt 4 (.alt 2 (.still [3] (.alt 5 (.leaf []) .done)) .done) .done))) ⟨[(5,.ptr 0 0)],[bkN 76 [.dat Yq4,.dat Yq4,.dat (.sl (.cons Yq4 (.one Yq4))),.dat (.sl Yq7),.dat (.sl Yq3),.dat (.sl Yq5),.dat (.sl (.cons (.sl Yq2) (.one Yq6))),.dat Yq9]]⟩ [] (.two 0 (.cl uh [] .nil) (.cl uh [] .nil)) (.cl pf [] (.jn [] ⟨[(6,.own 51 Yq8)],[]⟩ [0] (.lp ⟨[(6,.own 51 Yq8),kdI 15],[]⟩ (.tw 16 (.cl CS [] .nil) .nil)) (.cl pf [] (.cl dZ [] .nil))))
def BL:Spec:=⟨7,⟨[(0,.dat Yq1),(1,.nilp)],[]⟩,[⟨[(0,.own 51 Yq8)],[]⟩],fun x=>bU x⟩
def mr:OkSpec Tryz.prog:=⟨BL,ae func7 C9 (by kernel_rfl) (by kernel_rfl),call7⟩
def iv (i1:Int) (x2:((List Tq2)×Tq5)):((List Tq9)×Int)→Option (((List Tq9)×Int)⊕(List Tq9)):=fun (l3,i4)=>cond (decide (i4≤(x2.1.length:Int))) ((app l3 (([(i1,i4,decide (i4=(x2.1.length:Int)))]:List Tq9))).bind fun z5=>some (.inl ((z5,IntKind.wrap .i64 (i4 + 1))))) (some (.inr (l3)))
def iz (xa:Tq1):((List Tq9)×Int)→Option (((List Tq9)×Int)⊕(List Tq9)):=fun (l1,i2)=>cond (decide (i2 < (xa.2.2.2.2.2.2.length:Int))) ((aa xa.2.2.2.2.2.2 i2).bind fun x3=>(loop (iv i2 x3) (l1,0)).bind fun l4=>some (.inl ((l4,IntKind.wrap .i64 (i2 + 1))))) (some (.inr (l1)))
def dG (xa:Tq1):Option ((List Tq9)) :=
 (dI xa).bind fun t1=>cond (!t1) (some (([]:List Tq9))) ((loop (iz xa) ((([]:List Tq9),0))).bind fun l2=>some (l2))
def A6:Hn Tryz.prog := .cl tX [] (.tw 10 .nil (.jn [] ⟨[(3,.own 55 (.cons Yq4 Yq3)),(7,.any)],[]⟩ [2] (.lp ⟨[(3,.own 55 (.cons Yq4 Yq3)),kdI 4],[]⟩ (.tw 16 (.pl (.pl (.jn [] ⟨[(3,.own 55 (.cons Yq4 Yq3))],[]⟩ [4] (.lp ⟨[(3,.own 55 (.cons Yq4 Yq3)),kdI 6],[]⟩ (.tw 28 .nil .nil)) .nil))) .nil)) .nil))
def AO:Spec:=⟨9,⟨[(0,.dat Yq1)],[]⟩,[⟨[(0,.own 55 (.cons Yq4 Yq3))],[]⟩],fun x=>dG x⟩
def Bl:OkSpec Tryz.prog:=⟨AO,ae func9 A6 (by kernel_rfl) (by kernel_rfl),call9⟩
def jY (xb:Tq9) (l1:(List Tq2)):(Tq7×Int)→Option ((Tq7×Int)⊕Tq7):=fun (l2,i3)=>cond (decide (i3 < (l1.length:Int))) ((aa l1 i3).bind fun x4=>(aa l1 i3).bind fun x5=>(aa l1 i3).bind fun x6=>(aa l1 i3).bind fun x7=>(aa l1 i3).bind fun x8=>(app l2 (([(x4.1,x5.2.1,(xb.1,xb.2.1,x6.2.2.1,x7.2.2.2.1,x8.2.2.2.2))]:List (Int×Int×Tq2)))).bind fun z9=>some (.inl ((z9,IntKind.wrap .i64 (i3 + 1))))) (some (.inr (l2)))
def iL (xa:Tq1) (xb:Tq9):Option (Tq7) :=
 (aa xa.2.2.2.2.2.2 xb.1).bind fun x1=>(cond (xb.2.2) ((bj (x1.2.1,x1.2.2.1,x1.2.2.2.1,x1.2.2.2.2.1,x1.2.2.2.2.2.1,x1.2.2.2.2.2.2) (((xa.2.2.2.2.2.2.length:Int),xa.2.1,xa.2.2.2.1,xa.2.2.2.2.1,xa.2.2.2.2.2.1))).bind fun (l2,i3)=>some (l2)) ((aa x1.1 xb.2.1).bind fun x4=>(a8 (x4.1,x4.2.1,x4.2.2.1,x4.2.2.2.1,x4.2.2.2.2) xa.2.2.2.1 xa.2.1).bind fun (l5,i6)=>some (l5)):Option ((List Tq2))).bind fun l7=>(loop (jY xb l7) ((([]:List (Int×Int×Tq2)),0))).bind fun l8=>some (l8)
def Dp:Hn Tryz.prog := .pl (.pl (.pl (.sq [] ⟨[(6,.own 93 Yq2)],[]⟩ [] (.tw 18 (.cl tS [] .nil) (.mix [([0,1,2,3,4,5,6,7,8,9],10)] [11,12,13,14] [] [] (.cl tV [] .nil))) (.jn [] ⟨[(8,.own 51 Yq8),(52,.any)],[]⟩ [11,7,4,0] (.lp ⟨[(8,.own 51 Yq8),kdI 9],[]⟩ (.tw 56 (.mix [([0,1,2,3,4,5,6,7,8,9,10,11,12,13,14,15,16,17,18,19,20,21,22,23,24,25,26,27,28,29,30,31],32)] [] [33,34] [] .nil) .nil)) .nil))))
def AP:Spec:=⟨16,⟨[(0,.dat Yq1),(1,.dat (.cons Yq4 Yq3))],[]⟩,[⟨[(0,.own 51 Yq8)],[]⟩],fun x=>iL x.1 x.2⟩
def A1:OkSpec Tryz.prog:=⟨AP,ae func16 Dp (by kernel_rfl) (by kernel_rfl),call16⟩
def iB (xa:Tq1) (l1:(List Tq9)):(Tq7×Int)→Option ((Tq7×Int)⊕Tq7):=fun (l2,i3)=>cond (decide (i3 < (l1.length:Int))) ((aa l1 i3).bind fun x4=>(iL xa (x4.1,x4.2.1,x4.2.2)).bind fun l5=>(app l2 l5).bind fun z6=>some (.inl ((z6,IntKind.wrap .i64 (i3 + 1))))) (some (.inr (l2)))
def dJ (xa:Tq1):Option (Tq7) :=
 (dG xa).bind fun l1=>(loop (iB xa l1) ((([]:List (Int×Int×Tq2)),0))).bind fun l2=>some (l2)
def Cw:Hn Tryz.prog := .cl Bl [] (.jn [] ⟨[(4,.own 51 Yq8),(8,.any)],[]⟩ [4] (.lp ⟨[(4,.own 51 Yq8),kdI 5],[]⟩ (.tw 12 (.mix [([0,1,2,3,4,5],6)] [] [7,8] [] (.cl A1 [] .nil)) .nil)) .nil)
def zU:Spec:=⟨8,⟨[(0,.dat Yq1)],[]⟩,[⟨[(0,.own 51 Yq8)],[]⟩],fun x=>dJ x⟩
def Aw:OkSpec Tryz.prog:=⟨zU,ae func8 Cw (by kernel_rfl) (by kernel_rfl),call8⟩

def jT (xa:(Int×Int)):Option (List UInt8) :=
 cond ((decide (xa.1 < 0))||(decide (xa.2 < 0))) (some (([]:List UInt8))) ((cz xa.1).bind fun s1=>(app s1 ([58]:List UInt8)).bind fun z2=>(cz xa.2).bind fun s3=>(app z2 s3).bind fun z4=>some (z4))
def As:Hn Tryz.prog := .gp 3 (.tw 10 .nil (.mix [([0,1,4,5],2),([3],6)] [7,8] [] [] (.cl iw [] (.cl iw [] .nil))))
def zC:Spec:=⟨37,⟨[(0,.dat (.cons Yq4 (.one Yq4)))],[]⟩,[⟨[(0,.dat .str)],[]⟩],fun x=>jT x⟩
def AR:OkSpec Tryz.prog:=⟨zC,ae func37 As (by kernel_rfl) (by kernel_rfl),call37⟩

def mQ (xa:Int):Option Bool :=
 some ((decide (1≤xa))&&(decide (xa≤7)))
def BD:Hn Tryz.prog := .gp 2 .nil
def Bn:Spec:=⟨33,⟨[kdI 0],[]⟩,[⟨[kdB 0],[]⟩],fun x=>mQ x⟩
def Bs:OkSpec Tryz.prog:=⟨Bn,ae func33 BD (by kernel_rfl) (by kernel_rfl),call33⟩

def fU (xa:Tq2):Option Bool :=
 (cond (((decide (0≤xa.1))&&(decide (0≤xa.2.1)))&&(decide (0≤xa.2.2.2.1))) ((mQ xa.2.2.1).bind fun t38=>some (t38)) (some (false))).bind fun t34=>some (t34)
def Ca:Hn Tryz.prog := .gp 3 (.wt 11 (.gp 3 (.wt 16 (.gj 3 ⟨[kdB 20],[]⟩ [] (.two 16 (.cl Bs [] .nil) .nil) .nil))))
def C0:Spec:=⟨18,⟨[(0,.dat Yq2)],[]⟩,[⟨[kdB 0],[]⟩],fun x=>fU x⟩
def tQ:OkSpec Tryz.prog:=⟨C0,ae func18 Ca (by kernel_rfl) (by kernel_rfl),call18⟩

def j9 (xa:Int):Option (List UInt8) :=
 cond (decide (xa=1)) (some (([102,108,111,119]:List UInt8))) (cond (decide (xa=2)) (some (([108,111,97,110]:List UInt8))) (cond (decide (xa=3)) (some (([98,97,115,101]:List UInt8))) (cond (decide (xa=4)) (some (([110,101,101,100]:List UInt8))) (cond (decide (xa=5)) (some (([112,97,115,115]:List UInt8))) (cond (decide (xa=6)) (some (([103,105,118,101]:List UInt8))) (cond (decide (xa=7)) (some (([111,117,116]:List UInt8))) (some (([63]:List UInt8)))))))))
def CT:Hn Tryz.prog := .tw 4 .nil (.tw 6 .nil (.tw 8 .nil (.tw 10 .nil (.tw 12 .nil (.tw 14 .nil (.tw 16 .nil .nil))))))
def AV:Spec:=⟨61,⟨[kdI 0],[]⟩,[⟨[(0,.dat .str)],[]⟩],fun x=>j9 x⟩
def BZ:OkSpec Tryz.prog:=⟨AV,ae func61 CT (by kernel_rfl) (by kernel_rfl),call61⟩

def j8 (xa:Tq2):Option (List UInt8) :=
 (fU (xa.1,xa.2.1,xa.2.2.1,xa.2.2.2.1,xa.2.2.2.2)).bind fun t1=>cond (!t1) (some (([63]:List UInt8))) ((cz xa.1).bind fun s2=>(app s2 ([46]:List UInt8)).bind fun z3=>(cz xa.2.1).bind fun s4=>(app z3 s4).bind fun z5=>(j9 xa.2.2.1).bind fun s6=>(cz xa.2.2.2.1).bind fun s7=>cond (xa.2.2.2.2) ((app (([z5,s6,s7]:List (List UInt8))) (([([98,97,99,107]:List UInt8)]:List (List UInt8)))).bind fun z9=>(fx z9 ([32]:List UInt8)).bind fun s10=>some (s10)) ((fx (([z5,s6,s7]:List (List UInt8))) ([32]:List UInt8)).bind fun s11=>some (s11)))
def AY:Hn Tryz.prog := .cl tQ [] (.tw 6 .nil (.mix [([0,1,4,5,8,9,11,12],2),([3],6),([7],10),([],13),([],14)] [15] [] [] (.cl iw [] (.cl iw [] (.cl BZ [] (.cl iw [] (.tw 23 (.cl sA [6] .nil) (.cl sA [2] .nil))))))))
def Bz:Spec:=⟨38,⟨[(0,.dat Yq2)],[]⟩,[⟨[(0,.dat .str)],[]⟩],fun x=>j8 x⟩
def AZ:OkSpec Tryz.prog:=⟨Bz,ae func38 AY (by kernel_rfl) (by kernel_rfl),call38⟩

def iI (xa:(Int×Int×Tq2)):Option (List UInt8) :=
 (jT (xa.1,xa.2.1)).bind fun s1=>(app s1 ([32,97,116,32]:List UInt8)).bind fun z2=>(j8 (xa.2.2.1,xa.2.2.2.1,xa.2.2.2.2.1,xa.2.2.2.2.2.1,xa.2.2.2.2.2.2)).bind fun s3=>(app z2 s3).bind fun z4=>some (z4)
def Bp:Hn Tryz.prog := .mix [([0,1,2,3,4,7,8],5),([6],9)] [10,11] [] [] (.cl AR [] (.cl AZ [] .nil))
def Dx:Spec:=⟨27,⟨[(0,.dat Yq8)],[]⟩,[⟨[(0,.dat .str)],[]⟩],fun x=>iI x⟩
def Av:OkSpec Tryz.prog:=⟨Dx,ae func27 Bp (by kernel_rfl) (by kernel_rfl),call27⟩
def ip (xa:Tq7):((List (List UInt8))×Int)→Option (((List (List UInt8))×Int)⊕(List (List UInt8))):=fun (l1,i2)=>cond (decide (i2 < (xa.length:Int))) ((aa xa i2).bind fun x3=>(iI ((x3.1,x3.2.1,(x3.2.2.1,x3.2.2.2.1,x3.2.2.2.2.1,x3.2.2.2.2.2.1,x3.2.2.2.2.2.2)))).bind fun s4=>(app l1 (([s4]:List (List UInt8)))).bind fun z5=>some (.inl ((z5,IntKind.wrap .i64 (i2 + 1))))) (some (.inr (l1)))
def j5 (xa:Tq7):Option ((List (List UInt8))) :=
 (loop (ip xa) ([],0)).bind fun l1=>some (l1)
def Bx:Hn Tryz.prog := .jn [] ⟨[(3,.own 9 .str)],[]⟩ [] (.lp ⟨[(3,.own 9 .str),kdI 8],[]⟩ (.tw 9 (.cl Av [] .nil) .nil)) .nil
def A4:Spec:=⟨13,⟨[(0,.dat (.sl Yq8))],[]⟩,[⟨[(0,.own 9 .str)],[]⟩],fun x=>j5 x⟩
def AB:OkSpec Tryz.prog:=⟨A4,ae func13 Bx (by kernel_rfl) (by kernel_rfl),call13⟩

def eK  : Option Bool :=
 (bU ((1,3,[],([([(1,false)]:List (Int×Bool)),([(2,false)]:List (Int×Bool))]:List Tq3),([(0,false)]:List (Int×Bool)),[],([(([(1,0,1,0,false)]:List Tq2),(3,0,0,[],[],[]))]:List ((List Tq2)×Tq5))))).bind fun l1=>(j5 l1).bind fun l2=>(cond (decide ((l2.length:Int)=2)) ((aa l2 0).bind fun x3=>some (decide (x3=([50,58,49,32,97,116,32,48,46,48,32,102,108,111,119,32,48]:List UInt8)))) (some (false))).bind fun t4=>(cond (t4) ((aa l2 1).bind fun x5=>some (decide (x5=([49,58,48,32,97,116,32,48,46,49,32,111,117,116,32,48]:List UInt8)))) (some (false))).bind fun t6=>some (t6)
def uK:Hn Tryz.prog := .per 0 1 (.per 2 3 (.per 8 9 (.per 4 5 (.per 6 7 (.per 10 11 (.cl mr [] (.per 15 16 (.cl AB [] (.gj 4 ⟨[kdB 30],[]⟩ [] (.two 25 .nil .nil) (.wt 31 (.gj 4 ⟨[kdB 36],[]⟩ [] (.two 31 .nil .nil) .nil)))))))))))
def pC:Spec:=⟨6,⟨[],[]⟩,[⟨[kdB 0],[]⟩],fun x=>eK⟩
theorem uD:cH Tryz.prog pC:=ae func6 uK (by kernel_rfl) (by kernel_rfl)
def mP:OkSpec Tryz.prog:=⟨pC,uD,call6⟩
def jQ (xa:Tq7) (xb:Tq7):Int→Option (Int⊕(Unit⊕Bool)):=fun i1=>cond (decide (i1 < (xa.length:Int))) ((aa xa i1).bind fun x2=>(aa xb i1).bind fun x3=>cond (!((decide (x2.1=x3.1))&&((decide (x2.2.1=x3.2.1))&&(((decide (x2.2.2.1=x3.2.2.1))&&((decide (x2.2.2.2.1=x3.2.2.2.1))&&((decide (x2.2.2.2.2.1=x3.2.2.2.2.1))&&((decide (x2.2.2.2.2.2.1=x3.2.2.2.2.2.1))&&(x2.2.2.2.2.2.2 == x3.2.2.2.2.2.2))))))))) (some (.inr ((.inr (false))))) (some (.inl (IntKind.wrap .i64 (i1 + 1))))) (some (.inr ((.inl ()))))
def j6 (xa:Tq7) (xb:Tq7):Option Bool :=
 cond (!decide ((xa.length:Int)=(xb.length:Int))) (some (false)) ((loop (jQ xa xb) 0).bind fun o=>match o with | .inr r=>some r | .inl ()=>some (true))
def Db:Hn Tryz.prog := .tw 10 .nil (.jx [] ⟨[],[]⟩ [] (.lp ⟨[kdI 5],[]⟩ (.tw 14 (.mix [] [0,1,2,3,4,5,6,7,8] [] [] (.tw 25 .nil .nil)) .nil)) .nil)
def AT:Spec:=⟨10,⟨[(0,.dat (.sl Yq8)),(1,.dat (.sl Yq8))],[]⟩,[⟨[kdB 0],[]⟩],fun x=>j6 x.1 x.2⟩
def Dd:OkSpec Tryz.prog:=⟨AT,ae func10 Db (by kernel_rfl) (by kernel_rfl),call10⟩
def ig (xa:Tq1) (xb:Int) (xc:Int) (l1:Tq7):(Tq7×Int)→Option ((Tq7×Int)⊕(Tq7⊕Bool)):=fun (l2,i3)=>cond (decide (i3 < (l1.length:Int))) ((aa l1 i3).bind fun x4=>(fU (x4.2.2.1,x4.2.2.2.1,x4.2.2.2.2.1,x4.2.2.2.2.2.1,x4.2.2.2.2.2.2)).bind fun t5=>cond (!t5) (some (.inr ((.inr (false))))) ((aa l1 i3).bind fun x6=>cond (decide (x6.1 < 0)) (some (.inr ((.inr (false))))) ((aa l1 i3).bind fun x7=>cond (decide (xa.2.1≤x7.1)) (some (.inr ((.inr (false))))) ((aa l1 i3).bind fun x8=>cond (decide (x8.2.1 < 0)) (some (.inr ((.inr (false))))) ((aa l1 i3).bind fun x9=>cond (decide (xa.2.1≤x9.2.1)) (some (.inr ((.inr (false))))) (cond (decide ((xa.2.2.2.2.2.2.length:Int)≤x4.2.2.1)) (some (.inr ((.inr (false))))) ((aa xa.2.2.2.2.2.2 x4.2.2.1).bind fun x10=>cond (decide ((x10.1.length:Int) < x4.2.2.2.1)) (some (.inr ((.inr (false))))) (cond (decide (0 < i3)) ((aa l1 (IntKind.wrap .i64 (i3 - 1))).bind fun x11=>cond (decide (x4.2.2.1 < x11.2.2.1)) (some (.inr ((.inr (false))))) ((aa l1 (IntKind.wrap .i64 (i3 - 1))).bind fun x12=>cond (decide (x12.2.2.1=x4.2.2.1)) ((aa l1 (IntKind.wrap .i64 (i3 - 1))).bind fun x13=>cond (decide (x4.2.2.2.1 < x13.2.2.2.1)) (some (.inr ((.inr (false))))) (cond ((!decide (x4.2.2.1=xb))||(!decide (x4.2.2.2.1=xc))) ((aa l1 i3).bind fun x14=>(app l2 (([(x14.1,x14.2.1,(x14.2.2.1,x14.2.2.2.1,x14.2.2.2.2.1,x14.2.2.2.2.2.1,x14.2.2.2.2.2.2))]:List (Int×Int×Tq2)))).bind fun z15=>some (.inl ((z15,IntKind.wrap .i64 (i3 + 1))))) (some (.inl ((l2,IntKind.wrap .i64 (i3 + 1))))))) (cond ((!decide (x4.2.2.1=xb))||(!decide (x4.2.2.2.1=xc))) ((aa l1 i3).bind fun x16=>(app l2 (([(x16.1,x16.2.1,(x16.2.2.1,x16.2.2.2.1,x16.2.2.2.2.1,x16.2.2.2.2.2.1,x16.2.2.2.2.2.2))]:List (Int×Int×Tq2)))).bind fun z17=>some (.inl ((z17,IntKind.wrap .i64 (i3 + 1))))) (some (.inl ((l2,IntKind.wrap .i64 (i3 + 1)))))))) (cond ((!decide (x4.2.2.1=xb))||(!decide (x4.2.2.2.1=xc))) ((aa l1 i3).bind fun x18=>(app l2 (([(x18.1,x18.2.1,(x18.2.2.1,x18.2.2.2.1,x18.2.2.2.2.1,x18.2.2.2.2.2.1,x18.2.2.2.2.2.2))]:List (Int×Int×Tq2)))).bind fun z19=>some (.inl ((z19,IntKind.wrap .i64 (i3 + 1))))) (some (.inl ((l2,IntKind.wrap .i64 (i3 + 1)))))))))))))) (some (.inr (.inl l2)))
def mK (xa:Tq1) (xb:Int) (xc:Int):Option Bool :=
 (eN xa).bind fun t1=>(cond (!t1) (some (true)) ((dI xa).bind fun t2=>some (!t2))).bind fun t3=>cond (t3) ((bU xa).bind fun l4=>(dJ xa).bind fun l5=>cond (decide ((l4.length:Int)=(l5.length:Int))) ((eK).bind fun t6=>some (t6)) (some (false))) ((bU xa).bind fun l7=>(loop (ig xa xb xc l7) ((([]:List (Int×Int×Tq2)),0))).bind fun o=>match o with | .inr r=>some r | .inl l8=>(cond (((decide (xb < 0))||(decide ((xa.2.2.2.2.2.2.length:Int)≤xb)))||(decide (xc < 0))) (some (true)) ((aa xa.2.2.2.2.2.2 xb).bind fun x9=>some (decide ((x9.1.length:Int)≤xc)))).bind fun t10=>cond (t10) ((eK).bind fun t11=>some (t11)) ((app (([]:List ((List Tq2)×Tq5))) xa.2.2.2.2.2.2).bind fun z12=>(aa xa.2.2.2.2.2.2 xb).bind fun x13=>(app (([]:List Tq2)) x13.1).bind fun z14=>(aa z12 xb).bind fun _=>(aa z12 xb).bind fun x15=>(hU xb xb).bind fun _=>(aa z12 xb).bind fun _=>(hU xb xb).bind fun _=>(aa z14 xc).bind fun x16=>(some (z14.set xc.toNat (0,0,0,0,false))).bind fun z17=>(bU ((xa.1,xa.2.1,xa.2.2.1,xa.2.2.2.1,xa.2.2.2.2.1,xa.2.2.2.2.2.1,z12.set xb.toNat ((z17,(x15.2.1,x15.2.2.1,x15.2.2.2.1,x15.2.2.2.2.1,x15.2.2.2.2.2.1,x15.2.2.2.2.2.2)))))).bind fun l18=>(j6 l18 l8).bind fun t19=>(cond (t19) ((eK).bind fun t20=>some (t20)) (some (false))).bind fun t21=>some (t21)))
def uv:Hn Tryz.prog := .cl oQ2 [] (.gj 3 ⟨[kdB 19],[]⟩ [] (.two 15 .nil (.cl tX [] .nil)) (.tw 19 (.mix [([0,3],1),([2],4)] [5,6,7] [8,9,10] [] (.cl mr [] (.cl Aw [] (.two 27 (.cl mP [] .nil) .nil)))) (.cl mr [] (.jx [] ⟨[(8,.own 51 Yq8),(32,.any)],[]⟩ [4] (.lp ⟨[(8,.own 51 Yq8),kdI 9],[]⟩ (.tw 36 (.mix [([0],1)] [2,3,4,5,6,7,8,9,10,11,12,13,14,15,16,17,18,19,20,21,22,23,24,25,26,27,28,29,30,31,32,33,34,35,36,37,38,39,40,41,42,43,44,45,46,47,48,49,50,51,52,53,54,55,56,57,58,59] [] [] (.cl tQ [] (.two 47 .nil (.two 55 .nil (.two 65 .nil (.two 73 .nil (.two 83 .nil (.two 91 .nil (.tw 103 .nil (.mix [] [0,1,2,3,4,5,6,7,8,9,10,11,12,13,14,15,16,17,18,19,20,21,22,23,24,25,26,27,28,29,30,31,32,33,34,35,36,37] [] [] (.two 106 (.two 117 .nil (.two 128 (.tw 141 .nil (.wt 146 (.gp 4 (.tw 151 .nil .nil)))) (.wt 146 (.gp 4 (.tw 151 .nil .nil))))) (.wt 146 (.gp 4 (.tw 151 .nil .nil)))))))))))))) .nil)) (.wt 161 (.gp 5 (.wt 168 (.gp 2 (.wt 172 (.gj 9 ⟨[kdB 182],[]⟩ [] (.two 172 .nil .nil) (.tw 182 (.cl mP [] .nil) (.cls 13 14 (.mix [([0,1,2,4,5,6,7,8,9],3),([],10)] [11,12] [13] [] (.wt 202 (.opn 13 1000001 (.per 19 23 (.cls 13 22 (.per 13 24 (.cl mr [] (.cl Dd [25,6] (.gj 1 ⟨[kdB 218],[]⟩ [] (.two 216 (.cl mP [] .nil) .nil) .nil)))))))))))))))))))))
def py:Spec:=⟨4,⟨[(0,.dat Yq1),kdI 1,kdI 2],[]⟩,[⟨[kdB 0],[]⟩],fun x=>mK x.1 x.2.1 x.2.2⟩
theorem uu:cH Tryz.prog py:=ae func4 uv (by kernel_rfl) (by kernel_rfl)
end
section
section
variable {σ β:Type} {body:σ→Option (σ⊕β)}
theorem bz (st:Nat→σ) (n:Nat) {b:β} (h:∀ k,k < n→body (st k)=some (.inl (st (k + 1)))) (he:body (st n)=some (.inr b)):loop body (st 0)=some b:=by
 have:∀ m k,k + m=n→loop body (st k)=some b:=by
   intro m
   induction m with
   | zero => intro k hk; have : k = n := by omega
             subst this; exact gl he
   | succ m ih=>intro k hk; rw [nj (h k (by omega))]; exact ih (k + 1) (by omega)
 exact this n 0 (by omega)
theorem tz (p:Nat→Prop):∀ n,(∃ k,k < n∧p k∧∀ j,j < k→¬ p j)∨∀ j,j < n→¬ p j
 | 0 => .inr (fun j hj=>by omega)
 | n + 1=>by
   rcases tz p n with ⟨k,h1,h2,h3⟩ | h
   . exact .inl ⟨k,by omega,h2,h3⟩
   . by_cases hp:p n
     . exact .inl ⟨n,by omega,hp,h⟩
     . exact .inr (fun j hj=>if e:j=n then e ▸ hp else h j (by omega))
theorem eY (p:Nat→Prop) (st:Nat→σ) (n:Nat) (hit:Nat→β) (e:β) (hgo:∀ k,k < n→¬ p k→body (st k)=some (.inl (st (k + 1)))) (hhit:∀ k,k < n→p k→body (st k)=some (.inr (hit k))) (hend:body (st n)=some (.inr e)) :
   (∃ k,k < n∧p k∧(∀ j,j < k→¬ p j)∧loop body (st 0)=some (hit k))∨((∀ j,j < n→¬ p j)∧loop body (st 0)=some e):=by
 rcases tz p n with ⟨k,h1,h2,h3⟩ | h
 . exact .inl ⟨k,h1,h2,h3,bz st k (fun j hj=>hgo j (by omega) (h3 j hj)) (hhit k h1 h2)⟩
 . exact .inr ⟨h,bz st n (fun k hk=>hgo k hk (h k hk)) hend⟩
open Classical in
theorem xh (p:Nat→Prop) (st:Nat→σ) (n:Nat) (b e:β) (hgo:∀ k,k < n→¬ p k→body (st k)=some (.inl (st (k + 1)))) (hhit:∀ k,k < n→p k→body (st k)=some (.inr b)) (hend:body (st n)=some (.inr e)) :
   loop body (st 0)=some (if ∃ k,k < n∧p k then b else e):=by
 rcases eY p st n (fun _=>b) e hgo hhit hend with ⟨k,h1,h2,h3,h4⟩ | ⟨h1,h2⟩
 . rw [if_pos ⟨k,h1,h2⟩]; exact h4
 . rw [if_neg (fun ⟨k,h3,h4⟩=>h1 k h3 h4)]; exact h2
end
theorem w64 {x:Int} (h1 : -9223372036854775808≤x) (h2:x≤9223372036854775807):IntKind.wrap .i64 x=x:=by
 rw [IntWalk.i64_left,IntWalk.wrap64_in _ ⟨h1,h2⟩]
theorem ap {k n:Nat} (h:k < n) (hn:n≤9223372036854775807):IntKind.wrap .i64 ((k:Int) + 1)=((k + 1:Nat):Int):=by
 rw [w64 (by omega) (by omega)]; rfl
theorem ai {α:Type} {l:List α} {k:Nat} (h:k < l.length):aa l (k:Int)=some l[k]:=sD rfl h
theorem wh {α γ:Type} (xa:List α) (f:γ→α→γ) (c0:γ) (hn:xa.length≤9223372036854775807) {body:γ×Int→Option ((γ×Int)⊕γ)}
   (hb:∀ k x,xa[k]? = some x→body ((xa.take k).foldl f c0,(k:Int))=some (.inl (f ((xa.take k).foldl f c0) x,IntKind.wrap .i64 ((k:Int) + 1)))) (he:body (xa.foldl f c0,(xa.length:Int))=some (.inr (xa.foldl f c0))):loop body (c0,0)=some (xa.foldl f c0):=by
 have h:=bz (body:=body) (fun k:Nat=>((xa.take k).foldl f c0,(k:Int))) xa.length (b:=xa.foldl f c0) ?_ ?_
 . simpa using h
 . intro k hk
   rw [hb k xa[k] (by simp [hk]),ap hk hn]
   congr 3
   rw [List.take_succ_eq_append_getElem hk,List.foldl_append]; rfl
 . simpa using he
theorem p7 {α γ:Type} (g:α→γ) (xa:List α) (c:List γ):xa.foldl (fun c x=>c++[g x]) c=c++xa.map g:=by
 induction xa generalizing c with
 | nil=>simp
 | cons x xa ih=>simp [ih]
theorem kE {α γ:Type} (xa:List α) (g:α→γ) (c0:List γ) (hn:c0.length + xa.length≤1073741824) {body:List γ×Int→Option ((List γ×Int)⊕List γ)}
   (hb:∀ (c:List γ) (i:Int),body (c,i)=cond (decide (i < ((xa.length:Nat):Int))) ((aa xa i).bind fun x=>(app c [g x]).bind fun z=>some (.inl (z,IntKind.wrap .i64 (i + 1)))) (some (.inr c))):loop body (c0,0)=some (c0++xa.map g):=by
 rw [← p7]
 refine wh xa (fun c x=>c++[g x]) c0 (by omega) (fun k x hx=>?_) ?_
 . have hk:=(List.getElem?_eq_some_iff.1 hx).1
   rw [hb,p7]
   have hx':xa[k]=x:=by rw [List.getElem?_eq_getElem hk] at hx; exact Option.some.inj hx
   have ha:=aD (a:=c0++(xa.take k).map g) (b:=[g x]) (by simp; omega)
   simp only [Option.bind_some,ai hk,hx',ha,Int.ofNat_lt.2 hk,decide_true,cond_true]
 . rw [hb]; simp
end
section
theorem mn {α:Type} {l:List α} {i:Int} (h0:0≤i) (h1:i < (l.length:Nat)):aa l i=some (l[i.toNat]'(by omega)):=by
 unfold aa; rw [if_pos h0]; simp
theorem tN {α:Type} {l:List α} {k:Nat} (h:k + 1 < l.length):aa l ((k:Int) + 1)=some l[k + 1]:=sD rfl h
theorem dlt {k n:Nat} (h:k < n):decide ((k:Int) < (n:Int))=true:=by simp; omega
theorem dge {k n:Nat} (h:¬ k < n):decide ((k:Int) < (n:Int))=false:=by simp; omega
theorem sG {α:Type} [DecidableEq α] (a b:α):(a == b)=decide (a=b):=Bool.beq_eq_decide_eq a b
section
variable {α β γ σ:Type}
theorem wx {body:σ→Option (σ⊕β)} (n:Nat) (st:Nat→σ) (stop:Nat→Option β) (e:β) (h:∀ k,k < n→body (st k)=some (match stop k with | none => .inl (st (k + 1)) | some b => .inr b)) (he:body (st n)=some (.inr e)) :
   loop body (st 0)=some (((List.range n).findSome? stop).getD e):=by
 rcases eY (fun k=>(stop k).isSome=true) st n (fun k=>(stop k).getD e) e (fun k hk hp=>by
     rw [h k hk]; cases hs:stop k with
     | none=>rfl
     | some b=>simp [hs] at hp) (fun k hk hp=>by
     rw [h k hk]; cases hs:stop k with
     | none=>simp [hs] at hp
     | some b=>rfl) he with ⟨k,h1,h2,h3,h4⟩ | ⟨h1,h2⟩
 . rw [h4]
   obtain ⟨b,hb⟩:=Option.isSome_iff_exists.1 h2
   have:(List.range n).findSome? stop=some b:=by
     rw [List.findSome?_eq_some_iff]
     refine ⟨List.range k,k,(List.range' (k + 1) (n - k - 1)),?_,hb,fun a ha=>?_⟩
     . rw [List.range_eq_range',List.range_eq_range',← List.range'_succ (s:=k) (n:=n - k - 1)]
       rw [show n - k - 1 + 1=n - k by omega]
       have:=List.range'_append_1 (s:=0) (m:=k) (n:=n - k)
       rw [Nat.zero_add,show k + (n - k)=n by omega] at this
       exact this.symm
     . have:=h3 a (List.mem_range.1 ha)
       cases hs:stop a with
       | none=>rfl
       | some b=>simp [hs] at this
   rw [this,hb]
 . rw [h2]
   have:(List.range n).findSome? stop=none:=by
     rw [List.findSome?_eq_none_iff]
     intro a ha
     have:=h1 a (List.mem_range.1 ha)
     cases hs:stop a with
     | none=>rfl
     | some b=>simp [hs] at this
   rw [this]; rfl
theorem aL {body:Int→Option (Int⊕β)} (xa:List α) (t:α→Bool) (hit:Nat→β) (e:β) (hb:∀ (k:Nat) (h:k < xa.length),body (k:Int)=some (if t xa[k] then .inr (hit k) else .inl ((k + 1:Nat):Int))) (he:body (xa.length:Int)=some (.inr e)) :
   loop body 0=some (match xa.findIdx? t with | some k=>hit k | none=>e):=by
 rcases eY (fun k=>∃ h:k < xa.length,t xa[k]=true) (fun k:Nat=>(k:Int)) xa.length hit e (fun k hk hp=>by
     rw [hb k hk,if_neg (fun h=>hp ⟨hk,h⟩)]) (fun k hk ⟨_,hp⟩=>by rw [hb k hk,if_pos hp]) he with ⟨k,h1,⟨_,h2⟩,h3,h4⟩ | ⟨h1,h2⟩
 . rw [show ((0:Int))=((0:Nat):Int) from rfl,h4]
   have:xa.findIdx? t=some k:=by
     rw [List.findIdx?_eq_some_iff_getElem]
     exact ⟨h1,h2,fun j hj=>fun hc=>h3 j hj ⟨by omega,by simpa using hc⟩⟩
   rw [this]
 . rw [show ((0:Int))=((0:Nat):Int) from rfl,h2]
   have:xa.findIdx? t=none:=by
     rw [List.findIdx?_eq_none_iff]
     intro x hx
     obtain ⟨k,hk,rfl⟩:=List.getElem_of_mem hx
     cases hc:t xa[k] with
     | false=>rfl
     | true=>exact absurd ⟨hk,hc⟩ (h1 k hk)
   rw [this]
theorem eZ {body:Int→Option (Int⊕β)} (xa:List α) (t:α→Bool) (hit e:β) (hb:∀ (k:Nat) (h:k < xa.length),body (k:Int)=some (if t xa[k] then .inr hit else .inl ((k + 1:Nat):Int))) (he:body (xa.length:Int)=some (.inr e)) :
   loop body 0=some (if xa.any t then hit else e):=by
 rw [aL xa t (fun _=>hit) e hb he]
 cases h:xa.findIdx? t with
 | none =>
   have:xa.any t=false:=by
     rw [List.any_eq_false]; intro x hx; have:=List.findIdx?_eq_none_iff.1 h x hx; simp [this]
   rw [this]; rfl
 | some k =>
   obtain ⟨hk,h1,_⟩:=List.findIdx?_eq_some_iff_getElem.1 h
   have:xa.any t=true:=List.any_eq_true.2 ⟨_,List.getElem_mem hk,h1⟩
   rw [this]; rfl
theorem qu {δ:Type} {body:(γ×Int)→Option ((γ×Int)⊕δ)} (xa:List α) (acc:Nat→γ) (out:δ) (hb:∀ (k:Nat) (h:k < xa.length),body (acc k,(k:Int))=some (.inl (acc (k + 1),((k + 1:Nat):Int)))) (he:body (acc xa.length,(xa.length:Int))=some (.inr out)) :
   loop body (acc 0,0)=some out:=bz (fun k=>(acc k,(k:Int))) xa.length hb he
theorem qk [DecidableEq α] {body:Int→Option (Int⊕β)} (xa xb:List α) (hit e:β) (hl:xa.length=xb.length) (hb:∀ (k:Nat) (h:k < xa.length),body (k:Int)=some (if xa[k]=(xb[k]'(by omega)) then .inl ((k + 1:Nat):Int) else .inr hit)) (he:body (xa.length:Int)=some (.inr e)) :
   loop body 0=some (if xa=xb then e else hit):=by
 rw [aL (List.range xa.length) (fun k=>decide (xa[k]?≠xb[k]?)) (fun _=>hit) e (fun k h=>by
     simp at h
     rw [hb k h]
     have h2:k < xb.length:=by omega
     by_cases hq:xa[k]=xb[k] <;> simp [h,h2,hq]) (by simpa using he)]
 by_cases hq:xa=xb
 . subst hq
   have:(List.range xa.length).findIdx? (fun k=>decide (xa[k]?≠xa[k]?))=none:=by rw [List.findIdx?_eq_none_iff]; simp
   rw [this]; simp
 . cases h:(List.range xa.length).findIdx? (fun k=>decide (xa[k]?≠xb[k]?)) with
   | some k=>simp [hq]
   | none =>
     exfalso; apply hq
     rw [List.findIdx?_eq_none_iff] at h
     apply List.ext_getElem?
     intro k
     by_cases hk:k < xa.length
     . simpa using h k (List.mem_range.2 hk)
     . rw [List.getElem?_eq_none (by omega),List.getElem?_eq_none (by omega)]
theorem f7 {l:List α} {k:Nat} (h:k < l.length):l.take (k + 1)=l.take k++[l[k]]:=List.take_succ_eq_append_getElem h
theorem pa {a b:Nat} (h:a=b):(!decide ((a:Int)=(b:Int)))=false:=by simp [h]
theorem lP {a b:Nat} (h:¬ a=b):(!decide ((a:Int)=(b:Int)))=true:=by simp; omega
end
theorem fI {α:Type} {l:List α} (h:1≤l.length):subL l 1 ((l.length:Nat):Int)=some (l.drop 1):=by
 rw [nO (by omega) (by omega) (by omega)]; simp
end
abbrev St:=Int×Bool
def shp (xa xb:List St):Bool:=decide (xa.map (·.2)=xb.map (·.2))
theorem pQ (xa xb:List St) {body:Int→Option (Int⊕(Unit⊕Bool))} (hl:xa.length=xb.length) (hb:∀ (k:Nat) (h:k < xa.length),body (k:Int)=some (if xa[k].2=(xb[k]'(by omega)).2 then .inl ((k + 1:Nat):Int) else .inr (.inr false))) (he:body (xa.length:Int)=some (.inr (.inl ()))) :
   loop body 0=some (if shp xa xb then .inl () else .inr false):=by
 have:=qk (body:=body) (xa.map (·.2)) (xb.map (·.2)) (.inr false) (.inl ()) (by simp [hl]) (fun k h=>by simpa using hb k (by simpa using h)) (by simpa using he)
 rw [this]; unfold shp
 by_cases h:xa.map (·.2)=xb.map (·.2) <;> simp [h]
theorem nR {xa xb:List St} (h:¬ xa.length=xb.length):shp xa xb=false:=by
 unfold shp; simp only [decide_eq_false_iff_not]
 intro e; exact h (by simpa using congrArg List.length e)
theorem iS {xa xb:List St} (h:shp xa xb=true):xa.length=xb.length:=by
 unfold shp at h; simpa using congrArg List.length (of_decide_eq_true h)
theorem dK (xa xb:List St):shp xa xb=shp xb xa:=by unfold shp; simp only [eq_comm]
theorem oo (xa:List St) (n:Int):eR xa n=some (decide ((xa.length:Int)≤n)):=rfl
theorem iM (xa xb:List St) (hn:xa.length≤1073741824):eM xa xb=some (shp xa xb):=by
 unfold eM
 by_cases hl:xa.length=xb.length
 . rw [pa hl,cond_false,pQ xa xb hl ?_ ?_]
   . cases shp xa xb <;> rfl
   . intro k h; unfold mL
     have h2:k < xb.length:=by omega
     by_cases q:xa[k].2=xb[k].2 <;> simp [ai h,ai h2,h,q,ap h (by omega),sG]
   . simp [mL]
 . rw [lP hl,cond_true,nR hl]
theorem eT (xa xb:List St) (hn:xa.length≤1073741824):cC xa xb=some (shp xa xb):=by
 unfold cC jD
 by_cases hl:xa.length=xb.length
 . rw [pa hl,cond_false,pQ xa xb hl ?_ ?_]
   . cases shp xa xb <;> rfl
   . intro k h; unfold mw mR
     have h2:k < xb.length:=by omega
     by_cases q:xa[k].2=xb[k].2 <;> simp [ai h,ai h2,h,q,ap h (by omega),sG]
   . simp [mw]
 . rw [lP hl,cond_true,nR hl]; rfl
theorem vM (xa:List St) (n:Int) (m:Bool) (hn:xa.length≤1000000000):kj xa n m=some ((n,false) :: xa.map fun x=>(x.1,x.2||m)):=by
 unfold kj
 have:=kE xa (fun x:St=>(x.1,x.2||m)) [(n,false)] (by simp; omega) (body:=pH xa m) (fun c i=>rfl)
 rw [this]; rfl
theorem wc (xa:List St) (n:Int) (m:Bool) (hn:xa.length≤1000000000):ka xa n m=some ((n,false) :: xa.map fun x=>(x.1,x.2||m)):=by
 unfold ka
 have:=kE xa (fun x:St=>(x.1,x.2||m)) [(n,false)] (by simp; omega) (body:=mM xa m) (fun c i=>by
   unfold mM
   cases hg:aa xa i with
   | none=>simp [hg]
   | some x=>cases h2:x.2 <;> simp [hg,h2])
 rw [this]; rfl
theorem qb {α:Type} (xa:List α) (t:α→Bool):(∃ k,xa.findIdx? t=some k∧xa.any t=true)∨(xa.findIdx? t=none∧xa.any t=false):=by
 cases h:xa.findIdx? t with
 | none =>
   refine .inr ⟨rfl,?_⟩
   rw [List.any_eq_false]; intro x hx; have:=List.findIdx?_eq_none_iff.1 h x hx; simp [this]
 | some k =>
   obtain ⟨hk,h1,_⟩:=List.findIdx?_eq_some_iff_getElem.1 h
   exact .inl ⟨k,rfl,List.any_eq_true.2 ⟨_,List.getElem_mem hk,h1⟩⟩
def rin (n:Int) (xa:List St):Bool:=xa.any fun x=>decide (x.1 < 0)||decide (n≤x.1)
def rck (n:Int) (xa:List St):Int:=if 16 < xa.length then 6 else if rin n xa then 7 else 0
def sbs (xb:List Int) (x:St):St:=(xb.getD x.1.toNat 0,x.2)
theorem wm {n:Int} {xa:List St} (h:rin n xa=false) {k:Nat} {x:St} (hx:xa[k]? = some x):0≤x.1∧x.1 < n:=by
 unfold rin at h
 have:=List.any_eq_false.1 h x (List.mem_of_getElem? hx)
 simp at this; omega
theorem kX {xb:List Int} {i:Int} (h:0≤i) (h2:i < (xb.length:Nat)):aa xb i=some (xb.getD i.toNat 0):=by
 unfold aa; rw [if_pos h]
 have:i.toNat < xb.length:=by omega
 simp [this]
theorem pJ (xa:List St) (n:Int) (hn:xa.length≤1073741824):iD xa n=some (!rin n xa):=by
 unfold iD mB mC
 rw [aL (body:=jE xa n) xa (fun x=>decide (x.1 < 0)||decide (n≤x.1)) (fun k => .inr (k:Int)) (.inl ()) ?_ ?_]
 . rcases qb xa (fun x=>decide (x.1 < 0)||decide (n≤x.1)) with ⟨k,h1,h2⟩ | ⟨h1,h2⟩
   . rw [h1]; unfold rin; simp [h2]
   . rw [h1]; unfold rin; simp [h2]
 . intro k hk
   unfold jE mI
   simp only [dlt hk,cond_true,ai hk,Option.bind_some,ap hk (by omega:xa.length≤9223372036854775807)]
   cases (decide (xa[k].1 < 0)||decide (n≤xa[k].1)) <;> rfl
 . simp [jE]
theorem kg (xa:List St) (n:Int) (hn:xa.length≤1073741824):cB xa n=some (rck n xa):=by
 unfold cB rck
 rw [pJ xa n hn]
 by_cases h:16 < xa.length
 . rw [decide_eq_true (by omega),if_pos h]; rfl
 . rw [decide_eq_false (by omega),if_neg h,cond_false]
   cases rin n xa <;> rfl
theorem fY (xa:List St) (n:Int):eJ xa n=some (rck n xa):=by
 unfold eJ rck
 by_cases h:16 < xa.length
 . rw [decide_eq_true (by omega),if_pos h]; rfl
 . rw [decide_eq_false (by omega),if_neg h,cond_false]
   rw [eZ (body:=jO xa n) xa (fun x=>decide (x.1 < 0)||decide (n≤x.1)) (.inr 7) (.inl ()) ?_ ?_]
   . unfold rin; cases (xa.any fun x=>decide (x.1 < 0)||decide (n≤x.1)) <;> rfl
   . intro k hk
     unfold jO
     by_cases q:xa[k].1 < 0 <;> by_cases q2:n≤xa[k].1 <;> simp [hk,ai hk,ap hk (by omega:xa.length≤9223372036854775807),q,q2]
   . simp [jO]
theorem uY (xa:List St) (hn:xa.length≤1073741824):kb xa=some xa:=by
 unfold kb mF
 rw [ye]
 . rw [aD (by simpa using hn)]; simp
 . rintro rfl; rw [aD (by simp)]; rfl
theorem pP (xa:List St) (xb:List Int) (hn:xa.length≤1073741824):iJ xa xb=some (if rin xb.length xa then ([],7) else (xa.map (sbs xb),0)):=by
 unfold iJ
 rw [pJ xa _ hn,Option.bind_some,uY xa hn]
 cases h:rin xb.length xa with
 | true=>simp
 | false =>
   simp only [Bool.not_false,Bool.not_true,cond_false,Option.bind_some,Bool.false_eq_true,if_false]
   have hl:=bz (body:=ix xb xa) (fun k:Nat=>((xa.take k).map (sbs xb)++xa.drop k,(k:Int))) xa.length (b:=xa.map (sbs xb)) ?_ ?_
   . simp only [List.take_zero,List.map_nil,List.nil_append,List.drop_zero] at hl
     have hl':loop (ix xb xa) (xa,0)=some (xa.map (sbs xb)):=hl
     rw [hl']; rfl
   . intro k hk
     have hg:aa ((xa.take k).map (sbs xb)++xa.drop k) (k:Int)=some xa[k]:=by
       rw [ai (by simp; omega)]
       rw [List.getElem_append_right (by simp; omega)]
       simp [List.getElem_drop,Nat.min_eq_left (Nat.le_of_lt hk)]
     have hr:=wm h (k:=k) (x:=xa[k]) (by simp [hk])
     unfold ix
     dsimp only
     rw [hg]
     simp only [Option.bind_some,kX hr.1 hr.2,Int.ofNat_lt.2 hk,decide_true,cond_true,ap hk (by omega:xa.length≤9223372036854775807),Int.toNat_natCast]
     congr 3
     rw [List.take_succ_eq_append_getElem hk,List.drop_eq_getElem_cons hk,List.set_append_right _ _ (by simp; omega)]
     rw [List.length_map,List.length_take,Nat.min_eq_left (Nat.le_of_lt hk),Nat.sub_self,List.set_cons_zero,List.map_append,List.append_assoc]
     rfl
   . simp [ix]
theorem m6 (xa:List St) (xb:List Int) (hn:xa.length≤1073741824):iA xa xb=some (if rin xb.length xa then ([],7) else (xa.map (sbs xb),0)):=by
 unfold iA
 have hl:=eY (body:=im xa xb)
   (fun k=>∃ x,xa[k]? = some x∧(x.1 < 0∨(xb.length:Int)≤x.1)) (fun k:Nat=>((xa.take k).map (sbs xb),(k:Int))) xa.length (fun _ => .inr ([],7)) (.inl (xa.map (sbs xb))) ?_ ?_ ?_
 . simp only [List.take_zero,List.map_nil] at hl
   rcases hl with ⟨k,h1,⟨x,h2,h2'⟩,_,h3⟩ | ⟨h1,h3⟩
   . have:rin xb.length xa=true:=List.any_eq_true.2 ⟨x,List.mem_of_getElem? h2,by simpa using h2'⟩
     rw [this]; erw [h3]; rfl
   . have:rin xb.length xa=false:=by
       cases hh:rin xb.length xa with
       | false=>rfl
       | true =>
         obtain ⟨x,h4,h5⟩:=List.any_eq_true.1 hh
         obtain ⟨k,h6,rfl⟩:=List.getElem_of_mem h4
         exact absurd ⟨xa[k],by simp [h6],by simpa using h5⟩ (h1 k h6)
     rw [this]; erw [h3]; rfl
 . intro k hk hp
   have hx:¬ (xa[k].1 < 0∨(xb.length:Int)≤xa[k].1):=fun h=>hp ⟨_,by simp [hk],h⟩
   have h1:((decide (xa[k].1 < 0))||(decide (((xb.length:Nat):Int)≤xa[k].1)))=false:=by simp; omega
   have ha:=aD (a:=(xa.take k).map (sbs xb)) (b:=[sbs xb xa[k]]) (by simp; omega)
   have h5:aa xb xa[k].1=some (xb.getD xa[k].1.toNat 0):=kX (by omega) (by omega)
   unfold im
   dsimp only
   simp only [Option.bind_some,ai hk,h1,cond_false,h5,Int.ofNat_lt.2 hk,decide_true,cond_true,ap hk (by omega:xa.length≤9223372036854775807)]
   rw [show app ((xa.take k).map (sbs xb)) [(xb.getD xa[k].1.toNat 0,xa[k].2)]=_ from ha,List.take_succ_eq_append_getElem hk,List.map_append]
   rfl
 . rintro k hk ⟨x,h1,h2⟩
   have hx:xa[k]=x:=by rw [List.getElem?_eq_getElem hk] at h1; exact Option.some.inj h1
   have h1:((decide (xa[k].1 < 0))||(decide (((xb.length:Nat):Int)≤xa[k].1)))=true:=by rw [hx]; simpa using h2
   unfold im
   dsimp only
   simp only [Option.bind_some,ai hk,h1,cond_true,Int.ofNat_lt.2 hk,decide_true]
 . simp [im]
abbrev Nd:=Int×Int×Int×Int×Bool
def hP (az f:Int) (x y:St):List Nd:=(x.1,y.1,az,f,false) :: if y.2 then [(y.1,x.1,az,f,true)] else []
def rel (az f:Int):List St→List St→List Nd
 | x :: xs,y :: ys=>hP az f x y++rel az (f + 1) xs ys
 | _,_=>[]
theorem rI (az:Int) (x y:St):∀ (xs ys:List St) (f:Int),xs.length=ys.length→rel az f (xs++[x]) (ys++[y])=rel az f xs ys++hP az (f + xs.length) x y
 | [],[],f,_=>by simp [rel]
 | [],_ :: _,f,h=>by simp at h
 | _ :: _,[],f,h=>by simp at h
 | a :: xs,b :: ys,f,h=>by
   simp only [List.cons_append,rel,rI az x y xs ys (f + 1) (by simpa using h),List.append_assoc,List.length_cons]
   rw [show f + 1 + (xs.length:Int)=f + ((xs.length + 1:Nat):Int) by omega]
theorem bW (az:Int) (xs ys:List St) (f:Int):(rel az f xs ys).length≤2 * xs.length:=by
 induction xs generalizing ys f with
 | nil=>simp [rel]
 | cons a xs ih=>cases ys with
   | nil=>simp [rel]
   | cons b ys =>
     have:=ih ys (f + 1)
     cases hb:b.2 <;> simp [rel,hP,hb] <;> omega
theorem f6 (xa xb:List St) (az f:Int) (hl:xa.length=xb.length) (hn:xa.length≤30) (hf : -9223372036854775808≤f) (hf2:f≤1099511627776) (c:List Nd) (hc:c.length≤10) :
   ef xa xb az f c=some (c++rel az f xa xb):=by
 unfold ef
 have h:=qu (body:=jI xa xb az f) xa (fun k=>c++rel az f (xa.take k) (xb.take k)) (c++rel az f xa xb) ?_ ?_
 . simp only [List.take_zero,rel,List.append_nil] at h
   rw [h]; rfl
 . intro k h
   have h2:k < xb.length:=by omega
   have hlen:=bW az (xa.take k) (xb.take k) f
   simp only [List.length_take] at hlen
   have hw:IntKind.wrap .i64 (f + (k:Int))=f + k:=w64 (by omega) (by omega)
   unfold jI
   rw [f7 h,f7 h2,rI _ _ _ _ _ _ (by simp; omega)]
   have e:(xa.take k).length=k:=by simp; omega
   rw [e]
   cases hb:xb[k].2 with
   | true =>
     simp [ai h,ai h2,h,hb,ap h (by omega),hw,hP]
     rw [aD (by simp; omega)]
     simp
     rw [aD (by simp; omega)]
     simp
   | false =>
     simp [ai h,ai h2,h,hb,ap h (by omega),hw,hP]
     rw [aD (by simp; omega)]
     simp
 . have e:xb.take xa.length=xb:=by rw [hl,List.take_length]
   simp [jI,e]
theorem mT (xa xb:List St) (az f:Int):io xa xb az f=ef xa xb az f []:=rfl
theorem kp (xa xb:List St) (az f:Int) (hn:xa.length≤30) (hf : -9223372036854775808≤f) (hf2:f≤1099511627776):eL xa xb az f=some (if shp xa xb then (rel az f xa xb,0) else ([],8)):=by
 unfold eL
 rw [eT _ _ (by omega),Option.bind_some]
 cases hs:shp xa xb with
 | false=>rfl
 | true=>rw [Bool.not_true,cond_false,mT,f6 xa xb az f (iS hs) hn hf hf2 [] (by simp)]; simp
theorem eV (xa xb:List St) (az f:Int) (hn:xa.length≤30) (hf : -9223372036854775808≤f) (hf2:f≤1099511627776):cb xa xb az f=some (if shp xa xb then (rel az f xa xb,0) else ([],8)):=by
 unfold cb
 rw [iM _ _ (by omega),Option.bind_some]
 cases hs:shp xa xb with
 | false=>rfl
 | true=>rw [Bool.not_true,cond_false,f6 xa xb az f (iS hs) hn hf hf2 [] (by simp)]; simp
def lo (n:Int) (m:Bool) (xa xb:List St):List Nd×Int :=
 if shp ((n,false) :: xa.map fun x=>(x.1,x.2||m)) xb then ((n,(xb.head?.getD (0,false)).1,2,0,false) :: rel 1 1 xa (xb.drop 1),0) else ([],8)
theorem oa {n:Int} {m:Bool} {xa xb:List St} (h:shp ((n,false) :: xa.map fun x=>(x.1,x.2||m)) xb=true):xb.length=xa.length + 1:=by
 have:=iS h; simp at this; omega
theorem vg (xa xb:List St) (n:Int) (m:Bool) (hn:xa.length≤30):jW xa xb n m=some (lo n m xa xb):=by
 unfold jW lo
 rw [vM _ _ _ (by omega),Option.bind_some,dK]
 by_cases hb:xb.length≤1000
 . rw [eT _ _ (by omega),Option.bind_some]
   cases hs:shp xb ((n,false) :: xa.map fun x=>(x.1,x.2||m)) with
   | false=>rfl
   | true =>
     have hl:=oa (by rw [dK]; exact hs)
     cases xb with
     | nil=>simp at hl
     | cons y ys =>
       have hl2:xa.length=ys.length:=by simpa using hl.symm
       rw [Bool.not_true,cond_false,show aa (y :: ys) 0=some y from rfl,Option.bind_some,fI (by simp),Option.bind_some,mT,f6 _ _ _ _ (by simpa using hl2) hn (by omega) (by omega) _ (by simp)]
       have:=bW 1 xa ys 1
       simp only [List.nil_append,Option.bind_some,List.drop_succ_cons,List.drop_zero]
       rw [aD (by simp; omega)]
       simp
 . have hs:shp xb ((n,false) :: xa.map fun x=>(x.1,x.2||m))=false:=nR (by simp; omega)
   unfold cC jD
   rw [lP (by simp; omega),cond_true,hs]; rfl
theorem vH (xa xb:List St) (n:Int) (m:Bool) (hn:xa.length≤30):j3 xa xb n m=some (lo n m xa xb):=by
 unfold j3 lo
 rw [wc _ _ _ (by omega),Option.bind_some,iM _ _ (by simp; omega),Option.bind_some]
 cases hs:shp ((n,false) :: xa.map fun x=>(x.1,x.2||m)) xb with
 | false=>rfl
 | true =>
   have hl:=oa hs
   cases xb with
   | nil=>simp at hl
   | cons y ys =>
     have hl2:xa.length=ys.length:=by simpa using hl.symm
     rw [Bool.not_true,cond_false,show aa (y :: ys) 0=some y from rfl,Option.bind_some,fI (by simp),Option.bind_some,f6 _ _ _ _ (by simpa using hl2) hn (by omega) (by omega) _ (by simp)]
     simp
def ag (n:Int) (m:Bool) (xa xb:List St):List Nd×Int :=
 match xa,xb with
 | x :: xs,y :: ys=>if x.2||!shp (x :: xs) (y :: ys)||(m&&xs.any (fun z=>!z.2)) then ([],8) else ((x.1,n,3,0,false) :: (n,y.1,2,0,false) :: rel 1 1 xs ys,0)
 | _,_=>([],8)
theorem yK (xa xb:List St) (m:Bool) (hn:xa.length≤30):jH xa xb m=some (match xa with | []=>false | x :: xs=>!(x.2||!shp xa xb||(m&&xs.any (fun z=>!z.2)))):=by
 unfold jH
 cases xa with
 | nil=>rfl
 | cons x xs =>
   have e0:decide ((((x :: xs).length:Nat):Int)=0)=false:=by simp; omega
   rw [e0,cond_false,show aa (x :: xs) 0=some x from rfl,Option.bind_some,Option.bind_some]
   cases hx:x.2 with
   | true=>simp [hx]
   | false =>
     rw [cond_false,eT _ _ (by omega),Option.bind_some,Option.bind_some]
     cases hs:shp (x :: xs) xb with
     | false=>simp
     | true =>
       rw [Bool.not_true,cond_false,fI (by simp),Option.bind_some]
       unfold my mA
       rw [aL (List.drop 1 (x :: xs)) (fun z:St=>!z.2) (fun k => .inr (k:Int)) (.inl ()) ?_ ?_]
       . simp only [List.drop_succ_cons,List.drop_zero]
         cases h:xs.findIdx? (fun z:St=>!z.2) with
         | none =>
           have:xs.any (fun z:St=>!z.2)=false:=by
             rw [List.any_eq_false]; intro z hz; have:=List.findIdx?_eq_none_iff.1 h z hz; simpa using this
           simp [this,hx]
         | some k =>
           obtain ⟨hk,h1,_⟩:=List.findIdx?_eq_some_iff_getElem.1 h
           have:xs.any (fun z:St=>!z.2)=true:=List.any_eq_true.2 ⟨_,List.getElem_mem hk,h1⟩
           simp [this,hx]
       . intro k h
         unfold mz mH
         simp only [List.drop_succ_cons,List.drop_zero] at h ⊢
         have hn':xs.length≤30:=by simp at hn; omega
         cases hz:xs[k].2 <;> simp [ai h,h,ap h (by omega),hz]
       . simp [mz]
theorem va (xa xb:List St) (n:Int) (m:Bool) (hn:xa.length≤30):jS xa xb n m=some (ag n m xa xb):=by
 unfold jS
 rw [yK _ _ _ hn,Option.bind_some]
 cases xa with
 | nil=>rfl
 | cons x xs =>
   simp only [ag,Bool.not_not]
   by_cases hc:(x.2||!shp (x :: xs) xb||(m&&xs.any (fun z=>!z.2)))=true
   . rw [hc]; cases xb <;> simp_all
   . have hc':(x.2||!shp (x :: xs) xb||(m&&xs.any (fun z=>!z.2)))=false:=by simpa using hc
     have hs:shp (x :: xs) xb=true:=by
       cases q:shp (x :: xs) xb with
       | true=>rfl
       | false=>rw [q] at hc'; simp at hc'
     have hl:=iS hs
     cases xb with
     | nil=>simp at hl
     | cons y ys =>
       simp only [hc',cond_false,if_false,show aa (x :: xs) 0=some x from rfl,show aa (y :: ys) 0=some y from rfl,Option.bind_some,fI (show 1≤(x :: xs).length by simp),fI (show 1≤(y :: ys).length by simp),List.drop_succ_cons,List.drop_zero,Bool.false_eq_true]
       have hl2:xs.length=ys.length:=by simpa using hl
       rw [mT,f6 _ _ _ _ hl2 (by simp at hn; omega) (by omega) (by omega) _ (by simp),Option.bind_some]
       have:=bW 1 xs ys 1
       simp at hn
       rw [aD (by simp; omega)]
       simp
theorem u5 (xa xb:List St) (n:Int) (m:Bool) (hn:xa.length≤30):jU xa xb n m=some (ag n m xa xb):=by
 unfold jU
 cases xa with
 | nil=>rfl
 | cons x xs =>
   have e0:decide ((((x :: xs).length:Nat):Int)=0)=false:=by simp; omega
   rw [e0,cond_false,iM _ _ (by omega),Option.bind_some,Option.bind_some]
   cases hs:shp (x :: xs) xb with
   | false=>cases xb <;> simp [ag,hs]
   | true =>
     have hl:=iS hs
     cases xb with
     | nil=>simp at hl
     | cons y ys =>
       have hl2:xs.length=ys.length:=by simpa using hl
       simp only [Bool.not_true,cond_false,show aa (x :: xs) 0=some x from rfl,show aa (y :: ys) 0=some y from rfl,Option.bind_some]
       cases hx:x.2 with
       | true=>simp [ag,hx]
       | false =>
         have hn':xs.length≤29:=by simp at hn; omega
         have hloop:loop (fR (x :: xs) m) 1=some (if (m&&xs.any (fun z=>!z.2)) then .inr ([],8) else .inl ()):=by
           have:=xh (body:=fR (x :: xs) m) (fun k=>(m&&(xs[k]?.any (fun z=>!z.2)))=true) (fun k=>((k + 1:Nat):Int)) xs.length (.inr ([],8)) (.inl ()) ?_ ?_ ?_
           . rw [show ((1:Int))=((0 + 1:Nat):Int) from rfl,this]
             congr 1
             by_cases hq:(m&&xs.any (fun z=>!z.2))=true
             . rw [if_pos hq,if_pos]
               simp only [Bool.and_eq_true] at hq
               obtain ⟨z,hz,hz2⟩:=List.any_eq_true.1 hq.2
               obtain ⟨k,hk,rfl⟩:=List.getElem_of_mem hz
               exact ⟨k,hk,by simp [hq.1,hk]; simpa using hz2⟩
             . rw [if_neg hq,if_neg]
               rintro ⟨k,hk,hk2⟩
               apply hq
               simp [hk] at hk2
               rw [hk2.1,Bool.true_and]
               exact List.any_eq_true.2 ⟨_,List.getElem_mem hk,by simpa using hk2.2⟩
           . intro k hk hp
             have h2:k + 1 < (x :: xs).length:=by simp; omega
             simp [hk] at hp
             unfold fR
             rw [dlt h2,cond_true,ap h2 (by simp; omega)]
             cases m with
             | false=>simp
             | true=>simp [tN h2,hp rfl]
           . intro k hk hp
             have h2:k + 1 < (x :: xs).length:=by simp; omega
             simp [hk] at hp
             unfold fR
             rw [dlt h2,cond_true]
             simp [tN h2,hp.1,hp.2]
           . simp [fR]
         rw [hloop]
         by_cases hq:(m&&xs.any (fun z=>!z.2))=true
         . simp [ag,hx,hs,hq]
         . have hq':(m&&xs.any (fun z=>!z.2))=false:=by simpa using hq
           rw [hq']
           simp only [cond_false,Option.bind_some,if_false,fI (show 1≤(x :: xs).length by simp),fI (show 1≤(y :: ys).length by simp),List.drop_succ_cons,List.drop_zero,Bool.false_eq_true]
           rw [f6 _ _ _ _ hl2 (by omega) (by omega) (by omega) _ (by simp)]
           simp [ag,hx,hs,hq']
theorem wR (n:Int) (m:Bool) (xa xb:List St) (h:xa.length≤30):(lo n m xa xb).1.length≤100:=by
 unfold lo
 have:=bW 1 xa (xb.drop 1) 1
 simp at this
 split <;> simp; omega
theorem wQ (n:Int) (m:Bool) (xa xb:List St) (h:xa.length≤30):(ag n m xa xb).1.length≤100:=by
 unfold ag
 split
 . rename_i x xs y ys
   have:=bW 1 xs ys 1
   simp at h
   split <;> simp; omega
 . simp
end
end Go.Proofs.YtelekeapfgfknaaGreat

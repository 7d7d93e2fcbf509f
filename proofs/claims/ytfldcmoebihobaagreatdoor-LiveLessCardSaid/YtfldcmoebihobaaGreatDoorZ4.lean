/- A part of the proof: what lies ahead of the law. Nothing is claimed here. -/
import Derived.Test.YtfldcmoebihobaaGreatDoorZ3
import Derived.RangeFuncRecord
import Derived.Shelf.Small.Bits
import Derived.Shelf.Small.Wraps
import Derived.Shelf.Strconv.Itoa0
import Derived.Shelf.Sort.Plain
import Derived.Ground.Names2Prog
import Derived.Shelf.Slices.Clone
import Derived.Shelf.Slices.CompactI
import Derived.Shelf.Slices.SearchI
import Derived.Shelf.Slices.Cells
import Derived.Shelf.Slices.In.SortNone
import Derived.Ground.SlgnProg
import Derived.Shelf.SlicesE.Compact
import Derived.Shelf.SlicesE.Clone
import Derived.Test.YtfldcmoebihobaaGreatDoorProg
import Derived.Sort.OwnSortedInts
import Derived.Shelf.Spec.TrailingZeros
import Derived.Tactics
import Derived.Tactics2
import Derived.Defers
import Derived.Recover
import Derived.Laws.Pointers
import Derived.MapKept
namespace Go.Proofs.YtfldcmoebihobaaGreatDoor
noncomputable section
set_option linter.unusedVariables false
set_option linter.unusedSimpArgs false
set_option linter.unnecessarySimpa false
set_option linter.unusedSectionVars false
open Go.RowKit
section
variable [BldA]
def Hp.del (K:Hp) (D:Nat):Hp:=fun n=>if n=D then none else K n
theorem Hp.cle_del {K:Hp} {D:Nat} {x:Option (List Deferred)} (h:K D=some (.deferred x)):K.cle (K.del D):=fun g o v e=>by
 unfold aW Hp.del at *
 by_cases hg:g=D
 . subst hg; rw [h] at e; cases e
 . rw [if_neg hg]; exact e
section
variable {P:Program} {E:En} {n:Nat} {m:List M} {K:Hp} {fr:Frz} {σ:Zt} {ρ:Sl1} {w:World}
theorem Rel.unmark (hr:Rel E fr σ m K ρ w) {K2:Hp} {w2:World} (hc:K.cle K2) (hk:fr.K.le K2) (h0:fr.k0.le K2) (hs:Sep E K2 (σ.atoms fr m) w2):Rel E fr ⟨σ.base,σ.top,σ.H,σ.Hf,σ.nx,false⟩ m K2 ⟨ρ.f,[]⟩ w2 where
 hm:=hr.hm
 hK:=hk
 nx:=hr.nx
 kq:=fun e=>(by cases e)
 base:=hr.base
 dead:=hr.dead
 old:=hr.old
 top:=fun i sv hi=>SV.monoC (fun _ _ h=>h) hc sv (hr.top i sv hi)
 okH:=fun a ha=>HA.ok_monoC (fun _ _ h=>h) hc (hr.okH a ha)
 okF:=hr.okF
 mks:=MOk.nil hr.mks.1.1 h0
 sep:=hs
theorem nf {fn:Func} {tmps:Array Value} {R:Ending→World→Prop} {L:List ab} {k0:Hp}:∀ (ds:List Deferred) {K:Hp} {w:World},MOk k0 K ds→Sep E K L w →
   (∀ K2 w2,K.cle K2→k0.le K2→Sep E K2 L w2→∃ v,(results fn tmps).run P w2 = .ok v w2∧R (.returned v) w2)→LeavesInM Fence.wide 0 P fn tmps R ds .returning w
 | [],K,w,hm,hs,h=>h K w (Hp.cle_refl K) hm.1.2 hs
 | d :: ds,K,w,hm,hs,h=>by
   obtain ⟨D,rfl,hD,h0⟩:=hm.2.1 d (by simp)
   have hw:w.heap[D]? = some (.deferred (some [])):=hs.sub D _ hD
   have hnd:=List.nodup_cons.1 hm.2.2
   refine ⟨by simp,.inl ⟨D,w.putObj D (.deferred none),rfl,run_takeDeferred hw,?_⟩⟩
   have other:∀ (k:Nat) (o:Obj),k≠D→w.heap[k]? = some o→(w.putObj D (.deferred none)).heap[k]? = some o:=fun k o hne e=>by rw [World.putObj_heap_other hne]; exact e
   have hs1:Sep E (K.del D) L (w.putObj D (.deferred none)):=by
     refine Sep.move (w:=w) (w':=w.putObj D (.deferred none)) (fun e=>e) hs (fun k o e=>?_) (fun k o e e1=>?_)
     . unfold Hp.del at e
       split at e
       . cases e
       . rename_i hne; exact other k o hne (hs.sub k o e)
     . have hne:k≠D:=fun e2=>by rw [e2,hD] at e1; cases e1
       exact ⟨by unfold Hp.del; rw [if_neg hne]; exact e1,other k o hne e⟩
   refine nf ds ⟨⟨hm.1.1,fun k o e=>?_⟩,fun d' hd'=>?_,hnd.2⟩ hs1 (fun K2 w2 c1 c2 c3=>h K2 w2 ((Hp.cle_del hD).trans c1) c2 c3)
   . unfold Hp.del
     rw [if_neg (fun e2=>by rw [e2,h0] at e; cases e)]
     exact hm.1.2 k o e
   . obtain ⟨D',rfl,h1,h2⟩:=hm.2.1 d' (List.mem_cons_of_mem _ hd')
     refine ⟨D',rfl,?_,h2⟩
     unfold Hp.del
     rw [if_neg (fun e=>hnd.1 (by rw [← e]; exact hd'))]
     exact h1
end
section
variable {P:Program} {E:En} {K:Hp} {L:List ab} {w:World}
theorem LpA.at {l:Nat} {r:Loop} (h:Sep E K (LpA l r :: L) w):w.heap[l]? = some (.loop r):=by
 obtain ⟨h1,rfl,hd,hs⟩:=h
 exact hs.sub l _ (Hp.join_right (ba l _) (hd l _ (ba l _)))
theorem LpA.put {l:Nat} {r r':Loop} (h:Sep E K (LpA l r :: L) w):Sep E K (LpA l r' :: L) (w.putObj l (.loop r')):=by
 have hw:=LpA.at h
 have hlt:=(Array.getElem?_eq_some_iff.1 hw).1
 refine Sep.turn h (fun e=>e) (fun h1 hA hle=>?_)
 obtain rfl:=hA
 refine ⟨one l (.loop r'),rfl,fun n o e=>?_,fun n o e e1=>?_⟩
 . obtain ⟨rfl,rfl⟩:=cd e
   exact ⟨World.putObj_heap_same hlt,fun e2=>by rw [ba] at e2; cases e2⟩
 . have hne:n≠l:=fun e2=>by subst e2; rw [ba] at e1; cases e1
   rw [World.putObj_heap_other hne]; exact e
theorem Bj {l₀:Nat} {r₀:Loop} (h:w.heap[l₀]? = some (.loop r₀)) (fn:FuncId) (tmps:Array Value) (ps:Array Tmp) (assign body:Code) :
   (Instr.enterLoop fn tmps ps assign body (some l₀)).run P w =
     .ok (w.heap.size,[]) (w.alloc (.loop { state := .ready,pending:=none,fn,tmps,params:=ps,assign,body,defers:=r₀.defers })):=by
 unfold Instr.enterLoop
 simp only [Sem.run_bind,run_getLoop h,run_newObj_alloc,Result.andThen,Sem.run_pure]
theorem Sep.allocO (h:Sep E K L w) (o:Obj):Sep E K ((fun hh=>hh=one w.heap.size o) :: L) (w.alloc o) :=
 Sep.turn h.emp (fun e=>e) (fun h0 ha _=>by
   unfold _root_.Go.Proofs.YtfldcmoebihobaaGreatDoor.emp at ha; subst ha
   refine ⟨one w.heap.size o,rfl,fun n x e=>?_,fun n x e _=>?_⟩
   . obtain ⟨rfl,rfl⟩:=cd e
     exact ⟨World.alloc_heap_new w _,fun _=>Array.getElem?_eq_none (Nat.le_refl _)⟩
   . rw [Below.heap_alloc _ _ _ (lt_of_block e)]; exact e)
theorem Sep.known {o:Obj} {b:Nat} (h:Sep E K ((fun hh=>hh=one b o) :: L) w):Sep E (K.join (one b o)) L w∧K b=none:=by
 obtain ⟨h1,rfl,hd,hs⟩:=h
 exact ⟨hs,hd b _ (ba b o)⟩
end
def gV (r:Loop):Loop:={ r with state := .busy,pending:=none }
def jA (E:En) (fr:Frz):Prop:=∀ l,E.rd=some l→∃ r,LpA l r∈fr.F
section
variable {R:Type} {P:Program} {E:En} {n:Nat} {m m':List M} {K K':Hp} {fr:Frz} {σ σ':Zt} {ρ ρ':Sl1} {w w':World}
def Fok (P:Program) (n:Nat) (c:Code) (f:Hn P→Zt→(R:Type)→(Exit→Hn P→Zt→Option R)→Option R):Prop :=
 ∀ (R:Type) (E:En) (fr:Frz),jA E fr→∀ (h:Hn P) (σ:Zt) (k:Exit→Hn P→Zt→Option R) (r:R) (m:List M) (K:Hp) (ρ:Sl1) (w:World) (Q:Exit→Act→World→Prop),f h σ R k=some r→Rel E fr σ m K ρ w →
   (∀ e h' σ' m' K' ρ' w',Rel E fr σ' m' K' ρ' w'→Same σ σ'→k e h' σ'=some r→Q e (act1 n ρ') w')→c.wpIn (aB E.rd) 0 P Q (act1 n ρ) w
def JOk (J:Rn P):Prop:=∀ n c,Fok P n c (fun h σ R k=>J n c R h σ k)
def dO:List Nat→List Value→Sl0→Sl0
 | p :: ps,x :: xs,f=>dO ps xs (upd f p x)
 | _,_,f=>f
theorem Fl {ρ:Sl0} {p:Nat} {v:Value}:(frm n ρ).setIfInBounds p v=frm n (upd ρ p v):=by
 have h:=congrArg Act.tmps (Go.Proofs.YtfldcmoebihobaaGreatDoor.put_act n ρ p v)
 unfold act Act.put at h
 exact h
theorem vX:∀ (ps:List Nat) (xs:List Value) (ρ:Sl0),(ps.zip xs).foldl (fun t (q:Nat×Value)=>t.setIfInBounds q.1 q.2) (frm n ρ)=frm n (dO ps xs ρ)
 | [],xs,ρ=>rfl
 | p :: ps,[],ρ=>rfl
 | p :: ps,x :: xs,ρ=>by
   show (ps.zip xs).foldl _ ((frm n ρ).setIfInBounds p x)=_
   rw [Fl]
   exact vX ps xs (upd ρ p x)
theorem wc:∀ (ps:List Nat) {xs:List SV} {us:List Value} {f:Nat→SV} {ρ:Sl0},SV.relL m K xs us→(∀ i,SV.rel m K (f i) (ρ i))→∀ i,SV.rel m K (pa ps xs f i) (dO ps us ρ i)
 | [],xs,us,f,ρ,h,hf,i=>hf i
 | p :: ps,[],us,f,ρ,h,hf,i=>by
   obtain rfl:=aP h
   exact hf i
 | p :: ps,x :: xs,us,f,ρ,h,hf,i=>by
   obtain ⟨u,r,rfl,h1,h2⟩:=aH h
   refine wc ps (us:=r) (ρ:=upd ρ p u) h2 (fun j=>?_) i
   show SV.rel m K (bif Nat.beq j p then x else f j) (bif Nat.beq j p then u else ρ j)
   cases Nat.beq j p with
   | true=>exact h1
   | false=>exact hf j
theorem nE:∀ {xs:List SV} {us:List Value},SV.relL m K xs us→us.length=xs.length
 | [],us,h=>by obtain rfl:=aP h; rfl
 | x :: xs,us,h=>by
   obtain ⟨u,r,rfl,h1,h2⟩:=aH h
   simp [nE h2]
theorem Cm {J:Rn P} (hJ:JOk J) {c:SV} {xs:List SV} {h:Hn P} {k:Hn P→Zt→Bool→Option R} {r:R} (hh:sI J σ c xs h k=some r) (hr:Rel E fr σ m K ρ w) {us:List Value} {v:Value} (hv:SV.rel m K c v) (hxs:SV.relL m K xs us) {X:Ending→World→Prop}
   (hX:∀ h' σ' m' K' w' b,Rel E fr σ' m' K' ρ w'→Same σ σ'→k h' σ' b=some r→X (.returned (.bool b)) w') :
   ∃ l,v = .func (.yield l) #[] #[]∧∃ fn tmps ao bo,(Instr.yield l us.toArray).run P w = .ok (.round l fn tmps ao bo) w∧RoundIn (aB E.rd) 0 P l fn tmps ao bo w X:=by
 unfold sI at hh
 split at hh
 . rename_i i n0 vs0 ps ao bo
   obtain ⟨l,rr,ρ0,rfl,hm,ht,hp,ha,hb,hvs⟩:=hv
   replace hh:=aj hh; obtain ⟨hlen,hh⟩:=hh
   have hlen:=Nat.eq_of_beq_eq_true hlen
   split at hh
   . rename_i H hq
     obtain ⟨a,ha',hmem,hperm⟩:=bC hq
     obtain rfl:=sS ha'
     have hsub:∀ a∈H,a∈σ.H:=fun a ha=>hperm.symm.subset (List.mem_cons_of_mem _ ha)
     -- the record, ahead
     have hs0:Sep E K (LpA l (LSt.ready.cr rr) :: (H.map (HA.conc m)++σ.fz fr)) w:=by
       have:=Sep.perm ((hperm.map (HA.conc m)).append_right (σ.fz fr)) hr.toSep
       simpa only [List.map_cons,HA.conc,hm,List.cons_append] using this
     have hw:=LpA.at hs0
     have hy:=run_yield (P:=P) (args:=us.toArray) hw (by
       show us.toArray.size=rr.params.size
       rw [hp,List.size_toArray,nE hxs,hlen])
     refine ⟨l,rfl,_,_,_,_,hy,roundIn_of_wpIn trivial ?_⟩
     have htm:(((LSt.ready.cr rr).params.zip us.toArray).foldl (fun tmps (t,a)=>tmps.setIfInBounds t a) (LSt.ready.cr rr).tmps)=frm n0 (dO ps.toList us ρ0):=by
       show ((rr.params.zip us.toArray).foldl _ rr.tmps)=_
       rw [hp,ht,← Array.foldl_toList,Array.toList_zip]
       exact vX ps.toList us ρ0
     rw [htm]
     show rr.assign.wpIn (aB (some l)) 0 P _ (act1 n0 ⟨dO ps.toList us ρ0,[]⟩) w
     rw [ha]
     have hE:∀ (L:List ab) (K:Hp) (w:World),Sep E K L w→Sep { E with rd:=some l } K L w:=fun L K w=>Sep.rd (E:=E) (E':={ E with rd:=some l }) (fun w h=>h)
     have hE':∀ (L:List ab) (K:Hp) (w:World),Sep { E with rd:=some l } K L w→Sep E K L w:=fun L K w=>Sep.rd (E:={ E with rd:=some l }) (E':=E) (fun w h=>h)
     have mid:∀ (A B C:List ab) (x:ab),(A++(B++x :: C)).Perm (x :: (A++(B++C))):=fun A B C x=>by
       rw [← List.append_assoc,← List.append_assoc]; exact List.perm_middle
     have hrel:Rel { E with rd:=some l } ⟨m,K,⟨dO ps.toList us ρ0,[]⟩,fun _=>false,LpA l (LSt.ready.cr rr) :: fr.F,K⟩ ⟨pa ps.toList xs vs0,[],H,σ.Hf,σ.nx,false⟩ m K ⟨dO ps.toList us ρ0,[]⟩ w:=by
       refine ⟨⟨List.prefix_refl m,Hp.le_refl K,hr.nx,fun e=>(by cases e),fun i=>wc ps.toList hxs hvs i,fun i e=>(by cases e),fun i _ => .inr rfl,fun i sv e=>(by cases e),fun a ha=>hr.okH a (hsub a ha),fun a ha=>hr.toPur.all a (List.mem_append_right _ ha),MOk.nil hr.mks.gk (Hp.le_refl K)⟩,?_⟩
       show Sep _ K (H.map (HA.conc m)++(σ.Hf.map (HA.conc m)++(LpA l (LSt.ready.cr rr) :: fr.F))) w
       refine hE _ _ _ (Sep.perm (mid _ _ _ _).symm ?_)
       rw [hr.toPur.fz']
       exact hs0
     refine hJ n0 ao _ { E with rd:=some l } ⟨m,K,⟨dO ps.toList us ρ0,[]⟩,fun _=>false,LpA l (LSt.ready.cr rr) :: fr.F,K⟩ (by intro l2 e; cases e; exact ⟨_,List.mem_cons_self⟩) h _ _ r m K _ w _ hh hrel (fun e h' σ1 m1 K1 ρ1 w1 h1 h2 h3=>?_)
     cases e with
     | normal =>
       have hs1:Sep E K1 (LpA l (LSt.ready.cr rr) :: (σ1.H.map (HA.conc m1)++(σ1.Hf.map (HA.conc m)++fr.F))) w1:=Sep.perm (mid _ _ _ _) (hE' _ _ _ h1.sep)
       have hw1:=LpA.at hs1
       refine ⟨w1.putObj l (.loop (gV rr)),run_beginRound hw1 rfl,?_⟩
       have hs2:=LpA.put (r':=(gV rr)) hs1
       have hrel2:Rel { E with rd:=some l } ⟨m,K,⟨dO ps.toList us ρ0,[]⟩,fun _=>false,LpA l (gV rr) :: fr.F,K⟩ σ1 m1 K1 ρ1 (w1.putObj l (.loop (gV rr))) :=
         ⟨⟨h1.hm,h1.hK,h1.nx,h1.kq,h1.base,h1.dead,h1.old,h1.top,h1.okH,h1.okF,h1.mks⟩,hE _ _ _ (Sep.perm (mid _ _ _ _).symm hs2)⟩
       show (LSt.ready.cr rr).body.wpIn (aB (some l)) 0 P _ (act1 n0 ρ1) _
       rw [show (LSt.ready.cr rr).body=bo from hb]
       refine hJ n0 bo _ { E with rd:=some l } ⟨m,K,⟨dO ps.toList us ρ0,[]⟩,fun _=>false,LpA l (gV rr) :: fr.F,K⟩ (by intro l2 e; cases e; exact ⟨_,List.mem_cons_self⟩) h' σ1 _ r m1 K1 ρ1 _ _ h3 hrel2 (fun e2 h'' σ2 m2 K2 ρ2 w2 g1 g2 g3=>?_)
       have hs3:Sep E K2 (LpA l (gV rr) :: (σ2.H.map (HA.conc m2)++(σ2.Hf.map (HA.conc m)++fr.F))) w2:=Sep.perm (mid _ _ _ _) (hE' _ _ _ g1.sep)
       have hw3:=LpA.at hs3
       have back:∀ (s:LSt) (b:Bool) (jump:Option Code),zt e2=some (b,s)→b=jump.isNone→s.cr rr = { gV rr with state:=if jump.isNone then .ready else .done,pending:=jump } →
           ∃ v w',(Instr.endRound l jump).run P w2 = .ok v w'∧X (.returned v) w':=fun s b jump e1 e2 e3=>by
         subst e2
         rw [e1] at g3
         simp only at g3
         refine ⟨_,_,run_endRound jump hw3,?_⟩
         refine hX h'' ⟨σ.base,σ.top,.lp i s :: σ2.H,σ.Hf,σ2.nx,false⟩ m2 K2 _ _ ?_ ⟨rfl,rfl⟩ g3
         have hm2:m <+: m2:=g1.hm
         have hK2:K.le K2:=g1.hK
         have hm2':∀ (i:Nat) (x:M),m[i]? = some x→m2[i]? = some x:=fun _ _ k=>an hm2 k
         refine ⟨⟨hr.hm.trans hm2,hr.hK.trans hK2,g1.nx,fun e=>(by cases e),hr.base,hr.dead,hr.old,fun i sv hi=>SV.mono hm2' hK2 sv (hr.top i sv hi),fun a ha=>?_,hr.okF,hr.mks.mono hK2⟩,?_⟩
         . rcases List.mem_cons.1 ha with rfl | ha
           . exact ⟨l,rr,hm2' _ _ hm⟩
           . exact g1.okH a ha
         . have:=LpA.put (r':=s.cr rr) hs3
           have hHf:σ2.Hf=σ.Hf:=(h2.trans g2).2
           rw [hHf,hr.toPur.fz'] at this
           show Sep E K2 ((HA.lp i s :: σ2.H).map (HA.conc m2)++(σ.Hf.map (HA.conc fr.m)++fr.F)) _
           simp only [List.map_cons,HA.conc,hm2' _ _ hm,List.cons_append]
           rw [e3] at this ⊢
           exact this
       cases e2 with
       | normal=>exact back .ready true none rfl rfl rfl
       | ret=>exact back .ret false (some .ret) rfl rfl rfl
       | exit id=>exact back (.exit id) false (some (.exit id)) rfl rfl rfl
       | goto t=>cases g3
       | panic ch=>cases g3
       | outgrown=>cases g3
     | exit id=>cases h3
     | goto t=>cases h3
     | ret=>cases h3
     | panic ch=>cases h3
     | outgrown=>cases h3
   . cases hh
 . cases hh
theorem Ce {F:Fence} {N:Nat} {o:Oper} {a:Act} {w:World} {X:Act→World→Prop} {Q Q':Exit→Act→World→Prop} (hq:∀ e a w,Q e a w→e ≠ .normal→Q' e a w) (hh:o.wpIn F N P a w X Q):o.wpIn F N P a w X Q':=by
 unfold Oper.wpIn at *
 refine ⟨hh.1,?_⟩
 have hh:=hh.2
 have lo:LetsOut Q→LetsOut Q':=fun ⟨a,w,h⟩=>⟨a,w,hq _ _ _ h nofun⟩
 generalize (o.semAt F.round a.eval).run P w=r at *
 cases r with
 | ok x w' =>
   cases x <;> simp only [Oper.uponIn] at hh ⊢ <;>
     first
       | exact hh
       | exact ⟨hh.1,CallsIn.mono hh.2 (fun e w'' he=>by cases e <;> first | exact he | exact hq _ _ _ he nofun | exact lo he)⟩
       | exact ⟨hh.1,RowsIn.mono hh.2 (fun _ _ he=>he)⟩
       | exact ⟨hh.1,RoundIn.mono hh.2 (fun e w'' he=>by cases e <;> first | exact he | exact hq _ _ _ he nofun | exact lo he)⟩
       | exact hh.elim
 | halt x w'=>cases x <;> simp only [Oper.uponIn] at hh ⊢ <;> first | exact hq _ _ _ hh nofun | exact lo hh | exact hh
theorem qC {r:Option Nat} {ops:Array Oper} {Q:Exit→Act→World→Prop} {rest:List Oper}:∀ {l:List Oper} {a:Act} {w:World},l.all b9=true→ap P ops (fun e a w=>e = .normal∧wpListIn (aB r) 0 P ops Q rest a w) l a w→wpListIn (aB r) 0 P ops Q (l++rest) a w
 | [],a,w,_,h=>h.2
 | o :: l,a,w,hd,h=>by
   simp only [List.all_cons,Bool.and_eq_true] at hd
   unfold ap at h
   rw [List.cons_append]
   unfold wpListIn
   split
   . rename_i hw; rw [if_pos hw] at h
     exact Ce (fun e a w h hne=>absurd h.1 hne) (Oper.wpIn_mono (fun a w h=>qC hd.2 h) (nq hd.1 h))
   . rename_i hw; rw [if_neg hw] at h
     exact ⟨fun _ _=>trivial,qC hd.2 h⟩
theorem r4 {f:Operand→SV} {g:Operand→Value} (hf:∀ x,SV.rel m K (f x) (g x)):∀ l:List Operand,SV.relL m K (l.map f) (l.map g)
 | []=>rfl
 | x :: l=>⟨_,_,rfl,hf x,r4 hf l⟩
theorem rK:∀ {vs:List SV} {us:List Value} {j i:Nat} {sv:SV},SV.relL m K vs us→aq (slA j vs) i=some sv→∃ k u,i=j + k∧us[k]? = some u∧SV.rel m K sv u
 | [],us,j,i,sv,h,hl=>by cases hl
 | v :: vs,us,j,i,sv,h,hl=>by
   obtain ⟨u,q,rfl,h1,h2⟩:=aH h
   change (bif Nat.beq j i then some v else aq (slA (j + 1) vs) i)=some sv at hl
   cases hb:Nat.beq j i with
   | true =>
     rw [hb] at hl
     cases hl
     exact ⟨0,u,(Nat.eq_of_beq_eq_true hb).symm,rfl,h1⟩
   | false =>
     rw [hb] at hl
     obtain ⟨k,u',e1,e2,e3⟩:=rK (j:=j + 1) h2 hl
     exact ⟨k + 1,u',by omega,by simpa using e2,e3⟩
theorem Fm {fn:Func} {ρ:Sl0} {j:Nat} (h:fn.results.toList=[.tmp j]):(results fn (frm n ρ)).run P w = .ok (Go.Proofs.YtfldcmoebihobaaGreatDoor.ev n ρ (.tmp j)) w:=by
 have h':fn.results = #[.tmp j]:=Array.ext' (by rw [h])
 exact Res.one (C:=fun _=>True) (v1:=Go.Proofs.YtfldcmoebihobaaGreatDoor.ev n ρ (.tmp j)) h' rfl w trivial
theorem DF {J:Rn P} (hJ:JOk J) {q:ItFn P} {c:Code} (hc:q.fn.body=some c) {vs:List SV} {us:List Value} (hus:SV.relL m K vs us) {j d:Nat} (hres:q.fn.results.toList=[.tmp j]) (hlen:vs.length≤q.fn.ntmps) {h0:Hn P} {k:Hn P→Zt→Option R} {r:R}
   (hh:J q.fn.ntmps c R h0 ⟨fun _ => .any,slA 0 vs,σ.H,σ.Hf,σ.nx,false⟩ (fun e h σ'=>bif oF e then k h.unw (Zt.set ⟨σ.base,σ.top,σ'.H,σ.Hf,σ'.nx,false⟩ d (σ'.ev q.fn.ntmps (.tmp j))) else none)=some r)
   (hr:Rel E fr σ m K ρ w) {X:Ending→World→Prop}
   (hX:∀ h' σ1 sv v m' K' w',Rel E fr σ1 m' K' ρ w'→Same σ σ1→SV.rel m' K' sv v→k h' (σ1.set d sv)=some r→X (.returned v) w') :
   CallsIn (aB E.rd) 0 P q.f us.toArray w X:=by
 obtain ⟨args,hargs⟩:∃ args:Array Value,args=us.toArray:=⟨_,rfl⟩
 rw [← hargs]
 have hsz:args.size≤q.fn.ntmps:=by rw [hargs,List.size_toArray,nE hus]; exact hlen
 have hrel:Rel E.out0 ⟨m,K,ck args,fun _=>false,fr.F,K⟩ ⟨fun _ => .any,slA 0 vs,σ.H,σ.Hf,σ.nx,false⟩ m K (ck args) w:=by
   refine ⟨⟨List.prefix_refl _,Hp.le_refl K,hr.nx,fun e=>(by cases e),fun i=>trivial,fun i e=>(by cases e),fun i _ => .inr rfl,fun i sv hi=>?_,fun a ha=>hr.okH a ha,fun a ha=>hr.toPur.all a (List.mem_append_right _ ha),MOk.nil hr.mks.gk (Hp.le_refl K)⟩,?_⟩
   . obtain ⟨j',u,e1,e2,e3⟩:=rK hus hi
     have:ck args i=u:=by
       show dE args i=u
       unfold dE
       rw [e1,Nat.zero_add,hargs]
       simp [e2]
     rw [this]; exact e3
   . show Sep E.out0 K (σ.H.map (HA.conc m)++(σ.Hf.map (HA.conc m)++fr.F)) w
     rw [hr.toPur.fz']
     exact hr.toSep.out0
 have key:CallsIn Fence.wide 0 P q.f args w X:=by
   refine callsIn_of_wp_marks (F:=Fence.wide) (n:=0) q.at_ hc trivial ?_
   rw [nP hsz]
   refine hJ q.fn.ntmps c R E.out0 ⟨m,K,ck args,fun _=>false,fr.F,K⟩ (fun l2 e=>by cases e) h0 _ _ r _ K (ck args) w _ hh hrel (fun e h' σ' m' K' ρ' w' h1 h2 h3=>?_)
   replace h3:=aj h3; obtain ⟨hov,h3⟩:=h3
   have fini:LeavesInM Fence.wide 0 P q.fn (act1 q.fn.ntmps ρ').tmps X ρ'.ds .returning w':=by
     refine nf ρ'.ds h1.mks h1.toSep (fun K2 w2 c1 c2 c3=>?_)
     refine ⟨_,Fm (n:=q.fn.ntmps) (ρ:=ρ'.f) hres,?_⟩
     have g:=h1.unmark c1 c2 c2 c3
     have hm2:m <+: m':=g.hm
     have hm2':∀ (i:Nat) (x:M),m[i]? = some x→m'[i]? = some x:=fun _ _ k=>an hm2 k
     have hv:SV.rel m' K2 (σ'.ev q.fn.ntmps (.tmp j)) (Go.Proofs.YtfldcmoebihobaaGreatDoor.ev q.fn.ntmps ρ'.f (.tmp j)):=SV.monoC (fun _ _ h=>h) c1 _ (h1.toPur.ev q.fn.ntmps (.tmp j))
     have e2:σ'.Hf.map (HA.conc m)=σ.Hf.map (HA.conc fr.m):=by rw [h2.2]; exact hr.toPur.fz'
     have hs3:Sep E K2 (σ'.H.map (HA.conc m')++(σ.Hf.map (HA.conc fr.m)++fr.F)) w2:=by
       have:=c3.back (E:=E)
       rw [← e2]; exact this
     refine hX h'.unw ⟨σ.base,σ.top,σ'.H,σ.Hf,σ'.nx,false⟩ _ _ m' K2 w2 ⟨⟨hr.hm.trans hm2,hr.hK.trans c2,g.nx,fun e=>(by cases e),hr.base,hr.dead,hr.old,fun i sv hi=>SV.mono hm2' c2 sv (hr.top i sv hi),fun a ha=>g.okH a ha,hr.okF,hr.mks.mono c2⟩,hs3⟩ ⟨rfl,rfl⟩ hv h3
   cases e with
   | normal=>exact fini
   | ret=>exact fini
   | exit id=>cases hov
   | goto t=>cases hov
   | panic ch=>cases hov
   | outgrown=>cases hov
 exact key
theorem FN {J:Rn P} (hJ:JOk J) {o:Oper} {h:Hn P} {k:Hn P→Zt→Option R} {r:R} {ops:Array Oper} {rest:List Oper} {Q:Exit→Act→World→Prop} (hh:yop J n o h σ k=some r) (hr:Rel E fr σ m K ρ w) (hwt:Region.wanted o (yielded ops (act1 n ρ).tmps)=true)
   (hk:∀ h' σ' m' K' ρ' w',Rel E fr σ' m' K' ρ' w'→Same σ σ'→k h' σ'=some r→wpListIn (aB E.rd) 0 P ops Q rest (act1 n ρ') w'):wpListIn (aB E.rd) 0 P ops Q (o :: rest) (act1 n ρ) w:=by
 unfold yop at hh
 split at hh
 . rename_i d c args ats t pos af gu
   split at hh
   . rename_i q h1
     split at hh
     . rename_i f e
       have hv:=hr.toPur.ev n c
       rw [e] at hv
       obtain ⟨caps,hv,hcaps⟩:=hv
       obtain rfl:=aP hcaps
       unfold yP at hh
       split at hh
       . rename_i cc j hcc hres
         replace hh:=aj hh; obtain ⟨hb,hh⟩:=hh
         rw [Bool.and_eq_true] at hb
         obtain rfl:=Nat.eq_of_beq_eq_true hb.1
         unfold wpListIn
         rw [if_pos hwt]
         refine ⟨fun _ _=>trivial,?_⟩
         rw [uv rfl,bR]
         have hrun:(execOp (Go.Proofs.YtfldcmoebihobaaGreatDoor.ev n ρ.f) ⟨some d,.call ⟨.value c,args,ats⟩,t,pos,af,gu⟩).run P w = .ok (.enter q.f (args.toList.map (Go.Proofs.YtfldcmoebihobaaGreatDoor.ev n ρ.f)).toArray) w:=by
           have e2:(args.toList.map (Go.Proofs.YtfldcmoebihobaaGreatDoor.ev n ρ.f)).toArray=args.map (Go.Proofs.YtfldcmoebihobaaGreatDoor.ev n ρ.f):=Array.ext' (by rw [Array.toList_map])
           have hv':Go.Proofs.YtfldcmoebihobaaGreatDoor.ev n ρ.f c = .func (.func q.f) #[] #[]:=hv
           have:=q.ent (args.map (Go.Proofs.YtfldcmoebihobaaGreatDoor.ev n ρ.f)) w
           rw [e2]
           simp [execOp,resolve,Deferred.ofValue,hv',invoke,this]
         rw [hrun,Oper.uponIn_enter]
         refine ⟨fun hh=>(by cases (show false=true from hh)),?_⟩
         refine DF hJ hcc (r4 (fun x=>hr.toPur.evr n x) args.toList) hres (Nat.le_of_ble_eq_true hb.2) hh hr (fun h' σ1 sv v m' K' w' g1 g2 g3 g4=>?_)
         show wpListIn _ _ _ _ _ _ ((act1 n ρ).put (some d) v) _
         rw [bG]
         exact hk h' _ m' K' _ w' (g1.set (d:=d) (sv:=sv) (v:=v) g3) g2 g4
       . cases hh
     . cases hh
   . obtain ⟨l,hv,fn,tmps,ao,bo,hy,hround⟩:=Cm hJ hh hr (hr.toPur.ev n c) (r4 (fun x=>hr.toPur.evr n x) args.toList)
       (X:=fun e w''=>match e with
         | .returned v=>wpListIn (aB E.rd) 0 P ops Q rest ((act1 n ρ).put (some d) v) w''
         | .panicked chain=>Q (.panic chain) (act1 n ρ) w''
         | .outgrown=>LetsOut Q)
       (fun h' σ' m' K' w' b h1 h2 h3=>by
         show wpListIn _ _ _ _ _ _ ((act1 n ρ).put (some d) (.bool b)) _
         rw [bG]
         exact hk h' _ m' K' _ w' (h1.set (d:=d) (sv := .bool b) (v := .bool b) rfl) h2 h3)
     unfold wpListIn
     rw [if_pos hwt]
     refine ⟨fun _ _=>trivial,?_⟩
     rw [uv rfl,bR]
     have hrun:(execOp (Go.Proofs.YtfldcmoebihobaaGreatDoor.ev n ρ.f) ⟨some d,.call ⟨.value c,args,ats⟩,t,pos,af,gu⟩).run P w = .ok (.round l fn tmps ao bo) w:=by
       have e:(args.toList.map (Go.Proofs.YtfldcmoebihobaaGreatDoor.ev n ρ.f)).toArray=args.map (Go.Proofs.YtfldcmoebihobaaGreatDoor.ev n ρ.f):=Array.ext' (by rw [Array.toList_map])
       rw [e] at hy
       have hv':Go.Proofs.YtfldcmoebihobaaGreatDoor.ev n ρ.f c = .func (.yield l) #[] #[]:=hv
       simp [execOp,resolve,Deferred.ofValue,hv',invoke,hy]
     rw [hrun,Oper.uponIn_round]
     refine ⟨fun hh=>(by cases (show false=true from hh)),hround.mono (fun e w'' he=>?_)⟩
     cases e <;> exact he
 . cases hh
theorem Ef {fn:Func} {tmps:Array Value} (h:fn.results.isEmpty=true):∃ v,(results fn tmps).run P w = .ok v w:=by
 have h':fn.results = #[]:=by simpa using h
 refine ⟨.tuple #[],?_⟩
 unfold results
 simp [h']
theorem EP {J:Rn P} (hJ:JOk J) {ps:Array Nat} {ao bo:Code} {h0:Hn P} {k:Exit→Hn P→Zt→Option R} {r:R} {Q:Exit→Act→World→Prop} {q:ItFn P} {c:Code} (hc:q.fn.body=some c) {cs:List SV} {us:List Value} (hus:SV.relL m K cs us)
   (hres:q.fn.results.isEmpty=true) (hlen:cs.length + 1≤q.fn.ntmps)
   (hh : J q.fn.ntmps c R h0 ⟨fun _ => .any, slA 0 (.yld σ.nx n σ.get ps ao bo :: cs), .lp σ.nx .ready :: σ.H, σ.Hf, σ.nx + 1, false⟩ (fun e h σ' =>
         bif oF e then (match pick (HA.lpR σ.nx) σ'.H with
           | some (s,H)=>LSt.go s k h ⟨σ.base,σ.top,H,σ.Hf,σ'.nx,false⟩
           | none=>none) else none)=some r)
   (hr:Rel E fr σ m K ρ w) {l:Nat} {mark:List Deferred} {K1:Hp} {w1:World} {fn1:FuncId} {D:Nat}
   (hs1:Sep E K1 (LpA l { state := .ready,pending:=none,fn:=fn1,tmps:=frm n ρ.f,params:=ps,assign:=ao,body:=bo,defers:=D } :: σ.atoms fr m) w1) (hK1:K.le K1) (hm1:MOk fr.k0 K1 (mark++ρ.ds))
   (hQ:∀ e h' σ' m' K' ρ' w',Rel E fr σ' m' K' ρ' w'→Same σ σ'→k e h' σ'=some r→Q e (act1 n ρ') w') :
   CallsIn (aB E.rd) 0 P q.f (#[.func (.yield l) #[] #[]]++us.toArray) w1 (rangePost (aB E.rd) 0 P l Q { act1 n ρ with defers:=mark++(act1 n ρ).defers }):=by
 obtain ⟨r1,hr1⟩:∃ r1:Loop,r1 = { state := .ready,pending:=none,fn:=fn1,tmps:=frm n ρ.f,params:=ps,assign:=ao,body:=bo,defers:=D }:=⟨_,rfl⟩
 rw [← hr1] at hs1
 obtain ⟨args,hargs⟩:∃ args:Array Value,args=(Value.func (.yield l) #[] #[] :: us).toArray:=⟨_,rfl⟩
 have hargs':(#[.func (.yield l) #[] #[]]++us.toArray:Array Value)=args:=by rw [hargs]; exact Array.ext' (by simp)
 rw [hargs']
 have hp:=ax m [M.loop l r1]
 have hmm:∀ (i:Nat) (x:M),m[i]? = some x→(m++[M.loop l r1])[i]? = some x:=fun _ _ k=>an hp k
 have hgn:(m++[M.loop l r1])[σ.nx]? = some (.loop l r1):=aL hr.nx
 have hsz:args.size≤q.fn.ntmps:=by
   rw [hargs,List.size_toArray,List.length_cons,nE hus]
   exact hlen
 have hall:SV.relL (m++[M.loop l r1]) K1 (.yld σ.nx n σ.get ps ao bo :: cs) (Value.func (.yield l) #[] #[] :: us) :=
   ⟨_,_,rfl,⟨l,r1,ρ.f,rfl,hgn,by rw [hr1],by rw [hr1],by rw [hr1],by rw [hr1],fun j=>SV.mono hmm hK1 _ (hr.toPur.get j)⟩,SV.monoL hmm hK1 _ hus⟩
 have hrel:Rel E.out0 ⟨m++[M.loop l r1],K1,ck args,fun _=>false,fr.F,K1⟩ ⟨fun _ => .any,slA 0 (.yld σ.nx n σ.get ps ao bo :: cs),.lp σ.nx .ready :: σ.H,σ.Hf,σ.nx + 1,false⟩ (m++[M.loop l r1]) K1 (ck args) w1:=by
   refine ⟨⟨List.prefix_refl _,Hp.le_refl K1,by simp [hr.nx],fun e=>(by cases e),fun i=>trivial,fun i e=>(by cases e),fun i _ => .inr rfl,fun i sv hi=>?_,fun a ha=>?_,fun a ha=>HA.ok_mono hmm hK1 (hr.toPur.all a (List.mem_append_right _ ha)),MOk.nil hm1.gk (Hp.le_refl K1)⟩,?_⟩
   . obtain ⟨j,u,e1,e2,e3⟩:=rK hall hi
     have:ck args i=u:=by
       show dE args i=u
       unfold dE
       rw [e1,Nat.zero_add,hargs]
       simp [e2]
     rw [this]; exact e3
   . rcases List.mem_cons.1 ha with rfl | ha
     . exact ⟨l,r1,hgn⟩
     . exact HA.ok_mono hmm hK1 (hr.okH a ha)
   . show Sep E.out0 K1 ((HA.lp σ.nx .ready :: σ.H).map (HA.conc (m++[M.loop l r1]))++(σ.Hf.map (HA.conc (m++[M.loop l r1]))++fr.F)) w1
     have e1:σ.H.map (HA.conc (m++[M.loop l r1]))=σ.H.map (HA.conc m):=cO (K:=K) hmm hr.okH
     have e2:σ.Hf.map (HA.conc (m++[M.loop l r1]))=σ.Hf.map (HA.conc fr.m):=(cO (K:=K) hmm (fun a ha=>hr.toPur.all a (List.mem_append_right _ ha))).trans hr.toPur.fz'
     rw [List.map_cons,e1,e2]
     have e3:HA.conc (m++[M.loop l r1]) (.lp σ.nx .ready)=LpA l r1:=by
       simp only [HA.conc,hgn]
       rw [hr1]; rfl
     rw [e3]
     exact hs1.out0
 have key:CallsIn Fence.wide 0 P q.f args w1 (rangePost (aB E.rd) 0 P l Q { act1 n ρ with defers:=mark++(act1 n ρ).defers }):=by
   refine callsIn_of_wp_marks (F:=Fence.wide) (n:=0) q.at_ hc trivial ?_
   rw [nP hsz]
   refine hJ q.fn.ntmps c R E.out0 ⟨m++[M.loop l r1],K1,ck args,fun _=>false,fr.F,K1⟩ (fun l2 e=>by cases e) h0 _ _ r _ K1 (ck args) w1 _ hh hrel (fun e h' σ' m' K' ρ' w' h1 h2 h3=>?_)
   replace h3:=aj h3; obtain ⟨hov,h3⟩:=h3
   have fini:LeavesInM Fence.wide 0 P q.fn (act1 q.fn.ntmps ρ').tmps (rangePost (aB E.rd) 0 P l Q { act1 n ρ with defers:=mark++(act1 n ρ).defers }) ρ'.ds .returning w':=by
     split at h3
     . rename_i s H hq
       obtain ⟨a,ha',hmem,hperm⟩:=bC hq
       obtain rfl:=sS ha'
       have hsub:∀ a∈H,a∈σ'.H:=fun a ha=>hperm.symm.subset (List.mem_cons_of_mem _ ha)
       refine nf ρ'.ds h1.mks h1.toSep (fun K2 w2 c1 c2 c3=>?_)
       obtain ⟨v,hv⟩:=Ef (P:=P) (w:=w2) (tmps:=(act1 q.fn.ntmps ρ').tmps) hres
       refine ⟨v,hv,?_⟩
       have g:=h1.unmark c1 c2 c2 c3
       have hmp:m++[M.loop l r1] <+: m':=g.hm
       have hgn':m'[σ.nx]? = some (.loop l r1):=an hmp hgn
       have hm2:m <+: m':=hp.trans hmp
       have hm2':∀ (i:Nat) (x:M),m[i]? = some x→m'[i]? = some x:=fun _ _ k=>an hm2 k
       have e2:σ'.Hf.map (HA.conc (m++[M.loop l r1]))=σ.Hf.map (HA.conc fr.m):=by
         rw [h2.2]
         exact (cO (K:=K) hmm (fun a ha=>hr.toPur.all a (List.mem_append_right _ ha))).trans hr.toPur.fz'
       have hs3:Sep E K2 (LpA l (s.cr r1) :: (H.map (HA.conc m')++(σ.Hf.map (HA.conc fr.m)++fr.F))) w2:=by
         have:=Sep.perm ((hperm.map (HA.conc m')).append_right (σ'.Hf.map (HA.conc (m++[M.loop l r1]))++fr.F)) c3.back
         rw [e2] at this
         simpa only [List.map_cons,HA.conc,hgn',List.cons_append] using this
       have hnb:(s.cr r1).state ≠ .busy:=by cases s <;> simp [LSt.cr]
       refine ⟨_,_,run_endLoop (LpA.at hs3) hnb,?_⟩
       have hs4:=(LpA.put (r':={ s.cr r1 with state := .exhausted }) hs3).drop
       have hKK:K.le K2:=hK1.trans c2
       have hrel4:Rel E fr ⟨σ.base,σ.top,H,σ.Hf,σ'.nx,false⟩ m' K2 ⟨ρ.f,mark++ρ.ds⟩ (w2.putObj l (.loop { s.cr r1 with state := .exhausted })) :=
         ⟨⟨hr.hm.trans hm2,hr.hK.trans hKK,g.nx,fun e=>(by cases e),hr.base,hr.dead,hr.old,fun i sv hi=>SV.mono hm2' hKK sv (hr.top i sv hi),fun a ha=>g.okH a (hsub a ha),hr.okF,hm1.mono c2⟩,hs4⟩
       cases s with
       | ready=>exact hQ .normal h' _ m' K2 ⟨ρ.f,mark++ρ.ds⟩ _ hrel4 ⟨rfl,rfl⟩ h3
       | ret=>exact wpIn_ret (hQ .ret h' _ m' K2 ⟨ρ.f,mark++ρ.ds⟩ _ hrel4 ⟨rfl,rfl⟩ h3)
       | exit id=>exact wpIn_exit (hQ (.exit id) h' _ m' K2 ⟨ρ.f,mark++ρ.ds⟩ _ hrel4 ⟨rfl,rfl⟩ h3)
     . cases h3
   cases e with
   | normal=>exact fini
   | ret=>exact fini
   | exit id=>cases hov
   | goto t=>cases hov
   | panic ch=>cases hov
   | outgrown=>cases hov
 exact key
theorem Di {J:Rn P} (hJ:JOk J) (hrd:jA E fr) {g:Operand} {ps:Array Nat} {ao bo:Code} {h:Hn P} {k:Exit→Hn P→Zt→Option R} {r:R} {Q:Exit→Act→World→Prop} (hh:pw J n g ps ao bo h σ k=some r) (hr:Rel E fr σ m K ρ w)
   (hQ:∀ e h' σ' m' K' ρ' w',Rel E fr σ' m' K' ρ' w'→Same σ σ'→k e h' σ'=some r→Q e (act1 n ρ') w'):(Code.rangeFunc g ps ao bo).wpIn (aB E.rd) 0 P Q (act1 n ρ) w:=by
 unfold pw at hh
 split at hh
 . rename_i q h0
   split at hh
   . rename_i f cs e
     split at hh
     . rename_i c hc
       replace hh:=aj hh; obtain ⟨hb,hh⟩:=hh
       simp only [Bool.and_eq_true] at hb
       obtain ⟨hb1,hb2,hb3⟩:=hb
       obtain rfl:=Nat.eq_of_beq_eq_true hb1
       have hv:=hr.toPur.ev n g
       rw [e] at hv
       obtain ⟨us,hv,hus⟩:=hv
       refine wpIn_rangeFunc (fun fn hfn=>?_)
       have tail:∀ {l:Nat} {mark:List Deferred} {K1:Hp} {w1:World} {D:Nat},(Instr.enterLoop fn (act1 n ρ).tmps ps ao bo E.rd).run P w = .ok (l,mark) w1 →
           Sep E K1 (LpA l { state := .ready,pending:=none,fn:=fn,tmps:=frm n ρ.f,params:=ps,assign:=ao,body:=bo,defers:=D } :: σ.atoms fr m) w1→K.le K1→MOk fr.k0 K1 (mark++ρ.ds) →
           ∃ (l:Nat) (mark:List Deferred) (w₁:World) (d:Deferred) (w₁':World) (f:FuncId) (args:Array Value) (w₂:World),
             (Instr.enterLoop fn (act1 n ρ).tmps ps ao bo (aB E.rd).round).run P w = .ok (l,mark) w₁ ∧
             (resolve (act1 n ρ).eval (rangeCall g l) 0).run P w₁ = .ok d w₁' ∧
             (∀ f',Target.leads P w₁' d.target d.args=some f'→(aB E.rd).fn f') ∧
             (invoke d.target d.args).run P w₁' = .ok (.enter f args) w₂ ∧
             ((aB E.rd).depth.isSome=true→1≤0) ∧
             CallsIn (aB E.rd) (0 - 1) P f args w₂ (rangePost (aB E.rd) 0 P l Q { act1 n ρ with defers:=mark++(act1 n ρ).defers }):=fun {l mark K1 w1 D} he hs1 hK1 hm1=>by
         refine ⟨l,mark,w1,{ target := .fn (.func q.f) us.toArray,args:=#[.func (.yield l) #[] #[]] },w1,q.f,#[.func (.yield l) #[] #[]]++us.toArray,w1,he,?_,fun _ _=>trivial,?_,fun hh=>(by cases (show false=true from hh)),?_⟩
         . have hv':Go.Proofs.YtfldcmoebihobaaGreatDoor.ev n ρ.f g = .func (.func q.f) #[] us.toArray:=hv
           rw [bR]
           have hc2:Go.Proofs.YtfldcmoebihobaaGreatDoor.ev n ρ.f (.const (.func (.yield l) #[] #[])) = .func (.yield l) #[] #[]:=rfl
           simp [resolve,Deferred.ofValue,hv',hc2]
         . exact q.ent _ _
         . exact EP hJ hc hus hb2 (Nat.le_of_ble_eq_true hb3) hh hr hs1 hK1 hm1 hQ
       cases hE:E.rd with
       | none =>
         rw [hE] at tail
         obtain ⟨s1,hD⟩:=(hr.toSep.allocO (.deferred (some []))).known
         have s2:=s1.allocO (.loop { state := .ready,pending:=none,fn:=fn,tmps:=frm n ρ.f,params:=ps,assign:=ao,body:=bo,defers:=w.heap.size })
         rw [World.size_alloc] at s2
         refine tail (run_enterLoop_outer fn _ ps ao bo) s2 (Hp.le_join _ _) ⟨⟨hr.mks.1.1,hr.mks.1.2.trans (Hp.le_join _ _)⟩,fun d hd=>?_,?_⟩
         . rcases List.mem_append.1 hd with hd | hd
           . simp only [List.mem_singleton] at hd
             subst hd
             refine ⟨w.heap.size,rfl,Hp.join_right (ba _ _) hD,?_⟩
             cases hk0:fr.k0 w.heap.size with
             | none=>rfl
             | some x=>rw [hr.mks.1.2 _ _ hk0] at hD; cases hD
           . obtain ⟨D',e1,e2,e3⟩:=hr.mks.2.1 d hd
             exact ⟨D',e1,Hp.le_join _ _ _ _ e2,e3⟩
         . refine List.nodup_cons.2 ⟨fun hd=>?_,hr.mks.2.2⟩
           obtain ⟨D',e1,e2,e3⟩:=hr.mks.2.1 _ hd
           simp only [Deferred.mk.injEq,Target.collected.injEq,and_true] at e1
           rw [← e1,hD] at e2
           cases e2
       | some l0 =>
         rw [hE] at tail
         obtain ⟨r0,hmem⟩:=hrd l0 hE
         have hw0:w.heap[l0]? = some (.loop r0):=by
           obtain ⟨i,hi⟩:=List.getElem?_of_mem (show LpA l0 r0∈σ.atoms fr m from List.mem_append_right _ (List.mem_append_right _ hmem))
           exact LpA.at (Sep.front i hi hr.toSep)
         exact tail (Bj hw0 fn _ ps ao bo) (hr.toSep.allocO _) (Hp.le_refl K) (by simpa using hr.mks)
     . cases hh
   . cases hh
 . cases hh
end
end
section
variable [BldA]
section
variable {R:Type} {P:Program} {E:En} {n:Nat} {m m':List M} {K K':Hp} {fr:Frz} {σ σ':Zt} {ρ ρ':Sl1} {w w':World}
theorem wV {c:Code} {f:Hn P→Zt→(R:Type)→(Exit→Hn P→Zt→Option R)→Option R} (hf:Fok P n c f) (hrd:jA E fr) {s:Sh} {act W:List Nat} {a b:Hn P} {k:Hn P→Zt→Option R} {r:R} {Q:Exit→Act→World→Prop} (h:jq f s act W a b σ k=some r) (hr:Rel E fr σ m K ρ w)
   (hQ:∀ h' σ' m' K' ρ' w',Rel E fr σ' m' K' ρ' w'→Same σ σ'→k h' σ'=some r→Q .normal (Go.Proofs.YtfldcmoebihobaaGreatDoor.act1 n ρ') w'):c.wpIn (aB E.rd) 0 P Q (Go.Proofs.YtfldcmoebihobaaGreatDoor.act1 n ρ) w:=by
 unfold jq at h
 obtain ⟨x,hx,h⟩:=ob h
 refine hf _ E ⟨m,K,ρ,fun _=>false,fr.F,fr.k0⟩ hrd a (σ.frz act) _ x m K ρ w Q hx (hr.frz act) (fun e h' σ' m' K' ρ' w' h1 h2 h3=>?_)
 cases e with
 | normal =>
   obtain ⟨h'',σ2,m2,K2,g1,g2,g3⟩:=aN h' h3 h1
   have hi:Inn σ fr ⟨m,K,ρ,fun _=>false,fr.F,fr.k0⟩ m K ρ (bJ σ.H act) σ2 W:=⟨rfl,rfl,rfl,rfl,rfl,(g2.2.trans h2.2),gI,fun _ _=>rfl⟩
   obtain ⟨σ3,m3,q1,q2,q3⟩:=oI hr hi g3 g1 h
   exact hQ b σ3 m3 K2 ρ' w' q3 q2 q1
 | _=>cases h3
theorem xj {c:Code} {f:Hn P→Zt→(R:Type)→(Exit→Hn P→Zt→Option R)→Option R} (hf:Fok P n c f) (hrd:jA E fr) {s:Sh} {act W:List Nat} {a b:Hn P} {k:Exit→Hn P→Zt→Option R} {r:R} {Q:Exit→Act→World→Prop} (h:jr f s act W a b σ k=some r) (hr:Rel E fr σ m K ρ w)
   (hQ:∀ e h' σ' m' K' ρ' w',Rel E fr σ' m' K' ρ' w'→Same σ σ'→k e h' σ'=some r→Q e (Go.Proofs.YtfldcmoebihobaaGreatDoor.act1 n ρ') w'):c.wpIn (aB E.rd) 0 P Q (Go.Proofs.YtfldcmoebihobaaGreatDoor.act1 n ρ) w:=by
 unfold jr at h
 obtain ⟨o,ho,h⟩:=ob h
 refine hf _ E ⟨m,K,ρ,fun _=>false,fr.F,fr.k0⟩ hrd a (σ.frz act) _ o m K ρ w Q ho (hr.frz act) (fun e h' σ' m' K' ρ' w' h1 h2 h3=>?_)
 have other:(k e h' (σ.thaw σ' (bJ σ.H act) [])).map Sum.inr=some o→Q e (Go.Proofs.YtfldcmoebihobaaGreatDoor.act1 n ρ') w':=fun h3=>by
   rw [Option.map_eq_some_iff] at h3
   obtain ⟨r',h4,rfl⟩:=h3
   cases h
   have hi:Inn σ fr ⟨m,K,ρ,fun _=>false,fr.F,fr.k0⟩ m K ρ (bJ σ.H act) σ' []:=⟨rfl,rfl,rfl,rfl,rfl,h2.2,gI,fun _ _=>rfl⟩
   obtain ⟨q1,q2⟩:=r7 hr hi h1
   exact hQ e h' _ m' K' ρ' w' q2 q1 h4
 cases e with
 | normal =>
   obtain ⟨h'',σ2,m2,K2,g1,g2,g3⟩:=aN h' h3 h1
   rw [Option.map_eq_some_iff] at g1
   obtain ⟨x,g1,rfl⟩:=g1
   have hi:Inn σ fr ⟨m,K,ρ,fun _=>false,fr.F,fr.k0⟩ m K ρ (bJ σ.H act) σ2 W:=⟨rfl,rfl,rfl,rfl,rfl,(g2.2.trans h2.2),gI,fun _ _=>rfl⟩
   obtain ⟨σ3,m3,q1,q2,q3⟩:=oI hr hi g3 g1 h
   exact hQ .normal b σ3 m3 K2 ρ' w' q3 q2 q1
 | _=>exact other h3
theorem E1 {s:Sh} {W:List Nat} {rest:List HA} {x:TL s.ts} (hr:Rel E fr σ m K ρ w) {g:Gt} {f:Nat→SV} {H:List HA} {us:List ab}
   (hg:s.get f H=some g) (hx:TL.of s.ts g.ds=some x) (hok:∀ a∈H,HA.ok m' K' a) (hf:∀ i,SV.rel m' K' (f i) (ρ' i)) (hmm:m <+: m') (hKK:K.le K') (hrest:∀ a∈rest,a∈σ.H) (hs:Sep E K' (H.map (HA.conc m')++(us++(rest.map (HA.conc m)++σ.fz fr))) w')
   (hds:MOk fr.k0 K' ρ'.ds) (hold:∀ i,i∉W→ρ' i=ρ i) {vs:List (Nat×SV)} {u:Un} (hu:s.un (TL.list s.ts x) σ.nx=some (vs,u)) :
   ∃ m'',Rel E ⟨m,K,ρ,fun i=>W.contains i,fr.F,fr.k0⟩ ⟨fun i=>bif W.contains i then .any else σ.get i,bn (bE σ) vs,u.H.map (HA.sub (bE σ)),rest++σ.Hf,u.nx,false⟩ m'' K' ρ' w':=by
 rw [TL.of_list hx] at hu
 have hoo:bA s.bl m.length=true:=by
   unfold Sh.un at hu
   rw [hr.nx]
   cases ho:bA s.bl σ.nx with
   | true=>rfl
   | false=>rw [ho] at hu; cases hu
 obtain ⟨vs',u',ms,e1,e2,e3,e4,e5,e6,e7,e8⟩:=Sh.get_un hg hok hmm hoo
 rw [hr.nx,hu] at e1
 cases e1
 have hp':=ax m ms
 refine ⟨m++ms,Rel.subs (σ:=⟨fun i=>bif W.contains i then .any else σ.get i,vs,u.H,rest++σ.Hf,u.nx,false⟩) (nD hr.toPur (m':=m++ms) (fun _ _ k=>an hp' k) hKK) ⟨⟨ax m ms,hKK,e2,fun e=>(by cases e),fun i=>?_,fun i hi=>?_,fun i hi=>?_,fun i sv hi=>nV e3 hi _ (hf i),e4,fun a ha=>?_,hds⟩,?_⟩⟩
 . show SV.rel m K (bif W.contains i then .any else σ.get i) (ρ i)
   cases W.contains i with
   | true=>exact trivial
   | false=>exact hr.toPur.get i
 . show (bif W.contains i then SV.any else σ.get i) = .any
   have hi:W.contains i=true:=hi
   rw [hi]; rfl
 . by_cases hW:i∈W
   . exact .inl (by simpa using hW)
   . exact .inr (hold i hW)
 . refine hr.toPur.all a ?_
   rcases List.mem_append.1 ha with ha | ha
   . exact List.mem_append_left _ (hrest a ha)
   . exact List.mem_append_right _ ha
 . have s1:=e6 E _ w' hs
   have s2:Sep E K' ((g.H.map (HA.conc m')++us)++(u.H.map (HA.conc (m++ms))++(rest.map (HA.conc m)++σ.fz fr))) w':=Sep.perm (by
     rw [List.append_assoc]
     refine (ju _ _ _).trans (List.Perm.append_left _ (ju _ _ _)) ) s1
   show Sep E K' (u.H.map (HA.conc (m++ms))++((rest++σ.Hf).map (HA.conc m)++fr.F)) w'
   rw [List.map_append,hr.toPur.fz',List.append_assoc]
   exact Sep.drops s2
theorem vE {s:Sh} {ds:List Dat} {nx:Nat} {o:List (Nat×SV)×Un} (h:s.un ds nx=some o):bA s.bl nx=true:=by
 unfold Sh.un at h
 cases ho:bA s.bl nx with
 | true=>rfl
 | false=>rw [ho] at h; cases h
theorem DG {c:Code} {f:Hn P→Zt→(R:Type)→(Exit→Hn P→Zt→Option R)→Option R} (hf:Fok P n c f) (hrd:jA E fr) {s:Sh} {W:List Nat} {a:Hn P} {k:Exit→Hn P→Zt→Option R} {r:R} {Q:Exit→Act→World→Prop} (h:oU f s W a σ k=some r) (hr:Rel E fr σ m K ρ w)
   (hQ:∀ e h' σ' m' K' ρ' w',Rel E fr σ' m' K' ρ' w'→Same σ σ'→k e h' σ'=some r→Q e (Go.Proofs.YtfldcmoebihobaaGreatDoor.act1 n ρ') w'):(Code.loop c).wpIn (aB E.rd) 0 P Q (Go.Proofs.YtfldcmoebihobaaGreatDoor.act1 n ρ) w:=by
 unfold oU at h
 split at h
 . rename_i g hg
   split at h
   . rename_i x0 hx0
     obtain ⟨N,hN⟩:=ro h
     refine wpIn_loop_rounds N ?_
     -- a round's head
     have round:∀ (N:Nat) (x:TL s.ts) (m1:List M) (K1:Hp) (ρ1:Sl1) (w1:World) (vs:List (Nat×SV)) (u:Un),cv (la f s W g a σ k) N x=some r→s.un (TL.list s.ts x) σ.nx=some (vs,u) →
         Rel E ⟨m,K,ρ,fun i=>W.contains i,fr.F,fr.k0⟩ ⟨fun i=>bif W.contains i then .any else σ.get i,bn (bE σ) vs,u.H.map (HA.sub (bE σ)),g.H++σ.Hf,u.nx,false⟩ m1 K1 ρ1 w1→Code.roundsIn (aB E.rd) 0 P c Q N (Go.Proofs.YtfldcmoebihobaaGreatDoor.act1 n ρ1) w1:=by
       intro N
       induction N with
       | zero=>intro x m1 K1 ρ1 w1 vs u hi; cases hi
       | succ N ih =>
         intro x m1 K1 ρ1 w1 vs u hi hu hrel
         unfold cv at hi
         obtain ⟨o,ho,hi⟩:=ob hi
         rw [roundsIn_succ]
         unfold la at ho
         rw [hu] at ho
         simp only at ho
         have hgsub:∀ a∈g.H,a∈σ.H:=by
           obtain ⟨_,_,_,_,_,_,_,e5,_⟩:=Sh.get_un (m:=m) (K:=K) hg hr.okH (List.prefix_refl m) (by rw [hr.nx]; exact vE hu)
           exact e5
         refine hf _ E ⟨m,K,ρ,fun i=>W.contains i,fr.F,fr.k0⟩ hrd a _ _ o m1 K1 ρ1 w1 _ ho hrel (fun e h' σ' m' K' ρ' w' h1 h2 h3=>?_)
         have other:e ≠ .normal→(k e h' (σ.thaw σ' g.H W)).map Sum.inr=some o→Q e (Go.Proofs.YtfldcmoebihobaaGreatDoor.act1 n ρ') w':=fun _ h3=>by
           rw [Option.map_eq_some_iff] at h3
           obtain ⟨r',h4,rfl⟩:=h3
           cases hi
           have hii:Inn σ fr ⟨m,K,ρ,fun i=>W.contains i,fr.F,fr.k0⟩ m K ρ g.H σ' W:=⟨rfl,rfl,rfl,rfl,rfl,h2.2,hgsub,fun i hi=>by simpa using hi⟩
           obtain ⟨q1,q2⟩:=r7 hr hii h1
           exact hQ e h' _ m' K' ρ' w' q2 q1 h4
         cases e with
         | normal =>
           obtain ⟨h'',σ2,m2,K2,g1,g2,g3⟩:=aN h' h3 h1
           rw [Option.map_eq_some_iff] at g1
           obtain ⟨x',g1,rfl⟩:=g1
           have hsame:=h2.trans g2
           unfold Zt.pack at g1
           replace g1:=aj g1; obtain ⟨hk,g1⟩:=g1
           split at g1
           . rename_i g' hg'
             cases hu':s.un (TL.list s.ts x') σ.nx with
             | none =>
               -- the next round would not run
               cases N with
               | zero=>cases hi
               | succ N =>
                 unfold cv at hi
                 obtain ⟨o2,ho2,_⟩:=ob hi
                 unfold la at ho2
                 rw [hu'] at ho2
                 cases ho2
             | some q =>
               obtain ⟨vs',u'⟩:=q
               have hii:Inn σ fr ⟨m,K,ρ,fun i=>W.contains i,fr.F,fr.k0⟩ m K ρ g.H σ2 W:=⟨rfl,rfl,rfl,rfl,rfl,hsame.2,hgsub,fun i hi=>by simpa using hi⟩
               obtain ⟨m'',hrel'⟩:=E1 (W:=W) (rest:=g.H) (us:=[]) hr hg' g1 g3.okH g3.toPur.get g3.hm g3.hK hgsub (by rw [List.nil_append]; exact hii.sep hr g3) g3.mks (fun i hi=>by
                 have:=g3.old i (nj hk hi)
                 rcases this with h4 | h4
                 . exact absurd (by simpa using h4) hi
                 . exact h4) hu'
               exact ih x' m'' K2 ρ' w' vs' u' hi hu' hrel'
           . cases g1
         | exit i=>exact other nofun h3
         | goto l=>exact other nofun h3
         | ret=>exact other nofun h3
         | panic c=>exact other nofun h3
         | outgrown=>exact other nofun h3
     cases hu:s.un (TL.list s.ts x0) σ.nx with
     | none =>
       cases N with
       | zero=>cases hN
       | succ N =>
         unfold cv at hN
         obtain ⟨o2,ho2,_⟩:=ob hN
         unfold la at ho2
         rw [hu] at ho2
         cases ho2
     | some q =>
       obtain ⟨vs,u⟩:=q
       have hu2:=hu
       rw [TL.of_list hx0] at hu2
       obtain ⟨vs',u',ms,e1,e2,e3,e4,e5,e6,e7,e8⟩:=Sh.get_un (m:=m) (K:=K) hg hr.okH (List.prefix_refl m) (by rw [hr.nx]; exact vE hu2)
       rw [hr.nx,hu2] at e1
       cases e1
       have hp':=ax m ms
       refine round N x0 (m++ms) K ρ w vs u hN hu (Rel.subs (σ:=⟨fun i=>bif W.contains i then .any else σ.get i,vs,u.H,g.H++σ.Hf,u.nx,false⟩) (nD hr.toPur (m':=m++ms) (fun _ _ k=>an hp' k) (Hp.le_refl K)) ⟨⟨ax m ms,Hp.le_refl K,e2,fun e=>(by cases e),fun i=>?_,fun i hi=>?_,fun i hi => .inr rfl,fun i sv hi=>nV e3 hi _ (hr.toPur.get i),e4,fun a ha=>?_,hr.mks⟩,?_⟩)
       . show SV.rel m K (bif W.contains i then .any else σ.get i) (ρ i)
         cases W.contains i with
         | true=>exact trivial
         | false=>exact hr.toPur.get i
       . show (bif W.contains i then SV.any else σ.get i) = .any
         have hi:W.contains i=true:=hi
         rw [hi]; rfl
       . refine hr.toPur.all a ?_
         rcases List.mem_append.1 ha with ha | ha
         . exact List.mem_append_left _ (e5 a ha)
         . exact List.mem_append_right _ ha
       . have s1:=e6 E _ w hr.toSep
         show Sep E K (u.H.map (HA.conc (m++ms))++((g.H++σ.Hf).map (HA.conc m)++fr.F)) w
         rw [List.map_append,hr.toPur.fz',List.append_assoc]
         exact s1
   . cases h
 . cases h
theorem vI {c:Code} {f:Hn P→Zt→(R:Type)→(Exit→Hn P→Zt→Option R)→Option R} (hf:Fok P n c f) (hrd:jA E fr) {k:Exit→Hn P→Zt→Option R} {r:R} {Q:Exit→Act→World→Prop}
   (hQ:∀ e h' σ' m' K' ρ' w',Rel E fr σ' m' K' ρ' w'→Same σ σ'→k e h' σ'=some r→Q e (Go.Proofs.YtfldcmoebihobaaGreatDoor.act1 n ρ') w'):∀ (N:Nat) {h:Hn P} {σ1:Zt} {m:List M} {K:Hp} {ρ:Sl1} {w:World},lr (fun h σ k=>f h σ _ k) k N h σ1=some r→Rel E fr σ1 m K ρ w→Same σ σ1→Code.roundsIn (aB E.rd) 0 P c Q N (Go.Proofs.YtfldcmoebihobaaGreatDoor.act1 n ρ) w
 | 0,h,σ1,m,K,ρ,w,hh,hr,hs=>by cases hh
 | N + 1,h,σ1,m,K,ρ,w,hh,hr,hs=>by
   rw [roundsIn_succ]
   unfold lr at hh
   refine hf _ E fr hrd h σ1 _ r m K ρ w _ hh hr (fun e h' σ' m' K' ρ' w' h1 h2 h3=>?_)
   cases e with
   | normal=>exact vI hf hrd hQ N h3 h1 (hs.trans h2)
   | exit i=>exact hQ _ h' σ' m' K' ρ' w' h1 (hs.trans h2) h3
   | goto i=>exact hQ _ h' σ' m' K' ρ' w' h1 (hs.trans h2) h3
   | ret=>exact hQ _ h' σ' m' K' ρ' w' h1 (hs.trans h2) h3
   | panic i=>exact hQ _ h' σ' m' K' ρ' w' h1 (hs.trans h2) h3
   | outgrown=>exact hQ _ h' σ' m' K' ρ' w' h1 (hs.trans h2) h3
theorem vR {y:Code} {k:Exit→Hn P→Zt→Option R} {f:Hn P→Zt→Option R} {r:R} {Q:Exit→Act→World→Prop} {σ0:Zt} (hf:∀ h' σ' m' K' ρ' w',Rel E fr σ' m' K' ρ' w'→Same σ0 σ'→f h' σ'=some r→y.wpIn (aB E.rd) 0 P Q (Go.Proofs.YtfldcmoebihobaaGreatDoor.act1 n ρ') w')
   (hQ:∀ e h' σ' m' K' ρ' w',Rel E fr σ' m' K' ρ' w'→Same σ0 σ'→k e h' σ'=some r→Q e (Go.Proofs.YtfldcmoebihobaaGreatDoor.act1 n ρ') w'):∀ e h' σ' m' K' ρ' w',Rel E fr σ' m' K' ρ' w'→Same σ0 σ'→jl k f e h' σ'=some r→Exit.then (y.wpIn (aB E.rd) 0 P Q) Q e (Go.Proofs.YtfldcmoebihobaaGreatDoor.act1 n ρ') w':=by
 intro e h' σ' m' K' ρ' w' h1 h2 h3
 cases e with
 | normal=>exact hf h' σ' m' K' ρ' w' h1 h2 h3
 | exit i=>exact hQ _ h' σ' m' K' ρ' w' h1 h2 h3
 | goto i=>exact hQ _ h' σ' m' K' ρ' w' h1 h2 h3
 | ret=>exact hQ _ h' σ' m' K' ρ' w' h1 h2 h3
 | panic i=>exact hQ _ h' σ' m' K' ρ' w' h1 h2 h3
 | outgrown=>exact hQ _ h' σ' m' K' ρ' w' h1 h2 h3
theorem cg {J:Rn P} (hJ:JOk J):∀ (c:Code),Fok P n c (fun h σ R k=>exec J n c h σ k)
 | .skip=>fun R E fr hrd h σ k r m K ρ w Q hh hr hQ=>wpIn_skip (hQ _ h σ m K ρ w hr Same.rfl' hh)
 | .ret=>fun R E fr hrd h σ k r m K ρ w Q hh hr hQ=>wpIn_ret (hQ _ h σ m K ρ w hr Same.rfl' hh)
 | .exit id=>fun R E fr hrd h σ k r m K ρ w Q hh hr hQ=>wpIn_exit (hQ _ h σ m K ρ w hr Same.rfl' hh)
 | .label l=>fun R E fr hrd h σ k r m K ρ w Q hh hr hQ=>wpIn_label (hQ _ h σ m K ρ w hr Same.rfl' hh)
 | .scope b=>fun R E fr hrd h σ k r m K ρ w Q hh hr hQ=>by
   refine As (cg hJ b R E fr hrd h σ _ r m K ρ w _ (show exec J n b h σ (xW k)=some r from hh) hr (fun e h' σ' m' K' ρ' w' h1 h2 h3=>?_))
   cases e with
   | goto l=>cases h3
   | normal=>exact hQ _ h' σ' m' K' ρ' w' h1 h2 h3
   | exit i=>exact hQ _ h' σ' m' K' ρ' w' h1 h2 h3
   | ret=>exact hQ _ h' σ' m' K' ρ' w' h1 h2 h3
   | panic i=>exact hQ _ h' σ' m' K' ρ' w' h1 h2 h3
   | outgrown=>exact hQ _ h' σ' m' K' ρ' w' h1 h2 h3
 | .region id ops draw=>fun R E fr hrd h σ k r m K ρ w Q hh hr hQ=>by
   change (bif !ops.toList.all b9 then none else bif draw then aA h σ fun h σ=>jE n ops.toList h σ fun h σ=>(match h with | .mix plan fin tail act r=>tU n ops plan fin tail act r σ (k .normal) | .tr t s act a b=>trS n ops t s act a b σ (k .normal) | _=>none) else aA h σ fun h σ=>tV J n ops h σ (k .normal))=some r at hh
   replace hh:=dJ hh; obtain ⟨hn,hh⟩:=hh
   have hn:ops.toList.all b9=true:=by simpa using hn
   cases draw with
   | false =>
     simp only [cond_false] at hh
     obtain ⟨h1,σ1,m1,K1,hh,g1,hr⟩:=aN h hh hr
     replace hQ:∀ e h' σ' m' K' ρ' w',Rel E fr σ' m' K' ρ' w'→Same σ1 σ'→k e h' σ'=some r→Q e (act1 n ρ') w':=fun e h' σ' m' K' ρ' w' q1 q2 q3=>hQ e h' σ' m' K' ρ' w' q1 (g1.trans q2) q3
     clear g1
     unfold tV at hh
     split at hh
     . rename_i q h2
       have key:wpListIn (aB E.rd) 0 P ops Q (ops.toList.take q++ops.toList.drop q) (act1 n ρ) w:=by
         have hn1:(ops.toList.take q).all b9=true:=List.all_eq_true.2 (fun x hx=>List.all_eq_true.1 hn x (List.mem_of_mem_take hx))
         have hn2:(ops.toList.drop q).all b9=true:=List.all_eq_true.2 (fun x hx=>List.all_eq_true.1 hn x (List.mem_of_mem_drop hx))
         refine qC hn1 ?_
         have:=iV (ops:=ops) (Q:=fun e a w=>e = .normal∧wpListIn (aB E.rd) 0 P ops Q (ops.toList.drop q) a w) (ops.toList.take q) 0 hh hr (fun h' σ' m' K' ρ' w' h1 h2 h3=>?_)
         . simpa using this
         . refine ⟨rfl,?_⟩
           split at h3
           . rename_i o rest hd
             rw [hd] at hn2 ⊢
             simp only [List.all_cons,Bool.and_eq_true] at hn2
             obtain ⟨dst,op,t,pos,af,gu⟩:=o
             obtain ⟨h4,σ4,s4,hr4,hg⟩:=jc h3 h1
             rcases hg with ⟨hw,hg⟩ | ⟨hw,hg⟩
             . refine FN hJ hg hr4 hw (fun h'' σ'' m'' K'' ρ'' w'' g1 g2 g3=>?_)
               have:=iV (ops:=ops) (Q:=Q) rest 0 g3 g1 (fun h3 σ3 m3 K3 ρ3 w3 b1 b2 b3=>hQ _ h3 σ3 m3 K3 ρ3 w3 b1 (((h2.trans s4).trans g2).trans b2) b3)
               exact iF hn2.2 (by simpa using this)
             . unfold wpListIn
               rw [if_neg (by rw [hw]; exact Bool.false_ne_true)]
               refine ⟨fun _ _=>trivial,?_⟩
               cases dst with
               | none =>
                 have:=iV (ops:=ops) (Q:=Q) rest 0 hg hr4 (fun h3 σ3 m3 K3 ρ3 w3 b1 b2 b3=>hQ _ h3 σ3 m3 K3 ρ3 w3 b1 ((h2.trans s4).trans b2) b3)
                 exact iF hn2.2 (by rw [List.drop_zero] at this; exact this)
               | some d =>
                 show wpListIn _ _ _ _ _ _ ((act1 n ρ').put (some d) undef) _
                 rw [bG]
                 have:=iV (ops:=ops) (Q:=Q) rest 0 hg (hr4.set (d:=d) (sv := .raw undef) (v:=undef) rfl) (fun h3 σ3 m3 K3 ρ3 w3 b1 b2 b3=>hQ _ h3 σ3 m3 K3 ρ3 w3 b1 (((h2.trans s4).trans ⟨rfl,rfl⟩).trans b2) b3)
                 exact iF hn2.2 (by simpa using this)
           . cases h3
       rw [List.take_append_drop] at key
       have:=wpIn_region_lit (id:=id) (l:=ops.toList) (by simpa using key)
       simpa using this
     . have:=wpIn_region_lit (id:=id) (iF (r:=E.rd) (n:=0) hn (iV (Q:=Q) (ops:=ops.toList.toArray) ops.toList 0 (by simpa using hh) hr (fun h' σ' m' K' ρ' w' h1 h2 h3=>hQ _ h' σ' m' K' ρ' w' h1 h2 h3)))
       simpa using this
   | true =>
     simp only [cond_true] at hh
     obtain ⟨h1,σ1,m1,K1,hh,g1,hr⟩:=aN h hh hr
     obtain ⟨h2,σ2,m2,hh,g2,hr⟩:=yg h1 hh hr
     replace hQ:∀ e h' σ' m' K' ρ' w',Rel E fr σ' m' K' ρ' w'→Same σ2 σ'→k e h' σ'=some r→Q e (act1 n ρ') w':=fun e h' σ' m' K' ρ' w' q1 q2 q3=>hQ e h' σ' m' K' ρ' w' q1 ((g1.trans g2).trans q2) q3
     clear g1 g2
     generalize K1=K at hr
     generalize m2=m at hr
     generalize σ2=σ at hr hh hQ
     split at hh
     . rename_i plan fin tail act' h0
       unfold tU at hh
       replace hh:=bN hh; obtain ⟨hm,hB,hh⟩:=hh
       have hB':lO .any ops.toList.toArray plan fin tail=true:=by simpa using hB
       have hfr:=(hr.frz act').drew
       have hplan:∀ s i,(s,i)∈plan→i < ops.toList.length:=by
         intro s i hi
         have h0:=hB
         unfold lO at h0
         simp only [Bool.and_eq_true] at h0
         obtain ⟨_,h1⟩:=h0
         split at h1
         . rename_i l1 hl1
           simpa using vz plan _ _ hl1 s i hi
         . cases h1
       have key:=om (l:=ops.toList) (Q:=Q) plan hh hfr rfl hplan (fun h' σ' m' K' ρ' w' h1 h2 h3=>by
         have hi:Inn σ fr ⟨m,K,ρ,fun _=>false,fr.F,fr.k0⟩ m K ρ (bJ σ.H act') σ' []:=⟨rfl,rfl,rfl,rfl,rfl,h2.2,gI,fun _ _=>rfl⟩
         obtain ⟨z1,z2⟩:=r7 hr hi h1
         have:=iV (ops:=ops.toList.toArray) (Q:=Q) (bc ops.toList tail) 0 (by simpa using h3) z2 (fun h'' σ'' m'' K'' ρ'' w'' b1 b2 b3=>hQ .normal h'' σ'' m'' K'' ρ'' w'' b1 (z1.trans b2) b3)
         rwa [List.drop_zero] at this)
       have:=A4 (id:=id) (Q:=Q) plan fin tail hm hB' _ hfr.cfz rfl rfl rfl key hn (r:=E.rd) (n:=0)
       simpa using this
     . rename_i t s act' a b
       unfold trS at hh
       replace hh:=bN hh; obtain ⟨hm,hB,hh⟩:=hh
       obtain ⟨x,hx,hh⟩:=ob hh
       have hfr:=(hr.frz act').drew
       have key:=ox (l:=ops.toList) (F:=fun a' w'=>ap P ops.toList.toArray Q (bc ops.toList []) a' w') t hx hfr rfl (fun h' σ' m' K' ρ' w' h1 h2 h3=>by
         obtain ⟨h'',σ2,m2,K2,g1,g2,g3⟩:=aN h' h3 h1
         have hi:Inn σ fr ⟨m,K,ρ,fun _=>false,fr.F,fr.k0⟩ m K ρ (bJ σ.H act') σ2 (s.sl.map (·.1)++aw ops.toList):=⟨rfl,rfl,rfl,rfl,rfl,(g2.2.trans h2.2),gI,fun _ _=>rfl⟩
         obtain ⟨σ3,m3,q1,q2,q3⟩:=oI hr hi g3 g1 hh
         exact hQ .normal b σ3 m3 K2 ρ' w' q3 q2 q1)
       have:=AM (id:=id) (Q:=Q) t [] hm hB _ hfr.cfz rfl key hn (r:=E.rd) (n:=0)
       simpa using this
     . cases hh
 | .seq a b=>fun R E fr hrd h σ k r m K ρ w Q hh hr hQ=>by
   have plain:∀ h0,exec J n a h0 σ (jl k (fun h σ=>exec J n b h σ k))=some r→(Code.seq a b).wpIn (aB E.rd) 0 P Q (act1 n ρ) w:=fun h0 hh =>
     wpIn_seq (cg hJ a R E fr hrd h0 σ _ r m K ρ w _ hh hr (vR (σ0:=σ) (fun h' σ' m' K' ρ' w' h1 h2 h3=>cg hJ b R E fr hrd h' σ' k r m' K' ρ' w' Q h3 h1 (fun e h'' σ'' m'' K'' ρ'' w'' q1 q2 q3=>hQ e h'' σ'' m'' K'' ρ'' w'' q1 (h2.trans q2) q3)) hQ))
   cases h with
   | sq mk s act ha hb =>
     have hh:(match Zt.mcs mk σ with | some σ=>jq (fun h σ R k=>exec J n a h σ k) s act (s.sl.map (·.1)++bI a) ha hb σ (fun h σ=>exec J n b h σ k) | none=>none)=some r:=hh
     split at hh
     . rename_i σ1 hm
       obtain ⟨m1,k1,k2⟩:=lq hm hr
       refine wpIn_seq (wV (cg hJ a) hrd hh k2 (fun h' σ' m' K' ρ' w' h1 h2 h3=>?_))
       exact cg hJ b R E fr hrd h' σ' k r m' K' ρ' w' Q h3 h1 (fun e h'' σ'' m'' K'' ρ'' w'' q1 q2 q3=>hQ e h'' σ'' m'' K'' ρ'' w'' q1 ((k1.trans h2).trans q2) q3)
     . cases hh
   | sx mk s act ha hb =>
     have hh:(match Zt.mcs mk σ with | some σ=>jr (fun h σ R k=>exec J n a h σ k) s act (s.sl.map (·.1)++bI a) ha hb σ (jl k (fun h σ=>exec J n b h σ k)) | none=>none)=some r:=hh
     split at hh
     . rename_i σ1 hm
       obtain ⟨m1,k1,k2⟩:=lq hm hr
       refine wpIn_seq (xj (cg hJ a) hrd hh k2 ?_)
       exact vR (σ0:=σ1) (fun h' σ' m' K' ρ' w' h1 h2 h3=>cg hJ b R E fr hrd h' σ' k r m' K' ρ' w' Q h3 h1 (fun e h'' σ'' m'' K'' ρ'' w'' q1 q2 q3=>hQ e h'' σ'' m'' K'' ρ'' w'' q1 ((k1.trans h2).trans q2) q3)) (fun e h' σ' m' K' ρ' w' q1 q2 q3=>hQ e h' σ' m' K' ρ' w' q1 (k1.trans q2) q3)
     . cases hh
   | pl h=>exact plain h hh
   | nil=>exact plain _ hh
   | two _ _ _=>exact plain _ hh
   | tw _ _ _=>exact plain _ hh
   | jn _ _ _ _ _=>exact plain _ hh
   | jx _ _ _ _ _=>exact plain _ hh
   | lp _ _=>exact plain _ hh
   | un _ _=>exact plain _ hh
   | per _ _ _=>exact plain _ hh
   | perb _ _ _ _=>exact plain _ hh
   | mc _ _ _ _=>exact plain _ hh
   | ms _ _=>exact plain _ hh
   | wt _ _=>exact plain _ hh
   | cl _ _ _=>exact plain _ hh
   | c2 _ _ _ _=>exact plain _ hh
   | gp _ _=>exact plain _ hh
   | gj _ _ _ _ _=>exact plain _ hh
   | mix _ _ _ _ _=>exact plain _ hh
   | opn _ _ _=>exact plain _ hh
   | opb _ _ _=>exact plain _ hh
   | cls _ _ _=>exact plain _ hh
   | opp _ _ _ _=>exact plain _ hh
   | ot _ _=>exact plain _ hh
   | cm _ _ _ _=>exact plain _ hh
   | cm2 _ _ _ _ _=>exact plain _ hh
   | tr _ _ _ _ _=>exact plain _ hh
   | tru _=>exact plain _ hh
   | yl _ _=>exact plain _ hh
   | rg _ _=>exact plain _ hh
   | il _ _=>exact plain _ hh
 | .cond c x y=>fun R E fr hrd h σ k r m K ρ w Q hh hr hQ=>by
   obtain ⟨h1,σ1,m1,K1,g1,g2,g3⟩:=aN h (show aA h σ (fun h σ=>tz c (σ.evr n c) h σ (fun h σ=>exec J n x h σ k) (fun h σ=>exec J n y h σ k))=some r from hh) hr
   have hv:=g3.toPur.evr n c
   have goX:∀ h2 σ2,Rel E fr σ2 m1 K1 ρ w→Same σ σ2→exec J n x h2 σ2 k=some r→x.wpIn (aB E.rd) 0 P Q (act1 n ρ) w:=fun h2 σ2 q1 q2 q3 =>
     cg hJ x R E fr hrd h2 σ2 k r m1 K1 ρ w Q q3 q1 (fun e h'' σ'' m'' K'' ρ'' w'' p1 p2 p3=>hQ e h'' σ'' m'' K'' ρ'' w'' p1 (q2.trans p2) p3)
   have goY:∀ h2 σ2,Rel E fr σ2 m1 K1 ρ w→Same σ σ2→exec J n y h2 σ2 k=some r→y.wpIn (aB E.rd) 0 P Q (act1 n ρ) w:=fun h2 σ2 q1 q2 q3 =>
     cg hJ y R E fr hrd h2 σ2 k r m1 K1 ρ w Q q3 q1 (fun e h'' σ'' m'' K'' ρ'' w'' p1 p2 p3=>hQ e h'' σ'' m'' K'' ρ'' w'' p1 (q2.trans p2) p3)
   have slot:∀ (d:Nat) (sv:SV),c = .tmp d→σ1.evr n c=sv→sv ≠ .any→σ1.get d=sv:=fun d sv hc he hne=>by
     subst hc
     cases hh:Nat.blt d n with
     | false =>
       have:σ1.evr n (.tmp d) = .any:=by show (bif Nat.blt d n then σ1.get d else .any)=_; rw [hh]; rfl
       rw [this] at he; exact absurd he.symm hne
     | true =>
       have:σ1.evr n (.tmp d)=σ1.get d:=by show (bif Nat.blt d n then σ1.get d else .any)=_; rw [hh]; rfl
       rw [← this]; exact he
   unfold tz at g1
   split at g1
   . rename_i jm w0 e
     rw [e] at hv
     obtain ⟨hj,hv⟩:=hv
     split at g1
     . rename_i t
       have hb:ev n ρ c = .bool t:=hv
       rw [hb] at hj
       refine wpIn_cond_split (t:=t) (by rw [bR]; exact hb) (fun ht=>?_) (fun ht=>?_)
       . subst ht
         split at g1
         . exact goX _ _ (g3.fix (v := .bool true) hj rfl) (g2.trans ⟨rfl,rfl⟩) g1
         . exact goX _ σ1 g3 g2 g1
         . exact goX _ σ1 g3 g2 g1
       . subst ht
         split at g1
         . exact goY _ _ (g3.fix (v := .bool false) hj rfl) (g2.trans ⟨rfl,rfl⟩) g1
         . exact goY _ σ1 g3 g2 g1
         . exact goY _ σ1 g3 g2 g1
     . cases g1
   . rename_i t e
     rw [e] at hv
     have hb:ev n ρ c = .bool t:=hv
     refine wpIn_cond_split (t:=t) (by rw [bR]; exact hb) (fun ht=>?_) (fun ht=>?_)
     . subst ht
       split at g1
       . rename_i ha hbn d _
         have hg:=slot d _ rfl e nofun
         exact goX ha _ (g3.ref (fun _ _ u hu=>by rw [hg] at hu; exact hu) (by rw [hg]; nofun)) (g2.trans ⟨rfl,gU.2⟩) g1
       . exact goX _ σ1 g3 g2 g1
       . exact goX _ σ1 g3 g2 g1
     . subst ht
       split at g1
       . rename_i ha hbn d _
         have hg:=slot d _ rfl e nofun
         exact goY hbn _ (g3.ref (fun _ _ u hu=>by rw [hg] at hu; exact hu) (by rw [hg]; nofun)) (g2.trans ⟨rfl,gU.2⟩) g1
       . exact goY _ σ1 g3 g2 g1
       . exact goY _ σ1 g3 g2 g1
   . rename_i tp l ng e
     rw [e] at hv
     obtain ⟨q,hb,hl⟩:=hv
     refine wpIn_cond_split (t:=q ^^ ng) (by rw [bR]; exact hb) (fun ht=>?_) (fun ht=>?_)
     . split at g1
       . rename_i ha hbn _
         cases ng with
         | true =>
           rw [Bool.xor_true] at ht
           simp only [cond_true] at g1
           exact goX ha _ g3 g2 (vS g1)
         | false =>
           rw [Bool.xor_false] at ht
           simp only [cond_false] at g1
           exact goX ha _ g3 g2 (wy (hl ht) g1)
       . cases g1
     . split at g1
       . rename_i ha hbn _
         cases ng with
         | true =>
           rw [Bool.xor_true] at ht
           simp only [cond_true] at g1
           exact goY hbn _ g3 g2 (wy (hl (by simpa using ht)) g1)
         | false =>
           rw [Bool.xor_false] at ht
           simp only [cond_false] at g1
           exact goY hbn _ g3 g2 (vS g1)
       . cases g1
   . cases g1
 | .block id b=>fun R E fr hrd h σ k r m K ρ w Q hh hr hQ=>by
   have blk:∀ {R:Type} {k:Exit→Hn P→Zt→Option R} {r:R} {Q:Exit→Act→World→Prop} {fr:Frz} {σ:Zt},(∀ e h' σ' m' K' ρ' w',Rel E fr σ' m' K' ρ' w'→Same σ σ'→k e h' σ'=some r→Q e (act1 n ρ') w') →
       ∀ e h' σ' m' K' ρ' w',Rel E fr σ' m' K' ρ' w'→Same σ σ'→fy id k e h' σ'=some r→Exit.inBlock id Q e (act1 n ρ') w':=by
     intro R k r Q fr σ hQ e h' σ' m' K' ρ' w' h1 h2 h3
     cases e with
     | exit i =>
       change (bif Nat.beq i id then k .normal h' σ' else k (.exit i) h' σ')=some r at h3
       show if i=id then _ else _
       cases hb:Nat.beq i id with
       | true =>
         rw [hb] at h3
         rw [if_pos (Nat.eq_of_beq_eq_true hb)]
         exact hQ _ h' σ' m' K' ρ' w' h1 h2 h3
       | false =>
         rw [hb] at h3
         rw [if_neg (fun e=>by rw [e,Nat.beq_refl] at hb; cases hb)]
         exact hQ _ h' σ' m' K' ρ' w' h1 h2 h3
     | normal=>exact hQ _ h' σ' m' K' ρ' w' h1 h2 h3
     | goto l=>exact hQ _ h' σ' m' K' ρ' w' h1 h2 h3
     | ret=>exact hQ _ h' σ' m' K' ρ' w' h1 h2 h3
     | panic i=>exact hQ _ h' σ' m' K' ρ' w' h1 h2 h3
     | outgrown=>exact hQ _ h' σ' m' K' ρ' w' h1 h2 h3
   have fb:Fok P n (.block id b) (fun h σ R k=>exec J n b h σ (fy id k)):=fun R E fr hrd h σ k r m K ρ w Q hh hr hQ=>by
     refine wpIn_block (cg hJ b R E fr hrd h σ _ r m K ρ w _ hh hr ?_)
     intro e h' σ' m' K' ρ' w' h1 h2 h3
     cases e with
     | exit i =>
       change (bif Nat.beq i id then k .normal h' σ' else k (.exit i) h' σ')=some r at h3
       show if i=id then _ else _
       cases hb:Nat.beq i id with
       | true =>
         rw [hb] at h3
         rw [if_pos (Nat.eq_of_beq_eq_true hb)]
         exact hQ _ h' σ' m' K' ρ' w' h1 h2 h3
       | false =>
         rw [hb] at h3
         rw [if_neg (fun e=>by rw [e,Nat.beq_refl] at hb; cases hb)]
         exact hQ _ h' σ' m' K' ρ' w' h1 h2 h3
     | normal=>exact hQ _ h' σ' m' K' ρ' w' h1 h2 h3
     | goto l=>exact hQ _ h' σ' m' K' ρ' w' h1 h2 h3
     | ret=>exact hQ _ h' σ' m' K' ρ' w' h1 h2 h3
     | panic i=>exact hQ _ h' σ' m' K' ρ' w' h1 h2 h3
     | outgrown=>exact hQ _ h' σ' m' K' ρ' w' h1 h2 h3
   have plain:∀ h0,exec J n b h0 σ (fy id k)=some r→(Code.block id b).wpIn (aB E.rd) 0 P Q (act1 n ρ) w:=fun h0 hh=>fb R E fr hrd h0 σ k r m K ρ w Q hh hr hQ
   cases h with
   | jn mk s act ha hb =>
     have hh:(match Zt.mcs mk σ with | some σ=>jq (fun h σ R k=>exec J n b h σ (fy id k)) s act (s.sl.map (·.1)++bI b) ha hb σ (k .normal) | none=>none)=some r:=hh
     split at hh
     . rename_i σ1 hm
       obtain ⟨m1,k1,k2⟩:=lq hm hr
       exact wV fb hrd hh k2 (fun h' σ' m' K' ρ' w' h1 h2 h3=>hQ _ h' σ' m' K' ρ' w' h1 (k1.trans h2) h3)
     . cases hh
   | jx mk s act ha hb =>
     have hh:(match Zt.mcs mk σ with | some σ=>jr (fun h σ R k=>exec J n b h σ (fy id k)) s act (s.sl.map (·.1)++bI b) ha hb σ k | none=>none)=some r:=hh
     split at hh
     . rename_i σ1 hm
       obtain ⟨m1,k1,k2⟩:=lq hm hr
       exact xj fb hrd hh k2 (fun e h' σ' m' K' ρ' w' q1 q2 q3=>hQ e h' σ' m' K' ρ' w' q1 (k1.trans q2) q3)
     . cases hh
   | pl h=>exact plain _ hh
   | nil=>exact plain _ hh
   | two _ _ _=>exact plain _ hh
   | tw _ _ _=>exact plain _ hh
   | sq _ _ _ _ _=>exact plain _ hh
   | sx _ _ _ _ _=>exact plain _ hh
   | lp _ _=>exact plain _ hh
   | un _ _=>exact plain _ hh
   | per _ _ _=>exact plain _ hh
   | perb _ _ _ _=>exact plain _ hh
   | mc _ _ _ _=>exact plain _ hh
   | ms _ _=>exact plain _ hh
   | wt _ _=>exact plain _ hh
   | cl _ _ _=>exact plain _ hh
   | c2 _ _ _ _=>exact plain _ hh
   | gp _ _=>exact plain _ hh
   | gj _ _ _ _ _=>exact plain _ hh
   | mix _ _ _ _ _=>exact plain _ hh
   | opn _ _ _=>exact plain _ hh
   | opb _ _ _=>exact plain _ hh
   | cls _ _ _=>exact plain _ hh
   | opp _ _ _ _=>exact plain _ hh
   | ot _ _=>exact plain _ hh
   | cm _ _ _ _=>exact plain _ hh
   | cm2 _ _ _ _ _=>exact plain _ hh
   | tr _ _ _ _ _=>exact plain _ hh
   | tru _=>exact plain _ hh
   | yl _ _=>exact plain _ hh
   | rg _ _=>exact plain _ hh
   | il _ _=>exact plain _ hh
 | .loop b=>fun R E fr hrd h σ k r m K ρ w Q hh hr hQ=>by
   obtain ⟨h1,σ1,m1,K1,g1,g2,g3⟩:=aN h (show aA h σ (fun h σ=>match h with
     | .un m r=>lr (fun h σ k=>exec J n b h σ k) k m r σ
     | .lp s ha=>oU (fun h σ R k=>exec J n b h σ k) s (s.sl.map (·.1)++bI b) ha σ k
     | _=>none)=some r from hh) hr
   have hQ':∀ e h' σ' m' K' ρ' w',Rel E fr σ' m' K' ρ' w'→Same σ1 σ'→k e h' σ'=some r→Q e (act1 n ρ') w':=fun e h'' σ'' m'' K'' ρ'' w'' p1 p2 p3=>hQ e h'' σ'' m'' K'' ρ'' w'' p1 (g2.trans p2) p3
   split at g1
   . exact wpIn_loop_rounds _ (vI (cg hJ b) hrd hQ' _ g1 g3 Same.rfl')
   . exact DG (cg hJ b) hrd g1 g3 hQ'
   . cases g1
 | .rangeFunc g ps ao bo=>fun R E fr hrd h σ k r m K ρ w Q hh hr hQ=>by
   obtain ⟨h1,σ1,m1,K1,g1,g2,g3⟩:=aN h (show aA h σ (fun h σ=>pw J n g ps ao bo h σ k)=some r from hh) hr
   exact Di hJ hrd g1 g3 (fun e h'' σ'' m'' K'' ρ'' w'' p1 p2 p3=>hQ e h'' σ'' m'' K'' ρ'' w'' p1 (g2.trans p2) p3)
 | .goto l=>fun R E fr hrd h σ k r m K ρ w Q hh hr hQ=>by cases hh
 | .refuse s=>fun R E fr hrd h σ k r m K ρ w Q hh hr hQ=>by cases hh
theorem wU:∀ d:Nat,JOk (tK (P:=P) d)
 | 0=>fun n c R E fr hrd h σ k r m K ρ w Q hh hr hQ=>by cases hh
 | d + 1=>fun n c=>cg (wU d) c
end
end
section
variable [BldA]
def dL (P:Program) (n:Nat) (σ:Zt):List ResultVar→Option (List SV)
 | []=>some []
 | .tmp t :: r=>(match dL P n σ r with | some vs=>some (σ.ev n (.tmp t) :: vs) | none=>none)
 | .cell a ty :: r=>(match σ.ev n (.tmp a) with
   | .ptr i o=>(match aO (HA.blkR i) (σ.H++σ.Hf) with
     | some q=>(match ldv P ty q.cs o,dL P n σ r with | some v,some vs=>some (v :: vs) | _,_=>none)
     | none=>none)
   | _=>none)
def Ac:List SV→SV
 | [v]=>v
 | vs => .tup vs
def fG (σ:Zt) (rs:List SV) (o:Sh):Option (TL o.ts):=bif (match rs,o.sl with | [],[]=>true | _ :: _,[p]=>Nat.beq p.1 0 | _,_=>false) then (match o.get (fun _=>Ac rs) σ.H with | some g=>TL.of o.ts g.ds | none=>none) else none
def pB {P:Program} (σ:Zt) (rs:List SV):(os:List Sh)→Hn P→Option (cD os)
 | [a],_=>fG σ rs a
 | [a,b],h=>(match h with | .pl _=>(fG σ rs b).map Sum.inr | _=>(fG σ rs a).map Sum.inl)
 | _,_=>none
def pM {P:Program} (n:Nat) (fn:Func) (os:List Sh) (h:Hn P) (σ:Zt):Option (cD os):=aA h σ fun h σ=>match dL P n σ fn.results.toList with | some rs=>pB σ rs os h | none=>none
def fin {P:Program} (n:Nat) (fn:Func) (os:List Sh) (e:Exit) (h:Hn P) (σ:Zt):Option (cD os):=match e with
 | .normal=>pM n fn os h σ
 | .ret=>pM n fn os h σ
 | _=>none
def ue {P:Program} (n:Nat) (fn:Func) (c:Code) (inn:Sh) (os:List Sh) (h:Hn P) (x:TL inn.ts):Option (cD os):=match inn.un (TL.list inn.ts x) 0 with
 | some (vs,u)=>aA h ⟨fun _ => .any,vs,u.H,[],u.nx,false⟩ fun h σ=>exec (tK 4) n c h σ (fin n fn os)
 | none=>none
section
variable {P:Program} {E:En} {n:Nat} {m:List M} {K:Hp} {fr:Frz} {σ:Zt} {ρ:Sl1} {w:World}
theorem sr (hr:Rel E fr σ m K ρ w):∀ {l:List ResultVar} {rs:List SV},dL P n σ l=some rs→∃ us:List Value,SV.relL m K rs us∧l.length=us.length∧∀ (j:Nat) (r:ResultVar) (v:Value),l[j]? = some r→us[j]? = some v→lH P n (Hold E K (σ.atoms fr m)) ρ r v
 | [],rs,h=>by cases h; exact ⟨[],rfl,rfl,fun j r v h=>by simp at h⟩
 | .tmp t :: l,rs,h=>by
   unfold dL at h
   split at h
   . rename_i vs hvs
     cases h
     obtain ⟨us,h1,h2,h3⟩:=sr hr hvs
     refine ⟨ev n ρ (.tmp t) :: us,⟨_,us,rfl,hr.toPur.ev n (.tmp t),h1⟩,by simp [h2],fun j r v hj hv=>?_⟩
     cases j with
     | zero=>simp at hj hv; subst hj hv; rfl
     | succ j=>exact h3 j r v (by simpa using hj) (by simpa using hv)
   . cases h
 | .cell a ty :: l,rs,h=>by
   unfold dL at h
   split at h
   . rename_i i o e
     split at h
     . rename_i q hq
       split at h
       . rename_i v vs hv hvs
         cases h
         obtain ⟨us,h1,h2,h3⟩:=sr hr hvs
         obtain ⟨x,hx,hmem⟩:=bp hq
         obtain rfl:=cI hx
         obtain ⟨b,ws,g1,g2,g3⟩:=hr.cls.blk hmem
         obtain ⟨u,g4,g5⟩:=lg (P:=P) (o0:=0) hv g2 (fun j u hu=>by rw [Nat.zero_add]; exact g3 j u hu)
         rw [Nat.zero_add] at g4
         have hev:=hr.toPur.ev n (.tmp a)
         rw [e] at hev
         obtain ⟨b',q1,q2⟩:=hev
         rw [g1] at q1; cases q1
         refine ⟨u :: us,⟨_,us,rfl,g5,h1⟩,by simp [h2],fun j r v hj hv=>?_⟩
         cases j with
         | zero=>simp at hj hv; subst hj hv; exact ⟨b,o,q2,g4⟩
         | succ j=>exact h3 j r v (by simpa using hj) (by simpa using hv)
       . cases h
     . cases h
   . cases h
theorem xi {C:World→Prop} {w:World} (hw:C w):∀ {l:List ResultVar} {us:List Value},l.length=us.length→(∀ (j:Nat) (r:ResultVar) (v:Value),l[j]? = some r→us[j]? = some v→lH P n C ρ r v)→(l.mapM (rvS (frm n ρ))).run P w = .ok us w
 | [],us,h,_=>by
   obtain rfl:us=[]:=List.length_eq_zero_iff.1 h.symm
   simp
 | r :: l,us,h,hr=>by
   cases us with
   | nil=>cases h
   | cons u us =>
     have h1:=yW (hr 0 r u rfl rfl) hw
     have h2:=xi hw (l:=l) (us:=us) (by simpa using h) (fun j r v hj hv=>hr (j + 1) r v (by simpa using hj) (by simpa using hv))
     simp [List.mapM_cons,h1,h2]
def lQ:List Value→Value
 | [v]=>v
 | vs => .tuple vs.toArray
theorem Ep {C:World→Prop} {w:World} (hw:C w) {fn:Func} {us:List Value} (hl:fn.results.toList.length=us.length) (h:∀ (j:Nat) (r:ResultVar) (v:Value),fn.results.toList[j]? = some r→us[j]? = some v→lH P n C ρ r v):(results fn (frm n ρ)).run P w = .ok (lQ us) w:=by
 have h1:=xi hw hl h
 rw [uT]
 simp only [Array.mapM_eq_mapM_toList]
 simp only [Sem.run_bind,Sem.run_map,h1,Result.andThen_ok,Sem.run_pure]
 match us with
 | []=>rfl
 | [u]=>rfl
 | u :: v :: r =>
   rw [dif_neg (by simp)]
   rfl
theorem Eh {rs:List SV} {us:List Value} (h:SV.relL m K rs us) (hne:rs≠[]):SV.rel m K (Ac rs) (lQ us):=by
 match rs,us,h with
 | [],_,_=>exact absurd rfl hne
 | [v],us,h =>
   obtain ⟨u,q,rfl,h1,h2⟩:=aH h
   obtain rfl:=aP h2
   exact h1
 | v :: v2 :: r,us,h =>
   obtain ⟨u,q,rfl,h1,h2⟩:=aH h
   obtain ⟨u2,q2,rfl,h3,h4⟩:=aH h2
   exact ⟨_,rfl,u,_,rfl,h1,u2,q2,rfl,h3,h4⟩
theorem sy {rs:List SV} {us:List Value} {o:Sh} {x:TL o.ts} {K0:Hp} {m0:List M} (h:fG σ rs o=some x) (hr:Rel E fr σ m K ρ w) (hrel:SV.relL m K rs us) (hm:m0 <+: m) (ho:bA o.bl m0.length=true) (hF:σ.Hf=[]) :
   ∃ vs' u' m',o.un (TL.list o.ts x) m0.length=some (vs',u')∧m0 <+: m'∧m'.length=u'.nx∧(∀ a∈u'.H,HA.ok m' K a)∧jI m' K vs' (lQ us)∧Sep E K (u'.H.map (HA.conc m')++fr.F) w:=by
 unfold fG at h
 replace h:=aj h; obtain ⟨hs,h⟩:=h
 split at h
 . rename_i g hg
   obtain ⟨vs,u,ms,e1,e2,e3,e4,e5,e6,e7,e8⟩:=Sh.get_un hg hr.okH hm ho
   rw [TL.of_list h]
   refine ⟨vs,u,m0++ms,e1,ax _ _,e2,e4,?_,?_⟩
   . split at hs
     . rename_i hsl
       rw [hsl] at e3
       obtain rfl:vs=[]:=e3
       obtain rfl:=aP hrel
       rfl
     . rename_i v r p hsl
       rw [hsl] at e3
       obtain ⟨sv,q,rfl,g1,g2⟩:=e3
       obtain rfl:q=[]:=g2
       exact g1 _ (Eh hrel (by simp))
     . cases hs
   . have:=e6 E _ w hr.toSep
     have h2:σ.fz fr=fr.F:=by unfold Zt.fz; rw [hF]; rfl
     rw [h2] at this
     have h3:Sep E K (g.H.map (HA.conc m)++(u.H.map (HA.conc (m0++ms))++fr.F)) w:=Sep.perm (ju _ _ _) this
     exact Sep.drops h3
 . cases h
theorem ED {rs:List SV} {us:List Value} {m0:List M} (hr:Rel E fr σ m K ρ w) (hrel:SV.relL m K rs us) (hm:m0 <+: m) (hF:σ.Hf=[]):∀ {os:List Sh} {h0:Hn P} {r:cD os},(∀ o∈os,bA o.bl m0.length=true)→pB σ rs os h0=some r →
   ∃ vs' u' m',(c9 os r).1.un (c9 os r).2 m0.length=some (vs',u')∧m0 <+: m'∧m'.length=u'.nx∧(∀ a∈u'.H,HA.ok m' K a)∧jI m' K vs' (lQ us)∧Sep E K (u'.H.map (HA.conc m')++fr.F) w
 | [],h0,r,_,h=>Empty.elim r
 | [a],h0,r,ho,h=>sy (K0:=K) (show fG σ rs a=some r from h) hr hrel hm (ho a (by simp)) hF
 | [a,b],h0,r,ho,h=>by
   have key:(fG σ rs b).map Sum.inr=some r∨(fG σ rs a).map Sum.inl=some r:=by
     cases h0 <;> first | exact .inl h | exact .inr h
   clear h
   rcases key with h | h
   . rw [Option.map_eq_some_iff] at h
     obtain ⟨x,h,rfl⟩:=h
     exact sy (K0:=K) h hr hrel hm (ho b (by simp)) hF
   . rw [Option.map_eq_some_iff] at h
     obtain ⟨x,h,rfl⟩:=h
     exact sy (K0:=K) h hr hrel hm (ho a (by simp)) hF
 | a :: b :: c :: os,h0,r,_,h=>by cases h
theorem vO:∀ {sl:List (Nat×Kd)} {vs:List (Nat×SV)} {us:List Value} {j N:Nat},slN j sl N=true→vs.map (·.1)=sl.map (·.1)→slR m K vs us→∀ i sv,aq vs i=some sv→∃ k u,i=j + k∧us[k]? = some u∧SV.rel m K sv u
 | [],vs,us,j,N,h1,h2,h3,i,sv,hl=>by
   have:vs=[]:=by cases vs with | nil=>rfl | cons a b=>cases h2
   subst this; cases hl
 | p :: sl,vs,us,j,N,h1,h2,h3,i,sv,hl=>by
   cases vs with
   | nil=>cases h2
   | cons q vs =>
     simp only [List.map_cons,List.cons.injEq] at h2
     simp only [slN,Bool.and_eq_true] at h1
     have hj:=Nat.eq_of_beq_eq_true h1.1
     obtain ⟨u,r,rfl,g1,g2⟩:=h3
     change (bif Nat.beq q.1 i then some q.2 else aq vs i)=some sv at hl
     cases hb:Nat.beq q.1 i with
     | true =>
       rw [hb] at hl; cases hl
       have:=Nat.eq_of_beq_eq_true hb
       exact ⟨0,u,by rw [← this,h2.1,hj]; rfl,rfl,g1⟩
     | false =>
       rw [hb] at hl
       obtain ⟨k,u',e1,e2,e3⟩:=vO h1.2 h2.2 g2 i sv hl
       exact ⟨k + 1,u',by omega,by simpa using e2,e3⟩
theorem wm {bi:List Nat}:∀ {sl:List (Nat×Kd)} {u u':Un} {vs:List (Nat×SV)},unS bi sl u=some (vs,u')→vs.map (·.1)=sl.map (·.1)
 | [],u,u',vs,h=>by cases h; rfl
 | p :: sl,u,u',vs,h=>by
   unfold unS at h
   split at h
   . split at h
     . rename_i h2
       cases h
       simp [wm h2]
     . cases h
   . cases h
theorem EG {s:Sh} {ds:List Dat} {nx:Nat} {vs:List (Nat×SV)} {u:Un} (h:s.un ds nx=some (vs,u)):vs.map (·.1)=s.sl.map (·.1):=by
 unfold Sh.un at h
 replace h:=(aj h).2
 split at h
 split at h
 . rename_i h1
   split at h
   . cases h; exact wm h1
   . cases h
 . cases h
theorem xQ:∀ {vs:List (Nat×SV)} {us:List Value},slR m K vs us→us.length=vs.length
 | [],us,h=>by obtain rfl:us=[]:=h; rfl
 | p :: vs,us,⟨u,r,e,_,h⟩=>by subst e; simp [xQ h]
end
section
variable {P:Program} {E:En} {n:Nat} {m:List M} {K:Hp} {fr:Frz} {σ:Zt} {ρ:Sl1} {w:World}
theorem r9 {b:Bool}:∀ l:List ResultVar,dL P n ⟨σ.base,σ.top,σ.H,σ.Hf,σ.nx,b⟩ l=dL P n σ l
 | []=>rfl
 | .tmp t :: r=>by unfold dL; rw [r9 r]; rfl
 | .cell a ty :: r=>by unfold dL; rw [r9 r]; rfl
theorem Et {b:Bool} {rs:List SV}:∀ {os:List Sh} {h:Hn P},pB ⟨σ.base,σ.top,σ.H,σ.Hf,σ.nx,b⟩ rs os h=pB σ rs os h
 | [],h=>rfl
 | [a],h=>rfl
 | [a,b],h=>by cases h <;> rfl
 | a :: b :: c :: os,h=>rfl
end
section
variable {P:Program} {n:Nat}
theorem IS {s:Spec} {fn:Func} {c:Code} (hf:P.funcs[s.f]? = some fn) (hb:fn.body=some c) (hn:fn.ntmps=n) (h:Hn P) (hc:(slN 0 s.inn.sl s.inn.sl.length&&Nat.ble s.inn.sl.length n)=true) (hold:∀ ds vs u,s.inn.un ds 0=some (vs,u)→∀ o∈s.outs,bA o.bl u.nx=true)
   (hex:∀ (x:TL s.inn.ts) r,s.fn x=some r→ue n fn c s.inn s.outs h x=some r):cX P s:=by
 intro x r hx vs u hu m K args hgk hm hok hsl E w F hs
 rw [Bool.and_eq_true] at hc
 obtain ⟨hc1,hc2⟩:=hc
 have hkeys:=EG hu
 have hlen:args.toArray.size≤n:=by
   have h1:=xQ hsl
   have h2:vs.length=s.inn.sl.length:=by have:=congrArg List.length hkeys; simpa using this
   simp only [List.size_toArray]
   have:=Nat.le_of_ble_eq_true hc2
   omega
 refine callsIn_wide.1 (callsIn_of_wp_marks (F:=Fence.wide) (n:=0) hf hb trivial ?_)
 rw [hn,nP hlen]
 have hrun:=hex x r hx
 unfold ue at hrun
 rw [hu] at hrun
 simp only at hrun
 have hrel:Rel E.out0 ⟨m,K,ck args.toArray,fun _=>false,F,K⟩ ⟨fun _ => .any,vs,u.H,[],u.nx,false⟩ m K (ck args.toArray) w:=by
   refine ⟨⟨List.prefix_refl m,Hp.le_refl K,hm,fun e=>(by cases e),fun i=>trivial,fun i e=>rfl,fun i _ => .inr rfl,fun i sv hi=>?_,hok,fun a ha=>by simp at ha,MOk.nil hgk (Hp.le_refl K)⟩,?_⟩
   . obtain ⟨k,v,e1,e2,e3⟩:=vO hc1 hkeys hsl i sv hi
     have:ck args.toArray i=v:=by
       show dE args.toArray i=v
       unfold dE
       rw [e1,Nat.zero_add]
       simp [e2]
     rw [this]; exact e3
   . exact hs.out0
 obtain ⟨hp,σp,mp,Kp,p1,p2,p3⟩:=aN h hrun hrel
 refine cg (wU 4) c (cD s.outs) E.out0 ⟨m,K,ck args.toArray,fun _=>false,F,K⟩ (fun l e=>by cases e) hp σp (fin n fn s.outs) r mp Kp _ w _ p1 p3 (fun e h' σ' m' K' ρ' w' h1 h2 h3=>?_)
 have fini:pM n fn s.outs h' σ'=some r→LeavesInM Fence.wide 0 P fn (act1 n ρ').tmps (fun e w'=>∃ v K' L',e = .returned v∧(∃ vs' u' m',(c9 s.outs r).1.un (c9 s.outs r).2 u.nx=some (vs',u')∧m <+: m'∧m'.length=u'.nx∧(∀ a∈u'.H,HA.ok m' K' a)∧jI m' K' vs' v∧L'=u'.H.map (HA.conc m'))∧K.le K'∧Sep E K' (L'++F) w') (act1 n ρ').defers .returning w':=fun h3=>by
   unfold pM at h3
   obtain ⟨h'',σ2,m2,K2,g1,g2,g3⟩:=aN h' h3 h1
   split at g1
   . rename_i rs hrs
     refine nf ρ'.ds g3.mks g3.toSep (fun K3 w3 c1 c2 c3=>?_)
     have g4:=g3.unmark c1 c2 c2 c3
     rw [← r9 (b:=false)] at hrs
     rw [← Et (b:=false)] at g1
     obtain ⟨us,q1,q2,q3⟩:=sr g4 hrs
     refine ⟨lQ us,Ep (ρ:=(⟨ρ'.f,[]⟩:Sl1)) g4.hold q2 q3,?_⟩
     obtain ⟨vs',u',m'',z1,z2,z3,z4,z5,z6⟩:=ED (m0:=m) g4 q1 g4.hm (((p2.trans h2).trans g2).2) (fun o ho=>by rw [hm]; exact hold _ _ _ hu o ho) g1
     rw [hm] at z1
     exact ⟨_,K3,_,rfl,⟨vs',u',m'',z1,z2,z3,z4,z5,rfl⟩,g4.hK,z6.back⟩
   . cases g1
 cases e with
 | normal=>exact fini h3
 | ret=>exact fini h3
 | _=>cases h3
end
end
section
variable [BldA]
mutual
theorem o9 {bi:List Nat}:∀ (k:Kd) {u u':Un} {v:SV},Kd.un bi k u=some (v,u')→u.nx≤u'.nx
 | .any,u,u',v,h=>by cases h; exact Nat.le_refl _
 | .dat t,u,u',v,h=>by unfold Kd.un at h; split at h <;> cases h; exact Nat.le_refl _
 | .nilp,u,u',v,h=>by cases h; exact Nat.le_refl _
 | .nils,u,u',v,h=>by cases h; exact Nat.le_refl _
 | .nilf,u,u',v,h=>by cases h; exact Nat.le_refl _
 | .ptr j o,u,u',v,h=>by unfold Kd.un at h; split at h <;> cases h; exact Nat.le_refl _
 | .own e t,u,u',v,h=>by unfold Kd.un at h; split at h <;> cases h; exact Nat.le_add_right _ _
 | .al j,u,u',v,h=>by unfold Kd.un at h; split at h <;> cases h; exact Nat.le_refl _
 | .fsl j m,u,u',v,h=>by unfold Kd.un at h; split at h <;> cases h; exact Nat.le_refl _
 | .agg ks,u,u',v,h=>by
   unfold Kd.un at h; split at h
   . cases h; exact jo ks (by assumption)
   . cases h
 | .tup ks,u,u',v,h=>by
   unfold Kd.un at h; split at h
   . cases h; exact jo ks (by assumption)
   . cases h
 | .fn f ks,u,u',v,h=>by
   unfold Kd.un at h; split at h
   . cases h; exact jo ks (by assumption)
   . cases h
 | .kat t o,u,u',v,h=>by
   unfold Kd.un at h; split at h
   . split at h
     . cases h; exact Nat.le_refl _
     . cases h
   . cases h
 | .ifc t k,u,u',v,h=>by
   unfold Kd.un at h; split at h
   . cases h; exact o9 k (by assumption)
   . cases h
 | .lit w,u,u',v,h=>by cases h; exact Nat.le_refl _
 | .od o,u,u',v,h=>by
   unfold Kd.un at h
   replace h:=(aj h).2
   split at h
   . split at h
     . cases h; exact Nat.le_add_right _ _
     . cases h
   . cases h
 | .rp j,u,u',v,h=>by unfold Kd.un at h; split at h <;> cases h; exact Nat.le_refl _
 | .is j k,u,u',v,h=>by
   unfold Kd.un at h; split at h
   . split at h
     . cases h; exact o9 k (by assumption)
     . cases h
   . cases h
theorem jo {bi:List Nat}:∀ (ks:List Kd) {u u':Un} {vs:List SV},Kd.unL bi ks u=some (vs,u')→u.nx≤u'.nx
 | [],u,u',vs,h=>by cases h; exact Nat.le_refl _
 | k :: ks,u,u',vs,h=>by
   unfold Kd.unL at h; split at h
   . rename_i h1
     split at h
     . rename_i h2; cases h; exact Nat.le_trans (o9 k h1) (jo ks h2)
     . cases h
   . cases h
end
theorem yp {bi:List Nat}:∀ (sl:List (Nat×Kd)) {u u':Un} {vs:List (Nat×SV)},unS bi sl u=some (vs,u')→u.nx≤u'.nx
 | [],u,u',vs,h=>by cases h; exact Nat.le_refl _
 | p :: sl,u,u',vs,h=>by
   unfold unS at h; split at h
   . rename_i h1
     split at h
     . rename_i h2; cases h; exact Nat.le_trans (o9 p.2 h1) (yp sl h2)
     . cases h
   . cases h
theorem yO {bi:List Nat}:∀ (bl:List Bk) (is:List Nat) {u u':Un},unB bi bl is u=some u'→u.nx≤u'.nx
 | [],[],u,u',h=>by cases h; exact Nat.le_refl _
 | [],i :: is,u,u',h=>by cases h
 | b :: bl,[],u,u',h=>by cases h
 | b :: bl, i :: is, u, u', h => by
   unfold unB at h; split at h
   . rename_i u1 h1
     refine Nat.le_trans ?_ (yO bl is h)
     unfold eH at h1
     cases hn:b.nu with
     | true=>rw [hn] at h1; cases h1; exact Nat.le_refl _
     | false =>
       rw [hn] at h1; simp only [cond_false] at h1
       cases hlp:b.lp with
       | true=>rw [hlp] at h1; simp only [cond_true] at h1; cases h1; exact Nat.le_refl _
       | false =>
       rw [hlp] at h1; simp only [cond_false] at h1
       cases hr:b.rw with
       | some o =>
         rw [hr] at h1
         dsimp only at h1
         cases hb:b.bu with
         | true =>
           rw [hb] at h1; simp only [cond_true] at h1
           split at h1
           . split at h1
             . split at h1
               . rename_i h2
                 cases h1
                 have h3:=jo b.ks h2
                 exact Nat.le_trans (show u.nx≤_ from h3) (Nat.le_succ _)
               . cases h1
             . cases h1
           . cases h1
         | false =>
         rw [hb] at h1; simp only [cond_false] at h1
         split at h1
         . split at h1
           . cases h1; exact Nat.le_succ _
           . cases h1
         . cases h1
       | none =>
       rw [hr] at h1
       dsimp only at h1
       cases hb:b.bu with
       | true =>
         rw [hb] at h1; simp only [cond_true] at h1
         split at h1 <;> cases h1
         exact Nat.le_refl _
       | false =>
         rw [hb] at h1; simp only [cond_false] at h1
         split at h1
         . rename_i h2
           cases h1
           exact Nat.le_trans (jo b.ks h2) (Nat.le_succ _)
         . cases h1
   . cases h
theorem xM:∀ (bl:List Bk) (nx:Nat),dA bl=true→(aX bl nx).2=nx + bl.length
 | [],nx,_=>rfl
 | b :: bl,nx,h=>by
   simp only [dA,Bool.and_eq_true] at h
   cases hb:b.old with
   | some i=>rw [hb] at h; cases h.1
   | none =>
     simp only [aX,hb,List.length_cons]
     rw [xM bl (nx + 1) h.2]
     omega
theorem Ii {s:Sh} {ds:List Dat} {vs:List (Nat×SV)} {u:Un} (h:s.un ds 0=some (vs,u)) (ho:dA s.bl=true):s.bl.length≤u.nx:=by
 unfold Sh.un at h
 replace h:=(aj h).2
 have hn:=xM s.bl 0 ho
 split at h
 rename_i bi nx he
 rw [he] at hn
 simp only [Nat.zero_add] at hn
 split at h
 . rename_i h1
   split at h
   . rename_i h2
     cases h
     have:=yp s.sl h1
     have:=yO s.bl bi h2
     simp only at *
     omega
   . cases h
 . cases h
theorem wk:∀ (bl:List Bk) {a b:Nat},bA bl a=true→a≤b→bA bl b=true
 | [],a,b,h,hab=>rfl
 | x :: bl,a,b,h,hab=>by
   simp only [bA,Bool.and_eq_true] at h ⊢
   refine ⟨?_,wk bl h.2 hab⟩
   cases ho:x.old with
   | none=>rfl
   | some i =>
     have h1:=h.1
     rw [ho] at h1
     simp only [Nat.blt_eq] at h1 ⊢
     omega
def sJ (fn:Func):Code:=match fn.body with | some c=>c | none => .skip
def yX (s:Spec) (fn:Func):Bool:=fn.body.isSome&&(slN 0 s.inn.sl s.inn.sl.length&&Nat.ble s.inn.sl.length fn.ntmps)&&(dA s.inn.bl&&s.outs.all fun o=>bA o.bl s.inn.bl.length)
theorem ae {P:Program} {s:Spec} {fn:Func} (hf:P.funcs[s.f]? = some fn) (h:Hn P) (hc:yX s fn=true) (hex:(fun x=>ue fn.ntmps fn (sJ fn) s.inn s.outs h x)=s.fn):cX P s:=by
 unfold yX at hc
 simp only [Bool.and_eq_true] at hc
 obtain ⟨⟨h1,h2,h2'⟩,h3,h4⟩:=hc
 have hb:fn.body=some (sJ fn):=by
   unfold sJ
   cases hbd:fn.body with
   | none=>rw [hbd] at h1; cases h1
   | some c=>rfl
 refine IS hf hb rfl h (by rw [h2,h2']; rfl) (fun ds vs u hu o ho=>wk o.bl (List.all_eq_true.1 h4 o ho) (Ii hu h3)) (fun x r hx=>?_)
 rw [← hx]
 exact congrFun hex x
end
theorem GS [BldA] {P:Program} {s:Spec} {W:World} (hs:cX P s) {x:TL s.inn.ts} {r:cD s.outs} (hr:s.fn x=some r) (hgk:BldA.gk (Hp.of W)) {vs:List (Nat×SV)} (hun:s.inn.un (TL.list _ x) 0=some (vs,⟨[],0,[],[]⟩))
   (hout:(c9 s.outs r).1.un (c9 s.outs r).2 0=some ([(0,.bool true)],⟨[],0,[],[]⟩)) {args:List Value} (hsl:slR [] (Hp.of W) vs args) :
   Calls P s.f args.toArray W fun e W'=>e = .returned (.bool true)∧Below W.heap.size W W':=by
 have h:=hs x r hr vs _ hun [] (Hp.of W) args hgk rfl (fun a ha=>by cases ha) hsl (En.of W) W [] (Sep.start W)
 refine h.mono fun e W' h=>?_
 obtain ⟨v,K',L',rfl,⟨vs',u',m',h1,_,_,_,h2,_⟩,h3,h4⟩:=h
 have h1:=h1.symm.trans hout
 cases h1
 obtain rfl:v = .bool true:=h2
 exact ⟨rfl,h4.below h3⟩
section
open Go.ChangeShapes Go.WideShapes Go.RowKit Go.Deep
namespace Tp
def flatW:Tp→Bool
 | .sl _=>false
 | .one a=>flatW a
 | .cons a r=>flatW a&&flatW r
 | _=>true
mutual
def heavy (P:Program):Tp→TypeId→Bool
 | .sl e,t=>match P.underlying t with | some (.slice e')=>decide (0 < P.bytesOf e')&&heavy P e e' | _=>false
 | .one a,t=>match P.underlying t with | some (.struct fs)=>(match fs.toList with | [f]=>heavy P a f.type | _=>false) | some (.array _ _)=>flatW a | _=>false
 | .cons a r,t=>match P.underlying t with | some (.struct fs)=>(match fs.toList with | f :: fs=>heavy P a f.type&&heavyAll P r fs | []=>false) | some (.array _ _)=>flatW a&&flatW r | _=>false
 | _,_=>true
def heavyAll (P:Program):Tp→List Field→Bool
 | .emp,[]=>true
 | .one a,[f]=>heavy P a f.type
 | .cons a r,f :: fs=>heavy P a f.type&&heavyAll P r fs
 | _,_=>false
end
def Fit:(t:Tp)→t.den→Prop
 | .sl e,l=>l.length≤140737488351232∧∀ x∈l,Fit e x
 | .one a,d=>Fit a d
 | .cons a r,d=>Fit a d.1∧Fit r d.2
 | _,_=>True
theorem flat_fit:∀ (t:Tp) (d:t.den),t.flatW=true→t.Fit d
 | .int _,_,_=>trivial
 | .bool,_,_=>trivial
 | .str,_,_=>trivial
 | .ptr _,_,_=>trivial
 | .emp,_,_=>trivial
 | .sl _,_,h=>by cases h
 | .one a,d,h=>flat_fit a d h
 | .cons a r,d,h=>by
   unfold flatW at h
   rw [Bool.and_eq_true] at h
   exact ⟨flat_fit a d.1 h.1,flat_fit r d.2 h.2⟩
end Tp
theorem CT (b o m:Nat):(⟨b,o,none⟩:Addr).add m=⟨b,o + m,none⟩:=by
 unfold Addr.add; split
 . rename_i h; subst h; rfl
 . rfl
section
variable {H:Type} {P:Program} {p:Nat→Bool}
theorem gT:∀ (ts:List TypeId) (ds:List (DataW H)),(DataW.weightsEach P ts ds).all p=true→∀ (i:Nat) t d,ts[i]? = some t→ds[i]? = some d→(d.weights P t).all p=true
 | [],ds,h,i,t,d,ht,hd=>by simp at ht
 | t :: ts,[],h,i,t',d,ht,hd=>by simp at hd
 | t :: ts,d :: ds,h,0,t',d',ht,hd=>by
   simp at ht hd; subst ht; subst hd
   unfold DataW.weightsEach at h
   rw [List.all_append,Bool.and_eq_true] at h; exact h.1
 | t :: ts,d :: ds,h,i + 1,t',d',ht,hd=>by
   unfold DataW.weightsEach at h
   rw [List.all_append,Bool.and_eq_true] at h
   exact gT ts ds h.2 i t' d' (by simpa using ht) (by simpa using hd)
theorem Aa {e:TypeId}:∀ (ds:List (DataW H)),(DataW.weightsAll P e ds).all p=true→∀ d∈ds,(d.weights P e).all p=true
 | [],h,d,hd=>by cases hd
 | d :: ds,h,d',hd=>by
   unfold DataW.weightsAll at h
   rw [List.all_append,Bool.and_eq_true] at h
   rcases List.mem_cons.1 hd with rfl | hd
   . exact h.1
   . exact Aa ds h.2 d' hd
end
section
variable {H:Type} {enc:TypeId×Value→H} {P:Program} {W:World} {base:Nat} {spare:Nat→Bool} {held:Bool}
mutual
theorem Tp.fit:∀ (ty:Tp) {t:TypeId} {fuel:Nat} {cs:List Value} {x:DataW H×List MemPlace} {d:ty.den},ty.has P t=true→ty.heavy P t=true→DataW.trod enc P W base spare held fuel t cs=some x→Is (Hp.of W) ty cs d→(x.1.weights P t).all (·≤reachBytes)=true→ty.Fit d
 | .int k,_,_,_,_,_,_,_,_,_,_=>trivial
 | .bool,_,_,_,_,_,_,_,_,_,_=>trivial
 | .str,_,_,_,_,_,_,_,_,_,_=>trivial
 | .ptr e,_,_,_,_,_,_,_,_,_,_=>trivial
 | .emp,_,_,_,_,_,_,_,_,_,_=>trivial
 | .sl e,t,fuel,cs,x,d,hh,hv,h,hi,hw=>by
   unfold Tp.has at hh
   unfold Tp.heavy at hv
   split at hh
   . rename_i e' ht
     rw [ht] at hv
     simp only [Bool.and_eq_true,decide_eq_true_eq] at hh hv
     obtain ⟨⟨he,hc⟩,h0⟩:=hh
     obtain ⟨hb0,hv⟩:=hv
     simp only [Is] at hi
     obtain ⟨ad,cp,hcs,hl1,hl2,hi⟩:=hi
     rcases open_slice ht h with ⟨rfl,rfl⟩ | ⟨a,len,cap,m,n,D,Pl,rfl,hb,hl,hm,hmm,rfl,hx⟩
     . simp only [List.cons.injEq,Value.slice.injEq,and_true] at hcs
       obtain ⟨_,hz,_⟩:=hcs
       obtain rfl:d=[]:=List.length_eq_zero_iff.1 hz.symm
       exact ⟨by simp,fun x hx=>by simp at hx⟩
     . simp only [List.cons.injEq,Value.slice.injEq,and_true] at hcs
       obtain ⟨rfl,hlen,rfl⟩:=hcs
       unfold DataW.weights at hw
       rw [ht] at hw
       simp only [List.all_cons,List.all_append,Bool.and_eq_true,decide_eq_true_eq,List.length_map,List.length_range] at hw
       obtain ⟨hw1,hw2,hw3⟩:=hw
       have hle:len≤(len + (m - len)) * P.bytesOf e':=by
         have:(len + (m - len)) * 1≤(len + (m - len)) * P.bytesOf e':=Nat.mul_le_mul_left _ hb0
         omega
       have hr:reachBytes=140737488351232:=by decide
       refine ⟨by omega,fun y hy=>?_⟩
       obtain ⟨k,hk,rfl⟩:=List.getElem_of_mem hy
       have hkl:k < len:=by omega
       obtain ⟨b,o,hb',hes⟩:=hi (fun hn=>by rw [hn] at hk; simp at hk)
       simp only [Option.some.injEq] at hb'
       subst hb'
       obtain ⟨es,hel,hie,hce⟩:=hes k d[k] (List.getElem?_eq_getElem hk)
       obtain ⟨cs',hcs',ht'⟩:=hx k (by rw [hmm]; split <;> omega)
       rw [hc] at hcs'
       obtain ⟨_,hlen',hcell⟩:=World.cells?_some hcs'
       have e:cs'=es:=by
         apply List.ext_getElem?
         intro j
         by_cases hj:j < e.size
         . rw [← hcell j hj]
           have h1:=hce j hj
           rw [List.getElem?_eq_getElem (by omega)] at h1 ⊢
           have h2:=dn (w:=W) (Hp.le_refl _) h1
           rw [← h2,Go.Deep.add_add,CT]
           congr 2; omega
         . rw [List.getElem?_eq_none (by omega),List.getElem?_eq_none (by omega)]
       subst e
       exact Tp.fit e he hv ht' hie (Aa _ hw2 _ (List.mem_map.2 ⟨k,List.mem_range.2 hkl,rfl⟩))
   . simp at hh
 | .one a,t,fuel,cs,x,d,hh,hv,h,hi,hw=>by
   unfold Tp.has at hh
   unfold Tp.heavy at hv
   split at hh
   . rename_i fs ht
     rw [ht] at hv
     simp only [Bool.and_eq_true,decide_eq_true_eq] at hh
     obtain ⟨hh,hC⟩:=hh
     split at hh
     . rename_i f hfs
       simp only [hfs] at hv
       simp only [Bool.and_eq_true,decide_eq_true_eq] at hh hv
       obtain ⟨⟨h1,h2⟩,h3⟩:=hh
       obtain ⟨xs,n,_,rfl,hlen,hxl,hf⟩:=DataW.trod_struct ht h
       have hsz:fs.size=1:=by rw [← Array.length_toList,hfs]; simp
       have hget:∀ i,fs[i]? = [f][i]?:=fun i=>by rw [← hfs,Array.getElem?_toList]
       have t0:=hf 0 f (by rw [hget]; rfl)
       rw [h1,h2,List.drop_zero,List.getElem?_eq_getElem (by omega),List.take_of_length_le (by omega)] at t0
       unfold DataW.weights at hw
       simp only [ht,hfs] at hw
       exact Tp.fit a h3 hv t0 hi (gT _ _ hw 0 _ _ rfl (by simp [List.getElem?_eq_getElem (show 0 < xs.length by omega)]))
     . simp at hh
   . rename_i n e ht
     rw [ht] at hv
     exact Tp.flat_fit a d hv
   . simp at hh
 | .cons a r,t,fuel,cs,x,d,hh,hv,h,hi,hw=>by
   unfold Tp.has at hh
   unfold Tp.heavy at hv
   split at hh
   . rename_i fs ht
     rw [ht] at hv
     simp only [Bool.and_eq_true,decide_eq_true_eq] at hh
     obtain ⟨hh,hC⟩:=hh
     split at hh
     . rename_i f fs' hfs
       simp only [hfs] at hv
       simp only [Bool.and_eq_true,decide_eq_true_eq] at hh hv
       obtain ⟨⟨⟨h1,h2⟩,h3⟩,h4⟩:=hh
       obtain ⟨xs,n,_,rfl,hlen,hxl,hf⟩:=DataW.trod_struct ht h
       have hsz:fs.size=fs'.length + 1:=by rw [← Array.length_toList,hfs]; simp
       have hget:∀ i,fs[i]? = (f :: fs')[i]?:=fun i=>by rw [← hfs,Array.getElem?_toList]
       have t0:=hf 0 f (by rw [hget]; rfl)
       rw [h1,h2,List.drop_zero,List.getElem?_eq_getElem (by omega)] at t0
       unfold DataW.weights at hw
       simp only [ht,hfs] at hw
       simp only [Is] at hi
       obtain ⟨c1,c2,rfl,hl1,hi1,hi2⟩:=hi
       rw [List.take_left' hl1] at t0
       refine ⟨Tp.fit a h3 hv.1 t0 hi1 (gT _ _ hw 0 _ _ rfl (by simp [List.getElem?_eq_getElem (show 0 < xs.length by omega)])),?_⟩
       refine Tp.fitAll a.size r fs' (cs:=c2) (all:=c1++c2) h4 hv.2 (fun i g hg=>?_) (by rw [List.drop_left' hl1]) hi2
       have t1:=hf (i + 1) g (by rw [hget]; exact hg)
       have hi':i < fs'.length:=(List.getElem?_eq_some_iff.1 hg).1
       rw [List.getElem?_eq_getElem (by omega)] at t1
       exact ⟨n,_,t1,gT _ _ hw (i + 1) _ _ (by simp [hg]) (by simp [List.getElem?_eq_getElem (show i + 1 < xs.length by omega)])⟩
     . simp at hh
   . rename_i n e ht
     rw [ht] at hv
     rw [Bool.and_eq_true] at hv
     exact ⟨Tp.flat_fit a d.1 hv.1,Tp.flat_fit r d.2 hv.2⟩
   . simp at hh
theorem Tp.fitAll:∀ (o:Nat) (ty:Tp) (fs:List Field) {cs all:List Value} {d:ty.den},ty.hasAll P o fs=true→ty.heavyAll P fs=true →
   (∀ (i:Nat) (f:Field),fs[i]? = some f→∃ n x,DataW.trod enc P W base spare held n f.type ((all.drop f.offset).take (P.cellsOf f.type))=some x∧(x.1.weights P f.type).all (·≤reachBytes)=true)→cs=all.drop o→Is (Hp.of W) ty cs d→ty.Fit d
 | o,.emp,[],cs,all,d,hh,hv,hf,hc,hi=>trivial
 | o,.one a,[f],cs,all,d,hh,hv,hf,hc,hi=>by
   unfold Tp.hasAll at hh
   unfold Tp.heavyAll at hv
   simp only [Bool.and_eq_true,decide_eq_true_eq] at hh
   obtain ⟨⟨h1,h2⟩,h3⟩:=hh
   obtain ⟨n,x,t0,w0⟩:=hf 0 f rfl
   have hl:=Is.len (t := .one a) hi
   rw [h1,h2,← hc,List.take_of_length_le (by rw [hl]; exact Nat.le_refl _)] at t0
   exact Tp.fit a h3 hv t0 hi w0
 | o,.cons a r,f :: fs,cs,all,d,hh,hv,hf,hc,hi=>by
   unfold Tp.hasAll at hh
   unfold Tp.heavyAll at hv
   simp only [Bool.and_eq_true,decide_eq_true_eq] at hh hv
   obtain ⟨⟨⟨h1,h2⟩,h3⟩,h4⟩:=hh
   obtain ⟨n,x,t0,w0⟩:=hf 0 f rfl
   simp only [Is] at hi
   obtain ⟨c1,c2,rfl,hl1,hi1,hi2⟩:=hi
   rw [h1,h2,← hc,List.take_left' hl1] at t0
   refine ⟨Tp.fit a h3 hv.1 t0 hi1 w0,Tp.fitAll (o + a.size) r fs (cs:=c2) (all:=all) h4 hv.2 (fun i g hg=>hf (i + 1) g hg) (by rw [← List.drop_drop,← hc,List.drop_left' hl1]) hi2⟩
 | _,.int _,_,_,_,_,hh,_,_,_,_=>by simp [Tp.hasAll] at hh
 | _,.bool,_,_,_,_,hh,_,_,_,_=>by simp [Tp.hasAll] at hh
 | _,.str,_,_,_,_,hh,_,_,_,_=>by simp [Tp.hasAll] at hh
 | _,.sl _,_,_,_,_,hh,_,_,_,_=>by simp [Tp.hasAll] at hh
 | _,.ptr _,_,_,_,_,hh,_,_,_,_=>by simp [Tp.hasAll] at hh
 | _,.emp,_ :: _,_,_,_,hh,_,_,_,_=>by simp [Tp.hasAll] at hh
 | _,.one _,[],_,_,_,hh,_,_,_,_=>by simp [Tp.hasAll] at hh
 | _,.one _,_ :: _ :: _,_,_,_,hh,_,_,_,_=>by simp [Tp.hasAll] at hh
 | _,.cons _ _,[],_,_,_,hh,_,_,_,_=>by simp [Tp.hasAll] at hh
end
theorem Tp.argFit (ty:Tp) {r:Reach} {b:Nat} {t:TypeId} {v:Value} {d:DataW H} {p:List MemPlace} {x:ty.den} (hh:ty.has P t=true) (hv:ty.heavy P t=true) (h:DataW.Trod enc P W base spare held t v d p) (hx:IsV (Hp.of W) ty v x) (hw:(d.weights P t).all (·≤reachBytes)=true):ty.Fit x:=by
 obtain ⟨f,hf⟩:=h
 cases ty with
 | int k=>trivial
 | bool=>trivial
 | str=>trivial
 | ptr e=>trivial
 | emp=>trivial
 | sl e =>
   obtain ⟨ad,cp,rfl⟩:=Is.slv hx
   exact Tp.fit (.sl e) hh hv hf hx hw
 | one a =>
   obtain ⟨cs,rfl,hi⟩:=hx
   exact Tp.fit (.one a) hh hv (show DataW.trod enc P W base spare held f t cs=some (d,p) from hf) hi hw
 | cons a q =>
   obtain ⟨cs,rfl,hi⟩:=hx
   exact Tp.fit (.cons a q) hh hv (show DataW.trod enc P W base spare held f t cs=some (d,p) from hf) hi hw
end
end
section
section
variable {σ β:Type} {body:σ→Option (σ⊕β)}
theorem aF (st:Nat→σ) (n:Nat) {b:β} (h:∀ k,k < n→body (st k)=some (.inl (st (k + 1)))) (he:body (st n)=some (.inr b)):loop body (st 0)=some b:=by
 have:∀ m k,k + m=n→loop body (st k)=some b:=by
   intro m
   induction m with
   | zero => intro k hk; have : k = n := by omega
             subst this; exact iQ he
   | succ m ih=>intro k hk; rw [rh (h k (by omega))]; exact ih (k + 1) (by omega)
 exact this n 0 (by omega)
theorem least (p:Nat→Prop):∀ n,(∃ k,k < n∧p k∧∀ j,j < k→¬ p j)∨∀ j,j < n→¬ p j
 | 0 => .inr (fun j hj=>by omega)
 | n + 1=>by
   rcases least p n with ⟨k,h1,h2,h3⟩ | h
   . exact .inl ⟨k,by omega,h2,h3⟩
   . by_cases hp:p n
     . exact .inl ⟨n,by omega,hp,h⟩
     . exact .inr (fun j hj=>if e:j=n then e ▸ hp else h j (by omega))
theorem eX (p:Nat→Prop) (st:Nat→σ) (n:Nat) (hit:Nat→β) (e:β) (hgo:∀ k,k < n→¬ p k→body (st k)=some (.inl (st (k + 1)))) (hhit:∀ k,k < n→p k→body (st k)=some (.inr (hit k))) (hend:body (st n)=some (.inr e)) :
   (∃ k,k < n∧p k∧(∀ j,j < k→¬ p j)∧loop body (st 0)=some (hit k))∨((∀ j,j < n→¬ p j)∧loop body (st 0)=some e):=by
 rcases least p n with ⟨k,h1,h2,h3⟩ | h
 . exact .inl ⟨k,h1,h2,h3,aF st k (fun j hj=>hgo j (by omega) (h3 j hj)) (hhit k h1 h2)⟩
 . exact .inr ⟨h,aF st n (fun k hk=>hgo k hk (h k hk)) hend⟩
open Classical in
theorem Db (p:Nat→Prop) (st:Nat→σ) (n:Nat) (b e:β) (hgo:∀ k,k < n→¬ p k→body (st k)=some (.inl (st (k + 1)))) (hhit:∀ k,k < n→p k→body (st k)=some (.inr b)) (hend:body (st n)=some (.inr e)) :
   loop body (st 0)=some (if ∃ k,k < n∧p k then b else e):=by
 rcases eX p st n (fun _=>b) e hgo hhit hend with ⟨k,h1,h2,h3,h4⟩ | ⟨h1,h2⟩
 . rw [if_pos ⟨k,h1,h2⟩]; exact h4
 . rw [if_neg (fun ⟨k,h3,h4⟩=>h1 k h3 h4)]; exact h2
end
theorem w64 {x:Int} (h1 : -9223372036854775808≤x) (h2:x≤9223372036854775807):IntKind.wrap .i64 x=x:=by
 rw [IntWalk.i64_left,IntWalk.wrap64_in _ ⟨h1,h2⟩]
theorem ak {k n:Nat} (h:k < n) (hn:n≤9223372036854775807):IntKind.wrap .i64 ((k:Int) + 1)=((k + 1:Nat):Int):=by
 rw [w64 (by omega) (by omega)]; rfl
theorem ah {α:Type} {l:List α} {k:Nat} (h:k < l.length):aa l (k:Int)=some l[k]:=xO rfl h
theorem CQ {α γ:Type} (xa:List α) (f:γ→α→γ) (c0:γ) (hn:xa.length≤9223372036854775807) {body:γ×Int→Option ((γ×Int)⊕γ)}
   (hb:∀ k x,xa[k]? = some x→body ((xa.take k).foldl f c0,(k:Int))=some (.inl (f ((xa.take k).foldl f c0) x,IntKind.wrap .i64 ((k:Int) + 1)))) (he:body (xa.foldl f c0,(xa.length:Int))=some (.inr (xa.foldl f c0))):loop body (c0,0)=some (xa.foldl f c0):=by
 have h:=aF (body:=body) (fun k:Nat=>((xa.take k).foldl f c0,(k:Int))) xa.length (b:=xa.foldl f c0) ?_ ?_
 . simpa using h
 . intro k hk
   rw [hb k xa[k] (by simp [hk]),ak hk hn]
   congr 3
   rw [List.take_succ_eq_append_getElem hk,List.foldl_append]; rfl
 . simpa using he
theorem vy {α γ:Type} (g:α→γ) (xa:List α) (c:List γ):xa.foldl (fun c x=>c++[g x]) c=c++xa.map g:=by
 induction xa generalizing c with
 | nil=>simp
 | cons x xa ih=>simp [ih]
theorem rI {α γ:Type} (xa:List α) (g:α→γ) (c0:List γ) (hn:c0.length + xa.length≤1073741824) {body:List γ×Int→Option ((List γ×Int)⊕List γ)}
   (hb:∀ (c:List γ) (i:Int),body (c,i)=cond (decide (i < ((xa.length:Nat):Int))) ((aa xa i).bind fun x=>(app c [g x]).bind fun z=>some (.inl (z,IntKind.wrap .i64 (i + 1)))) (some (.inr c))):loop body (c0,0)=some (c0++xa.map g):=by
 rw [← vy]
 refine CQ xa (fun c x=>c++[g x]) c0 (by omega) (fun k x hx=>?_) ?_
 . have hk:=(List.getElem?_eq_some_iff.1 hx).1
   rw [hb,vy]
   have hx':xa[k]=x:=by rw [List.getElem?_eq_getElem hk] at hx; exact Option.some.inj hx
   have ha:=aI (a:=c0++(xa.take k).map g) (b:=[g x]) (by simp; omega)
   simp only [Option.bind_some,ah hk,hx',ha,Int.ofNat_lt.2 hk,decide_true,cond_true]
 . rw [hb]; simp
end
section
theorem E9 {α β:Type} {m:Option α} {f:α→Option β} {y:β} {Q:α→Prop} (h:∃ r,m=some r∧Q r) (k:∀ r,Q r→f r=some y):m.bind f=some y:=by
 obtain ⟨r,rfl,h2⟩:=h; exact k r h2
theorem pF {α:Type} {l:List α} {i:Int} (h0:0≤i) (h1:i < (l.length:Nat)):aa l i=some (l[i.toNat]'(by omega)):=by
 unfold aa; rw [if_pos h0]; simp
theorem yZ {α:Type} {l:List α} {k:Nat} (h:k + 1 < l.length):aa l ((k:Int) + 1)=some l[k + 1]:=xO rfl h
theorem dlt {k n:Nat} (h:k < n):decide ((k:Int) < (n:Int))=true:=by simp; omega
theorem dge {k n:Nat} (h:¬ k < n):decide ((k:Int) < (n:Int))=false:=by simp; omega
theorem yk {α:Type} [DecidableEq α] (a b:α):(a == b)=decide (a=b):=Bool.beq_eq_decide_eq a b
section
variable {α β γ σ:Type}
theorem CH {body:σ→Option (σ⊕β)} (n:Nat) (st:Nat→σ) (stop:Nat→Option β) (e:β) (h:∀ k,k < n→body (st k)=some (match stop k with | none => .inl (st (k + 1)) | some b => .inr b)) (he:body (st n)=some (.inr e)) :
   loop body (st 0)=some (((List.range n).findSome? stop).getD e):=by
 rcases eX (fun k=>(stop k).isSome=true) st n (fun k=>(stop k).getD e) e (fun k hk hp=>by
     rw [h k hk]; cases hs:stop k with
     | none=>rfl
     | some b=>simp [hs] at hp) (fun k hk hp=>by
     rw [h k hk]; cases hs:stop k with
     | none=>simp [hs] at hp
     | some b=>rfl) he with ⟨k,h1,h2,h3,h4⟩ | ⟨h1,h2⟩
 . rw [h4]
   obtain ⟨b,hb⟩:=Option.isSome_iff_exists.1 h2
   have:(List.range n).findSome? stop=some b:=by
     rw [List.findSome?_eq_some_iff]
     refine ⟨List.range k,k,(List.range' (k + 1) (n - k - 1)),?_,hb,fun a ha=>?_⟩
     . rw [List.range_eq_range',List.range_eq_range',← List.range'_succ (s:=k) (n:=n - k - 1)]
       rw [show n - k - 1 + 1=n - k by omega]
       have:=List.range'_append_1 (s:=0) (m:=k) (n:=n - k)
       rw [Nat.zero_add,show k + (n - k)=n by omega] at this
       exact this.symm
     . have:=h3 a (List.mem_range.1 ha)
       cases hs:stop a with
       | none=>rfl
       | some b=>simp [hs] at this
   rw [this,hb]
 . rw [h2]
   have:(List.range n).findSome? stop=none:=by
     rw [List.findSome?_eq_none_iff]
     intro a ha
     have:=h1 a (List.mem_range.1 ha)
     cases hs:stop a with
     | none=>rfl
     | some b=>simp [hs] at this
   rw [this]; rfl
theorem aS {body:Int→Option (Int⊕β)} (xa:List α) (t:α→Bool) (hit:Nat→β) (e:β) (hb:∀ (k:Nat) (h:k < xa.length),body (k:Int)=some (if t xa[k] then .inr (hit k) else .inl ((k + 1:Nat):Int))) (he:body (xa.length:Int)=some (.inr e)) :
   loop body 0=some (match xa.findIdx? t with | some k=>hit k | none=>e):=by
 rcases eX (fun k=>∃ h:k < xa.length,t xa[k]=true) (fun k:Nat=>(k:Int)) xa.length hit e (fun k hk hp=>by
     rw [hb k hk,if_neg (fun h=>hp ⟨hk,h⟩)]) (fun k hk ⟨_,hp⟩=>by rw [hb k hk,if_pos hp]) he with ⟨k,h1,⟨_,h2⟩,h3,h4⟩ | ⟨h1,h2⟩
 . rw [show ((0:Int))=((0:Nat):Int) from rfl,h4]
   have:xa.findIdx? t=some k:=by
     rw [List.findIdx?_eq_some_iff_getElem]
     exact ⟨h1,h2,fun j hj=>fun hc=>h3 j hj ⟨by omega,by simpa using hc⟩⟩
   rw [this]
 . rw [show ((0:Int))=((0:Nat):Int) from rfl,h2]
   have:xa.findIdx? t=none:=by
     rw [List.findIdx?_eq_none_iff]
     intro x hx
     obtain ⟨k,hk,rfl⟩:=List.getElem_of_mem hx
     cases hc:t xa[k] with
     | false=>rfl
     | true=>exact absurd ⟨hk,hc⟩ (h1 k hk)
   rw [this]
theorem dp {body:Int→Option (Int⊕β)} (xa:List α) (t:α→Bool) (hit e:β) (hb:∀ (k:Nat) (h:k < xa.length),body (k:Int)=some (if t xa[k] then .inr hit else .inl ((k + 1:Nat):Int))) (he:body (xa.length:Int)=some (.inr e)) :
   loop body 0=some (if xa.any t then hit else e):=by
 rw [aS xa t (fun _=>hit) e hb he]
 cases h:xa.findIdx? t with
 | none =>
   have:xa.any t=false:=by
     rw [List.any_eq_false]; intro x hx; have:=List.findIdx?_eq_none_iff.1 h x hx; simp [this]
   rw [this]; rfl
 | some k =>
   obtain ⟨hk,h1,_⟩:=List.findIdx?_eq_some_iff_getElem.1 h
   have:xa.any t=true:=List.any_eq_true.2 ⟨_,List.getElem_mem hk,h1⟩
   rw [this]; rfl
theorem qR {δ:Type} {body:(γ×Int)→Option ((γ×Int)⊕δ)} (xa:List α) (acc:Nat→γ) (out:δ) (hb:∀ (k:Nat) (h:k < xa.length),body (acc k,(k:Int))=some (.inl (acc (k + 1),((k + 1:Nat):Int)))) (he:body (acc xa.length,(xa.length:Int))=some (.inr out)) :
   loop body (acc 0,0)=some out:=aF (fun k=>(acc k,(k:Int))) xa.length hb he
theorem ve [DecidableEq α] {body:Int→Option (Int⊕β)} (xa xb:List α) (hit e:β) (hl:xa.length=xb.length) (hb:∀ (k:Nat) (h:k < xa.length),body (k:Int)=some (if xa[k]=(xb[k]'(by omega)) then .inl ((k + 1:Nat):Int) else .inr hit)) (he:body (xa.length:Int)=some (.inr e)) :
   loop body 0=some (if xa=xb then e else hit):=by
 rw [aS (List.range xa.length) (fun k=>decide (xa[k]?≠xb[k]?)) (fun _=>hit) e (fun k h=>by
     simp at h
     rw [hb k h]
     have h2:k < xb.length:=by omega
     by_cases hq:xa[k]=xb[k] <;> simp [h,h2,hq]) (by simpa using he)]
 by_cases hq:xa=xb
 . subst hq
   have:(List.range xa.length).findIdx? (fun k=>decide (xa[k]?≠xa[k]?))=none:=by rw [List.findIdx?_eq_none_iff]; simp
   rw [this]; simp
 . cases h:(List.range xa.length).findIdx? (fun k=>decide (xa[k]?≠xb[k]?)) with
   | some k=>simp [hq]
   | none =>
     exfalso; apply hq
     rw [List.findIdx?_eq_none_iff] at h
     apply List.ext_getElem?
     intro k
     by_cases hk:k < xa.length
     . simpa using h k (List.mem_range.2 hk)
     . rw [List.getElem?_eq_none (by omega),List.getElem?_eq_none (by omega)]
theorem bF {l:List α} {k:Nat} (h:k < l.length):l.take (k + 1)=l.take k++[l[k]]:=List.take_succ_eq_append_getElem h
theorem ur {a b:Nat} (h:a=b):(!decide ((a:Int)=(b:Int)))=false:=by simp [h]
theorem oX {a b:Nat} (h:¬ a=b):(!decide ((a:Int)=(b:Int)))=true:=by simp; omega
end
theorem hU {α:Type} {l:List α} (h:1≤l.length):subL l 1 ((l.length:Nat):Int)=some (l.drop 1):=by
 rw [kZ (by omega) (by omega) (by omega)]; simp
end
section
inductive Lv (E:List (Nat×Nat)) (N:Nat) (R W:Nat→Bool):Nat→Prop
 | rd {n:Nat}:n < N→R n=true→Lv E N R W n
 | st {u v:Nat}:(u,v)∈E→Lv E N R W v→W u=false→Lv E N R W u
def cz (N:Nat) (V:Nat→Bool):Nat:=((List.range N).filter (fun n=>!V n)).length
def bj (V:Nat→Bool) (u:Nat):Nat→Bool:=fun n=>V n||decide (n=u)
theorem qT {α:Type} {p q:α→Bool}:∀ (l:List α),(∀ x,p x=true→q x=true)→(l.filter p).length≤(l.filter q).length
 | [],_=>Nat.le_refl _
 | x :: l,h=>by
   have ih:=qT l h
   rw [List.filter_cons,List.filter_cons]
   cases hp:p x with
   | true=>rw [h x hp]; simp only [if_true,List.length_cons]; omega
   | false=>cases hq:q x <;> simp only [Bool.false_eq_true,if_false,if_true,List.length_cons] <;> omega
theorem wb {α:Type} {p q:α→Bool} {y:α}:∀ (l:List α),(∀ x,p x=true→q x=true)→y∈l→p y=false→q y=true→(l.filter p).length < (l.filter q).length
 | [],_,hm,_,_=>by simp at hm
 | x :: l,h,hm,h1,h2=>by
   rw [List.filter_cons,List.filter_cons]
   rcases List.mem_cons.1 hm with rfl | hm
   . have:=qT l h
     rw [h1,h2]; simp only [Bool.false_eq_true,if_false,if_true,List.length_cons]; omega
   . have ih:=wb l h hm h1 h2
     cases hp:p x with
     | true=>rw [h x hp]; simp only [if_true,List.length_cons]; omega
     | false=>cases hq:q x <;> simp only [Bool.false_eq_true,if_false,if_true,List.length_cons] <;> omega
theorem yA {N:Nat} {V:Nat→Bool} {u:Nat} (hu:u < N) (hv:V u=false):cz N (bj V u) < cz N V:=by
 unfold cz
 refine wb (y:=u) _ (fun x hx=>?_) (List.mem_range.2 hu) (by simp [bj]) (by simp [hv])
 unfold bj at hx
 cases h:V x with
 | true=>rw [h] at hx; simp at hx
 | false=>rfl
def vec (N:Nat) (V:Nat→Bool):List Int:=(List.range N).map fun n=>if V n=true then 1 else 0
theorem yi (N:Nat) (V:Nat→Bool):(vec N V).length=N:=by simp [vec]
theorem xU {N:Nat} {V:Nat→Bool} {n:Nat} (h:n < N):aa (vec N V) (n:Int)=some (if V n=true then 1 else 0):=by
 rw [ah (by rw [yi]; exact h)]; simp [vec]
theorem EA {N:Nat} {V:Nat→Bool} {u:Nat} (h:u < N):(vec N V).set u 1=vec N (bj V u):=by
 apply List.ext_getElem
 . simp [vec]
 . intro n h1 h2
   rw [List.getElem_set]
   unfold vec bj
   by_cases hn:u=n
   . subst hn; simp
   . have:¬ n=u:=fun e=>hn e.symm
     simp [hn,this]
section
variable {E:List (Nat×Nat)} {N:Nat} {R W:Nat→Bool}
def stA (W:Nat→Bool) (s:(Nat→Bool)×Bool) (a:Nat×Nat):(Nat→Bool)×Bool:=if s.1 a.1=false∧s.1 a.2=true∧W a.1=false then (bj s.1 a.1,true) else s
theorem rP (hE:∀ a∈E,a.1 < N∧a.2 < N):∀ (A:List (Nat×Nat)) (V:Nat→Bool) (m:Bool),(∀ a∈A,a∈E) →
   (∀ n,V n=true→(A.foldl (stA W) (V,m)).1 n=true)∧((∀ n,V n=true→Lv E N R W n)→∀ n,(A.foldl (stA W) (V,m)).1 n=true→Lv E N R W n) ∧
   ((A.foldl (stA W) (V,m)).2=false→m=false∧(A.foldl (stA W) (V,m)).1=V∧∀ a∈A,¬ (V a.1=false∧V a.2=true∧W a.1=false)) ∧
   cz N (A.foldl (stA W) (V,m)).1≤cz N V∧((A.foldl (stA W) (V,m)).2=true→m=true∨cz N (A.foldl (stA W) (V,m)).1 < cz N V)
 | [],V,m,h=>⟨fun n hn=>hn,fun hV=>hV,fun hm=>⟨hm,rfl,by simp⟩,Nat.le_refl _,fun hm => .inl hm⟩
 | a :: A,V,m,h=>by
   rw [List.foldl_cons]
   by_cases hc:V a.1=false∧V a.2=true∧W a.1=false
   . have e:stA W (V,m) a=(bj V a.1,true):=by unfold stA; rw [if_pos hc]
     rw [e]
     obtain ⟨i1,i2,i3,i4,i5⟩:=rP hE A (bj V a.1) true (fun b hb=>h b (List.mem_cons_of_mem _ hb))
     have haE:=h a (List.mem_cons_self ..)
     have hz:=yA (hE a haE).1 hc.1
     refine ⟨fun n hn=>i1 n (by simp [bj,hn]),fun hV=>i2 (fun n hn=>?_),fun hm=>?_,by omega,fun _ => .inr (by omega)⟩
     . simp only [bj,Bool.or_eq_true,decide_eq_true_eq] at hn
       rcases hn with hn | rfl
       . exact hV n hn
       . exact .st haE (hV _ hc.2.1) hc.2.2
     . have:=(i3 hm).1; cases this
   . have e:stA W (V,m) a=(V,m):=by unfold stA; rw [if_neg hc]
     rw [e]
     obtain ⟨i1,i2,i3,i4,i5⟩:=rP hE A V m (fun b hb=>h b (List.mem_cons_of_mem _ hb))
     refine ⟨i1,i2,fun hm=>?_,i4,i5⟩
     obtain ⟨j1,j2,j3⟩:=i3 hm
     refine ⟨j1,j2,fun b hb=>?_⟩
     rcases List.mem_cons.1 hb with rfl | hb
     . exact hc
     . exact j3 b hb
theorem Lv.least {V:Nat→Bool} (h1:∀ n,n < N→R n=true→V n=true) (h2:∀ a∈E,¬ (V a.1=false∧V a.2=true∧W a.1=false)) {n:Nat} (h:Lv E N R W n):V n=true:=by
 induction h with
 | rd hn hr=>exact h1 _ hn hr
 | st he _ hw ih =>
   have:=h2 _ he
   cases hv:V _ with
   | true=>rfl
   | false=>exact absurd ⟨hv,ih,hw⟩ this
theorem Lv.lt (hE:∀ a∈E,a.1 < N∧a.2 < N) {n:Nat} (h:Lv E N R W n):n < N:=by
 cases h with
 | rd hn _=>exact hn
 | st he _ _=>exact (hE _ he).1
def stW (W:Nat→Bool) (s:(Nat→Bool)×List Nat) (u:Nat):(Nat→Bool)×List Nat:=if s.1 u=false∧W u=false then (bj s.1 u,s.2++[u]) else s
structure Wk25 (E:List (Nat×Nat)) (N:Nat) (R W:Nat→Bool) (V:Nat→Bool) (Q:List Nat) (D:Nat→Prop):Prop where
 lv:∀ n,V n=true→Lv E N R W n
 q:∀ n∈Q,V n=true
 nd:Q.Nodup
 cl:∀ v,V v=true→v∈Q∨D v
def K7 (E:List (Nat×Nat)) (W:Nat→Bool) (V:Nat→Bool) (v:Nat):Prop:=∀ u,(u,v)∈E→W u=false→V u=true
theorem nJ (hE:∀ a∈E,a.1 < N∧a.2 < N) {v:Nat} (hv:Lv E N R W v):∀ (A:List Nat) (V:Nat→Bool) (Q:List Nat),(∀ u∈A,(u,v)∈E)→(∀ n,V n=true→Lv E N R W n)→(∀ n∈Q,V n=true)→Q.Nodup →
   (∀ n,V n=true→(A.foldl (stW W) (V,Q)).1 n=true)∧(∀ n,(A.foldl (stW W) (V,Q)).1 n=true→Lv E N R W n)∧(∀ n∈(A.foldl (stW W) (V,Q)).2,(A.foldl (stW W) (V,Q)).1 n=true)∧(A.foldl (stW W) (V,Q)).2.Nodup ∧
   (∀ n,(A.foldl (stW W) (V,Q)).1 n=true→V n=true∨n∈(A.foldl (stW W) (V,Q)).2)∧(∀ n∈Q,n∈(A.foldl (stW W) (V,Q)).2)∧(∀ u∈A,W u=false→(A.foldl (stW W) (V,Q)).1 u=true) ∧
   2 * cz N (A.foldl (stW W) (V,Q)).1 + (A.foldl (stW W) (V,Q)).2.length≤2 * cz N V + Q.length
 | [],V,Q,h,h1,h2,h3=>⟨fun n hn=>hn,h1,h2,h3,fun n hn => .inl hn,fun n hn=>hn,by simp,Nat.le_refl _⟩
 | u :: A,V,Q,h,h1,h2,h3=>by
   rw [List.foldl_cons]
   have huE:=h u (List.mem_cons_self ..)
   by_cases hc:V u=false∧W u=false
   . have e:stW W (V,Q) u=(bj V u,Q++[u]):=by unfold stW; rw [if_pos hc]
     rw [e]
     have hz:cz N (bj V u) < cz N V:=yA (hE _ huE).1 hc.1
     obtain ⟨i1,i2,i3,i4,i5,i6,i7,i8⟩:=nJ hE hv A (bj V u) (Q++[u]) (fun b hb=>h b (List.mem_cons_of_mem _ hb))
       (fun n hn=>by
         simp only [bj,Bool.or_eq_true,decide_eq_true_eq] at hn
         rcases hn with hn | rfl
         . exact h1 n hn
         . exact .st huE hv hc.2)
       (fun n hn=>by
         rcases List.mem_append.1 hn with hn | hn
         . simp [bj,h2 n hn]
         . simp at hn; subst hn; simp [bj])
       (List.nodup_append.2 ⟨h3,by simp,fun a ha b hb eab=>by
         simp only [List.mem_singleton] at hb
         have:=h2 _ ha; rw [eab,hb,hc.1] at this; cases this⟩)
     refine ⟨fun n hn=>i1 n (by simp [bj,hn]),i2,i3,i4,fun n hn=>?_,fun n hn=>i6 n (List.mem_append_left _ hn),fun w hw hww=>?_,?_⟩
     . rcases i5 n hn with h4 | h4
       . simp only [bj,Bool.or_eq_true,decide_eq_true_eq] at h4
         rcases h4 with h4 | rfl
         . exact .inl h4
         . exact .inr (i6 _ (by simp))
       . exact .inr h4
     . rcases List.mem_cons.1 hw with rfl | hw
       . exact i1 _ (by simp [bj])
       . exact i7 w hw hww
     . rw [List.length_append,List.length_singleton] at i8; omega
   . have e:stW W (V,Q) u=(V,Q):=by unfold stW; rw [if_neg hc]
     rw [e]
     obtain ⟨i1,i2,i3,i4,i5,i6,i7,i8⟩:=nJ hE hv A V Q (fun b hb=>h b (List.mem_cons_of_mem _ hb)) h1 h2 h3
     refine ⟨i1,i2,i3,i4,i5,i6,fun w hw hww=>?_,i8⟩
     rcases List.mem_cons.1 hw with rfl | hw
     . cases hV:V w with
       | true=>exact i1 _ hV
       | false=>exact absurd ⟨hV,hww⟩ hc
     . exact i7 w hw hww
end
end
end
end Go.Proofs.YtfldcmoebihobaaGreatDoor
namespace Go.Proofs
open Go.Shelf
def Tryz.lays189_ren:Go.Shelf.Ren:=⟨fun | 189=>65 | 125=>93 | 257=>92 | 128=>128 | 129=>129 | 294=>119 | 295=>120 | 296=>121 | 297=>122 | 298=>123 | 299=>124 | 216=>125 | 300=>126 | 301=>127 | 328=>140 | 329=>141 | 330=>142 | 331=>143 | 332=>144 | 215=>145 | 343=>152 | n=>n,fun | 28=>43 | 3=>3 | 46=>148 | 0=>0 | 51=>184 | 53=>122 | 4=>4 | 183=>178 | 182=>177 | 131=>117 | 5=>5 | 9=>9 | 218=>195 | 222=>199 | 228=>207 | 229=>208 | n=>n,fun | n=>n⟩
theorem Tryz.lays189:Go.Proofs.Lays.n189 Tryz.prog Tryz.lays189_ren:={
  mixed:=by kernel_rfl
  f125:=Tryz.func93.trans (congrArg some (by kernel_rfl))
  f128:=Tryz.func128.trans (congrArg some (by kernel_rfl))
  f129:=Tryz.func129.trans (congrArg some (by kernel_rfl))
  f189:=Tryz.func65.trans (congrArg some (by kernel_rfl))
  f215:=Tryz.func145.trans (congrArg some (by kernel_rfl))
  f216:=Tryz.func125.trans (congrArg some (by kernel_rfl))
  f257:=Tryz.func92.trans (congrArg some (by kernel_rfl))
  f294:=Tryz.func119.trans (congrArg some (by kernel_rfl))
  f295:=Tryz.func120.trans (congrArg some (by kernel_rfl))
  f296:=Tryz.func121.trans (congrArg some (by kernel_rfl))
  f297:=Tryz.func122.trans (congrArg some (by kernel_rfl))
  f298:=Tryz.func123.trans (congrArg some (by kernel_rfl))
  f299:=Tryz.func124.trans (congrArg some (by kernel_rfl))
  f300:=Tryz.func126.trans (congrArg some (by kernel_rfl))
  f301:=Tryz.func127.trans (congrArg some (by kernel_rfl))
  f328:=Tryz.func140.trans (congrArg some (by kernel_rfl))
  f329:=Tryz.func141.trans (congrArg some (by kernel_rfl))
  f330:=Tryz.func142.trans (congrArg some (by kernel_rfl))
  f331:=Tryz.func143.trans (congrArg some (by kernel_rfl))
  f332:=Tryz.func144.trans (congrArg some (by kernel_rfl))
  f343:=Tryz.func152.trans (congrArg some (by kernel_rfl))
  t0:=Tryz.underlying0
  a0:=Tryz.isAgg0
  z0:=Tryz.sizeOf0
  v0:=Tryz.zeroValue0
  t3:=Tryz.underlying3
  a3:=Tryz.isAgg3
  z3:=Tryz.sizeOf3
  v3:=Tryz.zeroValue3
  t4:=Tryz.underlying4
  a4:=Tryz.isAgg4
  z4:=Tryz.sizeOf4
  v4:=Tryz.zeroValue4
  t5:=Tryz.underlying5
  a5:=Tryz.isAgg5
  z5:=Tryz.sizeOf5
  v5:=Tryz.zeroValue5
  t9:=Tryz.underlying9
  a9:=Tryz.isAgg9
  z9:=Tryz.sizeOf9
  v9:=Tryz.zeroValue9
  t28:=Tryz.underlying43
  a28:=Tryz.isAgg43
  z28:=Tryz.sizeOf43
  v28:=Tryz.zeroValue43
  t46:=Tryz.underlying148
  a46:=Tryz.isAgg148
  z46:=Tryz.sizeOf148
  v46:=Tryz.zeroValue148
  t51:=Tryz.underlying184
  a51:=Tryz.isAgg184
  z51:=Tryz.sizeOf184
  v51:=Tryz.zeroValue184
  t53:=Tryz.underlying122
  a53:=Tryz.isAgg122
  z53:=Tryz.sizeOf122
  v53:=Tryz.zeroValue122
  t131:=Tryz.underlying117
  a131:=Tryz.isAgg117
  z131:=Tryz.sizeOf117
  v131:=Tryz.zeroValue117
  t182:=Tryz.underlying177
  a182:=Tryz.isAgg177
  z182:=Tryz.sizeOf177
  v182:=Tryz.zeroValue177
  t183:=Tryz.underlying178
  a183:=Tryz.isAgg178
  z183:=Tryz.sizeOf178
  v183:=Tryz.zeroValue178
  t218:=Tryz.underlying195
  a218:=Tryz.isAgg195
  z218:=Tryz.sizeOf195
  v218:=Tryz.zeroValue195
  t222:=Tryz.underlying199
  a222:=Tryz.isAgg199
  z222:=Tryz.sizeOf199
  v222:=Tryz.zeroValue199
  t228:=Tryz.underlying207
  a228:=Tryz.isAgg207
  z228:=Tryz.sizeOf207
  v228:=Tryz.zeroValue207
  t229:=Tryz.underlying208
  a229:=Tryz.isAgg208
  z229:=Tryz.sizeOf208
  v229:=Tryz.zeroValue208 }
open Go.Sort Go.RowKit in
theorem Tryz.slices_Sort_int (blk off cap:Nat) (zs:List Int) (w:World) (hH:Holds (Value.int .i64) w blk off zs.toArray) (hblk:blk < w.heap.size) (hsz:zs.length < 4611686018427387904) :
    Calls Tryz.prog 65 #[.slice (some ⟨blk,off,none⟩) zs.length cap] w fun e w' =>
      e = .returned (.tuple #[])∧∃ n os,w'=grow (putRow (Value.int .i64) (Sort.ahead w n) blk off (zs.mergeSort fun x y=>decide (x≤y)).toArray) os:=Any.slices_Sort_int Tryz.lays189 blk off cap zs w hH hblk hsz
def Tryz.laysNm220_ren:Go.Shelf.Ren:=⟨fun | 20=>66 | n=>n,fun | 22=>43 | 3=>3 | 4=>4 | 0=>0 | n=>n,fun | n=>n⟩
theorem Tryz.laysNm220:Go.Proofs.Lays2.n20 Tryz.prog Tryz.laysNm220_ren:={
  mixed:=by kernel_rfl
  f20:=Tryz.func66.trans (congrArg some (by kernel_rfl))
  t0:=Tryz.underlying0
  a0:=Tryz.isAgg0
  z0:=Tryz.sizeOf0
  v0:=Tryz.zeroValue0
  t3:=Tryz.underlying3
  a3:=Tryz.isAgg3
  z3:=Tryz.sizeOf3
  v3:=Tryz.zeroValue3
  t4:=Tryz.underlying4
  a4:=Tryz.isAgg4
  z4:=Tryz.sizeOf4
  v4:=Tryz.zeroValue4
  t22:=Tryz.underlying43
  a22:=Tryz.isAgg43
  z22:=Tryz.sizeOf43
  v22:=Tryz.zeroValue43
  i3:=by kernel_rfl }
open Go.RowKit Go.Lib Go.Sort in
/-- slices.Compact at []int: "Compact replaces consecutive runs of equal elements with a single copy. This is like the uniq command found on Unix. Compact modifies the contents of the slice s and returns the modified slice, which may have a smaller length. Compact zeroes the elements between the new length and the original length. The result preserves the nilness of s.": IT RETURNS THE SLICE CUT TO 'Lib.compact zs'; ITS CELLS HOLD 'Lib.compact zs', THEN ZERO VALUES up to the old length; all else is as it was, but for the count of draws. IN THE WORDS OF slices.Sort's CONTRACT ('Holds', 'putRow'): so the everyday 'slices.Sort(xs); xs = slices.Compact(xs)' goes from the one wj to the other. It asks 'zs.length ≤ cap' (every slice's: the reslicing 's[:k]' looks at it). Length 0, nil: '.._empty'. (LAID: no walk: one application.) -/
theorem Tryz.slices_Compact_int (blk off cap:Nat) (zs:List Int) (w:World) (hH:Holds (Value.int .i64) w blk off zs.toArray) (hsz:zs.length≤9223372036854775807) (hcap:zs.length≤cap) :
    Calls Tryz.prog 66 #[.slice (some ⟨blk,off,none⟩) zs.length cap] w fun e w'=>e = .returned (.slice (some ⟨blk,off,none⟩) (Lib.compact zs).length cap)∧∃ q,w'=putRow (Value.int .i64) (Sort.ahead w q) blk off (Lib.compact zs++List.replicate (zs.length - (Lib.compact zs).length) 0).toArray:=Any.slices_Compact_int Tryz.laysNm220 blk off cap zs w hH hsz hcap
open Go.RowKit Go.Lib Go.Sort in
/-- The same at a slice of length 0, a nil one too: it comes back as it is. (LAID: no walk: one application.) -/
theorem Tryz.slices_Compact_int_empty (a:Option Addr) (cap:Nat) (w:World) :
    Calls Tryz.prog 66 #[.slice a 0 cap] w fun e w'=>e = .returned (.slice a 0 cap)∧w'=w:=Any.slices_Compact_int_empty Tryz.laysNm220 a cap w
open Go.RowKit Go.Sort in
/-- .. and plain. (LAID: no walk: one application.) -/
theorem Tryz.slices_Sort_int_none (p:Option Addr) (cap:Nat) (w:World) :
    Calls Tryz.prog 65 #[.slice p 0 cap] w fun e w'=>e = .returned (.tuple #[])∧w'=w:=Any.slices_Sort_int_none Tryz.lays189 p cap w
end Go.Proofs
namespace Go.Proofs.YtfldcmoebihobaaGreatDoor
noncomputable section
set_option linter.unusedVariables false
open Go.RowKit
def srt (xs:List Int):Option (List Int):=if xs.length≤1073741824 then some (xs.mergeSort fun x y=>decide (x≤y)) else none
theorem DK {xs r:List Int} (h:srt xs=some r):xs.length≤1073741824∧xs.mergeSort (fun x y=>decide (x≤y))=r:=by
 unfold srt at h; split at h
 . rename_i hh; cases h; exact ⟨hh,rfl⟩
 . cases h
theorem rq (K:Hp):∀ xs:List Int,Els K (.int .i64) (xs.map (Value.int .i64)) xs
 | []=>rfl
 | x :: xs=>⟨[.int .i64 x],_,rfl,rfl,rq K xs⟩
theorem qE {K:Hp}:∀ {xs:List Int} {cs:List Value},Els K (.int .i64) cs xs→cs=xs.map (Value.int .i64)
 | [],cs,h=>h
 | x :: xs,cs,h=>by
   obtain ⟨es,r,rfl,h1,h2⟩:=h
   obtain rfl:es=[.int .i64 x]:=h1
   rw [qE h2]; rfl
theorem AQ {K:Hp} {ad:Option Addr} {m cap:Nat} {xs r:List Int} (h:srt xs=some r) :
   Tr Tryz.prog 65 #[.slice ad m cap] K [Row Hp.nil 3 (.int .i64) (.slice ad m cap) xs] (fun v K' L'=>(∃ (l:List Int),l=r∧v = .tuple #[]∧L'=[Row Hp.nil 3 (.int .i64) (.slice ad m cap) l])∧K=K'):=by
 obtain ⟨hl,rfl⟩:=DK h
 refine Tr.k (fun E w F hs=>?_)
 have hs':=hs
 obtain ⟨h0,⟨cs,h1,h2⟩,hd,hs2⟩:=hs
 have hle:h0.le (Hp.of w):=fun n o e=>hs2.sub n o (Hp.join_right e (hd n o e))
 obtain rfl:=qE h1
 have h2':=h2
 obtain ⟨h3,h4⟩:=h2
 rcases h4 with ⟨h5,h6,_⟩ | ⟨g,cp,cur,h5,rfl,h6,h7,h8,h9⟩
 . cases h5
   obtain rfl:xs=[]:=List.length_eq_zero_iff.1 h6
   refine (Tryz.slices_Sort_int_none none 0 w).mono ?_
   rintro e w' ⟨rfl,rfl⟩
   exact ⟨_,K,_,rfl,⟨_,rfl,rfl,rfl⟩,Hp.le_refl K,by simpa using hs'⟩
 . cases h5
   have hb:=hle g _ (ba g _)
   have ht:cur.toList.take xs.length=xs.map (Value.int .i64):=by simpa [Tp.size] using h9
   refine (Tryz.slices_Sort_int g 0 cap xs w (holds_of_blockI hb ht) (lt_of_block hb) (by omega)).mono ?_
   rintro e w' ⟨rfl,n,os,rfl⟩
   have hlen:(xs.mergeSort fun x y=>decide (x≤y)).length=xs.length:=List.length_mergeSort xs
   have ho:=ownsRow_sortedI (n:=n) (os:=os) (base:=0) (cap:=cap) hlen (Nat.zero_le g) hb h6 h7 (by simpa [Tp.size] using h8)
   refine ⟨_,K,[Row Hp.nil 3 (.int .i64) (.slice (some ⟨g,0,none⟩) xs.length cap) (xs.mergeSort fun x y=>decide (x≤y))],rfl,⟨_,rfl,rfl,rfl⟩,Hp.le_refl K,?_⟩
   exact hs'.grown hlen.symm (by simpa [hlen,Tp.size] using ho) (rq _ _) (grownBy_sortedI _) (.inl rfl)
def jw (xs:List Int):Option (List Int):=some (Lib.compact xs)
theorem Az {K:Hp} {ad:Option Addr} {m cap:Nat} {xs r:List Int} (h:jw xs=some r) :
   Tr Tryz.prog 66 #[.slice ad m cap] K [Row Hp.nil 3 (.int .i64) (.slice ad m cap) xs] (fun v K' L'=>(∃ (l:List Int) (ad1:Option Addr) (cp1:Nat),l=r∧v = .slice ad1 l.length cp1∧L'=[Row Hp.nil 3 (.int .i64) (.slice ad1 l.length cp1) l])∧K=K'):=by
 cases h
 refine Tr.k (fun E w F hs=>?_)
 have hs':=hs
 obtain ⟨h0,⟨cs,h1,h2⟩,hd,hs2⟩:=hs
 have hle:h0.le (Hp.of w):=fun n o e=>hs2.sub n o (Hp.join_right e (hd n o e))
 obtain rfl:=qE h1
 obtain ⟨h3,h4⟩:=h2
 rcases h4 with ⟨h5,h6,_⟩ | ⟨g,cp,cur,h5,rfl,h6,h7,h8,h9⟩
 . cases h5
   obtain rfl:xs=[]:=List.length_eq_zero_iff.1 h6
   refine (Tryz.slices_Compact_int_empty none 0 w).mono ?_
   rintro e w' ⟨rfl,rfl⟩
   exact ⟨_,K,_,rfl,⟨_,none,0,rfl,rfl,rfl⟩,Hp.le_refl K,hs'⟩
 . cases h5
   have hb:=hle g _ (ba g _)
   have ht:cur.toList.take xs.length=xs.map (Value.int .i64):=by simpa [Tp.size] using h9
   have hcl:(Lib.compact xs).length≤xs.length:=Lib.compact_length_le xs
   refine (Tryz.slices_Compact_int g 0 cap xs w (holds_of_blockI hb ht) (by unfold maxLen at h7; omega) h6).mono ?_
   rintro e w' ⟨rfl,q,rfl⟩
   have hlen:(Lib.compact xs++List.replicate (xs.length - (Lib.compact xs).length) (0:Int)).length=xs.length:=by simp; omega
   have ho:=ownsRow_sortedI (n:=q) (os:=#[]) (base:=0) (cap:=cap) hlen (Nat.zero_le g) hb h6 h7 (by simpa [Tp.size] using h8)
   have hg:=grownBy_sortedI (w:=w) (g:=g) (n:=q) (os:=#[]) (Lib.compact xs++List.replicate (xs.length - (Lib.compact xs).length) (0:Int)).toArray
   rw [show ∀ W:World,Sort.grow W #[]=W from fun W=>by simp [Sort.grow]] at ho hg
   refine ⟨_,K,[Row Hp.nil 3 (.int .i64) (.slice (some ⟨g,0,none⟩) (Lib.compact xs).length cap) (Lib.compact xs)],rfl,⟨_,_,_,rfl,rfl,rfl⟩,Hp.le_refl K,?_⟩
   refine hs'.grown rfl ?_ (rq _ _) hg (.inl rfl)
   obtain ⟨o1,o2⟩:=ho
   refine ⟨by simp [Tp.size],?_⟩
   rcases o2 with ⟨o2,_⟩ | ⟨g',cp',cur',o2,o3,o4,o5,o6,o7,o8⟩
   . cases o2
   . simp only [Value.slice.injEq,Option.some.injEq,Addr.mk.injEq,and_true] at o2
     obtain ⟨rfl,_,rfl⟩:=o2
     refine .inr ⟨g,cap,cur',rfl,Nat.zero_le _,o4,by omega,o6,by simpa [Tp.size] using o7,?_⟩
     have:cur'.toList.take (Lib.compact xs).length=(cur'.toList.take xs.length).take (Lib.compact xs).length:=by rw [List.take_take,Nat.min_eq_left hcl]
     simp only [Nat.mul_one] at o8
     have hsz:(Tp.int IntKind.i64).size=1:=rfl
     rw [hsz,Nat.mul_one,this,o8,List.map_append,List.take_append_of_le_length (by simp),List.take_of_length_le (by simp)]
set_option linter.unnecessarySimpa false
set_option linter.unusedSectionVars false
set_option linter.unusedSimpArgs false
section
variable [BldA]
theorem xZ {m:List M} {K:Hp} {x:List Int} {e:TypeId} {args:List Value} {E:En} {w:World} {F:List ab} (hm:m.length=2) (hH:HA.ok m K (.row 0 1 e (.int .i64) x x.length)) (hsl:slR m K [(0,.own 0)] args) (hs:Sep E K ([HA.row 0 1 e (.int .i64) x x.length].map (HA.conc m)++F) w) :
   ∃ ad cap,args=[.slice ad x.length cap]∧m[0]? = some (.val (.slice ad x.length cap))∧Sep E K (Row Hp.nil e (.int .i64) (.slice ad x.length cap) x :: F) w:=by
 obtain ⟨ad,cap,cs,e0,e1,hE,_,h1,h2,h3⟩:=hH
 obtain ⟨u,r,rfl,⟨e2,e3⟩,rfl⟩:=hsl
 rw [e0] at e2
 cases e2
 refine ⟨ad,cap,rfl,e0,?_⟩
 have hs':Sep E K (HA.conc m (.row 0 1 e (.int .i64) x x.length) :: F) w:=hs
 simp only [HA.conc,e0,e1] at hs'
 exact hs'.mono (fun h k=>⟨cs,Els.flat rfl hE,k⟩)
theorem xh {K:Hp} {e:TypeId} {ad:Option Addr} {n cap:Nat} {l:List Int} {E:En} {w:World} {F:List ab} (hs:Sep E K ([Row Hp.nil e (.int .i64) (.slice ad n cap) l]++F) w) :
   n=l.length∧l.length≤cap∧cap≤maxLen∧(l≠[]→∃ g,ad=some ⟨g,0,none⟩)∧∃ cs,Els K (.int .i64) cs l∧Sep E K (Rw e 1 (.slice ad l.length cap) l.length cs :: F) w:=by
 have hs:Sep E K (Row Hp.nil e (.int .i64) (.slice ad n cap) l :: F) w:=hs
 obtain ⟨ad',cap',h1,h2,h3,h4⟩:=hs.fact (fun h k=>Row.form h k)
 cases h1
 obtain ⟨h0,⟨cs,hE,hR⟩,hd,hs2⟩:=hs
 exact ⟨rfl,h2,h3,h4,cs,Els.flat rfl hE,h0,hR,hd,hs2⟩
def sb:Spec:=⟨65,⟨[(0,.rp 0)],[⟨none,0,[],false,false,some (.row 3 (.dat (.int .i64))),false⟩]⟩,[⟨[],[⟨some 0,0,[],false,false,some (.row 3 (.dat (.int .i64))),false⟩]⟩],fun x=>srt x⟩
theorem EO:cX Tryz.prog sb:=by
 intro x r hr vs u hu m K args hgk hm hH hsl E w F hs
 have hu':sb.inn.un (TL.list _ x) 0=some ([(0,.own 0)],⟨[],2,[.row 0 1 3 (.int .i64) x (List.length (α:=Int) x)],[]⟩):=rfl
 rw [hu'] at hu
 cases hu
 replace hm:m.length=2:=hm
 obtain ⟨ad,cap,rfl,e0,hs'⟩:=xZ hm (hH _ (by simp)) hsl hs
 refine (AQ (K:=K) hr E w F hs').mono ?_
 rintro e w' ⟨v,K',L',rfl,⟨⟨l,rfl,rfl,rfl⟩,rfl⟩,h1,h2⟩
 obtain ⟨g1,g2,g3,g4,cs,g5,g6⟩:=xh h2
 have hm0:(m++[M.cont (.int .i64) l cs])[0]? = some (.val (.slice ad (List.length (α:=Int) l) cap)):=by
   rw [List.getElem?_append_left (by omega),e0,g1]
 have hm1:(m++[M.cont (.int .i64) l cs])[2]? = some (.cont (.int .i64) l cs):=by
   rw [List.getElem?_append_right (by omega),hm]; rfl
 refine ⟨_,K,_,rfl,⟨[],⟨[],3,[.row 0 2 3 (.int .i64) l (List.length (α:=Int) l)],[]⟩,m++[.cont (.int .i64) l cs],rfl,List.prefix_append _ _,by simp [hm],?_,rfl,rfl⟩,h1,?_⟩
 . intro a ha
   simp only [List.mem_singleton] at ha
   subst ha
   exact ⟨ad,cap,cs,hm0,hm1,g5,rfl,g2,g3,g4⟩
 . show Sep E K (HA.conc _ (.row 0 2 3 (.int .i64) l (List.length (α:=Int) l)) :: F) w'
   simp only [HA.conc,hm0,hm1]
   exact g6
def xV:OkSpec Tryz.prog:=⟨sb,EO,Tryz.call65⟩
def qP:Spec:=⟨66,⟨[(0,.own 3 (.int .i64))],[]⟩,[⟨[(0,.own 3 (.int .i64))],[]⟩],fun x=>jw x⟩
theorem BG:cX Tryz.prog qP:=by
 intro x r hr vs u hu m K args hgk hm hH hsl E w F hs
 have hu':qP.inn.un (TL.list _ x) 0=some ([(0,.own 0)],⟨[],2,[.row 0 1 3 (.int .i64) x (List.length (α:=Int) x)],[0]⟩):=rfl
 rw [hu'] at hu
 cases hu
 replace hm:m.length=2:=hm
 obtain ⟨ad,cap,rfl,e0,hs'⟩:=xZ hm (hH _ (by simp)) hsl hs
 refine (Az (K:=K) hr E w F hs').mono ?_
 rintro e w' ⟨v,K',L',rfl,⟨⟨l,ad1,cp1,rfl,rfl,rfl⟩,rfl⟩,h1,h2⟩
 obtain ⟨_,g2,g3,g4,cs,g5,g6⟩:=xh h2
 have hm0:(m++[M.val (.slice ad1 (List.length (α:=Int) l) cp1),M.cont (.int .i64) l cs])[2]? = some (.val (.slice ad1 (List.length (α:=Int) l) cp1)):=by
   rw [List.getElem?_append_right (by omega),hm]; rfl
 have hm1:(m++[M.val (.slice ad1 (List.length (α:=Int) l) cp1),M.cont (.int .i64) l cs])[3]? = some (.cont (.int .i64) l cs):=by
   rw [List.getElem?_append_right (by omega),hm]; rfl
 refine ⟨_,K,_,rfl,⟨[(0,.own 2)],⟨[],4,[.row 2 3 3 (.int .i64) l (List.length (α:=Int) l)],[2]⟩,m++[M.val (.slice ad1 (List.length (α:=Int) l) cp1),M.cont (.int .i64) l cs],rfl,List.prefix_append _ _,by simp [hm],?_,⟨hm0,rfl⟩,rfl⟩,h1,?_⟩
 . intro a ha
   simp only [List.mem_singleton] at ha
   subst ha
   exact ⟨ad1,cp1,cs,hm0,hm1,g5,rfl,g2,g3,g4⟩
 . show Sep E K (HA.conc _ (.row 2 3 3 (.int .i64) l (List.length (α:=Int) l)) :: F) w'
   simp only [HA.conc,hm0,hm1]
   exact g6
def vl:OkSpec Tryz.prog:=⟨qP,BG,Tryz.call66⟩
end
end
end Go.Proofs.YtfldcmoebihobaaGreatDoor
namespace Go.Proofs
open Go.Shelf
def Tryz.lays29_ren:Go.Shelf.Ren:=⟨fun | 29=>100 | n=>n,fun | 22=>122 | 3=>3 | 4=>4 | 25=>148 | 54=>185 | 0=>0 | 5=>5 | n=>n,fun | 1=>0 | n=>n⟩
theorem Tryz.lays29:Go.Proofs.Lays7.n29 Tryz.prog Tryz.lays29_ren:={
  mixed:=by kernel_rfl
  f29:=Tryz.func100.trans (congrArg some (by kernel_rfl))
  t0:=Tryz.underlying0
  a0:=Tryz.isAgg0
  z0:=Tryz.sizeOf0
  v0:=Tryz.zeroValue0
  i0:=by kernel_rfl
  t3:=Tryz.underlying3
  a3:=Tryz.isAgg3
  z3:=Tryz.sizeOf3
  v3:=Tryz.zeroValue3
  i3:=by kernel_rfl
  t4:=Tryz.underlying4
  a4:=Tryz.isAgg4
  z4:=Tryz.sizeOf4
  v4:=Tryz.zeroValue4
  i4:=by kernel_rfl
  t5:=Tryz.underlying5
  a5:=Tryz.isAgg5
  z5:=Tryz.sizeOf5
  v5:=Tryz.zeroValue5
  i5:=by kernel_rfl
  t22:=Tryz.underlying122
  a22:=Tryz.isAgg122
  z22:=Tryz.sizeOf122
  v22:=Tryz.zeroValue122
  i22:=by kernel_rfl
  t25:=Tryz.underlying148
  a25:=Tryz.isAgg148
  z25:=Tryz.sizeOf148
  v25:=Tryz.zeroValue148
  i25:=by kernel_rfl
  t54:=Tryz.underlying185
  a54:=Tryz.isAgg185
  z54:=Tryz.sizeOf185
  g1:=by kernel_rfl }
end Go.Proofs
namespace Go.Proofs.YtfldcmoebihobaaGreatDoor
noncomputable section
set_option linter.unusedVariables false
set_option linter.unnecessarySimpa false
set_option linter.unusedSectionVars false
set_option linter.unusedSimpArgs false
open Go.RowKit
def tzF (x:Int):Option Int:=if 0≤x∧x < 18446744073709551616 then some ((Lib.ctz 64 x.toNat:Nat):Int) else none
def tzGk (K:Hp):Prop:=∀ j,j < 64→aW K 0 j=some (.int .u8 ((Lib.deBruijn64tab.getD j 0:Nat):Int))
theorem tzGk.mono {K K':Hp} (h:K.cle K') (g:tzGk K):tzGk K':=fun j hj=>h _ _ _ (g j hj)
def tM:Spec:=⟨100,⟨[(0,.dat (.int .u64))],[]⟩,[⟨[(0,.dat (.int .i64))],[]⟩],tzF⟩
theorem IF [BldA] (hg:∀ K,BldA.gk K→tzGk K):cX Tryz.prog tM:=by
 intro x r hr vs u hu m K args hgk hm hH hsl E w F hs
 have hu':tM.inn.un (TL.list _ x) 0=some ([(0,.int .u64 x)],⟨[],0,[],[]⟩):=rfl
 rw [hu'] at hu
 cases hu
 obtain ⟨v,q,rfl,h1,rfl⟩:=hsl
 obtain rfl:v = .int .u64 x:=h1
 replace hr:tzF x=some r:=hr
 unfold tzF at hr
 split at hr
 . rename_i hx
   cases hr
   have hxe:((x.toNat:Nat):Int)=x:=Int.toNat_of_nonneg hx.1
   have hc:=Any7.bits_TrailingZeros64 Tryz.lays29 x.toNat (by omega) w (fun _ j hj=>dn hs.sub (hg K hgk j hj))
   rw [hxe] at hc
   refine Calls.mono (show Calls Tryz.prog 100 #[.int .u64 x] w _ from hc) ?_
   rintro e w' ⟨rfl,rfl⟩
   exact ⟨_,K,[],rfl,⟨[(0,.int .i64 _)],⟨[],0,[],[]⟩,m,rfl,List.prefix_rfl,hm,fun a h=>(by cases h),rfl,rfl⟩,Hp.le_refl K,hs⟩
 . cases hr
set_option maxRecDepth 100000
set_option maxHeartbeats 4000000
section
theorem ru (w:World):(zeroValue 3).run Tryz.prog w = .ok (.int .i64 0) w:=by
 rfl
theorem rn (p:Addr) (w:World) :
   CallsD Tryz.prog 97 #[.pointer (some p)] .returning w fun e u' w'=>e = .returned (.tuple #[])∧u' = .returning∧w'=w:=by
 refine callsD_of_wpS Tryz.func97 rfl fun c₀ cs hu=>?_
 apply wpS_seq
 apply wpS_region
 simp [wpOpsS,go_sem,recoverD,hu,Tryz.ntmps97,Exit.thenS]
 refine wpS_cond (t:=false) (by simp [Act.eval,Array.replicate]) ?_
 simp only [Bool.false_eq_true,if_false]
 refine wpS_of_wp (wp_skip ?_)
 cases c₀
 simp_all [bodyPostS,results,Tryz.results97]
theorem vB (w:World) :
   CallsD Tryz.prog 99 #[] .returning w fun e u' w'=>e = .returned (.tuple #[])∧u' = .returning∧w'=w:=by
 refine callsD_of_wpS Tryz.func99 rfl fun c₀ cs hu=>?_
 apply wpS_region
 simp [wpOpsS,go_sem,recoverD,hu,Tryz.ntmps99,Exit.thenS]
 cases c₀
 simp_all [bodyPostS,results,Tryz.results99]
theorem sC (r:Option Nat) (w:World):(binOp .eql 114 (.map r) (.map none)).run Tryz.prog w = .ok (.bool r.isNone) w:=by
 have h:(Op.equal 114 (.map r) (.map none)).run Tryz.prog w = .ok r.isNone w:=by
   unfold Op.equal
   rw [show Op.maxDepth=9999 + 1 from rfl,Op.equalIn]
   simp only [Sem.run_bind,run_underlying Tryz.underlying114,Result.andThen]
   cases r <;> rfl
 show (do pure (Value.bool (← Op.equal 114 (.map r) (.map none))):Sem Value).run _ _=_
 simp only [Sem.run_bind,h,Result.andThen,Sem.run_pure]
instance now_int:KeyNow Tryz.prog 3 (.int .i64):=⟨⟨_,Tryz.underlying3,fun a b=>by
 show some ((a:Int) == b)=some (decide ((b:Int)=a)); exact congrArg some (De a b),fun e n a w=>by
 unfold Instr.checkKey
 simp only [Sem.run_bind,run_underlying Tryz.underlying3,Result.andThen,au]
 rfl,fun n a=>by simp [Instr.sameBits,au]⟩⟩
section
variable (b r:Nat) (c0 c1 c2:Value) (k:Int) {es:Array MapEntry} {cl:Nat} {l:List (Int×Int)} (w:World)
theorem A6 (hb:w.heap[b]? = some (.cells #[c0,c1,c2,.map (some r)] 116 (0,0))) (hr:w.heap[r]? = some (.map es cl))
   (hl:es.toList.map (fun e=>(e.key,e.val))=l.map (fun p=>(au (.int .i64) p.1,Value.int .i64 p.2))) (hp:aC k l > 0) :
   Calls Tryz.prog 77 #[.pointer (some ⟨b,0,none⟩),.int .i64 k] w fun e w'=>e = .returned (.bool false)∧w'=(w.alloc (.cells #[.bool false] 4)).setCell ⟨w.heap.size,0,none⟩ (.bool false):=by
 have hmf:∀ (fn:Fn) (first cap:Array Value) (w:World),(Instr.makeFunc fn first cap).run Tryz.prog w = .ok (.func fn first cap) w:=fun _ _ _ _=>rfl
 have hr1:(w.alloc (.cells #[.bool false] 4)).heap[r]? = some (.map es cl):=du hr
 have hld:(w.alloc (.cells #[.bool false] 4)).cell? ⟨b,3,none⟩=some (.map (some r)):=by
   have hb1:(w.alloc (.cells #[.bool false] 4)).heap[b]? = some (.cells #[c0,c1,c2,.map (some r)] 116 (0,0)):=du hb
   simp [World.cell?,hb1]
 have hlk:(Instr.lookup 114 (.map (some r)) (.int .i64 k) false).run Tryz.prog (w.alloc (.cells #[.bool false] 4)) = .ok (.int .i64 (aC k l)) (w.alloc (.cells #[.bool false] 4)):=mU (kt := .int .i64) Tryz.underlying114 ru k hr1 hl
 have heq:=sC (some r)
 simp only [Option.isNone_some] at heq
 have hgt:decide (aC k l > 0)=true:=by simpa using hp
 go_enter_defers Tryz.func77,Tryz.ntmps77
 go_wp2
 refine leaves_cons (f:=97) (args:=#[.pointer (some ⟨w.heap.size,0,none⟩)]) (by simp) (by simp [go_sem]) ?_
 refine (rn ⟨w.heap.size,0,none⟩ _).mono ?_
 rintro e u' w'' ⟨rfl,rfl,rfl⟩
 simp [Leaves,settle,results,Tryz.results77,go_sem]
theorem A9 (hb:w.heap[b]? = some (.cells #[c0,c1,c2,.map (some r)] 116 (0,0))) (hr:w.heap[r]? = some (.map es cl))
   (hl:es.toList.map (fun e=>(e.key,e.val))=l.map (fun p=>(au (.int .i64) p.1,Value.int .i64 p.2))) (hB:Brn es cl) (hp:¬ aC k l > 0) :
   Calls Tryz.prog 77 #[.pointer (some ⟨b,0,none⟩),.int .i64 k] w fun e w'=>e = .returned (.bool true)∧zg w w' r (.int .i64) (bx k (wrap64 (aC k l + 1)) l):=by
 have hmf:∀ (fn:Fn) (first cap:Array Value) (w:World),(Instr.makeFunc fn first cap).run Tryz.prog w = .ok (.func fn first cap) w:=fun _ _ _ _=>rfl
 have hr1:(w.alloc (.cells #[.bool false] 4)).heap[r]? = some (.map es cl):=du hr
 have hld:(w.alloc (.cells #[.bool false] 4)).cell? ⟨b,3,none⟩=some (.map (some r)):=by
   have hb1:(w.alloc (.cells #[.bool false] 4)).heap[b]? = some (.cells #[c0,c1,c2,.map (some r)] 116 (0,0)):=du hb
   simp [World.cell?,hb1]
 have hlk:(Instr.lookup 114 (.map (some r)) (.int .i64 k) false).run Tryz.prog (w.alloc (.cells #[.bool false] 4)) = .ok (.int .i64 (aC k l)) (w.alloc (.cells #[.bool false] 4)):=mU (kt := .int .i64) Tryz.underlying114 ru k hr1 hl
 have heq:=sC (some r)
 simp only [Option.isNone_some] at heq
 have hgt:decide (aC k l > 0)=false:=by simpa using hp
 obtain ⟨es',cl',hup,hl',hB'⟩:=qk (kt := .int .i64) (P:=Tryz.prog) (mt:=114) Tryz.underlying114 k (wrap64 (aC k l + 1)) hr1 hl hB
 obtain ⟨w2,hup,hO1,hn⟩:∃ w2:World,(Instr.mapUpdate 114 (.map (some r)) (.int .i64 k) (.int .i64 (wrap64 (aC k l + 1)))).run Tryz.prog (w.alloc (.cells #[.bool false] 4)) = .ok () w2∧Onl w w2 r (.map es' cl')∧w2.heap[w.heap.size]? = some (.cells #[.bool false] 4):=by
   have hrs:=lt_of_block hr
   refine ⟨_,hup,⟨?_,fun n x hne hx=>?_,rfl,rfl,rfl⟩,?_⟩
   . simp only [Array.getElem?_setIfInBounds]
     rw [if_pos trivial,if_pos (lt_of_block hr1)]
   . simp only [Array.getElem?_setIfInBounds]
     rw [if_neg (fun e=>hne e.symm)]
     exact du hx
   . simp only [Array.getElem?_setIfInBounds]
     rw [if_neg (by omega)]
     exact kK w _
 have hc2:w2.cell? ⟨w.heap.size,0,none⟩=some (.bool false):=by simp [World.cell?,hn]
 have hz2:w2.frozen? ⟨w.heap.size,0,none⟩=false:=by simp [World.frozen?,hn]
 go_enter_defers Tryz.func77,Tryz.ntmps77
 go_wp2
 refine leaves_cons (f:=97) (args:=#[.pointer (some ⟨w.heap.size,0,none⟩)]) (by simp) (by simp [go_sem]) ?_
 refine (rn ⟨w.heap.size,0,none⟩ _).mono ?_
 rintro e u' w'' ⟨rfl,rfl,rfl⟩
 have hc3:(w2.setCell ⟨w.heap.size,0,none⟩ (.bool true)).cell? ⟨w.heap.size,0,none⟩=some (.bool true):=by simp [World.cell?,World.setCell,Array.getElem?_modify,hn]
 have hO:Onl w (w2.setCell ⟨w.heap.size,0,none⟩ (.bool true)) r (.map es' cl'):=by
   have hrs:=lt_of_block hr
   obtain ⟨o1,o2,o3⟩:=hO1
   exact ⟨by rw [dX (by omega)]; exact o1,fun n x hne hx=>by have:=lt_of_block hx; rw [dX (by omega)]; exact o2 n x hne hx,o3⟩
 simp [Leaves,settle,results,Tryz.results77,go_sem,hc3]
 exact ⟨es',cl',hO,hl',hB'⟩
theorem Bd (hb:w.heap[b]? = some (.cells #[c0,c1,c2,.map none] 116 (0,0))) :
   Calls Tryz.prog 77 #[.pointer (some ⟨b,0,none⟩),.int .i64 k] w fun e w'=>e = .returned (.bool true)∧JG w w' b (fun r => .cells #[c0,c1,c2,.map (some r)] 116 (0,0)) (.int .i64) (bx k (wrap64 (aC k [] + 1)) []):=by
 have hmf:∀ (fn:Fn) (first cap:Array Value) (w:World),(Instr.makeFunc fn first cap).run Tryz.prog w = .ok (.func fn first cap) w:=fun _ _ _ _=>rfl
 have hbs:=lt_of_block hb
 have hb1:(w.alloc (.cells #[.bool false] 4)).heap[b]? = some (.cells #[c0,c1,c2,.map none] 116 (0,0)):=du hb
 have hld:(w.alloc (.cells #[.bool false] 4)).cell? ⟨b,3,none⟩=some (.map none):=by simp [World.cell?,hb1]
 have heq:=sC none
 simp only [Option.isNone_none] at heq
 have hsz:(w.alloc (.cells #[.bool false] 4)).heap.size=w.heap.size + 1:=by simp
 have hmk:(Instr.makeMap 114 none).run Tryz.prog (w.alloc (.cells #[.bool false] 4)) = .ok (.map (some (w.heap.size + 1))) ((w.alloc (.cells #[.bool false] 4)).alloc (.map #[] 0)):=by
   simp only [Instr.makeMap,Sem.run_bind,Sem.run_pure,run_newObj_alloc,Result.andThen,hsz]
 obtain ⟨w2,hw2,ho2,he2⟩:∃ w2,(Instr.makeMap 114 none).run Tryz.prog (w.alloc (.cells #[.bool false] 4)) = .ok (.map (some (w.heap.size + 1))) w2∧(w2.heap[w.heap.size + 1]? = some (.map #[] 0)∧w2.heap[w.heap.size]? = some (.cells #[.bool false] 4)∧∀ n x,w.heap[n]? = some x→w2.heap[n]? = some x)∧w2.os=w.os∧w2.tape=w.tape∧w2.output=w.output:=by
   refine ⟨_,hmk,⟨?_,du (kK w _),fun n x hx=>du (du hx)⟩,rfl,rfl,rfl⟩
   rw [← hsz]; exact kK _ _
 clear hmk
 obtain ⟨ho2r,ho2n,ho2o⟩:=ho2
 have hcb2:w2.cell? ⟨b,3,none⟩=some (.map none):=by simp [World.cell?,ho2o _ _ hb]
 have hzb2:w2.frozen? ⟨b,3,none⟩=false:=by simp [World.frozen?,ho2o _ _ hb]
 obtain ⟨w3,hw3⟩:∃ w3,w2.setCell ⟨b,3,none⟩ (.map (some (w.heap.size + 1)))=w3:=⟨_,rfl⟩
 have h3r:w3.heap[w.heap.size + 1]? = some (.map #[] 0):=by rw [← hw3,dX (by omega)]; exact ho2r
 have h3n:w3.heap[w.heap.size]? = some (.cells #[.bool false] 4):=by rw [← hw3,dX (by omega)]; exact ho2n
 have h3b:w3.heap[b]? = some (.cells #[c0,c1,c2,.map (some (w.heap.size + 1))] 116 (0,0)):=by
   rw [← hw3]; simp [World.setCell,Array.getElem?_modify,ho2o _ _ hb]
 have hc3:w3.cell? ⟨b,3,none⟩=some (.map (some (w.heap.size + 1))):=by simp [World.cell?,h3b]
 have hlk:(Instr.lookup 114 (.map (some (w.heap.size + 1))) (.int .i64 k) false).run Tryz.prog w3 = .ok (.int .i64 0) w3:=mU (kt := .int .i64) Tryz.underlying114 ru k h3r (l:=[]) rfl
 obtain ⟨es',cl',hup,hl',hB'⟩:=qk (kt := .int .i64) (P:=Tryz.prog) (mt:=114) Tryz.underlying114 k 1 h3r (l:=[]) rfl ⟨List.nodup_nil,fun e he=>by cases he⟩
 obtain ⟨w4,hup,h4r,h4o,h4e⟩:∃ w4:World,(Instr.mapUpdate 114 (.map (some (w.heap.size + 1))) (.int .i64 k) (.int .i64 1)).run Tryz.prog w3 = .ok () w4∧w4.heap[w.heap.size + 1]? = some (.map es' cl')∧(∀ n,n≠w.heap.size + 1→w4.heap[n]? = w3.heap[n]?)∧w4.os=w3.os∧w4.tape=w3.tape∧w4.output=w3.output:=by
   refine ⟨_,hup,?_,fun n hne=>?_,rfl,rfl,rfl⟩
   . simp only [Array.getElem?_setIfInBounds]
     rw [if_pos trivial,if_pos (lt_of_block h3r)]
   . simp only [Array.getElem?_setIfInBounds]
     rw [if_neg (fun e=>hne e.symm)]
 have h4n:w4.heap[w.heap.size]? = some (.cells #[.bool false] 4):=(h4o _ (by omega)).trans h3n
 have hc4:w4.cell? ⟨w.heap.size,0,none⟩=some (.bool false):=by simp [World.cell?,h4n]
 have hz4:w4.frozen? ⟨w.heap.size,0,none⟩=false:=by simp [World.frozen?,h4n]
 go_enter_defers Tryz.func77,Tryz.ntmps77
 go_wp2
 refine leaves_cons (f:=97) (args:=#[.pointer (some ⟨w.heap.size,0,none⟩)]) (by simp) (by simp [go_sem]) ?_
 refine (rn ⟨w.heap.size,0,none⟩ _).mono ?_
 rintro e u' w'' ⟨rfl,rfl,rfl⟩
 have hc5:(w4.setCell ⟨w.heap.size,0,none⟩ (.bool true)).cell? ⟨w.heap.size,0,none⟩=some (.bool true):=by simp [World.cell?,World.setCell,Array.getElem?_modify,h4n]
 have hO:tX w (w4.setCell ⟨w.heap.size,0,none⟩ (.bool true)) b (.cells #[c0,c1,c2,.map (some (w.heap.size + 1))] 116 (0,0)) (w.heap.size + 1) (.map es' cl'):=by
   obtain ⟨e1,e2,e3⟩:=h4e
   obtain ⟨f1,f2,f3⟩:=he2
   refine ⟨by rw [dX (by omega),h4o _ (by omega)]; exact h3b,by rw [dX (by omega)]; exact h4r,Array.getElem?_eq_none (by omega),fun n x hne hx=>?_,?_,?_,?_⟩
   . have:=lt_of_block hx
     rw [dX (by omega),h4o _ (by omega),← hw3,dX hne]; exact ho2o _ _ hx
   . exact e1.trans ((congrArg World.os hw3.symm).trans f1)
   . exact e2.trans ((congrArg World.tape hw3.symm).trans f2)
   . exact e3.trans ((congrArg World.output hw3.symm).trans f3)
 have h1:wrap64 (aC k [] + 1)=1:=IntWalk.wrap64_in (0 + 1) (by decide)
 rw [h1]
 simp only [Leaves,settle,results,Tryz.results77]
 simp [go_sem,hc5]
 exact ⟨_,es',cl',hO,hl',hB'⟩
theorem AO (hb:w.heap[b]? = some (.cells #[c0,c1,c2,.map (some r)] 116 (0,0))) (hr:w.heap[r]? = some (.map es cl))
   (hl:es.toList.map (fun e=>(e.key,e.val))=l.map (fun p=>(au (.int .i64) p.1,Value.int .i64 p.2))) (hB:Brn es cl) :
   Calls Tryz.prog 81 #[.pointer (some ⟨b,0,none⟩),.int .i64 k] w fun e w'=>e = .returned (.tuple #[])∧zg w w' r (.int .i64) (bL k l):=by
 have hld:w.cell? ⟨b,3,none⟩=some (.map (some r)):=by simp [World.cell?,hb]
 obtain ⟨es',hd,hl',hB'⟩:=AN (kt := .int .i64) (P:=Tryz.prog) (mt:=114) (ts:=#[114,3]) (ty:=0) Tryz.underlying114 rfl k hr hl hB
 obtain ⟨w2,hd,hO⟩:∃ w2:World,(Builtin.delete_ #[114,3] 0 #[.map (some r),.int .i64 k]).run Tryz.prog w = .ok (.tuple #[]) w2∧Onl w w2 r (.map es' cl):=by
   refine ⟨_,hd,⟨?_,fun n x hne hx=>?_,rfl,rfl,rfl⟩⟩
   . simp only [Array.getElem?_setIfInBounds]
     rw [if_pos trivial,if_pos (lt_of_block hr)]
   . simp only [Array.getElem?_setIfInBounds]
     rw [if_neg (fun e=>hne e.symm)]
     exact hx
 go_enter_defers Tryz.func81,Tryz.ntmps81
 go_wp2
 refine leaves_cons (f:=99) (args:=#[]) (by simp) (by simp [go_sem]) ?_
 refine (vB _).mono ?_
 rintro e u' w'' ⟨rfl,rfl,rfl⟩
 simp only [Leaves,settle,results,Tryz.results81]
 simp [go_sem]
 exact ⟨es',cl,hO,hl',hB'⟩
theorem AK (hb:w.heap[b]? = some (.cells #[c0,c1,c2,.map none] 116 (0,0))) :
   Calls Tryz.prog 81 #[.pointer (some ⟨b,0,none⟩),.int .i64 k] w fun e w'=>e = .returned (.tuple #[])∧w'=w:=by
 have hld:w.cell? ⟨b,3,none⟩=some (.map none):=by simp [World.cell?,hb]
 have hd:(Builtin.delete_ #[114,3] 0 #[.map none,.int .i64 k]).run Tryz.prog w = .ok (.tuple #[]) w:=AL (kt := .int .i64) (P:=Tryz.prog) (mt:=114) (ts:=#[114,3]) (ty:=0) Tryz.underlying114 rfl k
 go_enter_defers Tryz.func81,Tryz.ntmps81
 go_wp2
 refine leaves_cons (f:=99) (args:=#[]) (by simp) (by simp [go_sem]) ?_
 refine (vB _).mono ?_
 rintro e u' w'' ⟨rfl,rfl,rfl⟩
 simp only [Leaves,settle,results,Tryz.results81]
 simp [go_sem]
end
abbrev bv:OT := .obj 0 (.sl (.cons (.int .i64) (.one (.int .i64))))
theorem Bn {K K0:Hp} {b:Nat} {c0 c1 c2 mv:Value} (k:Int) (x:Option (List (Int×Int))) :
   Tr Tryz.prog 77 #[.pointer (some ⟨b,0,none⟩),.int .i64 k] K [Cl b 116 [c0,c1,c2,mv],OT.own K0 bv [mv] x] (fun v K' L'=>(∃ mv',mv'.oneCell'=true∧bv.form mv' (some (cZ k x):Option (List (Int×Int)))∧v = .bool (gW k x)∧L'=[Cl b 116 [c0,c1,c2,mv'],OT.own K0 bv [mv'] (some (cZ k x):Option (List (Int×Int)))])∧K=K'):=by
 intro E w F hs
 have hb:=hs.cl
 cases x with
 | none =>
   have hm:=hs.swap.fact (p:=[mv]=[Value.map none]) (fun h k=>k.1)
   cases hm
   refine (Bd b c0 c1 c2 k w hb).mono ?_
   rintro e w' ⟨rfl,r,es',cl',hO,hl,hB'⟩
   refine ⟨_,K,_,rfl,⟨⟨.map (some r),rfl,.inr ⟨_,r,rfl,rfl⟩,rfl,rfl⟩,rfl⟩,Hp.le_refl K,?_⟩
   exact ((Sep.onl2 hs.swap.drop hO).swap.mono (fun h k=>⟨r,_,rfl,⟨es',cl',rfl,hl,hB'⟩,k⟩)).swap
 | some l =>
   obtain ⟨r,o,e1,⟨es,cl,rfl,hl,hB⟩⟩:=hs.swap.fact (p:=∃ r o,[mv]=[Value.map (some r)]∧tZ 0 (.sl (.cons (.int .i64) (.one (.int .i64)))) l o) (fun h k=>by obtain ⟨r,o,a,b,_⟩:=k; exact ⟨r,o,a,b⟩)
   cases e1
   have hs1:Sep E K ((fun h=>∃ es cl,h=one r (.map es cl)∧es.toList.map (fun e=>(e.key,e.val))=l.map (fun p=>(au (.int .i64) p.1,Value.int .i64 p.2))∧Brn es cl) :: Cl b 116 [c0,c1,c2,.map (some r)] :: F) w :=
     hs.swap.mono (fun h k=>by obtain ⟨r',o,a,⟨es,cl,rfl,hl⟩,c⟩:=k; cases a; exact ⟨es,cl,c,hl⟩)
   obtain ⟨h0,⟨es,cl,rfl,hl,hB⟩,hd,hs1⟩:=hs1
   have hs2:Sep E K ((fun h=>h=one r (.map es cl)) :: Cl b 116 [c0,c1,c2,.map (some r)] :: F) w:=⟨_,rfl,hd,hs1⟩
   have hr:=hs2.obj
   by_cases hp:aC k l > 0
   . refine (A6 b r c0 c1 c2 k w hb hr hl hp).mono ?_
     rintro e w' ⟨rfl,rfl⟩
     refine ⟨_,K,_,rfl,⟨⟨.map (some r),rfl,.inr ⟨_,r,rfl,rfl⟩,by simp [gW,hp],rfl⟩,rfl⟩,Hp.le_refl K,?_⟩
     rw [show cZ k (some l)=l by simp [cZ,hp]]
     refine Sep.grow (((hs2.mono (fun h k=>⟨r,_,rfl,⟨es,cl,rfl,hl,hB⟩,k⟩)).swap:Sep E K (Cl b 116 [c0,c1,c2,.map (some r)] :: OT.own K0 bv [.map (some r)] (some l:Option (List (Int×Int))) :: F) w)) (fun n x hx=>?_) ⟨rfl,rfl,rfl⟩
     have:=lt_of_block hx
     rw [dX (by omega)]; exact du hx
   . refine (A9 b r c0 c1 c2 k w hb hr hl hB hp).mono ?_
     rintro e w' ⟨rfl,es',cl',hO,hl',hB'⟩
     refine ⟨_,K,_,rfl,⟨⟨.map (some r),rfl,.inr ⟨_,r,rfl,rfl⟩,by simp [gW,hp],rfl⟩,rfl⟩,Hp.le_refl K,?_⟩
     rw [show cZ k (some l)=bx k (wrap64 (aC k l + 1)) l by simp [cZ,hp]]
     exact ((hs2.onl hO).mono (fun h k=>⟨r,_,rfl,⟨es',cl',rfl,hl',hB'⟩,k⟩)).swap
theorem AX {K K0:Hp} {b:Nat} {c0 c1 c2 mv:Value} (k:Int) (x:Option (List (Int×Int))) :
   Tr Tryz.prog 81 #[.pointer (some ⟨b,0,none⟩),.int .i64 k] K [Cl b 116 [c0,c1,c2,mv],OT.own K0 bv [mv] x] (fun v K' L'=>(∃ mv',mv'.oneCell'=true∧bv.form mv' (x.map (bL k):Option (List (Int×Int)))∧v = .tuple #[]∧L'=[Cl b 116 [c0,c1,c2,mv'],OT.own K0 bv [mv'] (x.map (bL k):Option (List (Int×Int)))])∧K=K'):=by
 intro E w F hs
 have hb:=hs.cl
 cases x with
 | none =>
   have hm:=hs.swap.fact (p:=[mv]=[Value.map none]) (fun h k=>k.1)
   cases hm
   refine (AK b c0 c1 c2 k w hb).mono ?_
   rintro e w' ⟨rfl,rfl⟩
   exact ⟨_,K,_,rfl,⟨⟨.map none,rfl,.inl ⟨rfl,rfl⟩,rfl,rfl⟩,rfl⟩,Hp.le_refl K,hs⟩
 | some l =>
   obtain ⟨r,o,e1,⟨es,cl,rfl,hl,hB⟩⟩:=hs.swap.fact (p:=∃ r o,[mv]=[Value.map (some r)]∧tZ 0 (.sl (.cons (.int .i64) (.one (.int .i64)))) l o) (fun h k=>by obtain ⟨r,o,a,b,_⟩:=k; exact ⟨r,o,a,b⟩)
   cases e1
   have hs1:Sep E K ((fun h=>∃ es cl,h=one r (.map es cl)∧es.toList.map (fun e=>(e.key,e.val))=l.map (fun p=>(au (.int .i64) p.1,Value.int .i64 p.2))∧Brn es cl) :: Cl b 116 [c0,c1,c2,.map (some r)] :: F) w :=
     hs.swap.mono (fun h k=>by obtain ⟨r',o,a,⟨es,cl,rfl,hl⟩,c⟩:=k; cases a; exact ⟨es,cl,c,hl⟩)
   obtain ⟨h0,⟨es,cl,rfl,hl,hB⟩,hd,hs1⟩:=hs1
   have hs2:Sep E K ((fun h=>h=one r (.map es cl)) :: Cl b 116 [c0,c1,c2,.map (some r)] :: F) w:=⟨_,rfl,hd,hs1⟩
   have hr:=hs2.obj
   refine (AO b r c0 c1 c2 k w hb hr hl hB).mono ?_
   rintro e w' ⟨rfl,es',cl',hO,hl',hB'⟩
   refine ⟨_,K,_,rfl,⟨⟨.map (some r),rfl,.inr ⟨_,r,rfl,rfl⟩,rfl,rfl⟩,rfl⟩,Hp.le_refl K,?_⟩
   exact ((hs2.onl hO).mono (fun h k=>⟨r,_,rfl,⟨es',cl',rfl,hl',hB'⟩,k⟩)).swap
def rm (k:Int) (ring:List (Int)) (first many:Int) (x:Option (List (Int×Int))):Option (Bool×List (Int)×Int×Int×Option (List (Int×Int))):=some (gW k x,ring,first,many,some (cZ k x))
def uX (k:Int) (ring:List (Int)) (first many:Int) (x:Option (List (Int×Int))):Option (List (Int)×Int×Int×Option (List (Int×Int))):=some (ring,first,many,x.map (bL k))
def qK:Spec:=⟨77,⟨[(0,.ptr 0 0),(1,.dat (.int .i64))],[⟨none,116,[.own 3 (.int .i64),.dat (.int .i64),.dat (.int .i64),.od bv],false,false,none,false⟩]⟩,[⟨[(0,.dat .bool)],[⟨some 0,116,[.own 3 (.int .i64),.dat (.int .i64),.dat (.int .i64),.od bv],false,false,none,false⟩]⟩],
 fun x=>rm x.1 x.2.1 x.2.2.1 x.2.2.2.1 x.2.2.2.2⟩
theorem Bf [BldA]:cX Tryz.prog qK:=by
 intro x r hr vv u hu m K args hgk hm hH hsl E w F hs
 have hu':qK.inn.un (TL.list _ x) 0=some ([(0,.ptr 0 0),(1,.int .i64 x.1)],⟨[],6,[.blk 0 5 116 [.own 1,.int .i64 x.2.2.1,.int .i64 x.2.2.2.1,.own 3],.od 3 4 bv x.2.2.2.2,.row 1 2 3 (.int .i64) x.2.1 (List.length (α:=Int) x.2.1)],[1]⟩):=rfl
 rw [hu'] at hu
 cases hu
 replace hm:m.length=6:=hm
 obtain ⟨v1,u1,rfl,⟨b,e1,rfl⟩,v2,u2,rfl,rfl,rfl⟩:=hsl
 obtain ⟨b',vs,g0,g5,v0,r0,rfl,⟨h1,h1o⟩,v1,r1,rfl,rfl,v2,r2,rfl,rfl,v3,r3,rfl,⟨h3,h3o⟩,rfl⟩:=hH (.blk 0 5 116 [.own 1,.int .i64 x.2.2.1,.int .i64 x.2.2.2.1,.own 3]) (by simp)
 rw [g0] at e1; cases e1
 obtain ⟨mv,K0,g3,g4,hk,hf⟩:=hH (.od 3 4 bv x.2.2.2.2) (by simp)
 rw [g3] at h3; cases h3
 obtain ⟨ad,cap,cs,g1,g2,hE,_,q2,q3,q4⟩:=hH (.row 1 2 3 (.int .i64) x.2.1 (List.length (α:=Int) x.2.1)) (by simp)
 rw [g1] at h1; cases h1
 have hs':Sep E K (HA.conc m (.blk 0 5 116 [.own 1,.int .i64 x.2.2.1,.int .i64 x.2.2.2.1,.own 3]) :: HA.conc m (.od 3 4 bv x.2.2.2.2) :: HA.conc m (.row 1 2 3 (.int .i64) x.2.1 (List.length (α:=Int) x.2.1)) :: F) w:=hs
 simp only [HA.conc,g0,g1,g2,g3,g4,g5] at hs'
 refine (Bn x.1 x.2.2.2.2 E w (Rw 3 (Tp.size (.int .i64)) (.slice ad (List.length (α:=Int) x.2.1) cap) (List.length (α:=Int) x.2.1) cs :: F) hs').mono ?_
 rintro e w' ⟨v,K',L',rfl,⟨⟨mv',hone,hform,rfl,rfl⟩,rfl⟩,hle,hs2⟩
 obtain rfl:r=(gW x.1 x.2.2.2.2,x.2.1,x.2.2.1,x.2.2.2.1,(some (cZ x.1 x.2.2.2.2):Option (List (Int×Int)))):=(Option.some.inj hr).symm
 let ms:List M:=[M.val (.slice ad (List.length (α:=Int) x.2.1) cap),M.cont (.int .i64) x.2.1 cs,M.val mv',M.hp K0,M.cells [.slice ad (List.length (α:=Int) x.2.1) cap,.int .i64 x.2.2.1,.int .i64 x.2.2.2.1,mv']]
 have f0:(m++ms)[0]? = some (.val (.pointer (some ⟨b,0,none⟩))):=by rw [List.getElem?_append_left (by omega)]; exact g0
 have f6:(m++ms)[6]? = some (.val (.slice ad (List.length (α:=Int) x.2.1) cap)):=by rw [List.getElem?_append_right (by omega),hm]; rfl
 have f7:(m++ms)[7]? = some (.cont (.int .i64) x.2.1 cs):=by rw [List.getElem?_append_right (by omega),hm]; rfl
 have f8:(m++ms)[8]? = some (.val mv'):=by rw [List.getElem?_append_right (by omega),hm]; rfl
 have f9:(m++ms)[9]? = some (.hp K0):=by rw [List.getElem?_append_right (by omega),hm]; rfl
 have f10:(m++ms)[10]? = some (.cells [.slice ad (List.length (α:=Int) x.2.1) cap,.int .i64 x.2.2.1,.int .i64 x.2.2.2.1,mv']):=by rw [List.getElem?_append_right (by omega),hm]; rfl
 refine ⟨_,K,_,rfl,⟨[(0,.bool (gW x.1 x.2.2.2.2))],⟨[],11,[.blk 0 10 116 [.own 6,.int .i64 x.2.2.1,.int .i64 x.2.2.2.1,.own 8],.od 8 9 bv (some (cZ x.1 x.2.2.2.2):Option (List (Int×Int))),.row 6 7 3 (.int .i64) x.2.1 (List.length (α:=Int) x.2.1)],[6]⟩,m++ms,rfl,List.prefix_append _ _,by simp [hm,ms],?_,rfl,rfl⟩,hle,?_⟩
 . intro a ha
   simp only [List.mem_cons,List.mem_nil_iff,or_false] at ha
   rcases ha with rfl | rfl | rfl
   . exact ⟨b,_,f0,f10,_,_,rfl,⟨f6,rfl⟩,_,_,rfl,rfl,_,_,rfl,rfl,_,_,rfl,⟨f8,hone⟩,rfl⟩
   . exact ⟨mv',K0,f8,f9,hk,hform⟩
   . exact ⟨ad,cap,cs,f6,f7,hE,rfl,q2,q3,q4⟩
 . show Sep E K (HA.conc _ (.blk 0 10 116 [.own 6,.int .i64 x.2.2.1,.int .i64 x.2.2.2.1,.own 8]) :: HA.conc _ (.od 8 9 bv (some (cZ x.1 x.2.2.2.2):Option (List (Int×Int)))) :: HA.conc _ (.row 6 7 3 (.int .i64) x.2.1 (List.length (α:=Int) x.2.1)) :: F) w'
   simp only [HA.conc,f0,f6,f7,f8,f9,f10]
   exact hs2
def Bh [BldA]:OkSpec Tryz.prog:=⟨qK,Bf,Tryz.call77⟩
def qy:Spec:=⟨81,⟨[(0,.ptr 0 0),(1,.dat (.int .i64))],[⟨none,116,[.own 3 (.int .i64),.dat (.int .i64),.dat (.int .i64),.od bv],false,false,none,false⟩]⟩,[⟨[],[⟨some 0,116,[.own 3 (.int .i64),.dat (.int .i64),.dat (.int .i64),.od bv],false,false,none,false⟩]⟩],
 fun x=>uX x.1 x.2.1 x.2.2.1 x.2.2.2.1 x.2.2.2.2⟩
theorem AV [BldA]:cX Tryz.prog qy:=by
 intro x r hr vv u hu m K args hgk hm hH hsl E w F hs
 have hu':qy.inn.un (TL.list _ x) 0=some ([(0,.ptr 0 0),(1,.int .i64 x.1)],⟨[],6,[.blk 0 5 116 [.own 1,.int .i64 x.2.2.1,.int .i64 x.2.2.2.1,.own 3],.od 3 4 bv x.2.2.2.2,.row 1 2 3 (.int .i64) x.2.1 (List.length (α:=Int) x.2.1)],[1]⟩):=rfl
 rw [hu'] at hu
 cases hu
 replace hm:m.length=6:=hm
 obtain ⟨v1,u1,rfl,⟨b,e1,rfl⟩,v2,u2,rfl,rfl,rfl⟩:=hsl
 obtain ⟨b',vs,g0,g5,v0,r0,rfl,⟨h1,h1o⟩,v1,r1,rfl,rfl,v2,r2,rfl,rfl,v3,r3,rfl,⟨h3,h3o⟩,rfl⟩:=hH (.blk 0 5 116 [.own 1,.int .i64 x.2.2.1,.int .i64 x.2.2.2.1,.own 3]) (by simp)
 rw [g0] at e1; cases e1
 obtain ⟨mv,K0,g3,g4,hk,hf⟩:=hH (.od 3 4 bv x.2.2.2.2) (by simp)
 rw [g3] at h3; cases h3
 obtain ⟨ad,cap,cs,g1,g2,hE,_,q2,q3,q4⟩:=hH (.row 1 2 3 (.int .i64) x.2.1 (List.length (α:=Int) x.2.1)) (by simp)
 rw [g1] at h1; cases h1
 have hs':Sep E K (HA.conc m (.blk 0 5 116 [.own 1,.int .i64 x.2.2.1,.int .i64 x.2.2.2.1,.own 3]) :: HA.conc m (.od 3 4 bv x.2.2.2.2) :: HA.conc m (.row 1 2 3 (.int .i64) x.2.1 (List.length (α:=Int) x.2.1)) :: F) w:=hs
 simp only [HA.conc,g0,g1,g2,g3,g4,g5] at hs'
 refine (AX x.1 x.2.2.2.2 E w (Rw 3 (Tp.size (.int .i64)) (.slice ad (List.length (α:=Int) x.2.1) cap) (List.length (α:=Int) x.2.1) cs :: F) hs').mono ?_
 rintro e w' ⟨v,K',L',rfl,⟨⟨mv',hone,hform,rfl,rfl⟩,rfl⟩,hle,hs2⟩
 obtain rfl:r=(x.2.1,x.2.2.1,x.2.2.2.1,(Option.map (bL x.1) x.2.2.2.2:Option (List (Int×Int)))):=(Option.some.inj hr).symm
 let ms:List M:=[M.val (.slice ad (List.length (α:=Int) x.2.1) cap),M.cont (.int .i64) x.2.1 cs,M.val mv',M.hp K0,M.cells [.slice ad (List.length (α:=Int) x.2.1) cap,.int .i64 x.2.2.1,.int .i64 x.2.2.2.1,mv']]
 have f0:(m++ms)[0]? = some (.val (.pointer (some ⟨b,0,none⟩))):=by rw [List.getElem?_append_left (by omega)]; exact g0
 have f6:(m++ms)[6]? = some (.val (.slice ad (List.length (α:=Int) x.2.1) cap)):=by rw [List.getElem?_append_right (by omega),hm]; rfl
 have f7:(m++ms)[7]? = some (.cont (.int .i64) x.2.1 cs):=by rw [List.getElem?_append_right (by omega),hm]; rfl
 have f8:(m++ms)[8]? = some (.val mv'):=by rw [List.getElem?_append_right (by omega),hm]; rfl
 have f9:(m++ms)[9]? = some (.hp K0):=by rw [List.getElem?_append_right (by omega),hm]; rfl
 have f10:(m++ms)[10]? = some (.cells [.slice ad (List.length (α:=Int) x.2.1) cap,.int .i64 x.2.2.1,.int .i64 x.2.2.2.1,mv']):=by rw [List.getElem?_append_right (by omega),hm]; rfl
 refine ⟨_,K,_,rfl,⟨[],⟨[],11,[.blk 0 10 116 [.own 6,.int .i64 x.2.2.1,.int .i64 x.2.2.2.1,.own 8],.od 8 9 bv (Option.map (bL x.1) x.2.2.2.2:Option (List (Int×Int))),.row 6 7 3 (.int .i64) x.2.1 (List.length (α:=Int) x.2.1)],[6]⟩,m++ms,rfl,List.prefix_append _ _,by simp [hm,ms],?_,rfl,rfl⟩,hle,?_⟩
 . intro a ha
   simp only [List.mem_cons,List.mem_nil_iff,or_false] at ha
   rcases ha with rfl | rfl | rfl
   . exact ⟨b,_,f0,f10,_,_,rfl,⟨f6,rfl⟩,_,_,rfl,rfl,_,_,rfl,rfl,_,_,rfl,⟨f8,hone⟩,rfl⟩
   . exact ⟨mv',K0,f8,f9,hk,hform⟩
   . exact ⟨ad,cap,cs,f6,f7,hE,rfl,q2,q3,q4⟩
 . show Sep E K (HA.conc _ (.blk 0 10 116 [.own 6,.int .i64 x.2.2.1,.int .i64 x.2.2.2.1,.own 8]) :: HA.conc _ (.od 8 9 bv (Option.map (bL x.1) x.2.2.2.2:Option (List (Int×Int)))) :: HA.conc _ (.row 6 7 3 (.int .i64) x.2.1 (List.length (α:=Int) x.2.1)) :: F) w'
   simp only [HA.conc,f0,f6,f7,f8,f9,f10]
   exact hs2
def A2 [BldA]:OkSpec Tryz.prog:=⟨qy,AV,Tryz.call81⟩
end
end
end Go.Proofs.YtfldcmoebihobaaGreatDoor

/- 'easement/easementlaw42.ScriptMany' returns true for every input, and each argument qM afterwards as it read before: the row's frame round the walk. -/
import Derived.Test.YtbheedkpbbmlcaaDoorZ4
import Derived.Test.YtbheedkpbbmlcaaDoorCards
import Derived.Test.YtbheedkpbbmlcaaDoorTie
import Derived.Lay
import Derived.SevenTiedAt
namespace Go.Proofs.YtbheedkpbbmlcaaDoor
noncomputable section
set_option linter.unusedVariables false
set_option linter.unnecessarySimpa false
set_option linter.unusedSimpArgs false
set_option linter.unusedSectionVars false
set_option maxRecDepth 20000
section
open Go.RowKit Nu
def rn (w:Wd) (e:Int):Int×Int:=if e=0 then an w 1048576 else (0,e)
def rt (w:Wd) (e:Int):List St×Int:=if e=0 then pTy w else ([],e)
def rl (w:Wd) (e:Int):List Int×Int:=if e=0 then rdL w else ([],e)
def rps:List Wd→List (Int×Int)→List (Int×Int)×Int
 | [],acc=>(acc,0)
 | w :: ws,acc=>if (aG w 1048576).2.2=0 then rps ws (acc++[((aG w 1048576).1,(aG w 1048576).2.1)]) else ([],(aG w 1048576).2.2)
def zS:fi:=(0,0,0,0,false)
def zT:eD:=(0,0,0,[],[],[])
def dg (k:Int) (m:Bool) (a b c:Wd):fi×Int:=((k,(rn a 0).1,(rn b (rn a 0).2).1,(rn c (rn b (rn a 0).2).2).1,m),(rn c (rn b (rn a 0).2).2).2)
def cT (w:Wd) (r:List Wd):Option (fi×Int) :=
 if w=cq then some (match r with | []=>(zS,0) | _=>(zS,3))
 else if w=cg then some (match r with | [a,b]=>((1,(rn a 0).1,(rn b (rn a 0).2).1,0,false),(rn b (rn a 0).2).2) | _=>(zS,3))
 else if w=cu then some (match r with | [a,b,c]=>dg 2 false a b c | [a,b,c,m]=>if m=et then dg 2 true a b c else (zS,3) | _=>(zS,3))
 else if w=ck then some (match r with | [a,b,c]=>dg 3 false a b c | [a,b,c,m]=>if m=et then dg 3 true a b c else (zS,3) | _=>(zS,3))
 else if w=cj then some (match r with | [a]=>((4,0,(rn a 0).1,0,false),(rn a 0).2) | _=>(zS,3))
 else if w=ce then some (match r with | [a]=>((5,(rn a 0).1,0,0,false),(rn a 0).2) | _=>(zS,3))
 else none
def nw (a b c d f:Wd):eD×Int :=
 let x:=rn a 0; let y:=rn b x.2; let t:=rl c y.2; let p:=rl d t.2; let g:=rl f p.2
 ((4,x.1,y.1,t.1,g.1,p.1),g.2)
def tmod (w:Wd) (r:List Wd):eD×Int :=
 if w=dG then (match r with | [a]=>((1,0,0,(rl a 0).1,[],[]),(rl a 0).2) | _=>(zT,3))
 else if w=kSw then (match r with | [a,b]=>((2,0,0,(rl a 0).1,(rl b (rl a 0).2).1,[]),(rl b (rl a 0).2).2) | _=>(zT,3))
 else if w=dJ then (match r with | []=>((3,0,0,[],[],[]),0) | _=>(zT,3))
 else if w=dH then (match r with | [a,b,c,d,f]=>nw a b c d f | _=>(zT,3))
 else (zT,3)
def upS (S:List aB) (f:aB→aB):List aB:=S.dropLast++(S.getLast?.map f).toList
def upX (X:List aA) (f:aA→aA):List aA:=X.dropLast++(X.getLast?.map f).toList
def mst (w:Wd) (r:List Wd) (p:PS):Int×PS :=
 match p with
 | (u,n,B,L,R,S,X,a) =>
   if a=0 then (if w=eC then (match r with | [x,y]=>((rn y (rn x 0).2).2,((rn x 0).1,(rn y (rn x 0).2).1,B,L,R,S,X,1)) | _=>(3,p)) else (3,p))
   else if a=1 then (if w=er then ((rps r []).2,(u,n,(rps r []).1,L,R,S,X,2)) else (3,p))
   else if a=2 then (if w=eG then (match r with | [x]=>((pTy x).2,(u,n,B,L++[(pTy x).1],R,S,X,2)) | _=>(3,p))
     else if w=ew then (match r with | [x]=>((pTy x).2,(u,n,B,L,(pTy x).1,S,X,3)) | _=>(3,p)) else (3,p))
   else if a=3∨a=5 then (if w=bH then (match r with | [x,y]=>((rt y (rn x 0).2).2,(u,n,B,L,R,S++[((rn x 0).1,[],[],(rt y (rn x 0).2).1)],X,4)) | _=>(3,p))
     else if w=bg then (match r with | []=>(0,(u,n,B,L,R,S,X++[([],zT)],6)) | _=>(3,p))
     else if w=eo∧a=5 then (match r with | [x]=>((pTy x).2,(u,n,B,L,R,upS S (fun s=>(s.1,s.2.1,s.2.2.1++[(pTy x).1],s.2.2.2)),X,5)) | _=>(3,p)) else (3,p))
   else if a=4 then (if w=ek then ((rps r []).2,(u,n,B,L,R,upS S (fun s=>(s.1,(rps r []).1,s.2.2.1,s.2.2.2)),X,5)) else (3,p))
   else if a=6 then (match cT w r with
     | some (s,e)=>(e,(u,n,B,L,R,S,upX X (fun x=>(x.1++[s],x.2)),6))
     | none=>((tmod w r).2,(u,n,B,L,R,S,upX X (fun x=>(x.1,(tmod w r).1)),7)))
   else if a=7 then (if w=bg then (match r with | []=>(0,(u,n,B,L,R,S,X++[([],zT)],6)) | _=>(3,p)) else (3,p))
   else (3,p)
def kJ (ws:List Wd) (p:PS):Int×PS:=match ws with | []=>(3,p) | w :: r=>mst w r p
def aO:List Wd→PS→Int→R38
 | [],p,n=>kA p
 | l :: ls,p,n=>if bp (wds l)=true then aO ls p (n + 1) else if (kJ (wds l) p).1=0 then aO ls (kJ (wds l) p).2 (n + 1) else (0,0,[],[],[],[],[],n + 1,(kJ (wds l) p).1)
section
variable {q ws:List Wd} {w:Wd} {e:Int} (h:e≠0∨q=w :: ws) (hw:w.length≤1000000) (hl:ws.length≤4000000)
include h hw hl
theorem bS:∃ q',aZ q e=some ((rn w e).1,q',(rn w e).2)∧((rn w e).2≠0∨q'=ws):=by
 by_cases he:e=0
 . subst he
   rcases h with h | rfl
   . exact absurd rfl h
   . exact ⟨ws,xV hw hl,.inr rfl⟩
 . refine ⟨q,?_,.inl (by simp [rn,he])⟩
   unfold aZ iT rn
   rw [decide_eq_false he,if_neg he]; rfl
theorem wQ:∃ q',bL q e=some ((rt w e).1,q',(rt w e).2)∧((rt w e).2≠0∨q'=ws):=by
 by_cases he:e=0
 . subst he
   rcases h with h | rfl
   . exact absurd rfl h
   . exact ⟨ws,kE hw hl,.inr rfl⟩
 . refine ⟨q,?_,.inl (by simp [rt,he])⟩
   unfold bL iU rt
   rw [decide_eq_false he,if_neg he]; rfl
theorem gm:∃ q',cG q e=some ((rl w e).1,q',(rl w e).2)∧((rl w e).2≠0∨q'=ws):=by
 by_cases he:e=0
 . subst he
   rcases h with h | rfl
   . exact absurd rfl h
   . exact ⟨ws,xu hw hl,.inr rfl⟩
 . refine ⟨q,?_,.inl (by simp [rl,he])⟩
   unfold cG iV rl
   rw [decide_eq_false he,if_neg he]; rfl
end
theorem ra (ws:List Wd) (hw:∀ w∈ws,w.length≤1000000) (hl:ws.length≤1000000):∃ l q,eI ws 0=some (l,q,(rps ws []).2)∧((rps ws []).2=0→l=(rps ws []).1):=by
 unfold eI
 have key:∀ (ws:List Wd) (acc:List (Int×Int)),(∀ w∈ws,w.length≤1000000)→acc.length + ws.length≤1000000→∃ l q,loop fw (acc,ws,0)=some (l,q,(rps ws acc).2)∧((rps ws acc).2=0→l=(rps ws acc).1):=by
   intro ws
   induction ws with
   | nil =>
     intro acc _ _
     refine ⟨acc,[],bh ?_,fun _=>rfl⟩
     unfold fw
     simp [rps]
   | cons w ws ih =>
     intro acc hw ha
     rw [List.length_cons] at ha
     have hb:=wD (w:=w) (ws:=ws) (hw w (by simp)) (by omega)
     have hstep:fw (acc,w :: ws,0)=some (.inl (acc++[((aG w 1048576).1,(aG w 1048576).2.1)],ws,(aG w 1048576).2.2)):=by
       unfold fw
       simp only [xX,decide_true,Bool.and_self,cond_true,hb,Option.bind_some]
       rw [b7 (by simp; omega)]; rfl
     rw [cv hstep]
     unfold rps
     by_cases h0:(aG w 1048576).2.2=0
     . rw [if_pos h0,h0]
       exact ih _ (fun x hx=>hw x (by simp [hx])) (by rw [List.length_append,List.length_singleton]; omega)
     . rw [if_neg h0]
       refine ⟨_,_,bh (b:=(acc++[((aG w 1048576).1,(aG w 1048576).2.1)],ws,(aG w 1048576).2.2)) ?_,fun h=>absurd h h0⟩
       unfold fw
       simp only [decide_eq_false h0,Bool.and_false,cond_false]
 obtain ⟨l,q,h1,h2⟩:=key ws [] hw (by simpa using hl)
 exact ⟨l,q,by rw [h1]; rfl,h2⟩
theorem ax {w:Wd} {ws:List Wd} {p:PS} {bQ most:Int} (hm:aL w=some (bQ,most)) (hb:decide (w∈cz p.2.2.2.2.2.2.2)=false∨(((w :: ws).length:Nat):Int) < bQ∨most < (((w :: ws).length:Nat):Int)):cR (w :: ws) p=some (3,p):=by
 unfold cR cU
 have g0:ab (w :: ws) 0=some w:=rfl
 have hc:(!decide (w∈cz p.2.2.2.2.2.2.2)||decide ((((w :: ws).length:Nat):Int) < bQ)||decide (most < (((w :: ws).length:Nat):Int)))=true:=by
   rcases hb with h | h | h
   . rw [h]; rfl
   . rw [decide_eq_true h]; simp
   . rw [decide_eq_true h]; simp
 simp only [g0,Option.bind_some,hm,lY,hc,cond_true]
theorem tz (w:Wd):∃ l m,aL w=some (l,m):=by
 unfold aL
 have hc:∀ (c:Bool) (x y:Option Bool),(∃ t,x=some t)→(∃ t,y=some t)→∃ t,cond c x y=some t:=fun c x y hx hy=>by
   cases c
   . exact hy
   . exact hx
 have k:∀ (x:Option Bool) (f g:Option (Int×Int)),(∃ t,x=some t)→(∃ l m,f=some (l,m))→(∃ l m,g=some (l,m))→∃ l m,x.bind (fun t=>cond t f g)=some (l,m):=by
   rintro x f g ⟨t,rfl⟩ hf hg
   cases t
   . exact hg
   . exact hf
 refine k _ _ _ (hc _ _ _ ⟨_,rfl⟩ ⟨_,rfl⟩) ⟨_,_,rfl⟩ ?_
 refine k _ _ _ (hc _ _ _ ⟨_,rfl⟩ (hc _ _ _ ⟨_,rfl⟩ ⟨_,rfl⟩)) ⟨_,_,rfl⟩ ?_
 refine k _ _ _ (hc _ _ _ ⟨_,rfl⟩ (hc _ _ _ ⟨_,rfl⟩ (hc _ _ _ ⟨_,rfl⟩ (hc _ _ _ ⟨_,rfl⟩ (hc _ _ _ ⟨_,rfl⟩ ⟨_,rfl⟩))))) ⟨_,_,rfl⟩ ?_
 refine k _ _ _ (hc _ _ _ ⟨_,rfl⟩ (hc _ _ _ ⟨_,rfl⟩ (hc _ _ _ ⟨_,rfl⟩ ⟨_,rfl⟩))) ⟨_,_,rfl⟩ ?_
 cases decide (w=([98,111,114,114,111,119]:List UInt8)) with
 | true=>exact ⟨_,_,rfl⟩
 | false=>cases decide (w=([114,101,98,111,114,114,111,119]:List UInt8)) <;> exact ⟨_,_,rfl⟩
theorem uX {w:Wd} {ws:List Wd} {p:PS} (h:decide (w∈cz p.2.2.2.2.2.2.2)=false):cR (w :: ws) p=some (3,p):=by
 obtain ⟨l,m,hm⟩:=tz w
 exact ax hm (.inl h)
def Does (ws:List Wd) (p:PS) (r:Int×PS):Prop:=∃ p1,cR ws p=some (r.1,p1)∧(r.1=0→p1=r.2)
theorem Does.bad {ws:List Wd} {p:PS} (h:cR ws p=some (3,p)):Does ws p (3,p):=⟨p,h,fun _=>rfl⟩
theorem bZ {α:Type} {X:List α} (h:X≠[]):∃ X0 x,X=X0++[x]:=⟨X.dropLast,X.getLast h,(List.dropLast_concat_getLast h).symm⟩
theorem jC (S:List aB) (s:aB) (f:aB→aB):upS (S++[s]) f=S++[f s]:=by simp [upS]
theorem jB (X:List aA) (s:aA) (f:aA→aA):upX (X++[s]) f=X++[f s]:=by simp [upX]
structure Iv (p:PS) (k:Nat):Prop where
 a0:0≤p.2.2.2.2.2.2.2∧p.2.2.2.2.2.2.2≤7
 s0:p.2.2.2.2.2.2.2≤3→p.2.2.2.2.2.1=[]
 x0:p.2.2.2.2.2.2.2≤5→p.2.2.2.2.2.2.1=[]
 s1:p.2.2.2.2.2.2.2=4∨p.2.2.2.2.2.2.2=5→p.2.2.2.2.2.1≠[]
 x1:p.2.2.2.2.2.2.2=6∨p.2.2.2.2.2.2.2=7→p.2.2.2.2.2.2.1≠[]
 nb:p.2.2.1.length≤900000
 nl:p.2.2.2.1.length≤k
 loc:∀ t∈p.2.2.2.1,t.length≤900000
 ret:p.2.2.2.2.1.length≤900000
 ns:p.2.2.2.2.2.1.length≤k
 sig:∀ s∈p.2.2.2.2.2.1,s.2.1.length≤900000∧s.2.2.1.length≤k∧(∀ t∈s.2.2.1,t.length≤900000)∧s.2.2.2.length≤900000
 nx:p.2.2.2.2.2.2.1.length≤k
 blk:∀ x∈p.2.2.2.2.2.2.1,x.1.length≤k∧x.2.2.2.2.1.length≤900000∧x.2.2.2.2.2.1.length≤900000∧x.2.2.2.2.2.2.length≤900000
section
variable {u n:Int} {B:List (Int×Int)} {L:List (List St)} {R:List St} {S:List aB} {X:List aA} {a:Int} {w:Wd} {r:List Wd}
 (hw:∀ x∈r,x.length≤1000000) (hl:r.length≤900000)
include hw hl
theorem wH:Does (eC :: r) (u,n,B,L,R,S,X,0) (mst eC r (u,n,B,L,R,S,X,0)):=by
 have hm:aL eC=some (3,3):=rfl
 match r,hw,hl with
 | [x,y],hw,hl =>
   obtain ⟨q1,e1,i1⟩:=bS (q:=[x,y]) (w:=x) (ws:=[y]) (e:=0) (.inr rfl) (hw x (by simp)) (by simp)
   obtain ⟨q2,e2,i2⟩:=bS i1 (hw y (by simp)) (by simp)
   refine ⟨_,ef hm (by decide) (by simp) (by simp) (by decide) (u':=(rn x 0).1) (n':=(rn y (rn x 0).2).1) (B':=B) (L':=L) (R':=R) (S':=S) (X':=X) (a':=1) (q:=q2) ?_,fun _=>rfl⟩
   unfold cF
   simp only [decide_true,cond_true,e1,e2,Option.bind_some]; rfl
 | [],_,_=>exact Does.bad (ax hm (.inr (.inl (by simp))))
 | [_],_,_=>exact Does.bad (ax hm (.inr (.inl (by simp))))
 | _ :: _ :: _ :: _,_,_=>exact Does.bad (ax hm (.inr (.inr (by simp; omega))))
theorem wI:Does (er :: r) (u,n,B,L,R,S,X,1) (mst er r (u,n,B,L,R,S,X,1)):=by
 have hm:aL er=some (1,9223372036854775807):=rfl
 obtain ⟨l,q,h1,h2⟩:=ra r hw (by omega)
 have hq:=ox r.length hl
 refine ⟨_,ef hm (by decide) hq.1 hq.2 (by decide) (u':=u) (n':=n) (B':=l) (L':=L) (R':=R) (S':=S) (X':=X) (a':=2) (q:=q) (e:=(rps r []).2) ?_,fun h=>?_⟩
 . unfold cF
   simp (decide:=true) only [decide_true,decide_false,cond_true,cond_false,h1,Option.bind_some]
 . have h3:l=(rps r []).1:=h2 h
   show (u,n,l,L,R,S,X,(2:Int))=(u,n,(rps r []).1,L,R,S,X,2); rw [h3]
theorem wK (hL:L.length≤1000000):Does (eG :: r) (u,n,B,L,R,S,X,2) (mst eG r (u,n,B,L,R,S,X,2)):=by
 have hm:aL eG=some (2,2):=rfl
 match r,hw,hl with
 | [x],hw,hl =>
   have ha:app L [(pTy x).1]=some (L++[(pTy x).1]):=b7 (by simp; omega)
   refine ⟨_,ef hm (by decide) (by simp) (by simp) (by decide) (u':=u) (n':=n) (B':=B) (L':=L++[(pTy x).1]) (R':=R) (S':=S) (X':=X) (a':=2) (q:=[]) (e:=(pTy x).2) ?_,fun _=>rfl⟩
   unfold cF
   simp (decide:=true) only [decide_true,decide_false,cond_true,cond_false,kE (w:=x) (ws:=[]) (hw x (by simp)) (by simp),Option.bind_some,ha]
 | [],_,_=>exact Does.bad (ax hm (.inr (.inl (by simp))))
 | _ :: _ :: _,_,_=>exact Does.bad (ax hm (.inr (.inr (by simp; omega))))
theorem wB:Does (ew :: r) (u,n,B,L,R,S,X,2) (mst ew r (u,n,B,L,R,S,X,2)):=by
 have hm:aL ew=some (2,2):=rfl
 match r,hw,hl with
 | [x],hw,hl =>
   refine ⟨_,ef hm (by decide) (by simp) (by simp) (by decide) (u':=u) (n':=n) (B':=B) (L':=L) (R':=(pTy x).1) (S':=S) (X':=X) (a':=3) (q:=[]) (e:=(pTy x).2) ?_,fun _=>rfl⟩
   unfold cF
   simp (decide:=true) only [decide_true,decide_false,cond_true,cond_false,kE (w:=x) (ws:=[]) (hw x (by simp)) (by simp),Option.bind_some]
 | [],_,_=>exact Does.bad (ax hm (.inr (.inl (by simp))))
 | _ :: _ :: _,_,_=>exact Does.bad (ax hm (.inr (.inr (by simp; omega))))
theorem qN (ha:a=3∨a=5) (hS:S.length≤1000000):Does (bH :: r) (u,n,B,L,R,S,X,a) (mst bH r (u,n,B,L,R,S,X,a)):=by
 have hm:aL bH=some (3,3):=rfl
 have hal:decide (bH∈cz a)=true:=by rcases ha with rfl | rfl <;> decide
 have h0:a≠6:=by omega
 match r,hw,hl with
 | [x,y],hw,hl =>
   obtain ⟨q1,e1,i1⟩:=bS (q:=[x,y]) (w:=x) (ws:=[y]) (e:=0) (.inr rfl) (hw x (by simp)) (by simp)
   obtain ⟨q2,e2,i2⟩:=wQ i1 (hw y (by simp)) (by simp)
   have hap:app S [((rn x 0).1,([]:List (Int×Int)),([]:List (List St)),(rt y (rn x 0).2).1)]=some (S++[((rn x 0).1,[],[],(rt y (rn x 0).2).1)]):=b7 (by simp; omega)
   rw [show mst bH [x,y] (u,n,B,L,R,S,X,a)=((rt y (rn x 0).2).2,(u,n,B,L,R,S++[((rn x 0).1,[],[],(rt y (rn x 0).2).1)],X,4)) by rcases ha with rfl | rfl <;> rfl]
   refine ⟨_,ef hm hal (by simp) (by simp) h0 (u':=u) (n':=n) (B':=B) (L':=L) (R':=R) (S':=S++[((rn x 0).1,[],[],(rt y (rn x 0).2).1)]) (X':=X) (a':=4) (q:=q2) (e:=(rt y (rn x 0).2).2) ?_,fun _=>rfl⟩
   unfold cF
   simp (decide:=true) only [decide_true,decide_false,cond_true,cond_false,e1,e2,Option.bind_some,hap]
 | [],_,_ =>
   rw [show mst bH [] (u,n,B,L,R,S,X,a)=(3,(u,n,B,L,R,S,X,a)) by rcases ha with rfl | rfl <;> rfl]
   exact Does.bad (ax hm (.inr (.inl (by simp))))
 | [z],_,_ =>
   rw [show mst bH [z] (u,n,B,L,R,S,X,a)=(3,(u,n,B,L,R,S,X,a)) by rcases ha with rfl | rfl <;> rfl]
   exact Does.bad (ax hm (.inr (.inl (by simp))))
 | z :: z2 :: z3 :: z4,_,_ =>
   rw [show mst bH (z :: z2 :: z3 :: z4) (u,n,B,L,R,S,X,a)=(3,(u,n,B,L,R,S,X,a)) by rcases ha with rfl | rfl <;> rfl]
   exact Does.bad (ax hm (.inr (.inr (by simp; omega))))
theorem mL (ha:a=3∨a=5∨a=7) (hX:X.length≤1000000):Does (bg :: r) (u,n,B,L,R,S,X,a) (mst bg r (u,n,B,L,R,S,X,a)):=by
 have hm:aL bg=some (1,1):=rfl
 have hal:decide (bg∈cz a)=true:=by rcases ha with rfl | rfl | rfl <;> decide
 have h0:a≠6:=by omega
 match r,hw,hl with
 | [],hw,hl =>
   have hap:app X [(([]:List fi),((0,0,0,[],[],[]):eD))]=some (X++[([],(0,0,0,[],[],[]))]):=b7 (by simp; omega)
   rw [show mst bg [] (u,n,B,L,R,S,X,a)=(0,(u,n,B,L,R,S,X++[([],zT)],6)) by rcases ha with rfl | rfl | rfl <;> rfl]
   refine ⟨_,ef hm hal (by simp) (by simp) h0 (u':=u) (n':=n) (B':=B) (L':=L) (R':=R) (S':=S) (X':=X++[([],(0,0,0,[],[],[]))]) (a':=6) (q:=[]) (e:=0) ?_,fun _=>rfl⟩
   unfold cF
   simp (decide:=true) only [decide_true,decide_false,cond_true,cond_false,Option.bind_some,hap]
 | z :: z2,_,_ =>
   rw [show mst bg (z :: z2) (u,n,B,L,R,S,X,a)=(3,(u,n,B,L,R,S,X,a)) by rcases ha with rfl | rfl | rfl <;> rfl]
   exact Does.bad (ax hm (.inr (.inr (by simp; omega))))
theorem wA (hS:S≠[]) (hn:S.length≤1000000) (hA:∀ s∈S,s.2.2.1.length≤1000000):Does (eo :: r) (u,n,B,L,R,S,X,5) (mst eo r (u,n,B,L,R,S,X,5)):=by
 have hm:aL eo=some (2,2):=rfl
 obtain ⟨S0,s,rfl⟩:=bZ hS
 rw [List.length_append,List.length_singleton] at hn
 have hs:=hA s (by simp)
 match r,hw,hl with
 | [x],hw,hl =>
   have hap:app s.2.2.1 [(pTy x).1]=some (s.2.2.1++[(pTy x).1]):=b7 (by simp; omega)
   refine ⟨_,ef hm (by decide) (by simp) (by simp) (by decide) (u':=u) (n':=n) (B':=B) (L':=L) (R':=R) (S':=S0++[(s.1,s.2.1,s.2.2.1++[(pTy x).1],s.2.2.2)]) (X':=X) (a':=5) (q:=[]) (e:=(pTy x).2) ?_,fun _=>?_⟩
   . unfold cF
     simp (decide:=true) only [decide_true,decide_false,cond_true,cond_false,kE (w:=x) (ws:=[]) (hw x (by simp)) (by simp),iv S0 s (by omega),ix,hI,Option.bind_some,hap,Int.toNat_natCast,iu,lC]
   . show _=(u,n,B,L,R,upS (S0++[s]) (fun s=>(s.1,s.2.1,s.2.2.1++[(pTy x).1],s.2.2.2)),X,5)
     rw [jC]
 | [],_,_=>exact Does.bad (ax hm (.inr (.inl (by simp))))
 | _ :: _ :: _,_,_=>exact Does.bad (ax hm (.inr (.inr (by simp; omega))))
theorem vV (hS:S≠[]) (hn:S.length≤1000000):Does (ek :: r) (u,n,B,L,R,S,X,4) (mst ek r (u,n,B,L,R,S,X,4)):=by
 have hm:aL ek=some (1,9223372036854775807):=rfl
 obtain ⟨S0,s,rfl⟩:=bZ hS
 rw [List.length_append,List.length_singleton] at hn
 obtain ⟨l,q,h1,h2⟩:=ra r hw (by omega)
 have hq:=ox r.length hl
 refine ⟨_,ef hm (by decide) hq.1 hq.2 (by decide) (u':=u) (n':=n) (B':=B) (L':=L) (R':=R) (S':=S0++[(s.1,l,s.2.2.1,s.2.2.2)]) (X':=X) (a':=5) (q:=q) (e:=(rps r []).2) ?_,fun h=>?_⟩
 . unfold cF
   simp (decide:=true) only [decide_true,decide_false,cond_true,cond_false,h1,iv S0 s (by omega),ix,hI,Option.bind_some,Int.toNat_natCast,iu]
 . have h3:l=(rps r []).1:=h2 h
   show _=(u,n,B,L,R,upS (S0++[s]) (fun s=>(s.1,(rps r []).1,s.2.2.1,s.2.2.2)),X,5)
   rw [jC,h3]
end
theorem Does.bad3 {ws:List Wd} {p:PS} {r:Int×PS} (h:cR ws p=some (3,p)) (h3:r.1=3):Does ws p r:=⟨p,by rw [h3]; exact h,fun h=>by rw [h3] at h; cases h⟩
theorem q9 {w:Wd} {r:List Wd} (h:w=cq∨w=cg∨w=cu∨w=ck∨w=cj∨w=ce):cV w r 0=some (0,0,0,[],[],[],false,r,0):=by
 unfold cV
 rcases h with rfl | rfl | rfl | rfl | rfl | rfl <;> simp (decide:=true) only [cq,cg,cu,ck,cj,ce,decide_false,cond_false]
section
variable {u n:Int} {B:List (Int×Int)} {L:List (List St)} {R:List St} {S:List aB} {X0:List aA} {b:aA} {w:Wd} {r:List Wd} {bQ most:Int}
 (hX:X0.length≤1000000) (hm:aL w=some (bQ,most)) (hal:decide (w∈cz 6)=true) (b1:bQ≤((w :: r).length:Nat)) (b2:(((w :: r).length:Nat):Int)≤most)
include hX hm hal b1 b2
theorem kh {t:eD} {q:List Wd} {e:Int} (ht:cV w r 0=some (t.1,t.2.1,t.2.2.1,t.2.2.2.1,t.2.2.2.2.1,t.2.2.2.2.2,true,q,e)) (h0:cT w r=none) (h1:tmod w r=(t,e)) :
   Does (w :: r) (u,n,B,L,R,S,X0++[b],6) (mst w r (u,n,B,L,R,S,X0++[b],6)):=by
 have hms:mst w r (u,n,B,L,R,S,X0++[b],6)=(e,(u,n,B,L,R,S,X0++[(b.1,t)],7)):=by
   unfold mst
   simp (decide:=true) only [if_false,if_true,h0,h1,jB]
 rw [hms]
 refine ⟨_,mR hm hal b1 b2 rfl (B':=B) (L':=L) (R':=R) (S':=S) (X':=X0++[(b.1,t)]) (a':=7) (q:=q) (e:=e) ?_,fun _=>rfl⟩
 unfold eH
 simp only [iv X0 b hX,ix,hI,Option.bind_some,dk,ht,cond_true,Int.toNat_natCast,iu]
theorem f7 (hb:b.1.length≤1000000) {s:fi} {q:List Wd} {e:Int} (hn:w=cq∨w=cg∨w=cu∨w=ck∨w=cj∨w=ce) (hs:bU (w :: r) r 0=some (s.1,s.2.1,s.2.2.1,s.2.2.2.1,s.2.2.2.2,q,e)) (h0:cT w r=some (s,e)) :
   Does (w :: r) (u,n,B,L,R,S,X0++[b],6) (mst w r (u,n,B,L,R,S,X0++[b],6)):=by
 have hms:mst w r (u,n,B,L,R,S,X0++[b],6)=(e,(u,n,B,L,R,S,X0++[(b.1++[s],b.2)],6)):=by
   unfold mst
   simp (decide:=true) only [if_false,if_true,h0,jB]
 rw [hms]
 refine ⟨_,mR hm hal b1 b2 rfl (B':=B) (L':=L) (R':=R) (S':=S) (X':=X0++[(b.1++[s],b.2)]) (a':=6) (q:=q) (e:=e) ?_,fun _=>rfl⟩
 unfold eH
 have ha:app b.1 [(s.1,s.2.1,s.2.2.1,s.2.2.2.1,s.2.2.2.2)]=some (b.1++[s]):=b7 (by simp; omega)
 simp only [iv X0 b hX,ix,hI,Option.bind_some,dk,q9 hn,hs,cond_false,ha,Int.toNat_natCast,iu,lC]
end
theorem aW {w:Wd} {r:List Wd} {u n:Int} {B:List (Int×Int)} {L:List (List St)} {R:List St} {S:List aB} {X:List aA}:(mst w r (u,n,B,L,R,S,X,6)).1=(match cT w r with | some x=>x.2 | none=>(tmod w r).2):=by
 unfold mst
 simp (decide:=true) only [if_false,if_true]
 cases cT w r <;> rfl
section
variable {u n:Int} {B:List (Int×Int)} {L:List (List St)} {R:List St} {S:List aB} {X:List aA} {w:Wd} {r:List Wd}
 (hw:∀ x∈r,x.length≤1000000) (hl:r.length≤900000) (hX:X≠[]) (hn:X.length≤1000000) (hB:∀ x∈X,x.1.length≤1000000)
include hw hl hX hn hB
theorem wC:Does (cq :: r) (u,n,B,L,R,S,X,6) (mst cq r (u,n,B,L,R,S,X,6)):=by
 have hm:aL cq=some (1,1):=rfl
 obtain ⟨X0,b,rfl⟩:=bZ hX
 rw [List.length_append,List.length_singleton] at hn
 match r,hw,hl with
 | [],hw,hl=>exact f7 (by omega) hm (by decide) (by simp) (by simp) (hB b (by simp)) (.inl rfl) (s:=zS) (q:=[]) (e:=0) (by unfold bU; simp (decide:=true) only [dk,Option.bind_some,cq,decide_true,decide_false,cond_true,cond_false]; rfl) rfl
 | _ :: _,_,_=>exact Does.bad3 (ax hm (.inr (.inr (by simp; omega)))) (by rw [aW]; rfl)
theorem wF:Does (cg :: r) (u,n,B,L,R,S,X,6) (mst cg r (u,n,B,L,R,S,X,6)):=by
 have hm:aL cg=some (3,3):=rfl
 obtain ⟨X0,b,rfl⟩:=bZ hX
 rw [List.length_append,List.length_singleton] at hn
 match r,hw,hl with
 | [x,y],hw,hl =>
   obtain ⟨q1,e1,i1⟩:=bS (q:=[x,y]) (w:=x) (ws:=[y]) (e:=0) (.inr rfl) (hw x (by simp)) (by simp)
   obtain ⟨q2,e2,i2⟩:=bS i1 (hw y (by simp)) (by simp)
   exact f7 (by omega) hm (by decide) (by simp) (by simp) (hB b (by simp)) (by simp) (s:=(1,(rn x 0).1,(rn y (rn x 0).2).1,0,false)) (q:=q2) (e:=(rn y (rn x 0).2).2) (by unfold bU; simp (decide:=true) only [dk,Option.bind_some,cg,decide_true,decide_false,cond_true,cond_false,e1,e2]) rfl
 | [],_,_=>exact Does.bad3 (ax hm (.inr (.inl (by simp)))) (by rw [aW]; rfl)
 | [_],_,_=>exact Does.bad3 (ax hm (.inr (.inl (by simp)))) (by rw [aW]; rfl)
 | _ :: _ :: _ :: _,_,_=>exact Does.bad3 (ax hm (.inr (.inr (by simp; omega)))) (by rw [aW]; rfl)
theorem wL:Does (cj :: r) (u,n,B,L,R,S,X,6) (mst cj r (u,n,B,L,R,S,X,6)):=by
 have hm:aL cj=some (2,2):=rfl
 obtain ⟨X0,b,rfl⟩:=bZ hX
 rw [List.length_append,List.length_singleton] at hn
 match r,hw,hl with
 | [x],hw,hl =>
   obtain ⟨q1,e1,i1⟩:=bS (q:=[x]) (w:=x) (ws:=[]) (e:=0) (.inr rfl) (hw x (by simp)) (by simp)
   exact f7 (by omega) hm (by decide) (by simp) (by simp) (hB b (by simp)) (by simp) (s:=(4,0,(rn x 0).1,0,false)) (q:=q1) (e:=(rn x 0).2) (by unfold bU; simp (decide:=true) only [dk,Option.bind_some,cj,decide_true,decide_false,cond_true,cond_false,e1]) rfl
 | [],_,_=>exact Does.bad3 (ax hm (.inr (.inl (by simp)))) (by rw [aW]; rfl)
 | _ :: _ :: _,_,_=>exact Does.bad3 (ax hm (.inr (.inr (by simp; omega)))) (by rw [aW]; rfl)
theorem vO:Does (ce :: r) (u,n,B,L,R,S,X,6) (mst ce r (u,n,B,L,R,S,X,6)):=by
 have hm:aL ce=some (2,2):=rfl
 obtain ⟨X0,b,rfl⟩:=bZ hX
 rw [List.length_append,List.length_singleton] at hn
 match r,hw,hl with
 | [x],hw,hl =>
   obtain ⟨q1,e1,i1⟩:=bS (q:=[x]) (w:=x) (ws:=[]) (e:=0) (.inr rfl) (hw x (by simp)) (by simp)
   exact f7 (by omega) hm (by decide) (by simp) (by simp) (hB b (by simp)) (by simp) (s:=(5,(rn x 0).1,0,0,false)) (q:=q1) (e:=(rn x 0).2) (by unfold bU; simp (decide:=true) only [dk,Option.bind_some,ce,decide_true,decide_false,cond_true,cond_false,e1]) rfl
 | [],_,_=>exact Does.bad3 (ax hm (.inr (.inl (by simp)))) (by rw [aW]; rfl)
 | _ :: _ :: _,_,_=>exact Does.bad3 (ax hm (.inr (.inr (by simp; omega)))) (by rw [aW]; rfl)
theorem qt (k:Int) (hk:w=cu∧k=2∨w=ck∧k=3):Does (w :: r) (u,n,B,L,R,S,X,6) (mst w r (u,n,B,L,R,S,X,6)):=by
 have hm:aL w=some (4,5):=by rcases hk with ⟨rfl,_⟩ | ⟨rfl,_⟩ <;> rfl
 have hal:decide (w∈cz 6)=true:=by rcases hk with ⟨rfl,_⟩ | ⟨rfl,_⟩ <;> decide
 have hns:w=cq∨w=cg∨w=cu∨w=ck∨w=cj∨w=ce:=by rcases hk with ⟨rfl,_⟩ | ⟨rfl,_⟩ <;> simp
 obtain ⟨X0,b,rfl⟩:=bZ hX
 rw [List.length_append,List.length_singleton] at hn
 have bad:∀ r:List Wd,((((w :: r).length:Nat):Int) < 4∨5 < (((w :: r).length:Nat):Int))→cT w r=some (zS,3)→Does (w :: r) (u,n,B,L,R,S,X0++[b],6) (mst w r (u,n,B,L,R,S,X0++[b],6)):=fun r h1 h2=>Does.bad3 (ax hm (.inr h1)) (by rw [aW,h2])
 match r,hw,hl with
 | [x,y,z],hw,hl =>
   obtain ⟨q1,e1,i1⟩:=bS (q:=[x,y,z]) (w:=x) (ws:=[y,z]) (e:=0) (.inr rfl) (hw x (by simp)) (by simp)
   obtain ⟨q2,e2,i2⟩:=bS i1 (hw y (by simp)) (by simp)
   obtain ⟨q3,e3,i3⟩:=bS i2 (hw z (by simp)) (by simp)
   refine f7 (by omega) hm hal (by simp) (by simp) (hB b (by simp)) hns (s:=(dg k false x y z).1) (q:=q3) (e:=(dg k false x y z).2) ?_ ?_
   . rcases hk with ⟨rfl,rfl⟩ | ⟨rfl,rfl⟩ <;> (unfold bU; simp (decide:=true) only [dk,Option.bind_some,cu,ck,decide_true,decide_false,cond_true,cond_false,Bool.not_true,List.length_cons,List.length_nil,e1,e2,e3]; rfl)
   . rcases hk with ⟨rfl,rfl⟩ | ⟨rfl,rfl⟩ <;> rfl
 | [x, y, z, m], hw, hl =>
   have g4:ab (w :: [x,y,z,m]) 4=some m:=rfl
   by_cases hmm:m=et
   . subst hmm
     obtain ⟨q1,e1,i1⟩:=bS (q:=[x,y,z,et]) (w:=x) (ws:=[y,z,et]) (e:=0) (.inr rfl) (hw x (by simp)) (by simp)
     obtain ⟨q2,e2,i2⟩:=bS i1 (hw y (by simp)) (by simp)
     obtain ⟨q3,e3,i3⟩:=bS i2 (hw z (by simp)) (by simp)
     refine f7 (by omega) hm hal (by simp) (by simp) (hB b (by simp)) hns (s:=(dg k true x y z).1) (q:=q3) (e:=(dg k true x y z).2) ?_ ?_
     . have g5:(([109,117,116]:List UInt8))=et:=rfl
       rcases hk with ⟨rfl,rfl⟩ | ⟨rfl,rfl⟩ <;> (unfold bU; rw [g4,g5]; simp (decide:=true) only [dk,Option.bind_some,decide_true,decide_false,cond_true,cond_false,Bool.not_true,List.length_cons,List.length_nil,e1,e2,e3]; rfl)
     . rcases hk with ⟨rfl,rfl⟩ | ⟨rfl,rfl⟩ <;> rfl
   . have z1:∀ q:List Wd,aZ q 3=some (0,q,3):=fun q=>rfl
     have hs:bU (w :: [x,y,z,m]) [x,y,z,m] 0=some (k,0,0,0,true,[x,y,z,m],3):=by
       rcases hk with ⟨rfl,rfl⟩ | ⟨rfl,rfl⟩ <;> (unfold bU; rw [g4]; simp (decide:=true) only [dk,Option.bind_some,cu,ck,decide_true,decide_false,cond_true,cond_false,Bool.not_true,List.length_cons,List.length_nil]; rw [show decide (m=([109,117,116]:List UInt8))=false from decide_eq_false hmm]; rfl)
     have h3:(mst w [x,y,z,m] (u,n,B,L,R,S,X0++[b],6)).1=3:=by
       rw [aW]
       rcases hk with ⟨rfl,rfl⟩ | ⟨rfl,rfl⟩
       . rw [show cT cu [x,y,z,m]=some (if m=et then dg 2 true x y z else (zS,3)) from rfl,if_neg hmm]
       . rw [show cT ck [x,y,z,m]=some (if m=et then dg 3 true x y z else (zS,3)) from rfl,if_neg hmm]
     have hb:=hB b (by simp)
     have ha:app b.1 [(k,(0:Int),(0:Int),(0:Int),true)]=some (b.1++[(k,0,0,0,true)]):=b7 (by simp; omega)
     have hc:eH (w :: [x,y,z,m]) u n B L R S (X0++[b]) 6 [x,y,z,m] 0=some (B,L,R,S,X0++[(b.1++[(k,0,0,0,true)],b.2)],6,[x,y,z,m],3):=by
       unfold eH
       simp only [iv X0 b (by omega),ix,hI,Option.bind_some,dk,q9 hns,hs,cond_false,ha,Int.toNat_natCast,iu,lC]
     exact ⟨_,by rw [h3]; exact mR hm hal (by simp) (by simp) rfl hc,fun h=>by rw [h3] at h; cases h⟩
 | [],_,_=>exact bad [] (.inl (by simp)) (by rcases hk with ⟨rfl,_⟩ | ⟨rfl,_⟩ <;> rfl)
 | [a],_,_=>exact bad [a] (.inl (by simp)) (by rcases hk with ⟨rfl,_⟩ | ⟨rfl,_⟩ <;> rfl)
 | [a,c],_,_=>exact bad [a,c] (.inl (by simp)) (by rcases hk with ⟨rfl,_⟩ | ⟨rfl,_⟩ <;> rfl)
 | a :: c :: d :: f :: g :: l,_,_=>exact bad (a :: c :: d :: f :: g :: l) (.inr (by simp; omega)) (by rcases hk with ⟨rfl,_⟩ | ⟨rfl,_⟩ <;> rfl)
theorem wm:Does (dG :: r) (u,n,B,L,R,S,X,6) (mst dG r (u,n,B,L,R,S,X,6)):=by
 have hm:aL dG=some (2,2):=rfl
 obtain ⟨X0,b,rfl⟩:=bZ hX
 rw [List.length_append,List.length_singleton] at hn
 match r,hw,hl with
 | [x],hw,hl =>
   obtain ⟨q1,e1,i1⟩:=gm (q:=[x]) (w:=x) (ws:=[]) (e:=0) (.inr rfl) (hw x (by simp)) (by simp)
   exact kh (by omega) hm (by decide) (by simp) (by simp) (t:=(1,0,0,(rl x 0).1,[],[])) (q:=q1) (e:=(rl x 0).2) (by unfold cV; simp (decide:=true) only [Option.bind_some,dG,decide_true,decide_false,cond_true,cond_false,e1]) rfl rfl
 | [],_,_=>exact Does.bad3 (ax hm (.inr (.inl (by simp)))) (by rw [aW]; rfl)
 | _ :: _ :: _,_,_=>exact Does.bad3 (ax hm (.inr (.inr (by simp; omega)))) (by rw [aW]; rfl)
theorem wR:Does (kSw :: r) (u,n,B,L,R,S,X,6) (mst kSw r (u,n,B,L,R,S,X,6)):=by
 have hm:aL kSw=some (3,3):=rfl
 obtain ⟨X0,b,rfl⟩:=bZ hX
 rw [List.length_append,List.length_singleton] at hn
 match r,hw,hl with
 | [x,y],hw,hl =>
   obtain ⟨q1,e1,i1⟩:=gm (q:=[x,y]) (w:=x) (ws:=[y]) (e:=0) (.inr rfl) (hw x (by simp)) (by simp)
   obtain ⟨q2,e2,i2⟩:=gm i1 (hw y (by simp)) (by simp)
   exact kh (by omega) hm (by decide) (by simp) (by simp) (t:=(2,0,0,(rl x 0).1,(rl y (rl x 0).2).1,[])) (q:=q2) (e:=(rl y (rl x 0).2).2) (by unfold cV; simp (decide:=true) only [Option.bind_some,kSw,decide_true,decide_false,cond_true,cond_false,e1,e2]) rfl rfl
 | [],_,_=>exact Does.bad3 (ax hm (.inr (.inl (by simp)))) (by rw [aW]; rfl)
 | [_],_,_=>exact Does.bad3 (ax hm (.inr (.inl (by simp)))) (by rw [aW]; rfl)
 | _ :: _ :: _ :: _,_,_=>exact Does.bad3 (ax hm (.inr (.inr (by simp; omega)))) (by rw [aW]; rfl)
theorem wu:Does (dJ :: r) (u,n,B,L,R,S,X,6) (mst dJ r (u,n,B,L,R,S,X,6)):=by
 have hm:aL dJ=some (1,1):=rfl
 obtain ⟨X0,b,rfl⟩:=bZ hX
 rw [List.length_append,List.length_singleton] at hn
 match r,hw,hl with
 | [],hw,hl=>exact kh (by omega) hm (by decide) (by simp) (by simp) (t:=(3,0,0,[],[],[])) (q:=[]) (e:=0) (by unfold cV; simp (decide:=true) only [Option.bind_some,dJ,decide_true,decide_false,cond_true,cond_false]) rfl rfl
 | _ :: _,_,_=>exact Does.bad3 (ax hm (.inr (.inr (by simp; omega)))) (by rw [aW]; rfl)
theorem vR:Does (dH :: r) (u,n,B,L,R,S,X,6) (mst dH r (u,n,B,L,R,S,X,6)):=by
 have hm:aL dH=some (6,6):=rfl
 obtain ⟨X0,b,rfl⟩:=bZ hX
 rw [List.length_append,List.length_singleton] at hn
 match r,hw,hl with
 | [a,c,d,f,g],hw,hl =>
   obtain ⟨q1,e1,i1⟩:=bS (q:=[a,c,d,f,g]) (w:=a) (ws:=[c,d,f,g]) (e:=0) (.inr rfl) (hw a (by simp)) (by simp)
   obtain ⟨q2,e2,i2⟩:=bS i1 (hw c (by simp)) (by simp)
   obtain ⟨q3,e3,i3⟩:=gm i2 (hw d (by simp)) (by simp)
   obtain ⟨q4,e4,i4⟩:=gm i3 (hw f (by simp)) (by simp)
   obtain ⟨q5,e5,i5⟩:=gm i4 (hw g (by simp)) (by simp)
   exact kh (by omega) hm (by decide) (by simp) (by simp) (t:=(nw a c d f g).1) (q:=q5) (e:=(nw a c d f g).2) (by unfold cV; simp (decide:=true) only [Option.bind_some,dH,decide_true,decide_false,cond_true,cond_false,e1,e2,e3,e4,e5]; rfl) rfl rfl
 | [],_,_=>exact Does.bad3 (ax hm (.inr (.inl (by simp)))) (by rw [aW]; rfl)
 | [_],_,_=>exact Does.bad3 (ax hm (.inr (.inl (by simp)))) (by rw [aW]; rfl)
 | [_,_],_,_=>exact Does.bad3 (ax hm (.inr (.inl (by simp)))) (by rw [aW]; rfl)
 | [_,_,_],_,_=>exact Does.bad3 (ax hm (.inr (.inl (by simp)))) (by rw [aW]; rfl)
 | [_,_,_,_],_,_=>exact Does.bad3 (ax hm (.inr (.inl (by simp)))) (by rw [aW]; rfl)
 | _ :: _ :: _ :: _ :: _ :: _ :: _,_,_=>exact Does.bad3 (ax hm (.inr (.inr (by simp; omega)))) (by rw [aW]; rfl)
end
end
section
open Go.RowKit Nu
theorem eF {w:Wd} {ws l:List Wd} {a:Int} {u n:Int} {B:List (Int×Int)} {L:List (List St)} {R:List St} {S:List aB} {X:List aA} (e:cz a=l) (h:w∉l) (h3:(mst w ws (u,n,B,L,R,S,X,a)).1=3):Does (w :: ws) (u,n,B,L,R,S,X,a) (mst w ws (u,n,B,L,R,S,X,a)) :=
 Does.bad3 (uX (decide_eq_false (by show ¬ w∈cz a; rw [e]; exact h))) h3
theorem wJ {w:Wd} {r:List Wd} {p:PS} {k:Nat} (hi:Iv p k) (hk:k≤950000) (hw:∀ x∈r,x.length≤1000000) (hl:r.length≤900000):Does (w :: r) p (mst w r p):=by
 obtain ⟨u,n,B,L,R,S,X,a⟩:=p
 obtain ⟨⟨a0,a1⟩,hs0,hx0,hs1,hx1,nb,nl,hloc,hret,ns,hsig,nx,hblk⟩:=hi
 dsimp only at *
 have ha:a=0∨a=1∨a=2∨a=3∨a=4∨a=5∨a=6∨a=7:=by omega
 have hB:∀ x∈X,x.1.length≤1000000:=fun x hx=>by have:=(hblk x hx).1; omega
 have hA:∀ s∈S,s.2.2.1.length≤1000000:=fun s hs=>by have:=(hsig s hs).2.1; omega
 rcases ha with rfl | rfl | rfl | rfl | rfl | rfl | rfl | rfl
 . by_cases h1:w=eC
   . subst h1; exact wH hw hl
   . exact eF (l:=[eC]) rfl (by simpa using h1) (by unfold mst; simp only [if_true,if_neg h1])
 . by_cases h1:w=er
   . subst h1; exact wI hw hl
   . exact eF (l:=[er]) rfl (by simpa using h1) (by unfold mst; simp (decide:=true) only [if_true,if_false,if_neg h1])
 . by_cases h1:w=eG
   . subst h1; exact wK hw hl (by omega)
   . by_cases h2:w=ew
     . subst h2; exact wB hw hl
     . exact eF (l:=[eG,ew]) rfl (by simpa using ⟨h1,h2⟩) (by unfold mst; simp (decide:=true) only [if_true,if_false,if_neg h1,if_neg h2])
 . by_cases h1:w=bH
   . subst h1; exact qN hw hl (by omega) (by omega)
   . by_cases h2:w=bg
     . subst h2; exact mL hw hl (by omega) (by omega)
     . exact eF (l:=[bH,bg]) rfl (by simpa using ⟨h1,h2⟩) (by unfold mst; simp (decide:=true) only [if_true,if_false,if_neg h1,if_neg h2,and_false,true_or])
 . by_cases h1:w=ek
   . subst h1; exact vV hw hl (hs1 (by omega)) (by omega)
   . exact eF (l:=[ek]) rfl (by simpa using h1) (by unfold mst; simp (decide:=true) only [if_true,if_false,if_neg h1,or_self])
 . by_cases h1:w=bH
   . subst h1; exact qN hw hl (by omega) (by omega)
   . by_cases h2:w=bg
     . subst h2; exact mL hw hl (by omega) (by omega)
     . by_cases h3:w=eo
       . subst h3; exact wA hw hl (hs1 (by omega)) (by omega) hA
       . exact eF (l:=[eo,bH,bg]) rfl (by simpa using ⟨h3,h1,h2⟩) (by unfold mst; simp (decide:=true) only [if_true,if_false,if_neg h1,if_neg h2,h3,false_and,or_true])
 . have hX:=hx1 (.inl rfl)
   by_cases h1:w=cq
   . subst h1; exact wC hw hl hX (by omega) hB
   by_cases h2:w=cg
   . subst h2; exact wF hw hl hX (by omega) hB
   by_cases h3:w=cu
   . exact qt hw hl hX (by omega) hB 2 (.inl ⟨h3,rfl⟩)
   by_cases h4:w=ck
   . exact qt hw hl hX (by omega) hB 3 (.inr ⟨h4,rfl⟩)
   by_cases h5:w=cj
   . subst h5; exact wL hw hl hX (by omega) hB
   by_cases h6:w=ce
   . subst h6; exact vO hw hl hX (by omega) hB
   by_cases h7:w=dG
   . subst h7; exact wm hw hl hX (by omega) hB
   by_cases h8:w=kSw
   . subst h8; exact wR hw hl hX (by omega) hB
   by_cases h9:w=dJ
   . subst h9; exact wu hw hl hX (by omega) hB
   by_cases h10:w=dH
   . subst h10; exact vR hw hl hX (by omega) hB
   . exact eF (l:=[cq,cg,cu,ck,cj,ce,dG,kSw,dJ,dH]) rfl (by simpa using ⟨h1,h2,h3,h4,h5,h6,h7,h8,h9,h10⟩) (by
       rw [aW]
       have e1:cT w r=none:=by unfold cT; simp only [h1,h2,h3,h4,h5,h6,if_false]
       rw [e1]
       unfold tmod; simp only [h7,h8,h9,h10,if_false])
 . by_cases h1:w=bg
   . subst h1; exact mL hw hl (by omega) (by omega)
   . exact eF (l:=[bg]) rfl (by simpa using h1) (by unfold mst; simp (decide:=true) only [if_true,if_false,if_neg h1,or_self])
theorem pM:∀ (ws:List Wd) (acc:List (Int×Int)),(rps ws acc).1.length≤acc.length + ws.length
 | [],acc=>by simp [rps]
 | w :: ws,acc=>by
   unfold rps
   split
   . have:=pM ws (acc++[((aG w 1048576).1,(aG w 1048576).2.1)])
     rw [List.length_append,List.length_singleton] at this
     rw [List.length_cons]; omega
   . simp
theorem vF (w:Wd) (e:Int):(rt w e).1.length≤w.length + 1:=by
 unfold rt; split
 . exact pK w
 . simp
theorem vS (w:Wd) (e:Int):(rl w e).1.length≤w.length + 1:=by
 unfold rl; split
 . unfold rdL; split
   . simp
   . exact rY
 . simp
theorem tL {w:Wd} {r:List Wd} (hw:∀ x∈r,x.length≤850000):(tmod w r).1.2.2.2.1.length≤900000∧(tmod w r).1.2.2.2.2.1.length≤900000∧(tmod w r).1.2.2.2.2.2.length≤900000:=by
 have key:∀ x∈r,∀ e,(rl x e).1.length≤900000:=fun x hx e=>by have:=vS x e; have:=hw x hx; omega
 unfold tmod
 split
 . split
   . exact ⟨key _ (by simp) _,by simp,by simp⟩
   . simp [zT]
 split
 . split
   . exact ⟨key _ (by simp) _,key _ (by simp) _,by simp⟩
   . simp [zT]
 split
 . split <;> simp [zT]
 split
 . split
   . exact ⟨key _ (by simp) _,key _ (by simp) _,key _ (by simp) _⟩
   . simp [zT]
 . simp [zT]
theorem Iv.up {p:PS} {k:Nat} (h:Iv p k):Iv p (k + 1):=⟨h.a0,h.s0,h.x0,h.s1,h.x1,h.nb,by have:=h.nl; omega,h.loc,h.ret,by have:=h.ns; omega,fun s hs=>by obtain ⟨q1,q2,q3,q4⟩:=h.sig s hs; exact ⟨q1,by omega,q3,q4⟩,by have:=h.nx; omega,fun x hx=>by obtain ⟨q1,q2,q3,q4⟩:=h.blk x hx; exact ⟨by omega,q2,q3,q4⟩⟩
theorem Iv.next {w:Wd} {r:List Wd} {p:PS} {k:Nat} (hi:Iv p k) (hw:∀ x∈r,x.length≤850000) (hl:r.length≤850000) (h0:(mst w r p).1=0):Iv (mst w r p).2 (k + 1):=by
 have hu:=hi.up
 obtain ⟨u,n,B,L,R,S,X,a⟩:=p
 obtain ⟨⟨a0,a1⟩,hs0,hx0,hs1,hx1,nb,nl,hloc,hret,ns,hsig,nx,hblk⟩:=hu
 have ns':=hi.ns
 have nl':=hi.nl
 have nx':=hi.nx
 have hsig':=hi.sig
 have hblk':=hi.blk
 dsimp only at *
 have no:∀ {p:PS} {c:Prop},((3:Int),p).1=0→c:=fun h=>by cases h
 have ha:a=0∨a=1∨a=2∨a=3∨a=4∨a=5∨a=6∨a=7:=by omega
 have hr:=pM r []
 rw [List.length_nil] at hr
 have ty:∀ x∈r,(pTy x).1.length≤900000:=fun x hx=>by have:=pK x; have:=hw x hx; omega
 have rty:∀ x∈r,∀ e,(rt x e).1.length≤900000:=fun x hx e=>by have:=vF x e; have:=hw x hx; omega
 have sgs:∀ (S0:List aB) (s:aB) (g:aB),S=S0++[s]→(g.2.1.length≤900000∧g.2.2.1.length≤k + 1∧(∀ t∈g.2.2.1,t.length≤900000)∧g.2.2.2.length≤900000)→∀ q∈S0++[g],q.2.1.length≤900000∧q.2.2.1.length≤k + 1∧(∀ t∈q.2.2.1,t.length≤900000)∧q.2.2.2.length≤900000:=by
   intro S0 s g e hg q hq
   rcases List.mem_append.1 hq with hq | hq
   . exact hsig q (by rw [e]; simp [hq])
   . rw [List.mem_singleton.1 hq]; exact hg
 have bks:∀ (X0:List aA) (x:aA) (g:aA),X=X0++[x]→(g.1.length≤k + 1∧g.2.2.2.2.1.length≤900000∧g.2.2.2.2.2.1.length≤900000∧g.2.2.2.2.2.2.length≤900000)→∀ q∈X0++[g],q.1.length≤k + 1∧q.2.2.2.2.1.length≤900000∧q.2.2.2.2.2.1.length≤900000∧q.2.2.2.2.2.2.length≤900000:=by
   intro X0 x g e hg q hq
   rcases List.mem_append.1 hq with hq | hq
   . exact hblk q (by rw [e]; simp [hq])
   . rw [List.mem_singleton.1 hq]; exact hg
 have blkNew:(a=3∨a=5∨a=7)→Iv (u,n,B,L,R,S,X++[([],zT)],6) (k + 1):=fun _ =>
   ⟨by dsimp only; omega,fun h=>by dsimp only at h; omega,fun h=>by dsimp only at h; omega,fun h=>by dsimp only at h; omega,fun _=>by simp,nb,nl,hloc,hret,ns,hsig,by simp; omega,fun q hq=>by
     rcases List.mem_append.1 hq with hq | hq
     . exact hblk q hq
     . rw [List.mem_singleton.1 hq]; simp [zT]⟩
 have sigNew:∀ g:aB,(a=3∨a=5)→(g.2.1.length≤900000∧g.2.2.1.length≤k + 1∧(∀ t∈g.2.2.1,t.length≤900000)∧g.2.2.2.length≤900000)→Iv (u,n,B,L,R,S++[g],X,4) (k + 1):=fun g hg hgg =>
   ⟨by dsimp only; omega,fun h=>by dsimp only at h; omega,fun _=>hx0 (by omega),fun _=>by simp,fun h=>by dsimp only at h; omega,nb,nl,hloc,hret,by simp; omega,fun q hq=>by
     rcases List.mem_append.1 hq with hq | hq
     . exact hsig q hq
     . rw [List.mem_singleton.1 hq]; exact hgg,nx,hblk⟩
 unfold mst at h0 ⊢
 rcases ha with rfl | rfl | rfl | rfl | rfl | rfl | rfl | rfl
 . simp only [if_true] at h0 ⊢
   split at h0
   . split at h0
     . rename_i h1 _ x y; rw [if_pos h1]
       exact ⟨by dsimp only; omega,fun _=>hs0 (by omega),fun _=>hx0 (by omega),fun h=>by dsimp only at h; omega,fun h=>by dsimp only at h; omega,nb,nl,hloc,hret,ns,hsig,nx,hblk⟩
     . exact no h0
   . exact no h0
 . simp (decide:=true) only [if_true,if_false] at h0 ⊢
   split at h0
   . rename_i h1; rw [if_pos h1]
     exact ⟨by dsimp only; omega,fun _=>hs0 (by omega),fun _=>hx0 (by omega),fun h=>by dsimp only at h; omega,fun h=>by dsimp only at h; omega,by dsimp only; omega,nl,hloc,hret,ns,hsig,nx,hblk⟩
   . exact no h0
 . simp (decide:=true) only [if_true,if_false] at h0 ⊢
   split at h0
   . split at h0
     . rename_i h1 _ x; rw [if_pos h1]
       exact ⟨by dsimp only; omega,fun _=>hs0 (by omega),fun _=>hx0 (by omega),fun h=>by dsimp only at h; omega,fun h=>by dsimp only at h; omega,nb,by simp; omega,fun t ht=>by
         rcases List.mem_append.1 ht with ht | ht
         . exact hloc t ht
         . rw [List.mem_singleton.1 ht]; exact ty x (by simp),hret,ns,hsig,nx,hblk⟩
     . exact no h0
   . rename_i h1
     split at h0
     . split at h0
       . rename_i h2 _ x; rw [if_neg h1,if_pos h2]
         exact ⟨by dsimp only; omega,fun _=>hs0 (by omega),fun _=>hx0 (by omega),fun h=>by dsimp only at h; omega,fun h=>by dsimp only at h; omega,nb,nl,hloc,ty x (by simp),ns,hsig,nx,hblk⟩
       . exact no h0
     . exact no h0
 . simp (decide:=true) only [if_true,if_false,true_or,and_false] at h0 ⊢
   split at h0
   . split at h0
     . rename_i h1 _ x y; rw [if_pos h1]
       exact sigNew _ (by omega) ⟨by simp,by simp,by simp,rty y (by simp) _⟩
     . exact no h0
   . rename_i h1
     split at h0
     . split at h0
       . rename_i h2 _; rw [if_neg h1,if_pos h2]; exact blkNew (by omega)
       . exact no h0
     . exact no h0
 . simp (decide:=true) only [if_true,if_false,or_self] at h0 ⊢
   split at h0
   . rename_i h1; rw [if_pos h1]
     obtain ⟨S0,s,hS⟩:=bZ (hs1 (by omega))
     have hs:=hsig s (by rw [hS]; simp)
     have hl0:S0.length + 1≤k + 1:=by have:=congrArg List.length hS; simp at this; omega
     rw [hS,jC]
     refine ⟨by dsimp only; omega,fun h=>by dsimp only at h; omega,fun _=>hx0 (by omega),fun _=>by simp,fun h=>by dsimp only at h; omega,nb,nl,hloc,hret,by simp; omega,sgs S0 s _ hS ⟨by dsimp only; omega,hs.2.1,hs.2.2.1,hs.2.2.2⟩,nx,hblk⟩
   . exact no h0
 . simp (decide:=true) only [if_true,if_false,or_true,and_true] at h0 ⊢
   split at h0
   . split at h0
     . rename_i h1 _ x y; rw [if_pos h1]
       exact sigNew _ (by omega) ⟨by simp,by simp,by simp,rty y (by simp) _⟩
     . exact no h0
   . rename_i h1
     split at h0
     . split at h0
       . rename_i h2 _; rw [if_neg h1,if_pos h2]; exact blkNew (by omega)
       . exact no h0
     . rename_i h2
       split at h0
       . split at h0
         . rename_i h3 _ x; rw [if_neg h1,if_neg h2,if_pos h3]
           obtain ⟨S0,s,hS⟩:=bZ (hs1 (by omega))
           have hs:=hsig' s (by rw [hS]; simp)
           have hl0:S0.length + 1≤k + 1:=by have:=congrArg List.length hS; simp at this; omega
           rw [hS,jC]
           refine ⟨by dsimp only; omega,fun h=>by dsimp only at h; omega,fun _=>hx0 (by omega),fun _=>by simp,fun h=>by dsimp only at h; omega,nb,nl,hloc,hret,by simp; omega,sgs S0 s _ hS ⟨hs.1,by simp; omega,fun t ht=>by
             rcases List.mem_append.1 ht with ht | ht
             . exact hs.2.2.1 t ht
             . rw [List.mem_singleton.1 ht]; exact ty x (by simp),hs.2.2.2⟩,nx,hblk⟩
         . exact no h0
       . exact no h0
 . simp (decide:=true) only [if_true,if_false,or_self] at h0 ⊢
   obtain ⟨X0,x,hX⟩:=bZ (hx1 (by omega))
   have hx:=hblk' x (by rw [hX]; simp)
   have hl0:X0.length + 1≤k + 1:=by have:=congrArg List.length hX; simp at this; omega
   cases hs:cT w r with
   | some q =>
     simp only [hX,jB]
     refine ⟨by dsimp only; omega,fun h=>by dsimp only at h; omega,fun h=>by dsimp only at h; omega,fun h=>by dsimp only at h; omega,fun _=>by simp,nb,nl,hloc,hret,ns,hsig,by simp; omega,bks X0 x _ hX ⟨by simp; omega,hx.2.1,hx.2.2.1,hx.2.2.2⟩⟩
   | none =>
     simp only [hX,jB]
     have ht:=tL (w:=w) hw
     refine ⟨by dsimp only; omega,fun h=>by dsimp only at h; omega,fun h=>by dsimp only at h; omega,fun h=>by dsimp only at h; omega,fun _=>by simp,nb,nl,hloc,hret,ns,hsig,by simp; omega,bks X0 x _ hX ⟨by dsimp only; omega,ht.1,ht.2.1,ht.2.2⟩⟩
 . simp (decide:=true) only [if_true,if_false,or_self] at h0 ⊢
   split at h0
   . split at h0
     . rename_i h1 _; rw [if_pos h1]; exact blkNew (by omega)
     . exact no h0
   . exact no h0
theorem Iv.zero:Iv (0,0,[],[],[],[],[],0) 0:=⟨by decide,fun _=>rfl,fun _=>rfl,fun h=>by dsimp only at h; omega,fun h=>by dsimp only at h; omega,by simp,by simp,by simp,by simp,by simp,by simp,by simp,by simp⟩
theorem vq {l:Wd} (h:l.length≤800000):(wds l).length≤800001∧∀ w∈wds l,w.length≤800000:=by
 refine ⟨?_,fun w hw=>gT 32 800000 l h w (List.mem_filter.1 hw).1⟩
 have h1:=cJ 32 l
 have h2:(wds l).length≤(ai 32 l).length:=List.length_filter_le _ _
 omega
theorem sZ {ws:List Wd} (h:¬ bp ws=true):∃ w r,ws=w :: r:=by
 cases ws with
 | nil=>exact absurd rfl h
 | cons w r=>exact ⟨w,r,rfl⟩
theorem jw:∀ (ls:List Wd) (p:PS) (k:Nat) (n:Int),Iv p k→k + ls.length≤950000→(∀ l∈ls,l.length≤800000)→ga ls p n=some (aO ls p n)
 | [],p,k,n,_,_,_=>rfl
 | l :: ls,p,k,n,hi,hk,hl=>by
   rw [List.length_cons] at hk
   have hls:=fun x hx=>hl x (List.mem_cons_of_mem l hx)
   obtain ⟨w1,w2⟩:=vq (hl l (by simp))
   unfold ga aO jS
   by_cases hs:bp (wds l)=true
   . rw [if_pos hs,if_pos hs]
     simp only [Option.bind_some,if_true]
     exact jw ls p (k + 1) (n + 1) hi.up (by omega) hls
   . rw [if_neg hs,if_neg hs]
     obtain ⟨w,r,e⟩:=sZ hs
     rw [e] at w1 w2 ⊢
     rw [List.length_cons] at w1
     obtain ⟨p1,h1,h2⟩:=wJ (w:=w) (r:=r) hi (by omega) (fun x hx=>by have:=w2 x (by simp [hx]); omega) (by omega)
     rw [h1,Option.bind_some]
     show (if (mst w r p).1=0 then _ else _)=some (if (mst w r p).1=0 then _ else _)
     by_cases h0:(mst w r p).1=0
     . rw [if_pos h0,if_pos h0,h2 h0]
       exact jw ls _ (k + 1) (n + 1) (hi.next (fun x hx=>by have:=w2 x (by simp [hx]); omega) (by omega) h0) (by omega) hls
     . rw [if_neg h0,if_neg h0]; rfl
end
section
open Go.RowKit Nu
abbrev M42:Int:=1048576
abbrev C42:=Int×Int×Int×Int×Int×Int
def bj:List (List UInt8):=[[99,104,101,99,107],[99,111,110,115],[108,105,118,101],[118,97,108,117,101],[119,104,121],[115,117,103,103,101,115,116],[116,114,105,109],[101,100,105,116],[112,114,111,118,101],[112,114,105,110,116]]
def bN:List (List UInt8):=[[98,108,97,110,107],[100,114,111,112],[116,119,105,99,101],[115,119,97,112],[114,101,103,105,111,110],[108,111,110,101],[100,101,99,108,97,114,101],[117,110,100,101,99,108,97,114,101]]
def fe (k:Int):List UInt8:=bj[k.toNat]?.getD []
def d7 (k:Int):List UInt8:=if 1≤k∧k≤8 then bN[(k - 1).toNat]?.getD [] else [63]
def mr (c:Int×Int×Int×Int×Int):List UInt8 :=
 if c.1 < 0∨9 < c.1 then [63]
 else if c.1=2∨c.1=3 then fe c.1++32 :: text c.2.1
 else if c.1=4 then fe c.1++32 :: pair (c.2.1,c.2.2.1)
 else if c.1=7 then fe c.1++32 :: (d7 c.2.1++32 :: (text c.2.2.1++32 :: (text c.2.2.2.1++32 :: text c.2.2.2.2)))
 else fe c.1
def dD (w:List UInt8):Int:=match bj.findIdx? (fun x=>decide (x=w)) with | some k=>((k:Nat):Int) | none=>-1
def bx (k:Int):Int:=if 2≤k∧k≤4 then 2 else if k=7 then 5 else 1
def cZ (w:List UInt8):Int:=match bN.findIdx? (fun x=>decide (x=w)) with | some k=>((k + 1:Nat):Int) | none=>0
def bA (e:Int):C42:=(0,0,0,0,0,e)
def kH (k:Int) (a b c:List UInt8):C42 :=
 if (an a M42).2≠0 then bA (an a M42).2 else if (an b M42).2≠0 then bA (an b M42).2 else if (an c M42).2≠0 then bA (an c M42).2 else (7,k,(an a M42).1,(an b M42).1,(an c M42).1,0)
def j5 (k:Int):List (List UInt8)→C42
 | []=>(k,0,0,0,0,0)
 | [a]=>if k=4 then (if (aG a M42).2.2≠0 then bA (aG a M42).2.2 else (4,(aG a M42).1,(aG a M42).2.1,0,0,0))
   else if (an a M42).2≠0 then bA (an a M42).2 else (k,(an a M42).1,0,0,0,0)
 | [a,b,c,d]=>if cZ a=0 then bA 3 else kH (cZ a) b c d
 | _=>bA 3
def mw (k:Int) (ws:List (List UInt8)):C42:=if k < 0∨((ws.length + 1:Nat):Int)≠bx k then bA 3 else j5 k ws
def bR:List (List UInt8)→C42
 | []=>bA 3
 | w0 :: ws=>mw (dD w0) ws
theorem pD {k:Int} {a:List UInt8} (h:k≠4):j5 k [a]=if (an a M42).2≠0 then bA (an a M42).2 else (k,(an a M42).1,0,0,0,0):=if_neg h
theorem uq {a:List UInt8}:j5 4 [a]=if (aG a M42).2.2≠0 then bA (aG a M42).2.2 else (4,(aG a M42).1,(aG a M42).2.1,0,0,0):=rfl
theorem qR {k:Int} (h0:0≤k) (h1:k≤9):k=0∨k=1∨k=2∨k=3∨k=4∨k=5∨k=6∨k=7∨k=8∨k=9:=by omega
theorem ta {w:List UInt8}:dD w = -1∨0≤dD w∧dD w≤9:=by
 unfold dD
 cases h:bj.findIdx? (fun x=>decide (x=w)) with
 | none=>exact .inl rfl
 | some k =>
   have:k < bj.length:=by
     obtain ⟨hk,_⟩:=List.findIdx?_eq_some_iff_getElem.1 h
     exact hk
   have e:bj.length=10:=rfl
   exact .inr ⟨by simp,by simp only; omega⟩
theorem lK (k:Int):gS k=some (d7 k):=by
 by_cases h:1≤k∧k≤8
 . have:k=1∨k=2∨k=3∨k=4∨k=5∨k=6∨k=7∨k=8:=by omega
   rcases this with rfl | rfl | rfl | rfl | rfl | rfl | rfl | rfl <;> rfl
 . unfold d7 gS
   rw [if_neg h]
   have e:∀ j:Int,1≤j→j≤8→decide (k=j)=false:=fun j h1 h2=>decide_eq_false (by omega)
   simp only [e 1 (by omega) (by omega),e 2 (by omega) (by omega),e 3 (by omega) (by omega),e 4 (by omega) (by omega),e 5 (by omega) (by omega),e 6 (by omega) (by omega),e 7 (by omega) (by omega),e 8 (by omega) (by omega),cond_false]
theorem ov {k:Nat} (h:k < bN.length):d7 ((k:Int) + 1)=bN[k]:=by
 have e:bN.length=8:=rfl
 unfold d7
 rw [if_pos (by omega),show ((k:Int) + 1 - 1).toNat=k by omega,List.getElem?_eq_getElem h]; rfl
theorem ul (w:List UInt8):jh w=some (cZ w,!decide (cZ w=0)):=by
 have hl:loop (gP w) 1=some (match bN.findIdx? (fun x=>decide (x=w)) with | some k => .inr (((k:Nat):Int) + 1,true) | none => .inl ()):=by
   have e:bN.length=8:=rfl
   rcases lu (fun k=>bN[k]? = some w) (fun k:Nat=>(k:Int) + 1) 8 (fun k=>(.inr (((k:Nat):Int) + 1,true):Unit⊕(Int×Bool))) (.inl ()) (body:=gP w) (fun k hk hp=>by
       unfold gP
       have e2:decide ((k:Int) + 1≤8)=true:=decide_eq_true (by omega)
       have e3:decide (bN[k]'(by omega)=w)=false:=decide_eq_false (fun q=>hp (by rw [List.getElem?_eq_getElem (by omega),q]))
       simp only [e2,cond_true,lK,Option.bind_some,ov (show k < bN.length by omega),e3,cond_false]
       rw [w64 (by omega) (by omega)]; rfl) (fun k hk hp=>by
       unfold gP
       have e2:decide ((k:Int) + 1≤8)=true:=decide_eq_true (by omega)
       rw [List.getElem?_eq_getElem (by omega)] at hp
       have e3:decide (bN[k]'(by omega)=w)=true:=decide_eq_true (by simpa using hp)
       simp only [e2,cond_true,lK,Option.bind_some,ov (show k < bN.length by omega),e3]) rfl with ⟨k,h1,h2,h3,h4⟩ | ⟨h1,h2⟩
   . have:bN.findIdx? (fun x=>decide (x=w))=some k:=by
       rw [List.findIdx?_eq_some_iff_getElem]
       refine ⟨by omega,?_,fun j hj=>?_⟩
       . rw [List.getElem?_eq_getElem (by omega)] at h2; simpa using h2
       . have:=h3 j hj; rw [List.getElem?_eq_getElem (by omega)] at this; simpa using this
     rw [this]; exact h4
   . have:bN.findIdx? (fun x=>decide (x=w))=none:=by
       rw [List.findIdx?_eq_none_iff]
       intro x hx
       obtain ⟨j,hj,rfl⟩:=List.getElem_of_mem hx
       have:=h1 j (by omega); rw [List.getElem?_eq_getElem hj] at this; simpa using this
     rw [this]; exact h2
 unfold jh cZ
 rw [hl]
 cases bN.findIdx? (fun x=>decide (x=w)) with
 | none=>rfl
 | some k =>
   have:decide (((k + 1:Nat):Int)=0)=false:=decide_eq_false (by omega)
   simp only [Option.bind_some,this]; rfl
theorem sD {a b:Int} (h1:a≤9223372036854775807) (h2:b≤9223372036854775807):(pair (a,b)).length≤39:=by
 unfold pair; split
 . simp
 . have:=dU h1; have:=dU h2; simp; omega
theorem gy {a b:List (List UInt8)} (h:a.length + b.length≤100):app a b=some (a++b):=b7 (by omega)
theorem jW {l:List (List UInt8)} (h:(aC 32 l).length≤1000) (h2:l.length≤1000):cC l [32]=some (aC 32 l):=by
 unfold cC; rw [ly,if_pos ⟨by omega,by omega⟩]
theorem tf (k:Int):(d7 k).length≤10:=by
 by_cases h:1≤k∧k≤8
 . have:k=1∨k=2∨k=3∨k=4∨k=5∨k=6∨k=7∨k=8:=by omega
   rcases this with rfl | rfl | rfl | rfl | rfl | rfl | rfl | rfl <;> decide
 . unfold d7; rw [if_neg h]; decide
theorem ui {k:Int} (h0:0≤k) (h1:k≤9):ab bj k=some (fe k)∧(fe k).length≤10:=by
 rcases qR h0 h1 with rfl | rfl | rfl | rfl | rfl | rfl | rfl | rfl | rfl | rfl <;> exact ⟨rfl,by decide⟩
theorem tK (c:Int×Int×Int×Int×Int) (h1:c.2.1≤9223372036854775807) (h2:c.2.2.1≤9223372036854775807) (h3:c.2.2.2.1≤9223372036854775807) (h4:c.2.2.2.2≤9223372036854775807):jg c=some (mr c):=by
 unfold jg mr
 rw [show gL=some bj from rfl,Option.bind_some]
 have el:bj.length=10:=rfl
 by_cases h:c.1 < 0∨9 < c.1
 . rw [if_pos h]
   have e:(decide (c.1 < 0)||decide (((bj.length:Nat):Int)≤c.1))=true:=by rw [el]; simp; omega
   rw [e]; rfl
 . rw [if_neg h]
   have e:(decide (c.1 < 0)||decide (((bj.length:Nat):Int)≤c.1))=false:=by rw [el]; simp; omega
   obtain ⟨g1,g2⟩:=ui (k:=c.1) (by omega) (by omega)
   have t1:=dU h1; have t2:=dU h2; have t3:=dU h3; have t4:=dU h4
   rw [e,cond_false,g1,Option.bind_some]
   by_cases q:c.1=2∨c.1=3
   . have e1:(cond (decide (c.1=2)) (some (decide (c.1=2))) (some (decide (c.1=3))):Option Bool)=some true:=by
       rcases q with q | q <;> rw [q] <;> rfl
     rw [if_pos q,e1,Option.bind_some,cond_true,fL _ h1,Option.bind_some,gy (by simp),Option.bind_some,jW (by simp [aC]; omega) (by simp)]
     simp [aC]
   . have e1:(cond (decide (c.1=2)) (some (decide (c.1=2))) (some (decide (c.1=3))):Option Bool)=some false:=by
       rw [decide_eq_false (p:=c.1=2) (by omega),decide_eq_false (p:=c.1=3) (by omega)]; rfl
     rw [if_neg q,e1,Option.bind_some,cond_false]
     by_cases q4:c.1=4
     . have:=sD h1 h2
       rw [if_pos q4,decide_eq_true q4,cond_true,ur _ h1 h2,Option.bind_some,gy (by simp),Option.bind_some,jW (by simp [aC]; omega) (by simp)]
       simp [aC]
     . rw [if_neg q4,decide_eq_false q4,cond_false]
       by_cases q7:c.1=7
       . have:=tf c.2.1
         rw [if_pos q7,decide_eq_true q7,cond_true,lK,Option.bind_some,gy (by simp),Option.bind_some,fL _ h2,Option.bind_some,gy (by simp),Option.bind_some,fL _ h3,Option.bind_some,gy (by simp),Option.bind_some,fL _ h4,Option.bind_some,gy (by simp),Option.bind_some,jW (by simp [aC]; omega) (by simp)]
         simp [aC]
       . rw [if_neg q7,decide_eq_false q7,cond_false,jW (by simp [aC]; omega) (by simp)]
         simp [aC]
end
section
open Go.RowKit Nu
theorem u5 (w0:List UInt8) (ws:List (List UInt8)):iK bj (w0 :: ws)=some (dD w0):=by
 have h:=eN (body:=kO bj (w0 :: ws)) bj (fun x=>decide (x=w0)) (fun k=>(.inr ((k:Nat):Int):Unit⊕Int)) (.inl ()) (fun k hk=>by
   have e:bj.length=10:=rfl
   unfold kO
   simp only [dlt hk,cond_true,aR hk,Option.bind_some,show kV bj[k] (w0 :: ws)=some (decide (bj[k]=w0)) from rfl]
   by_cases hc:bj[k]=w0
   . rw [if_pos (by simpa using hc),decide_eq_true hc]; rfl
   . rw [if_neg (by simpa using hc),decide_eq_false hc,aY hk (by omega)]; rfl) rfl
 unfold iK
 rw [h]
 unfold dD
 cases bj.findIdx? (fun x=>decide (x=w0)) <;> rfl
theorem uo (k:Int):jf k=some (bx k):=by
 unfold jf bx
 by_cases h2:k=2
 . subst h2; rfl
 . by_cases h3:k=3
   . subst h3; rfl
   . by_cases h4:k=4
     . subst h4; rfl
     . rw [decide_eq_false h2,decide_eq_false h3,decide_eq_false h4,if_neg (by omega)]
       by_cases h7:k=7
       . rw [decide_eq_true h7,if_pos h7]; rfl
       . rw [decide_eq_false h7,if_neg h7]; rfl
theorem jQ (w:List UInt8) (h:w.length≤1000000):bV w=some (an w M42):=by
 unfold bV; rw [fH w _ h (by decide) (by decide)]; rfl
theorem sE (a b c d:List UInt8) (hb:b.length≤1000000) (hc:c.length≤1000000) (hd:d.length≤1000000) :
   ∃ n0 n1 n2 n3 e,fy [a,b,c,d]=some (n0,n1,n2,n3,e)∧(if e≠0 then bA e else (7,n0,n1,n2,n3,0))=(if cZ a=0 then bA 3 else kH (cZ a) b c d):=by
 have hb':=jQ b hb; have hc':=jQ c hc; have hd':=jQ d hd
 unfold kH fy
 rw [show ab [a,b,c,d] 0=some a from rfl,Option.bind_some,ul,Option.bind_some]
 generalize cZ a=k
 by_cases hk:k=0
 . subst hk; exact ⟨_,_,_,_,_,rfl,rfl⟩
 . rw [decide_eq_false hk,if_neg hk]
   show ∃ n0 n1 n2 n3 e,((loop (nE [b,c,d]) (0,k,0,0,0)).bind _)=_∧_
   generalize an b M42=pb at *; generalize an c M42=pc at *; generalize an d M42=pd at *
   obtain ⟨vb,eb⟩:=pb; obtain ⟨vc,ec⟩:=pc; obtain ⟨vd,ed⟩:=pd
   by_cases h1:eb=0
   . subst h1
     rw [cv (s':=(1,k,vb,0,0)) (by
       show (bV b).bind _=_
       rw [hb']; rfl)]
     by_cases h2:ec=0
     . subst h2
       rw [cv (s':=(2,k,vb,vc,0)) (by
         show (bV c).bind _=_
         rw [hc']; rfl)]
       by_cases h3:ed=0
       . subst h3
         rw [cv (s':=(3,k,vb,vc,vd)) (by
           show (bV d).bind _=_
           rw [hd']; rfl),bh (b := .inl (k,vb,vc,vd)) rfl]
         exact ⟨_,_,_,_,_,rfl,rfl⟩
       . rw [bh (b := .inr (k,vb,vc,0,ed)) (by
           show (bV d).bind _=_
           rw [hd',Option.bind_some]
           show cond (!decide (ed=0)) _ _=_
           rw [decide_eq_false h3]; rfl)]
         refine ⟨_,_,_,_,_,rfl,?_⟩
         simp [h3]
     . rw [bh (b := .inr (k,vb,0,0,ec)) (by
         show (bV c).bind _=_
         rw [hc',Option.bind_some]
         show cond (!decide (ec=0)) _ _=_
         rw [decide_eq_false h2]; rfl)]
       refine ⟨_,_,_,_,_,rfl,?_⟩
       simp [h2]
   . rw [bh (b := .inr (k,0,0,0,eb)) (by
       show (bV b).bind _=_
       rw [hb',Option.bind_some]
       show cond (!decide (eb=0)) _ _=_
       rw [decide_eq_false h1]; rfl)]
     refine ⟨_,_,_,_,_,rfl,?_⟩
     simp [h1]
theorem lc (w:List (List UInt8)) (hw:∀ x∈w,x.length≤1000000):fx w=some (bR w):=by
 cases w with
 | nil=>rfl
 | cons w0 ws =>
   show _=some (mw (dD w0) ws)
   unfold fx mw
   have e0:decide ((((w0 :: ws).length:Nat):Int)=0)=false:=decide_eq_false (by rw [List.length_cons]; omega)
   rw [e0,cond_false,show gL=some bj from rfl,Option.bind_some,u5,Option.bind_some]
   have hge:=ta (w:=w0)
   generalize dD w0=k at *
   by_cases hneg:k < 0
   . rw [decide_eq_true hneg,if_pos (.inl hneg)]; rfl
   . rw [decide_eq_false hneg,cond_false,uo,Option.bind_some]
     by_cases hm:((ws.length + 1:Nat):Int)=bx k
     . rw [decide_eq_true (p:=(((w0 :: ws).length:Nat):Int)=bx k) hm,if_neg (by rintro (h | h); exact hneg h; exact h hm)]
       have h10:k=0∨k=1∨k=2∨k=3∨k=4∨k=5∨k=6∨k=7∨k=8∨k=9:=qR (by omega) (by omega)
       match ws,hm,hw with
       | [],hm,hw=>rcases h10 with rfl | rfl | rfl | rfl | rfl | rfl | rfl | rfl | rfl | rfl <;> first | rfl | (exact absurd hm (by simp [bx]))
       | [a],hm,hw =>
         have ha:a.length≤1000000:=hw a (by simp)
         have hn:=jQ a ha
         have hp:=oa a M42 ha (by decide) (by decide)
         have one:∀ k:Int,k=2∨k=3→(((cond (decide (k=2)) (some (decide (k=2))) (some (decide (k=3))):Option Bool).bind fun t348=>cond (t348) ((ab [w0,a] 1).bind fun x351=>(bV x351).bind fun (i362,i363)=>some ((i363,i362,(0:Int),(0:Int),(0:Int)))) (cond (decide (k=4)) ((ab [w0,a] 1).bind fun x369=>(eK x369 1048576).bind fun (i380,i381,i382)=>some ((i382,i380,i381,0,0))) (cond (decide (k=7)) ((subL [w0,a] 1 ((([w0,a].length:Nat):Int))).bind fun y387=>(fy y387).bind fun (i395,i396,i397,i398,i399)=>some ((i399,i395,i396,i397,i398))) (some ((0,0,0,0,0)))))):Option (Int×Int×Int×Int×Int))=some ((an a M42).2,(an a M42).1,0,0,0):=by
           intro k hk
           rcases hk with rfl | rfl
           . show (bV a).bind _=_
             rw [hn]; rfl
           . show (bV a).bind _=_
             rw [hn]; rfl
         rcases h10 with rfl | rfl | rfl | rfl | rfl | rfl | rfl | rfl | rfl | rfl
         . exact absurd hm (by simp [bx])
         . exact absurd hm (by simp [bx])
         . show Option.bind _ _=_
           rw [one 2 (.inl rfl),Option.bind_some,pD (by decide)]
           generalize an a M42=p; obtain ⟨v,e⟩:=p
           by_cases he:e=0
           . subst he; rfl
           . simp [he,bA]
         . show Option.bind _ _=_
           rw [one 3 (.inr rfl),Option.bind_some,pD (by decide)]
           generalize an a M42=p; obtain ⟨v,e⟩:=p
           by_cases he:e=0
           . subst he; rfl
           . simp [he,bA]
         . show ((eK a 1048576).bind _).bind _=_
           rw [hp,Option.bind_some,uq]
           generalize aG a M42=p; obtain ⟨v,u,e⟩:=p
           by_cases he:e=0
           . subst he; rfl
           . simp [he,bA]
         . exact absurd hm (by simp [bx])
         . exact absurd hm (by simp [bx])
         . exact absurd hm (by simp [bx])
         . exact absurd hm (by simp [bx])
         . exact absurd hm (by simp [bx])
       | [a,b],hm,hw=>rcases h10 with rfl | rfl | rfl | rfl | rfl | rfl | rfl | rfl | rfl | rfl <;> exact absurd hm (by simp [bx])
       | [a,b,c],hm,hw=>rcases h10 with rfl | rfl | rfl | rfl | rfl | rfl | rfl | rfl | rfl | rfl <;> exact absurd hm (by simp [bx])
       | [a,b,c,d],hm,hw =>
         obtain ⟨n0,n1,n2,n3,e,g1,g2⟩:=sE a b c d (hw b (by simp)) (hw c (by simp)) (hw d (by simp))
         have h7:k=7:=by
           rcases h10 with rfl | rfl | rfl | rfl | rfl | rfl | rfl | rfl | rfl | rfl <;> first | rfl | (exact absurd hm (by simp [bx]))
         subst h7
         show ((fy [a,b,c,d]).bind _).bind _=_
         rw [g1,Option.bind_some]
         dsimp only
         rw [show j5 7 [a,b,c,d]=(if cZ a=0 then bA 3 else kH (cZ a) b c d) from rfl,← g2]
         by_cases he:e=0
         . subst he; rfl
         . simp [he,bA]
       | a :: b :: c :: d :: f :: r,hm,hw =>
         exfalso
         simp only [List.length_cons] at hm
         rcases h10 with rfl | rfl | rfl | rfl | rfl | rfl | rfl | rfl | rfl | rfl <;> simp [bx] at hm <;> omega
     . rw [decide_eq_false (p:=(((w0 :: ws).length:Nat):Int)=bx k) hm,if_pos (.inr hm)]; rfl
theorem uS:gQ=some true:=by
 have e1:bR [[119,104,121],[49,58,50]]=(4,1,2,0,0,0):=by decide
 have e2:bR [[101,100,105,116],[100,114,111,112],[48],[49],[48]]=(7,2,0,1,0,0):=by decide
 have t0:text 0=[48]:=by unfold text; rw [if_neg (by decide),show ((0:Int).toNat)=0 from rfl,dY (by decide)]; rfl
 have t1:text 1=[49]:=by unfold text; rw [if_neg (by decide),show ((1:Int).toNat)=1 from rfl,dY (by decide)]; rfl
 have e3:mr (7,2,0,1,0)=[101,100,105,116,32,100,114,111,112,32,48,32,49,32,48]:=by
   show fe 7++32 :: (d7 2++32 :: (text 0++32 :: (text 1++32 :: text 0)))=_
   rw [t0,t1]; rfl
 unfold gQ
 rw [lc _ (by intro x hx; simp at hx; rcases hx with rfl | rfl <;> decide),e1,Option.bind_some]
 dsimp only
 rw [lc _ (by intro x hx; simp at hx; rcases hx with rfl | rfl | rfl | rfl | rfl <;> decide),e2,Option.bind_some]
 dsimp only
 rw [tK _ (by decide) (by decide) (by decide) (by decide),e3]
 rfl
end
section
open Go.RowKit Nu
abbrev co:=Int×Int×Int×Int×Int
theorem tB (l:List Wd) (hn:l.length≤4000000):iQ l=some (match l.findIdx? (fun w=>decide (w=[])) with | some k=>(k:Int) | none=>-1):=by
 unfold iQ
 rw [eN (body:=iM l) l (fun w=>decide (w=[])) (fun k => .inr (k:Int)) (.inl ()) (fun k hk=>by
   unfold iM gK
   simp only [dlt hk,cond_true,aR hk,Option.bind_some,aY hk (by omega)]
   by_cases h:l[k]=[] <;> simp [h]) (by unfold iM; simp only [dge (show ¬ l.length < l.length by omega),cond_false])]
 cases l.findIdx? (fun w=>decide (w=[])) <;> rfl
theorem ve (l:List Wd) (hn:l.length≤4000000):iO l=some (l.filter (fun w=>!decide (w=[]))):=by
 unfold iO
 rw [tB l hn,Option.bind_some]
 cases hf:l.findIdx? (fun w=>decide (w=[])) with
 | none =>
   have h:=List.findIdx?_eq_none_iff.1 hf
   have e:l.filter (fun w=>!decide (w=[]))=l:=List.filter_eq_self.2 (fun w hw=>by have:=h w hw; simpa using this)
   rw [e]; rfl
 | some k =>
   obtain ⟨hk,hp,hmin⟩:=List.findIdx?_eq_some_iff_getElem.1 hf
   have hpk:l[k]=[]:=by simpa using hp
   have hd:decide ((k:Int) = -1)=false:=decide_eq_false (by omega)
   dsimp only
   rw [hd,cond_false]
   have htk:(l.take k).filter (fun w=>!decide (w=[]))=l.take k:=List.filter_eq_self.2 (fun w hw=>by
     obtain ⟨j,hj,rfl⟩:=List.getElem_of_mem hw
     rw [List.length_take] at hj
     have:=hmin j (by omega)
     rw [List.getElem_take]; simpa using this)
   obtain ⟨b,hb,hq⟩:=pv (body:=kP) (fun s=>∃ i j:Nat,s.2.1=(i:Int)∧s.2.2=(j:Int)∧i < j∧j≤l.length∧s.1.length=l.length∧s.1.take i=(l.take j).filter (fun w=>!decide (w=[]))∧s.1.drop j=l.drop j) (fun s=>l.length - s.2.2.toNat)
     (Q:=fun b=>∃ i:Nat,b.2=(i:Int)∧i≤l.length∧b.1.length=l.length∧b.1.take i=l.filter (fun w=>!decide (w=[])))
     (fun s hs=>by
       obtain ⟨q,i',j'⟩:=s
       obtain ⟨i,j,rfl,rfl,hij,hj,hl,ht,hdr⟩:=hs
       dsimp only at hl ht hdr ⊢
       unfold kP gK
       by_cases hjl:j < l.length
       . left
         have hjq:j < q.length:=by omega
         have hiq:i < q.length:=by omega
         have ej:q[j]=l[j]:=by
           have:=congrArg List.head? hdr
           rw [List.head?_drop,List.head?_drop,List.getElem?_eq_getElem hjq,List.getElem?_eq_getElem hjl] at this
           exact Option.some.inj this
         have w1:IntKind.wrap .i64 ((j:Int) + 1)=((j + 1:Nat):Int):=aY hjl (by omega)
         have w2:IntKind.wrap .i64 ((i:Int) + 1)=((i + 1:Nat):Int):=aY hiq (by omega)
         have hdr':q.drop (j + 1)=l.drop (j + 1):=by
           rw [← List.drop_drop (i:=1),hdr,List.drop_drop]
         simp only [dlt hjq,cond_true,aR hjq,aR hiq,Option.bind_some,w1,w2,Int.toNat_natCast]
         by_cases hz:l[j]=[]
         . rw [show decide (q[j]=[])=true from by rw [ej]; simp [hz]]
           refine ⟨(q,(i:Int),((j + 1:Nat):Int)),rfl,⟨i,j + 1,rfl,rfl,by omega,by omega,hl,?_,hdr'⟩,by dsimp only; omega⟩
           rw [dx hjl,List.filter_append,ht]
           simp [hz]
         . rw [show decide (q[j]=[])=false from by rw [ej]; simp [hz]]
           refine ⟨(q.set i q[j],((i + 1:Nat):Int),((j + 1:Nat):Int)),rfl,⟨i + 1,j + 1,rfl,rfl,by omega,by omega,by simp [hl],?_,?_⟩,by dsimp only; omega⟩
           . dsimp only
             rw [dx (by rw [List.length_set]; omega),List.take_set_of_le (by omega),ht,List.getElem_set_self,dx hjl,List.filter_append,ej]
             simp [hz]
           . dsimp only
             rw [List.drop_set_of_lt (by omega),hdr']
       . right
         have hjq:¬ j < q.length:=by omega
         have ejl:j=l.length:=by omega
         refine ⟨(q,(i:Int)),by simp only [dge hjq,cond_false],i,rfl,by omega,hl,?_⟩
         dsimp only; rw [ht,ejl,List.take_length])
     (s:=(l,(k:Int),IntKind.wrap .i64 ((k:Int) + 1))) ⟨k,k + 1,rfl,by dsimp only; exact aY hk (by omega),by omega,by omega,rfl,by rw [dx hk,List.filter_append,htk]; simp [hpk],rfl⟩
   obtain ⟨q,z⟩:=b
   obtain ⟨i,rfl,hi,hl,ht⟩:=hq
   dsimp only at hi hl ht
   rw [hb]
   simp only [Option.bind_some]
   rw [b0 (by omega) (by omega) (by omega)]
   simp only [Option.bind_some,Int.toNat_natCast]
   rw [b0 (by omega) (by omega) (by simp [cpy]; omega)]
   simp only [Option.bind_some,Int.toNat_natCast,show ((0:Int).toNat)=0 from rfl,List.drop_zero]
   unfold cpy
   rw [List.take_append_of_le_length (by rw [List.length_take]; omega),List.take_take,Nat.min_self,ht]
theorem ou (l:Wd) (hn:l.length≤1000000):gM l=some (wds l):=by
 unfold gM
 have hsp:=hY 32 l (by omega)
 have hde:=ve (ai 32 l) (by have:=cJ 32 l; omega)
 simp only [hsp,hde,Option.bind_some]
 rfl
def dI:Wd:=[116,104,101,110]
def bO (l:Wd):Bool:=decide (wds l=[dI])
theorem we (a b:List Wd) (hn:a.length≤4000000):gE a b=some (decide (a=b)):=by
 unfold gE
 by_cases hl:a.length=b.length
 . rw [wO hl,cond_false,sm (body:=iX a b) a b (.inr false) (.inl ()) hl (fun k hk=>by
     unfold iX
     simp only [dlt hk,cond_true,aR hk,aR (show k < b.length by omega),Option.bind_some,aY hk (by omega)]
     by_cases h:a[k]=b[k]'(by omega) <;> simp [h]) (by unfold iX; simp only [dge (show ¬ a.length < a.length by omega),cond_false])]
   by_cases h:a=b
   . subst h; simp
   . simp [h]
 . rw [wy hl,cond_true]
   have:a≠b:=fun h=>hl (by rw [h])
   simp [this]
theorem tF (l:Wd) (hn:l.length≤1000000):jc l=some (bO l):=by
 unfold jc
 have h1:(wds l).length≤(ai 32 l).length:=List.length_filter_le _ _
 have h2:=cJ 32 l
 rw [ou l hn,Option.bind_some,show gE (wds l) [[116,104,101,110]]=_ from we _ _ (by omega)]
 rfl
theorem uL (ls:List Wd) (hl:ls.length≤4000000) (hn:∀ l∈ls,l.length≤1000000):iR ls=some (match ls.findIdx? bO with | some k=>((k:Nat):Int) | none=>-1):=by
 unfold iR
 rw [eN (body:=iL ls) ls bO (fun k => .inr (k:Int)) (.inl ()) (fun k hk=>by
   unfold iL
   simp only [dlt hk,cond_true,aR hk,Option.bind_some,aY hk (by omega),tF _ (hn _ (List.getElem_mem hk))]
   cases bO ls[k] <;> rfl) (by unfold iL; simp only [dge (show ¬ ls.length < ls.length by omega),cond_false])]
 cases ls.findIdx? bO <;> rfl
def bE (ws:List Wd) (acc:List co):Int:=if (bR ws).2.2.2.2.2=0∧acc.length=400 then 10 else (bR ws).2.2.2.2.2
def kN (c:C42):co:=(c.1,c.2.1,c.2.2.1,c.2.2.2.1,c.2.2.2.2.1)
def aw:List Wd→List co→Int→List co×Int×Int
 | [],acc,n=>(acc,0,0)
 | l :: ls,acc,n=>if bp (wds l)=true then aw ls acc (n + 1) else if bE (wds l) acc=0 then aw ls (acc++[kN (bR (wds l))]) (n + 1) else ([],n + 1,bE (wds l) acc)
theorem jl (d:Int):∀ (ls:List Wd) (acc:List co) (n:Int),aw ls acc (n + d)=((aw ls acc n).1,(if (aw ls acc n).2.2=0 then 0 else (aw ls acc n).2.1 + d),(aw ls acc n).2.2)
 | [],acc,n=>rfl
 | l :: ls,acc,n=>by
   unfold aw
   by_cases h:bp (wds l)=true
   . rw [if_pos h,if_pos h,show n + d + 1=n + 1 + d by omega]; exact jl d ls acc (n + 1)
   . rw [if_neg h,if_neg h]
     by_cases h0:bE (wds l) acc=0
     . rw [if_pos h0,if_pos h0,show n + d + 1=n + 1 + d by omega]; exact jl d ls _ (n + 1)
     . rw [if_neg h0,if_neg h0]; simp [h0]; omega
theorem lR:∀ (ls:List Wd) (acc:List co) (n:Int),acc.length≤400→(aw ls acc n).1.length≤400
 | [],acc,n,h=>h
 | l :: ls,acc,n,h=>by
   unfold aw
   by_cases hs:bp (wds l)=true
   . rw [if_pos hs]; exact lR ls acc _ h
   . rw [if_neg hs]
     by_cases h0:bE (wds l) acc=0
     . rw [if_pos h0]
       refine lR ls _ _ ?_
       unfold bE at h0
       split at h0
       . cases h0
       . rename_i hh; rw [List.length_append,List.length_singleton]
         have:acc.length≠400:=fun e=>hh ⟨h0,e⟩
         omega
     . rw [if_neg h0]; simp
theorem uF {l:Wd} {n:Nat} (h:l.length≤n):∀ w∈wds l,w.length≤n:=fun w hw=>gT 32 n l h w (List.mem_filter.1 hw).1
theorem sr (ws:List Wd) (acc:List co):(cond ((decide ((bR ws).2.2.2.2.2=0))&&(decide ((((acc.length:Nat):Int))=400))) (some (10)) (some ((bR ws).2.2.2.2.2)):Option Int)=some (bE ws acc):=by
 unfold bE
 by_cases h:(bR ws).2.2.2.2.2=0∧acc.length=400
 . rw [if_pos h,decide_eq_true h.1,decide_eq_true (p:=((acc.length:Nat):Int)=400) (by omega)]; rfl
 . rw [if_neg h]
   have:(decide ((bR ws).2.2.2.2.2=0)&&decide (((acc.length:Nat):Int)=400))=false:=by
     rw [Bool.and_eq_false_iff]
     by_cases h1:(bR ws).2.2.2.2.2=0
     . exact .inr (decide_eq_false (fun e=>h ⟨h1,by omega⟩))
     . exact .inl (decide_eq_false h1)
   rw [this]; rfl
theorem uK (ls:List Wd) (hls:ls.length≤950000) (hl:∀ l∈ls,l.length≤800000):∀ (m k:Nat) (acc:List co),k + m=ls.length→acc.length≤400 →
   loop (eJ ls) (acc,(k:Int))=some (if (aw (ls.drop k) acc k).2.2=0 then .inl (aw (ls.drop k) acc k).1 else .inr (aw (ls.drop k) acc k)):=by
 intro m
 induction m with
 | zero =>
   intro k acc hk ha
   rw [List.drop_eq_nil_of_le (by omega)]
   refine bh ?_
   unfold eJ
   simp only [dge (show ¬ k < ls.length by omega),cond_false]; rfl
 | succ m ih =>
   intro k acc hk ha
   have hk':k < ls.length:=by omega
   have hlk:=hl _ (List.getElem_mem hk')
   rw [List.drop_eq_getElem_cons hk']
   have hW:=ou ls[k] (by omega)
   have wk':IntKind.wrap .i64 ((k:Int) + 1)=((k + 1:Nat):Int):=aY hk' (by omega)
   have hC:=lc (wds ls[k]) (fun x hx=>by have:=uF hlk x hx; omega)
   unfold aw
   have hsk:=mf (wds ls[k])
   by_cases hs:bp (wds ls[k])=true
   . rw [if_pos hs,cv (s':=(acc,((k + 1:Nat):Int))) (by
       unfold eJ
       simp only [dlt hk',cond_true,aR hk',Option.bind_some,hW,wk']
       rw [hsk,hs]; rfl)]
     exact ih (k + 1) acc (by omega) ha
   . rw [if_neg hs]
     have hs':bp (wds ls[k])=false:=Bool.eq_false_iff.2 hs
     have hb:eJ ls (acc,(k:Int))=some (if bE (wds ls[k]) acc=0 then .inl (acc++[kN (bR (wds ls[k]))],((k + 1:Nat):Int)) else .inr (.inr ([],((k + 1:Nat):Int),bE (wds ls[k]) acc))):=by
       unfold eJ
       simp only [dlt hk',cond_true,aR hk',Option.bind_some,hW,wk']
       rw [hsk,hs']
       simp only [Option.bind_some,cond_false,hC]
       have he:=sr (wds ls[k]) acc
       rw [he]
       simp only [Option.bind_some]
       by_cases h0:bE (wds ls[k]) acc=0
       . rw [if_pos h0,decide_eq_true h0]
         simp only [Bool.not_true,cond_false]
         rw [b7 (by rw [List.length_singleton]; omega)]; rfl
       . rw [if_neg h0,decide_eq_false h0]; rfl
     by_cases h0:bE (wds ls[k]) acc=0
     . rw [if_pos h0] at hb ⊢
       rw [cv hb]
       have ha':(acc++[kN (bR (wds ls[k]))]).length≤400:=by
         have:=lR [ls[k]] acc 0 ha
         unfold aw at this
         rw [if_neg hs,if_pos h0] at this
         exact this
       exact ih (k + 1) _ (by omega) ha'
     . rw [if_neg h0] at hb ⊢
       rw [bh hb]
       simp [h0]
theorem uz (ls:List Wd) (hls:ls.length≤950000) (hl:∀ l∈ls,l.length≤800000):jb ls=some (aw ls [] 0):=by
 unfold jb
 have h:=uK ls hls hl ls.length 0 [] (by omega) (by simp)
 rw [List.drop_zero] at h
 rw [show loop (eJ ls) ([],0)=_ from h,Option.bind_some]
 by_cases h0:(aw ls [] 0).2.2=0
 . rw [if_pos (show (aw ls [] ((0:Nat):Int)).2.2=0 from h0)]
   have:=jl 0 ls [] 0
   rw [if_pos h0] at this
   refine congrArg some ?_
   show ((aw ls [] 0).1,(0:Int),(0:Int))=_
   rw [show (0:Int) + 0=0 from rfl] at this
   rw [this]; simp [h0]
 . rw [if_neg (show ¬ (aw ls [] ((0:Nat):Int)).2.2=0 from h0)]; rfl
end
section
open Go.RowKit Nu
abbrev R42:=Int×Int×List (Int×Int)×List (List St)×List St×List aB×List aA×List co×Int×Int
def P0:PS:=(0,0,[],[],[],[],[],0)
def fW (n e:Int):R42:=(0,0,[],[],[],[],[],[],n,e)
def iA (ls:List Wd):R42:=match ls.findIdx? bO with
 | none=>if (aO ls P0 0).2.2.2.2.2.2.2.2≠0 then fW (aO ls P0 0).2.2.2.2.2.2.2.1 (aO ls P0 0).2.2.2.2.2.2.2.2 else fW 0 14
 | some k =>
   if (aO (ls.take k) P0 0).2.2.2.2.2.2.2.2≠0 then fW (aO (ls.take k) P0 0).2.2.2.2.2.2.2.1 (aO (ls.take k) P0 0).2.2.2.2.2.2.2.2
   else if (aw (ls.drop (k + 1)) [] ((k:Nat) + 1:Int)).2.2≠0 then fW (aw (ls.drop (k + 1)) [] ((k:Nat) + 1:Int)).2.1 (aw (ls.drop (k + 1)) [] ((k:Nat) + 1:Int)).2.2
   else ((aO (ls.take k) P0 0).1,(aO (ls.take k) P0 0).2.1,(aO (ls.take k) P0 0).2.2.1,(aO (ls.take k) P0 0).2.2.2.1,(aO (ls.take k) P0 0).2.2.2.2.1,(aO (ls.take k) P0 0).2.2.2.2.2.1,(aO (ls.take k) P0 0).2.2.2.2.2.2.1,(aw (ls.drop (k + 1)) [] ((k:Nat) + 1:Int)).1,0,0)
theorem lH:∀ (ls:List Wd) (p:PS) (n:Int),aO (ls++[[]]) p n=aO ls p n
 | [],p,n=>rfl
 | l :: ls,p,n=>by
   rw [List.cons_append]
   unfold aO
   rw [lH ls p (n + 1),lH ls (kJ (wds l) p).2 (n + 1)]
theorem sM (ls:List Wd) (h:∀ l∈ls,(10:UInt8)∉l):ai 10 (ls.flatMap (·++[10]))=ls++[[]]:=by
 induction ls with
 | nil=>rfl
 | cons l ls ih =>
   rw [List.flatMap_cons,List.append_assoc]
   show ai 10 (l++10 :: ls.flatMap (·++[10]))=_
   rw [ll 10 l _ (h l (by simp)),ih (fun x hx=>h x (by simp [hx]))]; rfl
theorem js (c:UInt8):∀ ls:List Wd,(aC c ls).length≤(ls.flatMap (·++[c])).length
 | []=>by simp [aC]
 | [p]=>by simp [aC]
 | p :: q :: ps=>by
   have:=js c (q :: ps)
   rw [gU,List.flatMap_cons]
   simp only [List.length_append,List.length_cons,List.length_nil] at *
   omega
theorem oJ (c:UInt8):∀ ls:List Wd,ls≠[]→(ls.flatMap (·++[c])).length=(aC c ls).length + 1
 | [],h=>absurd rfl h
 | [p],_=>by simp [aC]
 | p :: q :: ps,_=>by
   have:=oJ c (q :: ps) (by simp)
   rw [gU,List.flatMap_cons]
   simp only [List.length_append,List.length_cons,List.length_nil] at *
   omega
theorem oP (c:UInt8) (ls:List Wd) (k:Nat):((ls.take k).flatMap (·++[c])).length≤(ls.flatMap (·++[c])).length:=by
 conv=>rhs; rw [← List.take_append_drop k ls]
 rw [List.flatMap_append,List.length_append]; omega
structure Lines (s:Wd) (ls:List Wd):Prop where
 eq:ls=ai 10 s
 len:ls.length≤800000
 each:∀ l∈ls,l.length≤800000
 no:∀ l∈ls,(10:UInt8)∉l
 flat:(ls.flatMap (·++[10])).length≤800000
theorem nQ (c:UInt8):∀ (s:Wd),∀ p∈ai c s,c∉p
 | []=>by
   intro p hp
   rw [show ai c []=[[]] from rfl] at hp
   simp at hp; subst hp; simp
 | b :: l=>by
   intro p hp
   have ih:=nQ c l
   rw [dQ] at hp
   by_cases hb:b=c
   . rw [if_pos hb] at hp
     rcases List.mem_cons.1 hp with rfl | hp
     . simp
     . exact ih p hp
   . rw [if_neg hb] at hp
     cases hq:ai c l with
     | nil=>exact absurd hq (gX c l)
     | cons q qs =>
       rw [hq] at hp ih
       rcases List.mem_cons.1 hp with rfl | hp
       . intro h
         rcases List.mem_cons.1 h with h | h
         . exact hb h.symm
         . exact ih q (by simp) h
       . exact ih p (by simp [hp])
theorem Lines.of (s:Wd) (h:s.length≤790000):Lines s (ai 10 s) where
 eq:=rfl
 len:=by have:=cJ 10 s; omega
 each:=fun l hl=>by have:=gT 10 s.length s (Nat.le_refl _) l hl; omega
 no:=nQ 10 s
 flat:=by rw [oJ 10 _ (gX 10 s),lh]; omega
section
variable {s:Wd} {ls:List Wd} (h:Lines s ls)
include h
theorem Lines.take_each (k:Nat):∀ l∈ls.take k,l.length≤800000:=fun l hl=>h.each l (List.mem_of_mem_take hl)
theorem Lines.drop_each (k:Nat):∀ l∈ls.drop k,l.length≤800000:=fun l hl=>h.each l (List.mem_of_mem_drop hl)
theorem qP (k:Nat):gR (aC 10 (ls.take k))=some (aO (ls.take k) P0 0):=by
 have hf:=h.flat; have hl:=h.len
 have hg:=js 10 (ls.take k)
 have ht:=oP 10 ls k
 by_cases hk:ls.take k=[]
 . rw [hk]
   rw [← lH [] P0 0]
   refine pW _ _ (by simp [aC]) ?_
   exact jw [[]] P0 0 0 Iv.zero (by simp) (by simp)
 . refine pW _ _ (by omega) ?_
   rw [nY 10 _ hk (fun p hp=>h.no p (List.mem_of_mem_take hp))]
   exact jw _ P0 0 0 Iv.zero (by rw [List.length_take]; omega) (h.take_each k)
theorem tT (hs:s.length≤790000):gO s=some (iA ls):=by
 have hf:=h.flat; have hl:=h.len
 unfold gO
 rw [decide_eq_false (p:=(1048576:Int) < ((s.length:Nat):Int)) (by omega),cond_false,hY 10 s (by omega),← h.eq,Option.bind_some,uL ls (by omega) (fun l hl=>by have:=h.each l hl; omega),Option.bind_some]
 unfold iA
 cases hi:ls.findIdx? bO with
 | none =>
   dsimp only
   rw [show decide ((0:Int)≤-1)=false from rfl,cond_false,Option.bind_some]
   have hg:=js 10 ls
   have hh:=qP h ls.length
   rw [List.take_length] at hh
   rw [o7 (by omega) (by omega),Option.bind_some,hh,Option.bind_some]
   generalize aO ls P0 0=q
   obtain ⟨a1,a2,a3,a4,a5,a6,a7,a8,a9⟩:=q
   dsimp only
   by_cases h0:a9=0
   . rw [decide_eq_true h0,if_neg (by simp [h0])]; rfl
   . rw [decide_eq_false h0,if_pos h0]; rfl
 | some k =>
   obtain ⟨hk,_,_⟩:=List.findIdx?_eq_some_iff_getElem.1 hi
   dsimp only
   have e1:decide ((0:Int)≤((k:Nat):Int))=true:=decide_eq_true (by omega)
   have e2:subL ls 0 ((k:Nat):Int)=some (ls.take k):=by rw [b0 (by omega) (by omega) (by omega)]; simp
   rw [e1,cond_true,e2,Option.bind_some,Option.bind_some]
   have hg:=js 10 (ls.take k)
   have ht:=oP 10 ls k
   rw [o7 (by omega) (by rw [List.length_take]; omega),Option.bind_some,qP h k,Option.bind_some]
   generalize aO (ls.take k) P0 0=q
   obtain ⟨a1,a2,a3,a4,a5,a6,a7,a8,a9⟩:=q
   dsimp only
   by_cases h0:a9=0
   . rw [decide_eq_true h0,if_neg (by simp [h0])]
     have e3:decide (((k:Nat):Int) < 0)=false:=decide_eq_false (by omega)
     have w:IntKind.wrap .i64 (((k:Nat):Int) + 1)=((k + 1:Nat):Int):=aY hk (by omega)
     have e4:subL ls ((k + 1:Nat):Int) ((ls.length:Nat):Int)=some (ls.drop (k + 1)):=by rw [b0 (by omega) (by omega) (by omega)]; simp
     rw [e3,w,e4]
     simp only [Bool.not_true,cond_false,Option.bind_some]
     rw [uz (ls.drop (k + 1)) (by rw [List.length_drop]; omega) (h.drop_each (k + 1)),Option.bind_some]
     have hsh:=jl ((k:Nat) + 1:Int) (ls.drop (k + 1)) [] 0
     rw [show (0:Int) + ((k:Nat) + 1:Int)=((k:Nat) + 1:Int) by omega] at hsh
     have hb:∀ (l:List Wd) (acc:List co) (n:Int),0≤n→0≤(aw l acc n).2.1∧(aw l acc n).2.1≤n + l.length:=by
       intro l
       induction l with
       | nil=>intro acc n hn; exact ⟨Int.le_refl 0,by show (0:Int)≤_; simp; omega⟩
       | cons a l ih =>
         intro acc n hn
         unfold aw
         rw [List.length_cons]
         split
         . have:=ih acc (n + 1) (by omega); omega
         . split
           . have:=ih (acc++[kN (bR (wds a))]) (n + 1) (by omega); omega
           . dsimp only; omega
     obtain ⟨b1,b2⟩:=hb (ls.drop (k + 1)) [] 0 (by omega)
     rw [List.length_drop] at b2
     rw [hsh]
     generalize aw (ls.drop (k + 1)) [] 0=q at *
     obtain ⟨q1,q2,q3⟩:=q
     dsimp only at *
     by_cases hq:q3=0
     . rw [decide_eq_true hq,if_neg (by simp [hq])]; rfl
     . rw [decide_eq_false hq,if_pos hq,if_neg hq]
       simp only [Bool.not_false,cond_true]
       rw [w64 (by omega) (by omega)]
       unfold fW
       rw [show ((k + 1:Nat):Int) + q2=q2 + (((k:Nat):Int) + 1) by omega]
   . rw [decide_eq_false h0,if_pos h0]; rfl
end
end
section
open Go.RowKit Nu
def db:List Wd:=[[114,101,103,105,111,110,115,32,49,32,49],[98,111,117,110,100,115],[108,111,99,97,108,32,45],[103,105,118,101,115,32,45],[98,108,111,99,107],[114,101,116,117,114,110]]
def bF:Wd:=[99,104,101,99,107]
def dC (n:Nat):List Wd:=db++[dI]++List.replicate n bF
def cP (n:Nat):Wd:=(dC n).flatMap (·++[10])
theorem r6 (n:Nat):dC (n + 1)=dC n++[bF]:=by unfold dC; rw [List.replicate_succ',List.append_assoc (db++[dI])]
theorem n7 (n:Nat):cP (n + 1)=cP n++[99,104,101,99,107,10]:=by unfold cP; rw [r6,List.flatMap_append]; rfl
theorem lx:∀ n,(cP n).length=53 + 6 * n
 | 0=>by decide
 | n + 1=>by rw [n7,List.length_append,lx n]; simp; omega
theorem nX (n:Nat) (hn:n≤1000):loop (gG (n:Int)) (cP 0,0)=some (cP n):=by
 refine g8 (body:=gG (n:Int)) (fun j:Nat=>(cP j,(j:Int))) n (fun k hk=>?_) ?_
 . unfold gG
   have e:decide ((k:Int) < (n:Int))=true:=decide_eq_true (by omega)
   have hl:=lx k
   simp only [e,cond_true]
   rw [b7 (by simp only [List.length_cons,List.length_nil]; omega),Option.bind_some,aY hk (by omega),n7]
 . unfold gG
   have e:decide ((n:Int) < (n:Int))=false:=decide_eq_false (by omega)
   simp only [e,cond_false]
theorem r7 (n:Nat):ai 10 (cP n)=dC n++[[]]:=by
 refine sM _ (fun l hl=>?_)
 unfold dC at hl
 rcases List.mem_append.1 hl with hl | hl
 . exact (show ∀ l∈db++[dI],(10:UInt8)∉l by decide) l hl
 . obtain rfl:=List.eq_of_mem_replicate hl; decide
theorem sf (r:List Wd):(db++[dI]++r).findIdx? bO=some 6:=by
 rw [List.findIdx?_eq_some_iff_getElem]
 refine ⟨by simp [db],?_,fun j hj=>?_⟩
 . show bO dI=true
   decide
 . have:j=0∨j=1∨j=2∨j=3∨j=4∨j=5:=by omega
   rcases this with rfl | rfl | rfl | rfl | rfl | rfl
   . show ¬ bO [114,101,103,105,111,110,115,32,49,32,49]=true; decide
   . show ¬ bO [98,111,117,110,100,115]=true; decide
   . show ¬ bO [108,111,99,97,108,32,45]=true; decide
   . show ¬ bO [103,105,118,101,115,32,45]=true; decide
   . show ¬ bO [98,108,111,99,107]=true; decide
   . show ¬ bO [114,101,116,117,114,110]=true; decide
theorem vA:aO db P0 0=(1,1,[],[[]],[],[],[([],(3,0,0,[],[],[]))],0,0):=by kernel_rfl
theorem jO:bR (wds bF)=(0,0,0,0,0,0):=by decide +kernel
theorem lS:bp (wds bF)=false:=by decide +kernel
theorem qy:∀ (m:Nat) (acc:List co) (k:Int),acc.length + m≤400→aw (List.replicate m bF++[[]]) acc k=(acc++List.replicate m (0,0,0,0,0),0,0)
 | 0,acc,k,h=>by
   show aw [[]] acc k=_
   unfold aw; rw [if_pos (by decide)]; simp [aw]
 | m + 1,acc,k,h=>by
   rw [List.replicate_succ,List.cons_append]
   unfold aw
   have e:bE (wds bF) acc=0:=by unfold bE; rw [jO,if_neg (by rintro ⟨_,h2⟩; omega)]
   rw [if_neg (by rw [lS]; decide),if_pos e,jO,qy m _ _ (by rw [List.length_append,List.length_singleton]; omega),List.replicate_succ,List.append_assoc]
   rfl
theorem pS:∀ (m:Nat) (acc:List co) (k:Int),acc.length + m=400→aw (List.replicate (m + 1) bF++[[]]) acc k=([],k + m + 1,10)
 | 0,acc,k,h=>by
   show aw (bF :: [[]]) acc k=_
   unfold aw
   have e:bE (wds bF) acc=10:=by unfold bE; rw [jO,if_pos ⟨rfl,by omega⟩]
   rw [if_neg (by rw [lS]; decide),if_neg (by rw [e]; decide),e]
   simp
 | m + 1,acc,k,h=>by
   rw [List.replicate_succ,List.cons_append]
   unfold aw
   have e:bE (wds bF) acc=0:=by unfold bE; rw [jO,if_neg (by rintro ⟨_,h2⟩; omega)]
   rw [if_neg (by rw [lS]; decide),if_pos e,pS m _ _ (by rw [List.length_append,List.length_singleton]; omega)]
   congr 2
   omega
theorem pC (n:Nat):iA (dC n++[[]])=if (aw (List.replicate n bF++[[]]) [] 7).2.2≠0 then fW (aw (List.replicate n bF++[[]]) [] 7).2.1 (aw (List.replicate n bF++[[]]) [] 7).2.2 else (1,1,[],[[]],[],[],[([],(3,0,0,[],[],[]))],(aw (List.replicate n bF++[[]]) [] 7).1,0,0):=by
 unfold iA dC
 rw [List.append_assoc (db++[dI]),sf]
 dsimp only
 have e1:List.take 6 (db++[dI]++(List.replicate n bF++[[]]))=db:=rfl
 have e2:List.drop (6 + 1) (db++[dI]++(List.replicate n bF++[[]]))=List.replicate n bF++[[]]:=rfl
 rw [e1,vA,e2]
 rfl
theorem rJ (xa:Bool) (k0:Tp.Ok .bool xa):k7 xa=some true:=by
 unfold k7
 have key:∀ n:Nat,n≤1000→gO (cP n)=some (iA (dC n++[[]])):=fun n hn=>by
   have hl:=lx n
   have:=tT (Lines.of (cP n) (by omega)) (by omega)
   rw [r7] at this
   exact this
 have e0:([114,101,103,105,111,110,115,32,49,32,49,10,98,111,117,110,100,115,10,108,111,99,97,108,32,45,10,103,105,118,101,115,32,45,10,98,108,111,99,107,10,114,101,116,117,114,110,10,116,104,101,110,10]:List UInt8)=cP 0:=by decide
 rw [e0,uS]
 cases xa with
 | true =>
   rw [cond_true,show IntKind.wrap .i64 (400 + 1)=((401:Nat):Int) from by decide,Option.bind_some,nX 401 (by omega),Option.bind_some,key 401 (by omega),pC,pS 400 [] 7 rfl]
   rfl
 | false =>
   rw [cond_false,Option.bind_some,show (400:Int)=((400:Nat):Int) from rfl,nX 400 (by omega),Option.bind_some,key 400 (by omega),pC,qy 400 [] 7 (by simp)]
   have:((([]:List co)++List.replicate 400 (0,0,0,0,0)).length:Int)=((400:Nat):Int):=by simp
   rw [if_neg (by decide)]
   dsimp only [Option.bind_some]
   rw [decide_eq_true this]
   rfl
end
open Go.RowKit
theorem rI {H:Type} (enc:TypeId×Value→H) (W:World) (base:Nat) {v0:Value} {d0:DataW H} {p0:List MemPlace}
   (h0:DataW.Trod enc Tryd.prog W 0 (fun _=>true) true 4 v0 d0 p0)
   (o0:Value.okWide Tryd.prog W .any base 4 v0)
   (hso:W.ShapedOpen Tryd.prog) :
   Calls Tryd.prog 3 #[v0] W fun e W'=>e = .returned (.bool true)∧Below W.heap.size W W':=by
 obtain ⟨xa,i0,k0⟩:=Tp.arg .bool (by kernel_rfl) o0 h0
 exact wq (s:=nD) (x:=xa) (args:=[v0]) rC (rJ xa k0) (Gk.of hso) rfl rfl ⟨_,_,rfl,qp _ i0,rfl⟩
end
end Go.Proofs.YtbheedkpbbmlcaaDoor
namespace Go.Proofs.YtbheedkpbbmlcaaDoor.scriptManyFrame
set_option maxRecDepth 40000
open Go.ChangeShapes Go.WideShapes Go.ChangeAt Go.RowKit
theorem own:ownKnob Tryd.prog.godebug=none:=by kernel_rfl
theorem uy (H:Type) (enc:TypeId×Value→H) (W:World) (base:Nat) (args:Array Value) (ds gs:List (DataW H)) (before:List MemPlace)
    (hval:∀ (j:Nat) t v,Tryd.f3.params[j]? = some t→args[j]? = some v→Value.okWide Tryd.prog W .any base t v)
    (hW:DataW.Whole enc Tryd.prog Tryd.f3.params.toList Rows.scriptManySpec.vars false W args.toList ds gs before) (hso:W.ShapedOpen Tryd.prog) :
    Calls Tryd.prog 3 args W fun e W'=>∃ v,e = .returned v∧Rows.scriptManySpec.post enc Tryd.prog Tryd.f3 false true false false W args v W':=by
  have hW':=hW
  obtain ⟨p,q,hA0,hV,rfl,hfz,hnd⟩:=hW
  have hA:DataW.TrodAll enc Tryd.prog W 0 (fun _=>true) true Tryd.f3.params.toList args.toList ds p:=hA0
  rw [Tryd.params3] at hA hval
  obtain ⟨v0,vs0,d0,ds0,p0,q0,hargs,rfl,rfl,h0,r0⟩:=trodAll_cons hA
  obtain ⟨rfl,rfl,rfl⟩:=trodAll_nil r0
  obtain rfl:args = #[v0]:=by cases args; simp_all
  refine (rI enc W base h0 (hval 0 _ v0 rfl rfl) hso).mono fun e W' ⟨he,hb⟩=>?_
  subst he
  exact ⟨_,rfl,uI (tb:=_) rfl hW' rfl rfl (by kernel_rfl) (by kernel_rfl) (of_decide_eq_true (by kernel_rfl)) hb⟩
noncomputable def ge (os:Os):World:=World.laidAll Tryd.prog os Rows.scriptManyRow.laid
theorem qM (os:Os) {H:Type} (enc:TypeId×Value→H):∃ x,DataW.whole enc Tryd.prog ((ge os).forCall (fun _ _=>0) ⟨#[],#[.bool false],[]⟩).memory Tryd.f3.params.toList Rows.scriptManySpec.vars false (#[.bool false]:Array Value).toList 8=some x :=
  Option.isSome_iff_exists.1 (by kernel_rfl)
set_option maxRecDepth 100000 in
theorem wj (os:Os) (started:os.Started) (H:Type) (enc:TypeId×Value→H) (F:Stop.Interp) :
    ReturnsInHanded {} Tryd.checked os 3 .any ((OpenSpec.ofChange Rows.scriptManySpec).preRow enc Tryd.prog Tryd.f3 Rows.scriptManyRow.domain false Rows.scriptManyRow.laid) (((OpenSpec.ofChange Rows.scriptManySpec).at F).post enc Tryd.prog Tryd.f3 false true false false):=by
  obtain ⟨x,hx⟩:=qM os enc
  refine returnsInHanded_of_row (C:=Tryd.checked) (s:=OpenSpec.ofChange Rows.scriptManySpec) own started (by kernel_rfl) Tryd.func3
    ⟨ge os,fun _ _=>0,⟨#[],#[.bool false],[]⟩,World.laidAll_os _ _ _,World.shaped_of_ZipB (by kernel_rfl) (by kernel_rfl),rfl,(Input.okWide_of_okWideB (by kernel_rfl)).2,
      OpenSpec.preRow_of_cond 8 hx (by kernel_rfl) (fun k hk=>by cases hk) (by kernel_rfl) (by rw [MakeChecks.laidMetH_plain _ _ _ (by kernel_rfl)]; exact laidMet_laidAll _ (by kernel_rfl) (by kernel_rfl)),
      by simp only [Assume.holds]; exact ⟨by simp,by simp,by simp,by simp,by simp⟩⟩ ?_
  intro W base args ds gs before hval hW _ _ _ hL hso _
  exact uy H enc W base args ds gs before hval hW hso
theorem vP:Rows.ScriptManySaid :=
  OpenClaim.holds_of_cond 3 Tryd.f3 rfl rfl rfl rfl rfl rfl rfl ⟨rfl,rfl,rfl,rfl,rfl⟩ rfl rfl rfl rfl rfl (by kernel_rfl) Tryd.func3 (by kernel_rfl)
    (of_decide_eq_true (by kernel_rfl)) (by unfold Func.isWrapper; first | (rw [if_pos (by decide +kernel)]; kernel_rfl) | (rw [if_neg (by decide +kernel)]; exact ⟨rfl,rfl⟩))
    (fun os started H enc _ F=>by rw [OpenClaim.pre_eq_preRow]; exact wj os started H enc F)
theorem card:Rows.ScriptManyCardSaid :=
  Claim7.holds_tied_plain_at .later [] [.data, .pinned] true (true, "b1bb7d1209fe5e78efbbf901c711f31b169cbaf4f1bc13affb5a05cffa544b45") false vP (fun _ h => by cases h) (by kernel_rfl) (fun _ h => by cases h) scriptMany_row_tie rfl ⟨rfl, rfl⟩ (by kernel_rfl) rfl
    (fun f fn hf hfn=>by
      obtain rfl : f = 3 := Option.some.inj ((show Tryd.prog.funcNamed "easement/easementlaw42.ScriptMany" = some 3 by kernel_rfl).symm.trans hf) |>.symm
      obtain rfl:fn=Tryd.f3:=(Option.some.inj (Tryd.func3.symm.trans hfn)).symm
      exact ⟨by kernel_rfl,fun j t ht=>by
        rw [Tryd.params3] at ht
        have hm:t∈[4]:=by simpa using Array.mem_of_getElem? ht
        have hall:([4].all fun u=>!Tryd.prog.wantsStandIn u)=true:=by kernel_rfl
        exact (show Tryd.prog.wantsStandIn t=false by simpa using List.all_eq_true.1 hall t hm)⟩)
    (by kernel_rfl)
end Go.Proofs.YtbheedkpbbmlcaaDoor.scriptManyFrame

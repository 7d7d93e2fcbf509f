/- 'easement/easementlaw42.ScriptBack' returns true for every input, and each argument zL afterwards as it read before: the row's frame round the walk. -/
import Derived.Test.YtbheedkpbbmlcaaGreatDoorZ6
import Derived.Test.YtbheedkpbbmlcaaGreatDoorCards
import Derived.Test.YtbheedkpbbmlcaaGreatDoorTie
import Derived.Lay
import Derived.SevenTiedAt
namespace Go.Proofs.YtbheedkpbbmlcaaGreatDoor
noncomputable section
set_option linter.unusedVariables false
set_option linter.unnecessarySimpa false
set_option linter.unusedSimpArgs false
set_option linter.unusedSectionVars false
set_option maxRecDepth 20000
section
open Go.RowKit Nu
abbrev qB:=Int×Int×List (Int×Int)×List (List St)×List St×List az×List aD×Int×Bool
def vh (a:Int):Int:=if a=0 then 0 else if a=1 then 1 else if a=2 then 2 else if a=4 then 4 else 3
def rst (p:PS):qB:=(p.1,p.2.1,p.2.2.1,p.2.2.2.1,p.2.2.2.2.1,p.2.2.2.2.2.1,p.2.2.2.2.2.2.1,vh p.2.2.2.2.2.2.2,decide (p.2.2.2.2.2.2.2=6))
def dh (ws:List Wd) (s:qB):Option (Int×qB) :=
 match s with
 | (u, n, B, L, R, S, X, got, op) =>
   cond op ((kW ws u n B L R S X got op).bind fun (i6695,i6696,l6697,l6698,l6699,l6700,l6701,i6702,t6703,i6704)=>some ((i6704,i6695,i6696,l6697,l6698,l6699,l6700,l6701,i6702,t6703)))
     ((cond (decide ((((ws.length:Nat):Int))=1)) ((aa ws 0).bind fun x6761=>some (decide (x6761=([98,108,111,99,107]:List UInt8)))) (some (false))).bind fun t6759=>cond (t6759&&(decide (got=3))) ((app X [([],(0,0,0,[],[],[]))]).bind fun z6778=>some ((0,u,n,B,L,R,S,z6778,got,true)))
       (cond (decide (0 < (((X.length:Nat):Int)))) (some ((3,u,n,B,L,R,S,X,got,op))) ((cq ws u n B L R S X got op).bind fun (i6815,i6816,l6817,l6818,l6819,l6820,l6821,i6822,t6823,i6824)=>some ((i6824,i6815,i6816,l6817,l6818,l6819,l6820,l6821,i6822,t6823)))))
def RD (w:Wd) (r:List Wd) (p:PS):Prop:=∃ s1,dh (w :: r) (rst p)=some ((mst w r p).1,s1)∧((mst w r p).1=0→s1=rst (mst w r p).2)
theorem RD.mk' {w:Wd} {r:List Wd} {p:PS} {e:Int} {q:PS} {s1:qB} (hm:mst w r p=(e,q)) (hz:dh (w :: r) (rst p)=some (e,s1)) (h:e=0→s1=rst q):RD w r p:=by
 unfold RD; rw [hm]; exact ⟨s1,hz,h⟩
theorem RD.bad {w:Wd} {r:List Wd} {p:PS} (h3:(mst w r p).1=3) (hz:∃ s1,dh (w :: r) (rst p)=some (3,s1)):RD w r p:=by
 obtain ⟨s1,hz⟩:=hz
 exact ⟨s1,by rw [h3]; exact hz,fun h=>by rw [h3] at h; cases h⟩
section
variable {w:Wd} {r:List Wd} {u n:Int} {B:List (Int×Int)} {L:List (List St)} {R:List St} {S:List az} {X:List aD} {a:Int}
theorem uV:(cond (decide (((((w :: r).length:Nat):Int))=1)) ((aa (w :: r) 0).bind fun x6761=>some (decide (x6761=([98,108,111,99,107]:List UInt8)))) (some (false)))=some (decide (r=[]∧w=aI)):=by
 cases r with
 | nil =>
   by_cases h:w=aI
   . subst h; rfl
   . rw [aG,Option.bind_some,show decide (w=([98,108,111,99,107]:List UInt8))=false from decide_eq_false h,decide_eq_false (show ¬ (([]:List Wd)=[]∧w=aI) from fun q=>h q.2)]; rfl
 | cons b l=>rw [decide_eq_false (by simp; omega),decide_eq_false (show ¬ ((b :: l)=[]∧w=aI) from fun q=>by cases q.1)]; rfl
theorem zpH {got:Int} (h:¬ (r=[]∧w=aI)∨got≠3) {u' n' g' e:Int} {B':List (Int×Int)} {L':List (List St)} {R':List St} {S':List az} {X':List aD} {o':Bool}
   (hh:cq (w :: r) u n B L R S [] got false=some (u',n',B',L',R',S',X',g',o',e)):dh (w :: r) (u,n,B,L,R,S,[],got,false)=some (e,u',n',B',L',R',S',X',g',o'):=by
 unfold dh
 have hc:(decide (r=[]∧w=aI)&&decide (got=3))=false:=by
   rcases h with h | h
   . rw [decide_eq_false h]; rfl
   . rw [decide_eq_false h,Bool.and_false]
 simp only [cond_false,uV,Option.bind_some,hc,hh]; rfl
theorem zpB (hr:r=[]∧w=aI) (hX:X.length≤1000000):dh (w :: r) (u,n,B,L,R,S,X,3,false)=some (0,u,n,B,L,R,S,X++[([],zT)],3,true):=by
 unfold dh
 have ha:app X [(([]:List cd),((0,0,0,[],[],[]):cy))]=some (X++[([],(0,0,0,[],[],[]))]):=aj (by simp; omega)
 simp only [cond_false,uV,Option.bind_some,decide_eq_true hr,decide_true,Bool.and_self,cond_true,ha]; rfl
variable (hw:∀ x∈r,x.length≤1000000) (hl:r.length≤900000)
include hw hl
theorem rd0:RD w r (u,n,B,L,R,S,[],0):=by
 have hrs:rst (u,n,B,L,R,S,[],0)=(u,n,B,L,R,S,[],0,false):=rfl
 by_cases h1:w=cR
 . subst h1
   have bad:∀ r:List Wd,r.length≠2→(mst cR r (u,n,B,L,R,S,[],0)).1=3→RD cR r (u,n,B,L,R,S,[],0):=fun r h1 h2=>by
     refine RD.bad h2 ⟨(u,n,B,L,R,S,[],0,false),?_⟩
     rw [hrs]
     refine zpH (.inr (by decide)) ?_
     unfold cq
     have e1:decide ((((cR :: r).length:Nat):Int)=3)=false:=decide_eq_false (by rw [List.length_cons]; omega)
     simp (decide:=true) only [aG,Option.bind_some,e1,decide_true,decide_false,Bool.and_false,Bool.false_and,cond_false]
   match r,hw,hl with
   | [x,y],hw,hl =>
     refine RD.mk' (e:=(rn y (rn x 0).2).2) rfl (by
       rw [hrs]
       refine zpH (.inr (by decide)) (u':=(rn x 0).1) (n':=(rn y (rn x 0).2).1) (B':=B) (L':=L) (R':=R) (S':=S) (X':=[]) (g':=1) (o':=false) ?_
       unfold cq
       have g1:aa [cR,x,y] 1=some x:=rfl
       have g2:aa [cR,x,y] 2=some y:=rfl
       simp (decide:=true) only [aG,Option.bind_some,decide_true,Bool.and_self,List.length_cons,List.length_nil,cond_true,g1,g2,dW x _ (hw x (by simp)),dW y _ (hw y (by simp))]) (fun _=>rfl)
   | [],_,_=>exact bad [] (by simp) rfl
   | [z],_,_=>exact bad [z] (by simp) rfl
   | a :: b :: c :: l,_,_=>exact bad (a :: b :: c :: l) (by simp) rfl
 . refine RD.bad (by unfold mst; simp only [if_true,if_neg h1]) ⟨(u,n,B,L,R,S,[],0,false),?_⟩
   rw [hrs]
   refine zpH (.inr (by decide)) ?_
   unfold cq
   have e1:decide (w=([114,101,103,105,111,110,115]:List UInt8))=false:=decide_eq_false h1
   simp (decide:=true) only [aG,Option.bind_some,e1,decide_true,decide_false,Bool.and_false,Bool.false_and,cond_false]
theorem rd1:RD w r (u,n,B,L,R,S,[],1):=by
 have hrs:rst (u,n,B,L,R,S,[],1)=(u,n,B,L,R,S,[],1,false):=rfl
 by_cases h1:w=c9
 . subst h1
   refine RD.mk' (e:=(rps r []).2) rfl (by
     rw [hrs]
     refine zpH (.inr (by decide)) (u':=u) (n':=n) (B':=(rps r []).1) (L':=L) (R':=R) (S':=S) (X':=[]) (g':=2) (o':=false) ?_
     unfold cq
     simp (decide:=true) only [aG,Option.bind_some,decide_true,decide_false,Bool.and_self,Bool.false_and,cond_true,cond_false,yb c9 r hw hl]) (fun _=>rfl)
 . refine RD.bad (by unfold mst; simp (decide:=true) only [if_true,if_false,if_neg h1]) ⟨(u,n,B,L,R,S,[],1,false),?_⟩
   rw [hrs]
   refine zpH (.inr (by decide)) ?_
   unfold cq
   have e1:decide (w=([98,111,117,110,100,115]:List UInt8))=false:=decide_eq_false h1
   simp (decide:=true) only [aG,Option.bind_some,e1,decide_true,decide_false,Bool.and_false,Bool.false_and,cond_false]
theorem rd2 (hL:L.length≤1000000):RD w r (u,n,B,L,R,S,[],2):=by
 have hrs:rst (u,n,B,L,R,S,[],2)=(u,n,B,L,R,S,[],2,false):=rfl
 by_cases h1:w=bF
 . subst h1
   have ha:∀ t:List St,app L [t]=some (L++[t]):=fun t=>aj (by simp; omega)
   have hz:∀ x:List St×Int,fw (bF :: r)=some x→dh (bF :: r) (rst (u,n,B,L,R,S,[],2))=some (x.2,u,n,B,L++[x.1],R,S,[],2,false):=fun x hx=>by
     rw [hrs]
     refine zpH (.inr (by decide)) ?_
     unfold cq
     simp (decide:=true) only [aG,Option.bind_some,decide_true,decide_false,Bool.and_self,Bool.false_and,Bool.and_false,cond_true,cond_false,hx,ha]
   have h1:=tS bF r hw
   match r,hw,hl,hz,h1 with
   | [x],hw,hl,hz,h1=>exact RD.mk' (e:=(pTy x).2) rfl (hz _ h1) (fun _=>rfl)
   | [],_,_,hz,h1=>exact RD.bad rfl ⟨_,hz _ h1⟩
   | a :: b :: l,_,_,hz,h1=>exact RD.bad rfl ⟨_,hz _ h1⟩
 by_cases h2:w=cG
 . subst h2
   have hz:∀ x:List St×Int,fw (cG :: r)=some x→dh (cG :: r) (rst (u,n,B,L,R,S,[],2))=some (x.2,u,n,B,L,x.1,S,[],3,false):=fun x hx=>by
     rw [hrs]
     refine zpH (.inr (by decide)) ?_
     unfold cq
     simp (decide:=true) only [aG,Option.bind_some,decide_true,decide_false,Bool.and_self,Bool.false_and,Bool.and_false,cond_true,cond_false,hx]
   have h1:=tS cG r hw
   match r,hw,hl,hz,h1 with
   | [x],hw,hl,hz,h1=>exact RD.mk' (e:=(pTy x).2) rfl (hz _ h1) (fun _=>rfl)
   | [],_,_,hz,h1=>exact RD.bad rfl ⟨_,hz _ h1⟩
   | a :: b :: l,_,_,hz,h1=>exact RD.bad rfl ⟨_,hz _ h1⟩
 . refine RD.bad (by unfold mst; simp (decide:=true) only [if_true,if_false,if_neg h1,if_neg h2]) ⟨(u,n,B,L,R,S,[],2,false),?_⟩
   rw [hrs]
   refine zpH (.inr (by decide)) ?_
   unfold cq
   have e1:decide (w=([108,111,99,97,108]:List UInt8))=false:=decide_eq_false h1
   have e2:decide (w=([103,105,118,101,115]:List UInt8))=false:=decide_eq_false h2
   simp (decide:=true) only [aG,Option.bind_some,e1,e2,decide_true,decide_false,Bool.and_false,Bool.false_and,cond_false]
theorem rd4 (hS:S≠[]) (hn:S.length≤1000000):RD w r (u,n,B,L,R,S,[],4):=by
 have hrs:rst (u,n,B,L,R,S,[],4)=(u,n,B,L,R,S,[],4,false):=rfl
 by_cases h1:w=cX
 . subst h1
   obtain ⟨S0,s,rfl⟩:=cK hS
   rw [List.length_append,List.length_singleton] at hn
   have hm:mst cX r (u,n,B,L,R,S0++[s],[],4)=((rps r []).2,(u,n,B,L,R,S0++[(s.1,(rps r []).1,s.2.2.1,s.2.2.2)],[],5)):=by
     unfold mst; simp (decide:=true) only [if_true,if_false,or_self,jp]
   refine RD.mk' hm (by
     rw [hrs]
     refine zpH (.inr (by decide)) (u':=u) (n':=n) (B':=B) (L':=L) (R':=R) (S':=S0++[(s.1,(rps r []).1,s.2.2.1,s.2.2.2)]) (X':=[]) (g':=3) (o':=false) ?_
     unfold cq
     simp (decide:=true) only [aG,Option.bind_some,decide_true,decide_false,Bool.and_self,Bool.false_and,Bool.and_false,cond_true,cond_false,yb cX r hw hl,dN S0 s (by omega),dO,dJ,Int.toNat_natCast,dL]) (fun _=>rfl)
 . refine RD.bad (by unfold mst; simp (decide:=true) only [if_true,if_false,if_neg h1,or_self]) ⟨(u,n,B,L,R,S,[],4,false),?_⟩
   rw [hrs]
   refine zpH (.inr (by decide)) ?_
   unfold cq
   have e1:decide (w=([110,101,101,100,115]:List UInt8))=false:=decide_eq_false h1
   simp (decide:=true) only [aG,Option.bind_some,e1,decide_true,decide_false,Bool.and_false,Bool.false_and,cond_false]
theorem Av (ha:a=3∧S=[]∨a=5∧S≠[]) (hn:S.length≤1000000) (hA:∀ s∈S,s.2.2.1.length≤1000000):RD w r (u,n,B,L,R,S,[],a):=by
 have hrs:rst (u,n,B,L,R,S,[],a)=(u,n,B,L,R,S,[],3,false):=by rcases ha with ⟨rfl,_⟩ | ⟨rfl,_⟩ <;> rfl
 have h35:a=3∨a=5:=by omega
 have n0:a≠0:=by omega
 have n1:a≠1:=by omega
 have n2:a≠2:=by omega
 by_cases h1:w=aY
 . subst h1
   have hnb:∀ r:List Wd,¬ (r=[]∧aY=aI):=fun r h=>absurd h.2 (by decide)
   have bad:∀ r:List Wd,r.length≠2→(mst aY r (u,n,B,L,R,S,[],a)).1=3→RD aY r (u,n,B,L,R,S,[],a):=fun r h1 h2=>by
     refine RD.bad h2 ⟨(u,n,B,L,R,S,[],3,false),?_⟩
     rw [hrs]
     refine zpH (.inl (hnb r)) ?_
     unfold cq
     have e1:decide ((((aY :: r).length:Nat):Int)=3)=false:=decide_eq_false (by rw [List.length_cons]; omega)
     simp (decide:=true) only [aG,Option.bind_some,e1,decide_true,decide_false,Bool.and_false,Bool.false_and,cond_false]
   match r,hw,hl with
   | [x, y], hw, hl =>
     have hm:mst aY [x,y] (u,n,B,L,R,S,[],a)=((rt y (rn x 0).2).2,(u,n,B,L,R,S++[((rn x 0).1,[],[],(rt y (rn x 0).2).1)],[],4)):=by rcases h35 with rfl | rfl <;> rfl
     have hap:∀ t,app S [((rn x 0).1,([]:List (Int×Int)),([]:List (List St)),t)]=some (S++[((rn x 0).1,[],[],t)]):=fun t=>aj (by simp; omega)
     have he:(rt y (rn x 0).2).2=(if (rn x 0).2=0 then (pTy y).2 else (rn x 0).2):=by unfold rt; split <;> rfl
     refine RD.mk' hm (s1:=(u,n,B,L,R,S++[((rn x 0).1,[],[],(pTy y).1)],[],4,false)) (by
       rw [hrs]
       refine zpH (.inl (hnb _)) ?_
       unfold cq
       have g1:aa [aY,x,y] 1=some x:=rfl
       have g2:aa [aY,x,y] 2=some y:=rfl
       simp (decide:=true) only [aG,Option.bind_some,decide_true,decide_false,Bool.and_self,Bool.false_and,Bool.and_false,List.length_cons,List.length_nil,cond_true,cond_false,g1,g2,dW x _ (hw x (by simp)),w8 y (hw y (by simp)),hap]
       rw [he]
       by_cases h0:(rn x 0).2=0
       . rw [decide_eq_true h0,if_pos h0]; rfl
       . rw [decide_eq_false h0,if_neg h0]; rfl) (fun h=>by
         rw [he] at h
         by_cases h0:(rn x 0).2=0
         . unfold rt; rw [if_pos h0]; rfl
         . rw [if_neg h0] at h; exact absurd h h0)
   | [],_,_=>exact bad [] (by simp) (by rcases h35 with rfl | rfl <;> rfl)
   | [z],_,_=>exact bad [z] (by simp) (by rcases h35 with rfl | rfl <;> rfl)
   | z :: z2 :: z3 :: l,_,_=>exact bad (z :: z2 :: z3 :: l) (by simp) (by rcases h35 with rfl | rfl <;> rfl)
 by_cases h2:w=aI
 . subst h2
   match r,hw,hl with
   | [],hw,hl =>
     have hm:mst aI [] (u,n,B,L,R,S,[],a)=(0,(u,n,B,L,R,S,[]++[([],zT)],6)):=by rcases h35 with rfl | rfl <;> rfl
     exact RD.mk' hm (by rw [hrs]; exact zpB ⟨rfl,rfl⟩ (by simp)) (fun _=>rfl)
   | z :: l,_,_ =>
     refine RD.bad (by rcases h35 with rfl | rfl <;> rfl) ⟨(u,n,B,L,R,S,[],3,false),?_⟩
     rw [hrs]
     refine zpH (.inl fun h=>by cases h.1) ?_
     unfold cq
     simp (decide:=true) only [aG,Option.bind_some,decide_true,decide_false,Bool.and_false,Bool.false_and,cond_false]
 have hnb:¬ (r=[]∧w=aI):=fun h=>h2 h.2
 have e1:decide (w=([115,105,103]:List UInt8))=false:=decide_eq_false h1
 have out:(mst w r (u,n,B,L,R,S,[],a)).1=3→(decide (w=([97,114,103]:List UInt8))=false∨S=[])→RD w r (u,n,B,L,R,S,[],a):=fun h3 h4=>by
   refine RD.bad h3 ⟨(u,n,B,L,R,S,[],3,false),?_⟩
   rw [hrs]
   refine zpH (.inl hnb) ?_
   unfold cq
   rcases h4 with h4 | rfl
   . simp (decide:=true) only [aG,Option.bind_some,e1,h4,decide_true,decide_false,Bool.and_false,Bool.false_and,cond_false]
   . have e2:decide ((0:Int)≤IntKind.wrap .i64 (((([]:List az).length:Nat):Int) - 1))=false:=by decide
     simp (decide:=true) only [aG,Option.bind_some,e1,e2,decide_true,decide_false,Bool.and_false,Bool.false_and,cond_false]
 by_cases h3:w=bN
 . rcases ha with ⟨rfl,hS⟩ | ⟨rfl,hS⟩
   . exact out (by unfold mst; simp (decide:=true) only [if_true,if_false,if_neg h1,if_neg h2,and_false,true_or]) (.inr hS)
   . subst h3
     obtain ⟨S0,s,rfl⟩:=cK hS
     rw [List.length_append,List.length_singleton] at hn
     have hs:=hA s (by simp)
     have ha:∀ t:List St,app s.2.2.1 [t]=some (s.2.2.1++[t]):=fun t=>aj (by simp; omega)
     have hz:∀ x:List St×Int,fw (bN :: r)=some x→dh (bN :: r) (rst (u,n,B,L,R,S0++[s],[],5))=some (x.2,u,n,B,L,R,S0++[(s.1,s.2.1,s.2.2.1++[x.1],s.2.2.2)],[],3,false):=fun x hx=>by
       rw [hrs]
       refine zpH (.inl hnb) ?_
       unfold cq
       have e4:decide ((0:Int)≤((S0.length:Nat):Int))=true:=decide_eq_true (by omega)
       simp (decide:=true) only [aG,Option.bind_some,decide_true,decide_false,Bool.and_self,Bool.false_and,Bool.and_false,cond_true,cond_false,dN S0 s (by omega),e4,hx,dO,dJ,ha,Int.toNat_natCast,dL,ir]
     have h1:=tS bN r hw
     have m3:∀ r:List Wd,mst bN r (u,n,B,L,R,S0++[s],[],5)=(match r with | [x]=>((pTy x).2,(u,n,B,L,R,S0++[(s.1,s.2.1,s.2.2.1++[(pTy x).1],s.2.2.2)],[],5)) | _=>(3,(u,n,B,L,R,S0++[s],[],5))):=fun r=>by
       unfold mst
       simp (decide:=true) only [if_true,if_false,or_true,and_true,jp]
       all_goals (cases r with
         | nil=>rfl
         | cons _ l=>cases l <;> rfl)
     match r,hw,hl,hz,h1 with
     | [x],hw,hl,hz,h1=>exact RD.mk' (m3 [x]) (hz _ h1) (fun _=>rfl)
     | [],_,_,hz,h1=>exact RD.bad (by rw [m3]) ⟨_,hz _ h1⟩
     | z :: z2 :: l,_,_,hz,h1=>exact RD.bad (by rw [m3]) ⟨_,hz _ h1⟩
 . refine out ?_ (.inl (decide_eq_false h3))
   unfold mst
   simp only [if_neg n0,if_neg n1,if_neg n2,if_pos h35,if_neg h1,if_neg h2,h3,false_and,if_false]
theorem rd7 (hX:X≠[]) (hn:X.length≤1000000):RD w r (u,n,B,L,R,S,X,7):=by
 have hrs:rst (u,n,B,L,R,S,X,7)=(u,n,B,L,R,S,X,3,false):=rfl
 by_cases h:r=[]∧w=aI
 . obtain ⟨rfl,rfl⟩:=h
   exact RD.mk' (e:=0) rfl (by rw [hrs]; exact zpB ⟨rfl,rfl⟩ hn) (fun _=>rfl)
 . refine RD.bad ?_ ⟨(u,n,B,L,R,S,X,3,false),?_⟩
   . unfold mst
     simp (decide:=true) only [if_true,if_false,or_self]
     by_cases h1:w=aI
     . rw [if_pos h1]
       cases r with
       | nil=>exact absurd ⟨rfl,h1⟩ h
       | cons a l=>rfl
     . rw [if_neg h1]
   . rw [hrs]
     unfold dh
     have hx:decide ((0:Int) < ((X.length:Nat):Int))=true:=decide_eq_true (by have:=List.length_pos_iff.2 hX; omega)
     simp only [cond_false,uV,Option.bind_some,decide_eq_false h,Bool.false_and,hx,cond_true]
theorem rd6 (hX:X≠[]) (hn:X.length≤1000000) (hB:∀ x∈X,x.1.length≤1000000):RD w r (u,n,B,L,R,S,X,6):=by
 have hrs:rst (u,n,B,L,R,S,X,6)=(u,n,B,L,R,S,X,3,true):=rfl
 obtain ⟨X0,b,rfl⟩:=cK hX
 rw [List.length_append,List.length_singleton] at hn
 have hb:=hB b (by simp)
 have h1:=FC w r hw hl
 cases hs:cj w r with
 | some q =>
   obtain ⟨s,e⟩:=q
   have hm:mst w r (u,n,B,L,R,S,X0++[b],6)=(e,(u,n,B,L,R,S,X0++[(b.1++[s],b.2)],6)):=by
     unfold mst
     simp (decide:=true) only [if_false,if_true,hs,jq]
   have ha:app b.1 [(s.1,s.2.1,s.2.2.1,s.2.2.2.1,s.2.2.2.2)]=some (b.1++[s]):=aj (by simp; omega)
   rw [hs] at h1
   refine RD.mk' hm (s1:=(u,n,B,L,R,S,X0++[(b.1++[s],b.2)],3,true)) ?_ (fun _=>rfl)
   rw [hrs]
   unfold dh kW
   simp only [cond_true,h1,Option.bind_some,dN X0 b (by omega),dO,dJ,ha,Int.toNat_natCast,dL,ir]
 | none =>
   obtain ⟨t,bb,h2,h3⟩:=FD w r hw hl
   have hm:mst w r (u,n,B,L,R,S,X0++[b],6)=((tmod w r).2,(u,n,B,L,R,S,X0++[(b.1,(tmod w r).1)],7)):=by
     unfold mst
     simp (decide:=true) only [if_false,if_true,hs,jq]
   rw [hs] at h1
   refine RD.mk' hm (s1:=(u,n,B,L,R,S,X0++[(b.1,t)],3,false)) ?_ (fun h=>by rw [h3 h]; rfl)
   rw [hrs]
   unfold dh kW
   simp only [cond_true,h1,Option.bind_some,cond_false,h2,dN X0 b (by omega),dO,dJ,Int.toNat_natCast,dL]
end
theorem Ho {w:Wd} {r:List Wd} {p:PS} {k:Nat} (hi:Iv p k) (hk:k≤950000) (hw:∀ x∈r,x.length≤1000000) (hl:r.length≤900000):RD w r p:=by
 obtain ⟨u,n,B,L,R,S,X,a⟩:=p
 obtain ⟨⟨a0,a1⟩,hs0,hx0,hs1,hx1,nb,nl,hloc,hret,ns,hsig,nx,hblk⟩:=hi
 dsimp only at *
 have ha:a=0∨a=1∨a=2∨a=3∨a=4∨a=5∨a=6∨a=7:=by omega
 have hB:∀ x∈X,x.1.length≤1000000:=fun x hx=>by have:=(hblk x hx).1; omega
 have hA:∀ s∈S,s.2.2.1.length≤1000000:=fun s hs=>by have:=(hsig s hs).2.1; omega
 by_cases h5:a≤5
 . obtain rfl:=hx0 h5
   rcases ha with rfl | rfl | rfl | rfl | rfl | rfl | rfl | rfl
   . exact rd0 hw hl
   . exact rd1 hw hl
   . exact rd2 hw hl (by omega)
   . exact Av hw hl (.inl ⟨rfl,hs0 (by omega)⟩) (by omega) hA
   . exact rd4 hw hl (hs1 (by omega)) (by omega)
   . exact Av hw hl (.inr ⟨rfl,hs1 (by omega)⟩) (by omega) hA
   . omega
   . omega
 . by_cases h6:a=6
   . subst h6; exact rd6 hw hl (hx1 (by omega)) (by omega) hB
   . obtain rfl:a=7:=by omega
     exact rd7 hw hl (hx1 (by omega)) (by omega)
theorem ue (w:Wd) (r:List Wd) (hz:w≠[]):(cond (decide (((((w :: r).length:Nat):Int))=0)) (some (true)) ((aa (w :: r) 0).bind fun x6434=>(aa x6434 0).bind fun x6441=>some (decide ((((x6441.toNat:Nat):Int))=35))))=some (bj (w :: r)):=by
 cases w with
 | nil=>exact absurd rfl hz
 | cons c w =>
   rw [decide_eq_false (by rw [List.length_cons]; omega),aG,Option.bind_some,aG]
   show some _=some _
   unfold bj
   by_cases h:c=35
   . subst h; rfl
   . have:=uM h
     simp only [List.head?_cons,Option.some.injEq,h,decide_false]
     exact decide_eq_false (show ¬ ((c.toNat:Nat):Int)=35 from this)
theorem Gl (ls:List Wd) (hls:ls.length≤950000) (hl:∀ l∈ls,l.length≤800000):∀ (m k:Nat) (p:PS),k + m=ls.length→Iv p k →
   ∃ o,loop (f6 ls) ((k:Int),rst p)=some o∧((∃ r,o = .inr r∧aL (ls.drop k) p k=r)∨∃ p',o = .inl (rst p')∧(0≤p'.2.2.2.2.2.2.2∧p'.2.2.2.2.2.2.2≤7)∧aL (ls.drop k) p k=eD p'):=by
 intro m
 induction m with
 | zero =>
   intro k p hk hi
   refine ⟨.inl (rst p),aB ?_,.inr ⟨p,rfl,hi.a0,?_⟩⟩
   . unfold f6 rst
     simp only [dge (show ¬ k < ls.length by omega),cond_false]
   . rw [List.drop_eq_nil_of_le (by omega)]; rfl
 | succ m ih =>
   intro k p hk hi
   have hk':k < ls.length:=by omega
   have hlk:=hl _ (List.getElem_mem hk')
   obtain ⟨w1,w2⟩:=tB hlk
   rw [List.drop_eq_getElem_cons hk']
   have hW:=pw ls[k] (by omega)
   have wk':IntKind.wrap .i64 ((k:Int) + 1)=((k + 1:Nat):Int):=an hk' (by omega)
   unfold aL
   by_cases hs:bj (wds ls[k])=true
   . rw [if_pos hs]
     have hb:f6 ls ((k:Int),rst p)=some (.inl (((k + 1:Nat):Int),rst p)):=by
       unfold f6 rst
       simp only [dlt hk',cond_true,ai hk',Option.bind_some,hW,wk']
       cases hwd:wds ls[k] with
       | nil=>rfl
       | cons w r =>
         have hne:w≠[]:=by
           have:w∈wds ls[k]:=by rw [hwd]; simp
           have:=(List.mem_filter.1 this).2
           simpa using this
         rw [hwd] at hs
         rw [ue w r hne,hs]; rfl
     rw [aQ hb]
     exact ih (k + 1) p (by omega) hi.up
   . rw [if_neg hs]
     obtain ⟨w,r,hwd⟩:=se hs
     have hne:w≠[]:=by
       have:w∈wds ls[k]:=by rw [hwd]; simp
       have:=(List.mem_filter.1 this).2
       simpa using this
     rw [hwd] at w1 w2 hs
     rw [List.length_cons] at w1
     obtain ⟨s1,h1,h2⟩:=Ho (w:=w) (r:=r) hi (by omega) (fun x hx=>by have:=w2 x (by simp [hx]); omega) (by omega)
     have hb:f6 ls ((k:Int),rst p)=some (if (mst w r p).1=0 then .inl (((k + 1:Nat):Int),s1) else .inr (.inr (0,0,[],[],[],[],[],((k + 1:Nat):Int),(mst w r p).1))):=by
       unfold f6
       have hz:dh (w :: r) (p.1,p.2.1,p.2.2.1,p.2.2.2.1,p.2.2.2.2.1,p.2.2.2.2.2.1,p.2.2.2.2.2.2.1,vh p.2.2.2.2.2.2.2,decide (p.2.2.2.2.2.2.2=6))=some ((mst w r p).1,s1):=h1
       unfold dh at hz
       unfold rst
       simp only [dlt hk',cond_true,ai hk',Option.bind_some,hW,wk',hwd]
       rw [ue w r hne,Bool.eq_false_iff.2 hs]
       simp only [Option.bind_some,cond_false]
       refine (congrArg (Option.bind · _) hz).trans ?_
       simp only [Option.bind_some]
       by_cases h0:(mst w r p).1=0
       . simp only [h0,decide_true,Bool.not_true,cond_false,if_true]
       . simp only [h0,decide_false,Bool.not_false,cond_true,if_false]
     rw [hwd]
     rw [show ke (w :: r) p=mst w r p from rfl]
     by_cases h0:(mst w r p).1=0
     . rw [if_pos h0] at hb
       rw [aQ hb,h2 h0]
       simp only [if_pos h0]
       exact ih (k + 1) _ (by omega) (hi.next (fun x hx=>by have:=w2 x (by simp [hx]); omega) (by omega) h0)
     . rw [if_neg h0] at hb
       simp only [if_neg h0]
       exact ⟨_,aB hb,.inl ⟨_,rfl,rfl⟩⟩
theorem D5 (s:Wd) (hn:s.length≤800000):ll s=some (aL (ak 10 s) (0,0,[],[],[],[],[],0) 0):=by
 unfold ll
 have hp:=du 10 s
 rw [decide_eq_false (by omega),cond_false,show eo s 10=_ from pP s 10 (by omega),Option.bind_some]
 obtain ⟨o,h1,h2⟩:=Gl (ak 10 s) (by omega) (jg 10 800000 s hn) (ak 10 s).length 0 (0,0,[],[],[],[],[],0) (by omega) Iv.zero
 rw [List.drop_zero] at h2
 rw [show loop (f6 (ak 10 s)) (0,0,0,[],[],[],[],[],0,false)=some o from h1]
 rcases h2 with ⟨r,rfl,h2⟩ | ⟨p,rfl,ha,h2⟩
 . rw [show aL (ak 10 s) (0,0,[],[],[],[],[],0) 0=r from h2]; rfl
 . rw [show aL (ak 10 s) (0,0,[],[],[],[],[],0) 0=eD p from h2]
   unfold rst eD vh
   generalize p.2.2.2.2.2.2.2=a at ha
   have h8:a=0∨a=1∨a=2∨a=3∨a=4∨a=5∨a=6∨a=7:=by omega
   rcases h8 with rfl | rfl | rfl | rfl | rfl | rfl | rfl | rfl <;> rfl
theorem s8:∀ (ls:List Wd) (p:PS) (k:Nat) (n:Int),Iv p k→k + ls.length≤950000→(∀ l∈ls,l.length≤800000)→Fin38 (bdy (aL ls p n))
 | [], p, k, n, hi, hk, _ => by
   unfold aL eD
   split
   . obtain ⟨_,_,_,_,_,nb,nl,hloc,hret,ns,hsig,nx,hblk⟩:=hi
     exact ⟨by show p.2.2.1.length≤_; omega,by show p.2.2.2.1.length≤_; simp at hk; omega,fun t ht=>by have:=hloc t ht; omega,by show p.2.2.2.2.1.length≤_; omega,by show p.2.2.2.2.2.1.length≤_; simp at hk; omega,fun s hs=>by
       obtain ⟨q1,q2,q3,q4⟩:=hsig s hs
       simp at hk
       exact ⟨by omega,by omega,fun t ht=>by have:=q3 t ht; omega,by omega⟩,by show p.2.2.2.2.2.2.1.length≤_; simp at hk; omega,fun x hx=>by
       obtain ⟨q1,q2,q3,q4⟩:=hblk x hx
       simp at hk
       exact ⟨by omega,by omega,by omega,by omega⟩⟩
   . exact ⟨by simp [bdy],by simp [bdy],by simp [bdy],by simp [bdy],by simp [bdy],by simp [bdy],by simp [bdy],by simp [bdy]⟩
 | l :: ls,p,k,n,hi,hk,hl=>by
   rw [List.length_cons] at hk
   have hls:=fun x hx=>hl x (List.mem_cons_of_mem l hx)
   obtain ⟨w1,w2⟩:=tB (hl l (by simp))
   unfold aL
   by_cases hs:bj (wds l)=true
   . rw [if_pos hs]; exact s8 ls p (k + 1) (n + 1) hi.up (by omega) hls
   . rw [if_neg hs]
     obtain ⟨w,r,e⟩:=se hs
     rw [e] at w1 w2 ⊢
     rw [List.length_cons] at w1
     rw [show ke (w :: r) p=mst w r p from rfl]
     by_cases h0:(mst w r p).1=0
     . rw [if_pos h0]
       exact s8 ls _ (k + 1) (n + 1) (hi.next (fun x hx=>by have:=w2 x (by simp [hx]); omega) (by omega) h0) (by omega) hls
     . rw [if_neg h0]
       exact ⟨by simp [bdy],by simp [bdy],by simp [bdy],by simp [bdy],by simp [bdy],by simp [bdy],by simp [bdy],by simp [bdy]⟩
end
section
open Go.RowKit Nu
section
variable {s:Wd} {ls:List Wd} (h:Lines s ls)
include h
omit h in
theorem Gz (l:Wd) (hl:l.length≤1000000):(f9 l).bind (fun l607=>(cond (decide ((((l607.length:Nat):Int))=1)) ((aa l607 0).bind fun x625=>some (decide (x625=([116,104,101,110]:List UInt8)))) (some (false)):Option Bool))=some (bO l):=by
 rw [pw l hl,Option.bind_some]
 unfold bO
 match wds l with
 | []=>rfl
 | [w] =>
   show some (decide (w=[116,104,101,110]))=some _
   refine congrArg some ?_
   by_cases h:w=[116,104,101,110]
   . subst h; rfl
   . rw [decide_eq_false h,decide_eq_false (fun e=>h (by injection e))]
 | a :: b :: r =>
   rw [decide_eq_false (by simp; omega),decide_eq_false (by simp)]; rfl
theorem C3:∀ (m k:Nat),k + m=ls.length→(∀ j,j < k→bO (ls[j]?.getD [])=false) →
   loop (iV ls) ((ls.take k).flatMap (·++[10]),(k:Int))=some (match ls.findIdx? bO with | some j => .inr ((ls.take j).flatMap (·++[10]),((j:Nat):Int),true) | none => .inl (ls.flatMap (·++[10]))):=by
 have hf:=h.flat
 intro m
 induction m with
 | zero =>
   intro k hk hj
   have:ls.findIdx? bO=none:=by
     rw [List.findIdx?_eq_none_iff]
     intro x hx
     obtain ⟨j,hj',rfl⟩:=List.getElem_of_mem hx
     have:=hj j (by omega); rw [List.getElem?_eq_getElem hj'] at this; exact this
   rw [this]
   refine aB ?_
   unfold iV
   simp only [dge (show ¬ k < ls.length by omega),cond_false]
   rw [List.take_of_length_le (by omega)]
 | succ m ih =>
   intro k hk hj
   have hk':k < ls.length:=by omega
   have hlk:=h.each _ (List.getElem_mem hk')
   have hT:=Gz ls[k] (by omega)
   have wk':IntKind.wrap .i64 ((k:Int) + 1)=((k + 1:Nat):Int):=an hk' (by have:=h.len; omega)
   cases ht:bO ls[k] with
   | true =>
     have hi:ls.findIdx? bO=some k:=by
       rw [List.findIdx?_eq_some_iff_getElem]
       refine ⟨hk',ht,fun j hjk=>?_⟩
       have:=hj j hjk; rw [List.getElem?_eq_getElem (by omega),Option.getD_some] at this; rw [this]; simp
     rw [hi]
     refine aB ?_
     unfold iV
     simp only [dlt hk',cond_true,ai hk',Option.bind_some]
     rw [← Option.bind_assoc,hT,ht]; rfl
   | false =>
     have ha:((ls.take (k + 1)).flatMap (·++[10])).length≤(ls.flatMap (·++[10])).length:=oL 10 ls (k + 1)
     rw [bq hk',List.flatMap_append,List.length_append] at ha
     simp only [List.flatMap_cons,List.flatMap_nil,List.append_nil,List.length_append,List.length_singleton] at ha
     rw [aQ (s':=((ls.take (k + 1)).flatMap (·++[10]),((k + 1:Nat):Int))) (by
       unfold iV
       simp only [dlt hk',cond_true,ai hk',Option.bind_some]
       rw [← Option.bind_assoc,hT,ht]
       simp only [Option.bind_some,cond_false,wk']
       rw [aj (by omega),Option.bind_some,aj (by rw [List.length_append,List.length_singleton]; omega),Option.bind_some,bq hk',List.flatMap_append]
       simp)]
     refine ih (k + 1) (by omega) (fun j hjk=>?_)
     by_cases e:j=k
     . subst e; rw [List.getElem?_eq_getElem hk']; exact ht
     . exact hj j (by omega)
theorem G0:oe ls=some (match ls.findIdx? bO with | some j=>((ls.take j).flatMap (·++[10]),((j:Nat):Int),true) | none=>(ls.flatMap (·++[10]),0,false)):=by
 unfold oe
 have:=C3 h ls.length 0 (by omega) (fun j hj=>by omega)
 rw [List.take_zero] at this
 rw [show loop (iV ls) ([],0)=_ from this]
 cases ls.findIdx? bO <;> rfl
theorem zx (k:Nat):ll ((ls.take k).flatMap (·++[10]))=some (aL (ls.take k) P0 0):=by
 have hf:=h.flat
 have ht:=oL 10 ls k
 rw [D5 _ (by omega),wW _ (fun l hl=>h.no l (List.mem_of_mem_take hl)),show ((0:Int),(0:Int),([]:List (Int×Int)),([]:List (List St)),([]:List St),([]:List az),([]:List aD),(0:Int))=P0 from rfl,oW]
theorem Dq (u n:Int) (B:List (Int×Int)):∀ (m k:Nat) (acc:List ba),k + m=ls.length→acc.length≤400 →
   loop (iP ls) ((k:Int),acc)=some (if (aH (ls.drop k) acc k).2.2=0 then .inl (aH (ls.drop k) acc k).1 else .inr (eR (aH (ls.drop k) acc k).2.1 (aH (ls.drop k) acc k).2.2)):=by
 intro m
 induction m with
 | zero =>
   intro k acc hk ha
   rw [List.drop_eq_nil_of_le (by omega)]
   refine aB ?_
   unfold iP
   simp only [dge (show ¬ k < ls.length by omega),cond_false]; rfl
 | succ m ih =>
   intro k acc hk ha
   have hk':k < ls.length:=by omega
   have hlk:=h.each _ (List.getElem_mem hk')
   rw [List.drop_eq_getElem_cons hk']
   have hW:=pw ls[k] (by omega)
   have wk':IntKind.wrap .i64 ((k:Int) + 1)=((k + 1:Nat):Int):=an hk' (by have:=h.len; omega)
   have hC:=vS (wds ls[k]) (fun x hx=>by have:=so hlk x hx; omega)
   unfold aH
   have hsk:(cond (decide (((((wds ls[k]).length:Nat):Int))=0)) (some (true)) ((aa (wds ls[k]) 0).bind fun x6434=>(aa x6434 0).bind fun x6441=>some (decide ((((x6441.toNat:Nat):Int))=35))))=some (bj (wds ls[k])):=by
     cases hwd:wds ls[k] with
     | nil=>rfl
     | cons w r =>
       have hne:w≠[]:=by
         have:w∈wds ls[k]:=by rw [hwd]; simp
         have:=(List.mem_filter.1 this).2
         simpa using this
       exact ue w r hne
   by_cases hs:bj (wds ls[k])=true
   . rw [if_pos hs,aQ (s':=(((k + 1:Nat):Int),acc)) (by
       unfold iP
       simp only [dlt hk',cond_true,ai hk',Option.bind_some,hW,wk']
       rw [hsk,hs]; rfl)]
     exact ih (k + 1) acc (by omega) ha
   . rw [if_neg hs]
     have hs':bj (wds ls[k])=false:=Bool.eq_false_iff.2 hs
     have hb:iP ls ((k:Int),acc)=some (if cD (wds ls[k]) acc=0 then .inl (((k + 1:Nat):Int),acc++[kh (bK (wds ls[k]))]) else .inr (.inr (eR ((k + 1:Nat):Int) (cD (wds ls[k]) acc)))):=by
       unfold iP
       simp only [dlt hk',cond_true,ai hk',Option.bind_some,hW,wk']
       rw [hsk,hs']
       simp only [Option.bind_some,cond_false,hC]
       have he:=Ct (wds ls[k]) acc ha
       rw [he]
       simp only [Option.bind_some]
       by_cases h0:cD (wds ls[k]) acc=0
       . rw [if_pos h0,decide_eq_true h0]
         simp only [Bool.not_true,cond_false]
         rw [aj (by rw [List.length_singleton]; omega)]; rfl
       . rw [if_neg h0,decide_eq_false h0]; rfl
     by_cases h0:cD (wds ls[k]) acc=0
     . rw [if_pos h0] at hb ⊢
       rw [aQ hb]
       have ha':(acc++[kh (bK (wds ls[k]))]).length≤400:=by
         have:=lY [ls[k]] acc 0 ha
         unfold aH at this
         rw [if_neg hs,if_pos h0] at this
         exact this
       exact ih (k + 1) _ (by omega) ha'
     . rw [if_neg h0] at hb ⊢
       rw [aB hb]
       simp [h0]
theorem D1 (hs:s.length≤790000):n7 s=some (eV ls):=by
 have hf:=h.flat; have hl:=h.len
 unfold n7
 rw [decide_eq_false (p:=(1048576:Int) < ((s.length:Nat):Int)) (by omega),cond_false,show eo s 10=_ from pP s 10 (by omega),← h.eq,Option.bind_some,G0 h,Option.bind_some]
 unfold eV
 cases hi:ls.findIdx? bO with
 | none =>
   have hh:=zx h ls.length
   rw [List.take_length] at hh
   dsimp only
   rw [hh,Option.bind_some]
   generalize aL ls P0 0=q
   obtain ⟨a1,a2,a3,a4,a5,a6,a7,a8,a9⟩:=q
   dsimp only
   by_cases h0:a9=0
   . rw [decide_eq_true h0,if_neg (by simp [h0])]; rfl
   . rw [decide_eq_false h0,if_pos h0]; rfl
 | some k =>
   obtain ⟨hk,_,_⟩:=List.findIdx?_eq_some_iff_getElem.1 hi
   dsimp only
   rw [zx h k,Option.bind_some]
   generalize aL (ls.take k) P0 0=q
   obtain ⟨a1,a2,a3,a4,a5,a6,a7,a8,a9⟩:=q
   dsimp only
   by_cases h0:a9=0
   . rw [decide_eq_true h0,if_neg (by simp [h0])]
     have w:IntKind.wrap .i64 (((k:Nat):Int) + 1)=((k + 1:Nat):Int):=an hk (by omega)
     simp only [Bool.not_true,cond_false,w]
     rw [Dq h 0 0 [] (ls.length - (k + 1)) (k + 1) [] (by omega) (by simp),Option.bind_some]
     rw [show ((k + 1:Nat):Int)=((k:Nat):Int) + 1 by omega]
     generalize aH (ls.drop (k + 1)) [] (((k:Nat):Int) + 1)=q
     by_cases hq:q.2.2=0
     . rw [if_pos hq,if_neg (by simp [hq])]
     . rw [if_neg hq,if_pos hq]
   . rw [decide_eq_false h0,if_pos h0]; rfl
end
end
section
open Go.RowKit Nu
def zD (r:R42):bp:=(r.1,r.2.1,r.2.2.1,r.2.2.2.1,r.2.2.2.2.1,r.2.2.2.2.2.1,r.2.2.2.2.2.2.1)
theorem Fin38.zero:Fin38 (0,0,[],[],[],[],[]):=⟨by simp,by simp,by simp,by simp,by simp,by simp,by simp,by simp⟩
theorem Fd {s:Wd} {ls:List Wd} (h:Lines s ls):Fin38 (zD (eV ls))∧(eV ls).2.2.2.2.2.2.2.1.length≤400:=by
 have hz:∀ n e,Fin38 (zD (eR n e))∧(eR n e).2.2.2.2.2.2.2.1.length≤400:=fun n e=>⟨Fin38.zero,by simp [eR]⟩
 unfold eV
 cases hi:ls.findIdx? bO with
 | none =>
   dsimp only
   split
   . exact hz _ _
   . exact hz _ _
 | some k =>
   dsimp only
   split
   . exact hz _ _
   . split
     . exact hz _ _
     . refine ⟨?_,lY _ [] _ (by simp)⟩
       have:=h.len
       exact s8 (ls.take k) P0 0 0 Iv.zero (by rw [List.length_take]; omega) (h.take_each k)
theorem FH (b:bp) (l:List ba) (hl:l.length≤1000000):oq (b,l)=some (b.1,b.2.1,b.2.2.1,b.2.2.2.1,b.2.2.2.2.1,b.2.2.2.2.2.1,b.2.2.2.2.2.2,l):=by
 unfold oq
 have h:=cg (body:=kS (b,l)) (fun j:Nat=>((j:Int),l.take j)) l.length (b:=l) (fun k hk=>by
   unfold kS
   simp only [dlt hk,cond_true,ai hk,Option.bind_some,an hk (by omega)]
   rw [aj (by rw [List.length_take,List.length_singleton]; omega),Option.bind_some,bq hk]) (by
   unfold kS
   simp only [dge (show ¬ l.length < l.length by omega),cond_false,List.take_length])
 rw [show loop (kS (b,l)) (0,[])=some l from h]; rfl
theorem yS (b:bp) (l:List ba) (hb:Fin38 b) (hl:l.length≤1000000):jc (b,l) (b,l)=some true:=by
 unfold jc
 have h:=cg (body:=kK (b,l) (b,l)) (fun j:Nat=>(j:Int)) l.length (b := .inl ()) (fun k hk=>by
   unfold kK
   simp only [dlt hk,cond_true,ai hk,Option.bind_some,an hk (by omega),decide_true,Bool.and_self,Bool.not_true,cond_false]) (by
   unfold kK
   simp only [dge (show ¬ l.length < l.length by omega),cond_false])
 rw [show lC b b=some true from DA b hb,Option.bind_some]
 rw [gN rfl]
 simp only [Bool.not_true,Bool.or_self,cond_false]
 rw [show loop (kK (b,l) (b,l)) 0=some (.inl ()) from h]; rfl
end
open Go.RowKit
abbrev Nd:=Int×Int×Int×Int×Bool
def mW (kind f:Int) (x y:St):List Nd:=(x.1,y.1,kind,f,false) :: if y.2 then [(y.1,x.1,kind,f,true)] else []
def rel (kind f:Int):List St→List St→List Nd
 | x :: xs,y :: ys=>mW kind f x y++rel kind (f + 1) xs ys
 | _,_=>[]
theorem xw (kind:Int) (x y:St):∀ (xs ys:List St) (f:Int),xs.length=ys.length→rel kind f (xs++[x]) (ys++[y])=rel kind f xs ys++mW kind (f + xs.length) x y
 | [],[],f,_=>by simp [rel]
 | [],_ :: _,f,h=>by simp at h
 | _ :: _,[],f,h=>by simp at h
 | a :: xs,b :: ys,f,h=>by
   simp only [List.cons_append,rel,xw kind x y xs ys (f + 1) (by simpa using h),List.append_assoc,List.length_cons]
   rw [show f + 1 + (xs.length:Int)=f + ((xs.length + 1:Nat):Int) by omega]
theorem ph (kind:Int) (xs ys:List St) (f:Int):(rel kind f xs ys).length≤2 * xs.length:=by
 induction xs generalizing ys f with
 | nil=>simp [rel]
 | cons a xs ih=>cases ys with
   | nil=>simp [rel]
   | cons b ys =>
     have:=ih ys (f + 1)
     cases hb:b.2 <;> simp [rel,mW,hb] <;> omega
theorem r4 (xa xb:List St) (kind f:Int) (hl:xa.length=xb.length) (hn:xa.length≤30) (hf : -9223372036854775808≤f) (hf2:f≤1099511627776) (c:List Nd) (hc:c.length≤10) :
   iN xa xb kind f c=some (c++rel kind f xa xb):=by
 unfold iN
 have h:=gg (body:=nv xa xb kind f) xa (fun k=>c++rel kind f (xa.take k) (xb.take k)) (c++rel kind f xa xb) ?_ ?_
 . simp only [List.take_zero,rel,List.append_nil] at h
   rw [h]; rfl
 . intro k h
   have h2:k < xb.length:=by omega
   have hlen:=ph kind (xa.take k) (xb.take k) f
   simp only [List.length_take] at hlen
   have hw:IntKind.wrap .i64 (f + (k:Int))=f + k:=w64 (by omega) (by omega)
   unfold nv
   rw [bq h,bq h2,xw _ _ _ _ _ _ (by simp; omega)]
   have e:(xa.take k).length=k:=by simp; omega
   rw [e]
   cases hb:xb[k].2 with
   | true =>
     simp [ai h,ai h2,h,hb,an h (by omega),hw,mW]
     rw [aj (by simp; omega)]
     simp
     rw [aj (by simp; omega)]
     simp
   | false =>
     simp [ai h,ai h2,h,hb,an h (by omega),hw,mW]
     rw [aj (by simp; omega)]
     simp
 . have e:xb.take xa.length=xb:=by rw [hl,List.take_length]
   simp [nv,e]
theorem lM (xa xb:List St) (kind f:Int) (hn:xa.length≤30) (hf : -9223372036854775808≤f) (hf2:f≤1099511627776):hY xa xb kind f=some (if shp xa xb then (rel kind f xa xb,0) else ([],8)):=by
 unfold hY
 rw [lL _ _ (by omega),Option.bind_some]
 cases hs:shp xa xb with
 | false=>rfl
 | true=>rw [Bool.not_true,cond_false,r4 xa xb kind f (sF hs) hn hf hf2 [] (by simp)]; simp
def lo (n:Int) (m:Bool) (xa xb:List St):List Nd×Int :=
 if shp ((n,false) :: xa.map fun x=>(x.1,x.2||m)) xb then ((n,(xb.head?.getD (0,false)).1,2,0,false) :: rel 1 1 xa (xb.drop 1),0) else ([],8)
theorem FQ {n:Int} {m:Bool} {xa xb:List St} (h:shp ((n,false) :: xa.map fun x=>(x.1,x.2||m)) xb=true):xb.length=xa.length + 1:=by
 have:=sF h; simp at this; omega
theorem Cb (xa xb:List St) (n:Int) (m:Bool) (hn:xa.length≤30):oc xa xb n m=some (lo n m xa xb):=by
 unfold oc lo
 rw [Cz _ _ _ (by omega),Option.bind_some,lL _ _ (by simp; omega),Option.bind_some]
 cases hs:shp ((n,false) :: xa.map fun x=>(x.1,x.2||m)) xb with
 | false=>rfl
 | true =>
   have hl:=FQ hs
   cases xb with
   | nil=>simp at hl
   | cons y ys =>
     have hl2:xa.length=ys.length:=by simpa using hl.symm
     rw [Bool.not_true,cond_false,show aa (y :: ys) 0=some y from rfl,Option.bind_some,jY (by simp),Option.bind_some,r4 _ _ _ _ (by simpa using hl2) hn (by omega) (by omega) _ (by simp)]
     simp
def ag (n:Int) (m:Bool) (xa xb:List St):List Nd×Int :=
 match xa,xb with
 | x :: xs,y :: ys=>if x.2||!shp (x :: xs) (y :: ys)||(m&&xs.any (fun z=>!z.2)) then ([],8) else ((x.1,n,3,0,false) :: (n,y.1,2,0,false) :: rel 1 1 xs ys,0)
 | _,_=>([],8)
theorem BO (xa xb:List St) (n:Int) (m:Bool) (hn:xa.length≤30):n6 xa xb n m=some (ag n m xa xb):=by
 unfold n6
 cases xa with
 | nil=>rfl
 | cons x xs =>
   have e0:decide ((((x :: xs).length:Nat):Int)=0)=false:=by simp; omega
   rw [e0,cond_false,lL _ _ (by omega),Option.bind_some,Option.bind_some]
   cases hs:shp (x :: xs) xb with
   | false=>cases xb <;> simp [ag,hs]
   | true =>
     have hl:=sF hs
     cases xb with
     | nil=>simp at hl
     | cons y ys =>
       have hl2:xs.length=ys.length:=by simpa using hl
       simp only [Bool.not_true,cond_false,show aa (x :: xs) 0=some x from rfl,show aa (y :: ys) 0=some y from rfl,Option.bind_some]
       cases hx:x.2 with
       | true=>simp [ag,hx]
       | false =>
         have hn':xs.length≤29:=by simp at hn; omega
         have hloop:loop (iS (x :: xs) m) 1=some (if (m&&xs.any (fun z=>!z.2)) then .inr ([],8) else .inl ()):=by
           have:=DN (body:=iS (x :: xs) m) (fun k=>(m&&(xs[k]?.any (fun z=>!z.2)))=true) (fun k=>((k + 1:Nat):Int)) xs.length (.inr ([],8)) (.inl ()) ?_ ?_ ?_
           . rw [show ((1:Int))=((0 + 1:Nat):Int) from rfl,this]
             congr 1
             by_cases hq:(m&&xs.any (fun z=>!z.2))=true
             . rw [if_pos hq,if_pos]
               simp only [Bool.and_eq_true] at hq
               obtain ⟨z,hz,hz2⟩:=List.any_eq_true.1 hq.2
               obtain ⟨k,hk,rfl⟩:=List.getElem_of_mem hz
               exact ⟨k,hk,by simp [hq.1,hk]; simpa using hz2⟩
             . rw [if_neg hq,if_neg]
               rintro ⟨k,hk,hk2⟩
               apply hq
               simp [hk] at hk2
               rw [hk2.1,Bool.true_and]
               exact List.any_eq_true.2 ⟨_,List.getElem_mem hk,by simpa using hk2.2⟩
           . intro k hk hp
             have h2:k + 1 < (x :: xs).length:=by simp; omega
             simp [hk] at hp
             unfold iS
             rw [dlt h2,cond_true,an h2 (by simp; omega)]
             cases m with
             | false=>simp
             | true=>simp [zU h2,hp rfl]
           . intro k hk hp
             have h2:k + 1 < (x :: xs).length:=by simp; omega
             simp [hk] at hp
             unfold iS
             rw [dlt h2,cond_true]
             simp [zU h2,hp.1,hp.2]
           . simp [iS]
         rw [hloop]
         by_cases hq:(m&&xs.any (fun z=>!z.2))=true
         . simp [ag,hx,hs,hq]
         . have hq':(m&&xs.any (fun z=>!z.2))=false:=by simpa using hq
           rw [hq']
           simp only [cond_false,Option.bind_some,if_false,jY (show 1≤(x :: xs).length by simp),jY (show 1≤(y :: ys).length by simp),List.drop_succ_cons,List.drop_zero,Bool.false_eq_true]
           rw [r4 _ _ _ _ hl2 (by omega) (by omega) (by omega) _ (by simp)]
           simp [ag,hx,hs,hq']
abbrev Sg:=Int×List (Int×Int)×List (List St)×List St
def cS (n:Int) (b:Int×Int):Bool:=(((decide (b.1 < 0))||(decide (n≤b.1)))||(decide (b.2 < 0)))||(decide (n≤b.2))
def lc (n:Int) (A:List (List St)):Unit⊕Int:=match A.findIdx? (fun t=>!decide (rck n t=0)) with | some k => .inr (rck n (A.getD k [])) | none => .inl ()
def chk (s:Sg):Int :=
 if s.1 < 0 then 7 else if 16 < s.1∨16 < s.2.1.length∨16 < s.2.2.1.length then 6 else if s.2.1.any (cS s.1) then 7
 else match lc s.1 s.2.2.1 with | .inr e=>e | .inl ()=>rck s.1 s.2.2.2
theorem E3 (a:Int) (b c:Nat):(((decide (16 < a))||(decide (16 < ((b:Nat):Int))))||(decide (16 < ((c:Nat):Int))))=decide (16 < a∨16 < b∨16 < c):=by
 by_cases h1:16 < a <;> by_cases h2:16 < b <;> by_cases h3:16 < c <;> simp [h1,h2,h3] <;> omega
theorem Gw {n:Int} {A:List (List St)} {body:Int→Option (Int⊕(Unit⊕Int))} (hn:A.length≤1000) (hb:∀ (k:Nat) (h:k < A.length),body (k:Int)=cond (!decide (rck n A[k]=0)) (some (.inr (.inr (rck n A[k])))) (some (.inl (IntKind.wrap .i64 ((k:Int) + 1))))) (he:body (A.length:Int)=some (.inr (.inl ()))):loop body 0=some (lc n A):=by
 rw [dq A (fun t=>!decide (rck n t=0)) (fun k => .inr (rck n (A.getD k []))) (.inl ()) ?_ he]
 . rfl
 . intro k hk
   rw [hb k hk,an hk (by omega:A.length≤9223372036854775807)]
   have:A.getD k []=A[k]:=by simp [List.getD,hk]
   rw [this]
   cases (!decide (rck n A[k]=0)) <;> rfl
theorem vG (s:Sg):hI s=some (chk s):=by
 obtain ⟨n,B,A,R⟩:=s
 unfold hI chk
 dsimp only at *
 by_cases h0:n < 0
 . rw [decide_eq_true h0,if_pos h0]; rfl
 . rw [decide_eq_false h0,if_neg h0,cond_false,E3]
   by_cases h1:16 < n∨16 < B.length∨16 < A.length
   . rw [decide_eq_true h1,if_pos h1]; rfl
   . rw [decide_eq_false h1,if_neg h1,cond_false]
     rw [lW (body:=nP (n,B,A,R)) B (cS n) (.inr 7) (.inl ()) ?_ ?_]
     . cases hb:B.any (cS n) with
       | true=>rfl
       | false =>
         simp only [Bool.false_eq_true,if_false,Option.bind_some]
         rw [Gw (body:=nN (n,B,A,R)) (n:=n) (A:=A) (by omega) ?_ ?_]
         . rw [oy R n]
           simp only [Option.bind_some]
           cases lc n A <;> rfl
         . intro k hk
           unfold nN
           simp only [dlt hk,cond_true,ai hk,Option.bind_some]
           rw [oy _ _,Option.bind_some]
         . simp [nN]
     . intro k hk
       unfold nP
       simp only [dlt hk,cond_true,ai hk,Option.bind_some,an hk (by omega:B.length≤9223372036854775807)]
       generalize B[k]=b
       show cond (cS n b) _ _=_
       cases cS n b <;> rfl
     . simp [nP]
theorem lZ {n:Int} {t:List St} (h:rck n t=0):t.length≤16∧rin n t=false:=by
 unfold rck at h
 by_cases q:16 < t.length
 . rw [if_pos q] at h; cases h
 . rw [if_neg q] at h
   cases hr:rin n t with
   | true=>rw [hr] at h; cases h
   | false=>exact ⟨by omega,rfl⟩
theorem xE {s:Sg} (h:chk s=0):0≤s.1∧s.1≤16∧s.2.1.length≤16∧s.2.2.1.length≤16∧(∀ b∈s.2.1,cS s.1 b=false)∧(∀ t∈s.2.2.1,t.length≤16∧rin s.1 t=false)∧s.2.2.2.length≤16∧rin s.1 s.2.2.2=false:=by
 unfold chk at h
 by_cases h0:s.1 < 0
 . rw [if_pos h0] at h; cases h
 . rw [if_neg h0] at h
   by_cases h1:16 < s.1∨16 < s.2.1.length∨16 < s.2.2.1.length
   . rw [if_pos h1] at h; cases h
   . rw [if_neg h1] at h
     cases hb:s.2.1.any (cS s.1) with
     | true=>rw [hb] at h; cases h
     | false =>
       rw [hb] at h
       simp only [Bool.false_eq_true,if_false] at h
       unfold lc at h
       cases hf:s.2.2.1.findIdx? (fun t=>!decide (rck s.1 t=0)) with
       | some k =>
         rw [hf] at h
         obtain ⟨hk,h2,_⟩:=List.findIdx?_eq_some_iff_getElem.1 hf
         have:s.2.2.1.getD k []=s.2.2.1[k]:=by simp [List.getD,hk]
         simp only [this] at h
         simp [h] at h2
       | none =>
         rw [hf] at h
         have hz:=List.findIdx?_eq_none_iff.1 hf
         refine ⟨by omega,by omega,by omega,by omega,fun b hb2=>?_,fun t ht=>lZ (by simpa using hz t ht),(lZ h).1,(lZ h).2⟩
         have:=List.any_eq_false.1 hb b hb2
         simpa using this
theorem sX (names:List Int) (xs ys:List St):shp xs (ys.map (sbs names))=shp xs ys:=by
 unfold shp; rw [List.map_map]; rfl
theorem DH (names:List Int) (xs ys:List St):shp (xs.map (sbs names)) ys=shp xs ys:=by
 rw [oY,sX,oY]
def mis (A C:List (List St)) (k:Nat):Bool:=!shp (C.getD k []) (A.getD k [])
def fl (names:List Int) (A C:List (List St)) (j:Nat):List Nd:=rel 5 (16 * (j:Int)) (C.getD j []) ((A.getD j []).map (sbs names))
def fls (names:List Int) (A C:List (List St)):Nat→List Nd
 | 0=>[]
 | k + 1=>fls names A C k++fl names A C k
theorem tG (names:List Int) (A C:List (List St)) (hc:∀ t∈C,t.length≤20):∀ k,(fls names A C k).length≤40 * k
 | 0=>by simp [fls]
 | k + 1=>by
   have ih:=tG names A C hc k
   have h1:=ph 5 (C.getD k []) ((A.getD k []).map (sbs names)) (16 * (k:Int))
   have h2:(C.getD k []).length≤20:=by
     by_cases h:k < C.length
     . have:C.getD k []=C[k]:=by simp [List.getD,h]
       rw [this]; exact hc _ (List.getElem_mem h)
     . have:C.getD k []=[]:=by simp [List.getD,List.getElem?_eq_none (Nat.not_lt.1 h)]
       rw [this]; simp
   simp only [fls,List.length_append,fl]
   omega
def bds (names:List Int) (B:List (Int×Int)):Nat→List Nd
 | 0=>[]
 | k + 1=>bds names B k++[(names.getD (B.getD k (0,0)).1.toNat 0,names.getD (B.getD k (0,0)).2.toNat 0,4,(k:Int),false)]
theorem ta (names:List Int) (B:List (Int×Int)):∀ k,(bds names B k).length=k
 | 0=>rfl
 | k + 1=>by simp [bds,ta names B k]
def csp (s:Sg) (names:List Int) (C:List (List St)) (D:List St):List Nd×Int :=
 if chk s≠0 then ([],chk s)
 else if ¬ (names.length:Int)=s.1∨¬ C.length=s.2.2.1.length then ([],2)
 else if (List.range s.2.2.1.length).any (mis s.2.2.1 C) then ([],8)
 else if shp D s.2.2.2 then (bds names s.2.1 s.2.1.length++fls names s.2.2.1 C s.2.2.1.length++rel 6 0 (s.2.2.2.map (sbs names)) D,0) else ([],8)
theorem BT {names:List Int} {n:Int} {B:List (Int×Int)} {body:(List Nd×Int)→Option ((List Nd×Int)⊕List Nd)} (hB:B.length≤16) (hn:(names.length:Int)=n) (hb:∀ b∈B,cS n b=false)
   (hgo:∀ (l:List Nd) (k:Nat) (h:k < B.length),body (l,(k:Int))=((aa names B[k].1).bind fun x=>(aa names B[k].2).bind fun y=>(app l [(x,y,4,(k:Int),false)]).bind fun z=>some (.inl (z,IntKind.wrap .i64 ((k:Int) + 1))))) (he:∀ l,body (l,(B.length:Int))=some (.inr l)) :
   loop body ([],0)=some (bds names B B.length):=by
 refine cg (body:=body) (fun k=>(bds names B k,(k:Int))) B.length ?_ (he _)
 intro k hk
 have h1:=hb B[k] (List.getElem_mem hk)
 have e:B.getD k (0,0)=B[k]:=by simp [List.getD,hk]
 unfold cS at h1
 simp at h1
 rw [hgo _ k hk,tj (by omega) (by omega),Option.bind_some,tj (by omega) (by omega),Option.bind_some,aj (by simp [ta]; omega),Option.bind_some,an hk (by omega)]
 simp only [bds,e]
theorem sY {names:List Int} {n:Int} {t:List St} (hn:(names.length:Int)=n) (h:rin n t=false):rin names.length t=false:=by rw [hn]; exact h
theorem Cc (s:Sg) (names:List Int) (C:List (List St)) (D:List St) (hr:s.2.2.2.length≤20) (ha:∀ t∈s.2.2.1,t.length≤20) (hC:∀ t∈C,t.length≤20) (hD:D.length≤20) :
   lx s names C D=some (csp s names C D):=by
 unfold lx csp
 rw [show hI (s.1,s.2.1,s.2.2.1,s.2.2.2)=some (chk s) from vG s]
 obtain ⟨n,B,A,R⟩:=s
 dsimp only at *
 by_cases h0:chk (n,B,A,R)=0
 . obtain ⟨n0,n1,hB,hA,hb,hat,hR,hrin⟩:=xE h0
   dsimp only at n0 n1 hB hA hb hat hR hrin
   simp only [h0,Option.bind_some,decide_true,Bool.not_true,cond_false,ne_eq,not_true_eq_false,if_false]
   by_cases h1:¬ (names.length:Int)=n∨¬ C.length=A.length
   . have:((!decide ((((names.length:Nat):Int))=n))||(!decide ((((C.length:Nat):Int))=(((A.length:Nat):Int)))))=true:=by simp; omega
     rw [this,if_pos h1]; rfl
   . have:((!decide ((((names.length:Nat):Int))=n))||(!decide ((((C.length:Nat):Int))=(((A.length:Nat):Int)))))=false:=by simp; omega
     rw [this,if_neg h1,cond_false]
     have hn:(names.length:Int)=n:=by omega
     have hl:C.length=A.length:=by omega
     rw [BT (body:=nQ (n,B,A,R) names) hB hn hb ?_ ?_]
     . simp only [Option.bind_some]
       have q2:=ta names B B.length
       have hfl:=gh (body:=kO (n,B,A,R) names C) (fun k=>mis A C k=true) (fun k=>(bds names B B.length++fls names A C k,(k:Int))) A.length (fun _ => .inr ([],8)) (.inl (bds names B B.length++fls names A C A.length)) ?_ ?_ ?_
       . have e0:(bds names B B.length,(0:Int))=(bds names B B.length++fls names A C 0,((0:Nat):Int)):=by simp [fls]
         rw [e0]
         rcases hfl with ⟨k,k1,k2,_,k3⟩ | ⟨k1,k3⟩
         . have:(List.range A.length).any (mis A C)=true:=List.any_eq_true.2 ⟨k,List.mem_range.2 k1,k2⟩
           rw [k3,this]; rfl
         . have:(List.range A.length).any (mis A C)=false:=by
             rw [List.any_eq_false]; intro k hk; exact k1 k (List.mem_range.1 hk)
           rw [k3,this]
           have q1:=tG names A C hC A.length
           have q3:=ph 6 (R.map (sbs names)) D 0
           rw [List.length_map] at q3
           simp only [Option.bind_some,Bool.false_eq_true,if_false]
           rw [rQ R names (by omega),sY hn hrin]
           simp only [Bool.false_eq_true,if_false,Option.bind_some]
           rw [lM _ _ _ _ (by simp; omega) (by omega) (by omega),DH,oY]
           cases hs:shp D R with
           | false=>rfl
           | true =>
             simp only [if_true,Option.bind_some,decide_true,Bool.not_true,cond_false]
             rw [aj (by simp only [List.length_append]; omega)]
             rfl
       . intro k hk hp
         have hkC:k < C.length:=by omega
         have ht:=hat A[k] (List.getElem_mem hk)
         have hc:=hC C[k] (List.getElem_mem hkC)
         have e1:A.getD k []=A[k]:=by simp [List.getD,hk]
         have e2:C.getD k []=C[k]:=by simp [List.getD,hkC]
         have hsh:shp C[k] A[k]=true:=by
           unfold mis at hp
           rw [e1,e2] at hp
           simpa using hp
         have q1:=tG names A C hC k
         have q3:=ph 5 C[k] (A[k].map (sbs names)) (16 * (k:Int))
         unfold kO
         simp only [dlt hk,cond_true,ai hk,Option.bind_some]
         rw [rQ _ names (by omega),sY hn ht.2]
         simp only [Bool.false_eq_true,if_false,Option.bind_some,ai hkC]
         rw [w64 (x:=16 * (k:Int)) (by omega) (by omega),lM _ _ _ _ (by omega) (by omega) (by omega),sX,hsh]
         simp only [if_true,Option.bind_some,decide_true,Bool.not_true,cond_false]
         rw [aj (by simp only [List.length_append]; omega),Option.bind_some,an hk (by omega)]
         simp only [fls,fl,e1,e2,List.append_assoc]
       . intro k hk hp
         have hkC:k < C.length:=by omega
         have ht:=hat A[k] (List.getElem_mem hk)
         have hc:=hC C[k] (List.getElem_mem hkC)
         have e1:A.getD k []=A[k]:=by simp [List.getD,hk]
         have e2:C.getD k []=C[k]:=by simp [List.getD,hkC]
         have hsh:shp C[k] A[k]=false:=by
           unfold mis at hp
           rw [e1,e2] at hp
           simpa using hp
         unfold kO
         simp only [dlt hk,cond_true,ai hk,Option.bind_some]
         rw [rQ _ names (by omega),sY hn ht.2]
         simp only [Bool.false_eq_true,if_false,Option.bind_some,ai hkC]
         rw [w64 (x:=16 * (k:Int)) (by omega) (by omega),lM _ _ _ _ (by omega) (by omega) (by omega),sX,hsh]
         rfl
       . simp [kO]
     . intro l k hk
       unfold nQ
       simp only [dlt hk,cond_true,ai hk,Option.bind_some]
     . intro l; simp [nQ]
 . simp [h0]
abbrev Stm:=Int×Int×Int×Int×Bool
def fT (k:Int):Bool:=(((decide (k=1))||(decide (k=2)))||(decide (k=3)))||(decide (k=5))
def fV (k:Int):Bool:=(decide (1≤k))&&(decide (k≤4))
def gO (k:Int):Bool:=(decide (k=2))||(decide (k=3))
def fOk (x:Stm):Bool:=decide (0≤x.1)&&decide (x.1≤5)&&(fT x.1||decide (x.2.1=0))&&(fV x.1||decide (x.2.2.1=0))&&(gO x.1||(decide (x.2.2.2.1=0)&&!x.2.2.2.2))
theorem six {k:Int} (h:decide (0≤k)&&decide (k≤5)):k=0∨k=1∨k=2∨k=3∨k=4∨k=5:=by simp at h; omega
theorem B0 (x:Stm):ol x=some (fOk x):=by
 obtain ⟨k,d,s,r,m⟩:=x
 have h1:lD k=some (fT k):=rfl
 have h2:lF k=some (fV k):=rfl
 have h3:k7 k=some (gO k):=rfl
 unfold ol fOk
 simp only [h1,h2,h3,Option.bind_some]
 cases (decide (0≤k)&&decide (k≤5)) <;> simp
 cases (fT k||decide (d=0)) <;> simp
 cases (fV k||decide (s=0)) <;> simp
def loc (xb:List (List St)) (d:Int):Bool:=decide (0≤d)&&decide (d < ((xb.length:Nat):Int))
theorem El (xb:List (List St)) (d:Int):(decide (d < 0)||decide (((xb.length:Nat):Int)≤d)) = !loc xb d:=by
 unfold loc
 by_cases h1:d < 0 <;> by_cases h2:((xb.length:Nat):Int)≤d <;> simp [h1,h2] <;> omega
theorem jJ {xb:List (List St)} {d:Int} (h:loc xb d=true) (hb:∀ t∈xb,t.length≤20):∃ t:List St,aa xb d=some t∧t.length≤20:=by
 unfold loc at h
 simp at h
 exact ⟨_,qD h.1 h.2,hb _ (List.getElem_mem _)⟩
theorem E0 {R:Int} {t:List St} (h:rin R t=false) {x:St} (hx:x∈t):0≤x.1∧x.1 < R:=by
 have:=List.any_eq_false.1 h x hx
 simp at this; omega
abbrev Tm:=Int×Int×Int×List Int×List Int×List Int
def jI (x:Tm):Bool:=((!decide (x.2.1=0))||(!decide (x.2.2.1=0)))||(decide (0 < x.2.2.2.2.2.length))
def pR (x:Tm):Bool :=
 if x.1=1 then decide (x.2.2.2.1.length=1)&&decide (x.2.2.2.2.1.length=0)&&!jI x
 else if x.1=2 then decide (0 < x.2.2.2.1.length)&&!jI x
 else if x.1=3 then decide (x.2.2.2.1.length=0)&&decide (x.2.2.2.2.1.length=0)&&!jI x
 else if x.1=4 then decide (x.2.2.2.1.length=1) else false
def gI (x:Tm):Int:=if pR x=true then if 16 < x.2.2.2.1.length∨16 < x.2.2.2.2.1.length∨16 < x.2.2.2.2.2.length then 6 else 0 else 3
theorem bnd (a b:Bool):(cond a (some b) (some false):Option Bool)=some (a&&b):=by cases a <;> rfl
theorem dn1 (n:Nat):decide ((n:Int)=1)=decide (n=1):=by by_cases h:n=1 <;> simp [h] <;> omega
theorem dn0 (n:Nat):decide ((n:Int)=0)=decide (n=0):=by by_cases h:n=0 <;> simp [h] <;> omega
theorem dp0 (n:Nat):decide (0 < (n:Int))=decide (0 < n):=by by_cases h:0 < n <;> simp [h] <;> omega
theorem d16 (n:Nat):decide (16 < (n:Int))=decide (16 < n):=by by_cases h:16 < n <;> simp [h] <;> omega
theorem Cr {x:Tm} (h:gI x=0):pR x=true∧x.2.2.2.1.length≤16∧x.2.2.2.2.1.length≤16∧x.2.2.2.2.2.length≤16:=by
 unfold gI at h
 split at h
 . split at h
   . cases h
   . rename_i q; exact ⟨by assumption,by omega,by omega,by omega⟩
 . cases h
theorem Cw (xa:List Int) (n:Int) (hn:xa.length≤1073741824):eG xa n=some (!xa.any (fun x=>decide (x < 0)||decide (n≤x))):=by
 unfold eG
 rw [lW (body:=nD xa n) xa (fun x=>decide (x < 0)||decide (n≤x)) (.inr false) (.inl ()) ?_ ?_]
 . cases xa.any (fun x=>decide (x < 0)||decide (n≤x)) <;> rfl
 . intro k hk
   unfold nD
   by_cases q:xa[k] < 0 <;> by_cases q2:n≤xa[k] <;> simp [hk,ai hk,an hk (by omega:xa.length≤9223372036854775807),q,q2]
 . simp [nD]
theorem BQ (x:Tm):lu x=some (gI x):=by
 obtain ⟨k,g,d,tos,args,ps⟩:=x
 unfold lu gI pR jI
 dsimp only
 simp only [dn1,dn0,d16,dp0]
 have hps:decide (0 < ps.length) = !decide (ps.length=0):=by by_cases h:ps.length=0 <;> simp [h] <;> omega
 have hto:decide (0 < tos.length) = !decide (tos.length=0):=by by_cases h:tos.length=0 <;> simp [h] <;> omega
 rw [hps,hto]
 have last:(cond (((decide (16 < tos.length))||(decide (16 < args.length)))||(decide (16 < ps.length))) (some 6) (some 0):Option Int)=some (if 16 < tos.length∨16 < args.length∨16 < ps.length then 6 else 0):=by
   by_cases h1:16 < tos.length <;> by_cases h2:16 < args.length <;> by_cases h3:16 < ps.length <;> simp [h1,h2,h3]
 rw [last]
 generalize (if 16 < tos.length∨16 < args.length∨16 < ps.length then (6:Int) else 0)=z
 generalize decide (tos.length=1)=t1
 generalize decide (tos.length=0)=t0
 generalize decide (args.length=0)=a0
 generalize decide (ps.length=0)=p0
 generalize decide (g=0)=g0
 generalize decide (d=0)=d0
 by_cases k1:k=1
 . subst k1; cases t1 <;> cases t0 <;> cases a0 <;> cases p0 <;> cases g0 <;> cases d0 <;> simp
 . by_cases k2:k=2
   . subst k2; cases t1 <;> cases t0 <;> cases a0 <;> cases p0 <;> cases g0 <;> cases d0 <;> simp
   . by_cases k3:k=3
     . subst k3; cases t1 <;> cases t0 <;> cases a0 <;> cases p0 <;> cases g0 <;> cases d0 <;> simp
     . by_cases k4:k=4
       . subst k4; cases t1 <;> cases t0 <;> cases a0 <;> cases p0 <;> cases g0 <;> cases d0 <;> simp
       . have:(decide (k < 1)||decide (4 < k))=true:=by simp; omega
         simp [this,k1,k2,k3,k4]
theorem AK {xa:List (List St)} {body:Int→Option (Int⊕(Unit⊕Bool))} (hn:xa.length≤1000) (hb:∀ i,body i=cond (decide (i < (((xa.length:Nat):Int)))) ((aa xa i).bind fun x=>(ie x 20).bind fun t=>cond (!t) (some (.inr ((.inr (false))))) (some (.inl (IntKind.wrap .i64 (i + 1))))) (some (.inr ((.inl ()))))) :
   loop body 0=some (if xa.any (fun t=>!decide (t.length≤20)) then (Sum.inr false:Unit⊕Bool) else .inl ()):=by
 refine lW (β:=Unit⊕Bool) xa (fun t=>!decide (t.length≤20)) (.inr false) (.inl ()) ?_ ?_
 . intro k hk
   rw [hb]
   simp only [dlt hk,cond_true,ai hk,Option.bind_some,an hk (by omega:xa.length≤9223372036854775807),ub]
   by_cases q:xa[k].length≤20
   . have:decide (((xa[k].length:Nat):Int)≤20)=true:=by simp; omega
     simp [this,q]
   . have:decide (((xa[k].length:Nat):Int)≤20)=false:=by simp; omega
     simp [this,q]
 . rw [hb]; simp
theorem yp {xa:List (List St)} (h:xa.any (fun t=>!decide (t.length≤20))=false):∀ t∈xa,t.length≤20:=by
 intro t ht
 have:=List.any_eq_false.1 h t ht
 simpa using this
theorem zQ (s:Sg):ge s=some false∨(ge s=some true∧s.2.1.length≤20∧s.2.2.1.length≤20∧s.2.2.2.length≤20∧∀ t∈s.2.2.1,t.length≤20):=by
 unfold ge
 by_cases h:20 < s.2.1.length∨20 < s.2.2.1.length
 . have:((decide (20 < (((s.2.1.length:Nat):Int))))||(decide (20 < (((s.2.2.1.length:Nat):Int)))))=true:=by simp; omega
   rw [this]; exact .inl rfl
 . have:((decide (20 < (((s.2.1.length:Nat):Int))))||(decide (20 < (((s.2.2.1.length:Nat):Int)))))=false:=by simp; omega
   rw [this,cond_false,ub]
   by_cases q:s.2.2.2.length≤20
   . have e:decide (((s.2.2.2.length:Nat):Int)≤20)=true:=by simp; omega
     simp only [Option.bind_some,e,Bool.not_true,cond_false]
     rw [AK (body:=vq s) (xa:=s.2.2.1) (by omega) (fun i=>rfl)]
     cases hf:s.2.2.1.any (fun t=>!decide (t.length≤20)) with
     | true=>exact .inl rfl
     | false=>exact .inr ⟨rfl,by omega,by omega,q,yp hf⟩
   . have e:decide (((s.2.2.2.length:Nat):Int)≤20)=false:=by simp; omega
     simp only [Option.bind_some,e]; exact .inl rfl
def bad (n:Int) (xa:List Int):Bool:=xa.any (fun x=>decide (x < 0)||decide (n≤x))
theorem ow (xa:List Int) (n:Int) (hn:xa.length≤1000):eG xa n=some (!bad n xa):=Cw xa n (by omega)
abbrev Ar:=Int×Int×List (List St)×List St×List Sg
abbrev Km:Tp := .cons (.int .i64) (.cons (.sl (.cons (.int .i64) (.one (.int .i64)))) (.cons (.sl (.one (.sl (.cons (.int .i64) (.one .bool))))) (.one (.one (.sl (.cons (.int .i64) (.one .bool)))))))
abbrev L6:Tp := .cons (.int .i64) (.cons (.int .i64) (.cons (.int .i64) (.cons (.sl (.int .i64)) (.cons (.sl (.int .i64)) (.one (.sl (.int .i64)))))))
abbrev pI:Tp := .cons (.int .i64) (.cons (.int .i64) (.cons (.sl (.cons (.int .i64) (.one (.int .i64)))) (.cons (.sl (.one (.sl (.cons (.int .i64) (.one .bool))))) (.cons (.one (.sl (.cons (.int .i64) (.one .bool)))) (.cons (.sl Km) (.one (.sl (.cons (.sl (.cons (.int .i64) (.cons (.int .i64) (.cons (.int .i64) (.cons (.int .i64) (.one .bool)))))) (.one L6)))))))))
abbrev Blk:=List Stm×Tm
abbrev Bo:=Int×Int×List (Int×Int)×List (List St)×List St×List Sg×List Blk
def stm (l:List Blk):Nat:=(l.map (fun x=>x.1.length)).sum
structure Sm (b:Bo):Prop where
 bounds:b.2.2.1.length≤20
 locals:b.2.2.2.1.length≤10
 loc:∀ t∈b.2.2.2.1,t.length≤20
 ret:b.2.2.2.2.1.length≤20
 sigs:b.2.2.2.2.2.1.length≤4
 sig:∀ s∈b.2.2.2.2.2.1,s.2.1.length≤20∧s.2.2.1.length≤20∧s.2.2.2.length≤20∧∀ t∈s.2.2.1,t.length≤20
 blocks:b.2.2.2.2.2.2.length≤8
 term:∀ x∈b.2.2.2.2.2.2,x.2.2.2.2.1.length≤20∧x.2.2.2.2.2.1.length≤20∧x.2.2.2.2.2.2.length≤20
 many:stm b.2.2.2.2.2.2≤24
theorem yx {α:Type} (f:α→Nat):∀ (l:List α) (x:α),x∈l→f x≤(l.map f).sum
 | [],x,h=>by cases h
 | y :: l,x,h=>by
   rcases List.mem_cons.1 h with rfl | h
   . simp
   . have:=yx f l x h; simp; omega
theorem DG {α:Type} (f:α→Nat) (l:List α) (k:Nat):((l.take k).map f).sum≤(l.map f).sum:=by
 have:l.map f=(l.take k).map f++(l.drop k).map f:=by rw [← List.map_append,List.take_append_drop]
 rw [this,List.sum_append]; omega
theorem Sm.stmts {b:Bo} (h:Sm b) {x:Blk} (hx:x∈b.2.2.2.2.2.2):x.1.length≤24:=by
 have:=yx (fun x:Blk=>x.1.length) _ x hx
 have:=h.many; unfold stm at this; omega
theorem xm {X:List Blk} {k:Nat} (hk:k < X.length):stm (X.take (k + 1))=stm (X.take k) + X[k].1.length:=by
 unfold stm; rw [bq hk,List.map_append,List.sum_append]; simp
theorem DP {b:Bo} (h:Tp.Fit pI b):∀ x∈b.2.2.2.2.2.2,x.1.length≤140737488351232:=by
 obtain ⟨_,_,_,_,_,_,_,h2⟩:=h
 exact fun x hx=>(h2 x hx).1.1
theorem Fa (b:Bo) (hb:∀ x∈b.2.2.2.2.2.2,x.1.length≤140737488351232):iZ b=some false∨(iZ b=some true∧Sm b):=by
 obtain ⟨u,n,B,L,R,S,X⟩:=b
 unfold iZ
 dsimp only at *
 have e1:((((decide (20 < (((B.length:Nat):Int))))||(decide (10 < (((L.length:Nat):Int)))))||(decide (4 < (((S.length:Nat):Int)))))||(decide (8 < (((X.length:Nat):Int)))))=decide (20 < B.length∨10 < L.length∨4 < S.length∨8 < X.length):=by
   by_cases h1:20 < B.length <;> by_cases h2:10 < L.length <;> by_cases h3:4 < S.length <;> by_cases h4:8 < X.length <;> simp [h1,h2,h3,h4] <;> omega
 rw [e1]
 by_cases h0:20 < B.length∨10 < L.length∨4 < S.length∨8 < X.length
 . rw [decide_eq_true h0]; exact .inl rfl
 . rw [decide_eq_false h0,cond_false,ub]
   by_cases q:R.length≤20
   . have e:decide (((R.length:Nat):Int)≤20)=true:=by simp; omega
     simp only [Option.bind_some,e,Bool.not_true,cond_false]
     rw [AK (body:=vo (u,n,B,L,R,S,X)) (xa:=L) (by omega) (fun i=>rfl)]
     cases hf:L.any (fun t=>!decide (t.length≤20)) with
     | true=>exact .inl rfl
     | false =>
       simp only [Bool.false_eq_true,if_false,Option.bind_some]
       have hS:∃ t,loop (iR (u,n,B,L,R,S,X)) 0=some t∧(t = .inr false∨(t = .inl ()∧∀ s∈S,s.2.1.length≤20∧s.2.2.1.length≤20∧s.2.2.2.length≤20∧∀ t∈s.2.2.1,t.length≤20)):=by
         have hl:=gh (body:=iR (u,n,B,L,R,S,X)) (fun k=>∃ h:k < S.length,ge S[k]=some false) (fun k:Nat=>(k:Int)) S.length (fun _ => .inr false) (.inl ()) ?_ ?_ ?_
         . rcases hl with ⟨k,_,_,_,h4⟩ | ⟨h1,h2⟩
           . exact ⟨_,h4,.inl rfl⟩
           . refine ⟨_,h2,.inr ⟨rfl,fun s hs=>?_⟩⟩
             obtain ⟨k,hk,rfl⟩:=List.getElem_of_mem hs
             rcases zQ S[k] with h | ⟨h,f1,f2,f3,f4⟩
             . exact absurd ⟨hk,h⟩ (h1 k hk)
             . exact ⟨f1,f2,f3,f4⟩
         . intro k hk hp
           unfold iR
           rcases zQ S[k] with h | ⟨h,_⟩
           . exact absurd ⟨hk,h⟩ hp
           . simp only [dlt hk,cond_true,ai hk,Option.bind_some,show ge (S[k].1,S[k].2.1,S[k].2.2.1,S[k].2.2.2)=_ from h,an hk (by omega:S.length≤9223372036854775807)]
             rfl
         . rintro k hk ⟨_,hp⟩
           unfold iR
           simp only [dlt hk,cond_true,ai hk,Option.bind_some,show ge (S[k].1,S[k].2.1,S[k].2.2.1,S[k].2.2.2)=_ from hp]
           rfl
         . simp [iR]
       obtain ⟨t,ht,hS⟩:=hS
       rw [ht]
       rcases hS with rfl | ⟨rfl,hS⟩
       . exact .inl rfl
       . simp only [Option.bind_some]
         have hX:=gh (body:=gZ (u,n,B,L,R,S,X)) (fun k=>∃ h:k < X.length,(((decide (20 < ((((X[k]).2.2.2.2.1.length:Nat):Int))))||(decide (20 < ((((X[k]).2.2.2.2.2.1.length:Nat):Int)))))||(decide (20 < ((((X[k]).2.2.2.2.2.2.length:Nat):Int)))))=true) (fun k:Nat=>(((stm (X.take k):Nat):Int),(k:Int))) X.length (fun _ => .inr false) (.inl ((stm X:Nat):Int)) ?_ ?_ ?_
         . rcases hX with ⟨k,_,_,_,h4⟩ | ⟨h1,h2⟩
           . have h4':loop (gZ (u,n,B,L,R,S,X)) (0,0)=some (.inr false):=by simpa [stm] using h4
             rw [h4']; exact .inl rfl
           . have h2':loop (gZ (u,n,B,L,R,S,X)) (0,0)=some (.inl ((stm X:Nat):Int)):=by simpa [stm] using h2
             rw [h2']
             by_cases hm:stm X≤24
             . refine .inr ⟨by simp; omega,⟨by dsimp only; omega,by dsimp only; omega,yp hf,q,by dsimp only; omega,hS,by dsimp only; omega,fun x hx=>?_,hm⟩⟩
               obtain ⟨k,hk,rfl⟩:=List.getElem_of_mem hx
               have hn:=h1 k hk
               dsimp only at hk hn
               have hn2:(((decide (20 < ((((X[k]).2.2.2.2.1.length:Nat):Int))))||(decide (20 < ((((X[k]).2.2.2.2.2.1.length:Nat):Int)))))||(decide (20 < ((((X[k]).2.2.2.2.2.2.length:Nat):Int)))))=false:=by
                 cases hc:(((decide (20 < ((((X[k]).2.2.2.2.1.length:Nat):Int))))||(decide (20 < ((((X[k]).2.2.2.2.2.1.length:Nat):Int)))))||(decide (20 < ((((X[k]).2.2.2.2.2.2.length:Nat):Int))))) with
                 | false=>rfl
                 | true=>exact absurd ⟨hk,hc⟩ hn
               simp at hn2
               dsimp only
               omega
             . refine .inl ?_
               simp; omega
         . intro k hk hp
           have hn2:(((decide (20 < ((((X[k]).2.2.2.2.1.length:Nat):Int))))||(decide (20 < ((((X[k]).2.2.2.2.2.1.length:Nat):Int)))))||(decide (20 < ((((X[k]).2.2.2.2.2.2.length:Nat):Int)))))=false:=by
             cases hc:(((decide (20 < ((((X[k]).2.2.2.2.1.length:Nat):Int))))||(decide (20 < ((((X[k]).2.2.2.2.2.1.length:Nat):Int)))))||(decide (20 < ((((X[k]).2.2.2.2.2.2.length:Nat):Int))))) with
             | false=>rfl
             | true=>exact absurd ⟨hk,hc⟩ hp
           have a1:=hb X[k] (List.getElem_mem hk)
           have a2:stm (X.take k)≤k * 140737488351232:=by
             unfold stm
             have:∀ q:List Blk,(∀ x∈q,x∈X)→(q.map (fun x=>x.1.length)).sum≤q.length * 140737488351232:=by
               intro q
               induction q with
               | nil=>intro _; simp
               | cons x q ih =>
                 intro hq
                 have:=ih (fun y hy=>hq y (by simp [hy]))
                 have:=hb x (hq x (by simp))
                 simp only [List.map_cons,List.sum_cons,List.length_cons,Nat.succ_mul]; omega
             have h3:=this (X.take k) (fun x hx=>List.mem_of_mem_take hx)
             rw [List.length_take,Nat.min_eq_left (by omega)] at h3
             exact h3
           have a3:k≤8:=by omega
           have a4:k * 140737488351232≤8 * 140737488351232:=Nat.mul_le_mul_right _ a3
           unfold gZ
           simp only [dlt hk,cond_true,ai hk,Option.bind_some,hn2,cond_false,an hk (by omega:X.length≤9223372036854775807)]
           rw [w64 (by omega) (by omega),xm hk]
           simp
         . rintro k hk ⟨_,hp⟩
           unfold gZ
           simp only [dlt hk,cond_true,ai hk,Option.bind_some,hp]
         . unfold gZ
           simp
   . have e:decide (((R.length:Nat):Int)≤20)=false:=by simp; omega
     simp only [Option.bind_some,e]; exact .inl rfl
section
abbrev Flt:=Int×Int×Int×Int
def sE (L:List (List St)) (R:Int) (x:Stm):Int:=((hO x L R).getD ([],0)).2
def tE (a:Ar) (x:Tm):Int:=((g9 x a).getD ([],0)).2
def dD (b:Bo):Ar:=(((b.2.2.2.2.2.2.length:Nat):Int),b.2.1,b.2.2.2.1,b.2.2.2.2.1,b.2.2.2.2.2.1)
def mP (b:Bo):Flt:=if b.1 < 1∨b.2.1 < b.1 then (7,0,0,0) else if 65536 < b.2.1 then (6,0,0,0) else (0,0,0,0)
def mg (b:Bo):Flt:=match b.2.2.1.findIdx? (cS b.1) with | some k=>(7,1,(k:Int),0) | none=>(0,0,0,0)
def mX (b:Bo):Flt:=if b.2.2.2.1=[] then (14,2,0,0) else match b.2.2.2.1.findIdx? (fun t=>!decide (rck b.2.1 t=0)) with | some k=>(rck b.2.1 (b.2.2.2.1.getD k []),2,(k:Int),0) | none=>(0,0,0,0)
def mV (b:Bo):Flt:=if rck b.1 b.2.2.2.2.1=0 then if shp b.2.2.2.2.1 (b.2.2.2.1.getD 0 []) then (0,3,0,0) else (8,3,0,0) else (rck b.1 b.2.2.2.2.1,3,0,0)
def m5 (b:Bo):Flt:=match b.2.2.2.2.2.1.findIdx? (fun s=>!decide (chk s=0)) with | some k=>(chk (b.2.2.2.2.2.1.getD k (0,[],[],[])),4,(k:Int),0) | none=>(0,0,0,0)
def qK (b:Bo):Flt:=if b.2.2.2.2.2.2=[] then (14,5,0,0) else (0,0,0,0)
def eZ (b:Bo) (x:Blk):Option (Int×Int×Int) :=
 match x.1.findIdx? (fun s=>!decide (sE b.2.2.2.1 b.2.1 s=0)) with
 | some j=>some (sE b.2.2.2.1 b.2.1 (x.1.getD j (0,0,0,0,false)),6,(j:Int))
 | none=>if tE (dD b) x.2=0 then none else some (tE (dD b) x.2,7,0)
def mK (k:Nat) (o:Option (Int×Int×Int)):Flt:=match o with | some (e,p,j)=>(e,p,(k:Int),j) | none=>(0,0,0,0)
def jU (b:Bo):Flt:=match b.2.2.2.2.2.2.findIdx? (fun x=>(eZ b x).isSome) with | some k=>mK k (eZ b (b.2.2.2.2.2.2.getD k ([],0,0,0,[],[],[]))) | none=>(0,0,0,0)
def or0 (a b:Flt):Flt:=if a.1=0 then b else a
def vck (b:Bo):Flt:=or0 (mP b) (or0 (mg b) (or0 (mX b) (or0 (mV b) (or0 (m5 b) (or0 (qK b) (jU b))))))
section
variable {b:Bo} (h:Sm b)
include h
theorem BZ:lr b=some (or0 (mP b) (mg b)):=by
 have h1:=h.bounds
 obtain ⟨u,n,B,L,R,S,X⟩:=b
 unfold lr mP mg or0
 dsimp only at *
 by_cases q:u < 1∨n < u
 . have:(decide (u < 1)||decide (n < u))=true:=by simpa using q
   rw [this,if_pos q]; rfl
 . have:(decide (u < 1)||decide (n < u))=false:=by simpa using q
   rw [this,if_neg q,cond_false]
   by_cases q2:65536 < n
   . rw [decide_eq_true q2,if_pos q2]; rfl
   . rw [decide_eq_false q2,if_neg q2,cond_false,decide_eq_false (by omega),cond_false,dq (body:=nW (u,n,B,L,R,S,X)) B (cS u) (fun k=>(.inr (7,1,(k:Int),0):Unit⊕Flt)) (.inl ()) ?_ ?_]
     . cases B.findIdx? (cS u) <;> rfl
     . intro k hk
       unfold nW
       simp only [dlt hk,cond_true,ai hk,Option.bind_some,an hk (by omega:B.length≤9223372036854775807)]
       show cond (cS u B[k]) _ _=_
       cases cS u B[k] <;> rfl
     . simp [nW]
theorem Bj:lf b=some (or0 (mX b) (or0 (mV b) (m5 b))):=by
 have h1:=h.locals
 have h2:=h.sigs
 have h3:=h.ret
 have h4:=h.loc
 obtain ⟨u,n,B,L,R,S,X⟩:=b
 unfold lf mX mV m5
 dsimp only at *
 by_cases q:L=[]
 . subst q; rfl
 . have q' : ¬ ((L.length : Nat) : Int) = 0 := fun hc => q (List.length_eq_zero_iff.1 (by omega))
   rw [if_neg q,decide_eq_false q',cond_false,decide_eq_false (by omega),cond_false,dq (body:=nO (u,n,B,L,R,S,X)) L (fun t=>!decide (rck n t=0)) (fun k=>(.inr (rck n (L.getD k []),2,(k:Int),0):Unit⊕Flt)) (.inl ()) ?_ ?_]
   . cases hf:L.findIdx? (fun t=>!decide (rck n t=0)) with
     | some k =>
       obtain ⟨hk,h5,_⟩:=List.findIdx?_eq_some_iff_getElem.1 hf
       have e:L.getD k []=L[k]:=by simp [List.getD,hk]
       have:¬ rck n L[k]=0:=by simpa using h5
       simp only [or0,e,if_neg this]; rfl
     | none =>
       have hp:0 < L.length:=List.length_pos_iff.2 q
       have e0:L.getD 0 []=L[0]:=by simp [List.getD,hp]
       simp only [Option.bind_some,oy]
       by_cases q2:rck u R=0
       . have g0:aa L 0=some L[0]:=ai (k:=0) hp
         simp only [q2,decide_true,Bool.not_true,cond_false,g0,Option.bind_some,e0]
         rw [lL _ _ (by have:=h4 L[0] (List.getElem_mem hp); omega),oY,Option.bind_some]
         cases hs:shp R L[0] with
         | false=>rfl
         | true =>
           simp only [Bool.not_true,cond_false]
           rw [decide_eq_false (by omega),cond_false,dq (body:=nM (u,n,B,L,R,S,X)) S (fun s=>!decide (chk s=0)) (fun k=>(.inr (chk (S.getD k (0,[],[],[])),4,(k:Int),0):Unit⊕Flt)) (.inl ()) ?_ ?_]
           . cases S.findIdx? (fun s=>!decide (chk s=0)) <;> rfl
           . intro k hk
             unfold nM
             have e:S.getD k (0,[],[],[])=S[k]:=by simp [List.getD,hk]
             simp only [dlt hk,cond_true,ai hk,Option.bind_some,an hk (by omega:S.length≤9223372036854775807),e,show hI (S[k].1,S[k].2.1,S[k].2.2.1,S[k].2.2.2)=_ from vG S[k]]
             cases (!decide (chk S[k]=0)) <;> rfl
           . simp [nM]
       . simp [q2,or0]
   . intro k hk
     unfold nO
     have e:L.getD k []=L[k]:=by simp [List.getD,hk]
     simp only [dlt hk,cond_true,ai hk,Option.bind_some,an hk (by omega:L.length≤9223372036854775807),e,oy]
     cases (!decide (rck n L[k]=0)) <;> rfl
   . simp [nO]
end
end
section
theorem vY (x:Stm) (xb:List (List St)) (xc:Int) (hb:∀ t∈xb,t.length≤20):∃ l e,hO x xb xc=some (l,e)∧(e=0→fOk x=true∧(fT x.1=true→loc xb x.2.1=true)∧(fV x.1=true→loc xb x.2.2.1=true)∧(gO x.1=true→0≤x.2.2.2.1∧x.2.2.2.1 < xc)):=by
 obtain ⟨k,d,s,r,m⟩:=x
 unfold hO
 have g1:lD k=some (fT k):=rfl
 have g2:lF k=some (fV k):=rfl
 have g3:k7 k=some (gO k):=rfl
 simp only [B0,Option.bind_some,g1,g2,g3,El]
 cases hf:fOk (k,d,s,r,m) with
 | false=>exact ⟨[],3,rfl,by simp⟩
 | true =>
   have hk:k=0∨k=1∨k=2∨k=3∨k=4∨k=5:=by
     unfold fOk at hf
     simp only [Bool.and_eq_true] at hf
     exact six (by simpa using hf.1.1.1)
   have hcl (c1 c2 c3:Bool):(cond c1 (some true) (some c2):Option Bool).bind (fun t=>cond t (some true) (some c3))=some (c1||c2||c3):=by cases c1 <;> cases c2 <;> rfl
   simp only [Bool.not_true,cond_false]
   cases h1:(fT k&&!loc xb d) with
   | true=>exact ⟨[],7,by simp,by simp⟩
   | false =>
     cases h2:(fV k&&!loc xb s) with
     | true=>exact ⟨[],7,by simp,by simp⟩
     | false =>
       cases h3:(gO k&&(decide (r < 0)||decide (xc≤r))) with
       | true=>exact ⟨[],7,by simp,by simp⟩
       | false =>
         have hg:True∧(fT k=true→loc xb d=true)∧(fV k=true→loc xb s=true)∧(gO k=true→0≤r∧r < xc):=by
           refine ⟨trivial,fun h=>by simpa [h] using h1,fun h=>by simpa [h] using h2,fun h=>?_⟩
           rw [h,Bool.true_and,Bool.or_eq_false_iff,decide_eq_false_iff_not,decide_eq_false_iff_not] at h3
           omega
         simp only [cond_false,Option.bind_some]
         rcases hk with rfl | rfl | rfl | rfl | rfl | rfl
         . exact ⟨[],0,rfl,fun _=>hg⟩
         . obtain ⟨t1,a1,b1⟩:=jJ (hg.2.1 rfl) hb
           obtain ⟨t2,a2,b2⟩:=jJ (hg.2.2.1 rfl) hb
           simp only [a1,a2,decide_true,cond_true,Option.bind_some]
           rw [lM _ _ _ _ (by omega) (by omega) (by omega)]
           exact ⟨_,_,rfl,fun _=>hg⟩
         . obtain ⟨t1,a1,b1⟩:=jJ (hg.2.1 rfl) hb
           obtain ⟨t2,a2,b2⟩:=jJ (hg.2.2.1 rfl) hb
           refine ⟨(lo r m t2 t1).1,(lo r m t2 t1).2,?_,fun _=>hg⟩
           simp [a1,a2,Cb t2 t1 r m (by omega)]
         . obtain ⟨t1,a1,b1⟩:=jJ (hg.2.1 rfl) hb
           obtain ⟨t2,a2,b2⟩:=jJ (hg.2.2.1 rfl) hb
           refine ⟨(ag r m t2 t1).1,(ag r m t2 t1).2,?_,fun _=>hg⟩
           simp [a1,a2,BO t2 t1 r m (by omega)]
         . exact ⟨[],0,rfl,fun _=>hg⟩
         . exact ⟨[],0,rfl,fun _=>hg⟩
theorem Cn {x:Tm} {a:Ar} (hx:x.2.2.2.2.1.length≤20) (hb:bad (a.2.2.1.length:Int) x.2.2.2.2.1=false) (hL:∀ t∈a.2.2.1,t.length≤20) :
   ∃ C:List (List St),loop (kH x a) ([],0)=some C∧(∀ t∈C,t.length≤20)∧∀ t∈C,t∈a.2.2.1:=by
 have hin (k:Nat) (hk:k < x.2.2.2.2.1.length):0≤x.2.2.2.2.1[k]∧x.2.2.2.2.1[k] < (a.2.2.1.length:Int):=by
   have:=List.any_eq_false.1 hb _ (List.getElem_mem hk)
   simp at this; omega
 have hl:=cg (body:=kH x a) (fun k:Nat=>((x.2.2.2.2.1.take k).map (fun i=>a.2.2.1.getD i.toNat []),(k:Int))) x.2.2.2.2.1.length (b:=x.2.2.2.2.1.map (fun i=>a.2.2.1.getD i.toNat [])) ?_ ?_
 . have hm:∀ t∈x.2.2.2.2.1.map (fun i=>a.2.2.1.getD i.toNat []),t∈a.2.2.1:=by
     intro t ht
     obtain ⟨i,hi,rfl⟩:=List.mem_map.1 ht
     obtain ⟨k,hk,rfl⟩:=List.getElem_of_mem hi
     have h2:=hin k hk
     have:x.2.2.2.2.1[k].toNat < a.2.2.1.length:=by omega
     have e:a.2.2.1.getD x.2.2.2.2.1[k].toNat []=a.2.2.1[x.2.2.2.2.1[k].toNat]:=by simp [List.getD,this]
     rw [e]; exact List.getElem_mem _
   refine ⟨_,hl,fun t ht=>?_,hm⟩
   obtain ⟨i,hi,rfl⟩:=List.mem_map.1 ht
   obtain ⟨k,hk,rfl⟩:=List.getElem_of_mem hi
   have h2:=hin k hk
   have:x.2.2.2.2.1[k].toNat < a.2.2.1.length:=by omega
   have e:a.2.2.1.getD x.2.2.2.2.1[k].toNat []=a.2.2.1[x.2.2.2.2.1[k].toNat]:=by simp [List.getD,this]
   rw [e]; exact hL _ (List.getElem_mem _)
 . intro k hk
   have h2:=hin k hk
   have h3:x.2.2.2.2.1[k].toNat < a.2.2.1.length:=by omega
   have e:a.2.2.1.getD x.2.2.2.2.1[k].toNat []=a.2.2.1[x.2.2.2.2.1[k].toNat]:=by simp [List.getD,h3]
   unfold kH
   simp only [dlt hk,cond_true,ai hk,Option.bind_some]
   rw [qD h2.1 h2.2,Option.bind_some,aj (by simp; omega),Option.bind_some,an hk (by omega),bq hk,List.map_append]
   simp only [List.map_cons,List.map_nil,e]
 . simp [kH]
structure TmG (x:Tm) (a:Ar):Prop where
 form:gI x=0
 tos:bad a.1 x.2.2.2.1=false
 args:bad (a.2.2.1.length:Int) x.2.2.2.2.1=false
 par:bad a.2.1 x.2.2.2.2.2=false
 call:x.1=4→bad (a.2.2.1.length:Int) [x.2.2.1]=false∧bad (a.2.2.2.2.length:Int) [x.2.1]=false
theorem vU (x:Tm) (a:Ar) (l2:x.2.2.2.1.length≤20) (l3:x.2.2.2.2.1.length≤20) (l4:x.2.2.2.2.2.length≤20) (hR:a.2.2.2.1.length≤20) (hL:∀ t∈a.2.2.1,t.length≤20) (hS:∀ s∈a.2.2.2.2,s.2.1.length≤20∧s.2.2.1.length≤20∧s.2.2.2.length≤20∧∀ t∈s.2.2.1,t.length≤20) :
   ∃ l e,g9 x a=some (l,e)∧(e=0→TmG x a):=by
 unfold g9
 rw [show lu (x.1,x.2.1,x.2.2.1,x.2.2.2.1,x.2.2.2.2.1,x.2.2.2.2.2)=some (gI x) from BQ x]
 by_cases hf:gI x=0
 . have o1 (i n:Int):eG [i] n=some (!bad n [i]):=ow [i] n (by simp)
   simp only [hf,Option.bind_some,decide_true,Bool.not_true,cond_false,ow x.2.2.2.1 _ (by omega:x.2.2.2.1.length≤1000),ow x.2.2.2.2.1 _ (by omega:x.2.2.2.2.1.length≤1000),ow x.2.2.2.2.2 _ (by omega:x.2.2.2.2.2.length≤1000),o1,Bool.not_not]
   have seven:∃ l e,(some (([]:List Nd),(7:Int)):Option (List Nd×Int))=some (l,e)∧(e=0→TmG x a):=⟨[],7,rfl,by simp⟩
   cases b1:bad a.1 x.2.2.2.1 with
   | true=>exact seven
   | false =>
     cases b2:bad (a.2.2.1.length:Int) x.2.2.2.2.1 with
     | true=>exact seven
     | false =>
       cases b3:bad a.2.1 x.2.2.2.2.2 with
       | true=>exact seven
       | false =>
         by_cases k4:x.1=4
         . have n3:¬ x.1=3:=by omega
           rw [decide_eq_true k4,decide_eq_false n3]
           cases b4:bad (a.2.2.1.length:Int) [x.2.2.1] with
           | true=>exact seven
           | false =>
             cases b5:bad (a.2.2.2.2.length:Int) [x.2.1] with
             | true=>exact seven
             | false =>
               obtain ⟨C,c1,c2,c3⟩:=Cn l3 b2 hL
               have hg:TmG x a:=⟨hf,b1,b2,b3,fun _=>⟨b4,b5⟩⟩
               simp [bad] at b4 b5
               simp only [Bool.or_self,Bool.and_false,Bool.not_false,Bool.not_true,cond_false,cond_true,Option.bind_some,c1,Bool.false_and,Bool.true_and]
               rw [qD b5.1 b5.2,qD b4.1 b4.2]
               have hs:=hS _ (List.getElem_mem (l:=a.2.2.2.2) (n:=x.2.1.toNat) (by omega))
               have ht:=hL _ (List.getElem_mem (l:=a.2.2.1) (n:=x.2.2.1.toNat) (by omega))
               simp only [Option.bind_some]
               generalize a.2.2.2.2[x.2.1.toNat]=S at hs ⊢
               generalize a.2.2.1[x.2.2.1.toNat]=D at ht ⊢
               rw [show lx (S.1,S.2.1,S.2.2.1,S.2.2.2) x.2.2.2.2.2 C D=_ from Cc S _ C D hs.2.2.1 hs.2.2.2 c2 ht]
               exact ⟨_,_,rfl,fun _=>hg⟩
         . have hg:TmG x a:=⟨hf,b1,b2,b3,fun h=>absurd h k4⟩
           rw [decide_eq_false k4]
           by_cases k3:x.1=3
           . rw [decide_eq_true k3]
             cases hz:a.2.2.1 with
             | nil=>exact ⟨[],14,by simp,by simp⟩
             | cons t ts =>
               have ht:=hL t (by rw [hz]; simp)
               have hl0:decide ((((t :: ts).length:Nat):Int)=0)=false:=decide_eq_false (by simp; omega)
               simp only [hl0,Bool.or_self,Bool.and_false,Bool.false_and,Bool.not_false,Bool.not_true,cond_false,cond_true,Option.bind_some,show aa (t :: ts) 0=some t from rfl]
               rw [lM _ _ _ _ (by omega) (by omega) (by omega)]
               exact ⟨_,_,rfl,fun _=>hg⟩
           . rw [decide_eq_false k3]
             exact ⟨[],0,rfl,fun _=>hg⟩
 . exact ⟨[],gI x,by simp [hf],fun h=>absurd h hf⟩
section
variable {b:Bo} (h:Sm b)
include h
theorem Hx {x:Stm}:∃ l,hO x b.2.2.2.1 b.2.1=some (l,sE b.2.2.2.1 b.2.1 x):=by
 obtain ⟨l,e,h2,_⟩:=vY x b.2.2.2.1 b.2.1 h.loc
 have:sE b.2.2.2.1 b.2.1 x=e:=by unfold sE; rw [h2]; rfl
 exact ⟨l,by rw [h2,this]⟩
theorem HK {x:Blk} (hx:x∈b.2.2.2.2.2.2):∃ l,g9 x.2 (dD b)=some (l,tE (dD b) x.2):=by
 obtain ⟨a1,a2,a3⟩:=h.term x hx
 obtain ⟨l,e,h2,_⟩:=vU x.2 (dD b) a1 a2 a3 h.ret h.loc h.sig
 have:tE (dD b) x.2=e:=by unfold tE; rw [h2]; rfl
 exact ⟨l,by rw [h2,this]⟩
theorem BY:kY b=some (or0 (qK b) (jU b)):=by
 have h1:=h.blocks
 have h2:=h.many
 have hst:=fun x (hx:x∈b.2.2.2.2.2.2)=>h.stmts hx
 have hT:=fun x (hx:x∈b.2.2.2.2.2.2)=>HK h hx
 have hS:=fun x=>Hx h (x:=x)
 unfold kY qK jU
 by_cases q:b.2.2.2.2.2.2=[]
 . rw [if_pos q,q]; rfl
 . have q' : ¬ ((b.2.2.2.2.2.2.length : Nat) : Int) = 0 := fun hc => q (List.length_eq_zero_iff.1 (by omega))
   rw [if_neg q,decide_eq_false q',cond_false,decide_eq_false (by omega),cond_false]
   have hl1:=cg (body:=kC b) (fun k:Nat=>(((stm (b.2.2.2.2.2.2.take k):Nat):Int),(k:Int))) b.2.2.2.2.2.2.length (b := .inl ()) ?_ ?_
   . have hl1':loop (kC b) (0,0)=some (.inl ()):=by simpa [stm] using hl1
     rw [hl1',Option.bind_some]
     dsimp only
     rw [dq (body:=nF b) b.2.2.2.2.2.2 (fun x=>(eZ b x).isSome) (fun k=>(.inr (mK k (eZ b (b.2.2.2.2.2.2.getD k ([],0,0,0,[],[],[])))):Unit⊕Flt)) (.inl ()) ?_ ?_]
     . cases b.2.2.2.2.2.2.findIdx? (fun x=>(eZ b x).isSome) <;> rfl
     . intro k hk
       unfold nF
       have e:b.2.2.2.2.2.2.getD k ([],0,0,0,[],[],[])=b.2.2.2.2.2.2[k]:=by simp [List.getD,hk]
       obtain ⟨l,hT'⟩:=hT _ (List.getElem_mem hk)
       have hst':=hst _ (List.getElem_mem hk)
       simp only [dlt hk,cond_true,ai hk,Option.bind_some,an hk (by omega:b.2.2.2.2.2.2.length≤9223372036854775807),e]
       generalize b.2.2.2.2.2.2[k]=x at *
       rw [dq (body:=nE b k x) x.1 (fun s=>!decide (sE b.2.2.2.1 b.2.1 s=0)) (fun j=>(.inr (.inr (.inr (sE b.2.2.2.1 b.2.1 (x.1.getD j (0,0,0,0,false)),6,(k:Int),(j:Int)))):Unit⊕(Int⊕(Unit⊕Flt)))) (.inl ()) ?_ ?_]
       . unfold eZ
         cases hf:x.1.findIdx? (fun s=>!decide (sE b.2.2.2.1 b.2.1 s=0)) with
         | some j=>rfl
         | none =>
           simp only [Option.bind_some]
           rw [show g9 (x.2.1,x.2.2.1,x.2.2.2.1,x.2.2.2.2.1,x.2.2.2.2.2.1,x.2.2.2.2.2.2) (((b.2.2.2.2.2.2.length:Nat):Int),b.2.1,b.2.2.2.1,b.2.2.2.2.1,b.2.2.2.2.2.1)=_ from hT',Option.bind_some]
           by_cases q3:tE (dD b) x.2=0
           . simp [q3]
           . simp [q3,mK]
       . intro j hj
         obtain ⟨l,hS'⟩:=hS x.1[j]
         have e2:x.1.getD j (0,0,0,0,false)=x.1[j]:=by simp [List.getD,hj]
         unfold nE
         simp only [dlt hj,cond_true,ai hj,Option.bind_some,an hj (by omega:x.1.length≤9223372036854775807),e2,show hO (x.1[j].1,x.1[j].2.1,x.1[j].2.2.1,x.1[j].2.2.2.1,x.1[j].2.2.2.2) b.2.2.2.1 b.2.1=_ from hS']
         cases (!decide (sE b.2.2.2.1 b.2.1 x.1[j]=0)) <;> rfl
       . simp [nE]
     . simp [nF]
   . intro k hk
     have a1:=xm hk
     have a2:=DG (fun x:Blk=>x.1.length) b.2.2.2.2.2.2 (k + 1)
     have a3:stm (b.2.2.2.2.2.2.take (k + 1))≤stm b.2.2.2.2.2.2:=a2
     unfold kC
     simp only [dlt hk,cond_true,ai hk,Option.bind_some,an hk (by omega:b.2.2.2.2.2.2.length≤9223372036854775807)]
     rw [w64 (by omega) (by omega),decide_eq_false (by omega),cond_false,a1]
     simp
   . unfold kC
     simp
theorem Cq:lg b=some (vck b):=by
 unfold lg vck
 rw [show lr b=_ from BZ h,show lf b=_ from Bj h,show kY b=_ from BY h]
 generalize mP b=v1
 generalize mg b=v2
 generalize mX b=v3
 generalize mV b=v4
 generalize m5 b=v5
 generalize or0 (qK b) (jU b)=v6
 simp only [Option.bind_some]
 have key:∀ a c:Flt,(cond (!decide ((or0 a c).1=0)) (some ((or0 a c).1,(or0 a c).2.1,(or0 a c).2.2.1,(or0 a c).2.2.2)) none:Option Flt)=(cond (!decide ((or0 a c).1=0)) (some (or0 a c)) none):=fun a c=>rfl
 unfold or0
 by_cases q1:v1.1=0 <;> by_cases q2:v2.1=0 <;> by_cases q3:v3.1=0 <;> by_cases q4:v4.1=0 <;> by_cases q5:v5.1=0 <;> simp [q1,q2,q3,q4,q5]
theorem okR:lI b=some (decide ((vck b).1=0)):=by
 unfold lI
 rw [show lg b=_ from Cq h]
 simp only [Option.bind_some]
theorem Ew {x:Stm} (h0:sE b.2.2.2.1 b.2.1 x=0):fOk x=true∧(fT x.1=true→loc b.2.2.2.1 x.2.1=true)∧(fV x.1=true→loc b.2.2.2.1 x.2.2.1=true)∧(gO x.1=true→0≤x.2.2.2.1∧x.2.2.2.1 < b.2.1):=by
 obtain ⟨l,e,h2,h3⟩:=vY x b.2.2.2.1 b.2.1 h.loc
 have:sE b.2.2.2.1 b.2.1 x=e:=by unfold sE; rw [h2]; rfl
 exact h3 (by omega)
theorem EG {x:Blk} (hx:x∈b.2.2.2.2.2.2) (h0:tE (dD b) x.2=0):TmG x.2 (dD b):=by
 obtain ⟨a1,a2,a3⟩:=h.term x hx
 obtain ⟨l,e,h2,h3⟩:=vU x.2 (dD b) a1 a2 a3 h.ret h.loc h.sig
 have:tE (dD b) x.2=e:=by unfold tE; rw [h2]; rfl
 exact h3 (by omega)
end
theorem jr {a c:Flt} (h:(or0 a c).1=0):a.1=0∧c.1=0:=by
 unfold or0 at h
 by_cases q:a.1=0
 . rw [if_pos q] at h; exact ⟨q,h⟩
 . rw [if_neg q] at h; exact absurd h q
end
section
open Go.RowKit Nu
theorem fI {α β:Type} (G:α→List β) (c:Nat):∀ (xs:List α),(∀ x∈xs,(G x).length≤c)→(xs.flatMap G).length≤xs.length * c
 | [],_=>by simp
 | x :: xs,h=>by
   have h1:=h x (by simp)
   have h2:=fI G c xs (fun y hy=>h y (by simp [hy]))
   rw [List.flatMap_cons,List.length_append,List.length_cons,Nat.succ_mul]; omega
theorem dI {α β:Type} (xs:List α) (G:α→List β) (pre:List β) (c:Nat) {body:List β×Int→Option ((List β×Int)⊕List β)} (hc:∀ x∈xs,(G x).length≤c)
   (hb:∀ (k:Nat) (h:k < xs.length) (acc:List β),acc.length≤pre.length + xs.length * c→body (acc,(k:Int))=some (.inl (acc++G xs[k],((k + 1:Nat):Int)))) (he:∀ acc,body (acc,((xs.length:Nat):Int))=some (.inr acc)) :
   loop body (pre,0)=some (pre++xs.flatMap G):=by
 refine gg (body:=body) xs (fun k=>pre++(xs.take k).flatMap G) _ (fun k hk=>?_) ?_ |> Eq.trans (by simp)
 . rw [hb k hk,bq hk,List.flatMap_append]
   . simp
   . have h1:=fI G c (xs.take k) (fun x hx=>hc x (List.mem_of_mem_take hx))
     rw [List.length_append]
     have h2:(xs.take k).length * c≤xs.length * c:=Nat.mul_le_mul_right _ (by rw [List.length_take]; omega)
     omega
 . rw [List.take_length]; exact he _
theorem qk {α β:Type} (g:α→β) (xs:List α):xs.flatMap (fun x=>[g x])=xs.map g:=by
 induction xs with
 | nil=>rfl
 | cons x xs ih=>rw [List.flatMap_cons,ih]; rfl
theorem sR {b:Int×Int} (h1:I64 b.1) (h2:I64 b.2):(pair b).length≤39:=by
 have l1:=av h1; have l2:=av h2
 unfold pair; split
 . simp
 . simp; omega
theorem jj {w:Wd} {l:List (Int×Int)} (hw:w.length≤39) (hl:l.length≤20) (h:∀ b∈l,I64 b.1∧I64 b.2):(ae 32 (w :: l.map pair)).length≤840:=by
 have:=pu 32 39 (w :: l.map pair) (fun p hp=>by
   rcases List.mem_cons.1 hp with rfl | hp
   . exact hw
   . obtain ⟨b,hb,rfl⟩:=List.mem_map.1 hp; exact sR (h b hb).1 (h b hb).2)
 rw [List.length_cons,List.length_map] at this
 have:(l.length + 1) * 40≤21 * 40:=Nat.mul_le_mul_right _ (by omega)
 omega
theorem xi (w:Wd) (l:List (Int×Int)) (hw:w.length≤39) (hl:l.length≤20) (h:∀ b∈l,I64 b.1∧I64 b.2):lj w l=some (ae 32 (w :: l.map pair)):=by
 unfold lj
 rw [dI l (fun b=>[pair b]) [w] 1 (by simp) (fun k hk acc ha=>by
   unfold ru
   have hb:=h l[k] (List.getElem_mem hk)
   simp only [List.length_singleton] at ha
   simp only [dlt hk,cond_true,ai hk,Option.bind_some,show iX (l[k].1,l[k].2)=_ from xu l[k] hb.1 hb.2,an hk (by omega)]
   rw [aj (by simp; omega)]; rfl) (fun acc=>by unfold ru; simp only [dge (show ¬ l.length < l.length by omega),cond_false])]
 rw [qk,Option.bind_some]
 unfold bC
 have:=jj hw hl h
 rw [show [w]++l.map pair=w :: l.map pair from rfl,dy (by omega) (by simp; omega)]; rfl
theorem DK (w:Wd) (l:List Wd):ae 32 (w :: l)=w++l.flatMap (32 :: ·):=rfl
theorem wZ (w:Wd) (l:List (Int×Int)) (hw:w.length≤39) (hl:l.length≤20) (h:∀ b∈l,I64 b.1∧I64 b.2):k8 w l=some (ae 32 (w :: l.map pair)):=by
 unfold k8
 rw [dI l (fun b=>32 :: pair b) w 40 (fun b hb=>by have:=sR (h b hb).1 (h b hb).2; simp; omega) (fun k hk acc ha=>by
   unfold rh
   have hb:=h l[k] (List.getElem_mem hk)
   have hpl:=sR hb.1 hb.2
   have hm:l.length * 40≤20 * 40:=Nat.mul_le_mul_right _ hl
   simp only [dlt hk,cond_true,ai hk,Option.bind_some,show jd (l[k].1,l[k].2)=_ from xC l[k] hb.1 hb.2,an hk (by omega)]
   rw [aj (by simp; omega)]
   simp only [Option.bind_some]
   rw [aj (by simp; omega)]
   simp) (fun acc=>by unfold rh; simp only [dge (show ¬ l.length < l.length by omega),cond_false])]
 rw [DK,List.flatMap_map]; rfl
structure Sg64 (s:az):Prop where
 par:I64 s.1
 bnd:∀ c∈s.2.1,I64 c.1∧I64 c.2
 nb:s.2.1.length≤20
 args:∀ t∈s.2.2.1,(∀ x∈t,I64 x.1)∧t.length≤20
 na:s.2.2.1.length≤20
 ret:(∀ x∈s.2.2.2,I64 x.1)∧s.2.2.2.length≤20
structure Bk64 (x:aD):Prop where
 st:∀ s∈x.1,I64 s.2.1∧I64 s.2.2.1∧I64 s.2.2.2.1
 ns:x.1.length≤24
 tm:TmS x.2
structure Bo64 (b:bp):Prop where
 uni:I64 b.1
 reg:I64 b.2.1
 bnd:∀ c∈b.2.2.1,I64 c.1∧I64 c.2
 nb:b.2.2.1.length≤20
 loc:∀ t∈b.2.2.2.1,(∀ x∈t,I64 x.1)∧t.length≤20
 nl:b.2.2.2.1.length≤10
 ret:(∀ x∈b.2.2.2.2.1,I64 x.1)∧b.2.2.2.2.1.length≤20
 sig:∀ s∈b.2.2.2.2.2.1,Sg64 s
 nsg:b.2.2.2.2.2.1.length≤4
 blk:∀ x∈b.2.2.2.2.2.2,Bk64 x
 nx:b.2.2.2.2.2.2.length≤8
theorem tyL {t:List St} (h:∀ x∈t,I64 x.1) (hl:t.length≤20):(tyW t).length≤421:=by have:=yu h; omega
theorem fP (w:Wd) {t:List St} (hw:w.length≤39) (h:∀ x∈t,I64 x.1) (hl:t.length≤20):(ae 32 [w,tyW t]).length≤500:=by have:=tyL h hl; simp [ae]; omega
theorem pZ {x:cd} (h:I64 x.2.1∧I64 x.2.2.1∧I64 x.2.2.2.1):(ae 32 (bM x)).length≤100:=by
 obtain ⟨k,d,s,r,m⟩:=x
 have l1:=av h.1; have l2:=av h.2.1; have l3:=av h.2.2
 dsimp only at l1 l2 l3
 unfold bM
 dsimp only
 split
 . simp [ae,bZ]
 split
 . simp [ae,bB]; omega
 split
 . cases m <;> simp [ae,bc,aW] <;> omega
 split
 . cases m <;> simp [ae,bd,aW] <;> omega
 split
 . simp [ae,bV]; omega
 split
 . simp [ae,bP]; omega
 . simp [ae]
theorem Aa {x:cy} (h:TmS x):(ae 32 (dG x)).length≤2000:=by
 have l1:=av h.sig; have l2:=av h.dst; have l3:=eO h.hto; have l4:=eO h.hargs; have l5:=eO h.hpar
 have p1:=h.nto; have p2:=h.args; have p3:=h.par
 unfold dG
 split
 . simp [ae,cF]; omega
 split
 . simp [ae,kSw]; omega
 split
 . simp [ae,cQ]
 split
 . simp [ae,bL]; omega
 . simp [ae]
theorem jo {s:az} (h:Sg64 s):(ca s).length≤22∧∀ l∈ca s,l.length≤2000:=by
 have:=h.na
 refine ⟨by simp [ca]; omega,fun l hl=>?_⟩
 unfold ca at hl
 simp only [List.mem_cons,List.mem_map] at hl
 rcases hl with rfl | rfl | ⟨t,ht,rfl⟩
 . have l1:=av h.par; have l2:=tyL h.ret.1 h.ret.2; simp [ae]; omega
 . have:=jj (w:=cX) (by simp) h.nb h.bnd; omega
 . have:=fP bN (by simp) (h.args t ht).1 (h.args t ht).2; omega
theorem lN {x:aD} (h:Bk64 x):(cP x).length≤26∧∀ l∈cP x,l.length≤2000:=by
 have:=h.ns
 refine ⟨by simp [cP]; omega,fun l hl=>?_⟩
 unfold cP at hl
 simp only [List.mem_cons,List.mem_append,List.mem_map,List.mem_nil_iff,or_false] at hl
 rcases hl with rfl | ⟨s,hs,rfl⟩ | rfl
 . simp
 . have:=pZ (h.st s hs); omega
 . exact Aa h.tm
theorem pp {ls:List Wd} {n:Nat} (h:ls.length≤n) (h2:∀ l∈ls,l.length≤2000):(ls.flatMap (·++[10])).length≤n * 2001:=by
 have:=fI (fun l:Wd=>l++[10]) 2001 ls (fun l hl=>by have:=h2 l hl; simp; omega)
 have:ls.length * 2001≤n * 2001:=Nat.mul_le_mul_right _ h
 omega
theorem oK {b:bp} (h:Bo64 b):(bD b).length≤320∧∀ l∈bD b,l.length≤2000:=by
 refine ⟨?_,fun l hl=>?_⟩
 . have h1:=fI ca 22 b.2.2.2.2.2.1 (fun s hs=>(jo (h.sig s hs)).1)
   have h2:=fI cP 26 b.2.2.2.2.2.2 (fun s hs=>(lN (h.blk s hs)).1)
   have h3:=h.nl; have h4:=h.nsg; have h5:=h.nx
   unfold bD
   simp only [List.length_cons,List.length_append,List.length_map]; omega
 . unfold bD at hl
   simp only [List.mem_cons,List.mem_append,List.mem_map,List.mem_flatMap] at hl
   rcases hl with rfl | rfl | ⟨t,ht,rfl⟩ | rfl | ⟨s,hs,hl⟩ | ⟨x,hx,hl⟩
   . have l1:=av h.uni; have l2:=av h.reg; simp [ae]; omega
   . have:=jj (w:=c9) (by simp) h.nb h.bnd; omega
   . have:=fP bF (by simp) (h.loc t ht).1 (h.loc t ht).2; omega
   . have:=fP cG (by simp) h.ret.1 h.ret.2; omega
   . exact (jo (h.sig s hs)).2 l hl
   . exact (lN (h.blk x hx)).2 l hl
theorem po {b:bp} (h:Bo64 b):(prW b).length≤700000:=by
 have:=pp (oK h).1 (oK h).2
 unfold prW; omega
theorem sG:∀ (l:Wd) (ls:List Wd),ae 10 (l :: ls)++[10]=(l :: ls).flatMap (·++[10])
 | l,[]=>by simp [ae]
 | l,m :: ls=>by rw [jh,List.append_assoc,List.cons_append,sG m ls]; simp
theorem aM {α:Type} {a b:List α} (h:a.length + b.length≤1000000000):app a b=some (a++b):=aj (by omega)
theorem Cm (s:az) (h:Sg64 s) (pre:List Wd) (hp:pre.length≤100000):loop (nR s) (pre,0)=some (pre++s.2.2.1.map (fun t=>ae 32 [bN,tyW t])):=by
 have h0:=h.na
 rw [dI s.2.2.1 (fun t=>[ae 32 [bN,tyW t]]) pre 1 (by simp) (fun k hk acc ha=>by
   unfold nR bC
   obtain ⟨t1,t2⟩:=h.args s.2.2.1[k] (List.getElem_mem hk)
   have tl:=fP bN (by simp) t1 t2
   simp only [dlt hk,cond_true,ai hk,Option.bind_some,pA _ (show s.2.2.1[k].length≤100000 by omega) t1,an hk (by omega)]
   rw [dy (Nat.le_trans tl (by decide)) (by simp)]
   simp only [Option.bind_some]
   rw [aM (by simp; omega)]; rfl) (fun acc=>by unfold nR; simp only [dge (show ¬ s.2.2.1.length < s.2.2.1.length by omega),cond_false]),qk]
theorem Ez (b:bp) (h:Bo64 b):lz b=some (prW b):=by
 unfold lz
 have l1:=av h.uni; have l2:=av h.reg
 have hb:=jj (w:=c9) (by simp) h.nb h.bnd
 have hg:=fP cG (by simp) h.ret.1 h.ret.2
 have n1:=h.nl; have n2:=h.nsg; have n3:=h.nx
 have e1:=xi [98,111,117,110,100,115] b.2.2.1 (by simp) h.nb h.bnd
 simp only [cC _ h.uni,cC _ h.reg,Option.bind_some,e1,pA _ (show b.2.2.2.2.1.length≤100000 by have:=h.ret.2; omega) h.ret.1,bC]
 rw [dy (by simp [ae]; omega) (by simp)]
 simp only [Option.bind_some]
 rw [dI b.2.2.2.1 (fun t=>[ae 32 [bF,tyW t]]) _ 1 (by simp) (fun k hk acc ha=>by
   unfold rE bC
   obtain ⟨t1,t2⟩:=h.loc b.2.2.2.1[k] (List.getElem_mem hk)
   have tl:=fP bF (by simp) t1 t2
   simp only [List.length_cons,List.length_nil] at ha
   simp only [dlt hk,cond_true,ai hk,Option.bind_some,pA _ (show b.2.2.2.1[k].length≤100000 by omega) t1,an hk (by omega)]
   rw [dy (Nat.le_trans tl (by decide)) (by simp)]
   simp only [Option.bind_some]
   rw [aM (by simp; omega)]; rfl) (fun acc=>by unfold rE; simp only [dge (show ¬ b.2.2.2.1.length < b.2.2.2.1.length by omega),cond_false]),qk]
 simp only [Option.bind_some]
 rw [dy (show (ae 32 [cG,tyW b.2.2.2.2.1]).length≤1000000000 by omega) (by simp)]
 simp only [Option.bind_some]
 rw [aM (by simp; omega)]
 simp only [Option.bind_some]
 rw [dI b.2.2.2.2.2.1 ca _ 22 (fun s hs=>(jo (h.sig s hs)).1) (fun k hk acc ha=>by
   unfold rD bC
   have hs:=h.sig b.2.2.2.2.2.1[k] (List.getElem_mem hk)
   have ha':acc.length≤1000:=by simp at ha; omega
   generalize hse:b.2.2.2.2.2.1[k]=s at hs
   have s1:=av hs.par; have s2:=tyL hs.ret.1 hs.ret.2
   have e2:=xi [110,101,101,100,115] s.2.1 (by simp) hs.nb hs.bnd
   simp only [dlt hk,cond_true,ai hk,hse,Option.bind_some,cC _ hs.par,pA _ (show s.2.2.2.length≤100000 by have:=hs.ret.2; omega) hs.ret.1,e2,an hk (by omega)]
   rw [dy (by simp [ae]; omega) (by simp)]
   simp only [Option.bind_some]
   rw [aM (by simp; omega)]
   simp only [Option.bind_some]
   rw [Cm s hs _ (by simp; omega)]
   simp [ca]) (fun acc=>by unfold rD; simp only [dge (show ¬ b.2.2.2.2.2.1.length < b.2.2.2.2.2.1.length by omega),cond_false])]
 simp only [Option.bind_some]
 have hsl:=fI ca 22 b.2.2.2.2.2.1 (fun s hs=>(jo (h.sig s hs)).1)
 generalize hSS:b.2.2.2.2.2.1.flatMap ca=SS at hsl
 rw [dI b.2.2.2.2.2.2 cP _ 26 (fun s hs=>(lN (h.blk s hs)).1) (fun k hk acc ha=>by
   unfold rF
   have hx:=h.blk b.2.2.2.2.2.2[k] (List.getElem_mem hk)
   have ha':acc.length≤2000:=by simp at ha; omega
   generalize hxe:b.2.2.2.2.2.2[k]=x at hx
   have e2:lH (x.2.1,x.2.2.1,x.2.2.2.1,x.2.2.2.2.1,x.2.2.2.2.2.1,x.2.2.2.2.2.2)=_:=FN x.2 hx.tm
   have n4:=hx.ns
   simp only [dlt hk,cond_true,ai hk,hxe,Option.bind_some,e2,an hk (by omega)]
   rw [aM (by simp; omega)]
   simp only [Option.bind_some]
   rw [dI x.1 (fun s=>[ae 32 (bM s)]) _ 1 (by simp) (fun j hj ac hac=>by
     unfold rB
     have hq:=hx.st x.1[j] (List.getElem_mem hj)
     have hac':ac.length≤3000:=by simp at hac; omega
     simp only [dlt hj,cond_true,ai hj,Option.bind_some,show lE (x.1[j].1,x.1[j].2.1,x.1[j].2.2.1,x.1[j].2.2.2.1,x.1[j].2.2.2.2)=_ from Fv x.1[j] hq.1 hq.2.1 hq.2.2,an hj (by omega)]
     rw [aM (by simp; omega)]; rfl) (fun ac=>by unfold rB; simp only [dge (show ¬ x.1.length < x.1.length by omega),cond_false]),qk]
   simp only [Option.bind_some]
   rw [aM (by simp; omega)]
   simp [cP]) (fun acc=>by unfold rF; simp only [dge (show ¬ b.2.2.2.2.2.2.length < b.2.2.2.2.2.2.length by omega),cond_false])]
 simp only [Option.bind_some]
 subst hSS
 have hpl:=po h
 have hln:=(oK h).1
 have e3:(([ae 32 [[114,101,103,105,111,110,115],text b.1,text b.2.1],ae 32 ([98,111,117,110,100,115] :: b.2.2.1.map pair)]:List Wd)++b.2.2.2.1.map (fun t=>ae 32 [bF,tyW t])++[ae 32 [[103,105,118,101,115],tyW b.2.2.2.2.1]]++b.2.2.2.2.2.1.flatMap ca++b.2.2.2.2.2.2.flatMap cP)=bD b:=by
   simp [bD]
 rw [e3]
 have e4:ae 10 (bD b)++[10]=prW b:=sG _ _
 have e5:=congrArg List.length e4
 rw [List.length_append,List.length_singleton] at e5
 rw [jt (by omega) (by omega)]
 simp only [Option.bind_some]
 rw [aM (by simp; omega)]
 rw [e4]; rfl
theorem BS (s:az) (h:Sg64 s) (pre:Wd) (hp:pre.length≤1000000):loop (nL s) (pre,0)=some (pre++(s.2.2.1.map (fun t=>ae 32 [bN,tyW t])).flatMap (·++[10])):=by
 have h0:=h.na
 rw [dI s.2.2.1 (fun t=>ae 32 [bN,tyW t]++[10]) pre 501 (fun t ht=>by have:=fP bN (by simp) (h.args t ht).1 (h.args t ht).2; simp only [List.length_append,List.length_singleton]; omega) (fun k hk acc ha=>by
   unfold nL
   obtain ⟨t1,t2⟩:=h.args s.2.2.1[k] (List.getElem_mem hk)
   have tl:=tyL t1 t2
   have ha':acc.length≤2000000:=by omega
   simp only [dlt hk,cond_true,ai hk,Option.bind_some,o7 _ (show s.2.2.1[k].length≤100000 by omega) t1,an hk (by omega)]
   rw [aM (by simp; omega)]
   simp only [Option.bind_some]
   rw [aM (by simp; omega)]
   simp only [Option.bind_some]
   rw [aM (by simp; omega)]
   simp [ae]) (fun acc=>by unfold nL; simp only [dge (show ¬ s.2.2.1.length < s.2.2.1.length by omega),cond_false]),List.flatMap_map]
theorem Aj {s:az} (h:Sg64 s):((ca s).flatMap (·++[10])).length≤50000:=by have:=pp (jo h).1 (jo h).2; omega
theorem Li {x:aD} (h:Bk64 x):((cP x).flatMap (·++[10])).length≤60000:=by have:=pp (lN h).1 (lN h).2; omega
theorem Dk (b:bp) (h:Bo64 b):lb b=some (prW b):=by
 unfold lb
 have l1:=av h.uni; have l2:=av h.reg
 have hb:=jj (w:=c9) (by simp) h.nb h.bnd
 have hg:=tyL h.ret.1 h.ret.2
 have n1:=h.nl; have n2:=h.nsg; have n3:=h.nx
 have e1:=wZ [98,111,117,110,100,115] b.2.2.1 (by simp) h.nb h.bnd
 simp only [cV _ h.uni,cV _ h.reg,Option.bind_some,e1,o7 _ (show b.2.2.2.2.1.length≤100000 by have:=h.ret.2; omega) h.ret.1]
 rw [aM (by simp; omega)]
 simp only [Option.bind_some]
 rw [aM (by simp; omega)]
 simp only [Option.bind_some]
 rw [aM (by simp; omega)]
 simp only [Option.bind_some]
 rw [aM (by simp; omega)]
 simp only [Option.bind_some]
 generalize hB:ae 32 ([98,111,117,110,100,115] :: b.2.2.1.map pair)=bl at hb
 rw [aM (by simp; omega)]
 simp only [Option.bind_some]
 rw [aM (by simp; omega)]
 simp only [Option.bind_some]
 rw [dI b.2.2.2.1 (fun t=>ae 32 [bF,tyW t]++[10]) _ 501 (fun t ht=>by have:=fP bF (by simp) (h.loc t ht).1 (h.loc t ht).2; simp only [List.length_append,List.length_singleton]; omega) (fun k hk acc ha=>by
   unfold rm
   obtain ⟨t1,t2⟩:=h.loc b.2.2.2.1[k] (List.getElem_mem hk)
   have tl:=tyL t1 t2
   have ha':acc.length≤2000000:=by simp at ha; omega
   simp only [dlt hk,cond_true,ai hk,Option.bind_some,o7 _ (show b.2.2.2.1[k].length≤100000 by omega) t1,an hk (by omega)]
   rw [aM (by simp; omega)]
   simp only [Option.bind_some]
   rw [aM (by simp; omega)]
   simp only [Option.bind_some]
   rw [aM (by simp; omega)]
   simp [ae]) (fun acc=>by unfold rm; simp only [dge (show ¬ b.2.2.2.1.length < b.2.2.2.1.length by omega),cond_false])]
 simp only [Option.bind_some]
 have hll:=fI (fun t=>ae 32 [bF,tyW t]++[10]) 501 b.2.2.2.1 (fun t ht=>by have:=fP bF (by simp) (h.loc t ht).1 (h.loc t ht).2; simp only [List.length_append,List.length_singleton]; omega)
 generalize hL:b.2.2.2.1.flatMap (fun t=>ae 32 [bF,tyW t]++[10])=LL at hll
 rw [aM (by simp; omega)]
 simp only [Option.bind_some]
 rw [aM (by simp; omega)]
 simp only [Option.bind_some]
 rw [aM (by simp; omega)]
 simp only [Option.bind_some]
 rw [dI b.2.2.2.2.2.1 (fun s=>(ca s).flatMap (·++[10])) _ 50000 (fun s hs=>Aj (h.sig s hs)) (fun k hk acc ha=>by
   unfold rq
   have hs:=h.sig b.2.2.2.2.2.1[k] (List.getElem_mem hk)
   have ha':acc.length≤300000:=by simp at ha; omega
   generalize hse:b.2.2.2.2.2.1[k]=s at hs
   have s1:=av hs.par; have s2:=tyL hs.ret.1 hs.ret.2
   have e2:=wZ [110,101,101,100,115] s.2.1 (by simp) hs.nb hs.bnd
   have e3:=jj (w:=cX) (by simp) hs.nb hs.bnd
   simp only [dlt hk,cond_true,ai hk,hse,Option.bind_some,cV _ hs.par,o7 _ (show s.2.2.2.length≤100000 by have:=hs.ret.2; omega) hs.ret.1,e2,an hk (by omega)]
   generalize hN:ae 32 ([110,101,101,100,115] :: s.2.1.map pair)=nl at e3
   rw [aM (by simp; omega)]
   simp only [Option.bind_some]
   rw [aM (by simp; omega)]
   simp only [Option.bind_some]
   rw [aM (by simp; omega)]
   simp only [Option.bind_some]
   rw [aM (by simp; omega)]
   simp only [Option.bind_some]
   rw [aM (by simp; omega)]
   simp only [Option.bind_some]
   rw [aM (by simp; omega)]
   simp only [Option.bind_some]
   rw [aM (by simp; omega)]
   simp only [Option.bind_some]
   rw [BS s hs _ (by simp; omega)]
   subst hN
   simp [ca,ae]) (fun acc=>by unfold rq; simp only [dge (show ¬ b.2.2.2.2.2.1.length < b.2.2.2.2.2.1.length by omega),cond_false])]
 simp only [Option.bind_some]
 have hsl:=fI (fun s=>(ca s).flatMap (·++[10])) 50000 b.2.2.2.2.2.1 (fun s hs=>Aj (h.sig s hs))
 generalize hS:b.2.2.2.2.2.1.flatMap (fun s=>(ca s).flatMap (·++[10]))=SS at hsl
 rw [dI b.2.2.2.2.2.2 (fun x=>(cP x).flatMap (·++[10])) _ 60000 (fun s hs=>Li (h.blk s hs)) (fun k hk acc ha=>by
   unfold rk
   have hx:=h.blk b.2.2.2.2.2.2[k] (List.getElem_mem hk)
   have ha':acc.length≤1000000:=by simp at ha; omega
   have hx0:aa b.2.2.2.2.2.2 (k:Int)=some b.2.2.2.2.2.2[k]:=ai hk
   generalize hxe:b.2.2.2.2.2.2[k]=x at hx hx0
   have e2:ly (x.2.1,x.2.2.1,x.2.2.2.1,x.2.2.2.2.1,x.2.2.2.2.2.1,x.2.2.2.2.2.2)=_:=EJ x.2 hx.tm
   have n4:=hx.ns
   have e3:=Aa hx.tm
   simp only [dlt hk,cond_true,hx0,Option.bind_some,e2,an hk (by omega)]
   rw [aM (by simp; omega)]
   simp only [Option.bind_some]
   rw [dI x.1 (fun s=>ae 32 (bM s)++[10]) _ 101 (fun s hs=>by have:=pZ (hx.st s hs); simp only [List.length_append,List.length_singleton]; omega) (fun j hj ac hac=>by
     unfold rz
     have hq:=hx.st x.1[j] (List.getElem_mem hj)
     have hac':ac.length≤2000000:=by simp at hac; omega
     have hsl2:=pZ hq
     simp only [hx0,Option.bind_some,dlt hj,cond_true,ai hj,show lw (x.1[j].1,x.1[j].2.1,x.1[j].2.2.1,x.1[j].2.2.2.1,x.1[j].2.2.2.2)=_ from Eu x.1[j] hq.1 hq.2.1 hq.2.2,an hj (by omega)]
     rw [aM (by omega)]
     simp only [Option.bind_some]
     rw [aM (by simp; omega)]
     simp) (fun ac=>by unfold rz; simp only [hx0,Option.bind_some,dge (show ¬ x.1.length < x.1.length by omega),cond_false])]
   simp only [Option.bind_some]
   have hq:=fI (fun s=>ae 32 (bM s)++[10]) 101 x.1 (fun s hs=>by have:=pZ (hx.st s hs); simp only [List.length_append,List.length_singleton]; omega)
   generalize hF:x.1.flatMap (fun s=>ae 32 (bM s)++[10])=FF at hq
   rw [aM (by simp; omega)]
   simp only [Option.bind_some]
   rw [aM (by simp; omega)]
   subst hF
   simp [cP,List.flatMap_map]) (fun acc=>by unfold rk; simp only [dge (show ¬ b.2.2.2.2.2.2.length < b.2.2.2.2.2.2.length by omega),cond_false])]
 simp only [Option.bind_some]
 subst hB; subst hL; subst hS
 unfold prW bD
 simp [ae,List.flatMap_map,List.flatMap_assoc]
theorem FP {b:Bo} (h:(jU b).1=0) {x:Blk} (hx:x∈b.2.2.2.2.2.2):(∀ s∈x.1,sE b.2.2.2.1 b.2.1 s=0)∧tE (dD b) x.2=0:=by
 have hn:eZ b x=none:=by
   unfold jU at h
   cases hf:b.2.2.2.2.2.2.findIdx? (fun x=>(eZ b x).isSome) with
   | none =>
     have:=List.findIdx?_eq_none_iff.1 hf x hx
     simpa using this
   | some k =>
     exfalso
     obtain ⟨hk,h5,_⟩:=List.findIdx?_eq_some_iff_getElem.1 hf
     have e:b.2.2.2.2.2.2.getD k ([],0,0,0,[],[],[])=b.2.2.2.2.2.2[k]:=by simp [List.getD,hk]
     rw [hf] at h
     simp only [e] at h
     generalize b.2.2.2.2.2.2[k]=y at h h5
     unfold eZ at h h5
     cases hg:y.1.findIdx? (fun s=>!decide (sE b.2.2.2.1 b.2.1 s=0)) with
     | some j =>
       obtain ⟨hj,h6,_⟩:=List.findIdx?_eq_some_iff_getElem.1 hg
       have e2:y.1.getD j (0,0,0,0,false)=y.1[j]:=by simp [List.getD,hj]
       rw [hg] at h
       simp only [mK,e2] at h
       simp [h] at h6
     | none =>
       rw [hg] at h h5
       by_cases q:tE (dD b) y.2=0
       . simp [q] at h5
       . simp [q,mK] at h
 unfold eZ at hn
 cases hg:x.1.findIdx? (fun s=>!decide (sE b.2.2.2.1 b.2.1 s=0)) with
 | some j=>rw [hg] at hn; cases hn
 | none =>
   rw [hg] at hn
   refine ⟨fun s hs=>by have:=List.findIdx?_eq_none_iff.1 hg s hs; simpa using this,?_⟩
   by_cases q:tE (dD b) x.2=0
   . exact q
   . simp [q] at hn
theorem p9 {n:Int} {t:List St} (h:rin n t=false) (hn:n≤65536):∀ x∈t,In x.1:=fun x hx=>by have:=E0 h hx; constructor <;> omega
theorem mL {n:Int} {l:List Int} (h:bad n l=false) (hn:n≤65536):∀ x∈l,In x:=fun x hx=>by
 have:=List.any_eq_false.1 h x hx
 simp at this
 constructor <;> omega
theorem yR {n:Int} {c:Int×Int} (h:cS n c=false) (hn:n≤65536):In c.1∧In c.2:=by
 unfold cS at h
 simp only [Bool.or_eq_false_iff,decide_eq_false_iff_not] at h
 refine ⟨⟨by omega,by omega⟩,by omega,by omega⟩
theorem zF {L:List (List St)} {d:Int} (h:loc L d=true) (hn:L.length≤65536):In d:=by
 unfold loc at h
 simp only [Bool.and_eq_true,decide_eq_true_eq] at h
 constructor <;> omega
theorem Kz {b:Bo} (h:Sm b) (hv:(vck b).1=0):BoOk b:=by
 unfold vck at hv
 obtain ⟨v1,hv⟩:=jr hv
 obtain ⟨v2,hv⟩:=jr hv
 obtain ⟨v3,hv⟩:=jr hv
 obtain ⟨v4,hv⟩:=jr hv
 obtain ⟨v5,hv⟩:=jr hv
 obtain ⟨v6,v7⟩:=jr hv
 have a1:1≤b.1∧b.1≤b.2.1∧b.2.1≤65536:=by
   unfold mP at v1
   by_cases q:b.1 < 1∨b.2.1 < b.1
   . rw [if_pos q] at v1; cases v1
   . rw [if_neg q] at v1
     by_cases q2:65536 < b.2.1
     . rw [if_pos q2] at v1; cases v1
     . omega
 have i0:In 0:=by constructor <;> decide
 refine ⟨⟨by omega,by omega⟩,⟨by omega,by omega⟩,?_,by have:=h.bounds; omega,?_,by have:=h.locals; omega,?_,?_,by have:=h.sigs; omega,?_,by have:=h.blocks; omega⟩
 . intro c hc
   unfold mg at v2
   cases hf:b.2.2.1.findIdx? (cS b.1) with
   | some k=>rw [hf] at v2; cases v2
   | none=>exact yR (List.findIdx?_eq_none_iff.1 hf c hc) (by omega)
 . intro t ht
   unfold mX at v3
   by_cases q:b.2.2.2.1=[]
   . rw [q] at ht; cases ht
   . rw [if_neg q] at v3
     cases hf:b.2.2.2.1.findIdx? (fun t=>!decide (rck b.2.1 t=0)) with
     | some k =>
       exfalso
       obtain ⟨hk,h5,_⟩:=List.findIdx?_eq_some_iff_getElem.1 hf
       have e:b.2.2.2.1.getD k []=b.2.2.2.1[k]:=by simp [List.getD,hk]
       rw [hf] at v3
       simp only [e] at v3
       simp [v3] at h5
     | none =>
       have:=List.findIdx?_eq_none_iff.1 hf t ht
       have:=lZ (show rck b.2.1 t=0 by simpa using this)
       exact ⟨p9 this.2 (by omega),by omega⟩
 . unfold mV at v4
   by_cases q:rck b.1 b.2.2.2.2.1=0
   . have:=lZ q
     exact ⟨p9 this.2 (by omega),by omega⟩
   . rw [if_neg q] at v4; exact absurd v4 q
 . intro s hs
   unfold m5 at v5
   cases hf:b.2.2.2.2.2.1.findIdx? (fun s=>!decide (chk s=0)) with
   | some k =>
     exfalso
     obtain ⟨hk,h5,_⟩:=List.findIdx?_eq_some_iff_getElem.1 hf
     have e:b.2.2.2.2.2.1.getD k (0,[],[],[])=b.2.2.2.2.2.1[k]:=by simp [List.getD,hk]
     rw [hf] at v5
     simp only [e] at v5
     simp [v5] at h5
   | none =>
     have:=List.findIdx?_eq_none_iff.1 hf s hs
     obtain ⟨c1,c2,c3,c4,c5,c6,c7,c8⟩:=xE (show chk s=0 by simpa using this)
     exact ⟨⟨by omega,by omega⟩,fun c hc=>yR (c5 c hc) (by omega),by omega,fun t ht=>⟨p9 (c6 t ht).2 (by omega),by have:=(c6 t ht).1; omega⟩,by omega,p9 c8 (by omega),by omega⟩
 . intro x hx
   obtain ⟨z1,z2⟩:=FP v7 hx
   have hst:=h.stmts hx
   have hL:=h.locals
   refine ⟨fun s hs=>?_,by omega,?_⟩
   . obtain ⟨f,d,r,g⟩:=Ew h (z1 s hs)
     obtain ⟨k,sd,ss,sr,m⟩:=s
     unfold fOk at f
     simp only [Bool.and_eq_true,Bool.or_eq_true,decide_eq_true_eq,Bool.not_eq_true'] at f
     obtain ⟨⟨⟨⟨f1,f2⟩,f3⟩,f4⟩,f5⟩:=f
     dsimp only at f1 f2 f3 f4 f5 d r g
     refine ⟨⟨f1,f2⟩,?_,?_,?_,?_,?_,?_⟩
     . rcases f3 with f3 | f3
       . exact zF (d f3) (by omega)
       . show In sd; rw [f3]; exact i0
     . rcases f4 with f4 | f4
       . exact zF (r f4) (by omega)
       . show In ss; rw [f4]; exact i0
     . rcases f5 with f5 | f5
       . have:=g f5; exact ⟨by show 0≤sr; omega,by show sr≤_; omega⟩
       . show In sr; rw [f5.1]; exact i0
     . intro hk
       rcases f3 with f3 | f3
       . exfalso; unfold fT at f3; simp at f3; dsimp only at hk; omega
       . exact f3
     . intro hk
       rcases f4 with f4 | f4
       . exfalso; unfold fV at f4; simp at f4; dsimp only at hk; omega
       . exact f4
     . intro h2 h3
       rcases f5 with f5 | f5
       . exfalso; unfold gO at f5; simp at f5; dsimp only at h2 h3; omega
       . exact f5
   . obtain ⟨g1,g2,g3,g4,g5⟩:=EG h hx z2
     obtain ⟨l1,l2,l3⟩:=h.term x hx
     obtain ⟨t1,_⟩:=Cr g1
     have hb:=h.blocks
     have hs:=h.sigs
     generalize hy:x.2=y at *
     obtain ⟨k,s,d,T,A,P⟩:=y
     have gT:∀ n∈T,In n:=mL g2 (by show ((b.2.2.2.2.2.2.length:Nat):Int)≤_; omega)
     have gA:∀ n∈A,In n:=mL g3 (by show ((b.2.2.2.1.length:Nat):Int)≤_; omega)
     have gP:∀ n∈P,In n:=mL g4 (by show b.2.1≤_; omega)
     have hc:jI (k,s,d,T,A,P)=false→s=0∧d=0∧P=[]:=by
       intro hc
       unfold jI at hc
       simp only [Bool.or_eq_false_iff,Bool.not_eq_false',decide_eq_true_eq,decide_eq_false_iff_not] at hc
       exact ⟨hc.1.1,hc.1.2,List.length_eq_zero_iff.1 (by omega)⟩
     unfold pR at t1
     dsimp only at t1 l1 l2 l3 g5
     by_cases k1:k=1
     . subst k1
       simp at t1
       obtain ⟨rfl,rfl,rfl⟩:=hc t1.2
       obtain rfl:=t1.1.2
       exact ⟨⟨by show (1:Int)≤1; decide,by show (1:Int)≤4; decide⟩,i0,i0,gT,gA,gP,by show T.length≤_; omega,by simp,by simp,fun _=>⟨rfl,rfl,rfl⟩,fun h=>(by cases h),fun _=>rfl⟩
     rw [if_neg k1] at t1
     by_cases k2:k=2
     . subst k2
       simp at t1
       obtain ⟨rfl,rfl,rfl⟩:=hc t1.2
       exact ⟨⟨by show (1:Int)≤2; decide,by show (2:Int)≤4; decide⟩,i0,i0,gT,gA,gP,by show T.length≤_; omega,by show A.length≤_; omega,by simp,fun _=>⟨rfl,rfl,rfl⟩,fun h=>(by cases h),fun h=>by rcases h with h | h <;> cases h⟩
     rw [if_neg k2] at t1
     by_cases k3:k=3
     . subst k3
       simp at t1
       obtain ⟨rfl,rfl,rfl⟩:=hc t1.2
       obtain ⟨⟨rfl,rfl⟩,_⟩:=t1
       exact ⟨⟨by decide,by decide⟩,i0,i0,gT,gA,gP,by simp,by simp,by simp,fun _=>⟨rfl,rfl,rfl⟩,fun _=>rfl,fun _=>rfl⟩
     rw [if_neg k3] at t1
     by_cases k4:k=4
     . subst k4
       obtain ⟨q1,q2⟩:=g5 rfl
       have i1:In d:=mL q1 (by show ((b.2.2.2.1.length:Nat):Int)≤_; omega) d (by simp)
       have i2:In s:=mL q2 (by show ((b.2.2.2.2.2.1.length:Nat):Int)≤_; omega) s (by simp)
       exact ⟨⟨by show (1:Int)≤4; decide,by show (4:Int)≤4; decide⟩,i2,i1,gT,gA,gP,by show T.length≤_; omega,by show A.length≤_; omega,by show P.length≤_; omega,fun h=>absurd rfl h,fun h=>(by cases h),fun h=>by rcases h with h | h <;> cases h⟩
     . rw [if_neg k4] at t1; cases t1
theorem LZ {b:Bo} (h:Sm b) (k:Tp.Ok pI b):Bo64 b:=by
 refine ⟨(bW k.1).2,(bW k.2.1).2,fun c hc=>⟨(bW (k.2.2.1.2 c hc).1).2,(bW (k.2.2.1.2 c hc).2).2⟩,h.bounds,fun t ht=>⟨fun x hx=>(bW ((k.2.2.2.1.2 t ht).2 x hx).1).2,h.loc t ht⟩,h.locals,⟨fun x hx=>(bW (k.2.2.2.2.1.2 x hx).1).2,h.ret⟩,fun s hs=>?_,h.sigs,fun x hx=>?_,h.blocks⟩
 . have q:=k.2.2.2.2.2.1.2 s hs
   obtain ⟨n1,n2,n3,n4⟩:=h.sig s hs
   exact ⟨(bW q.1).2,fun c hc=>⟨(bW (q.2.1.2 c hc).1).2,(bW (q.2.1.2 c hc).2).2⟩,n1,fun t ht=>⟨fun x hx=>(bW ((q.2.2.1.2 t ht).2 x hx).1).2,n4 t ht⟩,n2,fun x hx=>(bW (q.2.2.2.2 x hx).1).2,n3⟩
 . have q:=k.2.2.2.2.2.2.2 x hx
   obtain ⟨n1,n2,n3⟩:=h.term x hx
   have n4:=h.stmts hx
   refine ⟨fun s hs=>?_,by omega,⟨(bW q.2.2.1).2,(bW q.2.2.2.1).2,by omega,by omega,by omega,fun n hn=>(bW (q.2.2.2.2.1.2 n hn)).2,fun n hn=>(bW (q.2.2.2.2.2.1.2 n hn)).2,fun n hn=>(bW (q.2.2.2.2.2.2.2 n hn)).2⟩⟩
   have qs:=q.1.2 s hs
   exact ⟨(bW qs.2.1).2,(bW qs.2.2.1).2,(bW qs.2.2.2.1).2⟩
theorem HH {b:Bo} (h:Sm b):Fin38 b:=by
 have h1:=h.bounds; have h2:=h.locals; have h3:=h.ret; have h4:=h.sigs; have h5:=h.blocks
 refine ⟨by omega,by omega,fun t ht=>by have:=h.loc t ht; omega,by omega,by omega,fun s hs=>?_,by omega,fun x hx=>?_⟩
 . obtain ⟨n1,n2,n3,n4⟩:=h.sig s hs
   exact ⟨by omega,by omega,fun t ht=>by have:=n4 t ht; omega,by omega⟩
 . obtain ⟨n1,n2,n3⟩:=h.term x hx
   have n4:=h.stmts hx
   exact ⟨by omega,by omega,by omega,by omega⟩
end
section
open Go.RowKit Nu
structure C64 (z:ba):Prop where
 a:I64 z.2.1
 b:I64 z.2.2.1
 c:I64 z.2.2.2.1
 d:I64 z.2.2.2.2
theorem oG {c:ba} (h:C64 c):(bh c).length≤150:=by
 have t1:=av h.a; have t2:=av h.b; have t3:=av h.c; have t4:=av h.d
 have e:=sf c.2.1
 have hp:=rY h.a h.b
 unfold bh
 by_cases q:c.1 < 0∨9 < c.1
 . rw [if_pos q]; simp
 . rw [if_neg q]
   obtain ⟨_,g⟩:=sM (k:=c.1) (by omega) (by omega)
   split
   . simp; omega
   . split
     . simp; omega
     . split
       . simp; omega
       . omega
theorem D3 (k:Int):(10:UInt8)∉dY k:=by
 by_cases h:1≤k∧k≤8
 . have:k=1∨k=2∨k=3∨k=4∨k=5∨k=6∨k=7∨k=8:=by omega
   rcases this with rfl | rfl | rfl | rfl | rfl | rfl | rfl | rfl <;> decide
 . unfold dY; rw [if_neg h]; decide
theorem EV {k:Int} (h0:0≤k) (h1:k≤9):(10:UInt8)∉gC k:=by
 rcases qq h0 h1 with rfl | rfl | rfl | rfl | rfl | rfl | rfl | rfl | rfl | rfl <;> decide
theorem CN (c:ba):(10:UInt8)∉bh c:=by
 have tn:∀ n:Int,(10:UInt8)∉text n:=fun n=>eM rfl
 have en:=D3 c.2.1
 have pn:(10:UInt8)∉pair (c.2.1,c.2.2.1):=by
   unfold pair; split
   . simp
   . simp [tn]
 unfold bh
 by_cases q:c.1 < 0∨9 < c.1
 . rw [if_pos q]; decide
 . rw [if_neg q]
   have nn:=EV (k:=c.1) (by omega) (by omega)
   split
   . simp [nn,tn]
   . split
     . simp [nn,pn]
     . split
       . simp [nn,en,tn]
       . exact nn
def dU (b:bp) (cs:List ba):Wd:=(bD b++df :: cs.map bh).flatMap (·++[10])
theorem wi {b:bp} {cs:List ba} (h:Bo64 b) (hc:∀ c∈cs,C64 c) (hl:cs.length≤12):(dU b cs).length≤730000:=by
 have h1:=po h
 have h2:=pp (ls:=df :: cs.map bh) (n:=13) (by simp; omega) (fun l hl'=>by
   rcases List.mem_cons.1 hl' with rfl | hl'
   . decide
   . obtain ⟨c,hc',rfl⟩:=List.mem_map.1 hl'
     have:=oG (hc c hc'); omega)
 unfold dU
 rw [List.flatMap_append,List.length_append]
 unfold prW at h1
 omega
theorem Eb {b:bp} {cs:List ba} (h:Bo64 b) (hc:∀ c∈cs,C64 c) (hl:cs.length≤12):nZ (b,cs)=some (dU b cs):=by
 unfold nZ
 have hlen:=wi h hc hl
 have h1:=gg (body:=kE (b,cs)) cs (fun k=>[df]++(cs.take k).map bh) (df :: cs.map bh) (fun k hk=>by
   have hm:=hc _ (List.getElem_mem hk)
   unfold kE
   simp only [dlt hk,cond_true,ai hk,Option.bind_some]
   rw [show iY (cs[k].1,cs[k].2.1,cs[k].2.2.1,cs[k].2.2.2.1,cs[k].2.2.2.2)=_ from xv cs[k] hm.a hm.b hm.c hm.d,Option.bind_some,aj (by simp; omega),Option.bind_some,an hk (by omega),bq hk,List.map_append,List.append_assoc]
   rfl) (by
   unfold kE
   simp only [dge (show ¬ cs.length < cs.length by omega),cond_false,List.take_length]; rfl)
 rw [show loop (kE (b,cs)) ([[116,104,101,110]],0)=_ from h1,Option.bind_some]
 have hp:=po h
 have hg:=sG df (cs.map bh)
 have e:prW b++ae 10 (df :: cs.map bh)++[10]=dU b cs:=by
   rw [List.append_assoc,hg]; unfold dU prW; rw [List.flatMap_append]
 have hgl:(ae 10 (df :: cs.map bh)).length≤730000:=by
   have:=congrArg List.length e; simp only [List.length_append] at this; omega
 rw [show lz b=_ from Ez b h,Option.bind_some,jt (by omega) (by simp; omega),Option.bind_some,aj (by omega),Option.bind_some,aj (by rw [List.length_append]; simp only [List.length_singleton]; omega),Option.bind_some,e]
theorem Dn {b:bp} {cs:List ba} (h:Bo64 b) (hc:∀ c∈cs,C64 c) (hl:cs.length≤12):n9 (b,cs)=some (dU b cs):=by
 unfold n9
 have hp:=po h
 have h1:=dI (body:=nS (b,cs)) cs (fun c=>bh c++[10]) (prW b++[116,104,101,110,10]) 151 (fun c hc'=>by have:=oG (hc c hc'); simp; omega) (fun k hk acc ha=>by
   have hm:=hc _ (List.getElem_mem hk)
   have hll:=oG hm
   rw [List.length_append] at ha
   simp only [List.length_cons,List.length_nil] at ha
   unfold nS
   simp only [dlt hk,cond_true,ai hk,Option.bind_some]
   rw [show ia (cs[k].1,cs[k].2.1,cs[k].2.2.1,cs[k].2.2.2.1,cs[k].2.2.2.2)=_ from xH cs[k] hm.a hm.b hm.c hm.d,Option.bind_some,aj (by omega),Option.bind_some,aj (by rw [List.length_append,List.length_singleton]; omega),Option.bind_some,an hk (by omega),List.append_assoc]) (fun acc=>by
   unfold nS
   simp only [dge (show ¬ cs.length < cs.length by omega),cond_false])
 rw [show lb b=_ from Dk b h,Option.bind_some,aj (by simp only [List.length_cons,List.length_nil]; omega),Option.bind_some,h1,Option.bind_some]
 refine congrArg some ?_
 unfold dU prW
 rw [List.flatMap_append,List.flatMap_cons,List.append_assoc,List.flatMap_map]
 simp [df]
def dQ (c:ba):Bool:=decide (bK (wds (bh c))=(c.1,c.2.1,c.2.2.1,c.2.2.2.1,c.2.2.2.2,0))
theorem B7 {ws:List Wd} (h:(bK ws).2.2.2.2.2=0):bj ws=false:=by
 cases ws with
 | nil=>exact absurd h (by decide)
 | cons w0 r =>
   have hk:¬ de w0 < 0:=fun hn=>by
     have:bK (w0 :: r)=bz 3:=by show iB _ _=_; unfold iB; rw [if_pos (.inl hn)]
     rw [this] at h; exact absurd h (by decide)
   unfold de at hk
   cases hf:aJ.findIdx? (fun x=>decide (x=w0)) with
   | none=>rw [hf] at hk; exact absurd (show (-1:Int) < 0 by decide) hk
   | some k =>
     obtain ⟨hk',h1,_⟩:=List.findIdx?_eq_some_iff_getElem.1 hf
     have h1:aJ[k]?.getD []=w0:=by rw [List.getElem?_eq_getElem hk']; simpa using h1
     subst h1
     have e:aJ.length=10:=rfl
     have:k=0∨k=1∨k=2∨k=3∨k=4∨k=5∨k=6∨k=7∨k=8∨k=9:=by omega
     rcases this with rfl | rfl | rfl | rfl | rfl | rfl | rfl | rfl | rfl | rfl <;> rfl
theorem y9:∀ (cs acc:List ba) (n:Int),(∀ c∈cs,dQ c=true)→acc.length + cs.length≤399→aH (cs.map bh++[[]]) acc n=(acc++cs,0,0)
 | [],acc,n,_,_=>by
   show aH [[]] acc n=_
   unfold aH; rw [if_pos (by decide)]; simp [aH]
 | c :: cs,acc,n,h,hl=>by
   rw [List.length_cons] at hl
   have hc:bK (wds (bh c))=(c.1,c.2.1,c.2.2.1,c.2.2.2.1,c.2.2.2.2,0):=by simpa [dQ] using h c (by simp)
   have hs:=B7 (ws:=wds (bh c)) (by rw [hc])
   have he:cD (wds (bh c)) acc=0:=by unfold cD; rw [hc,if_neg (by rintro ⟨_,h2⟩; omega)]
   rw [List.map_cons,List.cons_append]
   unfold aH
   rw [if_neg (by rw [hs]; decide),if_pos he,hc,y9 cs _ _ (fun x hx=>h x (by simp [hx])) (by rw [List.length_append,List.length_singleton]; omega),List.append_assoc]
   rfl
theorem fA {w:Wd} {ws:List Wd} (h:∀ q∈w :: ws,WdOk q) (hw:w≠df):bO (ae 32 (w :: ws))=false:=by
 unfold bO; rw [xY h]
 exact decide_eq_false (fun e=>hw (by injection e))
theorem zV {w:Wd} (h:decide (w∈cM 6)=true):w≠df:=by
 rintro rfl; exact absurd h (by decide)
theorem B9 {b:bp} (h:BoOk b):∀ l∈bD b,bO l=false:=by
 intro l hl
 unfold bD at hl
 rcases List.mem_cons.1 hl with rfl | hl
 . exact fA (w3 uA (WdOk.text h.uni.1) (WdOk.text h.reg.1)) (by decide)
 rcases List.mem_cons.1 hl with rfl | hl
 . exact fA (jK uh h.bnd) (by decide)
 rcases List.mem_append.1 hl with hl | hl
 . obtain ⟨t,ht,rfl⟩:=List.mem_map.1 hl
   exact fA (w2 uy (wTy (h.loc t ht).1)) (by decide)
 rcases List.mem_cons.1 hl with rfl | hl
 . exact fA (w2 ul (wTy h.ret.1)) (by decide)
 rcases List.mem_append.1 hl with hl | hl
 . obtain ⟨s,hs,hl⟩:=List.mem_flatMap.1 hl
   have hg:=h.sig s hs
   unfold ca at hl
   rcases List.mem_cons.1 hl with rfl | hl
   . exact fA (w3 ui (WdOk.text hg.par.1) (wTy hg.ret.1)) (by decide)
   rcases List.mem_cons.1 hl with rfl | hl
   . exact fA (jK tP hg.bnd) (by decide)
   obtain ⟨t,ht,rfl⟩:=List.mem_map.1 hl
   exact fA (w2 ur (wTy (hg.args t ht).1)) (by decide)
 . obtain ⟨x,hx,hl⟩:=List.mem_flatMap.1 hl
   have hk:=h.blk x hx
   unfold cP at hl
   rcases List.mem_cons.1 hl with rfl | hl
   . decide
   rcases List.mem_append.1 hl with hl | hl
   . obtain ⟨s,hs,rfl⟩:=List.mem_map.1 hl
     obtain ⟨h1,w,ws,e,h2,_⟩:=tf (hk.st s hs)
     rw [e] at h1 ⊢
     exact fA h1 (zV h2)
   . obtain rfl:=List.mem_singleton.1 hl
     obtain ⟨h1,w,ws,e,h2,_⟩:=tH hk.tm
     rw [e] at h1 ⊢
     exact fA h1 (zV h2)
theorem CA (A:List Wd) (r:List Wd) (h:∀ l∈A,bO l=false):(A++df :: r).findIdx? bO=some A.length:=by
 rw [List.findIdx?_eq_some_iff_getElem]
 refine ⟨by simp,?_,fun j hj=>?_⟩
 . rw [List.getElem_append_right (Nat.le_refl _)]
   simp only [Nat.sub_self,List.getElem_cons_zero]
   decide
 . rw [List.getElem_append_left hj,h _ (List.getElem_mem hj)]; decide
theorem CZ {b:bp} (h:BoOk b) (h64:Bo64 b):aL (bD b) P0 0=(b.1,b.2.1,b.2.2.1,b.2.2.2.1,b.2.2.2.2.1,b.2.2.2.2.2.1,b.2.2.2.2.2.2,0,0):=by
 obtain ⟨a,ha,e⟩:=CW h
 have h1:=yM (bD b) P0 _ 0 e
 rw [FL ha] at h1
 obtain ⟨l1,l2⟩:=oK h64
 have h2:=lS (bD b) P0 0 0 Iv.zero (by omega) (fun l hl=>by have:=l2 l hl; omega)
 rw [h2] at h1
 exact Option.some.inj h1
theorem BR {b:bp} {cs:List ba} (h:BoOk b):ak 10 (dU b cs)=bD b++df :: (cs.map bh++[[]]):=by
 unfold dU
 rw [wW _ (fun l hl=>by
   rcases List.mem_append.1 hl with hl | hl
   . exact Ed h l hl
   . rcases List.mem_cons.1 hl with rfl | hl
     . decide
     . obtain ⟨c,_,rfl⟩:=List.mem_map.1 hl
       exact CN c),List.append_assoc]; rfl
theorem DB {b:bp} {cs:List ba} (h:BoOk b) (h64:Bo64 b) (hm:∀ c∈cs,dQ c=true) (hl:cs.length≤12):eV (ak 10 (dU b cs))=(b.1,b.2.1,b.2.2.1,b.2.2.2.1,b.2.2.2.2.1,b.2.2.2.2.2.1,b.2.2.2.2.2.2,cs,0,0):=by
 rw [BR h]
 unfold eV
 rw [CA _ _ (B9 h)]
 dsimp only
 have e1:(bD b++df :: (cs.map bh++[[]])).take (bD b).length=bD b:=by simp
 have e2:(bD b++df :: (cs.map bh++[[]])).drop ((bD b).length + 1)=cs.map bh++[[]]:=by
   rw [← List.drop_drop,List.drop_left]; rfl
 rw [e1,e2,CZ h h64,y9 cs [] _ hm (by simp; omega)]
 rfl
theorem EU (b:bp) (l:List ba) (hl:l.length≤1000000):om (b,l)=some (b.1,b.2.1,b.2.2.1,b.2.2.2.1,b.2.2.2.2.1,b.2.2.2.2.2.1,b.2.2.2.2.2.2,l):=by
 unfold om
 have h:=cg (body:=kP (b,l)) (fun j:Nat=>((j:Int),l.take j)) l.length (b:=l) (fun k hk=>by
   unfold kP
   simp only [dlt hk,cond_true,ai hk,Option.bind_some,an hk (by omega)]
   rw [aj (by rw [List.length_take,List.length_singleton]; omega),Option.bind_some,bq hk]) (by
   unfold kP
   simp only [dge (show ¬ l.length < l.length by omega),cond_false,List.take_length])
 rw [show loop (kP (b,l)) (0,[])=some l from h]; rfl
theorem Dx (b:bp) (cs:List ba) (hc:∀ c∈cs,C64 c) (hl:cs.length≤12):loop (kv (b,cs)) (true,0)=some (cs.all dQ):=by
 have h:=gg (body:=kv (b,cs)) cs (fun k=>(cs.take k).all dQ) (cs.all dQ) (fun k hk=>by
   have hm:=hc _ (List.getElem_mem hk)
   have hll:=oG hm
   unfold kv
   simp only [dlt hk,cond_true,ai hk,Option.bind_some,an hk (by omega)]
   rw [show ia (cs[k].1,cs[k].2.1,cs[k].2.2.1,cs[k].2.2.2.1,cs[k].2.2.2.2)=_ from xH cs[k] hm.a hm.b hm.c hm.d,Option.bind_some,pw _ (by omega),Option.bind_some,vS _ (fun x hx=>by have:=so (n:=150) hll x hx; omega),Option.bind_some,bq hk,List.all_append]
   have e:[cs[k]].all dQ=dQ cs[k]:=by simp
   rw [e]
   unfold dQ
   generalize bK (wds (bh cs[k]))=q
   obtain ⟨q1,q2,q3,q4,q5,q6⟩:=q
   dsimp only
   cases ht:(cs.take k).all dQ with
   | false=>unfold dQ at ht; rw [ht]; rfl
   | true =>
     unfold dQ at ht; rw [ht]
     by_cases h6:q6=0
     . subst h6
       simp only [decide_true,cond_true,Prod.mk.injEq,Bool.true_and,and_true,Bool.decide_and]
     . simp [h6]) (by
   unfold kv
   simp only [dge (show ¬ cs.length < cs.length by omega),cond_false,List.take_length])
 exact h
theorem A4 (xa:Bo×List ba) (k0:Tp.Ok (.cons pI (.one (.sl (.cons (.int .i64) (.one (.cons (.int .i64) (.cons (.int .i64) (.cons (.int .i64) (.one (.int .i64)))))))))) xa) (q0:Tp.Fit (.cons pI (.one (.sl (.cons (.int .i64) (.one (.cons (.int .i64) (.cons (.int .i64) (.cons (.int .i64) (.one (.int .i64)))))))))) xa):rb xa=some true:=by
 obtain ⟨b,cs⟩:=xa
 obtain ⟨k0,kc⟩:=k0
 have q0:=q0.1
 unfold rb
 rw [EW]
 dsimp only
 have hsm:rK (b,cs)=(iZ b).bind fun t=>some (t&&decide (((cs.length:Nat):Int)≤12)):=rfl
 rw [hsm]
 rcases Fa b (DP q0) with hs | ⟨hs,h⟩
 . rw [hs]; rfl
 . rw [hs]
   by_cases hl:cs.length≤12
   . rw [Option.bind_some,decide_eq_true (p:=((cs.length:Nat):Int)≤12) (by omega)]
     have h64:=LZ h k0
     have hc:∀ c∈cs,C64 c:=fun c hc'=>by
       obtain ⟨_,o1,o2,o3,o4⟩:=kc.2 c hc'
       exact ⟨(bW o1).2,(bW o2).2,(bW o3).2,(bW o4).2⟩
     have hlen:=wi h64 hc hl
     have hL:=Lines.of (dU b cs) (by omega)
     obtain ⟨hf,hcl⟩:=Fd hL
     have eb:b=b:=rfl
     simp only [Bool.and_self,Bool.not_true,cond_false,Option.bind_some,eb]
     rw [EU b cs (by omega)]
     simp only [Option.bind_some,eb]
     rw [Eb h64 hc hl,Dn h64 hc hl]
     simp only [Option.bind_some,decide_true,Bool.not_true,cond_false]
     rw [Dx b cs hc hl,DR hL (by omega),D1 hL (by omega),show lI b=_ from okR h]
     have hshow:=fun hb hm=>DB (b:=b) (cs:=cs) hb h64 hm hl
     generalize eV (ak 10 (dU b cs))=r at *
     obtain ⟨u,n,B,L,R,S,X,C,x,y⟩:=r
     have hC:C.length≤400:=hcl
     simp only [Option.bind_some]
     rw [FH (u,n,B,L,R,S,X) C (by omega),Option.bind_some]
     dsimp only
     rw [yS (u,n,B,L,R,S,X) C hf (by omega)]
     simp only [Option.bind_some,Bool.not_true,cond_false,decide_true]
     cases hm:cs.all dQ with
     | false=>rfl
     | true =>
       by_cases hv:(vck b).1=0
       . have hr:=hshow (Kz h hv) (List.all_eq_true.1 hm)
         simp only [Prod.mk.injEq] at hr
         obtain ⟨rfl,rfl,rfl,rfl,rfl,rfl,rfl,rfl,rfl,rfl⟩:=hr
         rw [decide_eq_true hv]
         rw [show jc (b,C) (b,C)=some true from yS b C (HH h) (by omega)]
         rfl
       . rw [decide_eq_false hv]; rfl
   . rw [Option.bind_some,decide_eq_false (p:=((cs.length:Nat):Int)≤12) (by omega)]; rfl
end
theorem A9 {H:Type} (enc:TypeId×Value→H) (W:World) (base:Nat) {v0:Value} {d0:DataW H} {p0:List MemPlace}
   (h0:DataW.Trod enc Tryz.prog W 0 (fun _=>true) true 40 v0 d0 p0)
   (o0:Value.okWide Tryz.prog W .any base 40 v0)
   (w0:(d0.weights Tryz.prog 40).all (·≤reachBytes)=true)
   (hso:W.ShapedOpen Tryz.prog) :
   Calls Tryz.prog 4 #[v0] W fun e W'=>e = .returned (.bool true)∧Below W.heap.size W W':=by
 obtain ⟨xa,i0,k0⟩:=Tp.arg (.cons (.cons (.int .i64) (.cons (.int .i64) (.cons (.sl (.cons (.int .i64) (.one (.int .i64)))) (.cons (.sl (.one (.sl (.cons (.int .i64) (.one .bool))))) (.cons (.one (.sl (.cons (.int .i64) (.one .bool)))) (.cons (.sl (.cons (.int .i64) (.cons (.sl (.cons (.int .i64) (.one (.int .i64)))) (.cons (.sl (.one (.sl (.cons (.int .i64) (.one .bool))))) (.one (.one (.sl (.cons (.int .i64) (.one .bool))))))))) (.one (.sl (.cons (.sl (.cons (.int .i64) (.cons (.int .i64) (.cons (.int .i64) (.cons (.int .i64) (.one .bool)))))) (.one (.cons (.int .i64) (.cons (.int .i64) (.cons (.int .i64) (.cons (.sl (.int .i64)) (.cons (.sl (.int .i64)) (.one (.sl (.int .i64)))))))))))))))))) (.one (.sl (.cons (.int .i64) (.one (.cons (.int .i64) (.cons (.int .i64) (.cons (.int .i64) (.one (.int .i64)))))))))) (by kernel_rfl) o0 h0
 have q0:=Tp.argFit (.cons (.cons (.int .i64) (.cons (.int .i64) (.cons (.sl (.cons (.int .i64) (.one (.int .i64)))) (.cons (.sl (.one (.sl (.cons (.int .i64) (.one .bool))))) (.cons (.one (.sl (.cons (.int .i64) (.one .bool)))) (.cons (.sl (.cons (.int .i64) (.cons (.sl (.cons (.int .i64) (.one (.int .i64)))) (.cons (.sl (.one (.sl (.cons (.int .i64) (.one .bool))))) (.one (.one (.sl (.cons (.int .i64) (.one .bool))))))))) (.one (.sl (.cons (.sl (.cons (.int .i64) (.cons (.int .i64) (.cons (.int .i64) (.cons (.int .i64) (.one .bool)))))) (.one (.cons (.int .i64) (.cons (.int .i64) (.cons (.int .i64) (.cons (.sl (.int .i64)) (.cons (.sl (.int .i64)) (.one (.sl (.int .i64)))))))))))))))))) (.one (.sl (.cons (.int .i64) (.one (.cons (.int .i64) (.cons (.int .i64) (.cons (.int .i64) (.one (.int .i64)))))))))) (r := .any) (b:=base) (by kernel_rfl) (by kernel_rfl) h0 i0 w0
 exact Hj (s:=vm) (x:=xa) (args:=[v0]) AY (A4 xa k0 q0) (Gk.of hso) rfl rfl ⟨_,_,rfl,yZ _ i0,rfl⟩
end
end Go.Proofs.YtbheedkpbbmlcaaGreatDoor
namespace Go.Proofs.YtbheedkpbbmlcaaGreatDoor.scriptBackFrame
set_option maxRecDepth 40000
open Go.ChangeShapes Go.WideShapes Go.ChangeAt Go.RowKit
theorem own:ownKnob Tryz.prog.godebug=none:=by kernel_rfl
theorem DD (H:Type) (enc:TypeId×Value→H) (W:World) (base:Nat) (args:Array Value) (ds gs:List (DataW H)) (before:List MemPlace)
    (hval:∀ (j:Nat) t v,Tryz.f4.params[j]? = some t→args[j]? = some v→Value.okWide Tryz.prog W .any base t v)
    (hW:DataW.Whole enc Tryz.prog Tryz.f4.params.toList Rows.scriptBackSpec.vars false W args.toList ds gs before) (vt:List TypeId) (hwt:(DataW.weightsEach Tryz.prog (Tryz.f4.params.toList++vt) (ds++gs)).all (·≤reachBytes)=true) (hso:W.ShapedOpen Tryz.prog) :
    Calls Tryz.prog 4 args W fun e W'=>∃ v,e = .returned v∧Rows.scriptBackSpec.post enc Tryz.prog Tryz.f4 false true false false W args v W':=by
  have hW':=hW
  obtain ⟨p,q,hA0,hV,rfl,hfz,hnd⟩:=hW
  have hA:DataW.TrodAll enc Tryz.prog W 0 (fun _=>true) true Tryz.f4.params.toList args.toList ds p:=hA0
  rw [Tryz.params4] at hA hval hwt
  obtain ⟨v0,vs0,d0,ds0,p0,q0,hargs,rfl,rfl,h0,r0⟩:=trodAll_cons hA
  obtain ⟨rfl,rfl,rfl⟩:=trodAll_nil r0
  obtain rfl:args = #[v0]:=by cases args; simp_all
  refine (A9 enc W base h0 (hval 0 _ v0 rfl rfl) (mO _ _ hwt 0 _ _ rfl rfl) hso).mono fun e W' ⟨he,hb⟩=>?_
  subst he
  exact ⟨_,rfl,Dj (tb:=_) rfl hW' rfl rfl (by kernel_rfl) (by kernel_rfl) (of_decide_eq_true (by kernel_rfl)) hb⟩
noncomputable def jR (os:Os):World:=World.laidAll Tryz.prog os Rows.scriptBackRow.laid
theorem zL (os:Os) {H:Type} (enc:TypeId×Value→H):∃ x,DataW.whole enc Tryz.prog ((jR os).forCall (fun _ _=>0) ⟨#[],#[.agg #[.int .i64 0,.int .i64 0,.slice none 0 0,.slice none 0 0,.slice none 0 0,.slice none 0 0,.slice none 0 0,.slice none 0 0]],[]⟩).memory Tryz.f4.params.toList Rows.scriptBackSpec.vars false (#[.agg #[.int .i64 0,.int .i64 0,.slice none 0 0,.slice none 0 0,.slice none 0 0,.slice none 0 0,.slice none 0 0,.slice none 0 0]]:Array Value).toList 8=some x :=
  Option.isSome_iff_exists.1 (by kernel_rfl)
set_option maxRecDepth 100000 in
theorem FZ (os:Os) (started:os.Started) (H:Type) (enc:TypeId×Value→H) (F:Stop.Interp) :
    ReturnsInHanded {} Tryz.checked os 4 .any ((OpenSpec.ofChange Rows.scriptBackSpec).preRow enc Tryz.prog Tryz.f4 Rows.scriptBackRow.domain false Rows.scriptBackRow.laid) (((OpenSpec.ofChange Rows.scriptBackSpec).at F).post enc Tryz.prog Tryz.f4 false true false false):=by
  obtain ⟨x,hx⟩:=zL os enc
  refine returnsInHanded_of_row (C:=Tryz.checked) (s:=OpenSpec.ofChange Rows.scriptBackSpec) own started (by kernel_rfl) Tryz.func4
    ⟨jR os,fun _ _=>0,⟨#[],#[.agg #[.int .i64 0,.int .i64 0,.slice none 0 0,.slice none 0 0,.slice none 0 0,.slice none 0 0,.slice none 0 0,.slice none 0 0]],[]⟩,World.laidAll_os _ _ _,World.shaped_of_ZipB (by kernel_rfl) (by kernel_rfl),rfl,(Input.okWide_of_okWideB (by kernel_rfl)).2,
      OpenSpec.preRow_of_cond 8 hx (by kernel_rfl) (fun k hk=>by cases hk) (by kernel_rfl) (by rw [MakeChecks.laidMetH_plain _ _ _ (by kernel_rfl)]; exact laidMet_laidAll _ (by kernel_rfl) (by kernel_rfl)),
      by simp only [Assume.holds]; exact ⟨by simp,by simp,by simp,by simp,by simp⟩⟩ ?_
  intro W base args ds gs before hval hW _ _ hwt hL hso _
  exact DD H enc W base args ds gs before hval hW _ hwt hso
theorem FI:Rows.ScriptBackSaid :=
  OpenClaim.holds_of_cond 4 Tryz.f4 rfl rfl rfl rfl rfl rfl rfl ⟨rfl,rfl,rfl,rfl,rfl⟩ rfl rfl rfl rfl rfl (by kernel_rfl) Tryz.func4 (by kernel_rfl)
    (of_decide_eq_true (by kernel_rfl)) (by unfold Func.isWrapper; first | (rw [if_pos (by decide +kernel)]; kernel_rfl) | (rw [if_neg (by decide +kernel)]; exact ⟨rfl,rfl⟩))
    (fun os started H enc _ F=>by rw [OpenClaim.pre_eq_preRow]; exact FZ os started H enc F)
theorem card:Rows.ScriptBackCardSaid :=
  Claim7.holds_tied_plain_at .later [] [.data, .pinned] true (true, "7fe18f71664e24a9142e6264084bb1e8cc250e4547a5cf395da0109655615cd0") false FI (fun _ h => by cases h) (by kernel_rfl) (fun _ h => by cases h) scriptBack_row_tie rfl ⟨rfl, rfl⟩ (by kernel_rfl) rfl
    (fun f fn hf hfn=>by
      obtain rfl : f = 4 := Option.some.inj ((show Tryz.prog.funcNamed "easement/easementlaw42.ScriptBack" = some 4 by kernel_rfl).symm.trans hf) |>.symm
      obtain rfl:fn=Tryz.f4:=(Option.some.inj (Tryz.func4.symm.trans hfn)).symm
      exact ⟨by kernel_rfl,fun j t ht=>by
        rw [Tryz.params4] at ht
        have hm:t∈[40]:=by simpa using Array.mem_of_getElem? ht
        have hall:([40].all fun u=>!Tryz.prog.wantsStandIn u)=true:=by kernel_rfl
        exact (show Tryz.prog.wantsStandIn t=false by simpa using List.all_eq_true.1 hall t hm)⟩)
    (by kernel_rfl)
end Go.Proofs.YtbheedkpbbmlcaaGreatDoor.scriptBackFrame

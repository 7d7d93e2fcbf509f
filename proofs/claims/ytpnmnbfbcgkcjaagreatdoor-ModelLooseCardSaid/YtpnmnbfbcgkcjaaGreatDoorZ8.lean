/- 'easement/easementlaw30.ModelLoose' returns true for every input, and each argument DW afterwards as it read before: the row's frame round the walk. -/
import Derived.Test.YtpnmnbfbcgkcjaaGreatDoorZ7
import Derived.Test.YtpnmnbfbcgkcjaaGreatDoorRows
import Derived.Lib.LaidTab
import Derived.Test.YtpnmnbfbcgkcjaaGreatDoorCards
import Derived.Test.YtpnmnbfbcgkcjaaGreatDoorTie
import Derived.Lay
import Derived.SevenTiedAt
open Bool renaming and_eq_true→Y1,eq_false_iff→bo0,eq_iff_iff→bx0,false_eq_true→W7,false_or→cw0,not_eq_true'→bN0,not_false→aE0,not_true→X7,or_false→di0
open Decidable renaming byContradiction→dW0
open Int renaming eq_ofNat_of_zero_le→W6,le_refl→cn0,ofNat→ey0,tdiv→bc0,tdiv_eq_ediv_of_nonneg→dU0,toNat_natCast→W2,toNat_zero→cj0
open List renaming all_eq_true→aF0,any_append→fx0,any_eq_true→av0,append_assoc→X1,append_nil→Z6,countP_append→cv0,countP_congr→eZ0,countP_cons→bB0,countP_le_length→ca0,drop_eq_getElem_cons→aY0,drop_eq_nil_of_le→bH0,drop_length→fo0,drop_zero→ab0,eq_nil_iff_forall_not_mem→dM0,eq_nil_or_concat→dr0,ext_getElem→cl0,filterMap_append→ex0,filter_append→aB0,filter_congr→bm0,filter_cons→aZ0,filter_eq_nil_iff→aX0,filter_filter→dF0,filter_nil→fu0,flatMap_append→eL0,flatten_append→dD0,flatten_cons→cC0,foldl_append→dd0,foldl_cons→bF0,getD→ag0,getD_eq_getElem?_getD→bI0,getElem?_append_left→V6,getElem?_eq_getElem→Z0,getElem?_eq_some_iff→V4,getElem?_set→dc0,getElem?_set_ne→bC0,getElem?_set_self→cy0,getElem_append_left→ee0,getElem_idxOf→cW0,getElem_map→ck0,getElem_mem→X2,getElem_of_mem→Z8,getElem_range→bW0,getElem_take→cA0,idxOf_append→eX0,idxOf_lt_length_of_mem→bE0,length→W4,length_append→W3,length_cons→V9,length_eq_zero_iff→Z4,length_filterMap_le→ec0,length_filter_le→aa0,length_map→Y6,length_pos_iff→bl0,length_pos_of_mem→cx0,length_range→bk0,length_reverse→eK0,length_singleton→bb0,length_take→X4,map→cE0,map_append→X6,map_cons→X5,mem_append→V3,mem_append_left→af0,mem_append_right→ae0,mem_cons→Y4,mem_cons_of_mem→W5,mem_filter→ac0,mem_filterMap→dE0,mem_flatMap→fl0,mem_flatten→fk0,mem_map→Y7,mem_mergeSort→ct0,mem_of_mem_take→bg0,mem_range→V7,mem_reverse→dN0,mem_singleton→Y2,nil_append→aH0,nodup_append→aR0,nodup_cons→aw0,nodup_range→dj0,pairwise_append→aJ0,pairwise_cons→be0,pairwise_iff_getElem→am0,pairwise_map→cc0,pairwise_mergeSort→bR0,perm_append_comm→bv0,range→Z1,range_succ→aU0,replicate→Z2,replicate_succ→dB0,set_append_right→bu0,set_cons_zero→cU0,set_getElem_self→eu0,take_append_of_le_length→au0,take_length→Y9,take_of_length_le→V8,take_zero→cg0
open List.Sublist renaming refl→fa0
open Nat renaming add_zero→aD0,le_antisymm→dS0,le_of_lt→bt0,le_refl→X3,le_trans→Z7,lt_irrefl→bp0,lt_of_lt_of_le→bV0,lt_succ_self→fg0,lt_trichotomy→bi0,min_eq_left→an0,min_le_left→dR0,mul_le_mul→cX0,mul_le_mul_right→aI0,not_lt_zero→dQ0,strongRecOn→dP0,sub_self→bs0,sub_zero→er0,succ_mul→aC0,zero_le→ah0
open Ne renaming symm→dz0
open Option renaming bind_some→V0,isNone_none→eO0,isNone_some→aA0,isSome_iff_exists→eb0
open Option.some renaming inj→ap0
open Sum renaming inl→dy0,inr→dk0
open Go.IntKind renaming wrap→M0
namespace Go.Proofs.YtpnmnbfbcgkcjaaGreatDoor
noncomputable section
set_option linter.unusedVariables false
set_option linter.unnecessarySimpa false
set_option linter.unusedSimpArgs false
set_option maxRecDepth 20000
open Go.RowKit
section
def ae(N:Nat)(f:Nat->Nat):List Int:=(Z1 N).map (fun v=>((f v:Nat):Int))
def adj(N:Nat)(E:ArG):List (List Int):=(Z1 N).map (fun v=>li (nxt E v))
def bN(S:Nat->Bool):Nat->Nat:=fun v=>if S v then 1 else 0
theorem bj{N v:Nat}{f:Nat->Nat}(h:v<N):aa (ae N f) (v:Int)=some ((f v:Nat):Int):=bC h
theorem d8{N v x:Nat}{f:Nat->Nat}:(ae N f).set ((v:Int)).toNat ((x:Nat):Int)=ae N (up f v x):=by
 unfold ae;rw[W2,dI];exact bS fun u _=>by unfold up;split <;> simp_all
theorem IZ(N:Nat)(f:Nat->Nat):(ae N f).length=N:=by simp[ae]
theorem Ct{N v:Nat}{E:ArG}(h:v<N):aa (adj N E) (v:Int)=some (li (nxt E v)):=bC h
theorem eh(a:List Nat)(v:Nat):li (a++[v])=li a++[(v:Int)]:=by simp[li]
theorem N0{S:Nat->Bool}{v:Nat}:up (bN S) v 1=bN (fun x=>S x||decide (x=v)):=by
 funext x;unfold up bN
 by_cases h:x=v <;> simp[h]
theorem DY{n:Nat}(h:n<=9223372036854775807):M0 .i64 (n:Int)=(n:Int):=w64 (by omega) (by omega)
theorem Br(l:List Int)(x:Int):((cpy (l++[x]) l.length [0]).take l.length)=l:=by
 unfold cpy;simp
section
variable (q0:List (List Int))(q1 q2 q3 q4:List Int)(q5:Int)(q6 q7:List Int)(q8:List (List Int))
theorem qu(l:List Int)(x:Int)(hl:l.length<=1073741824):M0 .i64 ((((l++[x]).length:Nat):Int)-1)=((l.length:Nat):Int):=by
 rw[W3,bb0,w64 (by omega) (by omega)];omega
theorem xW(l:List Int)(x:Int)(hl:l.length<=1073741824):de (q0,q1,q2,q3,q4,q5,l++[x],q7,q8)=some (x,true):=by
 unfold de gZ;simp only[V0];rw[decide_eq_false (by simp;omega),cond_false,qu l x hl,aj (by simp)];simp
theorem Ba:de (q0,q1,q2,q3,q4,q5,[],q7,q8)=some (0,false):=rfl
theorem Uc(l:List Int)(x:Int)(hl:l.length<=1073741824):k9 (q0,q1,q2,q3,q4,q5,q6,l++[x],q8)=some (x,true):=by
 unfold k9 gY;simp only[V0];rw[decide_eq_false (by simp;omega),cond_false,qu l x hl,aj (by simp)];simp
theorem RS(l:List Int)(x:Int)(hl:l.length<=1073741824):nS q0 q1 q2 q3 q4 q5 (l++[x]) q7 q8=some (x,true,q1,q2,q3,q4,l,q7,q8):=by
 unfold nS;rw[xW _ _ _ _ _ _ _ _ l x hl,V0];dsimp only;unfold gZ;rw[cond_true,V0];dsimp only;rw[qu l x hl,dH (by omega) (by simp;omega) (by simp),V0,V0];have e:(((l++[x]).length:Nat):Int).toNat-((l.length:Nat):Int).toNat=1:=by simp
 rw[e,W2,dH (by omega) (by omega) (by unfold cpy;simp;omega),V0,W2];simp only[cj0,ab0];rw[show Z2 1 (0:Int)=[0]from rfl,Br]
theorem Tt(l:List Int)(x:Int)(hl:l.length<=1073741824):nT q0 q1 q2 q3 q4 q5 q6 (l++[x]) q8=some (x,true,q1,q2,q3,q4,q6,l,q8):=by
 unfold nT;rw[Uc _ _ _ _ _ _ _ _ l x hl,V0];dsimp only;unfold gY;rw[cond_true,V0];dsimp only;rw[qu l x hl,dH (by omega) (by simp;omega) (by simp),V0,V0];have e:(((l++[x]).length:Nat):Int).toNat-((l.length:Nat):Int).toNat=1:=by simp
 rw[e,W2,dH (by omega) (by omega) (by unfold cpy;simp;omega),V0,W2];simp only[cj0,ab0];rw[show Z2 1 (0:Int)=[0]from rfl,Br]
end
section
variable {N:Nat}{E:ArG}{A M L:Nat->Nat}{S:Nat->Bool}{m:Nat}{W O:List Nat}{F:List (List Nat)}
theorem B1{w:Nat}(hw:w<N)(hm:m<=1048576)(hW:W.length<=1048576)(hO:O.length<=1048576)(q0:List (List Int))(q1 q4:List Int)(q8:List (List Int)) :
   iX (w:Int) q0 q1 (ae N M) (ae N L) q4 (m:Int) (li W) (li O) q8=some (q1,ae N (up M w (m+1)),ae N (up L w (m+1)),q4,((m+1:Nat):Int),li (W++[w]),li (O++[w]),q8):=by
 unfold iX tz tA;have hmm:M0 .i64 ((m:Int)+1)=((m+1:Nat):Int):=by rw[w64 (by omega) (by omega)];omega
 rw[bj hw,V0,hmm,d8,V0,bj hw,V0,d8,V0];rw[aI (by rw[au];simp;omega)];simp only[V0];rw[aI (by rw[au];simp;omega)];simp only[V0];rw[eh,eh]
theorem JV{O1 O2 C:List Nat}{v:Nat}{F:List (List Nat)}(hN:N<=1048576)(hO:∀x∈O1++v::O2,x<N)(hnd:(O1++v::O2).Nodup)(hS:∀x∈O1++v::O2,S x=false)(hl:(O1++v::O2).length<=1048576)(hF:F.length<=1048576)
   (hC:(li C).Pairwise (· < ·)) (hCm:∀x,x∈C↔x∈v::O2) (q0:List (List Int)) (q1 q2 q3:List Int) (q5:Int) (q6:List Int) :
   nW (v:Int) q0 q1 q2 q3 (ae N (bN S)) q5 q6 (li (O1++v::O2)) (F.map li)=some (q1,q2,q3,ae N (bN (fun x=>S x||decide (x∈C))),q6,li O1,(F++[C]).map li):=by
 unfold nW;have hnd2:(v::O2).Nodup:=(aR0.1 hnd).2.1;have hl2:(v::O2).length<=1048576:=by rw[W3]at hl;omega
 have h:=aC (body:=nU (v:Int) q0 q5)
   (fun k=>(li ((v::O2).reverse.take k),q1,q2,q3,ae N (bN (fun x=>S x||decide (x∈(v::O2).reverse.take k))),q6,li (O1++(v::O2).take ((v::O2).length-k)),F.map li)) (v::O2).length
   (b:=(li (v::O2).reverse,q1,q2,q3,ae N (bN (fun x=>S x||decide (x∈(v::O2).reverse))),q6,li O1,F.map li)) ?_ ?_
 . have e0:(li ((v::O2).reverse.take 0),q1,q2,q3,ae N (bN (fun x=>S x||decide (x∈(v::O2).reverse.take 0))),q6,li (O1++(v::O2).take ((v::O2).length-0)),F.map li)=(([]:List Int),q1,q2,q3,ae N (bN S),q6,li (O1++v::O2),F.map li):=by
     rw[er0,Y9];simp[li]
   rw[e0]at h;rw[h,V0];dsimp only;rw[Ce ((List.reverse_perm _).nodup_iff.2 hnd2) hC (fun w=>by rw[dN0,hCm]) (by rw[eK0];omega),V0,aI (by simp;omega),V0];have:(fun x=>S x||decide (x∈(v::O2).reverse))=(fun x=>S x||decide (x∈C)):=by
     funext x
     congr 1
     exact decide_eq_decide.2 (by rw[dN0,hCm])
   rw[this];simp
 . intro k hk;have hv:v<N:=hO v (by simp);have hvk:v∉(v::O2).reverse.take k:=by
     rw[List.reverse_cons,au0 (by simp at hk ⊢;omega)];exact fun hm=>(aw0.1 hnd2).1 (dN0.1 (bg0 hm))
   have hsv:S v=false:=hS v (by simp);have hlt:(v::O2).length-(k+1)<(v::O2).length:=by omega
   have e1:(v::O2).take ((v::O2).length-k)=(v::O2).take ((v::O2).length-(k+1))++[(v::O2)[(v::O2).length-(k+1)]]:=by
     rw[show (v::O2).length-k=(v::O2).length-(k+1)+1 by omega,aH hlt]
   generalize hx:(v::O2)[(v::O2).length-(k+1)]=x at e1;have hxO:x∈v::O2:=hx ▸ X2 hlt
   have hxN:x<N:=hO x (ae0 _ hxO);have e2:(v::O2).reverse.take (k+1)=(v::O2).reverse.take k++[x]:=by
     rw[aH (by rw[eK0];exact hk),List.getElem_reverse]
     congr 2
     rw[<- hx];congr 1;omega
   unfold nU;dsimp only;rw[bj hv,V0];rw[show (bN (fun y=>S y||decide (y∈(v::O2).reverse.take k)) v)=0 from if_neg (by simp only[hsv,cw0,decide_eq_true_eq];exact hvk)];rw[show decide (((0:Nat):Int)=0)=true from rfl,cond_true,e1,<- X1,eh,Tt _ _ _ _ _ _ _ _ _ _ (by rw[au,W3,X4];rw[W3]at hl;omega),V0];dsimp only;rw[bj hxN,V0,show (1:Int)=((1:Nat):Int)from rfl,d8,V0,N0,aI (by rw[au,X4];simp;omega),V0,e2,eh];have:(fun y=>(S y||decide (y∈(v::O2).reverse.take k))||decide (y=x))=(fun y=>S y||decide (y∈(v::O2).reverse.take k++[x])):=by
     funext y
     rw[Bool.or_assoc]
     congr 1
     rw[bx0];simp[V3]
   rw[this]
 . have hv:v<N:=hO v (by simp);unfold nU;dsimp only;rw[V8 (l:=(v::O2).reverse) (by simp),bj hv,V0];rw[show (bN (fun y=>S y||decide (y∈(v::O2).reverse)) v)=1 from if_pos (by simp)];rw[bs0,cg0,Z6];rfl
theorem Tj.split{v:Nat}(h:Tj N E A M L S m W O F)(hv:v∈O):∃O1 O2,O=O1++v::O2/\(∀x∈O1,M x<M v)/\∀x∈O2,M v<M x:=by
 obtain⟨O1,O2,rfl⟩:=List.append_of_mem hv;have:=h.os;rw[aJ0,be0]at this;exact⟨O1,O2,rfl,fun x hx=>this.2.2 x hx v (by simp),this.2.1.1⟩
theorem Ii{W0:List Nat}{v:Nat}(h:Tj N E A M L S m W O F)(hN:N<=1048576)(hW:W=W0++[v])(ha:A v=(nxt E v).length)(hF:F.length<=N) :
   ∃L' S' O' F',kW (v:Int) (adj N E) (ae N A) (ae N M) (ae N L) (ae N (bN S)) (m:Int) (li W) (li O) (F.map li)=some (ae N A,ae N M,ae N L',ae N (bN S'),li W0,li O',F'.map li)/\Tj N E A M L' S' m W0 O' F':=by
 have hv:v∈W:=by rw[hW];simp
 have hvO:=h.wo v hv;have hvN:v<N:=h.lt v ((h.op v).1 hvO).1;have hWl:W0.length+1<=N:=by have:=h.wN;rw[hW]at this;simpa using this
 have hlow:∀(L1:Nat->Nat) (S1:Nat->Bool) (O1:List Nat) (F1:List (List Nat)),(W0=[]->Tj N E A M L1 S1 m W0 O1 F1)->(∀W1 u,W0=W1++[u]->Tj N E A M (up L1 u (min (L1 u) (L1 v))) S1 m W0 O1 F1) ->
     ∃L' S' O' F',((de (adj N E,ae N A,ae N M,ae N L1,ae N (bN S1),(m:Int),li W0,li O1,F1.map li)).bind fun (i1044,t1045)=>cond (t1045) ((aa (ae N L1) i1044).bind fun x1139=>(aa (ae N L1) (v:Int)).bind fun x1146=>(aa (ae N L1) i1044).bind fun x1153=>(some ((ae N L1).set i1044.toNat (if x1146<x1139 then x1146 else x1139))).bind fun z1160=>some ((ae N A,ae N M,z1160,ae N (bN S1),li W0,li O1,F1.map li))) (some ((ae N A,ae N M,ae N L1,ae N (bN S1),li W0,li O1,F1.map li))))=some (ae N A,ae N M,ae N L',ae N (bN S'),li W0,li O',F'.map li)/\Tj N E A M L' S' m W0 O' F':=by
   intro L1 S1 O1 F1 h0 h1
   rcases dr0 W0 with e|⟨W1,u,e⟩
   . refine⟨L1,S1,O1,F1,?_,h0 e⟩;rw[e,show li []=[]from rfl,Ba];rfl
   . have e:W0=W1++[u]:=by simpa using e
     have hk:=h1 W1 u e;have huN:u<N:=hk.lt u ((hk.op u).1 (hk.wo u (by rw[e];simp))).1;refine⟨_,S1,O1,F1,?_,hk⟩;have hW1:W1.length<=N:=by rw[e]at hWl;simp at hWl;omega
     rw[e,eh,xW _ _ _ _ _ _ _ _ _ _ (by rw[au];omega),V0];dsimp only;rw[cond_true,bj huN,V0,bj hvN,V0,V0];have em:(if ((L1 v:Nat):Int)<((L1 u:Nat):Int)then ((L1 v:Nat):Int)else ((L1 u:Nat):Int))=((min (L1 u) (L1 v):Nat):Int):=by split <;> omega
     rw[em,d8,V0]
 have hWl2:(li W0).length<=1073741824:=by rw[au];omega
 unfold kW;rw[hW,eh,RS _ _ _ _ _ _ _ _ _ _ hWl2,V0];dsimp only;rw[bj hvN,V0,bj hvN,V0];by_cases hl:L v=M v
 . rw[decide_eq_true (show ((L v:Nat):Int)=((M v:Nat):Int)by omega),cond_true];obtain⟨O1,O2,eO,g1,g2⟩:=h.split hvO;have hOl:=h.oN;have hOlt:∀x∈O,x<N:=fun x hx=>h.lt x ((h.op x).1 hx).1
   have hOS:∀x∈O,S x=false:=fun x hx=>((h.op x).1 hx).2
   have hnd:O.Nodup:=h.os.imp (fun h e=>by rw[e]at h;omega)
   let C:=(Z1 N).filter (fun x=>decide (x∈v::O2))
   have hCm:∀x,x∈C↔x∈v::O2:=fun x=>by
     rw[ac0,decide_eq_true_eq,V7];exact⟨fun k=>k.2,fun k=>⟨hOlt x (by rw[eO];exact ae0 _ k),k⟩⟩
   have ht:=JV (N:=N) (S:=S) (O1:=O1) (O2:=O2) (C:=C) (v:=v) (F:=F) hN (by rw[<- eO];exact hOlt) (by rw[<- eO];exact hnd) (by rw[<- eO];exact hOS) (by rw[<- eO];omega) (by omega) (jC N _) hCm (adj N E) (ae N A) (ae N M) (ae N L) (m:Int) (li W0);rw[eO,ht];simp only[V0];have hk:Tj N E A M L (fun x=>S x||decide (x∈C)) m W0 (O.filter fun x=>decide (M x<M v)) (F++[C]):=h.take hW ha hl (by
     have:=jC N (fun x=>decide (x∈v::O2));unfold li at this;rw[cc0]at this;exact this.imp (fun h=>by omega)) (fun x=>by
     rw[hCm,eO];constructor
     . intro k;refine⟨ae0 _ k,?_⟩
       rcases Y4.1 k with rfl|k
       . exact X3 _
       . exact bt0 (g2 x k)
     . rintro⟨k,k2⟩
       rcases V3.1 k with k|k
       . have:=g1 x k;omega
       . exact k)
   have eO1:O.filter (fun x=>decide (M x<M v))=O1:=by
     rw[eO,aB0,aZ0,List.filter_eq_self.2 (fun x hx=>by simpa using g1 x hx)];rw[aX0.2 (fun x hx=>by have:=g2 x hx;simp;omega)];simp
   rw[eO1]at hk;refine hlow L _ O1 (F++[C]) (fun _=>hk) (fun W1 u e=>?_);have hu:u∈W0:=by rw[e];simp
   have h1:M u<M v:=by
     have:=h.ws;rw[hW,aJ0]at this;exact this.2.2 u hu v (by simp)
   have h2:=h.ll u (h.wo u (by rw[hW];simp[hu]));rw[Ko (by rw[hl];omega)];exact hk
 . rw[decide_eq_false (show ¬ ((L v:Nat):Int)=((M v:Nat):Int)by omega),cond_false];simp only[V0];have hlt:L v<M v:=by have:=h.ll v hvO;omega
   refine hlow L S O F (fun e=>?_) (fun W1 u e=>?_)
   . exfalso;obtain⟨z,hz,e1,_⟩:=h.lr v hvO;obtain⟨w,hw,h1,_⟩:=h.back _ (y:=z) (X3 _) hz;rw[hW,e]at hw;simp at hw;subst hw;omega
   . have:=h.leave (W1:=W1) (u:=u) (v:=v) (by rw[hW,e]) ha hlt;rw[e];exact this
end
end
section
abbrev Wst:=List Int×List Int×List Int×List Int×Int×List Int×List Int×List (List Int)
section
variable {N:Nat}{E:ArG}{A M L:Nat->Nat}{S:Nat->Bool}{m:Nat}{W O:List Nat}{F:List (List Nat)}
theorem vS:∀{F:List (List Nat)},(∀C∈F,C≠[])->F.length<=F.flatten.length
 |[],_=>X3 _
 | C :: F,h=>by
   have h1:=vS (F:=F) (fun D hD=>h D (W5 _ hD));have h2:0<C.length:=bl0.2 (h C (by simp));rw[cC0,W3,V9];omega
theorem Tj.fN(h:Tj N E A M L S m W O F):F.length<=N :=
 Z7 (vS fun C hC=>(h.f3 C hC).1) (cT h.f1 (fun x hx=>h.lt x (h.sm x ((h.f2 x).1 hx))))
theorem Km(hE:inN N E)(hN:N<=1048576)(he:E.length<=67108864){W0:List Nat}{v:Nat}(hW:W=W0++[v])(h:Tj N E A M L S m W O F) :
   ∃ o,loop (tC (adj N E) (m:Int) (v:Int)) (ae N A,ae N M,ae N L,ae N (bN S),li W,li O,F.map li)=some o /\
     ((∃A' L',o=.inl (ae N A',ae N M,ae N L',ae N (bN S),li W,li O,F.map li)/\Tj N E A' M L' S m W O F/\A' v=(nxt E v).length) \/
       ∃A' L' w,o=.inr (.inl (ae N A',ae N (up M w (m+1)),ae N L',ae N (bN S),((m+1:Nat):Int),li (W++[w]),li (O++[w]),F.map li))/\Tj N E A' (up M w (m+1)) L' S (m+1) (W++[w]) (O++[w]) F/\m+1<=N/\∀x,M x≠0->up M w (m+1) x≠0):=by
 have hv:v∈W:=by rw[hW];simp
 have hvN:v<N:=h.lt v ((h.op v).1 (h.wo v hv)).1;have hnl:(nxt E v).length<=67108864:=by
   unfold nxt;rw[Y6];exact Z7 (eY _ _) (by rw[Y6];exact he)
 refine aW (fun s=>∃A L,s=(ae N A,ae N M,ae N L,ae N (bN S),li W,li O,F.map li)/\Tj N E A M L S m W O F) (fun s=>(nxt E v).length-(s.1.getD v 0).toNat) ?_ ⟨A,L,rfl,h⟩;rintro s ⟨A,L,rfl,h⟩;have hgd:(ae N A).getD v 0=(A v:Int):=by unfold ae;simp[ag0,hvN]
 have hAl:=h.al v;unfold tC;dsimp only;rw[bj hvN,V0,Ct hvN,V0,au];by_cases hk:A v<(nxt E v).length
 . rw[decide_eq_true (show ((A v:Nat):Int)<(((nxt E v).length:Nat):Int)by omega),cond_true,V0,V0,bD hk];simp only[V0];have hwr:M0 .i64 (((A v:Nat):Int)+1)=((A v+1:Nat):Int):=by rw[w64 (by omega) (by omega)];omega
   rw[hwr,d8];generalize hz:(nxt E v)[A v]=z;have hzN:z<N:=(hE _ (bL.1 (hz ▸ X2 hk))).2;rw[bj hzN,V0];by_cases h0:M z=0
   . right
     rw[decide_eq_true (show ((M z:Nat):Int)=0 by omega),cond_true];have hmm:=h.room hzN h0;have hk2:=h.tree hE hW hk hz h0;rw[B1 hzN (by omega) (by have:=h.wN;omega) (by have:=h.oN;omega)];refine⟨_,rfl,.inr ⟨_,_,z,rfl,hk2,hmm,fun x hx=>?_⟩⟩;unfold up;split
     . omega
     . exact hx
   . left
     rw[decide_eq_false (show ¬ ((M z:Nat):Int)=0 by omega),cond_false,bj hzN,V0];have hk2:=h.look hW hk hz h0;have hmu:∀L',(nxt E v).length-(((ae N (up A v (A v+1)),ae N M,ae N L',ae N (bN S),li W,li O,F.map li):List Int×List Int×List Int×List Int×List Int×List Int×List (List Int)).1.getD v 0).toNat<(nxt E v).length-(((ae N A,ae N M,ae N L,ae N (bN S),li W,li O,F.map li):List Int×List Int×List Int×List Int×List Int×List Int×List (List Int)).1.getD v 0).toNat:=fun L'=>by
       have:(ae N (up A v (A v+1))).getD v 0=((A v+1:Nat):Int):=by unfold ae;simp[ag0,hvN,up]
       dsimp only;rw[this,hgd];omega
     cases hs:S z with
     | false =>
       rw[hs]at hk2;rw[show bN S z=0 by unfold bN;rw[hs];rfl,show decide (((0:Nat):Int)=0)=true from rfl,cond_true,bj hvN];simp only[V0];have em:(if ((M z:Nat):Int)<((L v:Nat):Int)then ((M z:Nat):Int)else ((L v:Nat):Int))=((min (L v) (M z):Nat):Int):=by split <;> omega
       rw[em,d8];exact⟨_,rfl,⟨_,_,rfl,hk2⟩,hmu _⟩
     | true =>
       rw[hs]at hk2;rw[show bN S z=1 by unfold bN;rw[hs];rfl,show decide (((1:Nat):Int)=0)=false from rfl,cond_false];exact⟨_,rfl,⟨_,_,rfl,hk2⟩,hmu _⟩
 . right
   rw[decide_eq_false (show ¬ ((A v:Nat):Int)<(((nxt E v).length:Nat):Int)by omega),cond_false];exact⟨_,rfl,.inl ⟨A,L,rfl,h,by omega⟩⟩
theorem KI(hE:inN N E)(hN:N<=1048576)(he:E.length<=67108864)(h:Tj N E A M L S m [] [] F){w:Nat}(hw:w<N)(h0:M w=0) :
   ∃A' M' L' S' m' F',gU (w:Int) (adj N E) (ae N A) (ae N M) (ae N L) (ae N (bN S)) (m:Int) (li []) (li []) (F.map li)=some (ae N A',ae N M',ae N L',ae N (bN S'),((m':Nat):Int),li [],li [],F'.map li)/\Tj N E A' M' L' S' m' [] [] F'/\(∀x,M x≠0->M' x≠0)/\M' w≠0:=by
 have hm:=h.room hw h0;have h1:=h.root hw h0;unfold gU;rw[B1 hw (by omega) (by simp) (by simp),V0];dsimp only;have hl:∃b,loop (tB (adj N E)) (ae N A,ae N (up M w (m+1)),ae N (up L w (m+1)),ae N (bN S),((m+1:Nat):Int),li ([]++[w]),li ([]++[w]),F.map li)=some b /\
     ∃A' M' L' S' m' F',b=(ae N A',ae N M',ae N L',ae N (bN S'),((m':Nat):Int),li [],li [],F'.map li)/\Tj N E A' M' L' S' m' [] [] F'/\(∀x,M x≠0->M' x≠0)/\M' w≠0:=by
   refine aW (fun s=>∃A' M' L' S' m' W' O' F',s=(ae N A',ae N M',ae N L',ae N (bN S'),((m':Nat):Int),li W',li O',F'.map li)/\Tj N E A' M' L' S' m' W' O' F'/\(∀x,M x≠0->M' x≠0)/\M' w≠0)
     (fun s:Wst=>2*(N-s.2.2.2.2.1.toNat)+s.2.2.2.2.2.1.length) ?_ ⟨A,_,_,S,m+1,[w],[w],F,rfl,h1,fun x hx=>?_,?_⟩
   . rintro s ⟨A,M',L,S,m,W,O,F,rfl,h,hx,hw'⟩;unfold tB;dsimp only;have hwN:=h.wN
     rcases dr0 W with e|⟨W0,v,e⟩
     . right
       subst e;have hO:=h.over;subst hO;rw[show li []=([]:List Int)from rfl,Ba,V0];exact⟨_,rfl,A,M',L,S,m,F,rfl,h,hx,hw'⟩
     . left
       have e:W=W0++[v]:=by simpa using e
       have hW0:W0.length+1<=N:=by rw[e]at hwN;simpa using hwN
       have htop:de (adj N E,ae N A,ae N M',ae N L,ae N (bN S),(m:Int),li W,li O,F.map li)=some ((v:Int),true):=by
         rw[e,eh,xW _ _ _ _ _ _ _ _ _ _ (by rw[au];omega)]
       rw[htop,V0];dsimp only;rw[X7,cond_false];obtain⟨o,ho,hq⟩:=Km hE hN he e h;rw[ho,V0]
       rcases hq with⟨A',L',rfl,hk,ha⟩|⟨A',L',z,rfl,hk,hmm,hxx⟩
       . obtain⟨L2,S2,O2,F2,hlv,hk2⟩:=Ii hk hN e ha hk.fN;dsimp only;rw[hlv,V0];refine⟨_,rfl,⟨A',M',L2,S2,m,W0,O2,F2,rfl,hk2,hx,hw'⟩,?_⟩;dsimp only;rw[au,au,e];simp
       . refine⟨_,rfl,⟨A',_,L',S,m+1,W++[z],O++[z],F,rfl,hk,fun x hx'=>hxx x (hx x hx'),hxx w hw'⟩,?_⟩;dsimp only;rw[au,au,W2,W2,W3,bb0];omega
   . unfold up;split
     . omega
     . exact hx
   . rw[dq];omega
 obtain⟨b,hb,A',M',L',S',m',F',rfl,hk⟩:=hl;exact⟨A',M',L',S',m',F',hb,hk⟩
structure Prt(N:Nat)(E:ArG)(F:List (List Nat)):Prop where
 f1:F.flatten.Nodup
 f2:∀v,v∈F.flatten↔v<N
 f3:∀C∈F,C≠[]/\C.Pairwise (· < ·)/\∀a∈C,∀b,b∈C↔Rch E a b/\Rch E b a
theorem Tj.prt(h:Tj N E A M L S m [] [] F)(hall:∀v,v<N->M v≠0):Prt N E F where
 f1:=h.f1
 f2:=fun v=>by
   rw[h.f2];constructor
   . exact fun hs=>h.lt v (h.sm v hs)
   . intro hv;cases hs:S v with
     |true=>rfl
     |false=>have:=(h.op v).2 ⟨hall v hv,hs⟩;cases this
 f3:=h.f3
end
section
variable {N:Nat}{E:ArG}
theorem qA{α β:Type}(x:α)(k:Option β):agr x x k=k:=jU x k
theorem FD(hN:N<=1048576):lQ (adj N E)=some (ae N (fun _=>0),ae N (fun _=>0),ae N (fun _=>0),ae N (bN fun _=>false)):=by
 have hl:(adj N E).length=N:=by simp[adj]
 have hm:(mk ((((adj N E).length:Nat):Int)) ((((adj N E).length:Nat):Int)) 0:Option (List Int))=some (Z2 N 0):=by rw[hl];exact mkN (by omega)
 unfold lQ;rw[hm];simp only[V0,qA];have:Z2 N (0:Int)=ae N (fun _=>0):=by unfold ae;rw[dA];rfl
 rw[this];rfl
end
end
abbrev gD(l:List Int)(k:Nat):Int:=l.getD k 0
def sw(l:List Int)(i j:Nat):List Int:=(l.set i (gD l j)).set j (gD l i)
theorem fi{l:List Int}{k:Nat}(h:k<l.length):gD l k=l[k]:=by unfold gD;simp[ag0,h]
theorem kj(l:List Int)(i j:Nat):(sw l i j).length=l.length:=by unfold sw;simp
theorem CH{l:List Int}{i k:Nat}{x:Int}(hi:i<l.length):gD (l.set i x) k=if k=i then x else gD l k:=by
 unfold gD;simp only[bI0,dc0];by_cases h:i=k
 . subst h;simp[hi]
 . simp[h,dz0 h]
theorem xN{l:List Int}{i j k:Nat}(hi:i<l.length)(hj:j<l.length):gD (sw l i j) k=if k=j then gD l i else if k=i then gD l j else gD l k:=by
 unfold sw;rw[CH (by simpa using hj),CH hi]
theorem wI{l:List Int}{i j:Nat}(hi:i<l.length)(hj:j<l.length):(sw l i j).Perm l:=by
 unfold sw;rw[fi hi,fi hj];exact List.set_set_perm hi hj
theorem wB{l:List Int}{i j:Nat}(hi:i<l.length)(hj:j<l.length):ja (i:Int) (j:Int) l=some (sw l i j):=by
 have h2:aa (l.set i (l[j])) (j:Int)=some ((l.set i l[j])[j]'(by simpa using hj)):=aj (by simpa using hj);unfold ja;rw[aj hi,aj hj];simp only[V0,W2];rw[h2];simp only[V0,qA,W2];unfold sw;rw[fi hi,fi hj]
theorem wu{l:List Int}{i j:Nat}(hi:i<l.length)(hj:j<l.length):ii l (i:Int) (j:Int)=some (decide (gD l i<gD l j)):=by
 unfold ii;rw[aj hi,aj hj,fi hi,fi hj];rfl
def HP(n s:Nat)(l:List Int):Prop:=∀k,0<k->k<n->s<=(k-1) / 2->gD l ((k-1) / 2)<=gD l k
theorem BH {l:List Int} {n s i0:Nat} (hn:n<=l.length) (hl:l.length<=1073741824) (hs:s<=i0) (hi:i0<=1073741824) (h1:∀ k,0 < k->k < n->s<=(k - 1) / 2->(k - 1) / 2≠i0->gD l ((k - 1) / 2)<=gD l k)
   (h2:∀k,0<k->k<n->(k-1) / 2=i0->0<i0->s<=(i0-1) / 2->gD l ((i0-1) / 2)<=gD l k) :
   ∃t l',k7 (i0:Int) (n:Int) l=some (t,l')/\l'.Perm l/\HP n s l'/\∀k,n<=k->gD l' k=gD l k:=by
 unfold k7;have hq:∃b,loop (tF (n:Int)) ((i0:Int),l)=some b/\b.2.Perm l/\HP n s b.2/\∀k,n<=k->gD b.2 k=gD l k:=by
   refine aW (fun st=>∃(i:Nat) (l':List Int),st=((i:Int),l')/\s<=i/\i<=1073741824/\l'.Perm l/\(∀k,n<=k->gD l' k=gD l k)/\(∀k,0<k->k<n->s<=(k-1) / 2->(k-1) / 2≠i->gD l' ((k-1) / 2)<=gD l' k) /\
     (∀k,0<k->k<n->(k-1) / 2=i->0<i->s<=(i-1) / 2->gD l' ((i-1) / 2)<=gD l' k)) (fun st=>n-st.1.toNat) ?_ ⟨i0,l,rfl,hs,hi,.refl _,fun _ _=>rfl,h1,h2⟩
   rintro st ⟨i,l',rfl,hsi,hil,hp,hk,g1,g2⟩;have hlen:l'.length=l.length:=hp.length_eq;unfold tF;dsimp only;have e1:M0 .i64 (2*(i:Int))=((2*i:Nat):Int):=by rw[w64 (by omega) (by omega)];omega
   have e2:M0 .i64 (((2*i:Nat):Int)+1)=((2*i+1:Nat):Int):=by rw[w64 (by omega) (by omega)];omega
   have e3:M0 .i64 (((2*i+1:Nat):Int)+1)=((2*i+2:Nat):Int):=by rw[w64 (by omega) (by omega)];omega
   rw[e1,e2,e3];by_cases hc:2*i+1<n
   . have hcond:(decide ((n:Int)<=((2*i+1:Nat):Int))||decide (((2*i+1:Nat):Int)<0))=false:=by simp;omega
     rw[hcond,cond_false];have hch:∃c:Nat,(((cond (decide (((2*i+2:Nat):Int)<(n:Int))) ((ii l' ((2*i+2:Nat):Int) ((2*i+1:Nat):Int)).bind fun t843=>some (t843)) (some (false))).bind fun t836=>cond (t836) (some ((2*i+2:Nat):Int)) (some ((2*i+1:Nat):Int)):Option Int))=some ((c:Nat):Int) /\
         i<c/\c<n/\(c-1) / 2=i/\∀k,0<k->k<n->(k-1) / 2=i->gD l' c<=gD l' k:=by
       by_cases h22:2*i+2<n
       . rw[decide_eq_true (show ((2*i+2:Nat):Int)<(n:Int)by omega),cond_true,wu (by omega) (by omega)];simp only[V0];by_cases hl2:gD l' (2*i+2)<gD l' (2*i+1)
         . refine⟨2*i+2,by rw[decide_eq_true hl2];rfl,by omega,h22,by omega,fun k k1 k2 k3=>?_⟩;have:k=2*i+1\/k=2*i+2:=by omega
           rcases this with rfl|rfl <;> omega
         . refine⟨2*i+1,by rw[decide_eq_false hl2];rfl,by omega,hc,by omega,fun k k1 k2 k3=>?_⟩;have:k=2*i+1\/k=2*i+2:=by omega
           rcases this with rfl|rfl <;> omega
       . refine⟨2*i+1,by rw[decide_eq_false (show ¬ ((2*i+2:Nat):Int)<(n:Int)by omega)];rfl,by omega,hc,by omega,fun k k1 k2 k3=>?_⟩;have:k=2*i+1:=by omega
         subst this;exact cn0 _
     obtain⟨c,hce,c1,c2,c3,c4⟩:=hch;rw[hce,V0,wu (by omega) (by omega),V0];by_cases hlt:gD l' c<gD l' i
     . left
       rw[decide_eq_true hlt,X7,cond_false,wB (by omega) (by omega),V0];have hg:∀k,gD (sw l' i c) k=if k=c then gD l' i else if k=i then gD l' c else gD l' k:=fun k=>xN (by omega) (by omega)
       refine⟨_,rfl,⟨c,sw l' i c,rfl,by omega,by omega,(wI (by omega) (by omega)).trans hp,fun k hk'=>?_,fun k k1 k2 k3 k4=>?_,fun k k1 k2 k3 k4 k5=>?_⟩,?_⟩
       . rw[hg,if_neg (by omega),if_neg (by omega)];exact hk k hk'
       . rw[hg,hg,if_neg k4];by_cases a:k=c
         . subst a;rw[if_pos rfl,if_pos c3];omega
         . rw[if_neg a];by_cases b:k=i
           . subst b;rw[if_neg (by omega),if_pos rfl];exact g2 c (by omega) c2 c3 k1 k3
           . rw[if_neg b];by_cases d:(k-1) / 2=i
             . rw[if_pos d];exact c4 k k1 k2 d
             . rw[if_neg d];exact g1 k k1 k2 k3 d
       . rw[hg,hg,c3,if_neg (by omega),if_pos rfl,if_neg (by omega),if_neg (by omega)];have:=g1 k k1 k2 (by omega) (by omega);rw[k3]at this;exact this
       . dsimp only;omega
     . right
       rw[decide_eq_false hlt,aE0,cond_true];refine⟨_,rfl,hp,fun k k1 k2 k3=>?_,hk⟩;by_cases d:(k-1) / 2=i
       . have:=c4 k k1 k2 d;show gD l' ((k-1) / 2)<=gD l' k;rw[d];omega
       . exact g1 k k1 k2 k3 d
   . right
     have hcond:(decide ((n:Int)<=((2*i+1:Nat):Int))||decide (((2*i+1:Nat):Int)<0))=true:=by simp;omega
     rw[hcond,cond_true];exact⟨_,rfl,hp,fun k k1 k2 k3=>g1 k k1 k2 k3 (by omega),hk⟩
 obtain⟨⟨i',l'⟩,hb,q1,q2,q3⟩:=hq;rw[hb];exact⟨_,l',rfl,q1,q2,q3⟩
theorem Kq{l:List Int}(hl:l.length<=1073741824):∃l',n8 l=some l'/\l'.Perm l/\HP l'.length 0 l':=by
 unfold n8 eT;rw[V0];have h0:M0 .i64 (M0 .i64 (bc0 ((l.length:Nat):Int) 2)-1)=((l.length / 2:Nat):Int)-1:=by
   have:bc0 ((l.length:Nat):Int) 2=((l.length / 2:Nat):Int):=by rw[dU0 (by omega)];omega
   rw[this,DY (by omega),w64 (by omega) (by omega)]
 rw[h0];have hq:∃b,loop (tJ ((l.length:Nat):Int)) (((l.length / 2:Nat):Int)-1,l)=some b/\b.Perm l/\HP b.length 0 b:=by
   refine aW (fun st=>∃(s:Nat) (l':List Int),st=((s:Int)-1,l')/\s<=1073741824/\l'.Perm l/\HP l.length s l') (fun st=>(st.1+1).toNat) ?_ ⟨l.length / 2,l,rfl,by omega,.refl _,fun k k1 k2 k3=>by omega⟩;rintro st ⟨s,l',rfl,hsl,hp,hh⟩;have hlen:l'.length=l.length:=hp.length_eq;unfold tJ;dsimp only;cases s with
   | zero =>
     right
     rw[decide_eq_false (show ¬ (0:Int)<=((0:Nat):Int)-1 by omega),cond_false];exact⟨_,rfl,hp,by rw[hlen];exact hh⟩
   | succ s =>
     left
     rw[show (((s+1:Nat):Int)-1)=((s:Nat):Int)by omega,decide_eq_true (show (0:Int)<=((s:Nat):Int)by omega),cond_true];obtain⟨t,l2,e,p1,p2,_⟩:=BH (l:=l') (n:=l.length) (s:=s) (i0:=s) (by omega) (by omega) (X3 _) (by omega) (fun k k1 k2 k3 k4=>hh k k1 k2 (by omega)) (fun k k1 k2 k3 k4 k5=>by omega);rw[e,V0];refine⟨_,rfl,⟨s,l2,?_,by omega,p1.trans hp,p2⟩,by dsimp only;rw[w64 (by omega) (by omega)];omega⟩;rw[w64 (by omega) (by omega)]
 obtain⟨b,hb,q1,q2⟩:=hq;rw[hb];exact⟨b,rfl,q1,q2⟩
theorem HP.least{l:List Int}(h:HP l.length 0 l):∀k,k<l.length->gD l 0<=gD l k:=by
 intro k
 induction k using dP0 with
 | _ k ih =>
   intro hk;cases k with
   |zero=>exact cn0 _
   |succ k=>exact Int.le_trans (ih ((k+1-1) / 2) (by omega) (by omega)) (h (k+1) (by omega) hk (ah0 _))
theorem L4{l:List Int}(hl:l.length<=1073741824)(h:HP l.length 0 l)(h0:0<l.length):∃l',oa l=some (gD l 0,l')/\l.Perm (gD l 0::l')/\HP l'.length 0 l':=by
 unfold oa eT;rw[V0];obtain⟨n,hn⟩:∃n,l.length=n+1:=⟨l.length-1,by omega⟩
 have e1:M0 .i64 (((l.length:Nat):Int)-1)=((n:Nat):Int):=by rw[w64 (by omega) (by omega)];omega
 rw[e1,show (0:Int)=((0:Nat):Int)from rfl,wB h0 (by omega),V0];have hg:∀k,gD (sw l 0 n) k=if k=n then gD l 0 else if k=0 then gD l n else gD l k:=fun k=>xN h0 (by omega)
 obtain⟨t,l2,e,p1,p2,p3⟩:=BH (l:=sw l 0 n) (n:=n) (s:=0) (i0:=0) (by rw[kj];omega) (by rw[kj];omega) (X3 _) (by omega) (fun k k1 k2 k3 k4=>by
   rw[hg,hg,if_neg (by omega),if_neg (by omega),if_neg (by omega),if_neg (by omega)];exact h k k1 (by omega) (ah0 _)) (fun k k1 k2 k3 k4 k5=>by omega)
 rw[e,V0];dsimp only;have hlen:l2.length=n+1:=by rw[p1.length_eq,kj,hn]
 unfold tS;have e2:M0 .i64 (((l2.length:Nat):Int)-1)=((n:Nat):Int):=by rw[w64 (by omega) (by omega)];omega
 rw[e2,aj (by omega),V0,dH (by omega) (by omega) (by omega),V0];simp only[V0,W2,cj0,ab0];have e3:l2[n]=gD l 0:=by rw[<- fi (by omega),p3 n (X3 _),hg,if_pos rfl]
 refine⟨l2.take n,by rw[e3],?_,?_⟩
 . have:l2=l2.take n++[gD l 0]:=by rw[<- e3,<- aH (by omega),V8 (by omega)]
   have h1:(sw l 0 n).Perm l:=wI h0 (by omega);refine (h1.symm.trans p1.symm).trans ?_;rw[this];refine List.perm_append_comm.trans ?_;rw[<- this];exact .refl _
 . rw[X4,hlen,an0 (by omega)];intro k k1 k2 k3;have:∀j,j<n->gD (l2.take n) j=gD l2 j:=fun j hj=>by unfold gD;simp[ag0,hj]
   rw[this _ (by omega),this _ k2];exact p2 k k1 k2 k3
theorem J8 {l:List Int} {x:Int} (hl:l.length < 1073741824) (h:HP l.length 0 l):∃ l',n5 x l=some l'/\l'.Perm (x :: l)/\HP l'.length 0 l':=by
 unfold n5 tQ eT tO;rw[aI (by simp;omega)];simp only[V0];have hlen:(l++[x]).length=l.length+1:=by simp
 have e1:M0 .i64 ((((l++[x]).length:Nat):Int)-1)=((l.length:Nat):Int):=by rw[w64 (by omega) (by omega)];omega
 rw[e1];have hq:∃b,loop tM (((l.length:Nat):Int),l++[x])=some b/\b.Perm (l++[x])/\HP b.length 0 b:=by
   refine aW (fun st=>∃(j:Nat) (l':List Int),st=((j:Int),l')/\j<l'.length/\l'.Perm (l++[x])/\(∀k,0<k->k<l'.length->k≠j->gD l' ((k-1) / 2)<=gD l' k)/\(∀k,0<k->k<l'.length->(k-1) / 2=j->0<j->gD l' ((j-1) / 2)<=gD l' k)) (fun st=>st.1.toNat) ?_ ⟨l.length,l++[x],rfl,by omega,.refl _,fun k k1 k2 k3=>?_,fun k k1 k2 k3 k4=>by omega⟩
   . rintro st ⟨j,l',rfl,hj,hp,g1,g2⟩;have hlen':l'.length=l.length+1:=by rw[hp.length_eq,hlen]
     unfold tM;dsimp only;cases j with
     | zero =>
       right
       have:M0 .i64 (bc0 (M0 .i64 (((0:Nat):Int)-1)) 2)=((0:Nat):Int):=by decide
       rw[this,decide_eq_true rfl,cond_true];exact⟨_,rfl,hp,fun k k1 k2 k3=>g1 k k1 k2 (by omega)⟩
     | succ j =>
       have ew:M0 .i64 (((j+1:Nat):Int)-1)=((j:Nat):Int):=by rw[w64 (by omega) (by omega)];omega
       have et:bc0 ((j:Nat):Int) 2=((j / 2:Nat):Int):=by rw[dU0 (by omega)];omega
       rw[ew,et,DY (by omega),decide_eq_false (show ¬ ((j / 2:Nat):Int)=((j+1:Nat):Int)by omega),cond_false,wu hj (by omega)];simp only[V0];by_cases hlt:gD l' (j+1)<gD l' (j / 2)
       . left
         rw[decide_eq_true hlt,X7,cond_false,wB (by omega) hj,V0];have hg:∀k,gD (sw l' (j / 2) (j+1)) k=if k=j+1 then gD l' (j / 2)else if k=j / 2 then gD l' (j+1)else gD l' k:=fun k=>xN (by omega) hj
         refine⟨_,rfl,⟨j / 2,sw l' (j / 2) (j+1),rfl,by rw[kj];omega,(wI (by omega) hj).trans hp,fun k k1 k2 k3=>?_,fun k k1 k2 k3 k4=>?_⟩,by dsimp only;omega⟩
         . rw[kj]at k2;rw[hg,hg];by_cases a:k=j+1
           . subst a;rw[if_pos rfl,if_neg (by omega),if_pos (by omega)];omega
           . rw[if_neg a,if_neg k3];by_cases b:(k-1) / 2=j+1
             . rw[if_pos b];have:=g2 k k1 k2 b (by omega);rw[show (j+1-1) / 2=j / 2 by omega]at this;exact this
             . rw[if_neg b];by_cases c:(k-1) / 2=j / 2
               . rw[if_pos c];have:=g1 k k1 k2 a;rw[c]at this;omega
               . rw[if_neg c];exact g1 k k1 k2 a
         . rw[kj]at k2;have q1:gD l' ((j / 2-1) / 2)<=gD l' (j / 2):=g1 (j / 2) k4 (by omega) (by omega);rw[hg,hg,if_neg (by omega),if_neg (by omega)];by_cases a:k=j+1
           . rw[if_pos a];exact q1
           . rw[if_neg a,if_neg (by omega)];have:=g1 k k1 k2 a;rw[k3]at this;omega
       . right
         rw[decide_eq_false hlt,aE0,cond_true];refine⟨_,rfl,hp,fun k k1 k2 k3=>?_⟩;by_cases a:k=j+1
         . subst a;show gD l' ((j+1-1) / 2)<=gD l' (j+1);rw[show (j+1-1) / 2=j / 2 by omega];omega
         . exact g1 k k1 k2 a
   . have hh:=h k k1 (by omega) (ah0 _);have hg:∀i,i<l.length->gD (l++[x]) i=gD l i:=fun i hi=>by
       unfold gD;simp only[bI0];rw[V6 hi]
     rw[hg _ (by omega),hg _ (by omega)];exact hh
 obtain⟨b,hb,q1,q2⟩:=hq;rw[hb];exact⟨b,rfl,q1.trans bv0,q2⟩
section
def hmI(F:List (List Nat))(v:Nat):Nat:=F.findIdx (fun C=>decide (v∈C))
abbrev gF(F:List (List Nat))(k:Nat):List Nat:=F.getD k []
def lst(F:List (List Nat))(k:Nat):Nat:=(gF F k).getD 0 0
theorem jI{N:Nat}{f g:Nat->Nat}(h:∀v,v<N->f v=g v):ae N f=ae N g:=bS fun v hv=>by rw[h v hv]
theorem ko{F:List (List Nat)}{k:Nat}(h:k<F.length):gF F k=F[k]:=by unfold gF;simp[ag0,h]
section
variable {N:Nat}{E:ArG}{F:List (List Nat)}
theorem Prt.gmem(P:Prt N E F){k:Nat}(h:k<F.length):gF F k∈F:=by rw[ko h];exact X2 h
theorem Prt.mlt(P:Prt N E F){k v:Nat}(h:k<F.length)(hv:v∈gF F k):v<N:=(P.f2 v).1 (fk0.2 ⟨_,P.gmem h,hv⟩)
theorem Prt.uniq(P:Prt N E F){i j v:Nat}(hi:i<F.length)(hj:j<F.length)(h1:v∈gF F i)(h2:v∈gF F j):i=j:=by
 have hp:F.flatten.Pairwise (fun a b=>a≠b):=P.f1;rw[List.pairwise_flatten]at hp;have hq:=hp.2;rw[am0]at hq;rw[ko hi]at h1;rw[ko hj]at h2
 rcases bi0 i j with k |k|k
 . exact absurd rfl (hq i j hi hj k v h1 v h2)
 . exact k
 . exact absurd rfl (hq j i hj hi k v h2 v h1)
theorem Prt.hm(P:Prt N E F){v:Nat}(hv:v<N):hmI F v<F.length/\v∈gF F (hmI F v):=by
 obtain⟨C,hC,hvC⟩:=fk0.1 ((P.f2 v).2 hv);have h:hmI F v<F.length:=List.findIdx_lt_length_of_exists ⟨C,hC,by simpa using hvC⟩;refine⟨h,?_⟩;rw[ko h];have:=List.findIdx_getElem (w:=h);unfold hmI;simpa using this
theorem Prt.hm_eq(P:Prt N E F){k v:Nat}(hk:k<F.length)(hv:v∈gF F k):hmI F v=k:=by
 obtain⟨h1,h2⟩:=P.hm (P.mlt hk hv);exact P.uniq h1 hk h2 hv
theorem Prt.lst_mem(P:Prt N E F){k:Nat}(h:k<F.length):lst F k∈gF F k:=by
 have h1:=(P.f3 _ (P.gmem h)).1;unfold lst;generalize gF F k=C at h1;cases C with
 |nil=>exact absurd rfl h1
 |cons a C=>simp
theorem Prt.hm_lst(P:Prt N E F){k:Nat}(h:k<F.length):hmI F (lst F k)=k:=P.hm_eq h (P.lst_mem h)
theorem Prt.same(P:Prt N E F){v w:Nat}(hv:v<N)(hw:w<N):hmI F v=hmI F w↔Rch E v w/\Rch E w v:=by
 obtain⟨h1,h2⟩:=P.hm hv;obtain⟨h3,h4⟩:=P.hm hw;rw[<- (P.f3 _ (P.gmem h1)).2.2 v h2 w];exact⟨fun e=>by rw[e];exact h4,fun h=>P.uniq h1 h3 h h4⟩
theorem Prt.flen(P:Prt N E F):F.length<=N:=Z7 (vS fun C hC=>(P.f3 C hC).1) (cT P.f1 (fun x hx=>(P.f2 x).1 hx))
theorem Prt.clen(P:Prt N E F){k:Nat}(h:k<F.length):(gF F k).length<=N:=cT ((P.f3 _ (P.gmem h)).2.1.imp (fun h e=>by rw[e]at h;omega)) (fun x hx=>P.mlt h hx)
theorem qW{k:Nat}(h:k<F.length):aa (F.map li) (k:Int)=some (li (gF F k)):=by rw[aj (by simpa using h),ko h];simp
theorem Iy(P:Prt N E F)(hN:N<=1048576):pT (N:Int) (F.map li)=some (ae N (hmI F)):=by
 have hFl:=P.flen;unfold pT;rw[mkN (by omega),V0,dA];have h:=aC (body:=pj (F.map li)) (fun k=>(ae N (fun v=>if v∈(F.take k).flatten then hmI F v else 0),(k:Int))) F.length (b:=ae N (hmI F)) ?_ ?_
 . rw[show ((Z1 N).map (fun _=>(0:Int)),(0:Int))=(ae N (fun v=>if v∈(F.take 0).flatten then hmI F v else 0),((0:Nat):Int))from rfl,h];rfl
 . intro k hk;have hcl:=P.clen hk;unfold pj;dsimp only;rw[Y6,dlt hk,cond_true,qW hk,V0];have h2:=aC (body:=pt (k:Int) (li (gF F k))) (fun j=>(ae N (fun v=>if v∈(gF F k).take j then k else if v∈(F.take k).flatten then hmI F v else 0),(j:Int))) (gF F k).length (b:=ae N (fun v=>if v∈gF F k then k else if v∈(F.take k).flatten then hmI F v else 0)) ?_ ?_
   . rw[show (ae N (fun v=>if v∈(F.take k).flatten then hmI F v else 0),(0:Int))=(ae N (fun v=>if v∈(gF F k).take 0 then k else if v∈(F.take k).flatten then hmI F v else 0),((0:Nat):Int))by simp,h2,V0,an hk (by omega)];refine congrArg (fun x=>some (dy0 (x,((k+1:Nat):Int)))) (jI fun v hv=>?_);have hmf:v∈(F.take (k+1)).flatten↔v∈(F.take k).flatten\/v∈gF F k:=by
       rw[aH hk,dD0,V3,ko hk];simp
     by_cases a:v∈gF F k
     . rw[if_pos a,if_pos (hmf.2 (.inr a)),P.hm_eq hk a]
     . rw[if_neg a];by_cases b:v∈(F.take k).flatten
       . rw[if_pos b,if_pos (hmf.2 (.inl b))]
       . rw[if_neg b,if_neg (fun c=>(hmf.1 c).elim b a)]
   . intro j hj;unfold pt;dsimp only;have hvN:=P.mlt hk (X2 hj);rw[au,dlt hj,cond_true,bD hj,V0,bj hvN,V0,d8,V0,an hj (by omega)];refine congrArg (fun x=>some (dy0 (x,((j+1:Nat):Int)))) (jI fun v hv=>?_);unfold up;rw[aH hj];simp only[V3,Y2];by_cases a:v=(gF F k)[j]
     . rw[if_pos a,if_pos (.inr a)]
     . rw[if_neg a];by_cases b:v∈(gF F k).take j
       . rw[if_pos b,if_pos (.inl b)]
       . rw[if_neg b,if_neg (show ¬ (v∈(gF F k).take j\/v=(gF F k)[j])from fun c=>c.elim b a)]
   . unfold pt;simp only[au];rw[dge (bp0 _),cond_false,Y9]
 . unfold pj;simp only[Y6];rw[dge (bp0 _),cond_false,Y9];exact congrArg (fun x=>some (dk0 x)) (jI fun v hv=>if_pos ((P.f2 v).2 hv))
def bk(X:List (Nat×Nat))(k:Nat):List Nat:=(X.filter (fun e=>decide (e.2=k))).map (·.1)
def wtC(X:List (Nat×Nat))(k:Nat):Nat:=X.countP (fun e=>decide (e.1=k))
def bkL(K:Nat)(X:List (Nat×Nat)):List (List Int):=(Z1 K).map (fun k=>li (bk X k))
def crs(F:List (List Nat))(v:Nat)(ws:List Nat):List (Nat×Nat):=ws.filterMap (fun w=>if hmI F v=hmI F w then none else some (hmI F v,hmI F w))
def XA(F:List (List Nat))(E:ArG)(n:Nat):List (Nat×Nat):=(Z1 n).flatMap (fun v=>crs F v (nxt E v))
theorem J2(X:List (Nat×Nat))(e:Nat×Nat)(k:Nat):bk (X++[e]) k=if k=e.2 then bk X k++[e.1]else bk X k:=by
 unfold bk;rw[aB0,X6];by_cases h:k=e.2
 . rw[if_pos h];simp[h]
 . rw[if_neg h];simp[dz0 h]
theorem Iz(X:List (Nat×Nat))(e:Nat×Nat):wtC (X++[e])=up (wtC X) e.1 (wtC X e.1+1):=by
 funext k
 unfold wtC up;rw[cv0];by_cases h:k=e.1
 . subst h;simp
 . rw[if_neg h];simp[dz0 h]
theorem Jj{K:Nat}{X:List (Nat×Nat)}{e:Nat×Nat}:(bkL K X).set e.2 (li (bk X e.2++[e.1]))=bkL K (X++[e]):=by
 unfold bkL;rw[dI];refine bS fun k _=>?_
 rw[J2];by_cases h:k=e.2
 . rw[if_pos h,if_pos h,h]
 . rw[if_neg h,if_neg h]
theorem C8(X:List (Nat×Nat))(k:Nat):(bk X k).length<=X.length:=by unfold bk;rw[Y6];exact aa0 _ _
theorem Lb(X:List (Nat×Nat))(k:Nat):wtC X k<=X.length:=ca0
theorem BK(F:List (List Nat))(v:Nat)(ws:List Nat):(crs F v ws).length<=ws.length:=ec0 _ _
theorem qM(E:ArG)(v:Nat):(nxt E v).length=cnt (E.map (·.1)) v:=by unfold nxt;rw[Y6,wz]
theorem BA(F:List (List Nat))(E:ArG)(n:Nat):XA F E (n+1)=XA F E n++crs F n (nxt E n):=by
 unfold XA;rw[aU0,eL0];simp
theorem rG(F:List (List Nat))(E:ArG):∀n,(XA F E n).length<=ltc (E.map (·.1)) n
 |0=>by simp[XA]
 | n + 1=>by
   rw[BA,W3,mW,<- qM];have:=rG F E n;have:=BK F n (nxt E n);omega
theorem xn{e:Nat×Nat}(hE:inN N E):e∈XA F E N↔∃v w,(v,w)∈E/\hmI F v=e.1/\hmI F w=e.2/\e.1≠e.2:=by
 unfold XA crs;simp only[fl0,V7,dE0];constructor
 . rintro⟨v,hv,w,hw,he⟩;split at he
   . cases he
   . rename_i hne;cases he;exact⟨v,w,bL.1 hw,rfl,rfl,hne⟩
 . rintro⟨v,w,hvw,h1,h2,h3⟩;refine⟨v,(hE _ hvw).1,w,bL.2 hvw,?_⟩;rw[if_neg (by rw[h1,h2];exact h3),h1,h2]
theorem mV(a:Int):az a a=some ():=by unfold az;simp
theorem Ga(P:Prt N E F)(hE:inN N E)(hN:N<=1048576)(he:E.length<=67108864):pD (adj N E) (ae N (hmI F)) ((F.length:Nat):Int)=some (bkL F.length (XA F E N),ae F.length (wtC (XA F E N))):=by
 have hFl:=P.flen;have hml:(E.map (·.1)).length=E.length:=by simp
 unfold pD;have m1:(mk ((F.length:Nat):Int) ((F.length:Nat):Int) ([]:List Int):Option (List (List Int)))=some (Z2 F.length []):=mkN (by omega);have m2:(mk ((F.length:Nat):Int) ((F.length:Nat):Int) (0:Int):Option (List Int))=some (Z2 F.length 0):=mkN (by omega);rw[m1,m2];simp only[V0,qA];have h:=aC (body:=oS (adj N E) (ae N (hmI F))) (fun n=>(ae F.length (wtC (XA F E n)),(n:Int),bkL F.length (XA F E n))) N (b:=(ae F.length (wtC (XA F E N)),bkL F.length (XA F E N))) ?_ ?_
 . have e0:(Z2 F.length (0:Int),(0:Int),Z2 F.length ([]:List Int))=(ae F.length (wtC (XA F E 0)),((0:Nat):Int),bkL F.length (XA F E 0)):=by
     unfold ae bkL;rw[dA,dA];rfl
   rw[e0,h];rfl
 . intro v hv;have hXl:=rG F E (v+1);have hlt:=km (E.map (·.1)) (v+1);rw[mW,<- qM]at hXl hlt;have hX0:=rG F E v;unfold oS;dsimp only;rw[show (adj N E).length=N by simp[adj],dlt hv,cond_true,Ct hv,V0];have h2:=aC (body:=oV (ae N (hmI F)) (v:Int) (li (nxt E v))) (fun j=>(ae F.length (wtC (XA F E v++crs F v ((nxt E v).take j))),(j:Int),bkL F.length (XA F E v++crs F v ((nxt E v).take j)))) (nxt E v).length
     (b:=(ae F.length (wtC (XA F E (v+1))),bkL F.length (XA F E (v+1)))) ?_ ?_
   . have e0:(ae F.length (wtC (XA F E v)),(0:Int),bkL F.length (XA F E v))=(ae F.length (wtC (XA F E v++crs F v ((nxt E v).take 0))),((0:Nat):Int),bkL F.length (XA F E v++crs F v ((nxt E v).take 0))):=by simp[crs]
     rw[e0,h2,V0,an hv (by omega)]
   . intro j hj;unfold oV;dsimp only;have hwN:(nxt E v)[j]<N:=(hE _ (bL.1 (X2 hj))).2;have hpl:(XA F E v++crs F v ((nxt E v).take j)).length<=E.length:=by
       rw[W3];have:=BK F v ((nxt E v).take j);rw[X4]at this;omega
     rw[au,dlt hj,cond_true,bD hj,V0,bj hv,V0,bj hwN,V0];have hts:crs F v ((nxt E v).take (j+1))=crs F v ((nxt E v).take j)++(if hmI F v=hmI F (nxt E v)[j]then []else [(hmI F v,hmI F (nxt E v)[j])]):=by
       rw[aH hj];unfold crs;rw[ex0]
       congr 1
       by_cases q:hmI F v=hmI F (nxt E v)[j] <;> simp[q]
     generalize (nxt E v)[j]=w at *;generalize hX:XA F E v++crs F v ((nxt E v).take j)=X at *;rw[hts,<- X1,hX];by_cases q:hmI F v=hmI F w
     . rw[if_pos q,Z6,nN q,cond_false,an hj (by omega)]
     . obtain⟨hv1,_⟩:=P.hm hv;obtain⟨hw1,_⟩:=P.hm hwN;have hb1:aa (bkL F.length X) ((hmI F w:Nat):Int)=some (li (bk X (hmI F w))):=bC hw1;have hbl:=C8 X (hmI F w);have hwl:=Lb X (hmI F v);rw[if_neg q,ky q,cond_true,V0,hb1];simp only[V0,mV,hb1];rw[aI (by rw[au];simp;omega),V0,bj hv1];simp only[V0];rw[an (n:=wtC X (hmI F v)+1) (by omega) (by omega),d8,an hj (by omega),W2,<- eh];have e1:=Jj (K:=F.length) (X:=X) (e:=(hmI F v,hmI F w));have e2:=Iz X (hmI F v,hmI F w);dsimp only at e1 e2;rw[e1,e2]
   . unfold oV;simp only[au];rw[dge (bp0 _),cond_false,Y9,<- BA]
 . unfold oS;simp only[show (adj N E).length=N by simp[adj]];rw[dge (bp0 _),cond_false]
end
end
section
def rdy(X:List (Nat×Nat))(P:List Nat)(j:Nat):Prop:=∀e∈X,e.1=j->e.2∈P
def wq(X:List (Nat×Nat))(Q:List Nat)(j:Nat):Nat:=X.countP (fun e=>decide (e.1=j)&&!decide (e.2∈Q))
theorem rh{X:List (Nat×Nat)}{Q:List Nat}{j:Nat}:wq X Q j=0↔rdy X Q j:=by
 unfold wq rdy;rw[List.countP_eq_zero];constructor
 . intro h e he hj;have:=h e he;simp[hj]at this;exact this
 . intro h e he;simp only[Y1,decide_eq_true_eq,bN0,decide_eq_false_iff_not,not_and,Decidable.not_not];exact h e he
theorem wR(X:List (Nat×Nat))(j:Nat):wq X [] j=wtC X j:=by
 unfold wq wtC;exact eZ0 fun e _=>by simp
theorem B0(Q:List Nat){k:Nat}(hk:k∉Q)(j:Nat):∀X:List (Nat×Nat),wq X Q j=wq X (Q++[k]) j+(bk X k).countP (fun x=>decide (x=j))
 |[]=>rfl
 | e :: X=>by
   have h:=B0 Q hk j X;unfold wq bk at *;rw[bB0,bB0,aZ0];by_cases h1:e.2=k
   . subst h1;simp only[V3,Y2,or_true,decide_true,if_true,X5,bB0];by_cases h2:e.1=j
     . simp[h2,hk];simp at h;omega
     . simp[h2];simp at h;omega
   . simp only[V3,Y2,h1,or_false,decide_false,W7,if_false];simp only[V3,Y2]at h;rw[h];omega
structure Nmb(K:Nat)(X:List (Nat×Nat))(ls:Nat->Nat)(Q:List Nat):Prop where
 nd:Q.Nodup
 lt:∀k∈Q,k<K
 ok:∀t (h:t<Q.length),rdy X (Q.take t) Q[t]/\∀j,j<K->j∉Q.take t->rdy X (Q.take t) j->ls Q[t]<=ls j
section
variable {K:Nat}{X:List (Nat×Nat)}{ls:Nat->Nat}{Q:List Nat}
theorem Nmb.nil:Nmb K X ls []:=⟨.nil,fun k h=>(by cases h),fun t h=>(by cases h)⟩
theorem Nmb.len(h:Nmb K X ls Q):Q.length<=K:=cT h.nd h.lt
theorem Nmb.snoc(h:Nmb K X ls Q){k:Nat}(hk:k<K)(hn:k∉Q)(hr:rdy X Q k)(hl:∀j,j<K->j∉Q->rdy X Q j->ls k<=ls j):Nmb K X ls (Q++[k]):=by
 refine⟨?_,fun x hx=>?_,fun t ht=>?_⟩
 . rw[aR0];exact⟨h.nd,by simp,fun a ha b hb=>by rw[Y2]at hb;rintro rfl;exact hn (hb ▸ ha)⟩
 . rcases V3.1 hx with hx|hx
   . exact h.lt x hx
   . rw[Y2.1 hx];exact hk
 . rw[W3,bb0]at ht;by_cases e:t<Q.length
   . rw[au0 (by omega),ee0 e];exact h.ok t e
   . obtain rfl:t=Q.length:=by omega
     rw[au0 (X3 _),Y9];simp only[List.getElem_concat_length];exact⟨hr,hl⟩
theorem Nmb.rdyQ(h:Nmb K X ls Q){k:Nat}(hk:k∈Q):rdy X Q k:=by
 obtain⟨t,ht,rfl⟩:=Z8 hk;exact fun e he hj=>bg0 ((h.ok t ht).1 e he hj)
end
section
variable {N:Nat}{E:ArG}{F:List (List Nat)}
theorem Jk(N:Nat)(E:ArG)(v:Nat):(rl N E v).Nodup:=by unfold rl;exact List.nodup_range.filter _
theorem Prt.all(P:Prt N E F)(hE:inN N E){Q:List Nat}(h:∀j,j<F.length->j∉Q->¬ rdy (XA F E N) Q j):∀(r j:Nat),j<F.length->(rl N E (lst F j)).length<=r->j∈Q
 | 0,j,hj,hr=>by
   have hm:=(er hE (P.mlt hj (P.lst_mem hj))).2 (Rch.refl (lst F j));have:=cx0 hm;omega
 | r + 1,j,hj,hr=>by
   refine dW0 fun hn=>h j hj hn fun e he hej=>dW0 fun hq=>?_
   obtain⟨v,w,hvw,h1,h2,h3⟩:=(xn hE).1 he;have hvN:=(hE _ hvw).1;have hwN:=(hE _ hvw).2;obtain⟨hw1,hw2⟩:=P.hm hwN;have hlj:=P.mlt hj (P.lst_mem hj);have hl2:lst F e.2<N:=P.mlt (h2 ▸ hw1) (P.lst_mem (h2 ▸ hw1));have r1:Rch E (lst F j) v:=((P.same hlj hvN).1 (by rw[P.hm_lst hj,h1,hej])).1;have r2:=(P.same hwN hl2).1 (by rw[P.hm_lst (h2 ▸ hw1),h2]);have hback:¬ Rch E (lst F e.2) (lst F j):=fun k=>by
     have:hmI F v=hmI F w:=(P.same hvN hwN).2 ⟨(Rch.refl v).step hvw,(r2.1.trans k).trans r1⟩;rw[h1,h2]at this;exact h3 this
   have hsub:(lst F j::rl N E (lst F e.2)).length<=(rl N E (lst F j)).length:=vI (aw0.2 ⟨fun k=>hback ((er hE hl2).1 k),Jk _ _ _⟩) (fun x hx=>by
     rw[er hE hlj]
     rcases Y4.1 hx with rfl|hx
     . exact .refl _
     . exact ((r1.step hvw).trans r2.1).trans ((er hE hl2).1 hx))
   rw[V9]at hsub;exact hq (P.all hE h r e.2 (h2 ▸ hw1) (by omega))
theorem za{L:List Nat}{p q:Nat->Bool}{x:Nat}(hd:L.Nodup)(hx:x∈L)(hp:p x=false)(hq:∀y,q y=(p y||decide (y=x))):(L.filter q).Perm (x::L.filter p):=by
 induction L with
 |nil=>cases hx
 | cons a L ih =>
   rw[aw0]at hd;rw[aZ0,aZ0];by_cases e:a=x
   . subst e;rw[hq,hp,decide_eq_true rfl,cw0,if_pos rfl,if_neg (by simp)];refine .cons _ (.of_eq (bm0 fun y hy=>?_));rw[hq,decide_eq_false (fun k:y=a=>hd.1 (k ▸ hy)),di0]
   . have h1:=ih hd.2 ((Y4.1 hx).resolve_left (dz0 e));rw[hq,decide_eq_false e,di0];by_cases k:p a=true
     . rw[if_pos k,if_pos k];exact (h1.cons a).trans (.swap _ _ _)
     . rw[if_neg k,if_neg k];exact h1
def bZ(F:List (List Nat))(Q:List Nat)(w:Nat->Nat):List Int:=((Z1 F.length).filter (fun j=>!decide (j∈Q)&&decide (w j=0))).map (fun j=>((lst F j:Nat):Int))
theorem vD(F:List (List Nat))(Q:List Nat)(w:Nat->Nat):(bZ F Q w).length<=F.length:=by
 unfold bZ;rw[Y6];have:=aa0 (fun j=>!decide (j∈Q)&&decide (w j=0)) (Z1 F.length);rwa [bk0]at this
theorem Gs(P:Prt N E F){k:Nat}(hk:k<F.length)(hN:N<=1048576)(ms:List (List Int))(f:Nat->Nat):loop (lU ms (li (gF F k))) (0,ae N f)=some (ae N (fun v=>if v∈gF F k then ms.length else f v)):=by
 have hcl:=P.clen hk;have h:=aC (body:=lU ms (li (gF F k))) (fun j=>((j:Int),ae N (fun v=>if v∈(gF F k).take j then ms.length else f v))) (gF F k).length (b:=ae N (fun v=>if v∈gF F k then ms.length else f v)) ?_ ?_
 . rw[<- h];simp
 . intro j hj;unfold lU;dsimp only;have hvN:=P.mlt hk (X2 hj);rw[au,dlt hj,cond_true,bD hj,V0,bj hvN,V0,d8,V0,an hj (by omega)];refine congrArg (fun x=>some (dy0 (((j+1:Nat):Int),x))) (jI fun v hv=>?_);unfold up;rw[aH hj];simp only[V3,Y2];by_cases a:v=(gF F k)[j]
   . rw[if_pos a,if_pos (.inr a)]
   . rw[if_neg a];by_cases b:v∈(gF F k).take j
     . rw[if_pos b,if_pos (.inl b)]
     . rw[if_neg b,if_neg (show ¬ (v∈(gF F k).take j\/v=(gF F k)[j])from fun c=>c.elim b a)]
 . unfold lU;simp only[au];rw[dge (bp0 _),cond_false,Y9]
theorem Cg{k:Nat}(P:Prt N E F)(h:k<F.length):aa (li (gF F k)) (0:Int)=some ((lst F k:Nat):Int):=by
 have hl:0<(gF F k).length:=bl0.2 (P.f3 _ (P.gmem h)).1;rw[show (0:Int)=((0:Nat):Int)from rfl,bD hl];unfold lst;rw[bI0,Z0 hl];rfl
theorem Gx(P:Prt N E F)(hE:inN N E)(he:E.length<=67108864){Q:List Nat}{k:Nat}(hQ:Nmb F.length (XA F E N) (lst F) Q)(hk:k<F.length)(hN:N<=1048576)(hkQ:k∉Q){r:List Int}
   (hr:r.Perm (bZ F (Q++[k]) (wq (XA F E N) Q))) (hh:HP r.length 0 r) :
   ∃r',loop (oZ (F.map li) (li (bk (XA F E N) k))) (ae F.length (wq (XA F E N) Q),0,r)=some (ae F.length (wq (XA F E N) (Q++[k])),r')/\r'.Perm (bZ F (Q++[k]) (wq (XA F E N) (Q++[k])))/\HP r'.length 0 r':=by
 have hFl:=P.flen;have hml:(E.map (·.1)).length=E.length:=by simp
 have hXl:(XA F E N).length<=67108864:=by have:=rG F E N;have:=km (E.map (·.1)) N;omega
 generalize hX:XA F E N=X at *;have hbl:=C8 X k
 let ww:Nat->Nat->Nat:=fun i j=>wq X (Q++[k]) j+((bk X k).drop i).countP (fun x=>decide (x=j))
 have hw0:ww 0=wq X Q:=by funext j;show wq X (Q++[k]) j+_=_;rw[ab0,B0 Q hkQ j X]
 have hwe:ww (bk X k).length=wq X (Q++[k]):=by funext j;show wq X (Q++[k]) j+_=_;rw[fo0];rfl
 have hwl:∀i j,ww i j<=ww 0 j:=fun i j=>by
   show wq X (Q++[k]) j+_<=wq X (Q++[k]) j+_;rw[ab0];exact Nat.add_le_add_left ((List.drop_sublist i (bk X k)).countP_le) _
 have hwX:∀j,wq X Q j<=X.length:=fun j=>ca0
 have hq : ∃ b, loop (oZ (F.map li) (li (bk X k))) (ae F.length (wq X Q), 0, r) = some b /\ ∃ r', b = (ae F.length (wq X (Q ++ [k])), r') /\ r'.Perm (bZ F (Q ++ [k]) (wq X (Q ++ [k]))) /\ HP r'.length 0 r' := by
   refine aW (fun s=>∃(i:Nat) (r':List Int),i<=(bk X k).length/\s=(ae F.length (ww i),(i:Int),r')/\r'.Perm (bZ F (Q++[k]) (ww i))/\HP r'.length 0 r') (fun s=>(bk X k).length-s.2.1.toNat) ?_ ⟨0,r,ah0 _,by rw[hw0];rfl,by rw[hw0];exact hr,hh⟩;rintro s ⟨i,r',hi,rfl,hp,hh'⟩;unfold oZ;dsimp only;rw[au];by_cases hil:i<(bk X k).length
   . left
     rw[dlt hil,cond_true,bD hil,V0];have hx:(bk X k)[i]∈bk X k:=X2 hil;have hdrop:(bk X k).drop i=(bk X k)[i]::(bk X k).drop (i+1):=aY0 hil;generalize (bk X k)[i]=x at *;have hxe:∃e∈X,e.2=k/\e.1=x:=by
       unfold bk at hx;obtain⟨e,he,rfl⟩:=Y7.1 hx;obtain⟨he,h2⟩:=ac0.1 he;exact⟨e,he,by simpa using h2,rfl⟩
     obtain⟨e,heX,he2,he1⟩:=hxe;obtain⟨v,w,hvw,h1,h2,h3⟩:=(xn hE).1 (hX ▸ heX);have hxK:x<F.length:=by rw[<- he1,<- h1];exact (P.hm (hE _ hvw).1).1
     have hstep:∀j,ww i j=ww (i+1) j+(if j=x then 1 else 0):=fun j=>by
       show wq X (Q++[k]) j+_=wq X (Q++[k]) j+_+_;rw[hdrop,bB0];by_cases q:x=j
       . subst q;simp;omega
       . simp[q,dz0 q]
     have hsx:ww i x=ww (i+1) x+1:=by rw[hstep,if_pos rfl]
     have hb1:=hwl i x;have hb2:=hwX x;rw[hw0]at hb1;have hxQ:x∉Q++[k]:=fun hm=>by
       rcases V3.1 hm with hm|hm
       . have:=rh.2 (hQ.rdyQ hm);omega
       . rw[Y2]at hm;exact h3 (by rw[he1,he2,hm])
     have hw1:M0 .i64 (((ww i x:Nat):Int)-1)=((ww (i+1) x:Nat):Int):=by rw[hsx,w64 (by omega) (by omega)];omega
     have hup:up (ww i) x (ww (i+1) x)=ww (i+1):=by
       funext j;unfold up;split
       . rename_i q;rw[q]
       . rename_i q;rw[hstep,if_neg q];omega
     rw[bj hxK];simp only[V0];rw[hw1,d8,hup,bj hxK,V0,an hil (by omega)];have hrl:r'.length<=N:=by rw[hp.length_eq];exact Z7 (vD _ _ _) hFl
     by_cases hz:ww (i+1) x=0
     . rw[decide_eq_true (show ((ww (i+1) x:Nat):Int)=0 by omega),cond_true,qW hxK,V0,Cg P hxK,V0];obtain⟨r2,e2,p2,q2⟩:=J8 (l:=r') (x:=((lst F x:Nat):Int)) (by omega) hh';rw[e2,V0];refine⟨_,rfl,⟨i+1,r2,by omega,rfl,?_,q2⟩,by dsimp only;omega⟩;refine p2.trans ((hp.cons _).trans ?_);unfold bZ;rw[<- X5 (f:=fun j=>((lst F j:Nat):Int))];refine (List.Perm.map _ (za dj0 (V7.2 hxK) ?_ (fun y=>?_))).symm
       . rw[hsx];simp
       . by_cases q:y=x
         . subst q;rw[hz];simp[hxQ]
         . have:=hstep y;rw[if_neg q,aD0]at this;rw[<- this,decide_eq_false q,di0]
     . rw[decide_eq_false (show ¬ ((ww (i+1) x:Nat):Int)=0 by omega),cond_false];refine⟨_,rfl,⟨i+1,r',by omega,rfl,?_,hh'⟩,by dsimp only;omega⟩;refine hp.trans (.of_eq ?_);unfold bZ;refine congrArg _ (bm0 fun y _=>?_);by_cases q:y=x
       . subst q;rw[decide_eq_false (show ¬ ww i y=0 by omega),decide_eq_false hz]
       . have:=hstep y;rw[if_neg q,aD0]at this;rw[this]
   . right
     have:i=(bk X k).length:=by omega
     subst this;rw[dge (bp0 _),cond_false,hwe];rw[hwe]at hp;exact⟨_,rfl,r',rfl,hp,hh'⟩
 obtain⟨b,hb,r',rfl,h1,h2⟩:=hq;exact⟨r',hb,h1,h2⟩
theorem GG (P:Prt N E F) (hE:inN N E) (hN:N<=1048576) (he:E.length<=67108864) :
   ∃Q,Nmb F.length (XA F E N) (lst F) Q/\(∀k,k<F.length->k∈Q)/\mB (adj N E) (F.map li)=some (some (ae N (fun v=>Q.idxOf (hmI F v)),Q.map (fun k=>li (gF F k)))):=by
 have hFl:=P.flen;have hal:(adj N E).length=N:=by simp[adj]
 unfold mB;rw[hal,Y6,Iy P hN,V0,Ga P hE hN he,V0];dsimp only;have h1:=aC (body:=pe (F.map li) (ae F.length (wtC (XA F E N)))) (fun k=>((k:Int),((Z1 k).filter (fun j=>!decide (j∈([]:List Nat))&&decide (wq (XA F E N) [] j=0))).map (fun j=>((lst F j:Nat):Int)))) F.length (b:=bZ F [] (wq (XA F E N) [])) ?_ ?_
 . rw[show ((0:Int),([]:List Int))=(((0:Nat):Int),((Z1 0).filter (fun j=>!decide (j∈([]:List Nat))&&decide (wq (XA F E N) [] j=0))).map (fun j=>((lst F j:Nat):Int)))from rfl,h1,V0];obtain⟨r,hr,hp,hh⟩:=Kq (l:=bZ F [] (wq (XA F E N) [])) (by have:=vD F [] (wq (XA F E N) []);omega);rw[hr,V0,mkN (by omega),V0];have hwn:wtC (XA F E N)=wq (XA F E N) []:=by funext j;rw[wR]
   have hq : ∃ b, loop (ug (F.map li) (ae N (hmI F)) (bkL F.length (XA F E N))) (ae F.length (wtC (XA F E N)), r, Z2 N 0, []) = some b /\
       ∃Q,Nmb F.length (XA F E N) (lst F) Q/\(∀j,j<F.length->j∉Q->¬ rdy (XA F E N) Q j)/\b=(ae N (fun v=>if hmI F v∈Q then Q.idxOf (hmI F v)else 0),Q.map (fun k=>li (gF F k))):=by
     refine aW (fun s=>∃(Q:List Nat) (r:List Int),Nmb F.length (XA F E N) (lst F) Q/\s=(ae F.length (wq (XA F E N) Q),r,ae N (fun v=>if hmI F v∈Q then Q.idxOf (hmI F v)else 0),Q.map (fun k=>li (gF F k)))/\r.Perm (bZ F Q (wq (XA F E N) Q))/\HP r.length 0 r) (fun s:List Int×List Int×List Int×List (List Int)=>F.length-s.2.2.2.length) ?_ ⟨[],r,.nil,?_,hp,hh⟩
     . rintro s ⟨Q,r,hQ,rfl,hp,hh⟩;have hQl:=hQ.len;unfold ug eT;dsimp only;rw[V0];have hrl:r.length<=N:=by rw[hp.length_eq];exact Z7 (vD _ _ _) hFl
       by_cases h0:0<r.length
       . left
         rw[decide_eq_true (show (0:Int)<((r.length:Nat):Int)by omega),cond_true];obtain⟨r1,e1,p1,q1⟩:=L4 (by omega) hh h0;rw[e1,V0];dsimp only;have hm0:gD r 0∈bZ F Q (wq (XA F E N) Q):=hp.subset (by rw[fi h0];exact X2 h0);obtain⟨k,hk,ek⟩:=Y7.1 hm0;rw[ac0,V7,Y1,bN0,decide_eq_false_iff_not,decide_eq_true_eq]at hk;obtain⟨hkK,hkQ,hkw⟩:=hk;have hleast:∀j,j<F.length->j∉Q->rdy (XA F E N) Q j->lst F k<=lst F j:=fun j hj hjQ hjr=>by
           have:((lst F j:Nat):Int)∈bZ F Q (wq (XA F E N) Q):=Y7.2 ⟨j,by rw[ac0,V7,Y1,bN0,decide_eq_false_iff_not,decide_eq_true_eq];exact⟨hj,hjQ,rh.2 hjr⟩,rfl⟩;obtain⟨i,hi,ei⟩:=Z8 (hp.symm.subset this);have:=hh.least i hi;rw[fi hi,ei,<- ek]at this;omega
         have hkN:=P.mlt hkK (P.lst_mem hkK);rw[<- ek,bj hkN,V0,P.hm_lst hkK,qW hkK];simp only[V0];rw[Gs P hkK hN,V0,aI (by simp;omega),V0,show aa (bkL F.length (XA F E N)) ((k:Nat):Int)=some (li (bk (XA F E N) k))from bC hkK,V0];have hp1:r1.Perm (bZ F (Q++[k]) (wq (XA F E N) Q)):=by
           have a:=p1.symm.trans hp;rw[<- ek]at a;have b:(bZ F Q (wq (XA F E N) Q)).Perm (((lst F k:Nat):Int)::bZ F (Q++[k]) (wq (XA F E N) Q)):=by
             unfold bZ;rw[<- X5 (f:=fun j=>((lst F j:Nat):Int))];refine List.Perm.map _ (za dj0 (V7.2 hkK) (by simp) (fun y=>?_));by_cases q:y=k
             . subst q;simp[hkQ,hkw]
             . simp[q]
           exact (List.perm_cons _).1 (a.trans b)
         obtain⟨r2,e2,p2,q2⟩:=Gx P hE he hQ hkK hN hkQ hp1 q1;rw[e2,V0];have hQ2:=hQ.snoc hkK hkQ (rh.1 hkw) hleast;have hQ2l:=hQ2.len;rw[W3,bb0]at hQ2l;refine⟨_,rfl,⟨Q++[k],r2,hQ2,?_,p2,q2⟩,by dsimp only;simp;omega⟩;have e3:ae N (fun v=>if v∈gF F k then (Q.map (fun k=>li (gF F k))).length else if hmI F v∈Q then Q.idxOf (hmI F v)else 0)=ae N (fun v=>if hmI F v∈Q++[k]then (Q++[k]).idxOf (hmI F v)else 0):=jI fun v hv=>by
           rw[Y6];by_cases a:v∈gF F k
           . have e:=P.hm_eq hkK a;rw[if_pos a,e,if_pos (by simp),eX0,if_neg hkQ];simp
           . have e:hmI F v≠k:=fun q=>a (q ▸ (P.hm hv).2)
             rw[if_neg a];by_cases b:hmI F v∈Q
             . rw[if_pos b,if_pos (af0 _ b),eX0,if_pos b]
             . rw[if_neg b,if_neg (fun c=>(V3.1 c).elim b (fun d=>e (Y2.1 d)))]
         rw[e3,X6];rfl
       . right
         have hnil:r=[]:=Z4.1 (by omega);rw[decide_eq_false (show ¬ (0:Int)<((r.length:Nat):Int)by omega),cond_false];refine⟨_,rfl,Q,hQ,fun j hj hjQ hjr=>?_,rfl⟩;have:((lst F j:Nat):Int)∈bZ F Q (wq (XA F E N) Q):=Y7.2 ⟨j,by rw[ac0,V7,Y1,bN0,decide_eq_false_iff_not,decide_eq_true_eq];exact⟨hj,hjQ,rh.2 hjr⟩,rfl⟩;have:=hp.symm.subset this;rw[hnil]at this;cases this
     . rw[hwn];have:Z2 N (0:Int)=ae N (fun v=>if hmI F v∈([]:List Nat)then ([]:List Nat).idxOf (hmI F v)else 0):=by unfold ae;rw[dA];exact bS fun v _=>by simp
       rw[this];rfl
   obtain⟨b,hb,Q,hQ,hst,rfl⟩:=hq;have hall:∀k,k<F.length->k∈Q:=fun k hk=>P.all hE hst _ k hk (X3 _)
   refine⟨Q,hQ,hall,?_⟩;rw[hb,V0];dsimp only;rw[jI (f:=fun v=>if hmI F v∈Q then Q.idxOf (hmI F v)else 0) (g:=fun v=>Q.idxOf (hmI F v)) (fun v hv=>if_pos (hall _ (P.hm hv).1))]
 . intro k hk;unfold pe;dsimp only;rw[Y6,dlt hk,cond_true,qW hk,V0,bj hk,V0,an hk (by omega),aU0,aB0,X6];have hfl:(((Z1 k).filter (fun j=>!decide (j∈([]:List Nat))&&decide (wq (XA F E N) [] j=0))).map (fun j=>((lst F j:Nat):Int))).length<=k:=by
     rw[Y6];have:=aa0 (fun j=>!decide (j∈([]:List Nat))&&decide (wq (XA F E N) [] j=0)) (Z1 k);rwa [bk0]at this
   by_cases hz:wtC (XA F E N) k=0
   . rw[decide_eq_true (show ((wtC (XA F E N) k:Nat):Int)=0 by omega),cond_true,Cg P hk,V0,aI (by rw[bb0];omega),V0];simp[wR,hz]
   . rw[decide_eq_false (show ¬ ((wtC (XA F E N) k:Nat):Int)=0 by omega),cond_false];simp[wR,hz]
 . unfold pe;simp only[Y6];rw[dge (bp0 _),cond_false];rfl
end
end
section
structure Cmp(N:Nat)(E:ArG)(c:Nat->Nat)(K:Nat):Prop where
 lt:∀v,v<N->c v<K
 on:∀k,k<K->∃v,v<N/\c v=k
 eq:∀v w,v<N->w<N->(c v=c w↔Rch E v w/\Rch E w v)
 ar:∀v w,(v,w)∈E->c w<=c v
def mbs(N:Nat)(c:Nat->Nat)(k:Nat):List Nat:=(Z1 N).filter (fun v=>decide (c v=k))
section
variable {N:Nat}{E:ArG}{F:List (List Nat)}{Q:List Nat}
theorem qV{Q:List Nat}(h:Q.Nodup){t:Nat}(ht:t<Q.length):Q.idxOf Q[t]=t:=by
 have h1:Q.idxOf Q[t]<Q.length:=bE0 (X2 ht);have h2:Q[Q.idxOf Q[t]]=Q[t]:=cW0 h1;have h3:Q.Pairwise (·≠·):=h;rw[am0]at h3
 rcases bi0 (Q.idxOf Q[t]) t with k |k|k
 . exact absurd h2 (h3 _ _ h1 ht k)
 . exact k
 . exact absurd h2.symm (h3 _ _ ht h1 k)
theorem Ci{Q:List Nat}{a b:Nat}(ha:a∈Q)(hb:b∈Q)(h:Q.idxOf a=Q.idxOf b):a=b:=by
 have h1:=bE0 ha;have h2:=bE0 hb;have e1:Q[Q.idxOf a]=a:=cW0 h1;have e2:Q[Q.idxOf b]=b:=cW0 h2;rw[<- e1,<- e2];congr 1
theorem Nmb.full(P:Prt N E F)(h:Nmb F.length (XA F E N) (lst F) Q)(hall:∀k,k<F.length->k∈Q):Q.length=F.length:=by
 refine dS0 h.len ?_;have:=vI (A:=Q) (L:=Z1 F.length) dj0 (fun x hx=>hall x (V7.1 hx))
 rwa [bk0]at this
theorem Nmb.cmp(P:Prt N E F)(hE:inN N E)(h:Nmb F.length (XA F E N) (lst F) Q)(hall:∀k,k<F.length->k∈Q):Cmp N E (fun v=>Q.idxOf (hmI F v)) F.length where
 lt:=fun v hv=>by rw[<- h.full P hall];exact bE0 (hall _ (P.hm hv).1)
 on:=fun k hk=>by
   rw[<- h.full P hall]at hk;have hq:=h.lt _ (X2 hk);exact⟨lst F Q[k],P.mlt hq (P.lst_mem hq),by rw[P.hm_lst hq,qV h.nd hk]⟩
 eq:=fun v w hv hw=>by
   rw[<- P.same hv hw];exact⟨fun e=>Ci (hall _ (P.hm hv).1) (hall _ (P.hm hw).1) e,fun e=>by rw[e]⟩
 ar := fun v w hvw => by
   obtain⟨hv,hw⟩:=hE _ hvw;by_cases e:hmI F v=hmI F w
   . rw[e];exact X3 _
   . have hvQ:=hall _ (P.hm hv).1;have ht:=bE0 hvQ;have hg:Q[Q.idxOf (hmI F v)]=hmI F v:=cW0 ht;have:=(h.ok _ ht).1 (hmI F v,hmI F w) ((xn hE).2 ⟨v,w,hvw,rfl,rfl,e⟩) hg.symm;obtain⟨i,hi,ei⟩:=Z8 this;rw[X4]at hi;rw[cA0]at ei;have h2:Q.idxOf (hmI F w)=i:=by
       have:=qV h.nd (show i<Q.length by omega)
       rwa [ei]at this
     have h3:i<Q.idxOf (hmI F v):=bV0 hi (dR0 _ _);show Q.idxOf (hmI F w)<=Q.idxOf (hmI F v);rw[h2];exact bt0 h3
theorem Nmb.members(P:Prt N E F)(h:Nmb F.length (XA F E N) (lst F) Q)(hall:∀k,k<F.length->k∈Q):Q.map (fun k=>li (gF F k))=(Z1 F.length).map (fun k=>li (mbs N (fun v=>Q.idxOf (hmI F v)) k)):=by
 have hl:=h.full P hall;apply cl0
 . simp[hl]
 . intro k h1 h2;simp only[ck0,bW0];rw[Y6]at h1;have hq:=h.lt _ (X2 h1);have hs:=(P.f3 _ (P.gmem hq)).2.1;refine ir (by unfold li;rw[cc0];exact hs.imp (fun h=>by omega)) (jC N _) (fun a=>?_);unfold li mbs;simp only[Y7,ac0,V7,decide_eq_true_eq];constructor
   . rintro⟨v,hv,rfl⟩;exact⟨v,⟨P.mlt hq hv,by rw[P.hm_eq hq hv,qV h.nd h1]⟩,rfl⟩
   . rintro⟨v,⟨hv,e⟩,rfl⟩;refine⟨v,?_,rfl⟩;obtain⟨k1,k2⟩:=P.hm hv;have:hmI F v=Q[k]:=Ci (hall _ k1) (X2 h1) (by rw[e,qV h.nd h1]);rw[<- this];exact k2
theorem HY(hE:inN N E)(hN:N<=1048576)(he:E.length<=67108864){body:Int×Wst->Option ((Int×Wst)⊕Wst)}
   (hb:∀i a b c d m w o f,body (i,a,b,c,d,m,w,o,f)=cond (decide (i<(((adj N E).length:Nat):Int))) ((aa b i).bind fun x=>cond (decide (x=0)) ((gU i (adj N E) a b c d m w o f).bind fun s=>some (.inl (M0 .i64 (i+1),s))) (some (.inl (M0 .i64 (i+1),a,b,c,d,m,w,o,f)))) (some (.inr (a,b,c,d,m,w,o,f)))) :
   ∃a b c d m w o F,loop body (0,ae N (fun _=>0),ae N (fun _=>0),ae N (fun _=>0),ae N (bN fun _=>false),0,[],[],[])=some (a,b,c,d,m,w,o,F.map li)/\Prt N E F:=by
 have hal:(adj N E).length=N:=by simp[adj]
 have hq:∃r,loop body (0,ae N (fun _=>0),ae N (fun _=>0),ae N (fun _=>0),ae N (bN fun _=>false),0,[],[],[])=some r/\∃a b c d m w o F,r=(a,b,c,d,m,w,o,cE0 li F)/\Prt N E F:=by
   refine aW (fun s=>∃(v:Nat) (A M L:Nat->Nat) (S:Nat->Bool) (m:Nat) (F:List (List Nat)),v<=N/\s=((v:Int),ae N A,ae N M,ae N L,ae N (bN S),(m:Int),li [],li [],F.map li)/\Tj N E A M L S m [] [] F/\∀x,x<v->M x≠0) (fun s=>N-s.1.toNat) ?_ ⟨0,_,_,_,_,0,[],ah0 _,rfl,Tj.start N E,fun x hx=>absurd hx (dQ0 _)⟩;rintro s ⟨v,A,M,L,S,m,F,hv,rfl,h,hx⟩;rw[hb,hal];by_cases hvN:v<N
   . left
     rw[dlt hvN,cond_true,bj hvN,V0];by_cases h0:M v=0
     . obtain⟨A',M',L',S',m',F',e,h',g1,g2⟩:=KI hE hN he h hvN h0;rw[decide_eq_true (show ((M v:Nat):Int)=0 by omega),cond_true,e,V0,an hvN (by omega)];refine⟨_,rfl,⟨v+1,A',M',L',S',m',F',by omega,rfl,h',fun x hx'=>?_⟩,by dsimp only;omega⟩;by_cases q:x=v
       . rw[q];exact g2
       . exact g1 x (hx x (by omega))
     . rw[decide_eq_false (show ¬ ((M v:Nat):Int)=0 by omega),cond_false,an hvN (by omega)];refine⟨_,rfl,⟨v+1,A,M,L,S,m,F,by omega,rfl,h,fun x hx'=>?_⟩,by dsimp only;omega⟩;by_cases q:x=v
       . rw[q];exact h0
       . exact hx x (by omega)
   . right
     rw[dge hvN,cond_false];exact⟨_,rfl,_,_,_,_,_,_,_,F,rfl,h.prt (fun x hx'=>hx x (by omega))⟩
 obtain⟨r,hr,a,b,c,d,m,w,o,F,rfl,hP⟩:=hq;exact⟨a,b,c,d,m,w,o,F,hr,hP⟩
theorem HV(hN:N<=1048576)(he:E.length<=67108864){body:Int×List (List Int)->Option ((Int×List (List Int))⊕List (List Int))}
   (hb:∀(i:Nat) l,body ((i:Int),l)=cond (decide ((i:Int)<((N:Nat):Int))) ((aa l (i:Int)).bind fun _=>(fM (some (mkG N E)) (i:Int)).bind fun z=>(aa l (i:Int)).bind fun _=>(az (i:Int) (i:Int)).bind fun _=>some (.inl (M0 .i64 ((i:Int)+1),l.set (i:Int).toNat z))) (some (.inr l))) :
   loop body (0,Z2 N [])=some (adj N E):=by
 have h:=aC (body:=body) (fun v=>((v:Int),(Z1 N).map (fun u=>if u<v then li (nxt E u)else []))) N (b:=adj N E) ?_ ?_
 . rw[<- h,dA];simp
 . intro v hv;rw[hb,dlt hv,cond_true,bC hv,V0,B3 hN he hv];simp only[V0,mV];rw[an hv (by omega),W2,dI];refine congrArg (fun x=>some (dy0 (((v+1:Nat):Int),x))) (bS fun u hu=>?_);by_cases a:u=v
   . rw[if_pos a,if_pos (show u<v+1 by omega),a];rfl
   . rw[if_neg a];by_cases b:u<v
     . rw[if_pos b,if_pos (show u<v+1 by omega)]
     . rw[if_neg b,if_neg (show ¬ u<v+1 by omega)]
 . rw[hb,dge (bp0 _),cond_false];unfold adj;exact congrArg (fun x=>some (dk0 x)) (bS fun u hu=>if_pos hu)
theorem Jo(hE:inN N E)(hN:N<=1048576)(he:E.length<=67108864){b1:List (List Int)->Int×List (List Int)->Option ((Int×List (List Int))⊕List (List Int))}{b2:List (List Int)->Int×Wst->Option ((Int×Wst)⊕Wst)}
   (h1:∀z,z.length=N->∀(i:Nat) l,b1 z ((i:Int),l)=cond (decide ((i:Int)<((N:Nat):Int))) ((aa l (i:Int)).bind fun _=>(fM (some (mkG N E)) (i:Int)).bind fun z=>(aa l (i:Int)).bind fun _=>(az (i:Int) (i:Int)).bind fun _=>some (.inl (M0 .i64 ((i:Int)+1),l.set (i:Int).toNat z))) (some (.inr l)))
   (h2:∀i a b c d m w o f,b2 (adj N E) (i,a,b,c,d,m,w,o,f)=cond (decide (i<(((adj N E).length:Nat):Int))) ((aa b i).bind fun x=>cond (decide (x=0)) ((gU i (adj N E) a b c d m w o f).bind fun s=>some (.inl (M0 .i64 (i+1),s))) (some (.inl (M0 .i64 (i+1),a,b,c,d,m,w,o,f)))) (some (.inr (a,b,c,d,m,w,o,f)))) :
   ∃ F Q,Prt N E F/\Nmb F.length (XA F E N) (lst F) Q/\(∀ k,k < F.length->k∈Q)/\∀ {γ:Type} (k:Option (List Int×List (List Int))->Option γ),((mk (N:Int) (N:Int) ([]:List Int):Option (List (List Int))).bind fun z=>(loop (b1 z) (0,z)).bind fun l1=>(lQ l1).bind fun (a,b,c,d)=>(loop (b2 l1) (0,a,b,c,d,0,[],[],[])).bind fun (_,_,_,_,_,_,_,f)=>(mB l1 f).bind k) =
     k (some (ae N (fun v=>Q.idxOf (hmI F v)),(Z1 F.length).map (fun k=>li (mbs N (fun v=>Q.idxOf (hmI F v)) k)))):=by
 obtain⟨a,b,c,d,m,w,o,F,e,P⟩:=HY hE hN he h2;obtain⟨Q,hQ,hall,e3⟩:=GG P hE hN he;refine⟨F,Q,P,hQ,hall,fun k=>?_⟩;rw[mkN (by omega),V0,HV hN he (h1 _ (by simp)),V0,FD hN,V0];dsimp only;rw[e,V0];dsimp only;rw[e3,V0,hQ.members P hall]
instance {X:List (Nat×Nat)}{P:List Nat}{j:Nat}:Decidable (rdy X P j):=by unfold rdy;infer_instance
end
end
section
section
variable {N:Nat}{E:ArG}{F:List (List Nat)}{Q:List Nat}
end
end
section
section
variable {N K K':Nat}{E E':ArG}{c c':Nat->Nat}
theorem Cmp.le(h:Cmp N E c K)(h':Cmp N E' c' K')(hs:∀v w,v<N->w<N->c' v=c' w->c v=c w):K<=K':=by
 have hx:∃r:Nat->Nat,∀k,k<K->r k<N/\c (r k)=k:=⟨fun k=>if hk:k<K then (h.on k hk).choose else 0,fun k hk=>by simp only[dif_pos hk];exact (h.on k hk).choose_spec⟩
 obtain⟨r,hr⟩:=hx;have hn:((Z1 K).map (fun k=>c' (r k))).Nodup:=by
   show List.Pairwise _ _;rw[cc0];have hp:(Z1 K).Pairwise (fun a b=>a≠b/\a<K/\b<K):=by
     rw[am0];intro i j hi hj hij;simp only[bk0]at hi hj;simp only[bW0];omega
   refine hp.imp (fun {a b} hab e=>hab.1 ?_);have:=hs _ _ (hr a hab.2.1).1 (hr b hab.2.2).1 e;rw[(hr a hab.2.1).2,(hr b hab.2.2).2]at this;exact this
 have:=cT hn (N:=K') (fun x hx=>by
   obtain⟨k,hk,rfl⟩:=Y7.1 hx;exact h'.lt _ (hr k (V7.1 hk)).1)
 simpa using this
theorem Cmp.le_N(h:Cmp N E c K):K<=N:=by
 have h':Cmp N [] (fun v=>v) N:=⟨fun v hv=>hv,fun k hk=>⟨k,hk,rfl⟩,fun v w hv hw=>⟨fun e=>by subst e;exact⟨.refl _,.refl _⟩,fun e=>(Rch.closed (p:=fun x=>x=v) rfl (fun a b e=>by simp at e) e.1).symm⟩,fun v w e=>by simp at e⟩;exact h.le h' (fun v w _ _ e=>by rw[e])
theorem ej{v k:Nat}:v∈mbs N c k↔v<N/\c v=k:=by unfold mbs;simp
theorem wc(k:Nat):(mbs N c k).length<=N:=by
 unfold mbs;have:=aa0 (fun v=>decide (c v=k)) (Z1 N);simpa using this
end
def pC(N:Nat)(c:Nat->Nat)(K:Nat):Option (List Int×List (List Int)):=some (ae N c,(Z1 K).map (fun k=>li (mbs N c k)))
theorem Ln{N:Nat}{E:ArG}(z:List (List Int))(hz:z.length=N)(i:Nat)(l:List (List Int)):uh (some (mkG N E)) z ((i:Int),l)=cond (decide ((i:Int)<((N:Nat):Int))) ((aa l (i:Int)).bind fun _=>(fM (some (mkG N E)) (i:Int)).bind fun z=>(aa l (i:Int)).bind fun _=>(az (i:Int) (i:Int)).bind fun _=>some (.inl (M0 .i64 ((i:Int)+1),l.set (i:Int).toNat z))) (some (.inr l)):=by subst hz;rfl
theorem Mb{N:Nat}{E:ArG}(i:Int)(a b c d:List Int)(m:Int)(w o:List Int)(f:List (List Int)):uj (adj N E) (i,a,b,c,d,m,w,o,f)=cond (decide (i<(((adj N E).length:Nat):Int))) ((aa b i).bind fun x=>cond (decide (x=0)) ((gU i (adj N E) a b c d m w o f).bind fun s=>some (.inl (M0 .i64 (i+1),s))) (some (.inl (M0 .i64 (i+1),a,b,c,d,m,w,o,f)))) (some (.inr (a,b,c,d,m,w,o,f))):=rfl
theorem wU(N K:Nat)(c:Nat->Nat):fR (pC N c K)=some (K:Int):=by unfold fR pC;simp
theorem DG{N K v:Nat}{c:Nat->Nat}(hv:v<N):mb (pC N c K) (v:Int)=some ((c v:Int),true):=by
 unfold mb pC;have h1:(decide ((v:Int)<0))=false:=by simp
 have h2:¬ (N:Int)<=(v:Int):=by omega
 simp[h1,IZ,h2,bj hv,show ¬ (v:Int)<0 by omega,show ¬ N<=v by omega]
theorem DE{N K k:Nat}{c:Nat->Nat}(hN:N<=1000000)(hk:k<K):lq (pC N c K) (k:Int)=some (li (mbs N c k)):=by
 unfold lq;rw[wU];have h1:decide ((k:Int)<0)=false:=by simp
 have h2:decide ((K:Int)<=(k:Int))=false:=decide_eq_false (by omega);have g:aa ((Z1 K).map (fun k=>li (mbs N c k))) (k:Int)=some (li (mbs N c k)):=bC hk;have hl:=wc (N:=N) (c:=c) k;have e:bz (li (mbs N c k))=some (li (mbs N c k)):=gh _ (by rw[au];omega);simp only[h1,h2,cond_false,V0];unfold pC;simp only[V0,g,e]
end
section
def nw(l:List Int):List Int:=l.mergeSort fun x y=>decide (x<=y)
theorem KW{l:List Int}(h:l.length<=1073741824):srt l=some (nw l):=by unfold srt;rw[if_pos h];rfl
def cpZ(l:List Int):List Int:=Lib.compact (nw l)
theorem AD(l:List Int):(nw l).Pairwise (·<=·):=by
 have:=bR0 (le:=fun x y:Int=>decide (x<=y)) (fun a b c h1 h2=>by simp at *;omega) (fun a b=>by simp;omega) l;exact this.imp (fun h=>by simpa using h)
theorem LW(l:List Int):(cpZ l).Pairwise (· < ·):=(js (AD l)).1
theorem J3(l:List Int)(a:Int):a∈cpZ l↔a∈l:=by
 rw[cpZ,(js (AD l)).2 a];unfold nw;exact ct0
def led(E:ArG)(c:Nat->Nat)(k j:Nat):Bool:=E.any (fun e=>decide (c e.1=k/\c e.2=j))
def nxC(E:ArG)(c:Nat->Nat)(K k:Nat):List Nat:=(Z1 K).filter (fun j=>decide (j≠k)&&led E c k j)
section
variable {N K:Nat}{E:ArG}{c:Nat->Nat}
theorem m5{k j:Nat}:led E c k j=true↔∃v w,(v,w)∈E/\c v=k/\c w=j:=by
 unfold led;rw[av0];constructor
 . rintro⟨e,he,h⟩;simp only[decide_eq_true_eq]at h;exact⟨e.1,e.2,he,h⟩
 . rintro⟨v,w,h,a,b⟩;exact⟨(v,w),h,by simp[a,b]⟩
theorem qN{k j:Nat}:j∈nxC E c K k↔j<K/\j≠k/\led E c k j=true:=by unfold nxC;simp
theorem C7(h:Cmp N E c K){k j:Nat}(hj:j∈nxC E c K k):j<k:=by
 obtain⟨_,h1,h2⟩:=qN.1 hj;obtain⟨v,w,e,a,b⟩:=m5.1 h2;have:=h.ar v w e;omega
theorem wx(k:Nat):(nxC E c K k).length<=K:=by
 unfold nxC;have:=aa0 (fun j=>decide (j≠k)&&led E c k j) (Z1 K);simpa using this
theorem LU(k:Nat):(nxC E c K k).Nodup:=by unfold nxC;exact List.nodup_range.filter _
end
def mxd(d:Nat->Nat)(l:List Nat):Nat:=l.foldl (fun a j=>max a (d j+1)) 0
theorem IM(d:Nat->Nat)(l:List Nat)(j:Nat):mxd d (l++[j])=max (mxd d l) (d j+1):=by simp[mxd,dd0]
theorem zB{d d':Nat->Nat}:∀{l:List Nat} {a:Nat},(∀j∈l,d j=d' j)->l.foldl (fun a j=>max a (d j+1)) a=l.foldl (fun a j=>max a (d' j+1)) a
 |[],_,_=>rfl
 | x :: l,a,h=>by
   simp only[bF0,h x (by simp)];exact zB fun j hj=>h j (by simp[hj])
theorem An{d d':Nat->Nat}{l:List Nat}(h:∀j∈l,d j=d' j):mxd d l=mxd d' l:=zB h
theorem Ch{d:Nat->Nat}{B:Nat}:∀{l:List Nat} {a:Nat},a<=B->(∀j∈l,d j+1<=B)->l.foldl (fun a j=>max a (d j+1)) a<=B
 |[],_,h,_=>h
 | x :: l,a,h,hl=>by
   rw[bF0];have:=hl x (by simp);exact Ch (by omega) fun j hj=>hl j (by simp[hj])
theorem Mc{d:Nat->Nat}{l:List Nat}{B:Nat}(h:∀j∈l,d j+1<=B):mxd d l<=B:=Ch (ah0 _) h
def sJ(X:Nat->List Nat):Nat->Nat->Nat
 |0,_=>0
 |n+1,k=>mxd (sJ X n) (X k)
def dep(X:Nat->List Nat)(k:Nat):Nat:=sJ X (k+1) k
section
variable {X:Nat->List Nat}{lo:Nat->Bool}{K:Nat}
theorem BC(hX:∀k j,j∈X k->j<k):∀n m k,k<n->k<m->sJ X n k=sJ X m k
 |0,_,_,h,_=>absurd h (dQ0 _)
 |n+1,0,_,_,h=>absurd h (dQ0 _)
 |n+1,m+1,k,h1,h2=>An fun j hj=>by have:=hX k j hj;exact BC hX n m j (by omega) (by omega)
theorem CP(hX:∀k j,j∈X k->j<k)(k:Nat):dep X k=mxd (dep X) (X k):=An fun j hj=>BC hX k (j+1) j (hX k j hj) (fg0 _)
theorem LO(hX:∀k j,j∈X k->j<k)(k:Nat):dep X k<=k:=by
 induction k using dP0 with
 |_ k ih=>rw[CP hX];exact Mc fun j hj=>by have h:=hX k j hj;have:=ih j h;omega
abbrev P4:=List Int×List Int×Int×Bool
def bkX(X:Nat->List Nat)(k q:Nat):List Nat:=(Z1 k).filter (fun p=>decide (q∈X p))
def el(X:Nat->List Nat)(lo:Nat->Bool)(k i q:Nat):P4:=(if q<=k then li (X q)else [],li (bkX X k q++if q∈(X k).take i then [k]else []),((if q<k then dep X q else if q=k then mxd (dep X) ((X k).take i)else 0:Nat):Int),if q<=k then lo q else false)
def el0(X:Nat->List Nat)(lo:Nat->Bool)(k q:Nat):P4:=(if q<k then li (X q)else [],li (bkX X k q),((if q<k then dep X q else 0:Nat):Int),if q<k then lo q else false)
def cdL(X:Nat->List Nat)(lo:Nat->Bool)(K:Nat):List P4:=(Z1 K).map (el0 X lo K)
theorem J9(k q:Nat):(bkX X k q).length<=k:=by
 unfold bkX;have:=aa0 (fun p=>decide (q∈X p)) (Z1 k);simpa using this
theorem Jc(k q:Nat):bkX X (k+1) q=bkX X k q++if q∈X k then [k]else []:=by
 unfold bkX;rw[aU0,aB0];by_cases h:q∈X k <;> simp[h]
theorem LQ(hX:∀k j,j∈X k->j<k)(k q:Nat):el X lo k (X k).length q=el0 X lo (k+1) q:=by
 unfold el el0;rw[Y9,Jc,<- CP hX];by_cases h1:q<k
 . have h2:q<=k:=by omega
   have h3:q<k+1:=by omega
   simp[h1,h2,h3]
 . by_cases h2:q=k
   . subst h2;simp
   . have h3:¬ q<=k:=by omega
     have h4:¬ q<k+1:=by omega
     simp[h1,h2,h3,h4]
theorem Me{m d:Nat}(hd:d<=1000000):(if ((m:Nat):Int)<M0 .i64 (((d:Nat):Int)+1)then M0 .i64 (((d:Nat):Int)+1)else ((m:Nat):Int))=((max m (d+1):Nat):Int):=by
 rw[w64 (x:=((d:Nat):Int)+1) (by omega) (by omega)];split <;> omega
theorem Lx(hX:∀k j,j∈X k->j<k)(hn:∀k,(X k).Nodup)(hl:∀k,(X k).length<=K)(hK:K<=1000){k:Nat}(hk:k<K){x:P4}(hx:x.1=li (X k)):loop (mq (k:Int) x) (0,(Z1 K).map (el X lo k 0))=some ((Z1 K).map (el0 X lo (k+1))):=by
 have h:=aC (body:=mq (k:Int) x) (fun i:Nat=>((i:Int),(Z1 K).map (el X lo k i))) (X k).length (b:=(Z1 K).map (el0 X lo (k+1))) ?_ ?_
 . exact h
 . intro i hi;have hi2:i<(li (X k)).length:=by rw[au];exact hi
   have hjk:=hX k _ (X2 hi);have hlk:=hl k;have hni:(X k)[i]∉(X k).take i:=fun hm=>by
     obtain⟨p,hp,e⟩:=Z8 hm;rw[X4]at hp;rw[cA0]at e;have h3:(X k).Pairwise (·≠·):=hn k;rw[am0]at h3;exact h3 p i (by omega) hi (by omega) e
   have hkn:k∉X k:=fun h=>absurd (hX k k h) (bp0 _)
   have hd:=LO hX (X k)[i];have hmm:∀q,q∈(X k).take (i+1)↔q∈(X k).take i\/q=(X k)[i]:=fun q=>by rw[aH hi,V3,Y2]
   have hmx:mxd (dep X) ((X k).take (i+1))=max (mxd (dep X) ((X k).take i)) (dep X (X k)[i]+1):=by rw[aH hi,IM]
   generalize hj:(X k)[i]=j at *;have hjK:j<K:=by omega
   have hjn:j≠k:=by omega
   have gk:aa ((Z1 K).map (el X lo k i)) (k:Int)=some (el X lo k i k):=bC hk;have gj:aa ((Z1 K).map (el X lo k i)) (j:Int)=some (el X lo k i j):=bC hjK;have a1:(el X lo k i k).2.2.1=((mxd (dep X) ((X k).take i):Nat):Int):=by simp[el]
   have b1:(el X lo k i j).2.2.1=((dep X j:Nat):Int):=by simp[el,hjk]
   have gl:aa (li (X k)) (i:Int)=some (j:Int):=by rw[bD hi,hj]
   unfold mq;dsimp only;rw[hx,dlt hi2,cond_true,gl];simp only[V0,gk,gj,mV,a1,b1,W2];rw[Me (by omega),dI];have gj2:∀y:P4,aa ((Z1 K).map (fun v=>if v=k then y else el X lo k i v)) (j:Int)=some (el X lo k i j):=fun y=>by rw[bC hjK,if_neg hjn]
   have c1:(el X lo k i j).2.1=li (bkX X k j):=by simp[el,hni]
   have hb:=J9 (X:=X) k j;simp only[gj2,V0,c1,dI];rw[aI (by rw[au];simp;omega)];simp only[V0,mV,qA];rw[an hi2 (by rw[au];omega)];refine congrArg (fun y=>some (dy0 (((i+1:Nat):Int),y))) (bS fun q hq=>?_);by_cases q1:q=j
   . subst q1;have h2:q<=k:=by omega
     simp[el,hmm,hjk,h2,eh]
   . rw[if_neg q1];by_cases q2:q=k
     . subst q2;have hkt:q∉(X q).take i:=fun h=>hkn (bg0 h)
       simp[el,hmm,hmx,hkt,q1]
     . simp[el,hmm,q1,q2]
 . unfold mq;dsimp only;rw[hx,au,dge (bp0 _),cond_false];exact congrArg (fun y=>some (dk0 y)) (bS fun q _=>LQ hX k q)
end
section
variable {N K:Nat}{E:ArG}{c:Nat->Nat}
def crC(c:Nat->Nat)(k:Nat)(ws:List Nat):List Nat:=ws.filterMap (fun w=>if c w=k then none else some (c w))
theorem wj(k:Nat)(ws:List Nat):(crC c k ws).length<=ws.length:=ec0 _ _
theorem IC{k:Nat}{L0:List Nat}{t0:Bool}{ws:List Nat}(hw:∀w∈ws,w<N)(hl:L0.length+ws.length<=100000000):loop (lY (pC N c K) (k:Int) (li ws)) (li L0,t0,0)=some (li (L0++crC c k ws),t0||ws.any (fun w=>decide (c w=k))):=by
 have h:=aC (body:=lY (pC N c K) (k:Int) (li ws)) (fun i:Nat=>(li (L0++crC c k (ws.take i)),(t0||(ws.take i).any (fun w=>decide (c w=k))),(i:Int))) ws.length (b:=(li (L0++crC c k ws),t0||ws.any (fun w=>decide (c w=k)))) ?_ ?_
 . rw[<- h];simp[crC]
 . intro i hi;have hi2:i<(li ws).length:=by rw[au];exact hi
   have hc:=wj (c:=c) k (ws.take i);rw[X4]at hc;have hs:crC c k (ws.take i++[ws[i]])=crC c k (ws.take i)++if c ws[i]=k then []else [c ws[i]]:=by
     unfold crC;rw[ex0];by_cases e:c ws[i]=k <;> simp[e]
   unfold lY;dsimp only;rw[dlt hi2,cond_true,bD hi,V0,DG (hw _ (X2 hi)),V0];dsimp only;rw[an hi2 (by rw[au];omega),aH hi,hs,fx0];by_cases e:c ws[i]=k
   . rw[decide_eq_true (show ((c ws[i]:Nat):Int)=(k:Int)by omega)];simp[e]
   . rw[decide_eq_false (show ¬ ((c ws[i]:Nat):Int)=(k:Int)by omega),aE0,cond_true,aI (by rw[au];simp;omega),V0];simp[e,eh,<- X1]
 . unfold lY;simp[au]
theorem wa{α β:Type}{f:α->List β}{B:Nat}:∀{l:List α},(∀x∈l,(f x).length<=B)->(l.flatMap f).length<=l.length*B
 |[],_=>by simp
 | x :: l,h=>by
   rw[List.flatMap_cons,W3,V9,aC0];have:=wa (l:=l) (fun y hy=>h y (by simp[hy]));have:=h x (by simp);omega
theorem H6(hE:inN N E)(hN:N<=1000)(he:E.length<=1000){k:Nat}{M:List Nat}(hM:∀v∈M,v<N)(hl:M.length<=1000):loop (lV (some (mkG N E)) (pC N c K) (k:Int) (li M)) ([],false,0)=some (li (M.flatMap (fun v=>crC c k (nxt E v))),M.any (fun v=>(nxt E v).any (fun w=>decide (c w=k)))):=by
 have h:=aC (body:=lV (some (mkG N E)) (pC N c K) (k:Int) (li M)) (fun i:Nat=>(li ((M.take i).flatMap (fun v=>crC c k (nxt E v))),(M.take i).any (fun v=>(nxt E v).any (fun w=>decide (c w=k))),(i:Int))) M.length (b:=(li (M.flatMap (fun v=>crC c k (nxt E v))),M.any (fun v=>(nxt E v).any (fun w=>decide (c w=k))))) ?_ ?_
 . rw[<- h];simp[li]
 . intro i hi;have hi2:i<(li M).length:=by rw[au];exact hi
   have hv:=hM _ (X2 hi);have hnl:∀v,(nxt E v).length<=1000:=fun v=>by
     rw[qM];have:=ru (E.map (·.1)) v;rw[Y6]at this;omega
   have hf:=wa (f:=fun v=>crC c k (nxt E v)) (B:=1000) (l:=M.take i) (fun v _=>Z7 (wj k _) (hnl v));rw[X4]at hf;have h1:=hnl M[i];have h2:((M.take i).flatMap (fun v=>crC c k (nxt E v))).length<=1000*1000:=Z7 hf (aI0 _ (by omega));unfold lV;dsimp only;rw[dlt hi2,cond_true,bD hi,V0,B3 (by omega) (by omega) hv,V0];rw[show (nxt E M[i]).map (fun i:Nat=>(i:Int))=li (nxt E M[i])from rfl,IC (fun w hw=>(hE _ (bL.1 hw)).2) (by omega),V0];dsimp only;rw[an hi2 (by rw[au];omega),aH hi,eL0,fx0];simp
 . unfold lV;simp[au]
theorem I9(h:Cmp N E c K)(hE:inN N E)(hN:N<=1000)(he:E.length<=1000){k:Nat}(hk:k<K):pK (some (mkG N E)) (pC N c K) (k:Int)=some (li (nxC E c K k),led E c k k):=by
 have hml:=wc (N:=N) (c:=c) k;have hnl:∀v,(nxt E v).length<=1000:=fun v=>by
   rw[qM];have:=ru (E.map (·.1)) v;rw[Y6]at this;omega
 have hf:=wa (f:=fun v=>crC c k (nxt E v)) (B:=1000) (l:=mbs N c k) (fun v _=>Z7 (wj k _) (hnl v));have h2:((mbs N c k).flatMap (fun v=>crC c k (nxt E v))).length<=1000*1000:=Z7 hf (aI0 _ (by omega));unfold pK;rw[DE (by omega) hk,V0,H6 hE hN he (fun v hv=>(ej.1 hv).1) (by omega),V0];dsimp only;rw[KW (by rw[au];omega),V0,show ∀l,eM (nw l)=some (cpZ l)from fun l=>rfl,V0];have e1:cpZ (li ((mbs N c k).flatMap (fun v=>crC c k (nxt E v))))=li (nxC E c K k):=ir (LW _) (jC K _) (fun a=>by
   rw[J3];unfold li;simp only[Y7,fl0];constructor
   . rintro⟨j,⟨v,hv,hj⟩,rfl⟩;unfold crC at hj;obtain⟨w,hw,e⟩:=dE0.1 hj;obtain⟨hvN,hvk⟩:=ej.1 hv;have hvw:=bL.1 hw;by_cases q:c w=k
     . simp[q]at e
     . rw[if_neg q]at e;cases e;exact⟨c w,qN.2 ⟨h.lt w (hE _ hvw).2,q,m5.2 ⟨v,w,hvw,hvk,rfl⟩⟩,rfl⟩
   . rintro⟨j,hj,rfl⟩;obtain⟨_,q,hl⟩:=qN.1 hj;obtain⟨v,w,hvw,rfl,rfl⟩:=m5.1 hl;exact⟨c w,⟨v,ej.2 ⟨(hE _ hvw).1,rfl⟩,dE0.2 ⟨w,bL.2 hvw,by rw[if_neg q]⟩⟩,rfl⟩)
 have e2:(mbs N c k).any (fun v=>(nxt E v).any (fun w=>decide (c w=k)))=led E c k k:=by
   rw[bx0,m5,av0];constructor
   . rintro⟨v,hv,hw⟩;obtain⟨w,hw,e⟩:=av0.1 hw;exact⟨v,w,bL.1 hw,(ej.1 hv).2,by simpa using e⟩
   . rintro⟨v,w,hvw,a,b⟩;exact⟨v,ej.2 ⟨(hE _ hvw).1,a⟩,av0.2 ⟨w,bL.2 hvw,by simpa using b⟩⟩
 rw[e1,e2]
theorem J5(h:Cmp N E c K)(hE:inN N E)(hN:N<=1000)(he:E.length<=1000):pX (some (mkG N E)) (pC N c K)=some (some (cdL (nxC E c K) (fun k=>led E c k k) K)):=by
 have hK:=h.le_N;have hX:∀k j,j∈nxC E c K k->j<k:=fun k j hj=>C7 h hj
 unfold pX;rw[wU,V0,mkN (by omega),V0,V0];have hl:=aC (body:=mi (some (mkG N E)) (pC N c K) (K:Int)) (fun k:Nat=>((k:Int),(Z1 K).map (el0 (nxC E c K) (fun k=>led E c k k) k))) K (b:=cdL (nxC E c K) (fun k=>led E c k k) K) ?_ ?_
 . have hz:(Z1 K).map (el0 (nxC E c K) (fun k=>led E c k k) 0)=Z2 K (([],[],0,false):P4):=by
     rw[dA];exact bS fun q _=>by simp[el0,bkX,li]
   rw[<- hz];have hl':loop (mi (some (mkG N E)) (pC N c K) (K:Int)) (0,(Z1 K).map (el0 (nxC E c K) (fun k=>led E c k k) 0))=_:=hl;rw[hl'];rfl
 . intro k hk;have gk:aa ((Z1 K).map (el0 (nxC E c K) (fun k=>led E c k k) k)) (k:Int)=some (el0 (nxC E c K) (fun k=>led E c k k) k k):=bC hk;have gk2:∀y:P4,aa ((Z1 K).map (fun v=>if v=k then y else el0 (nxC E c K) (fun k=>led E c k k) k v)) (k:Int)=some y:=fun y=>by rw[bC hk,if_pos rfl]
   unfold mi;dsimp only;rw[dlt hk,cond_true,gk,V0,I9 h hE hN he hk,V0];dsimp only;simp only[gk,V0,mV,W2,dI,gk2];rw[show (Z1 K).map (fun v=>if v=k then ((li (nxC E c K k),(el0 (nxC E c K) (fun k=>led E c k k) k k).2.1,(el0 (nxC E c K) (fun k=>led E c k k) k k).2.2.1,led E c k k):P4)else if v=k then (li (nxC E c K k),(el0 (nxC E c K) (fun k=>led E c k k) k k).2.1,(el0 (nxC E c K) (fun k=>led E c k k) k k).2.2.1,led E c k k)else el0 (nxC E c K) (fun k=>led E c k k) k v)=(Z1 K).map (el (nxC E c K) (fun k=>led E c k k) k 0)from bS fun q hq=>by
     by_cases q1:q=k
     . subst q1;simp[el,el0,mxd]
     . by_cases q2:q<k
       . have:q<=k:=by omega
         simp[el,el0,q1,q2,this]
       . have:¬ q<=k:=by omega
         simp[el,el0,q1,q2,this]]
   rw[Lx hX (fun k=>LU k) (fun k=>wx k) (by omega) hk rfl,V0,an hk (by omega)]
 . unfold mi;dsimp only;rw[dge (bp0 _),cond_false];rfl
end
section
variable {X:Nat->List Nat}{lo:Nat->Bool}{K:Nat}
theorem xT(X:Nat->List Nat)(lo:Nat->Bool)(K:Nat):jk (some (cdL X lo K))=some (K:Int):=by unfold jk cdL;simp
theorem LS{k:Nat}(hk:k<K):pp (some (cdL X lo K)) (k:Int)=some (li (X k),li (bkX X K k),((dep X k:Nat):Int),lo k):=by
 unfold pp;rw[xT];have g:aa (cdL X lo K) (k:Int)=some (el0 X lo K k):=bC hk;rw[decide_eq_false (show ¬ (k:Int)<0 by omega),cond_false];simp only[V0];rw[decide_eq_false (show ¬ (K:Int)<=(k:Int)by omega),cond_false,g,V0];simp[el0,hk]
theorem Jq(L:List Nat)(h:L.length<=1000000):bz (li L)=some (li L):=gh _ (by rw[au];omega)
theorem IG{k:Nat}(hk:k<K)(hl:(X k).length<=1000):oT (some (cdL X lo K)) (k:Int)=some (li (X k)):=by
 unfold oT;rw[LS hk,V0];dsimp only;rw[Jq _ (by omega)];rfl
def smZ(X:Nat->List Nat)(k:Nat):Nat:=((Z1 k).map (fun q=>(X q).length)).sum
theorem AQ(k:Nat):smZ X (k+1)=smZ X k+(X k).length:=by unfold smZ;rw[aU0];simp
theorem Di{B:Nat}(h:∀k,(X k).length<=B):∀k,smZ X k<=k*B
 |0=>by simp[smZ]
 |k+1=>by rw[AQ,aC0];have:=Di h k;have:=h k;omega
theorem Nc(hl:∀k,(X k).length<=K)(hK:K<=1000):oW (some (cdL X lo K))=some ((smZ X K:Nat):Int):=by
 unfold oW;rw[xT,V0];have h:=aC (body:=lm (some (cdL X lo K)) (K:Int)) (fun k:Nat=>(((smZ X k:Nat):Int),(k:Int))) K (b:=((smZ X K:Nat):Int)) ?_ ?_
 . have h':loop (lm (some (cdL X lo K)) (K:Int)) (0,0)=some ((smZ X K:Nat):Int):=h;rw[h'];rfl
 . intro k hk;have g:aa (cdL X lo K) (k:Int)=some (el0 X lo K k):=bC hk;have h1:=Di hl k;have h2:=hl k;have h3:k*K<=1000*1000:=cX0 (by omega) hK;unfold lm;dsimp only;rw[dlt hk,cond_true,V0,g,V0,an hk (by omega),show (el0 X lo K k).1=li (X k)by simp[el0,hk],au,AQ,w64 (by omega) (by omega)];simp
 . unfold lm;simp
end
section
variable {N K:Nat}{E:ArG}{c:Nat->Nat}
end
end
section
abbrev Eg:=Int×Int×(Int×Int×Int×Int×Bool)
theorem FE(xa xb:List (Int×Int))(hn:xa.length<=1073741824):pi xa xb=some (decide (xa=xb)):=by
 unfold pi;by_cases hl:xa.length=xb.length
 . rw[nN hl,cond_false,uS (body:=oO xa xb) xa xb (.inr false) (.inl ()) hl ?_ ?_]
   . by_cases h:xa=xb <;> simp[h]
   . intro k hk;have h2:k<xb.length:=by omega
     unfold oO;simp only[dlt hk,cond_true,aj hk,aj h2,V0,an hk (by omega:xa.length<=9223372036854775807)];generalize xa[k]=a;generalize xb[k]=b;obtain⟨a1,a2⟩:=a;obtain⟨b1,b2⟩:=b;by_cases q:a1=b1 <;> by_cases q2:a2=b2 <;> simp[q,q2]
   . simp[oO]
 . rw[ky hl,cond_true];have:¬ xa=xb:=fun h=>hl (by rw[h])
   simp[this]
def aF(l:List Eg):List (Int×Int):=l.map (fun e=>(e.1,e.2.1))
theorem GC(l:List Eg)(hl:l.length<=1000000):pN l=some (aF l):=by
 unfold pN;have:=qJ l (fun e:Eg=>(e.1,e.2.1)) [] (by simp;omega) (body:=uf l) (fun c i=>by
   unfold uf;cases hg:aa l i with
   |none=>simp[hg]
   |some x=>simp[hg])
 rw[this];simp[aF]
theorem FA(l:List Eg)(hl:l.length<=1000000):(loop (lS l) (Z2 l.length (0,0),0):Option (List (Int×Int)))=some (aF l):=by
 have h:=aC (body:=lS l) (fun k:Nat=>((aF l).take k++Z2 (l.length-k) ((0:Int),(0:Int)),(k:Int))) l.length (b:=aF l) ?_ ?_
 . simpa using h
 . intro k hk;have hA:k<(aF l).length:=by simpa[aF]using hk
   have hp:((aF l).take k).length=k:=by simp;omega
   have hr:Z2 (l.length-k) ((0:Int),(0:Int))=(0,0)::Z2 (l.length-(k+1)) (0,0):=by
     rw[show l.length-k=(l.length-(k+1))+1 by omega,dB0]
   unfold lS;have hq:k<((aF l).take k++Z2 (l.length-k) ((0:Int),(0:Int))).length:=by simp;omega
   simp only[dlt hk,cond_true,aj hk,aj hq,V0,an hk (by omega:l.length<=9223372036854775807)];have hs:((aF l).take k++Z2 (l.length-k) ((0:Int),(0:Int))).set (k:Int).toNat (l[k].1,l[k].2.1)=(aF l).take (k+1)++Z2 (l.length-(k+1)) (0,0):=by
     rw[show (k:Int).toNat=k from rfl,bu0 _ _ (by omega),hp,bs0,hr,cU0,aH hA,X1];simp[aF]
   rw[hs]
 . unfold lS;have hT:(aF l).take l.length=aF l:=by rw[V8];simp[aF]
   simp only[dge (show ¬ l.length<l.length by omega),cond_false,hT,bs0,List.replicate_zero,Z6]
theorem jB(u xa:Int)(l:List Eg)(hl:l.length<=1000000):cS (u,xa,[],[],[],[],[]) l=(aV xa (aF l)).bind fun r=>some r.1:=by
 unfold cS;rw[mkN (by omega),V0,FA l hl,V0]
section
variable {N:Nat}{E:ArG}
def seg(U N:Nat)(E:ArG)(k:Nat):List (Int×Int):=((Z1 U).filter (fun w=>decide (w≠k)&&decide (w∈rl N E k))).map (fun w:Nat=>((k:Int),(w:Int)))
def acc(U N:Nat)(E:ArG):Nat->List (Int×Int)
 |0=>[]
 |n+1=>acc U N E n++seg U N E n
theorem J1(U:Nat)(k:Nat):(seg U N E k).length<=U:=by
 unfold seg;rw[Y6];exact Z7 (aa0 ..) (by simp)
theorem wk(U:Nat):∀n,(acc U N E n).length<=n*U
 |0=>by simp[acc]
 | n + 1=>by
   have:=wk U n;have h2:=J1 (N:=N) (E:=E) U n;simp only[acc,W3,aC0];omega
theorem Hz{U N:Nat}(h:U<=N)(p:Nat->Bool):((Z1 N).filter (fun w=>p w&&decide (w<U)))=(Z1 U).filter p:=by
 obtain⟨d,rfl⟩:=Nat.exists_eq_add_of_le h;rw[List.range_add,aB0];have h1:((Z1 d).map (U + ·)).filter (fun w=>p w&&decide (w<U))=[]:=by
   rw[aX0];intro w hw;obtain⟨x,_,rfl⟩:=Y7.1 hw;simp
 rw[h1,Z6];refine bm0 (fun w hw=>?_);simp[V7.1 hw]
theorem Mh{U:Nat}(h:U<=N)(k:Nat):((rl N E k).filter (fun w=>decide (w≠k)&&decide (w<U))).map (fun w:Nat=>((k:Int),(w:Int)))=seg U N E k:=by
 unfold seg
 congr 1
 have h1:(rl N E k).filter (fun w=>decide (w≠k)&&decide (w<U))=(Z1 N).filter (fun w=>(decide (w≠k)&&decide (w∈rl N E k))&&decide (w<U)):=by
   have e:(rl N E k).filter (fun w=>decide (w≠k)&&decide (w<U))=((Z1 N).filter (fun w=>decide (w∈rl N E k))).filter (fun w=>decide (w≠k)&&decide (w<U)):=by rw[Av]
   rw[e,dF0];refine bm0 (fun w hw=>?_);cases decide (w≠k) <;> cases decide (w<U) <;> cases decide (w∈rl N E k) <;> rfl
 rw[h1,Hz h]
theorem IY{U:Nat}{k:Nat}(hE:inN N E)(hk:k<N)(h:occ (E.map (·.1)) k=[]):seg U N E k=[]:=by
 unfold seg;rw[List.map_eq_nil_iff,aX0];intro w hw hc;simp only[Y1,decide_eq_true_eq]at hc;obtain⟨h1,h2⟩:=hc;have h3:=(er hE hk).1 h2;have:w=k:=Rch.closed (p:=fun w=>w=k) rfl (fun a b e ha=>by
   subst ha;exfalso;obtain⟨i,hi,e2⟩:=Z8 e;have:i∈occ (E.map (·.1)) a:=j3.2 ⟨by simpa using hi,by simp[e2]⟩;rw[h]at this;cases this) h3
 exact h1 this
theorem O6{U:Nat}{u:Int}{k:Nat}(hU:(if (N:Int)<u then (N:Int)else u)=(U:Int))(hUN:U<=N)(L:List Nat)(hL:L.length<=1000)(A:List (Int×Int))(hA:A.length<=1000000)(b:List (Int×Int)×List (List (Int×Bool))×List (Int×Bool)×List (Int×List (Int×Int)×List (List (Int×Bool))×List (Int×Bool))×List (List (Int×Int×Int×Int×Bool)×Int×Int×Int×List Int×List Int×List Int))(r:Int) :
   loop (lk (u,r,b) (N:Int) (k:Int) (li L)) (A,0)=some (A++(L.filter (fun w=>decide (w≠k)&&decide (w<U))).map (fun w:Nat=>((k:Int),(w:Int)))):=by
 have h:=uZ (body:=lk (u,r,b) (N:Int) (k:Int) (li L)) (li L) (fun j=>A++((L.take j).filter (fun w=>decide (w≠k)&&decide (w<U))).map (fun w:Nat=>((k:Int),(w:Int)))) (A++(L.filter (fun w=>decide (w≠k)&&decide (w<U))).map (fun w:Nat=>((k:Int),(w:Int)))) ?_ ?_
 . simpa using h
 . intro j hj;have hj2:j<L.length:=by rw[au]at hj;exact hj
   have hfl:((L.take j).filter (fun w=>decide (w≠k)&&decide (w<U))).length<=1000:=by
     have:=aa0 (fun w=>decide (w≠k)&&decide (w<U)) (L.take j);have h2:(L.take j).length<=L.length:=by simp;omega
     omega
   unfold lk;simp only[dlt hj,cond_true,bD hj2,V0,hU,an hj (by rw[au];omega)];rw[aH hj2,aB0,X6];have e1:decide (((L[j]:Nat):Int)=(k:Int))=decide (L[j]=k):=decide_eq_decide.2 (by omega);have e2:decide (((L[j]:Nat):Int)<(U:Int))=decide (L[j]<U):=decide_eq_decide.2 (by omega);rw[e1,e2];by_cases c:L[j]≠k/\L[j]<U
   . have c1:¬ L[j]=k:=c.1;rw[decide_eq_false c1,decide_eq_true c.2,aE0,Bool.and_self,cond_true,aI (by rw[W3,Y6,bb0];omega),V0];simp[c.1,c.2]
   . have:((!decide (L[j]=k))&&decide (L[j]<U))=false:=by
       by_cases c1:L[j]=k
       . simp[c1]
       . have:¬ L[j]<U:=fun h=>c ⟨c1,h⟩
         simp[this]
     rw[this,cond_false];have h2:[L[j]].filter (fun w=>decide (w≠k)&&decide (w<U))=[]:=by
       rw[aX0];intro w hw hc;simp at hw;subst hw;simp at hc;exact c hc
     rw[h2];simp
 . rw[au,Y9];unfold lk;simp[au]
theorem Nv(N:Nat)(E:ArG)(k:Nat):(rl N E k).length<=N:=by
 rw[<- Av N E k];have:=aa0 (fun w=>decide (w∈rl N E k)) (Z1 N);simpa using this
theorem zp{U:Nat}{u:Int}{l:List Eg}(hl:l.length<=100)(hN:N<=100)(hu:u<=100\/True)(hE:aF l=ai E)(hin:inN N E)(hnew:aV (N:Int) (aF l)=some (some (mkG N E),0))(hU:(if (N:Int)<u then (N:Int)else u)=(U:Int))(hUN:U<=N) :
   bO (u,(N:Int),[],[],[],[],[]) l=some (acc U N E U):=by
 have he:E.length<=100:=by have:=congrArg W4 hE;rw[cW]at this;simp[aF]at this;omega
 unfold bO;rw[jB u (N:Int) l (by omega),hnew];simp only[V0,mT];have h:=aC (body:=dy (u,(N:Int),[],[],[],[],[]) (some (mkG N E)) (N:Int)) (fun k:Nat=>(acc U N E k,(k:Int))) U (b:=acc U N E U) ?_ ?_
 . rw[show loop (dy (u,(N:Int),[],[],[],[],[]) (some (mkG N E)) (N:Int)) ([],0)=_ from h];rfl
 . intro k hk;have hk2:k<N:=by omega
   have ha:=wk (N:=N) (E:=E) U k;have ha2:k*U<=100*100:=cX0 (by omega) (by omega);have hrl:=Nv N E k;unfold dy;dsimp only;rw[hU,decide_eq_true (by omega),cond_true,wW (by omega) (by omega) hk2];simp only[V0];by_cases q:occ (E.map (·.1)) k=[]
   . have:decide ((((((occ (E.map (·.1)) k).map (fun i:Nat=>(i:Int))).length:Nat):Int))=0)=true:=by simp[q]
     rw[this,cond_true,an hk (by omega)];simp only[acc,IY hin hk2 q,Z6]
   . have:decide ((((((occ (E.map (·.1)) k).map (fun i:Nat=>(i:Int))).length:Nat):Int))=0)=false:=by
       rw[Y6];have:=bl0.2 q;exact decide_eq_false (by omega)
     rw[this,cond_false,II hin (by omega) (by omega) hk2,V0,O6 hU hUN _ (by omega) _ (by omega),V0,an hk (by omega),Mh hUN];rfl
 . unfold dy;dsimp only;rw[hU,decide_eq_false (by omega),cond_false]
def free(E:ArG)(k:Nat):Bool:=E.all (fun e=>decide (e.1≠k)&&decide (e.2≠k))
theorem AO(E:ArG)(k:Nat):((occ (E.map (·.1)) k).length+(occ (E.map (·.2)) k).length=0)↔free E k=true:=by
 have key:∀(f:Nat×Nat->Nat),(occ (E.map f) k).length=0↔∀e∈E,f e≠k:=by
   intro f;rw[Z4,dM0];constructor
   . intro h e he hc;obtain⟨i,hi,e2⟩:=Z8 he;exact h i (j3.2 ⟨by simpa using hi,by simp[e2,hc]⟩)
   . intro h i hi;obtain⟨h1,h2⟩:=j3.1 hi;have h3:i<E.length:=by simpa using h1
     exact h E[i] (X2 h3) (by simpa using h2)
 unfold free;rw[aF0,Nat.add_eq_zero_iff,key,key];constructor
 . rintro⟨h1,h2⟩ e he;simp[h1 e he,h2 e he]
 . intro h;refine⟨fun e he=>?_,fun e he=>?_⟩
   . have:=h e he;simp at this;exact this.1
   . have:=h e he;simp at this;exact this.2
def cx(E:ArG)(n:Nat):List Int:=li ((Z1 n).filter (free E))
theorem GI(E:ArG)(n:Nat):cx E (n+1)=cx E n++if free E n=true then [(n:Int)]else []:=by
 unfold cx li;rw[aU0,aB0,X6]
 congr 1
 by_cases c:free E n=true <;> simp[c]
theorem AH(E:ArG)(n:Nat):(cx E n).length<=n:=by
 unfold cx;rw[au];have:=aa0 (free E) (Z1 n);simpa using this
theorem Bn{u:Int}{l:List Eg}(hl:l.length<=100)(hN:N<=100)(hE:aF l=ai E)(hin:inN N E)(hnew:aV (N:Int) (aF l)=some (some (mkG N E),0)) :
   cR (u,(N:Int),[],[],[],[],[]) l=some (cx E N):=by
 have he:E.length<=100:=by have:=congrArg W4 hE;rw[cW]at this;simp[aF]at this;omega
 unfold cR;rw[jB u (N:Int) l (by omega),hnew];simp only[V0,mT];have h:=aC (body:=fP (some (mkG N E)) (N:Int)) (fun k:Nat=>(cx E k,(k:Int))) N (b:=cx E N) ?_ ?_
 . rw[show loop (fP (some (mkG N E)) (N:Int)) ([],0)=_ from h];rfl
 . intro k hk;have ha:=AH E k;have o1:=eY (E.map (·.1)) k;have o2:=eY (E.map (·.2)) k;rw[Y6]at o1 o2;unfold fP;dsimp only;rw[dlt hk,cond_true,wW (by omega) (by omega) hk,DI (by omega) (by omega) hk];simp only[V0,Y6];rw[w64 (by omega) (by omega),an hk (by omega),GI];by_cases c:free E k=true
   . have c2:=(AO E k).2 c;rw[decide_eq_true (by omega),cond_true,aI (by simp;omega),V0,if_pos c]
   . have c2:¬ (occ (E.map (·.1)) k).length+(occ (E.map (·.2)) k).length=0:=fun h=>c ((AO E k).1 h)
     rw[decide_eq_false (by omega),cond_false,if_neg c,Z6]
 . unfold fP;dsimp only;rw[dge (by omega),cond_false]
end
theorem wF:jt=some true:=by
 unfold jt;have hE1:inN 3 [(0,2),(2,1)]:=by intro e he;simp at he;rcases he with rfl|rfl <;> decide
 have hE2:inN 2 [(1,1)]:=by intro e he;simp at he;subst he;decide
 have n1:aV (3:Int) [(0,2),(2,1)]=some (some (mkG 3 [(0,2),(2,1)]),0):=ni hE1 (by decide) (by decide);have n2:aV (2:Int) [(1,1)]=some (some (mkG 2 [(1,1)]),0):=ni hE2 (by decide) (by decide);have h1:=zp (N:=3) (E:=[(0,2),(2,1)]) (U:=2) (u:=2) (l:=[(0,2,(0,0,0,0,false)),(2,1,(0,0,0,0,false))]) (by decide) (by decide) (by decide) rfl hE1 n1 (by decide) (by decide);have h2:=Bn (N:=2) (E:=[(1,1)]) (u:=0) (l:=[(1,1,(0,0,0,0,false))]) (by decide) (by decide) rfl hE2 n2;have s1:Rch [(0,2),(2,1)] 0 2:=(Rch.refl 0).step (by simp);have s2:Rch [(0,2),(2,1)] 0 1:=s1.step (by simp);have a01:1∈rl 3 [(0,2),(2,1)] 0:=(er hE1 (by decide)).2 s2;have a10:¬ 0∈rl 3 [(0,2),(2,1)] 1:=fun h=>by
   have:=Rch.closed (p:=fun w=>w=1) rfl (fun a b e ha=>by subst ha;simp at e) ((er hE1 (by decide)).1 h);omega
 have hacc:acc 2 3 [(0,2),(2,1)] 2=[(0,1)]:=by
   show ([]++seg 2 3 _ 0)++seg 2 3 _ 1=_;unfold seg;simp only[show Z1 2=[0,1]from rfl,aZ0,fu0];simp[a01,a10]
 rw[show bO (2,3,[],[],[],[],[]) _=_ from h1,hacc,V0,FE _ _ (by decide),V0,
   show cR (0,2,[],[],[],[],[]) _=_ from h2]
 rw[decide_eq_true rfl,cond_true,V0,Al _ _ (by decide)];rfl
end
end
end Go.Proofs.YtpnmnbfbcgkcjaaGreatDoor
namespace Go.Proofs.YtpnmnbfbcgkcjaaGreatDoor
noncomputable section
open Go.RowKit
set_option linter.unusedVariables false
set_option linter.unnecessarySimpa false
set_option linter.unusedSimpArgs false
set_option maxRecDepth 20000
theorem Ky{N:Nat}{E:ArG}(hE:inN N E)(hN:N<=1000)(he:E.length<=1000000):∃c K,Cmp N E c K/\pM (some (mkG N E))=some (pC N c K):=by
  obtain⟨F,Q,P,hQ,hall,h⟩:=Jo hE (by omega) (by omega) (b1:=uh (some (mkG N E))) (b2:=uj) Ln Mb;refine⟨_,_,hQ.cmp P hE hall,?_⟩;unfold pM a8;rw[mT,BI];exact h (fun p=>some p)
theorem wi(i:Int):az i i=some ():=by unfold az;simp
def fA(S:Nat)(s:Mv):Prop:=∃f w L,s=some ((S:Int),f,w)/\Mx S f w L
section
variable {S:Nat}{F:List Mv}
theorem On(f0:Option (List Int))(w0:Option (Int×List Int)){f:Option (List Int)}{w:Option (Int×List Int)}{L:List Int}(h:Mx S f w L){A:List Nat}(hA:∀v∈A,∃s,F[v]?=some s/\fA S s)(hl:A.length<=1000000) :
    ∃f' w' L',loop (lu ((S:Int),f0,w0) (li A)) (0,F,f,w)=some (F,f',w')/\Mx S f' w' L'/\(A=[]->f'=f/\w'=w):=by
  obtain⟨⟨F',f',w'⟩,h1,h2,L',h3,h4⟩:=aW (body:=lu ((S:Int),f0,w0) (li A)) (fun s=>∃(k:Nat) (L:List Int),k<=A.length/\s.1=(k:Int)/\s.2.1=F/\Mx S s.2.2.1 s.2.2.2 L/\(A=[]->s.2.2.1=f/\s.2.2.2=w)) (fun s=>A.length-s.1.toNat) (Q:=fun r=>r.1=F/\∃L,Mx S r.2.1 r.2.2 L/\(A=[]->r.2.1=f/\r.2.2=w)) (fun s hs=>by
    obtain⟨i,F1,f1,w1⟩:=s;obtain⟨k,L,hk,hi,hF,hm,hz⟩:=hs;dsimp only at hi hF hm hz ⊢;rw[hi,hF];by_cases hc:k<A.length
    . obtain⟨s,e1,f2,w2,L2,e2,hm2⟩:=hA _ (X2 hc);rw[e2]at e1;obtain⟨f3,w3,g1,g2,_⟩:=qq hm hm2;obtain⟨q1,q2⟩:=V4.1 e1;have e3:aa F ((A[k]:Nat):Int)=some (some ((S:Int),f2,w2)):=by rw[aj q1,q2]
      have e4:F.set ((A[k]:Nat):Int).toNat (some ((S:Int),f2,w2))=F:=by
        rw[W2,<- q2,eu0]
      refine .inl ⟨(((k+1:Nat):Int),F,f3,w3),?_,⟨k+1,_,hc,rfl,rfl,g2,fun e=>by rw[e]at hc;exact absurd hc (by simp)⟩,by dsimp only;omega⟩;unfold lu;simp only[au,dlt hc,cond_true,bD hc,V0,e3,wi,g1,e4,an hc (by omega:A.length<=9223372036854775807)]
    . obtain rfl:k=A.length:=by omega
      refine .inr ⟨(F,f1,w1),?_,rfl,L,hm,hz⟩;unfold lu;simp only[au,dge hc,cond_false]) (s:=(0,F,f,w)) ⟨0,L,ah0 _,rfl,rfl,h,fun _=>⟨rfl,rfl⟩⟩
  dsimp only at h2 h3 h4;rw[h2]at h1;exact⟨f',w',L',h1,h3,h4⟩
theorem QP(f0:Option (List Int))(w0:Option (Int×List Int)){f:Option (List Int)}{w:Option (Int×List Int)}{L:List Int}(h:Mx S f w L){A:List Nat}(hA:∀v∈A,∃s,F[v]?=some s/\fA S s)(hl:A.length<=1000000) :
    ∃f' w' L',loop (ly ((S:Int),f0,w0) (li A)) (0,f,w,F)=some (f',w',F)/\Mx S f' w' L'/\(A=[]->f'=f/\w'=w):=by
  obtain⟨⟨f',w',F'⟩,h1,h2,L',h3,h4⟩:=aW (body:=ly ((S:Int),f0,w0) (li A)) (fun s=>∃(k:Nat) (L:List Int),k<=A.length/\s.1=(k:Int)/\s.2.2.2=F/\Mx S s.2.1 s.2.2.1 L/\(A=[]->s.2.1=f/\s.2.2.1=w)) (fun s=>A.length-s.1.toNat) (Q:=fun r=>r.2.2=F/\∃L,Mx S r.1 r.2.1 L/\(A=[]->r.1=f/\r.2.1=w)) (fun s hs=>by
    obtain⟨i,f1,w1,F1⟩:=s;obtain⟨k,L,hk,hi,hF,hm,hz⟩:=hs;dsimp only at hi hF hm hz ⊢;rw[hi,hF];by_cases hc:k<A.length
    . obtain⟨s,e1,f2,w2,L2,e2,hm2⟩:=hA _ (X2 hc);rw[e2]at e1;obtain⟨f3,w3,g1,g2,_⟩:=qq hm hm2;obtain⟨q1,q2⟩:=V4.1 e1;have e3:aa F ((A[k]:Nat):Int)=some (some ((S:Int),f2,w2)):=by rw[aj q1,q2]
      have e4:F.set ((A[k]:Nat):Int).toNat (some ((S:Int),f2,w2))=F:=by
        rw[W2,<- q2,eu0]
      refine .inl ⟨(((k+1:Nat):Int),f3,w3,F),?_,⟨k+1,_,hc,rfl,rfl,g2,fun e=>by rw[e]at hc;exact absurd hc (by simp)⟩,by dsimp only;omega⟩;unfold ly;simp only[au,dlt hc,cond_true,bD hc,V0,e3,wi,g1,e4,an hc (by omega:A.length<=9223372036854775807)]
    . obtain rfl:k=A.length:=by omega
      refine .inr ⟨(f1,w1,F),?_,rfl,L,hm,hz⟩;unfold ly;simp only[au,dge hc,cond_false]) (s:=(0,f,w,F)) ⟨0,L,ah0 _,rfl,rfl,h,fun _=>⟨rfl,rfl⟩⟩
  dsimp only at h2 h3 h4;rw[h2]at h1;exact⟨f',w',L',h1,h3,h4⟩
end
section
variable {N K S:Nat}{E:ArG}{c:Nat->Nat}{V:List Mv}
/-- What component j's set is. -/
def iT(N S:Nat)(E:ArG)(c:Nat->Nat)(K:Nat)(V:List Mv)(j:Nat)(s:Mv):Prop:=fA S s/\∀r,mbs N c j=[r]->nxC E c K j=[]->V[r]?=some s
theorem NP(h:Cmp N E c K)(hN:N<=1000)(hVl:V.length=N)(hV:∀(v:Nat) (s:Mv),V[v]?=some s->fA S s)(lo:Nat->Bool) :
    ∃Z,loop (lw (pC N c K) (some (cdL (nxC E c K) lo K)) (K:Int)) (0,V,Z2 K none)=some Z/\Z.length=K/\∀j,j<K->∃s,Z[j]?=some s/\iT N S E c K V j s:=by
  have hKN:K<=N:=h.le_N;obtain⟨Z,h1,h2⟩:=aW (body:=lw (pC N c K) (some (cdL (nxC E c K) lo K)) (K:Int)) (fun s=>∃k:Nat,k<=K/\s.1=(k:Int)/\s.2.1.length=N/\s.2.2.length=K/\(∀v,v<N->k<=c v->s.2.1[v]?=V[v]?)/\∀j,j<k->∃x,s.2.2[j]?=some x/\iT N S E c K V j x) (fun s=>K-s.1.toNat) (Q:=fun Z=>Z.length=K/\∀j,j<K->∃s,Z[j]?=some s/\iT N S E c K V j s) (fun s hs=>by
    obtain⟨i,F,Z⟩:=s;obtain⟨k,hk,hi,hFl,hZl,hF,hZ⟩:=hs;dsimp only at hi hFl hZl hF hZ ⊢;rw[hi];by_cases hc:k<K
    . obtain⟨v0,hv0,hv1⟩:=h.on k hc;have hmem:v0∈mbs N c k:=ej.2 ⟨hv0,hv1⟩;obtain⟨hd,T,hM⟩:∃hd T,mbs N c k=hd::T:=by
        cases e:mbs N c k with
        |nil=>rw[e]at hmem;cases hmem
        |cons a b=>exact⟨a,b,rfl⟩
      have hml:=wc (N:=N) (c:=c) k;rw[hM]at hml;have hnd:(mbs N c k).Nodup:=List.nodup_range.filter _;rw[hM]at hnd;have hdm:=ej.1 (show hd∈mbs N c k by rw[hM];simp);have hVh:V[hd]?=some V[hd]:=Z0 (by omega);obtain⟨f,w,L,es,hm⟩:=hV hd _ hVh;have hFh:F[hd]?=some (some ((S:Int),f,w)):=by rw[hF hd hdm.1 (by omega),hVh,es]
      obtain⟨q1,q2⟩:=V4.1 hFh;have hg1:aa (li (hd::T)) 0=some ((hd:Nat):Int):=bD (L:=hd::T) (k:=0) (by simp);have hg2:aa F ((hd:Nat):Int)=some (some ((S:Int),f,w)):=by rw[aj q1,q2]
      have hsub:subL (li (hd::T)) 1 (((li (hd::T)).length:Nat):Int)=some (li T):=by
        rw[dH (by omega) (by rw[au,V9];omega) (by simp)];simp[li];rw[V8 (by simp)]
      have hA:∀v∈T,∃s,(F.set ((hd:Nat):Int).toNat none)[v]?=some s/\fA S s:=fun v hv=>by
        have hvm:=ej.1 (show v∈mbs N c k by rw[hM];exact W5 _ hv);have hne:hd≠v:=fun e=>by subst e;exact (aw0.1 hnd).1 hv
        have hVv:V[v]?=some V[v]:=Z0 (by omega);refine⟨V[v],?_,hV v _ hVv⟩;rw[W2,bC0 hne,hF v hvm.1 (by omega),hVv]
      simp only[V9]at hml;obtain⟨f1,w1,L1,k1,k2,k3⟩:=On f w hm hA (by omega);have hXl:=wx (E:=E) (c:=c) (K:=K) k;have hA2:∀v∈nxC E c K k,∃s,Z[v]?=some s/\fA S s:=fun v hv=>by
        obtain⟨x,x1,x2⟩:=hZ v (C7 h hv);exact⟨x,x1,x2.1⟩
      obtain⟨f2,w2,L2,m1,m2,m3⟩:=QP f w k2 hA2 (by omega);have hg3:aa Z (k:Int)=some (Z[k]'(by omega)):=aj (by omega);refine .inl ⟨(((k+1:Nat):Int),F.set ((hd:Nat):Int).toNat none,Z.set (k:Int).toNat (some ((S:Int),f2,w2))),?_,⟨k+1,hc,rfl,by simp[hFl],by simp[hZl],fun v hv hkv=>?_,fun j hj=>?_⟩,by dsimp only;omega⟩
      . unfold lw;simp only[dlt hc,cond_true,DE (show N<=1000000 by omega) hc,hM,V0,hg1,hg2,wi,hsub,k1,IG hc (show (nxC E c K k).length<=1000 by omega),m1,hg3,an hc (by omega:K<=9223372036854775807)]
      . have hne:hd≠v:=fun e=>by subst e;omega
        dsimp only;rw[W2,bC0 hne,hF v hv (by omega)]
      . dsimp only;rw[W2];by_cases e:k=j
        . subst e;refine⟨some ((S:Int),f2,w2),by rw[cy0 (by omega)],⟨f2,w2,L2,rfl,m2⟩,fun r hr hx=>?_⟩;rw[hM]at hr;injection hr with r1 r2
          obtain⟨a1,a2⟩:=k3 r2;obtain⟨b1,b2⟩:=m3 hx;rw[<- r1,hVh,es,b1,b2,a1,a2]
        . obtain⟨x,x1,x2⟩:=hZ j (by omega);exact⟨x,by rw[bC0 e,x1],x2⟩
    . obtain rfl:k=K:=by omega
      refine .inr ⟨Z,?_,hZl,hZ⟩;unfold lw;simp only[dge hc,cond_false]) (s:=(0,V,Z2 K none)) ⟨0,ah0 _,rfl,hVl,by simp,fun v _ _=>rfl,fun j hj=>by omega⟩
  exact⟨Z,h1,h2⟩
end
theorem AW(b:Bo)(l:List Eg)(hl:l.length<=1000000):cS b l=(aV b.2.1 (aF l)).bind fun r=>some r.1:=jB b.1 b.2.1 l hl
/-- The values, where there are any. -/
theorem u7{b:Bo}{l:List Eg}{N S:Nat}{E:ArG}{V:List Mv}(hb:b.2.1=(N:Int))(hN:N<=1000)(hl:l.length<=1000)(hE:aF l=ai E)(hin:inN N E)(hnew:aV (N:Int) (aF l)=some (some (mkG N E),0))(hs:dB b=some V)(hVl:V.length=N)(h0:0<N)(hV:∀(v:Nat) (s:Mv),V[v]?=some s->fA S s) :
    ∃c K Z,Cmp N E c K/\b0 b l=some (some (pC N c K,Z,b.2.1,b.1))/\Z.length=K/\∀j,j<K->∃s,Z[j]?=some s/\iT N S E c K V j s:=by
  have he:E.length<=1000:=by have:=congrArg W4 hE;rw[cW]at this;simp[aF]at this;omega
  obtain⟨c,K,hC,hsc⟩:=Ky hin hN (by omega);have hKN:K<=N:=hC.le_N;obtain⟨Z,z1,z2,z3⟩:=NP (S:=S) hC hN hVl hV (fun k=>led E c k k);refine⟨c,K,Z,hC,?_,z2,z3⟩;unfold b0 a8;rw[show cS b l=_ from AW b l (by omega),hb,hnew];rw[<- hb,show dB b=_ from hs];have hV0:decide (((V.length:Nat):Int)=0)=false:=decide_eq_false (by omega);simp only[V0,aA0,cw0,hV0,cond_false,hsc,J5 hC hin hN he,xT,Nc (X:=nxC E c K) (lo:=fun k=>led E c k k) (fun k=>wx k) (show K<=1000 by omega),wU,mkN (show K<=1073741824 by omega),z1]
end
end Go.Proofs.YtpnmnbfbcgkcjaaGreatDoor
namespace Go.Proofs.YtpnmnbfbcgkcjaaGreatDoor
noncomputable section
set_option linter.unusedVariables false
set_option linter.unnecessarySimpa false
set_option linter.unusedSimpArgs false
set_option maxRecDepth 20000
open Go.RowKit
section
abbrev Vs:=Option (Option (List Int×List (List Int))×List Mv×Int×Int)
theorem Hg{b:Bo}(h:Few b):∃V,dB b=some V/\(V=[]\/∃N S:Nat,b.2.1=(N:Int)/\0<N/\V.length=N/\∀(v:Nat) (s:Mv),V[v]?=some s->fA S s):=by
 obtain⟨V,h1,h2,h3⟩:=GH h;refine⟨V,h1,?_⟩;by_cases h0:NB b=0
 . exact .inl (h2 h0)
 . obtain⟨u,R,a1,a2,a3,a4,_,a5,a6⟩:=h3 (by omega);refine .inr ⟨R,NB b+u,a2,by omega,a5,fun v s hs=>?_⟩;obtain⟨f,w,L,e,hm,_⟩:=a6 v s hs;exact⟨f,w,L,e,hm⟩
theorem zl{b:Bo}{l:List Eg}{V:List Mv}(hg:cS b l=some none)(hs:dB b=some V):b0 b l=some none:=by
 unfold b0;rw[show cS b l=_ from hg,show dB b=_ from hs];simp only[V0,eO0,Bool.true_or,cond_true]
theorem ze{b:Bo}{l:List Eg}{g:Option (Int×List (Int×Int)×(List Int×List Int)×List Int×List Int)}(hg:cS b l=some g)(hs:dB b=some []):b0 b l=some none:=by
 unfold b0;rw[show cS b l=_ from hg,show dB b=_ from hs];simp
theorem Cn(p2:Vs)(L:List Int):loop (eS none p2 L) 0=some (.inl ()):=by
 have h:=aC (body:=eS none p2 L) (fun k:Nat=>(k:Int)) 0 (b:=.inl ()) (fun k hk=>by omega) (by
   unfold eS oH;cases decide (((0:Nat):Int)<((L.length:Nat):Int)) <;> rfl)
 exact h
section
variable {N K S:Nat}{E:ArG}{c:Nat->Nat}{V:List Mv}
theorem N1{α:Type}{L:List α}{r:α}(hn:L.Nodup)(h:∀x,x∈L↔x=r):L=[r]:=by
 cases L with
 |nil=>exact absurd ((h r).2 rfl) (by simp)
 | cons a t =>
   have ha:a=r:=(h a).1 (by simp);subst ha;cases t with
   |nil=>rfl
   | cons b t =>
     have hb:b=a:=(h b).1 (by simp);rw[hb]at hn;exact absurd (aw0.1 hn).1 (by simp)
theorem vV(h:Cmp N E c K){r:Nat}(hr:r<N)(hf:free E r=true):mbs N c (c r)=[r]:=by
 have hf2:∀e∈E,e.1≠r/\e.2≠r:=fun e he=>by
   have:=aF0.1 hf e he;simp at this;exact this
 refine N1 (List.nodup_range.filter _) (fun x=>?_);have hm:x∈mbs N c (c r)↔_:=ej;show x∈mbs N c (c r)↔_;rw[hm];constructor
 . rintro⟨h1,h2⟩;obtain⟨_,q⟩:=(h.eq x r h1 hr).1 h2;exact Rch.closed (p:=fun w=>w=r) rfl (fun a b e ha=>absurd ha (hf2 _ e).1) q
 . rintro rfl;exact⟨hr,rfl⟩
theorem B7(h:Cmp N E c K)(hE:inN N E){r:Nat}(hr:r<N)(hf:free E r=true):nxC E c K (c r)=[]:=by
 have hf2:∀e∈E,e.1≠r/\e.2≠r:=fun e he=>by
   have:=aF0.1 hf e he;simp at this;exact this
 rw[dM0];intro j hj;obtain⟨_,_,h2⟩:=qN.1 hj;obtain⟨v,w,e,a,_⟩:=m5.1 h2;have hv:v∈mbs N c (c r):=ej.2 ⟨(hE _ e).1,a⟩;rw[vV h hr hf,Y2]at hv;exact (hf2 _ e).1 hv
theorem Dz{Z:List Mv}{r:Nat}{s:Mv}{x y:Int}(hr:r<N)(hs:Z[c r]?=some s):ia (some (pC N c K,Z,x,y)) (r:Int)=jh s:=by
 obtain⟨q1,q2⟩:=V4.1 hs;unfold ia tX;simp only[aA0,cond_false,V0,DG hr,X7,aj q1,q2];cases jh s <;> rfl
theorem KB{K':Nat}{c':Nat->Nat}{Z Z':List Mv}{y:Int}(hN:N<=1000)(h0:0<N)(hE:inN N E)(h:Cmp N E c K)(h':Cmp N [] c' K')(hZ:∀j,j<K->∃s,Z[j]?=some s/\iT N S E c K V j s)(hZ':∀j,j<K'->∃s,Z'[j]?=some s/\iT N S [] c' K' V j s) :
   loop (eS (some (pC N c K,Z,(N:Int),y)) (some (pC N c' K',Z',(N:Int),y)) (cx E N)) 0=some (.inl ()):=by
 have hll:=AH E N;refine aC (fun k:Nat=>(k:Int)) (cx E N).length (fun k hk=>?_) ?_
 . unfold eS oH;have hk2:k<((Z1 N).filter (free E)).length:=by unfold cx at hk;rw[au]at hk;exact hk
   have hg:aa (cx E N) (k:Int)=some ((((Z1 N).filter (free E))[k]:Nat):Int):=bD hk2;generalize hr:((Z1 N).filter (free E))[k]=r at hg;have hm:r∈(Z1 N).filter (free E):=hr ▸ X2 hk2
   obtain⟨m1,m2⟩:=ac0.1 hm;have hrN:r<N:=V7.1 m1;have f0:free [] r=true:=rfl;have hE0:inN N []:=fun e he=>by cases he
   obtain⟨s,s1,⟨f,w,L,s2,hL⟩,s3⟩:=hZ (c r) (h.lt r hrN);obtain⟨t,t1,_,t3⟩:=hZ' (c' r) (h'.lt r hrN);have e1:=s3 r (vV h hrN m2) (B7 h hE hrN m2);have e2:=t3 r (vV h' hrN f0) (B7 h' hE0 hrN f0);rw[e1]at e2;injection e2 with e2
   subst e2;have v1:ia (some (pC N c K,Z,(N:Int),y)) (r:Int)=some L:=by rw[Dz hrN s1,s2,C0 hL]
   have v2:ia (some (pC N c' K',Z',(N:Int),y)) (r:Int)=some L:=by rw[Dz hrN t1,s2,C0 hL]
   have hlen:=hL.len;have hS:=hL.hn;have hp:decide (0<((N:Nat):Int))=true:=decide_eq_true (by omega);simp only[dlt hk,cond_true,aA0,cond_false,V0,hp,hg,v1,v2,Al L L (by omega),decide_true,X7,an hk (by omega:(cx E N).length<=9223372036854775807)]
 . unfold eS;simp only[dge (show ¬ (cx E N).length<(cx E N).length by omega),cond_false,V0]
end
section
variable {N:Nat}{E F:ArG}
theorem JR(hE:inN N E)(hF:inN N F)(hs:∀e∈E,e∈F){U k:Nat}(hk:k<N):(seg U N E k).Sublist (seg U N F k):=by
 unfold seg;refine List.Sublist.map _ ?_;have e:(Z1 U).filter (fun w=>decide (w≠k)&&decide (w∈rl N E k))=((Z1 U).filter (fun w=>decide (w≠k)&&decide (w∈rl N F k))).filter (fun w=>decide (w≠k)&&decide (w∈rl N E k)):=by
   rw[dF0];refine bm0 (fun w hw=>?_);by_cases c:w∈rl N E k
   . have:w∈rl N F k:=(er hF hk).2 (Rch.mono hs ((er hE hk).1 c));simp[c,this]
   . simp[c]
 rw[e];exact List.filter_sublist
theorem BO(hE:inN N E)(hF:inN N F)(hs:∀e∈E,e∈F){U:Nat}:∀n,n<=N->(acc U N E n).Sublist (acc U N F n)
 |0,_=>fa0 _
 |n+1,h=>List.Sublist.append (BO hE hF hs n (by omega)) (JR hE hF hs (by omega))
end
theorem Li {A B:List (Int×Int)} (h:A.Sublist B) (hB:B.length<=1000000):loop (g8 A B) (0,0)=some ((A.length:Nat):Int):=by
 have hAB:=h.length_le;obtain⟨r,h1,h2⟩:=aW (body:=g8 A B) (fun s=>∃i j:Nat,s=((i:Int),(j:Int))/\i<=A.length/\j<=B.length/\(A.drop i).Sublist (B.drop j)) (fun s=>B.length-s.2.toNat) (Q:=fun r=>r=((A.length:Nat):Int)) (fun s hs=>by
   obtain⟨i,j,rfl,hi,hj,hsub⟩:=hs;by_cases hc:j<B.length
   . left
     have eB:B.drop j=B[j]::B.drop (j+1):=aY0 hc;rw[eB]at hsub;by_cases hd:i<A.length
     . have eA:A.drop i=A[i]::A.drop (i+1):=aY0 hd;rw[eA]at hsub;by_cases he:A[i]=B[j]
       . refine⟨(((i+1:Nat):Int),((j+1:Nat):Int)),?_,⟨i+1,j+1,rfl,hd,hc,?_⟩,by dsimp only;omega⟩
         . unfold g8;simp only[dlt hc,dlt hd,cond_true,aj hc,aj hd,V0,he,decide_true,Bool.and_self,an hc (by omega:B.length<=9223372036854775807),an hd (by omega:A.length<=9223372036854775807)]
         . rw[he]at hsub;exact List.cons_sublist_cons.1 hsub
       . refine⟨((i:Int),((j+1:Nat):Int)),?_,⟨i,j+1,rfl,hi,hc,?_⟩,by dsimp only;omega⟩
         . unfold g8;have hne:(decide (A[i].1=B[j].1)&&decide (A[i].2=B[j].2))=false:=by
             rw[<- Bool.decide_and,decide_eq_false];exact fun q=>he (Prod.ext q.1 q.2)
           simp only[dlt hc,dlt hd,cond_true,aj hc,aj hd,V0,hne,cond_false,an hc (by omega:B.length<=9223372036854775807)]
         . rw[eA]
           rcases List.sublist_cons_iff.1 hsub with q|⟨r,q,_⟩
           . exact q
           . exact absurd (by injection q) he
     . refine⟨((i:Int),((j+1:Nat):Int)),?_,⟨i,j+1,rfl,hi,hc,?_⟩,by dsimp only;omega⟩
       . unfold g8;simp only[dlt hc,dge hd,cond_true,cond_false,an hc (by omega:B.length<=9223372036854775807)]
       . rw[bH0 (by omega)];exact List.nil_sublist _
   . refine .inr ⟨(i:Int),?_,?_⟩
     . unfold g8;simp only[dge hc,cond_false]
     . rw[bH0 (show B.length<=j by omega)]at hsub;have:=List.drop_eq_nil_iff.1 (List.sublist_nil.1 hsub);have:i=A.length:=by omega
       rw[this]) (s:=(0,0)) ⟨0,0,rfl,ah0 _,ah0 _,by simpa using h⟩
 rw[h1,h2]
theorem CG(b:Bo)(l:List Eg):bO b l=bO (b.1,b.2.1,[],[],[],[],[]) l:=rfl
theorem vr(b:Bo)(l:List Eg):cR b l=cR (b.1,b.2.1,[],[],[],[],[]) l:=rfl
theorem Cx{u:Int}{N:Nat}{E:ArG}{l:List Eg}(hl:l.length<=1000)(hu:u<0)(hnew:aV (N:Int) (aF l)=some (some (mkG N E),0)):bO (u,(N:Int),[],[],[],[],[]) l=some []:=by
 unfold bO;rw[jB u (N:Int) l (by omega),hnew];simp only[V0,mT];have h:=aC (body:=dy (u,(N:Int),[],[],[],[],[]) (some (mkG N E)) (N:Int)) (fun k:Nat=>([],(k:Int))) 0 (b:=[]) (fun k hk=>by omega) (by
   unfold dy;dsimp only;rw[decide_eq_false (by split <;> omega),cond_false])
 rw[show loop (dy (u,(N:Int),[],[],[],[],[]) (some (mkG N E)) (N:Int)) ([],0)=_ from h];rfl
theorem vM{u n:Int}{l:List Eg}{e:Int}(hl:l.length<=1000)(hnew:aV n (aF l)=some (none,e)):bO (u,n,[],[],[],[],[]) l=some []/\cR (u,n,[],[],[],[],[]) l=some []:=by
 constructor
 . unfold bO;rw[jB u n l (by omega),hnew];simp only[V0,zL];have h:=aC (body:=dy (u,n,[],[],[],[],[]) none 0) (fun k:Nat=>([],(k:Int))) 0 (b:=[]) (fun k hk=>by omega) (by
     unfold dy;dsimp only;rw[decide_eq_false (by split <;> omega),cond_false])
   rw[show loop (dy (u,n,[],[],[],[],[]) Option.none 0) ([],0)=_ from h];rfl
 . unfold cR;rw[jB u n l (by omega),hnew];simp only[V0,zL];have h:=aC (body:=fP none 0) (fun k:Nat=>([],(k:Int))) 0 (b:=[]) (fun k hk=>by omega) (by
     unfold fP;dsimp only;rw[decide_eq_false (by omega),cond_false])
   rw[show loop (fP Option.none 0) ([],0)=_ from h];rfl

theorem E7(xa:Bo)(xb:List Eg)(xc:Eg)(k0:Tp.Ok xr xa)(k1:Tp.Ok (.sl (.cons (.int .i64) (.cons (.int .i64) (.one (.cons (.int .i64) (.cons (.int .i64) (.cons (.int .i64) (.cons (.int .i64) (.one .bool))))))))) xb)(k2:Tp.Ok (.cons (.int .i64) (.cons (.int .i64) (.one (.cons (.int .i64) (.cons (.int .i64) (.cons (.int .i64) (.cons (.int .i64) (.one .bool)))))))) xc)(q0:Tp.Fit xr xa)(q1:Tp.Fit (.sl (.cons (.int .i64) (.cons (.int .i64) (.one (.cons (.int .i64) (.cons (.int .i64) (.cons (.int .i64) (.cons (.int .i64) (.one .bool))))))))) xb)(q2:Tp.Fit (.cons (.int .i64) (.cons (.int .i64) (.one (.cons (.int .i64) (.cons (.int .i64) (.cons (.int .i64) (.cons (.int .i64) (.one .bool)))))))) xc):tW xa xb xc=some true:=by
 unfold tW
 rcases Pj xa (Io q0)with h|⟨h,hs⟩
 . rw[show im xa=some false from h,wF];rfl
 rw[show im xa=some true from h,V0];by_cases hb:(((!true)||decide (20<xa.2.1))||decide (80<((xb.length:Nat):Int)))=true
 . rw[hb,cond_true,wF];rfl
 have hb':=bo0.2 hb;rw[hb',cond_false];have hl:xb.length<=80:=by simp at hb;omega
 have hx:xa.2.1<=20:=by simp at hb;omega
 have hal:∀l:List Eg,(aF l).length=l.length:=fun l=>by simp[aF]
 have hlen1:(xb++[xc]).length<=100:=by simp;omega
 obtain⟨V,hV,hVs⟩:=Hg hs;obtain⟨u,n,b⟩:=xa;dsimp only at hx hV hVs ⊢;have key:∃p1 p2 L,b0 (u,n,b) xb=some p1/\b0 (u,n,b) []=some p2/\cR (u,n,b) xb=some L/\loop (eS p1 p2 L) 0=some (.inl ()):=by
   have hg:∀l:List Eg,l.length<=80->cS (u,n,b) l=(aV n (aF l)).bind fun r=>some r.1:=fun l h=>AW (u,n,b) l (by omega)
   have no:∀e,aV n (aF xb)=some (none,e)->∀p2,b0 (u,n,b) []=some p2->∃p1 p2 L,b0 (u,n,b) xb=some p1/\b0 (u,n,b) []=some p2/\cR (u,n,b) xb=some L/\loop (eS p1 p2 L) 0=some (.inl ()):=fun e he p2 h2 =>
     ⟨none,p2,[],zl (by rw[hg xb hl,he];rfl) hV,h2,(vr (u,n,b) xb).trans (vM (by omega) he).2,Cn _ _⟩
   by_cases h0:n<0
   . have hn:∀l:List Eg,aV n (aF l)=some (none,2):=fun l=>by
       unfold aV;rw[decide_eq_true h0];rfl
     exact no 2 (hn xb) none (zl (by rw[hg [] (by simp),hn];rfl) hV)
   obtain⟨N,rfl⟩:=W6 (show 0<=n by omega);have hN:N<=20:=by omega
   have hin0:inN N []:=fun e he=>by cases he
   have hnew0:aV (N:Int) (aF [])=some (some (mkG N []),0):=ni hin0 (by omega) (by simp);have two:∃p2,b0 (u,(N:Int),b) []=some p2/\(V=[]->p2=none)/\∀S:Nat,0<N->V.length=N->(∀(v:Nat) (s:Mv),V[v]?=some s->fA S s)->∃c K Z,Cmp N [] c K/\p2=some (pC N c K,Z,(N:Int),u)/\∀j,j<K->∃s,Z[j]?=some s/\iT N S [] c K V j s:=by
     rcases hVs with rfl|⟨N',S,e,h0,h1,h2⟩
     . exact⟨none,ze (by rw[hg [] (by simp),hnew0];rfl) hV,fun _=>rfl,fun S a b=>by simp at b;omega⟩
     . obtain rfl:N=N':=by omega
       obtain⟨c,K,Z,a1,a2,a3,a4⟩:=u7 (b:=(u,(N:Int),b)) (l:=[]) rfl (by omega) (by simp) (E:=[]) rfl hin0 hnew0 hV h1 h0 h2;refine⟨_,a2,fun e=>by rw[e]at h1;simp at h1;omega,fun S' _ _ h3=>?_⟩;obtain⟨c',K',Z',b1,b2,b3,b4⟩:=u7 (b:=(u,(N:Int),b)) (l:=[]) rfl (by omega) (by simp) (E:=[]) rfl hin0 hnew0 hV h1 h0 h3;rw[a2]at b2;injection b2 with b2
       exact⟨c',K',Z',b1,b2,b4⟩
   obtain⟨p2,t1,t2,t3⟩:=two
   rcases xk (N:Int) (aF xb) (by rw[hal];omega)with⟨h0,hN⟩|⟨h0,hN⟩|⟨h0,h1,h2,hN⟩|⟨N',E,hn,h1,hE,hin,h2,hN⟩
   . omega
   . omega
   . exact no 7 hN p2 t1
   . obtain rfl:N=N':=by omega
     have hL:=Bn (u:=u) (by omega) (by omega) hE hin hN
     rcases hVs with rfl|⟨N',S,e,h0,h1,h2⟩
     . rw[t2 rfl]at t1;exact⟨none,none,_,ze (by rw[hg xb hl,hN];rfl) hV,t1,(vr (u,(N:Int),b) xb).trans hL,Cn _ _⟩
     . obtain rfl:N=N':=by omega
       obtain⟨c,K,Z,a1,a2,a3,a4⟩:=u7 (b:=(u,(N:Int),b)) rfl (by omega) (by omega) hE hin hN hV h1 h0 h2;obtain⟨c',K',Z',b1,b2,b3⟩:=t3 S h0 h1 h2;refine⟨_,p2,_,a2,t1,(vr (u,(N:Int),b) xb).trans hL,?_⟩;rw[b2];exact KB (by omega) h0 hin a1 b1 a4 b3
 obtain⟨p1,p2,L,r1,r2,r3,r4⟩:=key;rw[show b0 (u,n,b.1,b.2.1,b.2.2.1,b.2.2.2.1,b.2.2.2.2) xb=_ from r1,show b0 (u,n,b.1,b.2.1,b.2.2.1,b.2.2.2.1,b.2.2.2.2) []=_ from r2,show cR (u,n,b.1,b.2.1,b.2.2.1,b.2.2.2.1,b.2.2.2.2) xb=_ from r3];simp only[V0];rw[r4];have ap:(app ([]:List Eg) xb).bind (fun z=>(app z [xc]).bind fun z=>some z)=some (xb++[xc]):=by
   rw[aI (by simp;omega),V0,aH0,aI (by simp;omega)];rfl
 simp only[V0,ap,jU];have hA:(aF (xb++[xc])).length<=100:=by rw[hal];exact hlen1
 rw[GC _ (by omega),V0,IE _ _ (by omega)];simp only[V0,wF];rw[show bO (u,n,b.1,b.2.1,b.2.2.1,b.2.2.2.1,b.2.2.2.2) xb=_ from CG (u,n,b) xb,show bO (u,n,b.1,b.2.1,b.2.2.1,b.2.2.2.1,b.2.2.2.2) (xb++[xc])=_ from CG (u,n,b) (xb++[xc])];dsimp only
 rcases xk n (aF (xb++[xc])) (by omega)with⟨h0,hN⟩|⟨h0,hN⟩|⟨h0,h1,h2,hN⟩|⟨N,F,hn,h1,hF,hinF,h2,hN⟩
 . rw[if_pos h0,(vM (u:=u) (by omega) hN).1];rfl
 . omega
 . rw[if_neg (by omega),if_neg (by omega),h2,if_pos rfl,(vM (u:=u) (by omega) hN).1];rfl
 . subst hn;have hNl:N<=20:=by omega
   rw[if_neg (by omega),if_neg (by omega),h2,if_neg (by decide)];have hsub:∀x∈aF xb,x∈aF (xb++[xc]):=fun x hx=>by
     unfold aF at hx ⊢;rw[X6];exact af0 _ hx
   have h3:(aF xb).any (cb (N:Int))=false:=by
     rw[bo0];intro h;obtain⟨x,hx,hx2⟩:=av0.1 h;have:=av0.2 ⟨x,hsub x hx,hx2⟩;rw[h2]at this;cases this
   rcases xk (N:Int) (aF xb) (by rw[hal];omega)with⟨h0,_⟩|⟨h0,_⟩|⟨_,_,h4,_⟩|⟨N',E,hn,_,hE,hinE,_,hN1⟩
   . omega
   . omega
   . rw[h3]at h4;cases h4
   obtain rfl:N=N':=by omega
   have hEF:∀e∈E,e∈F:=fun e he=>by
     have h5:(((e.1:Nat):Int),((e.2:Nat):Int))∈ai F:=by
       rw[<- hF];apply hsub;rw[hE];exact Y7.2 ⟨e,he,rfl⟩
     obtain⟨e',m,q⟩:=Y7.1 h5;have q1:=congrArg Prod.fst q;have q2:=congrArg Prod.snd q;dsimp only at q1 q2;have:e'=e:=Prod.ext (by omega) (by omega);exact this ▸ m
   have outs:∃A B:List (Int×Int),bO (u,(N:Int),[],[],[],[],[]) xb=some A/\bO (u,(N:Int),[],[],[],[],[]) (xb++[xc])=some B/\A.Sublist B/\B.length<=1000000:=by
     by_cases hu:u<0
     . exact⟨[],[],Cx (by omega) hu hN1,Cx (by omega) hu hN,fa0 _,by simp⟩
     . obtain⟨U,hU,hUN⟩:∃U:Nat,(if (N:Int)<u then (N:Int)else u)=(U:Int)/\U<=N:=by
         by_cases q:(N:Int)<u
         . exact⟨N,by rw[if_pos q],X3 _⟩
         . exact⟨u.toNat,by rw[if_neg q];omega,by omega⟩
       have out:∀(l:List Eg) (E:ArG),l.length<=100->aF l=ai E->inN N E->aV (N:Int) (aF l)=some (some (mkG N E),0)->bO (u,(N:Int),[],[],[],[],[]) l=some (acc U N E U):=fun l E hl hE hin hnew=>by
         exact zp hl (by omega) (.inr trivial) hE hin hnew hU hUN
       refine⟨_,_,out xb E (by omega) hE hinE hN1,out _ F hlen1 hF hinF hN,BO hinE hinF hEF U hUN,?_⟩;have:=wk (N:=N) (E:=F) U U;have h6:U*U<=20*20:=cX0 (by omega) (by omega);omega
   obtain⟨A,B,o1,o2,o3,o4⟩:=outs;rw[o1,o2];simp only[decide_true,X7,cond_false,V0,Li o3 o4,cond_true]
end
theorem E5{H:Type}(enc:TypeId×Value->H)(W:World)(base:Nat){v0 v1 v2:Value}{d0 d1 d2:DataW H}{p0 p1 p2:List MemPlace}
   (h0:DataW.Trod enc Tryz.prog W 0 (fun _=>true) true 30 v0 d0 p0) (h1:DataW.Trod enc Tryz.prog W 0 (fun _=>true) true 31 v1 d1 p1) (h2:DataW.Trod enc Tryz.prog W 0 (fun _=>true) true 35 v2 d2 p2)
   (o0:Value.okWide Tryz.prog W .any base 30 v0) (o1:Value.okWide Tryz.prog W .any base 31 v1) (o2:Value.okWide Tryz.prog W .any base 35 v2)
   (hgk:tzGk (Hp.of W))
   (w0:(d0.weights Tryz.prog 30).all (·<=reachBytes)=true)
   (w1:(d1.weights Tryz.prog 31).all (·<=reachBytes)=true)
   (w2:(d2.weights Tryz.prog 35).all (·<=reachBytes)=true) :
   Calls Tryz.prog 3 #[v0,v1,v2] W fun e W'=>e=.returned (.bool true)/\Below W.heap.size W W':=by
 obtain⟨xa,i0,k0⟩:=Tp.arg (.cons (.int .i64) (.cons (.int .i64) (.cons (.sl (.cons (.int .i64) (.one (.int .i64)))) (.cons (.sl (.one (.sl (.cons (.int .i64) (.one .bool))))) (.cons (.one (.sl (.cons (.int .i64) (.one .bool)))) (.cons (.sl (.cons (.int .i64) (.cons (.sl (.cons (.int .i64) (.one (.int .i64)))) (.cons (.sl (.one (.sl (.cons (.int .i64) (.one .bool))))) (.one (.one (.sl (.cons (.int .i64) (.one .bool))))))))) (.one (.sl (.cons (.sl (.cons (.int .i64) (.cons (.int .i64) (.cons (.int .i64) (.cons (.int .i64) (.one .bool)))))) (.one (.cons (.int .i64) (.cons (.int .i64) (.cons (.int .i64) (.cons (.sl (.int .i64)) (.cons (.sl (.int .i64)) (.one (.sl (.int .i64)))))))))))))))))) (by kernel_rfl) o0 h0;have q0:=Tp.argFit (.cons (.int .i64) (.cons (.int .i64) (.cons (.sl (.cons (.int .i64) (.one (.int .i64)))) (.cons (.sl (.one (.sl (.cons (.int .i64) (.one .bool))))) (.cons (.one (.sl (.cons (.int .i64) (.one .bool)))) (.cons (.sl (.cons (.int .i64) (.cons (.sl (.cons (.int .i64) (.one (.int .i64)))) (.cons (.sl (.one (.sl (.cons (.int .i64) (.one .bool))))) (.one (.one (.sl (.cons (.int .i64) (.one .bool))))))))) (.one (.sl (.cons (.sl (.cons (.int .i64) (.cons (.int .i64) (.cons (.int .i64) (.cons (.int .i64) (.one .bool)))))) (.one (.cons (.int .i64) (.cons (.int .i64) (.cons (.int .i64) (.cons (.sl (.int .i64)) (.cons (.sl (.int .i64)) (.one (.sl (.int .i64)))))))))))))))))) (r:=.any) (b:=base) (by kernel_rfl) (by kernel_rfl) h0 i0 w0;obtain⟨xb,i1,k1⟩:=Tp.arg (.sl (.cons (.int .i64) (.cons (.int .i64) (.one (.cons (.int .i64) (.cons (.int .i64) (.cons (.int .i64) (.cons (.int .i64) (.one .bool))))))))) (by kernel_rfl) o1 h1;have q1:=Tp.argFit (.sl (.cons (.int .i64) (.cons (.int .i64) (.one (.cons (.int .i64) (.cons (.int .i64) (.cons (.int .i64) (.cons (.int .i64) (.one .bool))))))))) (r:=.any) (b:=base) (by kernel_rfl) (by kernel_rfl) h1 i1 w1;obtain⟨xc,i2,k2⟩:=Tp.arg (.cons (.int .i64) (.cons (.int .i64) (.one (.cons (.int .i64) (.cons (.int .i64) (.cons (.int .i64) (.cons (.int .i64) (.one .bool)))))))) (by kernel_rfl) o2 h2;have q2:=Tp.argFit (.cons (.int .i64) (.cons (.int .i64) (.one (.cons (.int .i64) (.cons (.int .i64) (.cons (.int .i64) (.cons (.int .i64) (.one .bool)))))))) (r:=.any) (b:=base) (by kernel_rfl) (by kernel_rfl) h2 i2 w2;exact NO (s:=yI) (x:=(xa,xb,xc)) (args:=[v0,v1,v2]) EJ (E7 xa xb xc k0 k1 k2 q0 q1 q2) hgk rfl rfl ⟨_,_,rfl,rC _ i0,_,_,rfl,rC _ i1,_,_,rfl,rC _ i2,rfl⟩
theorem Lz:∀j,j<64->(Lib.deBruijn64tab.map ey0).getD j 0=((Lib.deBruijn64tab.getD j 0:Nat):Int):=by decide +kernel
theorem KP {W : World} {rest : List (String × DataW Unit)} (h : laidMet Tryz.prog (("math/bits.deBruijn64tab", Rows.laid_math_bits_deBruijn64tab) :: rest) W) : tzGk (Hp.of W) := by
 have hg : Tryz.prog.globalNamed "math/bits.deBruijn64tab" = some 0 := by kernel_rfl
 have hT : Lib.TabIs Tryz.prog W "math/bits.deBruijn64tab" .u8 (Lib.deBruijn64tab.map ey0) :=
   Lib.tabIs_of_head (t:=239) (e:=5) (n:=64) hg (by kernel_rfl) (by kernel_rfl) (by kernel_rfl) (by kernel_rfl) (by kernel_rfl) h
 intro j hj;rw[<- Lz j hj];exact Bz (hT.cell hg j (by simpa[Lib.deBruijn64tab]using hj))
end
end Go.Proofs.YtpnmnbfbcgkcjaaGreatDoor
namespace Go.Proofs.YtpnmnbfbcgkcjaaGreatDoor.modelLooseFrame
set_option maxRecDepth 40000
open Go.ChangeShapes Go.WideShapes Go.ChangeAt Go.RowKit
theorem own:ownKnob Tryz.prog.godebug=none:=by kernel_rfl
theorem Bp(H:Type)(enc:TypeId×Value->H)(W:World)(base:Nat)(args:Array Value)(ds gs:List (DataW H))(before:List MemPlace)
    (hval:∀(j:Nat) t v,Tryz.f3.params[j]?=some t->args[j]?=some v->Value.okWide Tryz.prog W .any base t v)
    (hW:DataW.Whole enc Tryz.prog Tryz.f3.params.toList Rows.modelLooseSpec.vars false W args.toList ds gs before) (vt:List TypeId) (hwt:(DataW.weightsEach Tryz.prog (Tryz.f3.params.toList++vt) (ds++gs)).all (·<=reachBytes)=true) (hgk:tzGk (Hp.of W)) :
    Calls Tryz.prog 3 args W fun e W'=>∃v,e=.returned v/\Rows.modelLooseSpec.post enc Tryz.prog Tryz.f3 false true false false W args v W':=by
  have hW':=hW;obtain⟨p,q,hA0,hV,rfl,hfz,hnd⟩:=hW;have hA:DataW.TrodAll enc Tryz.prog W 0 (fun _=>true) true Tryz.f3.params.toList args.toList ds p:=hA0;rw[Tryz.params3]at hA hval hwt;obtain⟨v0,vs0,d0,ds0,p0,q0,hargs,rfl,rfl,h0,r0⟩:=trodAll_cons hA;obtain⟨v1,vs1,d1,ds1,p1,q1,rfl,rfl,rfl,h1,r1⟩:=trodAll_cons r0;obtain⟨v2,vs2,d2,ds2,p2,q2,rfl,rfl,rfl,h2,r2⟩:=trodAll_cons r1;obtain⟨rfl,rfl,rfl⟩:=trodAll_nil r2;obtain rfl:args = #[v0,v1,v2]:=by cases args;simp_all
  refine (E5 enc W base h0 h1 h2 (hval 0 _ v0 rfl rfl) (hval 1 _ v1 rfl rfl) (hval 2 _ v2 rfl rfl) hgk (iK _ _ hwt 0 _ _ rfl rfl) (iK _ _ hwt 1 _ _ rfl rfl) (iK _ _ hwt 2 _ _ rfl rfl)).mono fun e W' ⟨he,hb⟩=>?_
  subst he;exact⟨_,rfl,IK (tb:=_) rfl hW' rfl rfl (by kernel_rfl) (by kernel_rfl) (of_decide_eq_true (by kernel_rfl)) hb⟩
noncomputable def Dm (os:Os):World:=World.laidAll Tryz.prog os Rows.modelLooseRow.laid
theorem DW(os:Os){H:Type}(enc:TypeId×Value->H):∃x,DataW.whole enc Tryz.prog ((Dm os).forCall (fun _ _=>0) ⟨#[],#[.agg #[.int .i64 0,.int .i64 0,.slice none 0 0,.slice none 0 0,.slice none 0 0,.slice none 0 0,.slice none 0 0],.slice none 0 0,.agg #[.int .i64 0,.int .i64 0,.int .i64 0,.int .i64 0,.int .i64 0,.int .i64 0,.bool false]],[]⟩).memory Tryz.f3.params.toList Rows.modelLooseSpec.vars false (#[.agg #[.int .i64 0,.int .i64 0,.slice none 0 0,.slice none 0 0,.slice none 0 0,.slice none 0 0,.slice none 0 0],.slice none 0 0,.agg #[.int .i64 0,.int .i64 0,.int .i64 0,.int .i64 0,.int .i64 0,.int .i64 0,.bool false]]:Array Value).toList 8=some x :=
  eb0.1 (by kernel_rfl)
set_option maxRecDepth 100000 in
theorem K7(os:Os)(started:os.Started)(H:Type)(enc:TypeId×Value->H)(F:Stop.Interp) :
    ReturnsInHanded {} Tryz.checked os 3 .any ((OpenSpec.ofChange Rows.modelLooseSpec).preRow enc Tryz.prog Tryz.f3 Rows.modelLooseRow.domain false Rows.modelLooseRow.laid) (((OpenSpec.ofChange Rows.modelLooseSpec).at F).post enc Tryz.prog Tryz.f3 false true false false):=by
  obtain⟨x,hx⟩:=DW os enc;refine returnsInHanded_of_row (C:=Tryz.checked) (s:=OpenSpec.ofChange Rows.modelLooseSpec) own started (by kernel_rfl) Tryz.func3
    ⟨Dm os,fun _ _=>0,⟨#[],#[.agg #[.int .i64 0,.int .i64 0,.slice none 0 0,.slice none 0 0,.slice none 0 0,.slice none 0 0,.slice none 0 0],.slice none 0 0,.agg #[.int .i64 0,.int .i64 0,.int .i64 0,.int .i64 0,.int .i64 0,.int .i64 0,.bool false]],[]⟩,World.laidAll_os _ _ _,World.shaped_of_ZipB (by kernel_rfl) (by kernel_rfl),rfl,(Input.okWide_of_okWideB (by kernel_rfl)).2,
      OpenSpec.preRow_of_cond 8 hx (by kernel_rfl) (fun k hk=>by cases hk) (by kernel_rfl) (by rw[MakeChecks.laidMetH_plain _ _ _ (by kernel_rfl)];exact laidMet_laidAll _ (by kernel_rfl) (by kernel_rfl)),
      by simp only[Assume.holds];exact⟨by simp,by simp,by simp,by simp,by simp⟩⟩ ?_
  intro W base args ds gs before hval hW _ _ hwt hL _ _;exact Bp H enc W base args ds gs before hval hW _ hwt (KP (rest:=[]) (by rw[MakeChecks.laidMetH_plain _ _ _ (by kernel_rfl)]at hL;exact hL))
theorem L8:Rows.ModelLooseSaid :=
  OpenClaim.holds_of_cond 3 Tryz.f3 rfl rfl rfl rfl rfl rfl rfl ⟨rfl,rfl,rfl,rfl,rfl⟩ rfl rfl rfl rfl rfl (by kernel_rfl) Tryz.func3 (by kernel_rfl)
    (of_decide_eq_true (by kernel_rfl)) (by unfold Func.isWrapper;first|(rw[if_pos (by decide +kernel)];kernel_rfl)|(rw[if_neg (by decide +kernel)];exact⟨rfl,rfl⟩))
    (fun os started H enc _ F=>by rw[OpenClaim.pre_eq_preRow];exact K7 os started H enc F)
theorem card:Rows.ModelLooseCardSaid :=
  Claim7.holds_tied_plain_at .later [] [.data] true (true, "c4a6453e1a7e71764eed99ca25f3c7cae3aa30fad516660fec9d6130a5cb52e4") true L8 (fun _ h => by cases h) (by kernel_rfl) (fun _ h => by cases h) modelLoose_row_tie rfl ⟨rfl, rfl⟩ (by kernel_rfl) rfl
    (fun f fn hf hfn=>by
      obtain rfl : f = 3 := ap0 ((show Tryz.prog.funcNamed "easement/easementlaw30.ModelLoose" = some 3 by kernel_rfl).symm.trans hf) |>.symm
      obtain rfl:fn=Tryz.f3:=(ap0 (Tryz.func3.symm.trans hfn)).symm;exact⟨by kernel_rfl,fun j t ht=>by
        rw[Tryz.params3]at ht;have hm:t∈[30,31,35]:=by simpa using Array.mem_of_getElem? ht
        have hall:([30,31,35].all fun u=>!Tryz.prog.wantsStandIn u)=true:=by kernel_rfl
        exact (show Tryz.prog.wantsStandIn t=false by simpa using aF0.1 hall t hm)⟩)
    (by kernel_rfl)
end Go.Proofs.YtpnmnbfbcgkcjaaGreatDoor.modelLooseFrame

/- A part of the proof: what lies ahead of the law. Nothing is claimed here. -/
import Derived.Test.YtpnmnbfbcgkcjaaGreatDoorZ6
open BitVec renaming getLsbD_ofNat→eF0,ofInt→X0,ofNat→cb0,toNat_and→fr0,toNat_ofNat→bX0
open Bool renaming and_eq_true→Y1,and_false→dZ0,and_true→en0,eq_iff_iff→bx0,false_eq_true→W7,false_or→cw0,not_false→aE0,not_not→ez0,not_true→X7,or_eq_false_iff→cM0,or_eq_true→bw0,or_false→di0,true_and→cd0
open Classical renaming byContradiction→dX0,propDecidable→dh0
open Int renaming eq_ofNat_of_zero_le→W6,fdiv→X8,fdiv_eq_ediv_of_nonneg→ce0,le_refl→cn0,lt_irrefl→ek0,natCast_add→bG0,natCast_mul→fy0,natCast_nonneg→aj0,ofNat→ey0,ofNat_lt→bL0,tdiv→bc0,tmod→bK0,toNat→Z5,toNat_natCast→W2,toNat_of_nonneg→bn0,toNat_zero→cj0
open List renaming all_eq_true→aF0,any_eq_false→ao0,any_eq_true→av0,append_assoc→X1,append_inj'→fq0,append_nil→Z6,cons_append→aK0,countP_append→cv0,countP_congr→eZ0,countP_cons→bB0,countP_le_length→ca0,drop→cu0,drop_append→fp0,drop_eq_getElem_cons→aY0,drop_of_length_le→eq0,drop_zero→ab0,eq_nil_or_concat→dr0,ext_getElem→cl0,filter_append→aB0,filter_congr→bm0,filter_cons→aZ0,filter_eq_nil_iff→aX0,filter_filter→dF0,filter_map→fv0,filter_nil→fu0,findIdx?_eq_none_iff→ar0,findIdx?_eq_some_iff_getElem→Z9,flatten_append→dD0,flatten_cons→cC0,flatten_nil→fn0,foldl_append→dd0,foldl_cons→bF0,getD→ag0,getD_eq_getElem?_getD→bI0,getElem?_append_left→V6,getElem?_append_right→V5,getElem?_drop→bf0,getElem?_eq_getElem→Z0,getElem?_eq_none→ai0,getElem?_eq_some_iff→V4,getElem?_replicate→df0,getElem?_set→dc0,getElem?_set_ne→bC0,getElem?_set_self→cy0,getElem?_take→aM0,getElem_append_left→ee0,getElem_append_right→cZ0,getElem_drop→db0,getElem_map→ck0,getElem_mem→X2,getElem_of_mem→Z8,getElem_range→bW0,getElem_set→fm0,getElem_take→cA0,length→W4,length_append→W3,length_cons→V9,length_drop→W8,length_eq_zero_iff→Z4,length_erase_of_mem→ed0,length_filter_le→aa0,length_map→Y6,length_mergeSort→dq0,length_pos_iff→bl0,length_pos_of_mem→cx0,length_range→bk0,length_replicate→X9,length_set→ax0,length_singleton→bb0,length_take→X4,map_append→X6,map_congr_left→cm0,map_cons→X5,map_map→dL0,map_nil→aS0,mem_append→V3,mem_append_left→af0,mem_append_right→ae0,mem_cons→Y4,mem_cons_of_mem→W5,mem_cons_self→aL0,mem_erase_of_ne→eD0,mem_filter→ac0,mem_map→Y7,mem_mergeSort→ct0,mem_of_mem_take→bg0,mem_or_eq_of_mem_set→ch0,mem_range→V7,mem_replicate→cV0,mem_singleton→Y2,mem_take_iff_getElem→cY0,nil_append→aH0,nodup_append→aR0,nodup_cons→aw0,nodup_nil→cD0,nodup_range→dj0,pairwise_append→aJ0,pairwise_cons→be0,pairwise_iff_getElem→am0,pairwise_lt_range→ep0,pairwise_map→cc0,pairwise_mergeSort→bR0,perm_append_comm→bv0,range→Z1,range_succ→aU0,replicate→Z2,set_append_right→bu0,set_cons_zero→cU0,sum_append→dT0,take→cF0,take_append_drop→as0,take_append_of_le_length→au0,take_length→Y9,take_of_length_le→V8,take_sublist→dH0,take_take→bq0,take_zero→cg0
open List.Pairwise renaming filter→eE0,imp→dI0,nil→fb0
open Nat renaming add_assoc→aG0,add_comm→bh0,add_one_ne_zero→eJ0,add_sub_cancel→cq0,add_sub_cancel_left→cp0,add_zero→aD0,and_lt_two_pow→eQ0,and_two_pow_sub_one_eq_mod→dK0,div_eq_of_lt→fi0,div_mul_le_self→eI0,eq_of_testBit_eq→du0,le_antisymm→dS0,le_of_lt→bt0,le_refl→X3,le_trans→Z7,lt_irrefl→bp0,lt_of_le_of_lt→cT0,lt_of_lt_of_le→bV0,lt_or_ge→aq0,lt_succ_of_le→eV0,lt_trichotomy→bi0,min_eq_left→an0,min_eq_right→cJ0,min_le_left→dR0,min_le_right→ff0,mod_eq_of_lt→ak0,mod_eq_sub_mod→co0,mod_lt→bM0,mul_comm→dJ0,or_lt_two_pow→dG0,pow_le_pow_right→eB0,sub_self→bs0,sub_zero→er0,succ_mul→aC0,testBit_and→dm0,testBit_lt_two_pow→eo0,testBit_mul_two_pow→de0,testBit_or→dV0,testBit_two_pow→dA0,zero_add→Y8,zero_le→ah0,zero_testBit→cI0
open Ne renaming symm→dz0
open Option renaming bind_some→V0,isNone_some→aA0,isSome_none→cS0,isSome_some→cR0
open Option.some renaming inj→ap0,injEq→Z3
open Prod.mk renaming injEq→bQ0
open Sum.inl renaming injEq→ef0
open Go.IntKind renaming wrap→M0
open Go.IntKind renaming bits→O0
namespace Go.Proofs.YtpnmnbfbcgkcjaaGreatDoor
noncomputable section
set_option linter.unusedVariables false
open Go.RowKit
section
theorem bC{α:Type}{m j:Nat}{f:Nat->α}(h:j<m):aa ((Z1 m).map f) (j:Int)=some (f j):=by
 rw[aj (by simpa using h)];simp
theorem dI{α:Type}{m j:Nat}{f:Nat->α}{y:α}:((Z1 m).map f).set j y=(Z1 m).map (fun v=>if v=j then y else f v):=by
 apply cl0
 . simp
 . intro i h1 h2;simp only[fm0,ck0,bW0];by_cases h:j=i
   . subst h;simp
   . simp[h,dz0 h]
theorem bS{α:Type}{m:Nat}{f g:Nat->α}(h:∀v,v<m->f v=g v):(Z1 m).map f=(Z1 m).map g:=cm0 fun v hv=>h v (V7.1 hv)
theorem dA{α:Type}(m:Nat)(z:α):Z2 m z=(Z1 m).map (fun _=>z):=by
 apply cl0 <;> simp
def cnt(ks:List Nat)(v:Nat):Nat:=ks.countP (fun x=>decide (x=v))
def ltc(ks:List Nat)(v:Nat):Nat:=ks.countP (fun x=>decide (x<v))
theorem I5(ks:List Nat):ltc ks 0=0:=by simp[ltc]
theorem mW(ks:List Nat)(v:Nat):ltc ks (v+1)=ltc ks v+cnt ks v:=by
 unfold ltc cnt
 induction ks with
 |nil=>rfl
 | cons x ks ih =>
   rw[bB0,bB0,bB0,ih];by_cases h:x<v
   . simp[h,show x<v+1 by omega,show ¬ x=v by omega];omega
   . by_cases h2:x=v
     . simp[h2];omega
     . simp[h,h2,show ¬ x<v+1 by omega]
theorem vK(ks:List Nat){v w:Nat}(h:v<=w):ltc ks v<=ltc ks w:=by
 unfold ltc;apply List.countP_mono_left;intro x _;simp;omega
theorem km(ks:List Nat)(v:Nat):ltc ks v<=ks.length:=ca0
theorem ru(ks:List Nat)(v:Nat):cnt ks v<=ks.length:=ca0
theorem mX{ks:List Nat}{k:Nat}(h:k<ks.length)(v:Nat):cnt (ks.take (k+1)) v=cnt (ks.take k) v+(if ks[k]=v then 1 else 0):=by
 unfold cnt;rw[aH h,cv0];simp[bB0]
theorem zn(ks:List Nat)(k v:Nat):cnt (ks.take k) v<=cnt ks v:=by
 unfold cnt
 conv=>rhs;rw[<- as0 k ks,cv0]
 omega
theorem FL{ks:List Nat}{k:Nat}(h:k<ks.length):cnt (ks.take k) ks[k]<cnt ks ks[k]:=by
 have:=zn ks (k+1) ks[k];rw[mX h]at this;simp at this;omega
def pos(ks:List Nat)(i:Nat):Nat:=ltc ks (ks.getD i 0)+cnt (ks.take i) (ks.getD i 0)
theorem wX{ks:List Nat}{i:Nat}(h:i<ks.length):pos ks i<ltc ks (ks[i]+1):=by
 have:=FL h;unfold pos;rw[mW];simp[h];omega
theorem Df{ks:List Nat}{i:Nat}(h:i<ks.length):ltc ks ks[i]<=pos ks i:=by unfold pos;simp[h]
theorem Gu{ks:List Nat}{i:Nat}(h:i<ks.length):pos ks i<ks.length:=bV0 (wX h) (km _ _)
theorem Cm{ks:List Nat}{i j:Nat}(hi:i<j)(hj:j<ks.length):pos ks i≠pos ks j:=by
 have hi':i<ks.length:=by omega
 rcases bi0 ks[i] ks[j]with h |h|h
 . have:=wX hi';have:=Df hj;have:=vK ks (v:=ks[i]+1) (w:=ks[j]) (by omega);omega
 . have h1:=mX hi' ks[j];have h2:cnt (ks.take (i+1)) ks[j]<=cnt (ks.take j) ks[j]:=by
     have:=zn (ks.take j) (i+1) ks[j];rw[bq0,an0 (by omega)]at this;exact this
   unfold pos;simp[hi',hj,h]at h1 ⊢;omega
 . have:=wX hj;have:=Df hi';have:=vK ks (v:=ks[j]+1) (w:=ks[i]) (by omega);omega
def occ(ks:List Nat)(v:Nat):List Nat:=(Z1 ks.length).filter (fun i=>decide (ks.getD i 0=v))
theorem vu(ks:List Nat)(v:Nat):∀k,k<=ks.length->((Z1 k).filter (fun i=>decide (ks.getD i 0=v))).length=cnt (ks.take k) v/\∀(r i:Nat),((Z1 k).filter (fun i=>decide (ks.getD i 0=v)))[r]?=some i->∃hi:i<ks.length,ks[i]=v/\cnt (ks.take i) v=r
 |0,_=>by simp[cnt]
 | k + 1,hk=>by
   obtain⟨h1,h2⟩:=vu ks v k (by omega);have hkl:k<ks.length:=by omega
   have e:(Z1 (k+1)).filter (fun i=>decide (ks.getD i 0=v))=(Z1 k).filter (fun i=>decide (ks.getD i 0=v))++(if ks[k]=v then [k]else []):=by
     rw[aU0,aB0];by_cases h:ks[k]=v <;> simp[hkl,h]
   rw[e,mX hkl];generalize hF:(Z1 k).filter (fun i=>decide (ks.getD i 0=v))=F at h1 h2;by_cases h:ks[k]=v
   . simp only[h,if_true];refine⟨by simp[h1],fun r i hr=>?_⟩;by_cases hr2:r<F.length
     . rw[V6 hr2]at hr;exact h2 r i hr
     . rw[V5 (by omega)]at hr;have hr3:r-F.length=0:=by
         have:=(V4.1 hr).1;simp at this;omega
       rw[hr3]at hr;simp at hr;subst hr;exact⟨hkl,h,by omega⟩
   . simp only[h,if_false,Z6,aD0];exact⟨h1,h2⟩
theorem wz(ks:List Nat)(v:Nat):(occ ks v).length=cnt ks v:=by have:=(vu ks v ks.length (X3 _)).1;rw[Y9]at this;exact this
theorem KT(ks:List Nat)(v r:Nat)(h:r<(occ ks v).length):∃(hi:(occ ks v)[r]<ks.length),ks[(occ ks v)[r]]=v/\cnt (ks.take (occ ks v)[r]) v=r:=(vu ks v ks.length (X3 _)).2 r _ (Z0 h)
theorem j3{ks:List Nat}{v i:Nat}:i∈occ ks v↔∃h:i<ks.length,ks[i]=v:=by
 unfold occ;simp only[ac0,V7,decide_eq_true_eq];constructor
 . rintro⟨h1,h2⟩;exact⟨h1,by simpa[h1]using h2⟩
 . rintro⟨h1,h2⟩;exact⟨h1,by simpa[h1]using h2⟩
def av(ks:List Nat)(k p:Nat):Nat:=((Z1 k).find? (fun i=>decide (pos ks i=p))).getD 0
theorem Cz{ks:List Nat}{k i:Nat}(hk:k<=ks.length)(hi:i<k):av ks k (pos ks i)=i:=by
 unfold av;cases h:(Z1 k).find? (fun j=>decide (pos ks j=pos ks i))with
 | none =>
   rw[List.find?_eq_none]at h;exact absurd (by simp) (h i (V7.2 hi))
 | some j =>
   have h1:=List.find?_some h;have h2:=V7.1 (List.mem_of_find?_eq_some h);simp at h1
   rcases bi0 i j with q |q|q
   . exact absurd h1.symm (Cm q (by omega))
   . exact q.symm
   . exact absurd h1 (Cm q (by omega))
theorem Kj{ks:List Nat}{k:Nat}(hk:k<ks.length)(p:Nat):av ks (k+1) p=if p=pos ks k then k else av ks k p:=by
 by_cases h:p=pos ks k
 . rw[if_pos h,h,Cz (by omega) (by omega)]
 . rw[if_neg h];unfold av;rw[aU0,List.find?_append];simp[dz0 h]
theorem LF(ks:List Nat)(v:Nat):((((Z1 ks.length).map (fun p=>(av ks ks.length p:Int))).take (ltc ks (v+1))).drop (ltc ks v))=(occ ks v).map (fun i:Nat=>(i:Int)):=by
 apply cl0
 . have h1:=mW ks v;have h2:=km ks (v+1);rw[W8,X4,Y6,Y6,wz,bk0];omega
 . intro r h1 h2;have hr:r<(occ ks v).length:=by simpa using h2
   obtain⟨hi,h3,h4⟩:=KT ks v r hr;simp only[db0,cA0,ck0,bW0];have:pos ks (occ ks v)[r]=ltc ks v+r:=by
     have e:ks.getD (occ ks v)[r] 0=v:=by simp[hi,h3]
     unfold pos;rw[e,h4]
   rw[<- this,Cz (X3 _) hi]
section
variable {α:Type}(key:α->Int)(n:Int)(xb:List α)
def ix1:(Int×(List Int))->Option ((Int×(List Int))⊕(List Int)):=fun ((i,l):(Int×(List Int)))=>cond (decide (i<(((xb.length:Nat):Int)))) ((aa xb i).bind fun x=>(aa l (M0 .i64 (key x+1))).bind fun a=>(aa l (M0 .i64 (key x+1))).bind fun b=>(some (l.set (M0 .i64 (key x+1)).toNat (M0 .i64 (a+1)))).bind fun z=>some (.inl ((M0 .i64 (i+1),z)))) (some (.inr (l)))
def ix2:(Int×(List Int))->Option ((Int×(List Int))⊕(List Int)):=fun ((i,l):(Int×(List Int)))=>cond (decide (i<n)) ((aa l (M0 .i64 (i+1))).bind fun a=>(aa l i).bind fun b=>(aa l (M0 .i64 (i+1))).bind fun c=>(some (l.set (M0 .i64 (i+1)).toNat (M0 .i64 (a+b)))).bind fun z=>some (.inl ((M0 .i64 (i+1),z)))) (some (.inr (l)))
def ix3:((List Int)×Int×(List Int))->Option (((List Int)×Int×(List Int))⊕(List Int)):=fun ((l,i,m):((List Int)×Int×(List Int)))=>cond (decide (i<(((xb.length:Nat):Int)))) ((aa xb i).bind fun x=>(aa l (key x)).bind fun a=>(aa m a).bind fun b=>(some (m.set a.toNat i)).bind fun z=>(aa l (key x)).bind fun c=>(aa l (key x)).bind fun d=>(some (l.set (key x).toNat (M0 .i64 (c+1)))).bind fun y=>some (.inl ((y,M0 .i64 (i+1),z)))) (some (.inr (m)))
variable {key n xb}{ks:List Nat}
theorem CF(hk:xb.map key=ks.map (fun k:Nat=>(k:Int))){i:Nat}(h:i<xb.length):∃h2:i<ks.length,key xb[i]=(ks[i]:Int):=by
 have hl:xb.length=ks.length:=by simpa using congrArg W4 hk
 refine⟨by omega,?_⟩;have h1:(xb.map key)[i]'(by simpa using h)=(ks.map (fun k:Nat=>(k:Int)))[i]'(by simp;omega):=by simp only[hk]
 simpa using h1
theorem C9{N:Nat}(hk:xb.map key=ks.map (fun k:Nat=>(k:Int)))(hN:∀x∈ks,x<N)(hb:ks.length<=1073741824)(hNb:N<=1073741824):loop (ix1 key xb) (0,Z2 (N+1) 0)=some ((Z1 (N+1)).map (fun v=>((if v=0 then 0 else cnt ks (v-1):Nat):Int))):=by
 have hl:xb.length=ks.length:=by simpa using congrArg W4 hk
 have h:=aC (body:=ix1 key xb) (fun k:Nat=>((k:Int),(Z1 (N+1)).map (fun v=>((if v=0 then 0 else cnt (ks.take k) (v-1):Nat):Int)))) xb.length (b:=(Z1 (N+1)).map (fun v=>((if v=0 then 0 else cnt ks (v-1):Nat):Int))) ?_ ?_
 . rw[dA];simpa[cnt]using h
 . intro k hk2;obtain⟨hk3,hk4⟩:=CF hk hk2;have hlt:=hN _ (X2 hk3);have hw:M0 .i64 (key xb[k]+1)=((ks[k]+1:Nat):Int):=by rw[hk4,w64 (by omega) (by omega)];omega
   have hc:=ru (ks.take k) ks[k];simp only[X4]at hc;unfold ix1;simp only[dlt hk2,cond_true,aj hk2,V0,hw,bC (show ks[k]+1<N+1 by omega),W2,dI,an hk2 (by omega:xb.length<=9223372036854775807)]
   congr 3
   refine bS (fun v hv=>?_);rw[mX hk3];simp only[eJ0,if_false,cq0];by_cases h1:v=ks[k]+1
   . subst h1;simp only[if_true,eJ0,if_false,cq0];rw[w64 (by omega) (by omega)];omega
   . rw[if_neg h1];by_cases h2:v=0
     . simp[h2]
     . simp[h2,show ¬ ks[k]=v-1 by omega]
 . unfold ix1;simp only[hl,ek0,decide_false,cond_false,Y9]
theorem Dj{N:Nat}(hb:ks.length<=1073741824)(hNb:N<=1073741824):loop (ix2 (N:Int)) (0,(Z1 (N+1)).map (fun v=>((if v=0 then 0 else cnt ks (v-1):Nat):Int)))=some ((Z1 (N+1)).map (fun v=>(ltc ks v:Int))):=by
 have h:=aC (body:=ix2 (N:Int)) (fun j:Nat=>((j:Int),(Z1 (N+1)).map (fun v=>((if v<=j then ltc ks v else cnt ks (v-1):Nat):Int)))) N (b:=(Z1 (N+1)).map (fun v=>(ltc ks v:Int))) ?_ ?_
 . have e:(Z1 (N+1)).map (fun v=>((if v<=0 then ltc ks v else cnt ks (v-1):Nat):Int))=(Z1 (N+1)).map (fun v=>((if v=0 then 0 else cnt ks (v-1):Nat):Int)):=by
     refine bS (fun v hv=>?_);by_cases h1:v=0
     . simp[h1,I5]
     . simp[h1]
   simp only[e]at h;exact h
 . intro j hj;have hs:=mW ks j;have hle:=km ks (j+1);unfold ix2;simp only[dlt hj,cond_true,an hj (by omega:N<=9223372036854775807),bC (show j+1<N+1 by omega),bC (show j<N+1 by omega),V0,W2,dI]
   congr 3
   refine bS (fun v hv=>?_);simp only[show ¬ (j+1<=j)by omega,if_false,X3,if_true,cq0];by_cases h1:v=j+1
   . subst h1;simp only[if_true,X3];rw[w64 (by omega) (by omega)];omega
   . rw[if_neg h1];by_cases h2:v<=j
     . simp[h2,show v<=j+1 by omega]
     . simp[h2,show ¬ v<=j+1 by omega]
 . unfold ix2;simp only[ek0,decide_false,cond_false]
   congr 2
   refine bS (fun v hv=>?_);simp[show v<=N by omega]
theorem CO{N:Nat}(hk:xb.map key=ks.map (fun k:Nat=>(k:Int)))(hN:∀x∈ks,x<N)(hb:ks.length<=1073741824)(hNb:N<=1073741824):loop (ix3 key xb) ((Z1 (N+1)).map (fun v=>(ltc ks v:Int)),0,Z2 xb.length 0)=some ((Z1 ks.length).map (fun p=>(av ks ks.length p:Int))):=by
 have hl:xb.length=ks.length:=by simpa using congrArg W4 hk
 have h:=aC (body:=ix3 key xb) (fun k:Nat=>((Z1 (N+1)).map (fun v=>((ltc ks v+cnt (ks.take k) v:Nat):Int)),(k:Int),(Z1 ks.length).map (fun p=>(av ks k p:Int)))) xb.length (b:=(Z1 ks.length).map (fun p=>(av ks ks.length p:Int))) ?_ ?_
 . rw[hl,dA];simpa[cnt,av]using h
 . intro k hk2;obtain⟨hk3,hk4⟩:=CF hk hk2;have hlt:=hN _ (X2 hk3);have hp:ltc ks ks[k]+cnt (ks.take k) ks[k]=pos ks k:=by unfold pos;simp[hk3]
   have hpl:=Gu hk3;unfold ix3;simp only[dlt hk2,cond_true,aj hk2,V0,hk4,bC (show ks[k]<N+1 by omega),hp,bC hpl,W2,dI,an hk2 (by omega:xb.length<=9223372036854775807)]
   congr 3
   . refine bS (fun v hv=>?_);rw[mX hk3];by_cases h1:v=ks[k]
     . subst h1;simp only[if_true];rw[w64 (by omega) (by omega)];omega
     . rw[if_neg h1,if_neg (dz0 h1)];simp
   . congr 1
     refine bS (fun p hp2=>?_);rw[Kj hk3];split <;> rfl
 . unfold ix3;simp only[hl,ek0,decide_false,cond_false]
end
abbrev Gr:=Int×(List (Int×Int))×((List Int)×(List Int))×((List Int)×(List Int))
abbrev ArG:=List (Nat×Nat)
def ai(E:ArG):List (Int×Int):=E.map (fun e=>((e.1:Int),(e.2:Int)))
def ixs(N:Nat)(ks:List Nat):List Int×List Int:=((Z1 (N+1)).map (fun v=>(ltc ks v:Int)),(Z1 ks.length).map (fun p=>(av ks ks.length p:Int)))
def mkG(N:Nat)(E:ArG):Gr:=((N:Int),ai E,ixs N (E.map (·.1)),ixs N (E.map (·.2)))
def inN(N:Nat)(E:ArG):Prop:=∀e∈E,e.1<N/\e.2<N
theorem cW(E:ArG):(ai E).length=E.length:=by simp[ai]
theorem gh{α:Type}(xa:List α)(hn:xa.length<=1073741824):dS xa (some ([]:List α)) ((app ([]:List α) xa).bind fun z=>some z)=some xa:=by
 rw[wh]
 . rw[aI (by simpa using hn)];simp
 . rintro rfl;rw[aI (by simp)];rfl
theorem FX{N:Nat}{E:ArG}(h:inN N E)(hn:N<=1048576)(he:E.length<=67108864):nZ (N:Int) (ai E)=some (ixs N (E.map (·.1))):=by
 have hk:(ai E).map (fun x:Int×Int=>x.1)=(E.map (·.1)).map (fun k:Nat=>(k:Int)):=by simp[ai]
 have hN:∀x∈E.map (·.1),x<N:=by intro x hx;obtain⟨e,he,rfl⟩:=Y7.1 hx;exact (h e he).1
 have hw:M0 .i64 ((N:Int)+1)=((N+1:Nat):Int):=by rw[w64 (by omega) (by omega)];omega
 have h1:=C9 (key:=fun x:Int×Int=>x.1) (N:=N) hk hN (by simp;omega) (by omega);have h2:=Dj (ks:=E.map (·.1)) (N:=N) (by simp;omega) (by omega);have h3:=CO (key:=fun x:Int×Int=>x.1) (N:=N) hk hN (by simp;omega) (by omega);have hl:(ai E).length<=1073741824:=by rw[cW];omega
 unfold nZ;have hm1:(mk ((N+1:Nat):Int) ((N+1:Nat):Int) (0:Int):Option (List Int))=some (Z2 (N+1) 0):=mkN (by omega);have hm2:(mk (((ai E).length:Nat):Int) (((ai E).length:Nat):Int) (0:Int):Option (List Int))=some (Z2 (ai E).length 0):=mkN hl;rw[hw];simp only[hm1,hm2,V0,jU];show (loop (ix1 (fun x:Int×Int=>x.1) (ai E)) (0,_)).bind _=_;rw[h1,V0];show (loop (ix2 (N:Int)) (0,_)).bind _=_;rw[h2,V0];have hc:∀l:List Int,l.length<=1073741824->bz l=some l:=fun l hl=>gh l hl
 rw[hc _ (by simp;omega),V0];show (loop (ix3 (fun x:Int×Int=>x.1) (ai E)) (_,0,_)).bind _=_;rw[h3];rfl
theorem FK{N:Nat}{E:ArG}(h:inN N E)(hn:N<=1048576)(he:E.length<=67108864):nY (N:Int) (ai E)=some (ixs N (E.map (·.2))):=by
 have hk:(ai E).map (fun x:Int×Int=>x.2)=(E.map (·.2)).map (fun k:Nat=>(k:Int)):=by simp[ai]
 have hN:∀x∈E.map (·.2),x<N:=by intro x hx;obtain⟨e,he,rfl⟩:=Y7.1 hx;exact (h e he).2
 have hw:M0 .i64 ((N:Int)+1)=((N+1:Nat):Int):=by rw[w64 (by omega) (by omega)];omega
 have h1:=C9 (key:=fun x:Int×Int=>x.2) (N:=N) hk hN (by simp;omega) (by omega);have h2:=Dj (ks:=E.map (·.2)) (N:=N) (by simp;omega) (by omega);have h3:=CO (key:=fun x:Int×Int=>x.2) (N:=N) hk hN (by simp;omega) (by omega);have hl:(ai E).length<=1073741824:=by rw[cW];omega
 unfold nY;have hm1:(mk ((N+1:Nat):Int) ((N+1:Nat):Int) (0:Int):Option (List Int))=some (Z2 (N+1) 0):=mkN (by omega);have hm2:(mk (((ai E).length:Nat):Int) (((ai E).length:Nat):Int) (0:Int):Option (List Int))=some (Z2 (ai E).length 0):=mkN hl;rw[hw];simp only[hm1,hm2,V0,jU];show (loop (ix1 (fun x:Int×Int=>x.2) (ai E)) (0,_)).bind _=_;rw[h1,V0];show (loop (ix2 (N:Int)) (0,_)).bind _=_;rw[h2,V0];have hc:∀l:List Int,l.length<=1073741824->bz l=some l:=fun l hl=>gh l hl
 rw[hc _ (by simp;omega),V0];show (loop (ix3 (fun x:Int×Int=>x.2) (ai E)) (_,0,_)).bind _=_;rw[h3];rfl
def cb(n:Int)(a:Int×Int):Bool:=(((decide (a.1<0))||(decide (n<=a.1)))||(decide (a.2<0)))||(decide (n<=a.2))
theorem BW(n:Int)(xb:List (Int×Int))(hb:xb.length<=1073741824):loop (pw n xb) 0=some (if xb.any (cb n)then .inr (none,7)else .inl ()):=by
 refine ga xb (cb n) _ _ (fun k h=>?_) ?_
 . unfold pw;simp only[dlt h,cond_true,aj h,V0,an h (by omega:xb.length<=9223372036854775807)];show cond (cb n xb[k]) _ _=_;cases cb n xb[k] <;> rfl
 . simp[pw]
theorem HW{n:Int}{xb:List (Int×Int)}(h0:0<=n)(h:xb.any (cb n)=false):∃E:ArG,xb=ai E/\inN n.toNat E:=by
 refine⟨xb.map (fun a=>(a.1.toNat,a.2.toNat)),?_,?_⟩
 . unfold ai;rw[dL0]
   conv=>lhs;rw[<- List.map_id xb]
   refine cm0 (fun a ha=>?_);have:=ao0.1 h a ha;simp[cb]at this;refine Prod.ext ?_ ?_ <;> simp <;> omega
 . intro e he;obtain⟨a,ha,rfl⟩:=Y7.1 he;have:=ao0.1 h a ha;simp[cb]at this;dsimp only;omega
theorem ni{N:Nat}{E:ArG}(h:inN N E)(hn:N<=1048576)(he:E.length<=67108864):aV (N:Int) (ai E)=some (some (mkG N E),0):=by
 unfold aV;have h1:decide ((N:Int)<0)=false:=decide_eq_false (by omega);have h2:(decide ((1048576:Int)<(N:Int))||decide ((67108864:Int)<(((ai E).length:Nat):Int)))=false:=by rw[cW];simp;omega
 have h3:(ai E).any (cb (N:Int))=false:=by
   rw[ao0];intro a ha;obtain⟨e,he,rfl⟩:=Y7.1 ha;have:=h e he;simp[cb];omega
 rw[h1,cond_false,h2,cond_false,BW _ _ (by rw[cW];omega),h3];simp only[W7,if_false,V0];have hc:tD (ai E)=some (ai E):=gh _ (by rw[cW];omega);rw[hc,V0,FX h hn he,V0,FK h hn he];rfl
theorem xk(n:Int)(xb:List (Int×Int))(he:xb.length<=67108864):(n<0/\aV n xb=some (none,2))\/(1048576<n/\aV n xb=some (none,5))\/(0<=n/\n<=1048576/\xb.any (cb n)=true/\aV n xb=some (none,7)) \/
   ∃(N:Nat) (E:ArG),n=(N:Int)/\N<=1048576/\xb=ai E/\inN N E/\xb.any (cb n)=false/\aV n xb=some (some (mkG N E),0):=by
 by_cases h0:n<0
 . refine .inl ⟨h0,?_⟩;unfold aV;rw[show decide (n<0)=true by simpa using h0];rfl
 . have h1:decide (n<0)=false:=by simp;omega
   by_cases h2:1048576<n
   . refine .inr (.inl ⟨h2,?_⟩);unfold aV;rw[h1,show decide ((1048576:Int)<n)=true by simpa using h2];rfl
   . cases h3:xb.any (cb n)with
     | true =>
       refine .inr (.inr (.inl ⟨by omega,by omega,rfl,?_⟩));unfold aV;have h4:(decide ((1048576:Int)<n)||decide ((67108864:Int)<((xb.length:Nat):Int)))=false:=by simp;omega
       rw[h1,cond_false,h4,cond_false,BW _ _ (by omega),h3];rfl
     | false =>
       obtain⟨E,rfl,hE⟩:=HW (by omega) h3;refine .inr (.inr (.inr ⟨n.toNat,E,by omega,by omega,rfl,hE,rfl,?_⟩));have:=ni hE (by omega) (by rw[cW]at he;omega);rw[show ((n.toNat:Nat):Int)=n by omega]at this;exact this
theorem eY(ks:List Nat)(v:Nat):(occ ks v).length<=ks.length:=by rw[wz];exact ru ks v
theorem uG{N:Nat}{ks:List Nat}(hn:N<=1048576)(he:ks.length<=67108864){v:Nat}(hv:v<N):ji (ixs N ks) (v:Int)=some ((occ ks v).map (fun i:Nat=>(i:Int))):=by
 unfold ji ixs;have h1:=km ks (v+1);have h2:=vK ks (v:=v) (w:=v+1) (by omega);simp only[bC (show v<N+1 by omega),V0,an hv (by omega:N<=9223372036854775807),bC (show v+1<N+1 by omega)];rw[dH (by omega) (by omega) (by simp;omega)];simp only[W2,V0,LF]
theorem mT(N:Nat)(E:ArG):fJ (some (mkG N E))=some (N:Int):=rfl
theorem zL:fJ none=some 0:=rfl
theorem BI(N:Nat)(E:ArG):oD (some (mkG N E))=some (E.length:Int):=by
 show some ((((ai E).length:Nat):Int))=_;rw[cW]
theorem Ht(N:Nat)(E:ArG)(v:Int):hY (some (mkG N E)) v=some (decide (0<=v)&&decide (v<(N:Int))):=by
 unfold hY;rw[mT];cases decide (0<=v) <;> simp
theorem vh{N:Nat}{E:ArG}{v:Nat}(h:v<N):hY (some (mkG N E)) (v:Int)=some true:=by
 rw[Ht];simp[h]
theorem wW{N:Nat}{E:ArG}(hn:N<=1048576)(he:E.length<=67108864){v:Nat}(h:v<N):jd (some (mkG N E)) (v:Int)=some ((occ (E.map (·.1)) v).map (fun i:Nat=>(i:Int))):=by
 unfold jd;rw[vh h];have:=uG (ks:=E.map (·.1)) hn (by simp;omega) h;have hb:=eY (E.map (·.1)) v;simp only[X7,cond_false,V0,mkG];rw[this,V0];have hc:∀l:List Int,l.length<=1073741824->bz l=some l:=fun l hl=>gh l hl
 rw[hc _ (by simp at hb ⊢;omega)];rfl
theorem DI{N:Nat}{E:ArG}(hn:N<=1048576)(he:E.length<=67108864){v:Nat}(h:v<N):lN (some (mkG N E)) (v:Int)=some ((occ (E.map (·.2)) v).map (fun i:Nat=>(i:Int))):=by
 unfold lN;rw[vh h];have:=uG (ks:=E.map (·.2)) hn (by simp;omega) h;have hb:=eY (E.map (·.2)) v;simp only[X7,cond_false,V0,mkG];rw[this,V0];have hc:∀l:List Int,l.length<=1073741824->bz l=some l:=fun l hl=>gh l hl
 rw[hc _ (by simp at hb ⊢;omega)];rfl
def nxt(E:ArG)(v:Nat):List Nat:=(occ (E.map (·.1)) v).map (fun i=>(E.getD i (0,0)).2)
theorem v8{E:ArG}{v i:Nat}(h:i∈occ (E.map (·.1)) v):∃h:i<E.length,E[i].1=v:=by
 obtain⟨h1,h2⟩:=j3.1 h;exact⟨by simpa using h1,by simpa using h2⟩
theorem bL{E:ArG}{v u:Nat}:u∈nxt E v↔(v,u)∈E:=by
 unfold nxt;constructor
 . intro h;obtain⟨i,hi,rfl⟩:=Y7.1 h;obtain⟨h1,h2⟩:=v8 hi;have:E.getD i (0,0)=E[i]:=by simp[h1]
   rw[this];have e:(v,E[i].2)=E[i]:=by rw[<- h2]
   rw[e];exact X2 h1
 . intro h;obtain⟨i,hi,he⟩:=Z8 h;refine Y7.2 ⟨i,j3.2 ⟨by simpa using hi,by simp[he]⟩,by simp[hi,he]⟩
theorem B3{N:Nat}{E:ArG}(hn:N<=1048576)(he:E.length<=67108864){v:Nat}(h:v<N):fM (some (mkG N E)) (v:Int)=some ((nxt E v).map (fun i:Nat=>(i:Int))):=by
 unfold fM;rw[wW hn he h,V0];have hb:=eY (E.map (·.1)) v;simp at hb;generalize hO:occ (E.map (·.1)) v=O at hb ⊢;have hO2:∀i∈O,i<E.length:=fun i hi=>by rw[<- hO]at hi;exact (v8 hi).1
 have hx:nxt E v=O.map (fun i=>(E.getD i (0,0)).2):=by unfold nxt;rw[hO]
 rw[hx];have hl:=aC (body:=oq (some (mkG N E)) (O.map (fun i:Nat=>(i:Int)))) (fun k:Nat=>((O.take k).map (fun i=>(((E.getD i (0,0)).2:Nat):Int))++(O.drop k).map (fun i:Nat=>(i:Int)),(k:Int))) O.length (b:=(O.map (fun i=>(((E.getD i (0,0)).2:Nat):Int)))) ?_ ?_
 . simp only[cg0,aS0,aH0,ab0]at hl;rw[show ((0:Int))=((0:Nat):Int)from rfl,hl,dL0];rfl
 . intro k hk;have hk':k<(O.map (fun i:Nat=>(i:Int))).length:=by simpa using hk
   have hi:=hO2 _ (X2 hk);have hlen:((O.take k).map (fun i=>(((E.getD i (0,0)).2:Nat):Int))).length=k:=by simp;omega
   have g1:aa ((O.take k).map (fun i=>(((E.getD i (0,0)).2:Nat):Int))++(O.drop k).map (fun i:Nat=>(i:Int))) (k:Int)=some ((O[k]:Nat):Int):=by
     rw[aj (by simp;omega),cZ0 (by omega)];simp only[ck0,db0,hlen,bs0,aD0]
   have g2:aa (ai E) ((O[k]:Nat):Int)=some (((E[O[k]].1:Nat):Int),((E[O[k]].2:Nat):Int)):=by
     rw[aj (by rw[cW];exact hi)];simp[ai]
   unfold oq;simp only[dlt hk',cond_true,g1,V0,mkG,g2,W2,an hk' (by simp;omega)]
   congr 3
   rw[aH hk,X6,aY0 hk,X5,bu0 _ _ (by omega),hlen,bs0,cU0,X1];simp[hi]
 . simp[oq]
def tn(E:ArG):ArG:=E.map (fun e=>(e.2,e.1))
theorem Mf(E:ArG):(tn E).length=E.length:=by simp[tn]
theorem CB{E:ArG}{a b:Nat}:(a,b)∈tn E↔(b,a)∈E:=by
 unfold tn;constructor
 . intro h;obtain⟨e,he,h2⟩:=Y7.1 h;cases h2;exact he
 . intro h;exact Y7.2 ⟨_,h,rfl⟩
inductive Rch(E:ArG):Nat->Nat->Prop
 |refl (v:Nat):Rch E v v
 |step {v w u:Nat} (h:Rch E v w) (e:(w,u)∈E):Rch E v u
theorem Rch.trans{E:ArG}{a b c:Nat}(h:Rch E a b)(k:Rch E b c):Rch E a c:=by
 induction k with
 |refl=>exact h
 |step _ e ih=>exact ih.step e
theorem Rch.mono{E F:ArG}(hf:∀e∈E,e∈F){a b:Nat}(h:Rch E a b):Rch F a b:=by
 induction h with
 |refl=>exact .refl _
 |step _ e ih=>exact ih.step (hf _ e)
theorem Rch.lt{N:Nat}{E:ArG}(hE:inN N E){a b:Nat}(h:Rch E a b)(ha:a<N):b<N:=by
 cases h with
 |refl=>exact ha
 |step _ e=>exact (hE _ e).2
theorem Rch.closed{E:ArG}{p:Nat->Prop}{a:Nat}(ha:p a)(hc:∀w u,(w,u)∈E->p w->p u){b:Nat}(h:Rch E a b):p b:=by
 induction h with
 |refl=>exact ha
 |step _ e ih=>exact hc _ _ e ih
theorem vI{A:List Nat}:∀{L:List Nat},L.Nodup->(∀x∈L,x∈A)->L.length<=A.length:=by
 intro L
 induction L generalizing A with
 |nil=>intro _ _;simp
 | cons x L ih =>
   intro hd hs;have hx:=hs x (by simp);rw[aw0]at hd;have:=ih (A:=A.erase x) hd.2 (fun y hy=>by
     have hne:y≠x:=fun e=>hd.1 (e ▸ hy)
     exact (eD0 hne).2 (hs y (by simp[hy])))
   rw[ed0 hx]at this;have:0<A.length:=cx0 hx;simp;omega
theorem cT{L:List Nat}{N:Nat}(hd:L.Nodup)(h:∀x∈L,x<N):L.length<=N:=by
 have:=vI (A:=Z1 N) hd (fun x hx=>V7.2 (h x hx));simpa using this
def cY(L:List Nat)(u:Nat):List Nat:=if u∈L then L else L++[u]
theorem HQ{L:List Nat}{u x:Nat}:x∈cY L u↔x∈L\/x=u:=by
 unfold cY;split
 . rename_i h;constructor
   . exact .inl
   . rintro (q|rfl) <;> assumption
 . simp
theorem F4{L:List Nat}{u:Nat}(h:L.Nodup):(cY L u).Nodup:=by
 unfold cY;split
 . exact h
 . rename_i hu;rw[aR0];refine⟨h,by simp,?_⟩;intro a ha b hb;simp at hb;subst hb;intro e;subst e;exact hu ha
def bE(L us:List Nat):List Nat:=us.foldl cY L
theorem FP(L us:List Nat)(u:Nat):bE L (us++[u])=cY (bE L us) u:=by simp[bE,dd0]
theorem mM{us:List Nat}:∀{L:List Nat} {x:Nat},x∈bE L us↔x∈L\/x∈us:=by
 induction us with
 |nil=>intro L x;simp[bE]
 |cons u us ih=>intro L x;unfold bE at ih ⊢;rw[bF0,ih,HQ,Y4,or_assoc]
theorem yX{us:List Nat}:∀{L:List Nat},L.Nodup->(bE L us).Nodup:=by
 induction us with
 |nil=>intro L h;exact h
 |cons u us ih=>intro L h;unfold bE at ih ⊢;rw[bF0];exact ih (F4 h)
theorem HS{L:List Nat}{u j:Nat}(h:j<L.length):(cY L u)[j]?=L[j]?:=by
 unfold cY;split
 . rfl
 . rw[V6 h]
theorem H4(L:List Nat)(u:Nat):L.length<=(cY L u).length:=by unfold cY;split <;> simp
theorem zF{us:List Nat}:∀{L:List Nat} {j:Nat},j<L.length->(bE L us)[j]?=L[j]?/\L.length<=(bE L us).length:=by
 induction us with
 |nil=>intro L j h;exact⟨rfl,X3 _⟩
 | cons u us ih =>
   intro L j h;unfold bE at ih ⊢;rw[bF0];have h1:=H4 L u;obtain⟨a,b⟩:=ih (L:=cY L u) (j:=j) (by omega);exact⟨a.trans (HS h),by omega⟩
def dT(N:Nat)(L:List Nat):List Bool:=(Z1 N).map (fun w=>decide (w∈L))
def li(L:List Nat):List Int:=L.map (fun i:Nat=>(i:Int))
theorem au(L:List Nat):(li L).length=L.length:=by simp[li]
theorem bD{L:List Nat}{k:Nat}(h:k<L.length):aa (li L) (k:Int)=some ((L[k]:Nat):Int):=by rw[aj (by rw[au];exact h)];simp[li]
theorem B4{E:ArG}{k:Nat}(h:k<E.length):aa (ai E) (k:Int)=some (((E[k].1:Nat):Int),((E[k].2:Nat):Int)):=by rw[aj (by rw[cW];exact h)];simp[ai]
theorem Lc{N:Nat}{E:ArG}(hE:inN N E)(hn:N<=1048576)(O:List Nat)(hO:∀i∈O,i<E.length)(hOl:O.length<=67108864)(L:List Nat)(hL:L.Nodup)(hL2:∀x∈L,x<N) :
   loop (lb (mkG N E) (li O)) (dT N L,li L,0)=some (dT N (bE L (O.map fun i=>(E.getD i (0,0)).2)),li (bE L (O.map fun i=>(E.getD i (0,0)).2))):=by
 have h:=aC (body:=lb (mkG N E) (li O)) (fun k:Nat=>(dT N (bE L ((O.take k).map fun i=>(E.getD i (0,0)).2)),li (bE L ((O.take k).map fun i=>(E.getD i (0,0)).2)),(k:Int))) O.length (b:=(dT N (bE L (O.map fun i=>(E.getD i (0,0)).2)),li (bE L (O.map fun i=>(E.getD i (0,0)).2)))) ?_ ?_
 . simpa[bE]using h
 . intro k hk;have hk':k<(li O).length:=by rw[au];exact hk
   have hi:=hO _ (X2 hk);have hu:=(hE _ (X2 hi)).2;rw[aH hk,X6,X5,aS0,FP,show E.getD O[k] (0,0)=E[O[k]]by simp[hi]];have hnd:(bE L ((O.take k).map fun i=>(E.getD i (0,0)).2)).Nodup:=yX hL;have hlt:∀x∈bE L ((O.take k).map fun i=>(E.getD i (0,0)).2),x<N:=fun x hx=>by
     rcases mM.1 hx with q|q
     . exact hL2 x q
     . obtain⟨i,hi,rfl⟩:=Y7.1 q;have:=hO i (bg0 hi);simp only[show E.getD i (0,0)=E[i]by simp[this]];exact (hE _ (X2 this)).2
   generalize bE L ((O.take k).map fun i=>(E.getD i (0,0)).2)=M at hnd hlt;have hMl:=cT hnd hlt;unfold lb;simp only[dlt hk',cond_true,bD hk,V0,mkG,B4 hi,an hk' (by rw[au];omega)];generalize hu':E[O[k]].2=u at hu;have g:aa (dT N M) (u:Int)=some (decide (u∈M)):=bC hu;simp only[g,V0,W2];by_cases hm:u∈M
   . simp[hm,cY]
   . have ha:app (li M) [(u:Int)]=some (li (M++[u])):=by rw[aI (by rw[au];simp;omega)];simp[li]
     simp only[hm,decide_false,aE0,cond_true,ha,V0,cY,if_false]
     congr 3
     unfold dT;rw[dI];refine bS (fun w hw=>?_);by_cases hw2:w=u <;> simp[hw2]
 . unfold lb;simp[au]
theorem Ma{N:Nat}{E:ArG}(hE:inN N E)(hn:N<=1048576)(he:E.length<=67108864){v:Nat}(hv:v<N) :
   ∃L:List Nat,loop (lf (mkG N E)) (dT N [v],li [v],0)=some (li L)/\L.Nodup/\(∀w,w∈L↔Rch E v w):=by
 have key:∃r,loop (lf (mkG N E)) (dT N [v],li [v],0)=some r/\∃L:List Nat,r=li L/\L.Nodup/\(∀w,w∈L↔Rch E v w):=by
   refine aW (fun s=>∃(L:List Nat) (k:Nat),s=(dT N L,li L,(k:Int))/\k<=L.length/\L.Nodup/\v∈L/\(∀w∈L,Rch E v w)/\∀j,j<k->∀(w u:Nat),L[j]?=some w->(w,u)∈E->u∈L) (fun s=>N-s.2.2.toNat) ?_ ⟨[v],0,rfl,by simp,by simp,by simp,by simp;exact .refl v,by omega⟩;rintro _ ⟨L,k,rfl,hk,hnd,hvL,hR,hcl⟩;have hlt:∀x∈L,x<N:=fun x hx=>(hR x hx).lt hE hv
   have hLl:=cT hnd hlt;by_cases hkl:k<L.length
   . left
     have hk':k<(li L).length:=by rw[au];exact hkl
     have hw:=hlt _ (X2 hkl);have hb:=eY (E.map (·.1)) L[k];simp at hb;unfold lf;simp only[dlt hk',cond_true,bD hkl,V0];rw[show (mkG N E).2.2.1=ixs N (E.map (·.1))from rfl,show (((ixs N (E.map (·.1))).1,(ixs N (E.map (·.1))).2):List Int×List Int)=ixs N (E.map (·.1))from rfl,uG hn (by simp;omega) hw,V0];have h1:=Lc hE hn (occ (E.map (·.1)) L[k]) (fun i hi=>(v8 hi).1) (by omega) L hnd hlt;unfold li at h1;unfold li;rw[h1,V0];refine⟨_,rfl,⟨bE L (nxt E L[k]),k+1,?_,?_,yX hnd,mM.2 (.inl hvL),?_,?_⟩,?_⟩
     . rw[an hkl (by omega)];rfl
     . have:=(zF (us:=nxt E L[k]) hkl).2;omega
     . intro w hw
       rcases mM.1 hw with q|q
       . exact hR w q
       . exact (hR _ (X2 hkl)).step (bL.1 q)
     . intro j hj w u hjw hwu;have hjL:j<L.length:=by omega
       rw[(zF hjL).1]at hjw;by_cases hjk:j<k
       . exact mM.2 (.inl (hcl j hjk w u hjw hwu))
       . have:j=k:=by omega
         subst this;rw[Z0 hjL]at hjw;obtain rfl:=ap0 hjw;exact mM.2 (.inr (bL.2 hwu))
     . dsimp only;rw[an hkl (by omega)];simp;omega
   . right
     have hke:k=L.length:=by omega
     refine⟨li L,?_,L,rfl,hnd,fun w=>⟨hR w,fun h=>?_⟩⟩
     . unfold lf;simp[hke,au]
     . refine Rch.closed (p:=fun w=>w∈L) hvL (fun w u e hw=>?_) h;obtain⟨j,hj,rfl⟩:=Z8 hw;exact hcl j (by omega) _ u (Z0 hj) e
 obtain⟨r,h1,L,rfl,h2⟩:=key;exact⟨L,h1,h2⟩
open Classical in
def rl(N:Nat)(E:ArG)(v:Nat):List Nat:=(Z1 N).filter (fun w=>decide (Rch E v w))
theorem er{N:Nat}{E:ArG}(hE:inN N E){v w:Nat}(hv:v<N):w∈rl N E v↔Rch E v w:=by
 unfold rl;simp only[ac0,V7,decide_eq_true_eq];exact⟨fun h=>h.2,fun h=>⟨h.lt hE hv,h⟩⟩
theorem jC(N:Nat)(p:Nat->Bool):(li ((Z1 N).filter p)).Pairwise (· < ·):=by
 unfold li;rw[cc0];refine dI0 (R:=fun a b:Nat=>a<b) (fun h=>by omega) ?_;exact List.pairwise_lt_range.filter p
theorem Ce{L:List Nat}(hd:L.Nodup){M:List Nat}(hM:(li M).Pairwise (· < ·))(h:∀w,w∈L↔w∈M)(hl:L.length<=1073741824):srt (li L)=some (li M):=by
 unfold srt;rw[if_pos (by rw[au];exact hl)]
 congr 1
 refine ir ?_ hM (fun a=>?_)
 . have hs:=bR0 (le:=fun x y:Int=>decide (x<=y)) (fun a b c h1 h2=>by simp at *;omega) (fun a b=>by simp;omega) (li L);have hnd:((li L).mergeSort fun x y=>decide (x<=y)).Nodup:=by
     refine (List.mergeSort_perm _ _).nodup_iff.2 ?_;unfold li;exact List.Pairwise.map _ (fun a b h1 h2=>h1 (by omega)) hd
   exact (List.Pairwise.and hs hnd).imp (fun ⟨h1,h2⟩=>by simp at h1;omega)
 . rw[ct0];unfold li;simp only[Y7];exact⟨fun ⟨x,hx,e⟩=>⟨x,(h x).1 hx,e⟩,fun ⟨x,hx,e⟩=>⟨x,(h x).2 hx,e⟩⟩
theorem II{N:Nat}{E:ArG}(hE:inN N E)(hn:N<=1048576)(he:E.length<=67108864){v:Nat}(hv:v<N):oA (some (mkG N E)) (v:Int)=some (li (rl N E v)):=by
 obtain⟨L,h1,h2,h3⟩:=Ma hE hn he hv;unfold oA;rw[vh hv];have hm:(Z2 N false).set v true=dT N [v]:=by
   rw[dA,dI];unfold dT;refine bS (fun w hw=>?_);by_cases h:w=v <;> simp[h]
 have hg:aa (Z2 N false) (v:Int)=some false:=by rw[dA];exact bC hv
 simp only[V0,X7,cond_false];rw[show (mkG N E).1=(N:Int)from rfl,mkN (by omega)];simp only[V0,hg,W2,hm];rw[show ([(v:Int)]:List Int)=li [v]from rfl,h1,V0,Ce h2 (jC N _) (fun w=>(h3 w).trans (er hE hv).symm) (by
   have:=cT h2 (fun x hx=>((h3 x).1 hx).lt hE hv);omega)]
 rfl
end
theorem Al(xa xb:List Int)(hn:xa.length<=1073741824):my xa xb=some (decide (xa=xb)):=by
 unfold my;by_cases hl:xa.length=xb.length
 . rw[nN hl,cond_false,uS (body:=o9 xa xb) xa xb (.inr false) (.inl ()) hl ?_ ?_]
   . by_cases h:xa=xb <;> simp[h]
   . intro k h;unfold o9;have h2:k<xb.length:=by omega
     by_cases q:xa[k]=xb[k] <;> simp[aj h,aj h2,h,q,an h (by omega)]
   . simp[o9]
 . rw[ky hl,cond_true];have:¬ xa=xb:=fun h=>hl (by rw[h])
   simp[this]
theorem IE(n:Int)(xb:List (Int×Int))(he:xb.length<=67108864):pz n xb=some (if n<0 then 2 else if 1048576<n then 5 else if xb.any (cb n)then 7 else 0):=by
 unfold pz;by_cases h0:n<0
 . simp[h0]
 . by_cases h1:1048576<n
   . simp[h0,h1]
   . have h2:(decide ((1048576:Int)<n)||decide ((67108864:Int)<((xb.length:Nat):Int)))=false:=by simp;omega
     rw[show decide (n<0)=false from decide_eq_false h0,cond_false,h2,cond_false,ga xb (cb n) (.inr 7) (.inl ()) ?_ ?_]
     . simp only[h0,h1,if_false];cases xb.any (cb n) <;> rfl
     . intro k h;unfold ua;rw[dlt h,cond_true,aj h,an h (by omega:xb.length<=9223372036854775807)];simp only[V0];unfold cb;by_cases a1:xb[k].1<0 <;> by_cases a2:n<=xb[k].1 <;> by_cases a3:xb[k].2<0 <;> by_cases a4:n<=xb[k].2 <;> simp[a1,a2,a3,a4]
     . simp[ua]
theorem Mk{N:Nat}{E:ArG}{i:Int}:lD (some (mkG N E)) i=some (if h:0<=i/\i<(E.length:Int)then (((E[i.toNat]'(by omega)).1:Int),((E[i.toNat]'(by omega)).2:Int),true)else (0,0,false)):=by
 unfold lD;rw[BI];by_cases h0:i<0
 . simp[h0,show ¬ (0<=i/\i<(E.length:Int))by omega]
 . by_cases h1:(E.length:Int)<=i
   . simp[h0,h1,show ¬ (0<=i/\i<(E.length:Int))by omega]
   . have h2:0<=i/\i<(E.length:Int):=by omega
     obtain⟨k,rfl⟩:=W6 h2.1;have hk:k<E.length:=by omega
     simp only[h0,h1,decide_false,cond_false,V0,mkG,B4 hk];simp[hk]
theorem Av(N:Nat)(E:ArG)(v:Nat):(Z1 N).filter (fun w=>decide (w∈rl N E v))=rl N E v:=by
 conv=>rhs;unfold rl
 refine bm0 (fun w hw=>?_);unfold rl;simp[V7.1 hw]
set_option linter.unnecessarySimpa false
set_option linter.unusedSimpArgs false
inductive Thr(E:ArG):List Nat->List Nat->List Nat->List Nat->List Nat->Prop
 |nil {o m:List Nat}:Thr E o m [] o m
 |skip {o m r o' m':List Nat} {u:Nat}:u∈m->Thr E o m r o' m'->Thr E o m (u::r) o' m'
 |step {o m r o1 m1 o' m':List Nat} {u:Nat}:u∉m->Thr E o (m++[u]) (nxt E u) o1 m1->Thr E (o1++[u]) m1 r o' m'->Thr E o m (u::r) o' m'
theorem Thr.grow{E:ArG}{o m r o' m':List Nat}(h:Thr E o m r o' m'):∃D O,m'=m++D/\o'=o++O/\O.Perm D/\(∀x∈r,x∈m'):=by
 induction h with
 |nil=>exact⟨[],[],by simp,by simp,.refl _,by simp⟩
 | skip hu h ih =>
   obtain⟨D,O,rfl,rfl,hp,hr⟩:=ih;exact⟨D,O,rfl,rfl,hp,fun x hx=>by
     rcases Y4.1 hx with rfl|hx
     . exact af0 _ hu
     . exact hr x hx⟩
 | step hu h1 h2 ih1 ih2 =>
   obtain⟨D1,O1,rfl,rfl,hp1,hr1⟩:=ih1;obtain⟨D2,O2,rfl,rfl,hp2,hr2⟩:=ih2;rename_i o m r u;refine⟨u::D1++D2,O1++[u]++O2,by simp,by simp,?_,fun x hx=>?_⟩
   . refine List.Perm.append ?_ hp2;refine (bv0 (l₁:=O1) (l₂:=[u])).trans ?_;exact hp1.cons u
   . rcases Y4.1 hx with rfl|hx
     . simp
     . exact hr2 x hx
theorem Thr.inv{E:ArG}{N:Nat}(hE:inN N E){o m r o' m':List Nat}(h:Thr E o m r o' m'):m.Nodup->(∀x∈m,x<N)->(∀x∈r,x<N)->m'.Nodup/\∀x∈m',x<N:=by
 induction h with
 |nil=>exact fun a b _=>⟨a,b⟩
 |skip hu h ih=>exact fun a b c=>ih a b (fun x hx=>c x (W5 _ hx))
 | step hu h1 h2 ih1 ih2 =>
   intro a b c;rename_i o m r o1 m1 o' m' u;have hun:u<N:=c u (aL0 ..);have hd:(m++[u]).Nodup:=by
     rw[aR0];refine⟨a,by simp,?_⟩;intro x hx y hy;simp at hy;subst hy;intro e;subst e;exact hu hx
   have hl:∀x∈m++[u],x<N:=fun x hx=>by
     rcases V3.1 hx with q|q
     . exact b x q
     . simp at q;omega
   obtain⟨a1,b1⟩:=ih1 hd hl (fun x hx=>(hE _ (bL.1 hx)).2);exact ih2 a1 b1 (fun x hx=>c x (W5 _ hx))
theorem Thr.ex{E:ArG}{N:Nat}(hE:inN N E):∀(k:Nat) (r o m:List Nat),N-m.length<=k->m.Nodup->(∀x∈m,x<N)->(∀x∈r,x<N)->∃o' m',Thr E o m r o' m':=by
 intro k
 induction k with
 | zero =>
   intro r
   induction r with
   |nil=>intro o m _ _ _ _;exact⟨o,m,.nil⟩
   | cons u r ih =>
     intro o m hk hd hl hr;by_cases hu:u∈m
     . obtain⟨o',m',h⟩:=ih o m hk hd hl (fun x hx=>hr x (W5 _ hx));exact⟨o',m',.skip hu h⟩
     . exfalso;have hd1:(m++[u]).Nodup:=by
         rw[aR0];refine⟨hd,by simp,?_⟩;intro x hx y hy;simp at hy;subst hy;intro e;subst e;exact hu hx
       have:=cT (N:=N) hd1 (fun x hx=>by
         rcases V3.1 hx with q|q
         . exact hl x q
         . simp at q;subst q;exact hr _ (aL0 ..))
       simp at this;omega
 | succ k ihk =>
   intro r
   induction r with
   |nil=>intro o m _ _ _ _;exact⟨o,m,.nil⟩
   | cons u r ih =>
     intro o m hk hd hl hr;by_cases hu:u∈m
     . obtain⟨o',m',h⟩:=ih o m hk hd hl (fun x hx=>hr x (W5 _ hx));exact⟨o',m',.skip hu h⟩
     . have hd1:(m++[u]).Nodup:=by
         rw[aR0];refine⟨hd,by simp,?_⟩;intro x hx y hy;simp at hy;subst hy;intro e;subst e;exact hu hx
       have hl1:∀x∈m++[u],x<N:=fun x hx=>by
         rcases V3.1 hx with q|q
         . exact hl x q
         . simp at q;subst q;exact hr _ (aL0 ..)
       have hn1:∀x∈nxt E u,x<N:=fun x hx=>(hE _ (bL.1 hx)).2
       obtain⟨o1,m1,h1⟩:=ihk (nxt E u) o (m++[u]) (by simp;omega) hd1 hl1 hn1;obtain⟨D,O,rfl,rfl,_,_⟩:=h1.grow;obtain⟨a1,b1⟩:=h1.inv hE hd1 hl1 hn1;obtain⟨o',m',h2⟩:=ihk r ((o++O)++[u]) (m++[u]++D) (by simp;omega) a1 b1 (fun x hx=>hr x (W5 _ hx));exact⟨o',m',.step hu h1 h2⟩
def OkO(E:ArG)(o:List Nat):Prop:=∀A x B,o=A++x::B->∀y,(x,y)∈E->y∈A\/Rch E y x
theorem OkO.snoc{E:ArG}{o:List Nat}{u:Nat}(h:OkO E o)(hu:∀y,(u,y)∈E->y∈o\/Rch E y u):OkO E (o++[u]):=by
 intro A x B e y hy
 rcases dr0 B with rfl|⟨B',z,rfl⟩
 . obtain⟨e1,e2⟩:=fq0 e rfl;simp at e2;subst e1;subst e2;exact hu y hy
 . have e':o++[u]=(A++x::B')++[z]:=by rw[e];simp
   obtain⟨e1,e2⟩:=fq0 e' rfl;exact h A x B' e1 y hy
theorem Thr.ok{E:ArG}{o m r o' m':List Nat}(h:Thr E o m r o' m'):(∀g∈m,g∉o->∀x∈r,Rch E g x)->OkO E o->OkO E o'/\∀g∈m',g∉o'->g∈m/\g∉o:=by
 induction h with
 |nil=>exact fun _ h=>⟨h,fun g a b=>⟨a,b⟩⟩
 |skip hu h ih=>exact fun a b=>ih (fun g hg ho x hx=>a g hg ho x (W5 _ hx)) b
 | step hu h1 h2 ih1 ih2 =>
   intro a b;rename_i o m r o1 m1 o' m' u;obtain⟨k1,g1⟩:=ih1 (fun g hg ho x hx=>by
     have hux:(u,x)∈E:=bL.1 hx
     rcases V3.1 hg with q|q
     . exact (a g q ho u (aL0 ..)).step hux
     . simp at q;subst q;exact (Rch.refl _).step hux) b
   obtain⟨_,_,_,_,_,hall⟩:=h1.grow;have k2:OkO E (o1++[u]):=k1.snoc (fun y hy=>by
     by_cases q:y∈o1
     . exact .inl q
     . refine .inr ?_;obtain⟨c1,c2⟩:=g1 y (hall y (bL.2 hy)) q
       rcases V3.1 c1 with q2|q2
       . exact a y q2 c2 u (aL0 ..)
       . simp at q2;subst q2;exact .refl _)
   have g2:∀g∈m1,g∉o1++[u]->g∈m/\g∉o:=fun g hg ho=>by
     have n1:g∉o1:=fun q=>ho (af0 _ q)
     have n2:g≠u:=fun q=>ho (by simp[q])
     obtain⟨c1,c2⟩:=g1 g hg n1
     rcases V3.1 c1 with q|q
     . exact⟨q,c2⟩
     . simp at q;exact absurd q n2
   obtain⟨k3,g3⟩:=ih2 (fun g hg ho x hx=>by
     obtain⟨c1,c2⟩:=g2 g hg ho;exact a g c1 c2 x (W5 _ hx)) k2
   exact⟨k3,fun g hg ho=>by obtain⟨c1,c2⟩:=g3 g hg ho;exact g2 g c1 c2⟩
theorem Thr.all{E:ArG}{N:Nat}(hE:inN N E):∃o m,Thr E [] [] (Z1 N) o m/\o.Perm (Z1 N)/\OkO E o:=by
 obtain⟨o,m,h⟩:=Thr.ex hE N (Z1 N) [] [] (by simp) (by simp) (by simp) (fun x hx=>V7.1 hx);obtain⟨D,O,e1,e2,hp,hr⟩:=h.grow;simp only[aH0]at e1 e2;subst e1;subst e2;obtain⟨hd,hl⟩:=h.inv hE (by simp) (by simp) (fun x hx=>V7.1 hx);refine⟨o,m,h,hp.trans ?_,(h.ok (by simp) (fun A x B e=>by simp at e)).1⟩;refine (List.perm_ext_iff_of_nodup hd dj0).2 (fun x=>⟨fun hx=>V7.2 (hl x hx),fun hx=>hr x hx⟩)
set_option maxRecDepth 20000
section
abbrev Pts:=Option (List Int×Int)
abbrev flG(P:Pts)(N:Nat)(E:ArG):Option (Pts×Option Gr):=some (P,some (mkG N E))
section
variable {P:Pts}{N:Nat}{E:ArG}
end
end
abbrev kK:Blk:=([],0,0,0,[],[],[])
def gs(X:List Blk)(j k m:Nat):Bool:=if k=(X.getD j kK).1.length then (X.getD j kK).2.2.2.2.1.any (fun t=>decide (bg X t.toNat=m))else decide (m=bg X j+k+1)
def nxp(X:List Blk)(n:Nat):List Nat:=(Z1 (bg X X.length)).filter (gs X ((yu X).getD n (0,0,false)).1.toNat ((yu X).getD n (0,0,false)).2.1.toNat)
def cM(X:List Blk):Nat->ArG
 |0=>[]
 |n+1=>cM X n++(nxp X n).map (fun m=>(n,m))
theorem Lt{X:List Blk}{j k:Nat}(hj:j<X.length)(hk:k<=X[j].1.length):nxp X (bg X j+k)=(Z1 (bg X X.length)).filter (gs X j k):=by
 have h:=Jh X hj hk;unfold nxp;rw[bI0,h];rfl
theorem Ll{X:List Blk}{n m:Nat}(h:m∈nxp X n):m<bg X X.length:=by
 unfold nxp at h;exact V7.1 (ac0.1 h).1
theorem wJ(X:List Blk):∀n,n<=bg X X.length->inN (bg X X.length) (cM X n)
 |0,_=>by intro e he;simp[cM]at he
 | n + 1,hn=>by
   intro e he;simp only[cM,V3,Y7]at he
   rcases he with q|⟨m,hm,rfl⟩
   . exact wJ X n (by omega) e q
   . exact⟨by show n<_;omega,Ll hm⟩
theorem zH:∀(N p:Nat),p<N->(Z1 N).filter (fun m=>decide (m=p))=[p]
 |0,p,h=>by omega
 | N + 1,p,h=>by
   rw[aU0,aB0];by_cases q:p=N
   . subst q;have:(Z1 p).filter (fun m=>decide (m=p))=[]:=by
       rw[aX0];intro x hx;have:=V7.1 hx;simp;omega
     rw[this];simp
   . rw[zH N p (by omega)];have:¬ N=p:=fun e=>q e.symm
     simp[this]
structure Tos(X:List Blk):Prop where
 few:X.length<=65536
 pts:bg X X.length<=131072
 len:∀x∈X,x.2.2.2.2.1.length<=20
 good:∀x∈X,∀t∈x.2.2.2.2.1,0<=t/\t<(X.length:Int)
theorem vg{α:Type}[DecidableEq α]:∀{l m:List α},l.Nodup->(∀a∈l,a∈m)->l.length<=m.length
 |[],m,_,_=>ah0 _
 | x :: l,m,hn,hs=>by
   obtain⟨h1,h2⟩:=aw0.1 hn;have hx:=hs x aL0;have:=vg (m:=m.erase x) h2 fun a ha=>(eD0 (fun e=>h1 (by rw[<- e];exact ha))).2 (hs a (W5 _ ha))
   rw[ed0 hx]at this;have:=cx0 hx;rw[V9];omega
theorem CK{X:List Blk}(hT:Tos X)(N j k:Nat):((Z1 N).filter (gs X j k)).length<=20:=by
 have hnd:((Z1 N).filter (gs X j k)).Nodup:=List.nodup_range.filter _;by_cases hk:k=(X.getD j kK).1.length
 . have hl:(X.getD j kK).2.2.2.2.1.length<=20:=by
     rw[bI0]
     rcases aq0 j X.length with h|h
     . rw[Z0 h];exact hT.len _ (X2 h)
     . rw[ai0 h];exact ah0 _
   refine Z7 (vg hnd (m:=(X.getD j kK).2.2.2.2.1.map fun t=>bg X t.toNat) fun m hm=>?_) (by rw[Y6];exact hl);have:=(ac0.1 hm).2;unfold gs at this;rw[if_pos hk,av0]at this;obtain⟨t,ht,e⟩:=this;exact Y7.2 ⟨t,ht,of_decide_eq_true e⟩
 . refine Z7 (vg hnd (m:=[bg X j+k+1]) fun m hm=>?_) (by simp);have:=(ac0.1 hm).2;unfold gs at this;rw[if_neg hk]at this;rw[of_decide_eq_true this];exact aL0
theorem JG{X:List Blk}(hT:Tos X)(n:Nat):(nxp X n).length<=20:=CK hT _ _ _
theorem Bt{X:List Blk}(hT:Tos X):∀n,(cM X n).length<=n*20
 |0=>by simp[cM]
 | n + 1=>by
   have:=Bt hT n;have:=JG hT n;simp only[cM,W3,Y6,aC0];omega
theorem jO{a b:Flt}(h:(or0 a b).1=0):a.1=0/\b.1=0:=by
 unfold or0 at h;split at h
 . rename_i q;exact⟨q,h⟩
 . rename_i q;exact absurd h q
theorem Jl{b:Bo}(h:(vck b).1=0):(dm b).1=0:=by
 unfold vck at h;obtain⟨_,h⟩:=jO h;obtain⟨_,h⟩:=jO h;obtain⟨_,h⟩:=jO h;obtain⟨_,h⟩:=jO h;obtain⟨_,h⟩:=jO h;exact (jO h).2
theorem I8{b:Bo}(h:(vck b).1=0):∀x∈b.2.2.2.2.2.2,tE (bY b) x.2=0:=by
 have hc:=Jl h;unfold dm at hc;cases hq:b.2.2.2.2.2.2.findIdx? (fun x=>(cQ b x).isSome)with
 | none =>
   intro x hx;have:=ar0.1 hq x hx;unfold cQ at this;split at this
   . simp at this
   . by_cases q:tE (bY b) x.2=0
     . exact q
     . rw[if_neg q]at this;simp at this
 | some k =>
   exfalso;rw[hq]at hc;obtain⟨hk,hcc,_⟩:=Z9.1 hq;have e:b.2.2.2.2.2.2.getD k ([],0,0,0,[],[],[])=b.2.2.2.2.2.2[k]:=by simp[ag0,hk]
   simp only[e]at hc;unfold cQ at hcc hc;split at hcc
   . rename_i j hj;rw[hj]at hc;obtain⟨hj1,hj2,_⟩:=Z9.1 hj;have e2:b.2.2.2.2.2.2[k].1.getD j (0,0,0,0,false)=b.2.2.2.2.2.2[k].1[j]:=by simp[ag0,hj1]
     simp only[e2,fw]at hc;simp[hc]at hj2
   . rename_i hj;rw[hj]at hc;by_cases q:tE (bY b) b.2.2.2.2.2.2[k].2=0
     . rw[if_pos q]at hcc;simp at hcc
     . rw[if_neg q]at hc;simp only[fw]at hc;exact q hc
theorem QN{a:Ar}{x:Tm}(h:tE a x=0)(hl:x.2.2.2.1.length<=20)(hl2:x.2.2.2.2.1.length<=20)(hl3:x.2.2.2.2.2.length<=20):bad a.1 x.2.2.2.1=false:=by
 cases q:bad a.1 x.2.2.2.1 with
 |false=>rfl
 | true =>
   exfalso;unfold tE ju at h;rw[show jy (x.1,x.2.1,x.2.2.1,x.2.2.2.1,x.2.2.2.2.1,x.2.2.2.2.2)=_ from uL x]at h;simp only[V0]at h;by_cases q2:du x=0
   . rw[decide_eq_true q2,X7,cond_false,dV _ _ (by omega),q]at h;simp at h
   . rw[decide_eq_false q2,aE0,cond_true]at h;exact q2 h
theorem xG{b:Bo}{j:Nat}(hj:j<(xs b).length):(vck b).1=0/\xs b=b.2.2.2.2.2.2:=by
 by_cases q:(vck b).1=0
 . exact⟨q,by unfold xs;rw[if_pos q]⟩
 . unfold xs at hj;rw[if_neg q]at hj;simp at hj
theorem CS{b:Bo}(h:Sm b):Tos (xs b):=by
 obtain⟨h1,h2⟩:=vQ h (X3 _);refine⟨h2,h1,fun x hx=>?_,fun x hx t ht=>?_⟩
 . obtain⟨j,hj,rfl⟩:=Z8 hx;obtain⟨_,e⟩:=xG hj;exact (h.term _ (by rw[<- e];exact X2 hj)).1
 . obtain⟨j,hj,rfl⟩:=Z8 hx;obtain⟨hv,e⟩:=xG hj;have hm:(xs b)[j]∈b.2.2.2.2.2.2:=by rw[<- e];exact X2 hj
   obtain⟨a1,a2,a3⟩:=h.term _ hm;have hb:=QN (I8 hv _ hm) a1 a2 a3;unfold bad at hb;rw[ao0]at hb;have:=hb t ht;rw[e];unfold bY at this;simp at this;omega
theorem wC{X:List Blk}{j:Nat}(hj:j<X.length):X.getD j kK=X[j]:=by simp[ag0,hj]
theorem IU{X:List Blk}(hT:Tos X){j:Nat}(hj:j<X.length):mC X[j].2 (bgs X)=some (li ((Z1 (bg X X.length)).filter (gs X j X[j].1.length))):=by
 have hm:X[j]∈X:=X2 hj;have hlen:=hT.len _ hm;have hg:=hT.good _ hm;have hfew:=hT.few;have hlp:=uZ (body:=pd X[j].2 (bgs X)) X[j].2.2.2.2.1 (fun k=>(X[j].2.2.2.2.1.take k).map (fun t:Int=>((bg X t.toNat:Nat):Int))) (X[j].2.2.2.2.1.map (fun t:Int=>((bg X t.toNat:Nat):Int))) ?_ ?_
 . unfold mC;simp only[cg0,aS0]at hlp;rw[hlp,V0];unfold srt;rw[if_pos (by simp;omega)];simp only[V0];unfold eM;simp only[V0]
   congr 1
   have hs:=bR0 (le:=fun x y:Int=>decide (x<=y)) (fun a b c h1 h2=>by simp at *;omega) (fun a b=>by simp;omega) (X[j].2.2.2.2.1.map (fun t:Int=>((bg X t.toNat:Nat):Int)));obtain⟨c1,c2⟩:=js (hs.imp (fun h=>by simpa using h));refine ir c1 (jC _ _) (fun a=>?_);rw[c2,ct0];unfold li;simp only[Y7,ac0,V7];constructor
   . rintro⟨t,ht,rfl⟩;obtain⟨t0,t1⟩:=hg t ht;refine⟨bg X t.toNat,⟨Oe X (by omega) (X3 _),?_⟩,rfl⟩;unfold gs;rw[wC hj,if_pos rfl];exact av0.2 ⟨t,ht,by simp⟩
   . rintro⟨m,⟨_,hg2⟩,rfl⟩;unfold gs at hg2;rw[wC hj,if_pos rfl]at hg2;obtain⟨t,ht,e⟩:=av0.1 hg2;exact⟨t,ht,by simp at e;rw[e]⟩
 . intro k hk;obtain⟨t0,t1⟩:=hg _ (X2 hk);have e:aa (bgs X) X[j].2.2.2.2.1[k]=some ((bg X (X[j].2.2.2.2.1[k]).toNat:Nat):Int):=by
     have:=qP X (k:=(X[j].2.2.2.2.1[k]).toNat) (by omega)
     rwa [bn0 t0]at this
   unfold pd;simp only[dlt hk,cond_true,aj hk,V0,e];rw[aI (by simp;omega),V0,an hk (by omega),aH hk,X6];rfl
 . unfold pd;simp only[dge (show ¬ X[j].2.2.2.2.1.length<X[j].2.2.2.2.1.length by omega),cond_false,Y9]
abbrev kp(X:List Blk):Pts:=some (bgs X,((bg X X.length:Nat):Int))
abbrev gI(X:List Blk):ArG:=cM X (bg X X.length)
theorem uW{X:List Blk}(hT:Tos X){n:Nat}(hn:n<=bg X X.length):(cM X n).length<=2621440:=by
 have h1:=Bt hT n;have h2:=hT.pts;omega
theorem KD(E:ArG)(n:Nat)(H:List Nat):ai (E++H.map (fun m=>(n,m)))=ai E++(li H).map (fun x=>((n:Int),x)):=by
 simp[ai,li,Function.comp_def]
theorem KA{X:List Blk}{j k:Nat}(hj:j<X.length)(hk:k<=X[j].1.length):cM X (bg X j+k+1)=cM X (bg X j+k)++((Z1 (bg X X.length)).filter (gs X j k)).map (fun m=>(bg X j+k,m)):=by
 simp only[cM,Lt hj hk]
theorem Lr{X:List Blk}{j k:Nat}(hj:j<X.length)(hk:k<X[j].1.length):(Z1 (bg X X.length)).filter (gs X j k)=[bg X j+k+1]:=by
 have h1:=di hj;have h2:=gx X (i:=j+1) (j:=X.length) hj (X3 _);have:gs X j k=fun m=>decide (m=bg X j+k+1):=by
   funext m;unfold gs;rw[wC hj,if_neg (by omega)]
 rw[this,zH _ _ (by omega)]
theorem G8{n:Nat}{H:List Nat}{E:ArG}(hl:E.length+H.length<=100000000):loop (pI (n:Int) (li H)) (ai E,0)=some (ai (E++H.map (fun m=>(n,m)))):=by
 have:=qJ (li H) (fun x:Int=>((n:Int),x)) (ai E) (by rw[cW,au];omega) (body:=pI (n:Int) (li H)) (fun c i=>by
   unfold pI;cases hg:aa (li H) i with
   |none=>simp[hg]
   |some x=>simp[hg])
 rw[this,KD]
theorem HE{X:List Blk}(h:X.length<=400000):oo (kp X)=some (bgs X):=by
 have hc:∀l:List Int,l.length<=1073741824->bz l=some l:=fun l hl=>gh l hl
 unfold oo kp;simp only[aA0,cond_false,V0];rw[hc _ (by rw[qU];omega)];rfl
theorem Gn{b:Bo}(h:Sm b):mJ b=some (flG (kp (xs b)) (bg (xs b) (xs b).length) (gI (xs b))):=by
 have hT:=CS h;have h32:=hT.pts;have h8:=hT.few;unfold mJ;rw[show ip b=_ from zf h];have e1:fL (kp (xs b))=some ((bg (xs b) (xs b).length:Nat):Int):=rfl;simp only[V0,HE (show (xs b).length<=400000 by omega),e1];have hl:=aC (body:=ml b (kp (xs b)) (bgs (xs b)) ((bg (xs b) (xs b).length:Nat):Int)) (fun n:Nat=>(ai (cM (xs b) n),(n:Int))) (bg (xs b) (xs b).length) (b:=ai (gI (xs b))) ?_ ?_
 . rw[show loop (ml b (kp (xs b)) (bgs (xs b)) ((bg (xs b) (xs b).length:Nat):Int)) ([],0)=_ from hl];simp only[V0];have hin:=wJ (xs b) _ (X3 _);have hb:=uW hT (X3 _);rw[show aV ((bg (xs b) (xs b).length:Nat):Int) (ai (gI (xs b)))=_ from ni (N:=bg (xs b) (xs b).length) (E:=gI (xs b)) hin (by omega) (Z7 hb (by decide))];rfl
 . intro n hn;obtain⟨j,k,hj,hk,rfl,_⟩:=C6 (xs b) (xs b).length (X3 _) n hn;obtain⟨hv,ex⟩:=xG hj;have hb:=uW hT (bt0 hn);have hat:=Dq (X:=xs b) (by omega) (by omega) hj hk;have hen:=JD (X:=xs b) (by omega) (by omega) hj hk;have hfl:((Z1 (bg (xs b) (xs b).length)).filter (gs (xs b) j k)).length<=20:=CK hT _ _ _;have hin:=G8 (n:=bg (xs b) j+k) (H:=(Z1 (bg (xs b) (xs b).length)).filter (gs (xs b) j k)) (E:=cM (xs b) (bg (xs b) j+k)) (by omega);rw[<- KA hj hk]at hin;unfold ml;simp only[dlt hn,cond_true,hat,hen,V0];by_cases q:k=(xs b)[j].1.length
   . have hgb:aa b.2.2.2.2.2.2 (j:Int)=some (xs b)[j]:=by rw[<- ex];exact aj hj
     have hh:=IU hT hj;rw[<- q]at hh;simp only[decide_eq_true q,cond_true,hgb,V0];rw[show mC ((xs b)[j].2.1,(xs b)[j].2.2.1,(xs b)[j].2.2.2.1,(xs b)[j].2.2.2.2.1,(xs b)[j].2.2.2.2.2.1,(xs b)[j].2.2.2.2.2.2) (bgs (xs b))=_ from hh];simp only[V0,hin,an hn (by omega)]
   . have hkl:k<(xs b)[j].1.length:=by omega
     rw[Lr hj hkl]at hin;simp only[decide_eq_false q,cond_false,V0,an hn (by omega)];rw[show ([((bg (xs b) j+k+1:Nat):Int)]:List Int)=li [bg (xs b) j+k+1]from rfl,hin];rfl
 . unfold ml;simp only[dge (show ¬ bg (xs b) (xs b).length<bg (xs b) (xs b).length by omega),cond_false]
section
section
variable {P:Pts}{N:Nat}{E:ArG}
theorem LH(E:ArG):(tn E).map (·.1)=E.map (·.2):=by simp[tn]
theorem GY(hn:N<=1048576)(he:E.length<=67108864){v:Nat}(h:v<N):oQ (flG P N E) (v:Int)=some (li (nxt (tn E) v)):=by
 unfold oQ tY;simp only[aA0,cond_false,V0];rw[DI hn he h,V0];have hb:=eY (E.map (·.2)) v;simp at hb;generalize hO:occ (E.map (·.2)) v=O at hb ⊢;have hO2:∀i∈O,i<E.length:=fun i hi=>by
   rw[<- hO]at hi;obtain⟨h1,_⟩:=j3.1 hi;simpa using h1
 have hx:nxt (tn E) v=O.map (fun i=>(E.getD i (0,0)).1):=by
   unfold nxt;rw[LH,hO];refine cm0 (fun i hi=>?_);have:=hO2 i hi;simp[tn,this]
 rw[hx];have hl:=aC (body:=oz (flG P N E) (O.map (fun i:Nat=>(i:Int)))) (fun k:Nat=>((O.take k).map (fun i=>(((E.getD i (0,0)).1:Nat):Int))++(O.drop k).map (fun i:Nat=>(i:Int)),(k:Int))) O.length (b:=(O.map (fun i=>(((E.getD i (0,0)).1:Nat):Int)))) ?_ ?_
 . simp only[cg0,aS0,aH0,ab0]at hl;rw[show ((0:Int))=((0:Nat):Int)from rfl,hl];simp[li]
 . intro k hk;have hk':k<(O.map (fun i:Nat=>(i:Int))).length:=by simpa using hk
   have hi:=hO2 _ (X2 hk);have hlen:((O.take k).map (fun i=>(((E.getD i (0,0)).1:Nat):Int))).length=k:=by simp;omega
   have g1:aa ((O.take k).map (fun i=>(((E.getD i (0,0)).1:Nat):Int))++(O.drop k).map (fun i:Nat=>(i:Int))) (k:Int)=some ((O[k]:Nat):Int):=by
     rw[aj (by simp;omega),cZ0 (by omega)];simp only[ck0,db0,hlen,bs0,aD0]
   have g2:lD (some (mkG N E)) ((O[k]:Nat):Int)=some (((E[O[k]].1:Nat):Int),((E[O[k]].2:Nat):Int),true):=by
     rw[Mk,dif_pos ⟨by omega,by omega⟩];simp
   unfold oz;simp only[dlt hk',cond_true,g1,V0,g2,W2,an hk' (by simp;omega)]
   congr 3
   rw[aH hk,X6,aY0 hk,X5,bu0 _ _ (by omega),hlen,bs0,cU0,X1];simp[hi]
 . simp[oz]
end
end
section
theorem sQ{α:Type}{m j:Nat}{f:Nat->α}(h:j<m):aa ((Z1 m).map f) (j:Int)=some (f j):=by
 rw[aj (by simpa using h)];simp
theorem xV{α:Type}{m j:Nat}{f:Nat->α}{y:α}:((Z1 m).map f).set j y=(Z1 m).map (fun v=>if v=j then y else f v):=by
 apply cl0
 . simp
 . intro i h1 h2;simp only[fm0,ck0,bW0];by_cases q:j=i
   . subst q;simp
   . rw[if_neg q,if_neg (fun e=>q e.symm)]
theorem kG{α:Type}{m:Nat}{f g:Nat->α}(h:∀v,v<m->f v=g v):(Z1 m).map f=(Z1 m).map g:=cm0 fun v hv=>h v (V7.1 hv)
theorem D4{α:Type}(m:Nat)(z:α):Z2 m z=(Z1 m).map (fun _=>z):=by
 apply cl0 <;> simp
theorem iB(a:Int):az a a=some ():=by unfold az;simp
abbrev Tc:=List Int×List Int
def iP(l:List Int):List Int:=l.mergeSort fun x y=>decide (x<=y)
theorem L3{l:List Int}(h:l.length<=1073741824):srt l=some (iP l):=by unfold srt;rw[if_pos h];rfl
def cp(l:List Int):List Int:=Lib.compact (iP l)
theorem B8(l:List Int):(iP l).Pairwise (·<=·):=by
 have:=bR0 (le:=fun x y:Int=>decide (x<=y)) (fun a b c h1 h2=>by simp at *;omega) (fun a b=>by simp;omega) l;exact this.imp (fun h=>by simpa using h)
theorem P9(l:List Int):(cp l).Pairwise (· < ·):=(js (B8 l)).1
theorem L7(l:List Int)(a:Int):a∈cp l↔a∈l:=by
 rw[cp,(js (B8 l)).2 a];unfold iP;exact ct0
theorem LE(l:List Int):(cp l).length<=l.length:=by
 have:=Lib.compact_length_le (iP l);unfold iP at this;rw[dq0]at this;exact this
theorem N9(l:List Int):(cp l).Nodup:=(P9 l).imp (fun h=>by omega)
def sT(s:Stm):Tc:=(if bG s.1 then [s.2.2.1]else [],if bF s.1 then [s.2.1]else [])
def tT(x:Tm):Tc:=if x.1=2 then (x.2.2.2.2.1,[])else if x.1=4 then (x.2.2.2.2.1,[x.2.2.1])else if x.1=3 then ([0],[])else ([],[])
def cpT(t:Tc):Tc:=(cp t.1,t.2)
def s8(x:Blk):List Tc:=x.1.map (fun s=>cpT (sT s))++[cpT (tT x.2)]
theorem I4(x:Blk):(s8 x).length=x.1.length+1:=by simp[s8]
def gK(X:List Blk):Nat->List Tc
 |0=>[]
 |i+1=>gK X i++s8 (X.getD i ([],0,0,0,[],[],[]))
theorem vN(X:List Blk):∀i,i<=X.length->(gK X i).length=bg X i
 |0,_=>by simp[gK,bg,stm]
 | i + 1,h=>by
   have ih:=vN X i (by omega);rw[di (by omega)];simp only[gK,W3,ih,I4,j9 (show i<X.length by omega)];omega
abbrev pts(X:List Blk):List Tc:=gK X X.length
theorem Cv(X:List Blk):(pts X).length=bg X X.length:=vN X _ (X3 _)
def rdr(P:List Tc)(l:Nat):List Int:=((Z1 P.length).filter (fun n=>decide ((l:Int)∈(P.getD n ([],[])).1))).map (fun n:Nat=>(n:Int))
def wtr(P:List Tc)(l:Nat):List Int:=((Z1 P.length).filter (fun n=>decide ((l:Int)∈(P.getD n ([],[])).2))).map (fun n:Nat=>(n:Int))
def lcs(N:Nat)(P:List Tc):List Tc:=(Z1 N).map fun l=>(rdr P l,wtr P l)
theorem A5(P:List Tc)(t:Tc)(p:Tc->Bool):((Z1 (P++[t]).length).filter (fun n=>p ((P++[t]).getD n ([],[])))).map (fun n:Nat=>(n:Int)) =
   ((Z1 P.length).filter (fun n=>p (P.getD n ([],[])))).map (fun n:Nat=>(n:Int))++if p t then [(P.length:Int)]else []:=by
 rw[W3,bb0,aU0,aB0,X6]
 congr 1
 . congr 1
   refine bm0 (fun n hn=>?_);have hn:n<P.length:=V7.1 hn;rw[j9 (by simp;omega),j9 hn,ee0 hn]
 . have:(P++[t]).getD P.length ([],[])=t:=by simp[ag0]
   simp only[aZ0,fu0,this];cases p t <;> rfl
theorem IH(P:List Tc)(t:Tc)(l:Nat):rdr (P++[t]) l=rdr P l++if (l:Int)∈t.1 then [(P.length:Int)]else []:=by
 have:=A5 P t (fun u=>decide ((l:Int)∈u.1));unfold rdr;rw[this];simp
theorem ID(P:List Tc)(t:Tc)(l:Nat):wtr (P++[t]) l=wtr P l++if (l:Int)∈t.2 then [(P.length:Int)]else []:=by
 have:=A5 P t (fun u=>decide ((l:Int)∈u.2));unfold wtr;rw[this];simp
theorem BF(P:List Tc)(l:Nat):(rdr P l).length<=P.length:=by
 unfold rdr;rw[Y6];exact Z7 (aa0 ..) (by simp)
theorem Cq(P:List Tc)(l:Nat):(wtr P l).length<=P.length:=by
 unfold wtr;rw[Y6];exact Z7 (aa0 ..) (by simp)
theorem xj(l:List Int)(h:l.length<=1000000):bz l=some l:=by
 unfold bz;rw[aI (by simp;omega),wh (fun e=>by subst e;rfl)];simp
theorem HJ (s:Stm):ph (s.1,s.2.1,s.2.2.1,s.2.2.2.1,s.2.2.2.2)=some (sT s):=by
 unfold ph sT bG bF;by_cases h1:s.1=1
 . simp[h1]
 . by_cases h2:s.1=2
   . simp[h2]
   . by_cases h3:s.1=3
     . simp[h3]
     . by_cases h4:s.1=4
       . simp[h4]
       . by_cases h5:s.1=5
         . simp[h5]
         . have:¬ (1<=s.1/\s.1<=4):=by omega
           simp[h1,h2,h3,h4,h5,this]
theorem GX(x:Tm)(h:x.2.2.2.2.1.length<=1000):px (x.1,x.2.1,x.2.2.1,x.2.2.2.1,x.2.2.2.2.1,x.2.2.2.2.2)=some (tT x):=by
 unfold px tT;have hc:=xj x.2.2.2.2.1 (by omega);simp only[hc,V0,jU];by_cases h1:x.1=2
 . simp[h1]
 . by_cases h2:x.1=4
   . simp[h2]
   . by_cases h3:x.1=3
     . simp[h3]
     . simp[h1,h2,h3]
section
variable {N:Nat}{P:List Tc}
def kR(N:Nat)(l:List Int):Prop:=∀a∈l,0<=a/\a<(N:Int)
theorem PN{q:List Int}(hq:kR N q)(hn:q.Nodup)(hql:q.length<=1000)(f:Nat->Tc)(hf:∀l,l<N->(f l).1.length<=1000000) :
   loop (kX P q) (0,(Z1 N).map f)=some ((Z1 N).map fun (l:Nat)=>if (l:Int)∈q then ((f l).1++[(P.length:Int)],(f l).2)else f l):=by
 have h:=aC (body:=kX P q) (fun k:Nat=>((k:Int),(Z1 N).map fun (l:Nat)=>if (l:Int)∈q.take k then ((f l).1++[(P.length:Int)],(f l).2)else f l)) q.length (b:=(Z1 N).map fun (l:Nat)=>if (l:Int)∈q then ((f l).1++[(P.length:Int)],(f l).2)else f l) ?_ ?_
 . simpa using h
 . intro k hk;obtain⟨h1,h2⟩:=hq _ (X2 hk);obtain⟨m,hm⟩:=W6 h1;have hmN:m<N:=by rw[hm]at h2;exact bL0.1 h2
   have hnot:¬ ((m:Nat):Int)∈q.take k:=by
     intro hmem;obtain⟨i,hi,e⟩:=Z8 hmem;simp at hi;rw[cA0]at e;exact am0.1 hn i k (by omega) hk (by omega) (e.trans hm.symm)
   have hg:aa ((Z1 N).map fun (l:Nat)=>if (l:Int)∈q.take k then ((f l).1++[(P.length:Int)],(f l).2)else f l) ((m:Nat):Int)=some (f m):=by
     rw[sQ hmN,if_neg hnot]
   have hfl:=hf m hmN;unfold kX;simp only[dlt hk,cond_true,aj hk,V0,hm,hg,iB];rw[aI (by simp;omega)];simp only[V0,an hk (by omega:q.length<=9223372036854775807),W2,Z3,ef0,bQ0,true_and];rw[xV];refine kG (fun v hv=>?_);rw[aH hk,hm];by_cases e:v=m
   . subst e;simp
   . have:¬ (v:Int)=(m:Int):=by omega
     simp[e,this]
 . unfold kX;simp
theorem Nl{q:List Int}(hq:kR N q)(hn:q.Nodup)(hql:q.length<=1000)(f:Nat->Tc)(hf:∀l,l<N->(f l).2.length<=1000000) :
   loop (kY q P) (0,(Z1 N).map f)=some ((Z1 N).map fun (l:Nat)=>if (l:Int)∈q then ((f l).1,(f l).2++[(P.length:Int)])else f l):=by
 have h:=aC (body:=kY q P) (fun k:Nat=>((k:Int),(Z1 N).map fun (l:Nat)=>if (l:Int)∈q.take k then ((f l).1,(f l).2++[(P.length:Int)])else f l)) q.length (b:=(Z1 N).map fun (l:Nat)=>if (l:Int)∈q then ((f l).1,(f l).2++[(P.length:Int)])else f l) ?_ ?_
 . simpa using h
 . intro k hk;obtain⟨h1,h2⟩:=hq _ (X2 hk);obtain⟨m,hm⟩:=W6 h1;have hmN:m<N:=by rw[hm]at h2;exact bL0.1 h2
   have hnot:¬ ((m:Nat):Int)∈q.take k:=by
     intro hmem;obtain⟨i,hi,e⟩:=Z8 hmem;simp at hi;rw[cA0]at e;exact am0.1 hn i k (by omega) hk (by omega) (e.trans hm.symm)
   have hg:aa ((Z1 N).map fun (l:Nat)=>if (l:Int)∈q.take k then ((f l).1,(f l).2++[(P.length:Int)])else f l) ((m:Nat):Int)=some (f m):=by
     rw[sQ hmN,if_neg hnot]
   have hfl:=hf m hmN;unfold kY;simp only[dlt hk,cond_true,aj hk,V0,hm,hg,iB];rw[aI (by simp;omega)];simp only[V0,an hk (by omega:q.length<=9223372036854775807),W2,Z3,ef0,bQ0,true_and];rw[xV];refine kG (fun v hv=>?_);rw[aH hk,hm];by_cases e:v=m
   . subst e;simp
   . have:¬ (v:Int)=(m:Int):=by omega
     simp[e,this]
 . unfold kY;simp
structure Tg(N:Nat)(t:Tc):Prop where
 r:kR N t.1
 w:kR N t.2
 rl:t.1.length<=1000
 wl:t.2.length<=1
theorem CE{t:Tc}(h:Tg N t)(hP:P.length<=900000):iY t.1 t.2 P (lcs N P)=some (P++[cpT t],lcs N (P++[cpT t])):=by
 have hc:=LE t.1;have hrl:=h.rl;have hwl:=h.wl;have hq:kR N (cp t.1):=fun a ha=>h.r a ((L7 _ _).1 ha)
 have hwn:t.2.Nodup:=by
   cases hw:t.2 with
   |nil=>simp
   | cons a l =>
     rw[hw]at hwl;have:l=[]:=by cases l with
       |nil=>rfl
       |cons b l=>simp at hwl
     simp[this]
 unfold iY;rw[L3 (by omega),V0,show eM (iP t.1)=some (cp t.1)from rfl,V0,aI (by simp;omega),V0];unfold lcs;rw[PN hq (N9 _) (by omega) _ (fun l hl=>by have:=BF P l;dsimp only;omega),V0,
   Nl h.w hwn (by omega) _ (fun l hl=>by have:=Cq P l;dsimp only;split <;> (dsimp only;omega)),V0]
 simp only[Z3,bQ0];refine⟨rfl,kG (fun l hl=>?_)⟩;rw[IH,ID];show _=(rdr P l++(if (l:Int)∈cp t.1 then _ else _),wtr P l++(if (l:Int)∈t.2 then _ else _));by_cases c1:(l:Int)∈cp t.1 <;> by_cases c2:(l:Int)∈t.2 <;> simp[c1,c2]
end
theorem NN{L:List (List St)}{R:Int}{x:Stm}(h:sE L R x=0):fOk x=true/\(bF x.1=true->loc L x.2.1=true)/\(bG x.1=true->loc L x.2.2.1=true):=by
 unfold sE mj at h;have g1:mH x.1=some (bF x.1):=rfl;have g2:mF x.1=some (bG x.1):=rfl;rw[show pL (x.1,x.2.1,x.2.2.1,x.2.2.2.1,x.2.2.2.2)=_ from zR x]at h;simp only[V0,g1,g2,Co]at h;cases hf:fOk x with
 |false=>rw[hf]at h;simp at h
 | true =>
   rw[hf]at h;simp only[X7,cond_false]at h;cases c1:(bF x.1&&!loc L x.2.1)with
   |true=>rw[c1]at h;simp at h
   | false =>
     rw[c1]at h;simp only[cond_false,V0]at h;cases c2:(bG x.1&&!loc L x.2.2.1)with
     |true=>rw[c2]at h;simp at h
     | false =>
       refine⟨rfl,fun e=>?_,fun e=>?_⟩
       . rw[e]at c1;simpa using c1
       . rw[e]at c2;simpa using c2
theorem DX {a:Ar} {x:Tm} (h:tE a x=0) (hl:x.2.2.2.1.length<=20) (hl2:x.2.2.2.2.1.length<=20) (hl3:x.2.2.2.2.2.length<=20) :
   du x=0/\bad (a.2.2.1.length:Int) x.2.2.2.2.1=false/\(x.1=4->bad (a.2.2.1.length:Int) [x.2.2.1]=false)/\(x.1=3->¬ a.2.2.1.length=0):=by
 unfold tE ju at h;rw[show jy (x.1,x.2.1,x.2.2.1,x.2.2.2.1,x.2.2.2.2.1,x.2.2.2.2.2)=_ from uL x]at h;simp only[V0,dV x.2.2.2.1 _ (by omega),dV x.2.2.2.2.1 _ (by omega),dV x.2.2.2.2.2 _ (by omega),dV [x.2.2.1] _ (by simp),dV [x.2.1] _ (by simp),ez0]at h;by_cases q2:du x=0
 . rw[decide_eq_true q2,X7,cond_false]at h;cases c1:bad a.1 x.2.2.2.1 with
   |true=>rw[c1]at h;simp at h
   | false =>
     rw[c1]at h;simp only[cond_false,V0]at h;cases c2:bad (a.2.2.1.length:Int) x.2.2.2.2.1 with
     |true=>rw[c2]at h;simp at h
     | false =>
       rw[c2]at h;simp only[cond_false,V0]at h;cases c3:bad a.2.1 x.2.2.2.2.2 with
       |true=>rw[c3]at h;simp at h
       | false =>
         rw[c3]at h;simp only[cond_false,V0]at h;refine⟨q2,rfl,fun e=>?_,fun e=>?_⟩
         . cases c4:bad (a.2.2.1.length:Int) [x.2.2.1]with
           |false=>rfl
           |true=>rw[c4]at h;simp[e]at h
         . intro e0;rw[e,e0]at h;simp at h
 . rw[decide_eq_false q2,aE0,cond_true]at h;exact absurd h q2
theorem cX{a b:Flt}(h:(or0 a b).1=0):a.1=0/\b.1=0:=by
 unfold or0 at h;split at h
 . rename_i q;exact⟨q,h⟩
 . rename_i q;exact absurd h q
theorem Jr{b:Bo}(h:(vck b).1=0):∀x∈b.2.2.2.2.2.2,(∀s∈x.1,sE b.2.2.2.1 b.2.1 s=0)/\tE (bY b) x.2=0:=by
 unfold vck at h;have hc:=(cX (cX (cX (cX (cX (cX h).2).2).2).2).2).2;unfold dm at hc;cases hq:b.2.2.2.2.2.2.findIdx? (fun x=>(cQ b x).isSome)with
 | none =>
   intro x hx;have:=ar0.1 hq x hx;unfold cQ at this;split at this
   . simp at this
   . rename_i hs;refine⟨fun s hm=>?_,?_⟩
     . have:=ar0.1 hs s hm;simpa using this
     . by_cases q:tE (bY b) x.2=0
       . exact q
       . rw[if_neg q]at this;simp at this
 | some k =>
   exfalso;rw[hq]at hc;obtain⟨hk,hcc,_⟩:=Z9.1 hq;have e:b.2.2.2.2.2.2.getD k ([],0,0,0,[],[],[])=b.2.2.2.2.2.2[k]:=by simp[ag0,hk]
   simp only[e]at hc;unfold cQ at hcc hc;split at hcc
   . rename_i j hj;rw[hj]at hc;obtain⟨hj1,hj2,_⟩:=Z9.1 hj;have e2:b.2.2.2.2.2.2[k].1.getD j (0,0,0,0,false)=b.2.2.2.2.2.2[k].1[j]:=by simp[ag0,hj1]
     simp only[e2,fw]at hc;simp[hc]at hj2
   . rename_i hj;rw[hj]at hc;by_cases q:tE (bY b) b.2.2.2.2.2.2[k].2=0
     . rw[if_pos q]at hcc;simp at hcc
     . rw[if_neg q]at hc;simp only[fw]at hc;exact q hc
theorem xl{n:Nat}{l:List Int}(h:bad (n:Int) l=false):kR n l:=by
 intro a ha;unfold bad at h;rw[ao0]at h;have:=h a ha;simp at this;omega
structure Vb(N:Nat)(X:List Blk):Prop where
 st:∀x∈X,∀s∈x.1,Tg N (sT s)
 tm:∀x∈X,Tg N (tT x.2)
 fm:∀x∈X,du x.2=0
 ar:∀x∈X,x.2.2.2.2.2.1.length<=20
 pos:X≠[]->0<N
theorem OE{b:Bo}(h:Sm b):Vb b.2.2.2.1.length (xs b):=by
 unfold xs;by_cases q:(vck b).1=0
 . rw[if_pos q];have ha:=Jr q;refine⟨fun x hx s hs=>?_,fun x hx=>?_,fun x hx=>?_,fun x hx=>(h.term x hx).2.1,fun _=>?_⟩
   . obtain⟨h1,h2,h3⟩:=NN ((ha x hx).1 s hs);refine⟨fun a m=>?_,fun a m=>?_,?_,?_⟩
     . unfold sT at m;dsimp only at m;by_cases c:bG s.1=true
       . rw[if_pos c]at m;simp at m;subst m;have:=h3 c;unfold loc at this;simp at this;omega
       . rw[if_neg c]at m;simp at m
     . unfold sT at m;dsimp only at m;by_cases c:bF s.1=true
       . rw[if_pos c]at m;simp at m;subst m;have:=h2 c;unfold loc at this;simp at this;omega
       . rw[if_neg c]at m;simp at m
     . unfold sT;dsimp only;split <;> simp
     . unfold sT;dsimp only;split <;> simp
   . obtain⟨a1,a2,a3⟩:=h.term x hx;obtain⟨h1,h2,h3,h4⟩:=DX (ha x hx).2 a1 a2 a3;unfold tT;by_cases c1:x.2.1=2
     . rw[if_pos c1];exact⟨xl h2,fun a m=>by simp at m,by dsimp only;omega,by simp⟩
     . rw[if_neg c1];by_cases c2:x.2.1=4
       . rw[if_pos c2];exact⟨xl h2,xl (h3 c2),by dsimp only;omega,by simp⟩
       . rw[if_neg c2];by_cases c3:x.2.1=3
         . rw[if_pos c3];have:=h4 c3;refine⟨fun a m=>?_,fun a m=>by simp at m,by simp,by simp⟩;simp at m;subst m;unfold bY at this;dsimp only at this;omega
         . rw[if_neg c3];exact⟨fun a m=>by simp at m,fun a m=>by simp at m,by simp,by simp⟩
   . obtain⟨a1,a2,a3⟩:=h.term x hx;exact (DX (ha x hx).2 a1 a2 a3).1
   . unfold vck at q;have hl:=(cX (cX (cX q).2).2).1;unfold gG at hl;by_cases c:b.2.2.2.1=[]
     . rw[if_pos c]at hl;simp at hl
     . exact bl0.2 c
 . rw[if_neg q];exact⟨fun x hx=>(by cases hx),fun x hx=>(by cases hx),fun x hx=>(by cases hx),fun x hx=>(by cases hx),fun e=>absurd rfl e⟩
theorem Lu{N:Nat}{x:Blk}{P:List Tc}(hx:∀s∈x.1,Tg N (sT s))(hl:x.1.length<=300000)(hP:P.length<=500000) :
   loop (me x) (0,P,lcs N P)=some (P++x.1.map (fun s=>cpT (sT s)),lcs N (P++x.1.map (fun s=>cpT (sT s)))):=by
 have h:=aC (body:=me x) (fun k:Nat=>((k:Int),P++(x.1.take k).map (fun s=>cpT (sT s)),lcs N (P++(x.1.take k).map (fun s=>cpT (sT s))))) x.1.length (b:=(P++x.1.map (fun s=>cpT (sT s)),lcs N (P++x.1.map (fun s=>cpT (sT s))))) ?_ ?_
 . simpa using h
 . intro k hk;unfold me;simp only[dlt hk,cond_true,aj hk,V0,HJ];rw[show iY (sT x.1[k]).1 (sT x.1[k]).2 _ _=_ from CE (hx _ (X2 hk)) (by simp;omega),V0];simp only[an hk (by omega:x.1.length<=9223372036854775807),aH hk,X6,X5,aS0,X1]
 . unfold me;simp
theorem FJ{b:Bo}(h:Sm b):mG b=some (some (pts (xs b),if bg (xs b) (xs b).length=0 then []else lcs b.2.2.2.1.length (pts (xs b)))):=by
 obtain⟨hb,hX8⟩:=vQ h (X3 _);have hv:=OE h;have hNL:=h.locals;have hxs:bg (xs b) (xs b).length≠0->xs b=b.2.2.2.2.2.2:=by
   unfold xs;split
   . intro _;rfl
   . intro hc;exact absurd (by simp[bg,stm]) hc
 have hbs:=h;unfold mG;rw[show ip b=_ from zf h,V0,show fL (some (bgs (xs b),((bg (xs b) (xs b).length:Nat):Int)))=some ((bg (xs b) (xs b).length:Nat):Int)from rfl,V0];by_cases q:bg (xs b) (xs b).length=0
 . rw[if_pos q,q];have:pts (xs b)=[]:=by
     have:=Cv (xs b);rw[q]at this;exact Z4.1 this
   rw[this];rfl
 . rw[if_neg q,decide_eq_false (by omega),cond_false,mkN (by omega),V0];have hX:=hxs q;have hl0:Z2 b.2.2.2.1.length (([],[]):Tc)=lcs b.2.2.2.1.length []:=by rw[D4];rfl
   rw[hl0];have hL:=aC (body:=mh b) (fun k:Nat=>((k:Int),gK (xs b) k,lcs b.2.2.2.1.length (gK (xs b) k))) (xs b).length (b:=(pts (xs b),lcs b.2.2.2.1.length (pts (xs b)))) ?_ ?_
   . rw[show loop (mh b) (0,[],lcs b.2.2.2.1.length [])=_ from hL];rfl
   . intro k hk;have hk2:k<b.2.2.2.2.2.2.length:=by rw[<- hX];exact hk
     have hget:aa b.2.2.2.2.2.2 (k:Int)=some (xs b)[k]:=by rw[aj hk2];simp only[hX]
     have hm:(xs b)[k]∈xs b:=X2 hk;have a0:=vN (xs b) k (by omega);have a1:=gx (xs b) (i:=k+1) (j:=(xs b).length) hk (X3 _);rw[di hk]at a1;have a2:=hv.ar _ hm;unfold mh;simp only[dlt hk2,cond_true,hget,V0];rw[Lu (hv.st _ hm) (by omega) (by omega),V0];dsimp only;rw[GX (xs b)[k].2 (by omega),V0,CE (hv.tm _ hm) (by simp;omega),V0,an hk (by omega)];simp only[gK,s8,j9 hk,X1]
   . unfold mh;dsimp only;rw[dge (by rw[<- hX];omega),cond_false]
end
section
section
variable {P:List Tc}{C:List Tc}
theorem TR:tU (some (P,C))=some ((P.length:Nat):Int):=rfl
end
end
theorem fZ(x:Nat):X0 64 (x:Int)=cb0 64 x:=by simp
theorem dN(x:Nat)(h:x<18446744073709551616):M0 .u64 (x:Int)=(x:Int):=by
 rw[IntKind.wrap_u64];omega
theorem qr{k:Nat}(hk:k<64):2 ^ k<18446744073709551616:=Nat.pow_lt_pow_right (by decide) hk
theorem Ca{k:Nat}(hk:k<64):M0 .u64 (1*2 ^ (min k (O0 .u64)))=((2 ^ k:Nat):Int):=by
 have h1:min k (O0 .u64)=k:=an0 (bt0 hk);rw[h1,Int.one_mul];have:=dN (2 ^ k) (qr hk);rw[<- this]
 congr 1
theorem Er(x y:Nat)(hx:x<18446744073709551616)(hy:y<18446744073709551616):M0 .u64 ((X0 (O0 .u64) (x:Int) &&& X0 (O0 .u64) (y:Int)).toNat:Int)=((x &&& y:Nat):Int):=by
 show M0 .u64 ((X0 64 (x:Int) &&& X0 64 (y:Int)).toNat:Int)=_;rw[fZ,fZ,fr0,bX0,bX0,ak0 hx,ak0 hy];exact dN _ (eQ0 (n:=64) _ hy)
theorem orU(x y:Nat)(hx:x<18446744073709551616)(hy:y<18446744073709551616):M0 .u64 ((X0 (O0 .u64) (x:Int) ||| X0 (O0 .u64) (y:Int)).toNat:Int)=((x ||| y:Nat):Int):=by
 show M0 .u64 ((X0 64 (x:Int) ||| X0 64 (y:Int)).toNat:Int)=_;rw[fZ,fZ,BitVec.toNat_or,bX0,bX0,ak0 hx,ak0 hy];exact dN _ (dG0 (n:=64) hx hy)
theorem JW(x k:Nat):(x &&& 2 ^ k=0)↔x.testBit k=false:=by
 constructor
 . intro h;have:=congrArg (fun n=>n.testBit k) h;simpa[dm0,Nat.testBit_two_pow_self]using this
 . intro h;apply du0;intro i;rw[dm0,dA0,cI0];by_cases hi:k=i
   . subst hi;simp[h]
   . simp[hi]
theorem LV(x k i:Nat):(x ||| 2 ^ k).testBit i=(x.testBit i||decide (k=i)):=by
 rw[dV0,dA0]
def Wd(w:Int):Prop:=0<=w/\w<18446744073709551616
def mem(l:List Int)(i:Nat):Bool:=match l[i / 64]? with|some w=>w.toNat.testBit (i % 64)|none=>false
structure Ds(n:Nat)(l:List Int):Prop where
 hn:n<=1048576
 len:l.length=(n+63) / 64
 wd:∀w∈l,Wd w
 top:∀i,n<=i->mem l i=false
theorem uC{n:Nat}{l:List Int}(i:Int):fI (some ((n:Int),l)) i=some (decide (0<=i/\i<n)):=by
 unfold fI;rw[show oP (some ((n:Int),l))=some (n:Int)from rfl];by_cases h:0<=i
 . simp[h]
 . simp[h]
theorem Ds.word{n:Nat}{l:List Int}(h:Ds n l){k:Nat}(hk:k<n):∃x:Nat,l[k / 64]?=some (x:Int)/\x<18446744073709551616:=by
 have hl:k / 64<l.length:=by rw[h.len];omega
 refine⟨(l[k / 64]).toNat,?_,?_⟩
 . rw[Z0 hl,bn0 (h.wd _ (X2 hl)).1]
 . have:=h.wd _ (X2 hl);unfold Wd at this;omega
theorem ep{l:List Int}{k x:Nat}(h:l[k / 64]?=some (x:Int)):mem l k=x.testBit (k % 64):=by
 unfold mem;rw[h];simp
theorem qG{n:Nat}{l:List Int}(h:Ds n l)(i:Int):cE (some ((n:Int),l)) i=some (decide (0<=i/\i<n)&&mem l i.toNat):=by
 unfold cE;rw[uC];by_cases hi:0<=i/\i<n
 . obtain⟨k,rfl⟩:=W6 hi.1;have hk:k<n:=by omega
   have hn:=h.hn;obtain⟨x,hx,hx2⟩:=h.word hk;have e1:M0 .i64 (bc0 (k:Int) 64)=((k / 64:Nat):Int):=by
     rw[show bc0 (k:Int) 64=((k / 64:Nat):Int)from rfl];exact w64 (by omega) (by omega)
   have e2:bK0 (k:Int) 64=((k % 64:Nat):Int):=rfl;have g:aa l ((k / 64:Nat):Int)=some (x:Int):=by
     unfold aa;rw[if_pos (aj0 _),W2];exact hx
   have hd:decide (0<=(k:Int)/\(k:Int)<n)=true:=by simpa using hk
   rw[hd,e1,e2];simp only[V0,cond_true,g,xf (aj0 _),W2,cd0];have E:M0 .u64 ((X0 (O0 .u64) (x:Int) &&& X0 (O0 .u64) (M0 .u64 (1*2 ^ (min (k % 64) (O0 .u64))))).toNat:Int)=((x &&& 2 ^ (k % 64):Nat):Int):=by
     rw[Ca (bM0 k (by decide))];exact Er x _ hx2 (qr (bM0 k (by decide)))
   simp only[E,ep hx];have hb:=JW x (k % 64);cases ht:x.testBit (k % 64)with
   |false=>simp[hb.2 ht]
   | true =>
     have:¬ (x &&& 2 ^ (k % 64)=0):=fun e=>by rw[hb.1 e]at ht;cases ht
     have h2:¬ (((x &&& 2 ^ (k % 64):Nat):Int)=0):=by omega
     rw[decide_eq_false h2];rfl
 . rw[decide_eq_false hi];rfl
theorem Bv{l:List Int}{q x y:Nat}(hq:l[q]?=some (x:Int))(j:Nat):mem (l.set q (y:Int)) j=if j / 64=q then y.testBit (j % 64)else mem l j:=by
 unfold mem;rw[dc0];have hlt:q<l.length:=(V4.1 hq).1;by_cases hj:j / 64=q
 . rw[if_pos hj.symm,if_pos hj,<- hj] ;simp[hj,hlt]
 . rw[if_neg (fun e=>hj e.symm),if_neg hj]
theorem qw{n:Nat}{l:List Int}(h:Ds n l)(i:Int):∃l',dx i n l=some (decide (0<=i/\i<n)&&!mem l i.toNat,l')/\Ds n l'/\∀j,mem l' j=(mem l j||decide ((0<=i/\i<n)/\i.toNat=j)):=by
 unfold dx;rw[uC,qG h];by_cases hi:0<=i/\i<n
 . rw[decide_eq_true hi];cases hm:mem l i.toNat with
   |true=>exact⟨l,rfl,h,fun j=>by
       by_cases hj:i.toNat=j
       . subst hj;simp[hm]
       . simp[hj]⟩
   | false =>
     obtain⟨k,rfl⟩:=W6 hi.1;have hk:k<n:=by omega
     have hn:=h.hn;obtain⟨x,hx,hx2⟩:=h.word hk;have e1:M0 .i64 (bc0 (k:Int) 64)=((k / 64:Nat):Int):=by
       rw[show bc0 (k:Int) 64=((k / 64:Nat):Int)from rfl];exact w64 (by omega) (by omega)
     have e2:bK0 (k:Int) 64=((k % 64:Nat):Int):=rfl;have g:aa l ((k / 64:Nat):Int)=some (x:Int):=by
       unfold aa;rw[if_pos (aj0 _),W2];exact hx
     have E:M0 .u64 ((X0 (O0 .u64) (x:Int) ||| X0 (O0 .u64) (M0 .u64 (1*2 ^ (min (k % 64) (O0 .u64))))).toNat:Int)=((x ||| 2 ^ (k % 64):Nat):Int):=by
       rw[Ca (bM0 k (by decide))];exact orU x _ hx2 (qr (bM0 k (by decide)))
     have hlt:k / 64<l.length:=(V4.1 hx).1;have hmem:∀j,mem (l.set (k / 64) ((x ||| 2 ^ (k % 64):Nat):Int)) j=(mem l j||decide (((0:Int)<=(k:Int)/\(k:Int)<n)/\k=j)):=fun j=>by
       rw[Bv hx];by_cases hj:j / 64=k / 64
       . rw[if_pos hj,LV,ep (by rw[hj];exact hx)];have:(k % 64=j % 64)↔k=j:=by omega
         simp[this,hk]
       . rw[if_neg hj];have:¬ k=j:=fun e=>hj (by rw[e])
         simp[this]
     refine⟨l.set (k / 64) ((x ||| 2 ^ (k % 64):Nat):Int),?_,⟨hn,by rw[ax0];exact h.len,fun w hw=>?_,fun j hj=>?_⟩,hmem⟩
     . rw[e1,e2];simp only[V0,cond_true,cond_false,g,xf (aj0 _),W2,cd0,X7,aE0,E]
     . rcases ch0 hw with hw|rfl
       . exact h.wd w hw
       . have:=dG0 (n:=64) hx2 (qr (bM0 k (by decide)));unfold Wd;omega
     . rw[hmem,h.top j hj];have:¬ k=j:=by omega
       simp[this]
 . rw[decide_eq_false hi];exact⟨l,rfl,h,fun j=>by simp[hi]⟩
theorem qE(x r j:Nat):(x / 2 ^ r*2 ^ r).testBit j=(decide (r<=j)&&x.testBit j):=by
 rw[de0];by_cases h:r<=j
 . rw[Nat.testBit_div_two_pow,Nat.sub_add_cancel h]
 . simp[h]
theorem Hc(x r:Nat)(hx:x<18446744073709551616)(hr:r<64):M0 .u64 ((X8 (x:Int) (2 ^ (min r (O0 .u64))))*2 ^ (min r (O0 .u64)))=((x / 2 ^ r*2 ^ r:Nat):Int):=by
 have h1:min r (O0 .u64)=r:=an0 (bt0 hr);have hp:((2:Int) ^ r)=((2 ^ r:Nat):Int):=by simp
 have h2:X8 (x:Int) ((2 ^ r:Nat):Int)=((x / 2 ^ r:Nat):Int):=by
   rw[ce0 _ (aj0 _)];rfl
 rw[h1,hp,h2,<- fy0];exact dN _ (cT0 (eI0 x (2 ^ r)) hx)
theorem KH{x:Nat}(h0:x≠0)(h:x<18446744073709551616):Lib.ctz 64 x<64/\x.testBit (Lib.ctz 64 x)=true/\∀j,j<Lib.ctz 64 x->x.testBit j=false:=by
 have h':x<2 ^ 64:=h;obtain⟨m,hm,hk⟩:=Lib.ctzFrom_spec 64 x (by omega) h';have e:Lib.ctz 64 x=Lib.ctzFrom 64 x:=by simp[Lib.ctz,h0]
 rw[e];clear e
 revert hm hk
 generalize Lib.ctzFrom 64 x=c;intro hm hk;refine⟨hk,?_,fun j hj=>?_⟩
 . rw[hm,dJ0,de0];simp
 . rw[hm,dJ0,de0];simp[Nat.not_le.2 hj]
theorem GR {n:Int} {l:List Int} (hw:∀ w∈l,Wd w) (hlen:l.length<=20000):∀ (d a w:Nat),a + 1 + d=l.length->w < 18446744073709551616 ->
   ∃ r,loop (jb (n,l)) ((a:Int),(w:Int))=some r/\((r = .inr (-1)/\w=0/\∀ q,a < q->q < l.length->l[q]? = some 0) \/
     ∃b v:Nat,r=.inl ((b:Int),(v:Int))/\v≠0/\v<18446744073709551616/\a<=b/\b<l.length/\((b=a/\v=w)\/(a<b/\w=0/\l[b]?=some (v:Int)))/\∀q,a<q->q<b->l[q]?=some 0):=by
 intro d
 induction d with
 | zero =>
   intro a w ha hx;by_cases h0:w=0
   . subst h0;refine⟨.inr (-1),iA ?_,.inl ⟨rfl,rfl,fun q h1 h2=>by omega⟩⟩;have e:M0 .i64 ((a:Int)+1)=((l.length:Nat):Int):=by rw[w64 (by omega) (by omega)];omega
     unfold jb;simp[e]
   . refine⟨.inl ((a:Int),(w:Int)),iA ?_,.inr ⟨a,w,rfl,h0,hx,X3 a,by omega,.inl ⟨rfl,rfl⟩,fun q h1 h2=>by omega⟩⟩;have h1:¬ ((w:Int)=0):=by omega
     unfold jb;simp[h1,h0]
 | succ d ih =>
   intro a w ha hx;by_cases h0:w=0
   . subst h0;have hlt:a+1<l.length:=by omega
     have hwd:=hw _ (X2 hlt);obtain⟨x,hxe⟩:∃x:Nat,l[a+1]=(x:Int):=⟨l[a+1].toNat,(bn0 hwd.1).symm⟩
     have hx2:x<18446744073709551616:=by have:=hwd.2;rw[hxe]at this;omega
     have hq:l[a+1]?=some (x:Int):=by rw[Z0 hlt,hxe]
     obtain⟨r,h1,h2⟩:=ih (a+1) x (by omega) hx2;have e:M0 .i64 ((a:Int)+1)=((a+1:Nat):Int):=by rw[w64 (by omega) (by omega)];rfl
     have hne:¬ (((a+1:Nat):Int)=((l.length:Nat):Int)):=by omega
     have hg:aa l ((a+1:Nat):Int)=some (x:Int):=by
       unfold aa;rw[if_pos (aj0 _),W2];exact hq
     refine⟨r,(qh (s':=(((a+1:Nat):Int),(x:Int))) ?_).trans h1,?_⟩
     . unfold jb;simp only[e,hg,V0,decide_eq_false hne,cond_false];rfl
     . rcases h2 with⟨h3,h4,h5⟩|⟨b,v,h3,h4,h5,h6,h7,h8,h9⟩
       . refine .inl ⟨h3,rfl,fun q g1 g2=>?_⟩;by_cases hqa:q=a+1
         . subst hqa;rw[hq,h4];rfl
         . exact h5 q (by omega) g2
       . refine .inr ⟨b,v,h3,h4,h5,by omega,h7,.inr ?_,fun q g1 g2=>?_⟩
         . rcases h8 with⟨rfl,rfl⟩|⟨g1,g2,g3⟩
           . exact⟨by omega,rfl,hq⟩
           . exact⟨by omega,rfl,g3⟩
         . by_cases hqa:q=a+1
           . subst hqa
             rcases h8 with⟨rfl,rfl⟩|⟨k1,k2,k3⟩
             . omega
             . rw[hq,k2];rfl
           . exact h9 q (by omega) g2
   . refine⟨.inl ((a:Int),(w:Int)),iA ?_,.inr ⟨a,w,rfl,h0,hx,X3 a,by omega,.inl ⟨rfl,rfl⟩,fun q h1 h2=>by omega⟩⟩;have h1:¬ ((w:Int)=0):=by omega
     unfold jb;simp[h1,h0]
theorem vJ{l:List Int}{j:Nat}(h:∀w,l[j / 64]?=some w->w=0):mem l j=false:=by
 unfold mem;cases hl:l[j / 64]? with
 |none=>rfl
 |some w=>rw[h w hl];simp
theorem Ak {n:Nat} {l:List Int} (h:Ds n l) (i:Int):∃ r,df (some ((n:Int),l)) i=some r/\((r = -1/\∀ j:Nat,i<=(j:Int)->mem l j=false) \/
   ∃k:Nat,r=(k:Int)/\i<=(k:Int)/\mem l k=true/\∀j:Nat,i<=(j:Int)->j<k->mem l j=false):=by
 obtain⟨c,hc⟩:∃c:Nat,(if i<0 then 0 else i)=(c:Int):=⟨(if i<0 then 0 else i).toNat,by split <;> omega⟩
 have hci:∀j:Nat,i<=(j:Int)↔c<=j:=fun j=>by split at hc <;> omega
 have hn:=h.hn;have hl:=h.len;unfold df;simp only[hc,uC,V0];by_cases hk:c<n
 . have hd : decide (0 <= (c : Int) /\ (c : Int) < n) = true := by simpa using hk
   obtain⟨x,hx,hx2⟩:=h.word hk;have e1:M0 .i64 (bc0 (c:Int) 64)=((c / 64:Nat):Int):=by
     rw[show bc0 (c:Int) 64=((c / 64:Nat):Int)from rfl];exact w64 (by omega) (by omega)
   have e2:bK0 (c:Int) 64=((c % 64:Nat):Int):=rfl;have g:aa l ((c / 64:Nat):Int)=some (x:Int):=by
     unfold aa;rw[if_pos (aj0 _),W2];exact hx
   have hr:c % 64<64:=bM0 c (by decide);have hw2:x / 2 ^ (c % 64)*2 ^ (c % 64)<18446744073709551616:=cT0 (eI0 x _) hx2;obtain⟨r,hlp,hcase⟩:=GR (n:=(n:Int)) h.wd (by omega) (l.length-1-c / 64) (c / 64) _ (by omega) hw2;simp only[hd,X7,cond_false,e1,e2,g,V0,xf (aj0 _),W2,Hc x _ hx2 hr,hlp]
   rcases hcase with⟨rfl,h4,h5⟩|⟨b,v,rfl,h4,h5,h6,h7,h8,h9⟩
   . refine⟨-1,rfl,.inl ⟨rfl,fun j hj=>?_⟩⟩;have hj:=(hci j).1 hj;by_cases hja:j / 64=c / 64
     . rw[ep (by rw[hja];exact hx)];have:=qE x (c % 64) (j % 64);rw[h4,cI0]at this;have hle:c % 64<=j % 64:=by omega
       simpa[hle]using this.symm
     . refine vJ (fun w hw=>?_);have hlt:=(V4.1 hw).1;rw[h5 (j / 64) (by omega) hlt]at hw;exact (ap0 hw).symm
   . obtain⟨t1,t2,t3⟩:=KH h4 h5;have ht:tzF (v:Int)=some ((Lib.ctz 64 v:Nat):Int):=by
       unfold tzF;rw[if_pos ⟨aj0 _,by omega⟩,W2]
     have e3:M0 .i64 (M0 .i64 ((b:Int)*64)+((Lib.ctz 64 v:Nat):Int))=((b*64+Lib.ctz 64 v:Nat):Int):=by
       rw[w64 (x:=(b:Int)*64) (by omega) (by omega),w64 (by omega) (by omega)];omega
     refine⟨((b*64+Lib.ctz 64 v:Nat):Int),by simp only[ht,V0,e3],.inr ⟨_,rfl,?_⟩⟩;generalize Lib.ctz 64 v=z at t1 t2 t3;have d1:(b*64+z) / 64=b:=by omega
     have d2:(b*64+z) % 64=z:=by omega
     rcases h8 with⟨rfl,rfl⟩|⟨g1,g2,g3⟩
     . rw[qE,Y1]at t2;have hz:c % 64<=z:=by simpa using t2.1
       refine⟨(hci _).2 (by omega),?_,fun j hj hjk=>?_⟩
       . rw[ep (x:=x) (by rw[d1];exact hx),d2];exact t2.2
       . have hj:=(hci j).1 hj;have:=t3 (j % 64) (by omega);rw[qE]at this;rw[ep (by rw[show j / 64=c / 64 by omega];exact hx)];have hle:c % 64<=j % 64:=by omega
         simpa[hle]using this
     . refine⟨(hci _).2 (by omega),?_,fun j hj hjk=>?_⟩
       . rw[ep (x:=v) (by rw[d1];exact g3),d2];exact t2
       . have hj:=(hci j).1 hj;by_cases hja:j / 64=c / 64
         . rw[ep (by rw[hja];exact hx)];have:=qE x (c % 64) (j % 64);rw[g2,cI0]at this;have hle:c % 64<=j % 64:=by omega
           simpa[hle]using this.symm
         . by_cases hjb:j / 64=b
           . rw[ep (by rw[hjb];exact g3)];exact t3 _ (by omega)
           . exact vJ (fun w hw=>by
               rw[h9 (j / 64) (by omega) (by omega)]at hw;exact (ap0 hw).symm)
 . have hd:decide (0<=(c:Int)/\(c:Int)<n)=false:=by simpa using hk
   simp only[hd,aE0,cond_true];exact⟨-1,rfl,.inl ⟨rfl,fun j hj=>h.top j (by have:=(hci j).1 hj;omega)⟩⟩
theorem wy(m j:Nat):mem (Z2 m 0) j=false:=vJ (fun w hw=>by
 rw[df0]at hw;split at hw
 . exact (ap0 hw).symm
 . cases hw)
theorem Dc{n:Nat}(h:n<=1048576):Ds n (Z2 ((n+63) / 64) 0) :=
 ⟨h,X9,fun w hw=>by
   obtain⟨_,rfl⟩:=cV0.1 hw;exact⟨cn0 _,by decide⟩,fun j _=>wy _ j⟩
theorem AX(n:Int):fX n=if n<0 then some (.inl 2)else if 1048576<n then some (.inl 5)else some (.inr (0,n,Z2 ((n.toNat+63) / 64) 0)):=by
 unfold fX;by_cases h1:n<0
 . simp[h1]
 . by_cases h2:1048576<n
   . simp[h1,h2]
   . obtain⟨k,rfl⟩:=W6 (by omega:0<=n);have e:M0 .i64 (bc0 (M0 .i64 (M0 .i64 ((k:Int)+64)-1)) 64)=(((k+63) / 64:Nat):Int):=by
       rw[w64 (x:=(k:Int)+64) (by omega) (by omega),w64 (x:=(k:Int)+64-1) (by omega) (by omega),show (k:Int)+64-1=((k+63:Nat):Int)by omega];rw[show bc0 ((k+63:Nat):Int) 64=(((k+63) / 64:Nat):Int)from rfl];exact w64 (by omega) (by omega)
     rw[e];have hm:(mk ((((k+63) / 64:Nat):Int)) ((((k+63) / 64:Nat):Int)) (0:Int))=some (Z2 ((k+63) / 64) 0):=by
       unfold mk;rw[if_pos (by constructor <;> omega),W2]
     rw[hm];simp[h1,h2]
def cD(n:Nat)(l:List Int):List Nat:=(Z1 n).filter (mem l)
def liN(L:List Nat):List Int:=L.map ey0
theorem qg{p:Nat->Bool}{c:Nat}:∀(d:Nat),(∀j,c<=j->j<c+d->p j=false)->(Z1 (c+d)).filter p=(Z1 c).filter p
 |0,_=>rfl
 | d + 1,h=>by
   rw[<- aG0,aU0,aB0,qg d (fun j h1 h2=>h j h1 (by omega))];simp[h (c+d) (by omega) (by omega)]
theorem qb(p:Nat->Bool)(c:Nat):((Z1 c).filter p).length<=c:=by
 have:=aa0 p (Z1 c);simpa using this
theorem CA{n:Nat}{l:List Int}(h:Ds n l){body:Int×List Int->Option ((Int×List Int)⊕List Int)}
   (hb:∀(c:List Int) (k:Nat),mem l k=true->body ((k:Int),c)=(app c [(k:Int)]).bind fun z=>(df (some ((n:Int),l)) ((k:Int)+1)).bind fun i=>some (.inl (i,z))) (he:∀c,body (-1,c)=some (.inr c)) :
   ∃r,df (some ((n:Int),l)) 0=some r/\loop body (r,[])=some (liN (cD n l)):=by
 have hn:=h.hn;have lt_of:∀k,mem l k=true->k<n:=fun k hk=>by
   rcases aq0 k n with h1|h1
   . exact h1
   . rw[h.top k h1]at hk;cases hk
 have key:∀(r:Int) (acc:List Int),(∃c:Nat,c<=n/\acc=liN ((Z1 c).filter (mem l))/\((r = -1/\∀j:Nat,(c:Int)<=(j:Int)->mem l j=false)\/∃k:Nat,r=(k:Int)/\(c:Int)<=(k:Int)/\mem l k=true/\∀j:Nat,(c:Int)<=(j:Int)->j<k->mem l j=false)) ->
     loop body (r,acc)=some (liN (cD n l)):=by
   intro r acc hI;refine Bx (fun s=>∃c:Nat,c<=n/\s.2=liN ((Z1 c).filter (mem l))/\((s.1 = -1/\∀j:Nat,(c:Int)<=(j:Int)->mem l j=false)\/∃k:Nat,s.1=(k:Int)/\(c:Int)<=(k:Int)/\mem l k=true/\∀j:Nat,(c:Int)<=(j:Int)->j<k->mem l j=false)) (fun s=>if s.1<0 then 0 else n+1-s.1.toNat) ?_ (s:=(r,acc)) hI;rintro⟨r,acc⟩ ⟨c,hcn,rfl,hr⟩
   rcases hr with⟨rfl,h2⟩|⟨k,rfl,h2,h3,h4⟩
   . right
     have e:cD n l=(Z1 c).filter (mem l):=by
       unfold cD;have:=qg (p:=mem l) (c:=c) (n-c) (fun j h1 _=>h2 j (by omega));rw[show c+(n-c)=n by omega]at this;exact this
     rw[e];exact he _
   . left
     have hk:=lt_of k h3;obtain⟨r',g1,g2⟩:=Ak h (((k+1:Nat):Int));have e1:(k:Int)+1=((k+1:Nat):Int):=rfl;have e2:(Z1 (k+1)).filter (mem l)=(Z1 c).filter (mem l)++[k]:=by
       have:=qg (p:=mem l) (c:=c) (k-c) (fun j h5 h6=>h4 j (by omega) (by omega));rw[show c+(k-c)=k by omega]at this;rw[aU0,aB0,this];simp[h3]
     have e3:app (liN ((Z1 c).filter (mem l))) [(k:Int)]=some (liN ((Z1 (k+1)).filter (mem l))):=by
       have:=qb (mem l) c;unfold app;rw[if_pos (by simp[liN];omega),e2];simp[liN]
     refine⟨(r',liN ((Z1 (k+1)).filter (mem l))),?_,⟨k+1,by omega,rfl,g2⟩,?_⟩
     . rw[hb _ k h3];simp only[e3,e1,g1,V0]
     . show (if r'<0 then 0 else n+1-r'.toNat)<(if (k:Int)<0 then 0 else n+1-(k:Int).toNat);rw[if_neg (by omega:¬ (k:Int)<0),W2]
       rcases g2 with⟨rfl,_⟩|⟨k',rfl,k1,k2,_⟩
       . simp;omega
       . rw[if_neg (by omega:¬ (k':Int)<0),W2];have:=lt_of k' k2;omega
 obtain⟨r,g1,g2⟩:=Ak h 0;exact⟨r,g1,key r [] ⟨0,ah0 n,rfl,g2⟩⟩
theorem Kg{n:Nat}{l:List Int}(h:Ds n l)(k:Nat):cE (some ((n:Int),l)) (k:Int)=some (mem l k):=by
 rw[qG h,W2];cases hm:mem l k with
 |false=>simp
 | true =>
   have:k<n:=by
     rcases aq0 k n with h1|h1
     . exact h1
     . rw[h.top k h1]at hm;cases hm
   simp[this]
def pc:Nat->Nat->Nat
 |0,_=>0
 |n+1,x=>(x % 2)+pc n (x / 2)
theorem mN(a b y M:Nat)(ha:a<256)(hb:b<256):(a+256*y) &&& (b+256*M)=(a &&& b)+256*(y &&& M):=by
 have h1:a &&& b<256:=eQ0 (n:=8) a hb;apply du0;intro i;have e:∀(u v:Nat),u<256->(u+256*v).testBit i=if i<8 then u.testBit i else v.testBit (i-8):=fun u v hu=>by
   rw[bh0,show 256*v=2 ^ 8*v from rfl,Nat.testBit_two_pow_mul_add v (show u<2 ^ 8 from hu)]
 rw[dm0,e a y ha,e b M hb,e _ _ h1];split <;> simp[dm0]
theorem qC(P:Nat->Bool)(h:(Z1 256).all P=true){a:Nat}(ha:a<256):P a=true:=aF0.1 h a (V7.2 ha)
def s1(M x:Nat):Nat:=((x / 2) &&& M)+(x &&& M)
def s2(M x:Nat):Nat:=((x / 4) &&& M)+(x &&& M)
def s3(M x:Nat):Nat:=(x / 16+x) &&& M
theorem Iq(a y M:Nat)(ha:a<256):s1 (85+256*M) (a+256*y)=s1 85 a+256*s1 M y:=by
 unfold s1;have h2:(a+256*y) / 2=(a / 2+128*(y % 2))+256*(y / 2):=by omega
 have h3:(a / 2+128*(y % 2)) &&& 85=(a / 2) &&& 85:=by
   have h4:y % 2=0\/y % 2=1:=by omega
   rcases h4 with h4|h4
   . rw[h4];rfl
   . rw[h4];have:=qC (fun a=>decide (((a / 2+128*1) &&& 85)=((a / 2) &&& 85))) (by decide +kernel) ha;exact of_decide_eq_true this
 rw[mN a 85 y M ha (by decide),h2,mN _ 85 _ M (by omega) (by decide),h3];omega
theorem LB{a:Nat}(ha:a<256):s1 85 a<256:=by
 have:=qC (fun a=>decide (s1 85 a<256)) (by decide +kernel) ha;exact of_decide_eq_true this
theorem IX(a y M:Nat)(ha:a<256):s2 (51+256*M) (a+256*y)=s2 51 a+256*s2 M y:=by
 unfold s2;have h2:(a+256*y) / 4=(a / 4+64*(y % 4))+256*(y / 4):=by omega
 have h3:(a / 4+64*(y % 4)) &&& 51=(a / 4) &&& 51:=by
   have h4:y % 4=0\/y % 4=1\/y % 4=2\/y % 4=3:=by omega
   have:=qC (fun a=>decide (((a / 4+64*1) &&& 51)=((a / 4) &&& 51)/\((a / 4+64*2) &&& 51)=((a / 4) &&& 51)/\((a / 4+64*3) &&& 51)=((a / 4) &&& 51))) (by decide +kernel) ha;have:=of_decide_eq_true this
   rcases h4 with h4 |h4 |h4|h4 <;> rw[h4]
   . rfl
   . exact this.1
   . exact this.2.1
   . exact this.2.2
 rw[mN a 51 y M ha (by decide),h2,mN _ 51 _ M (by omega) (by decide),h3];omega
theorem Cd{a:Nat}(ha:a<256):((s2 51 (s1 85 a)) / 16+(s2 51 (s1 85 a)) % 16)=pc 8 a/\(s2 51 (s1 85 a)) % 16<=4/\(s2 51 (s1 85 a)) / 16<=4/\s2 51 (s1 85 a)<256/\pc 8 a<=8:=by
 have:=qC (fun a=>decide (((s2 51 (s1 85 a)) / 16+(s2 51 (s1 85 a)) % 16)=pc 8 a/\(s2 51 (s1 85 a)) % 16<=4/\(s2 51 (s1 85 a)) / 16<=4/\s2 51 (s1 85 a)<256/\pc 8 a<=8)) (by decide +kernel) ha;exact of_decide_eq_true this
theorem IV(a y M:Nat)(ha:a<256)(h1:a % 16<=4)(h2:a / 16<=4)(h3:y % 16<=4):s3 (15+256*M) (a+256*y)=(a / 16+a % 16)+256*s3 M y:=by
 unfold s3;have e:(a+256*y) / 16+(a+256*y)=(a / 16+a % 16+16*(a / 16+y % 16))+256*(y / 16+y):=by omega
 rw[e,mN _ 15 _ M (by omega) (by decide)];have:(a / 16+a % 16+16*(a / 16+y % 16)) &&& 15=a / 16+a % 16:=by
   rw[show (15:Nat)=2 ^ 4-1 from rfl,dK0];omega
 rw[this]
theorem CT:∀(n m x:Nat),pc (n+m) x=pc n x+pc m (x / 2 ^ n)
 |0,m,x=>by simp[pc]
 | n + 1,m,x=>by
   rw[show n+1+m=(n+m)+1 by omega,show pc ((n+m)+1) x=x % 2+pc (n+m) (x / 2)from rfl,show pc (n+1) x=x % 2+pc n (x / 2)from rfl];rw[CT n m,Nat.div_div_eq_div_mul,Nat.pow_succ,dJ0 2];omega
theorem LM(a y:Nat)(ha:a<256):pc 8 (a+256*y)=pc 8 a:=by
 unfold pc pc pc pc pc pc pc pc pc;omega
def fv:Nat->Nat->Nat
 |_,0=>0
 |b,n+1=>b+256*fv b n
def pcs:Nat->Nat->Nat
 |0,_=>0
 |n+1,x=>pc 8 (x % 256)+256*pcs n (x / 256)
theorem Qb (n:Nat):∀ x,x < 256 ^ n->s3 (fv 15 n) (s2 (fv 51 n) (s1 (fv 85 n) x))=pcs n x/\(s2 (fv 51 n) (s1 (fv 85 n) x)) % 16<=4:=by
 induction n with
 | zero => intro x hx; have : x = 0 := by simp at hx; omega
           subst this;decide
 | succ n ih =>
   intro x hx;have hx2:x / 256<256 ^ n:=by
     rw[Nat.pow_succ]at hx;exact Nat.div_lt_of_lt_mul (by rw[dJ0];exact hx)
   obtain⟨i1,i2⟩:=ih _ hx2;have ha:x % 256<256:=bM0 _ (by decide);obtain⟨b1,b2,b3,b4,b5⟩:=Cd ha;have e:x=x % 256+256*(x / 256):=by omega
   unfold fv;have e1:s1 (85+256*fv 85 n) x=s1 85 (x % 256)+256*s1 (fv 85 n) (x / 256):=by
     conv=>lhs;rw[e]
     exact Iq _ _ _ ha
   rw[e1,IX _ _ _ (LB ha),IV _ _ _ b4 b2 b3 i2,i1,b1];refine⟨rfl,?_⟩;omega
theorem KQ(x:Nat)(hx:x<18446744073709551616):s3 1085102592571150095 (s2 3689348814741910323 (s1 6148914691236517205 x))=pcs 8 x :=
 (Qb 8 x hx).1
theorem Na(x:Nat):∃p0 p1 p2 p3 p4 p5 p6 p7:Nat,pcs 8 x=p0+256*(p1+256*(p2+256*(p3+256*(p4+256*(p5+256*(p6+256*(p7+256*0)))))))/\pc 64 x=p0+p1+p2+p3+p4+p5+p6+p7/\p0<=8/\p1<=8/\p2<=8/\p3<=8/\p4<=8/\p5<=8/\p6<=8/\p7<=8:=by
 have h:∀y,pc 8 (y % 256)<=8:=fun y=>(Cd (bM0 y (by decide))).2.2.2.2
 have g:∀m y,pc (8+m) y=pc 8 (y % 256)+pc m (y / 256):=fun m y=>by
   rw[CT 8 m]
   congr 1
   conv=>lhs;rw[show y=y % 256+256*(y / 256)by omega]
   exact LM _ _ (bM0 _ (by decide))
 refine⟨_,_,_,_,_,_,_,_,rfl,?_,h _,h _,h _,h _,h _,h _,h _,h _⟩;rw[show (64:Nat)=8+(8+(8+(8+(8+(8+(8+(8+0)))))))from rfl,g,g,g,g,g,g,g,g];simp only[pc];omega
theorem dv{k L R x:Nat}(hk:0<k)(h:x=L+k*R)(hL:L<k):x / k=R:=by
 rw[h,Nat.add_mul_div_left _ _ hk,fi0 hL,Y8]
theorem UR{y z u v s:Nat}{p0 p1 p2 p3 p4 p5 p6 p7:Nat}(hy:y=p0+256*(p1+256*(p2+256*(p3+256*(p4+256*(p5+256*(p6+256*(p7+256*0))))))))(hs:s=p0+p1+p2+p3+p4+p5+p6+p7)(h0:p0<=8)(h1:p1<=8)(h2:p2<=8)(h3:p3<=8)(h4:p4<=8)(h5:p5<=8)(h6:p6<=8)(h7:p7<=8)
   (hz:z=y+y / 256) (hu:u=z+z / 65536) (hv:v=u+u / 4294967296):v % 128=s/\v<9223372036854775808:=by
 have e1:y / 256=p1+256*(p2+256*(p3+256*(p4+256*(p5+256*(p6+256*p7))))):=dv (L:=p0) (by decide) (by rw[hy];rfl) (by omega);rw[e1,hy]at hz;have e2:z / 65536=(p2+p3)+256*((p3+p4)+256*((p4+p5)+256*((p5+p6)+256*((p6+p7)+256*p7)))):=dv (L:=(p0+p1)+256*(p1+p2)) (by decide) (by rw[hz];clear hz hu hv hy e1;omega) (by clear hz hu hv hy e1;omega);rw[e2,hz]at hu;clear e1 e2 hz hy;have e3:u / 4294967296=(p4+p5+p6+p7)+256*((p5+p6+p7)+256*((p6+p7)+256*p7)):=dv (L:=(p0+p1+p2+p3)+256*((p1+p2+p3+p4)+256*((p2+p3+p4+p5)+256*(p3+p4+p5+p6)))) (by decide) (by rw[hu];clear hu hv;omega) (by clear hu hv;omega);rw[e3,hu]at hv;clear e3 hu;refine⟨?_,by omega⟩;have:v=s+128*(2*((p1+p2+p3+p4+(p5+p6+p7))+256*((p2+p3+p4+p5+(p6+p7))+256*((p3+p4+p5+p6+p7)+256*((p4+p5+p6+p7)+256*((p5+p6+p7)+256*((p6+p7)+256*p7))))))):=by rw[hv,hs];clear hv hs;omega
 rw[this,Nat.add_mul_mod_self_left];exact ak0 (by omega)

def ocA(x m:Int):Int:=M0 .u64 ((X0 (O0 .u64) x &&& X0 (O0 .u64) m).toNat:Int)
def ocS(x:Int)(k:Nat):Int:=X8 x (2 ^ (min k (O0 .u64)))
def oc1(x:Int):Int:=M0 .u64 (ocA (ocS x 1) 6148914691236517205+ocA x 6148914691236517205)
def oc2(x:Int):Int:=M0 .u64 (ocA (ocS x 2) 3689348814741910323+ocA x 3689348814741910323)
def oc3(x:Int):Int:=ocA (M0 .u64 (ocS x 4+x)) 1085102592571150095
def oc4(x:Int):Int:=M0 .u64 (x+ocS x 8)
def oc5(x:Int):Int:=M0 .u64 (x+ocS x 16)
def oc6(x:Int):Int:=M0 .u64 (x+ocS x 32)
theorem Hk(x:Int):oc x=some (M0 .i64 ((X0 (O0 .i64) (M0 .i64 (oc6 (oc5 (oc4 (oc3 (oc2 (oc1 x))))))) &&& X0 (O0 .i64) 127).toNat:Int)):=rfl
theorem nc(x m:Nat)(M:Int)(hM:M=(m:Int))(hx:x<18446744073709551616)(hm:m<18446744073709551616):ocA (x:Int) M=((x &&& m:Nat):Int):=by
 rw[hM];exact Er x m hx hm
theorem kb(x k:Nat)(hk:k<64):ocS (x:Int) k=((x / 2 ^ k:Nat):Int):=by
 unfold ocS;have h1:min k (O0 .u64)=k:=an0 (bt0 hk);have hp:((2:Int) ^ k)=((2 ^ k:Nat):Int):=by simp
 rw[h1,hp,ce0 _ (aj0 _)];rfl
theorem gz(x m:Nat):x &&& m<=m:=Nat.and_le_right
theorem Mo(x:Nat)(hx:x<18446744073709551616):oc1 (x:Int)=((s1 6148914691236517205 x:Nat):Int):=by
 unfold oc1 s1;rw[kb x 1 (by decide),nc (x / 2 ^ 1) 6148914691236517205 6148914691236517205 rfl (by omega) (by decide),nc x 6148914691236517205 6148914691236517205 rfl hx (by decide),<- bG0];have b1:=gz (x / 2 ^ 1) 6148914691236517205;have b2:=gz x 6148914691236517205;exact dN _ (by omega)
theorem L5(x:Nat)(hx:x<18446744073709551616):oc2 (x:Int)=((s2 3689348814741910323 x:Nat):Int):=by
 unfold oc2 s2;rw[kb x 2 (by decide),nc (x / 2 ^ 2) 3689348814741910323 3689348814741910323 rfl (by omega) (by decide),nc x 3689348814741910323 3689348814741910323 rfl hx (by decide),<- bG0];have b1:=gz (x / 2 ^ 2) 3689348814741910323;have b2:=gz x 3689348814741910323;exact dN _ (by omega)
theorem La(z:Nat)(hz:z<=7378697629483820646):oc3 (z:Int)=((s3 1085102592571150095 z:Nat):Int):=by
 unfold oc3 s3;rw[kb z 4 (by decide),<- bG0,dN _ (by omega),nc _ 1085102592571150095 1085102592571150095 rfl (by omega) (by decide)]
theorem MZ(x:Nat):s1 6148914691236517205 x<18446744073709551616:=by
 have b1:=gz (x / 2) 6148914691236517205;have b2:=gz x 6148914691236517205;unfold s1;omega
theorem Ox(x:Nat):s2 3689348814741910323 x<=7378697629483820646:=by
 have b1:=gz (x / 4) 3689348814741910323;have b2:=gz x 3689348814741910323;unfold s2;omega
theorem Mm(w:Nat)(h:w+w / 256<18446744073709551616):oc4 (w:Int)=((w+w / 256:Nat):Int):=by
 unfold oc4;rw[kb w 8 (by decide),<- bG0];exact dN _ h
theorem Lk(w:Nat)(h:w+w / 65536<18446744073709551616):oc5 (w:Int)=((w+w / 65536:Nat):Int):=by
 unfold oc5;rw[kb w 16 (by decide),<- bG0];exact dN _ h
theorem Lq(w:Nat)(h:w+w / 4294967296<18446744073709551616):oc6 (w:Int)=((w+w / 4294967296:Nat):Int):=by
 unfold oc6;rw[kb w 32 (by decide),<- bG0];exact dN _ h
theorem LR(v:Nat)(h:v<9223372036854775808):M0 .i64 ((X0 (O0 .i64) (M0 .i64 (v:Int)) &&& X0 (O0 .i64) 127).toNat:Int)=((v % 128:Nat):Int):=by
 rw[w64 (x:=(v:Int)) (by omega) (by omega)];show M0 .i64 ((X0 64 (v:Int) &&& X0 64 ((127:Nat):Int)).toNat:Int)=_;rw[fZ,fZ,fr0,bX0,bX0,ak0 (by omega),ak0 (by decide),show (127:Nat)=2 ^ 7-1 from rfl,dK0];exact w64 (by omega) (by omega)
theorem H7(w s:Nat)(h:∃p0 p1 p2 p3 p4 p5 p6 p7:Nat,w=p0+256*(p1+256*(p2+256*(p3+256*(p4+256*(p5+256*(p6+256*(p7+256*0)))))))/\s=p0+p1+p2+p3+p4+p5+p6+p7/\p0<=8/\p1<=8/\p2<=8/\p3<=8/\p4<=8/\p5<=8/\p6<=8/\p7<=8) :
   M0 .i64 ((X0 (O0 .i64) (M0 .i64 (oc6 (oc5 (oc4 (w:Int))))) &&& X0 (O0 .i64) 127).toNat:Int)=((s:Nat):Int):=by
 obtain⟨p0,p1,p2,p3,p4,p5,p6,p7,q,qs,c0,c1,c2,c3,c4,c5,c6,c7⟩:=h;obtain⟨r1,r2⟩:=UR q qs c0 c1 c2 c3 c4 c5 c6 c7 rfl rfl rfl;clear q qs c0 c1 c2 c3 c4 c5 c6 c7;generalize h1:w+w / 256=w1 at *;generalize h2:w1+w1 / 65536=w2 at *;generalize h3:w2+w2 / 4294967296=w3 at *;rw[Mm w (by omega),h1,Lk w1 (by omega),h2,Lq w2 (by omega),h3,LR w3 r2,r1]
theorem KG(x:Nat)(hx:x<18446744073709551616):oc (x:Int)=some ((pc 64 x:Nat):Int):=by
 rw[Hk,Mo x hx,L5 _ (MZ x),La _ (Ox _),KQ x hx];exact congrArg some (H7 _ _ (Na x))
theorem vn:∀(n x:Nat),pc n x=((Z1 n).filter (fun i=>x.testBit i)).length
 |0,_=>rfl
 | n + 1,x=>by
   have e:(fun i=>x.testBit i) ∘ Nat.succ=fun i=>(x / 2).testBit i:=funext fun i=>by
     show x.testBit (i+1)=_;rw[Nat.testBit_succ]
   rw[show pc (n+1) x=x % 2+pc n (x / 2)from rfl,vn n (x / 2),List.range_succ_eq_map,aZ0,fv0,e];have h0:x.testBit 0=decide (x % 2=1):=Nat.testBit_zero x;rw[h0];by_cases h:x % 2=1
   . rw[if_pos (decide_eq_true h),V9,Y6,h];omega
   . rw[if_neg (by simpa using h),Y6];omega
def cZ(l:List Int):Nat:=(l.map fun w=>pc 64 w.toNat).sum
theorem mem_cons(w:Int)(l:List Int)(i:Nat):mem (w::l) i=if i<64 then w.toNat.testBit i else mem l (i-64):=by
 unfold mem;by_cases h:i<64
 . rw[if_pos h,fi0 h,ak0 h];rfl
 . rw[if_neg h,show i / 64=(i-64) / 64+1 by omega,show i % 64=(i-64) % 64 by omega];rfl
theorem Cs:∀l:List Int,((Z1 (64*l.length)).filter (mem l)).length=cZ l
 |[]=>rfl
 | w :: l=>by
   rw[show 64*(w::l).length=64+64*l.length by simp;omega,List.range_add,aB0,W3,fv0,Y6];have e1:(Z1 64).filter (mem (w::l))=(Z1 64).filter (fun i=>w.toNat.testBit i):=bm0 fun i hi=>by
     rw[mem_cons,if_pos (V7.1 hi)]
   have e2:(mem (w::l)) ∘ (64 + ·)=mem l:=funext fun i=>by
     show mem (w::l) (64+i)=_;rw[mem_cons,if_neg (by omega),cp0]
   rw[e1,e2,Cs l,<- vn];simp[cZ]
theorem I6{n:Nat}{l:List Int}(h:Ds n l):(cD n l).length=cZ l:=by
 have hl:=h.len;rw[<- Cs];have:=qg (p:=mem l) (c:=n) (64*l.length-n) (fun j h1 _=>h.top j h1);rw[show n+(64*l.length-n)=64*l.length by omega]at this;rw[this];rfl
theorem Np(n x:Nat):pc n x<=n:=by
 rw[vn];exact qb _ _
theorem zW{l:List Int}{k:Nat}(hk:k<l.length):cZ (l.take (k+1))=cZ (l.take k)+pc 64 (l[k]).toNat:=by
 unfold cZ;rw[aH hk,X6,dT0];simp
theorem Gk{n:Nat}{l:List Int}(h:Ds n l):lz (some ((n:Int),l))=some (((cD n l).length:Nat):Int):=by
 have hn:=h.hn;have hl:=h.len;have hb:∀k,k<=l.length->cZ (l.take k)<=64*k:=fun k=>by
   induction k with
   |zero=>intro _;simp[cZ]
   | succ k ih =>
     intro hk;have:=ih (by omega);have h2:=Np 64 (l[k]).toNat;rw[zW (by omega:k<l.length)];omega
 unfold lz;have hlp:loop (lg ((n:Int),l)) ((0:Int),(0:Int))=some ((cZ l:Nat):Int):=by
   have:=aC (body:=lg ((n:Int),l)) (fun k:Nat=>(((cZ (l.take k):Nat):Int),(k:Int))) l.length (b:=((cZ l:Nat):Int)) ?_ ?_
   . exact this
   . intro k hk;unfold lg;have hw:=h.wd _ (X2 hk);unfold Wd at hw;obtain⟨x,hx⟩:=W6 hw.1;have ho:=KG x (by omega);rw[<- hx]at ho;have hp:l[k].toNat=x:=by omega
     have h1:=hb k (by omega);have h2:=hb (k+1) (by omega);have e:cZ (l.take (k+1))=cZ (l.take k)+pc 64 x:=by
       rw[zW hk,hp]
     simp only[dlt hk,cond_true,aj hk,ho,V0];rw[an hk (by omega),e,w64 (by omega) (by omega),<- bG0]
   . unfold lg;simp
 simp only[aA0,cond_false,V0];rw[hlp,I6 h];rfl
section
structure Qr{α:Type}(ring:List α)(f m:Int)(l:List α):Prop where
 m_:m=((l.length:Nat):Int)
 f0:0<=f
 fl:(ring=[]/\f=0)\/f<((ring.length:Nat):Int)
 le:l.length<=ring.length
 sz:ring.length<=100000000
 at_:∀i x,l[i]?=some x->ring[(f.toNat+i) % ring.length]?=some x
theorem Qr.nil{α:Type}:Qr ([]:List α) 0 0 []:=⟨rfl,cn0 0,.inl ⟨rfl,rfl⟩,X3 _,by simp,fun i x h=>by simp at h⟩
section
variable {α β:Type}{ring:List α}{f m:Int}{l:List α}
theorem HG(z:α)(a:List α)(k:Nat)(h:a.length<=k):cpy (Z2 k z) 0 (a.take k)=a++Z2 (k-a.length) z:=by
 unfold cpy;rw[V8 h];simp
theorem HD(z:α)(h0:0<=f)(h1:f<=((ring.length:Nat):Int))(hs:ring.length<=100000000)(K:List α->Option β) :
   (mk (M0 .i64 ((M0 .i64 (2*(((ring.length:Nat):Int))))+1)) (M0 .i64 ((M0 .i64 (2*(((ring.length:Nat):Int))))+1)) z:Option (List α)).bind (fun z15=>(subL ring f (((ring.length:Nat):Int))).bind fun _=>(some (cpy z15 ((0:Int).toNat) ((cu0 (f:Int).toNat (cF0 (((ring.length:Nat):Int):Int).toNat ring)).take (z15.length-(0:Int).toNat)))).bind fun z20=>(subL z20 (((min (cu0 (f:Int).toNat (cF0 (((ring.length:Nat):Int):Int).toNat ring)).length (z15.length-(0:Int).toNat):Nat):Int)) (((z15.length:Nat):Int))).bind fun _=>(subL ring 0 f).bind fun _=>(some (cpy z20 ((((min (cu0 (f:Int).toNat (cF0 (((ring.length:Nat):Int):Int).toNat ring)).length (z15.length-(0:Int).toNat):Nat):Int):Int).toNat) ((cu0 (0:Int).toNat (cF0 (f:Int).toNat ring)).take (((((z15.length:Nat):Int):Int).toNat)-(((min (cu0 (f:Int).toNat (cF0 (((ring.length:Nat):Int):Int).toNat ring)).length (z15.length-(0:Int).toNat):Nat):Int):Int).toNat)))).bind fun z22=>K z22)
     = K (ring.drop f.toNat++(ring.take f.toNat++Z2 (ring.length+1) z)):=by
 have w1:M0 .i64 (2*(((ring.length:Nat):Int)))=2*((ring.length:Nat):Int):=w64 (by omega) (by omega);have w2:M0 .i64 (2*((ring.length:Nat):Int)+1)=((2*ring.length+1:Nat):Int):=by rw[w64 (by omega) (by omega)];omega
 obtain⟨k,rfl⟩:=W6 h0;have hk:k<=ring.length:=by omega
 have hmk:mk ((2*ring.length+1:Nat):Int) ((2*ring.length+1:Nat):Int) z=some (Z2 (2*ring.length+1) z):=by
   unfold mk;rw[if_pos ⟨by omega,cn0 _,by omega⟩,W2]
 rw[w1,w2,hmk];simp only[V0,W2,cj0,Y9,er0,X9,ab0,W8];have hmin:min (ring.length-k) (2*ring.length+1)=ring.length-k:=by omega
 rw[hmin,dH (by omega) (by omega) (by omega)];simp only[V0];have hl:(ring.drop k).length<=2*ring.length+1:=by rw[W8];omega
 rw[HG z (ring.drop k) _ hl,dH (by omega) (by omega) (by simp;omega),dH (by omega) (by omega) (by omega)];simp only[V0,W2]
 congr 1
 unfold cpy;have hd:(ring.drop k).length=ring.length-k:=W8;have ht:(ring.take k).length=k:=by rw[X4];omega
 rw[V8 (l:=ring.take k) (by rw[ht];omega),ht,au0 (by rw[hd];exact X3 _),V8 (l:=ring.drop k) (by rw[hd];exact X3 _),fp0,eq0 (l:=ring.drop k) (by rw[hd];omega),hd,aH0,List.drop_replicate]
 congr 3
 omega
theorem Qr.grow(z:α)(h:Qr ring f m l)(he:m=((ring.length:Nat):Int))(hl:l.length<=10000000):Qr (ring.drop f.toNat++(ring.take f.toNat++Z2 (ring.length+1) z)) 0 m l/\l.length<(ring.drop f.toNat++(ring.take f.toNat++Z2 (ring.length+1) z)).length:=by
 have hn:l.length=ring.length:=by have:=h.m_;omega
 have hf:f.toNat<=ring.length:=by rcases h.fl with⟨h1,h2⟩|h1 <;> omega
 have hlen:(ring.drop f.toNat++(ring.take f.toNat++Z2 (ring.length+1) z)).length=2*ring.length+1:=by simp;omega
 refine⟨⟨h.m_,cn0 0,.inr (by rw[hlen];omega),by rw[hlen];omega,by rw[hlen];omega,fun i x hx=>?_⟩,by rw[hlen];omega⟩;have hi:i<l.length:=(V4.1 hx).1;have h1:=h.at_ i x hx;rw[hlen,cj0,Y8,ak0 (by omega)];by_cases hc:f.toNat+i<ring.length
 . rw[ak0 hc]at h1;rw[V6 (by rw[W8];omega),bf0];exact h1
 . rw[co0 (by omega),ak0 (by omega)]at h1;rw[V5 (by rw[W8];omega),W8,V6 (by rw[X4];omega),aM0,if_pos (by omega)];rw[<- h1]
   congr 1
   omega
theorem Bf(a b:Nat):bK0 (a:Int) (b:Int)=((a % b:Nat):Int):=rfl
theorem Qr.push(x:α)(h:Qr ring f m l)(hl:l.length<ring.length):bK0 (M0 .i64 (f+m)) ((ring.length:Nat):Int)=(((f.toNat+l.length) % ring.length:Nat):Int)/\(f.toNat+l.length) % ring.length<ring.length/\M0 .i64 (m+1)=((l.length+1:Nat):Int)/\Qr (ring.set ((f.toNat+l.length) % ring.length) x) f ((l.length+1:Nat):Int) (l++[x]):=by
 have hm:=h.m_;have hf:=h.f0;have hs:=h.sz;have hfl:f<((ring.length:Nat):Int):=by rcases h.fl with⟨h1,_⟩|h1;(subst h1;simp at hl);exact h1
 have hp:0<ring.length:=by omega
 have hlt:=bM0 (f.toNat+l.length) hp;refine⟨?_,hlt,?_,⟨by simp,hf,.inr (by rw[ax0];exact hfl),by rw[ax0];simp;omega,by rw[ax0];exact hs,fun i y hy=>?_⟩⟩
 . rw[hm,w64 (by omega) (by omega)];obtain⟨k,rfl⟩:=W6 hf;rw[<- bG0];exact Bf _ _
 . rw[hm,w64 (by omega) (by omega)];omega
 . rw[ax0,dc0]
   rcases bi0 i l.length with hi |hi|hi
   . rw[V6 hi]at hy;have hne:¬ (f.toNat+l.length) % ring.length=(f.toNat+i) % ring.length:=fun e=>by
       have hf':f.toNat<ring.length:=by omega
       by_cases c1:f.toNat+l.length<ring.length
       . rw[ak0 c1,ak0 (by omega)]at e;omega
       . rw[co0 (by omega),ak0 (by omega)]at e;by_cases c2:f.toNat+i<ring.length
         . rw[ak0 c2]at e;omega
         . rw[co0 (by omega),ak0 (by omega)]at e;omega
     rw[if_neg hne];exact h.at_ i y hy
   . subst hi;rw[V5 (X3 _),bs0]at hy;rw[if_pos rfl,if_pos hlt];simpa using hy
   . rw[ai0 (by simp;omega)]at hy;cases hy
theorem Qr.pop(z x:α){l':List α}(h:Qr ring f m (x::l')):m≠0/\aa ring f=some x/\nz ((ring.length:Nat):Int)=some ()/\M0 .i64 (m-1)=((l'.length:Nat):Int)/\Qr (ring.set f.toNat z) (bK0 (M0 .i64 (f+1)) ((ring.length:Nat):Int)) ((l'.length:Nat):Int) l':=by
 have hm:=h.m_;have hf:=h.f0;have hs:=h.sz;have hle:=h.le;simp only[V9]at hm hle;have hfl:f<((ring.length:Nat):Int):=by rcases h.fl with⟨h1,_⟩|h1;(subst h1;simp at hle);exact h1
 have h0:=h.at_ 0 x rfl;rw[aD0,ak0 (by omega)]at h0;have hmod:bK0 (M0 .i64 (f+1)) ((ring.length:Nat):Int)=(((f.toNat+1) % ring.length:Nat):Int):=by
   rw[w64 (by omega) (by omega)];obtain⟨k,rfl⟩:=W6 hf;exact Bf (k+1) _
 refine⟨by omega,by unfold aa;rw[if_pos hf];exact h0,xK (by omega),by rw[w64 (by omega) (by omega)];omega,?_⟩;rw[hmod];have hlt:=bM0 (f.toNat+1) (show 0<ring.length by omega);refine⟨rfl,by omega,.inr (by rw[ax0];omega),by rw[ax0];omega,by rw[ax0];exact hs,fun i y hy=>?_⟩;have hi:i<l'.length:=(V4.1 hy).1;have h1:=h.at_ (i+1) y (by simpa using hy);rw[ax0,W2,dc0];have e1:((f.toNat+1) % ring.length+i) % ring.length=(f.toNat+(i+1)) % ring.length:=by
   rw[Nat.mod_add_mod];congr 1;omega
 rw[e1];have hne:¬ f.toNat=(f.toNat+(i+1)) % ring.length:=fun e=>by
   by_cases c:f.toNat+(i+1)<ring.length
   . rw[ak0 c]at e;omega
   . rw[co0 (by omega),ak0 (by omega)]at e;omega
 rw[if_neg hne];exact h1
end
end
section
section
variable {ring:List (Int)}{f m:Int}{l:List (Int)}
end
section
variable {ring:List (Int)}{f m:Int}{l:List (Int)}
theorem Ha{w:(Option (List ((Int)×Int)))}(h0:0<=f)(h1:f<=((ring.length:Nat):Int))(hs:ring.length<=100000000):nX ring f m w=some (ring.drop f.toNat++(ring.take f.toNat++Z2 (ring.length+1) 0),w):=by
 unfold nX;exact HD 0 h0 h1 hs (fun z=>some (z,w))
theorem Gb{w:(Option (List ((Int)×Int)))}(xb:List (Int))(i:Nat)(hi:i<xb.length)(hx:xb.length<=10000000)(h:Qr ring f m l)(hl:l.length<=10000000):∃r f',iW xb ((i:Int),ring,f,m,w)=some (.inl (((i+1:Nat):Int),r,f',((l.length+1:Nat):Int),w))/\Qr r f' ((l.length+1:Nat):Int) (l++[xb[i]]):=by
 have hf:=h.f0;have hfl:f<=((ring.length:Nat):Int):=by rcases h.fl with⟨h1,h2⟩|h1 <;> omega
 have hle:=h.le;have hm:=h.m_;by_cases hc:m=((ring.length:Nat):Int)
 . obtain⟨hq,hq2⟩:=Qr.grow 0 h hc hl;have hg:=Ha (w:=w) (m:=m) hf hfl h.sz;generalize (ring.drop f.toNat++(ring.take f.toNat++Z2 (ring.length+1) 0))=r at hq hq2 hg;obtain⟨p1,p2,p3,p4⟩:=hq.push xb[i] hq2;rw[Int.zero_add]at p1;refine⟨_,0,?_,p4⟩;unfold iW;simp only[dlt hi,cond_true,aj hi,V0,hc,decide_true];rw[<- hc,hg];simp only[V0,Int.zero_add];rw[xK (by omega)];simp only[V0,p1,aj p2,W2,p3,an hi (by omega)]
 . have hq2:l.length<ring.length:=by omega
   obtain⟨p1,p2,p3,p4⟩:=h.push xb[i] hq2;refine⟨_,f,?_,p4⟩;unfold iW;simp only[dlt hi,cond_true,aj hi,V0,hc,decide_false,cond_false];rw[xK (by omega)];simp only[V0,p1,aj p2,W2,p3,an hi (by omega)]
theorem GL{w:(Option (List ((Int)×Int)))}(xb:List (Int))(h:Qr ring f m l)(hl:l.length+xb.length<=10000000):∃r f',nV xb ring f m w=some (r,f',((l.length+xb.length:Nat):Int),w)/\Qr r f' ((l.length+xb.length:Nat):Int) (l++xb):=by
 obtain⟨b,h1,h2⟩:=aW (body:=iW xb) (fun s=>∃k:Nat,k<=xb.length/\s.1=(k:Int)/\s.2.2.2.1=((l.length+k:Nat):Int)/\Qr s.2.1 s.2.2.1 s.2.2.2.1 (l++xb.take k)/\w=s.2.2.2.2) (fun s=>xb.length-s.1.toNat) (Q:=fun b=>∃r f',b=(r,f',((l.length+xb.length:Nat):Int),w)/\Qr r f' ((l.length+xb.length:Nat):Int) (l++xb)) (fun s hs=>by
   obtain⟨i,r,f',m',w'⟩:=s;obtain⟨k,hk,e1,e2,hq,hw⟩:=hs;dsimp only at e1 e2 hq hw;subst e1 hw;by_cases hc:k<xb.length
   . obtain⟨r2,f2,g1,g2⟩:=Gb (w:=w) xb k hc (by omega) hq (by simp;omega);refine .inl ⟨_,g1,⟨k+1,hc,rfl,by simp;omega,?_,rfl⟩,by dsimp only;rw[W2,W2];omega⟩;have e3:l++xb.take (k+1)=(l++xb.take k)++[xb[k]]:=by rw[aH hc,X1]
     dsimp only;rw[e3];exact g2
   . obtain rfl:k=xb.length:=by omega
     refine .inr ⟨(r,f',m',w),?_,r,f',by rw[e2],?_⟩
     . unfold iW;simp only[dge hc,cond_false]
     . rw[<- e2];simpa using hq) (s:=(0,ring,f,m,w)) ⟨0,ah0 _,rfl,by simpa using h.m_,by simpa using h,rfl⟩
 obtain⟨r,f',rfl,hq⟩:=h2;refine⟨r,f',?_,hq⟩;unfold nV;rw[h1];rfl
theorem Hl{w:(Option (List ((Int)×Int)))}{x:Int}(h:Qr ring f m (x::l)):∃r f',n4 ring f m w=some (x,true,r,f',((l.length:Nat):Int),w)/\Qr r f' ((l.length:Nat):Int) l:=by
 obtain⟨h1,h2,h3,h4,h5⟩:=h.pop 0 x;refine⟨_,_,?_,h5⟩;unfold n4 kZ;simp only[V0,h1,decide_false,cond_false,h2,h3,h4]
end
section
variable {ring:List (List UInt8)}{f m:Int}{l:List (List UInt8)}
end
section
variable {ring:List (List UInt8)}{f m:Int}{l:List (List UInt8)}
end
end
section
section
variable {α:Type}[DecidableEq α]
theorem HT(k:α)(x:Option (List (α×Int))):iN k x = !decide (aJ k (x.getD []) > 0):=by cases x <;> rfl
theorem Ie(k:α)(x:Option (List (α×Int))):dO k x=if aJ k (x.getD []) > 0 then x.getD []else bI k (wrap64 (aJ k (x.getD [])+1)) (x.getD []):=by cases x <;> rfl
structure Wr(ring:List α)(f m:Int)(w:Option (List (α×Int)))(l:List α):Prop where
 q:Qr ring f m l
 nd:l.Nodup
 ks:((w.getD []).map (·.1)).Nodup
 c:∀k,aJ k (w.getD [])=if k∈l then 1 else 0
theorem Wr.nil:Wr ([]:List α) 0 0 none []:=⟨Qr.nil,cD0,cD0,fun k=>rfl⟩
end
section
variable {ring:List (Int)}{f m:Int}{l:List (Int)}{w:Option (List ((Int)×Int))}
theorem Hb(k:Int)(h:Wr ring f m w l)(hl:l.length<=9000000):∃r f' w',db k ring f m w=some (!decide (k∈l),r,f',(((if k∈l then l else l++[k]).length:Nat):Int),w')/\Wr r f' (((if k∈l then l else l++[k]).length:Nat):Int) w' (if k∈l then l else l++[k]):=by
 have hc:=h.c k;unfold db u9;rw[HT,Ie];by_cases hk:k∈l
 . rw[if_pos hk]at hc;have hm:=h.q.m_;simp only[hc,if_pos hk,hk,decide_true,X7,V0,show (1:Int) > 0 by omega,if_true,aE0,cond_true];rw[hm];exact⟨_,_,_,rfl,⟨hm ▸ h.q,h.nd,by simpa using h.ks,by simpa using h.c⟩⟩
 . rw[if_neg hk]at hc;have h0:¬ ((0:Int) > 0):=by omega
   have h1:wrap64 (0+1)=1:=IntWalk.wrap64_in (0+1) (by decide);obtain⟨r,f',g1,g2⟩:=GL (w:=some (bI k 1 (w.getD []))) [k] h.q (by simp;omega);simp only[hc,if_neg hk,hk,decide_false,aE0,V0,h0,h1,if_false,X7,cond_false];rw[g1];refine⟨r,f',some (bI k 1 (w.getD [])),?_,⟨?_,?_,?_,fun k'=>?_⟩⟩
   . simp
   . simpa using g2
   . exact aR0.2 ⟨h.nd,by simp,fun a ha b hb e=>by simp at hb;subst hb;subst e;exact hk ha⟩
   . exact Ag k 1 _ h.ks
   . show aJ k' (bI k 1 (w.getD []))=_;rw[A3,h.c k'];by_cases h2:k'=k <;> simp[h2]
theorem GP{x:Int}(h:Wr ring f m w (x::l)):∃r f' w',gV ring f m w=some (x,true,r,f',((l.length:Nat):Int),w')/\Wr r f' ((l.length:Nat):Int) w' l:=by
 obtain⟨r,f',g1,g2⟩:=Hl (w:=w) h.q;refine⟨r,f',w.map (bV x),?_,⟨g2,(aw0.1 h.nd).2,?_,fun k=>?_⟩⟩
 . unfold gV;rw[g1];rfl
 . cases w with
   |none=>exact cD0
   |some w=>exact (AB x w h.ks).1
 . have hx:=(aw0.1 h.nd).1;have hc:=h.c k;cases w with
   | none =>
     have hx0:=h.c x;rw[if_pos (by simp)]at hx0;exact absurd (show (0:Int)=1 from hx0) (by decide)
   | some w =>
     show aJ k (bV x w)=_;have hc:aJ k w=_:=hc;rw[Bu x k w h.ks,hc];by_cases h2:k=x
     . subst h2;simp[hx]
     . simp[h2]
theorem Ib(h:Wr ring f m w l):gX ring f m w=some (((l.length:Nat):Int),ring,w):=by
 unfold gX kZ;rw[h.q.m_];rfl
end
section
variable {ring:List (List UInt8)}{f m:Int}{l:List (List UInt8)}{w:Option (List ((List UInt8)×Int))}
end
end
section
abbrev Sw:=Option (Int×List Int)
theorem Da{n:Nat}{l:List Int}(h:Ds n l){k:Nat}(hk:mem l k=true):k<n:=by
 rcases aq0 k n with h1|h1
 . exact h1
 . rw[h.top k h1]at hk;cases hk
theorem Jt{n:Nat}{l:List Int}(h:Ds n l):jf (some ((n:Int),l))=some (liN (cD n l)):=by
 have hn:=h.hn;obtain⟨r,g1,g2⟩:=CA h (body:=tV (some ((n:Int),l))) (fun c k hk=>by
   have:=Da h hk;unfold tV;dsimp only;rw[show decide (0<=(k:Int))=true by simp,cond_true,w64 (by omega) (by omega)]) (fun c=>rfl)
 unfold jf;rw[show jp (some ((n:Int),l))=some ()from rfl,V0,g1,V0,g2];rfl
theorem wS{α:Type}(n:Nat)(z:α)(h:n<=1073741824):mk (n:Int) (n:Int) z=some (Z2 n z):=by
 unfold mk;rw[if_pos ⟨by omega,cn0 _,by omega⟩,W2]
section
variable {P:Pts}{N:Nat}{E:ArG}
abbrev bks(N:Nat)(E:ArG):List (List Int):=(Z1 N).map fun v=>li (nxt (tn E) v)
theorem H5(hn:N<=1048576)(he:E.length<=67108864):pO (flG P N E) (N:Int)=some (bks N E):=by
 unfold pO;rw[wS N ([]:List Int) (by omega),V0];have hl:=aC (body:=pa (flG P N E) (Z2 N [])) (fun k:Nat=>((Z1 N).map (fun v=>if v<k then li (nxt (tn E) v)else []),(k:Int))) N (b:=bks N E) ?_ ?_
 . have e:(Z2 N ([]:List Int))=(Z1 N).map (fun v=>if v<0 then li (nxt (tn E) v)else []):=by
     rw[D4];exact kG fun v _=>by simp
   rw[show ((Z2 N ([]:List Int)),(0:Int))=((Z1 N).map (fun v=>if v<0 then li (nxt (tn E) v)else []),((0:Nat):Int))by rw[<- e];rfl,hl];rfl
 . intro k hk;unfold pa;simp only[X9,dlt hk,cond_true,GY hn he hk,V0,sQ hk,W2,xV,an hk (by omega:N<=9223372036854775807)]
   congr 3
   refine kG fun v _=>?_
   by_cases h1:v=k
   . subst h1;simp
   . have:v<k+1↔v<k:=by omega
     simp[h1,this]
 . unfold pa;simp only[X9,dge (show ¬ N<N by omega),cond_false]
   congr 2
   exact kG fun v hv=>by simp[hv]
end
section
variable {N:Nat}{E:ArG}
theorem Iv(hN:N<=200000){Wn:List Nat}(hl:Wn.length<=1000000){l0:List Int}(h0:Ds N l0)(hz:∀j,mem l0 j=false)(hw:∀n∈Wn,n<N) :
   ∃l',loop (lH (li Wn) (N:Int)) (0,l0)=some l'/\Ds N l'/\∀j,mem l' j=decide (j∈Wn):=by
 obtain⟨b,h1,h2⟩:=aW (body:=lH (li Wn) (N:Int)) (fun s=>∃k:Nat,k<=Wn.length/\s.1=(k:Int)/\Ds N s.2/\∀j,mem s.2 j=decide (j∈Wn.take k)) (fun s=>Wn.length-s.1.toNat) (Q:=fun b=>Ds N b/\∀j,mem b j=decide (j∈Wn)) (fun s hs=>by
   obtain⟨i,l⟩:=s;obtain⟨k,hk,rfl,hd,hm⟩:=hs;dsimp only at hd hm ⊢;by_cases hc:k<Wn.length
   . obtain⟨l',g1,g2,g3⟩:=qw hd ((Wn[k]:Nat):Int);refine .inl ⟨(((k+1:Nat):Int),l'),?_,⟨k+1,hc,rfl,g2,fun j=>?_⟩,by dsimp only;omega⟩
     . unfold lH;simp only[au,dlt hc,cond_true,bD hc,V0,g1,an hc (by omega:Wn.length<=9223372036854775807)]
     . have:=hw _ (X2 hc);rw[g3,hm,aH hc,W2];rw[bx0];simp only[bw0,decide_eq_true_eq,V3,Y2];constructor
       . rintro (h|⟨_,h⟩)
         . exact .inl h
         . exact .inr h.symm
       . rintro (h|h)
         . exact .inl h
         . exact .inr ⟨⟨by omega,by omega⟩,h.symm⟩
   . obtain rfl:k=Wn.length:=by omega
     refine .inr ⟨l,?_,hd,fun j=>by rw[hm,Y9]⟩;unfold lH;simp only[au,dge hc,cond_false]) (s:=(0,l0)) ⟨0,ah0 _,rfl,h0,fun j=>by simp[hz]⟩
 exact⟨b,h1,h2⟩
theorem LY{L:List Nat}{n:Nat}:(n:Int)∈li L↔n∈L:=by
 unfold li;rw[Y7];constructor
 . rintro⟨a,h,e⟩;have:a=n:=by exact_mod_cast e
   exact this ▸ h
 . exact fun h=>⟨n,h,rfl⟩
theorem F5{L:List Nat}{k:Nat}(h:L.Nodup)(hk:k<L.length):L[k]∉L.take k:=by
 have h2:(L.take (k+1)).Nodup:=h.sublist (dH0 _ _);rw[aH hk,aR0]at h2;exact fun hm=>h2.2.2 _ hm _ (Y2.2 rfl) rfl
theorem AJ{ring:List Int}{f m:Int}{l:List Int}{w:Option (List (Int×Int))}{k:Nat}{L:List Nat}(h:Wr ring f m w (li L))(hk:k∉L)(hl:L.length<=9000000) :
   ∃r f' m' w',db (k:Int) ring f m w=some (true,r,f',m',w')/\Wr r f' m' w' (li (L++[k])):=by
 obtain⟨r,f',w',g1,g2⟩:=Hb (k:Int) h (by rw[au];exact hl);have hn:¬ ((k:Int)∈li L):=fun h=>hk (LY.1 h)
 rw[if_neg hn]at g1 g2;rw[show decide ((k:Int)∈li L)=false from decide_eq_false hn]at g1;have e:li (L++[k])=li L++[(k:Int)]:=by simp[li]
 exact⟨r,f',_,w',g1,by rw[e];exact g2⟩
theorem Ke(hN:N<=200000){Rn:List Nat}(hR:Rn.Nodup){l0:List Int}(h0:Ds N l0)(hz:∀j,mem l0 j=false)(hr:∀n∈Rn,n<N) :
   ∃l' r f m w,loop (lE (li Rn) (N:Int)) (0,l0,[],0,0,none)=some (l',r,f,m,w)/\Ds N l'/\(∀j,mem l' j=decide (j∈Rn))/\Wr r f m w (li Rn):=by
 have hl:Rn.length<=N:=cT hR hr;obtain⟨b,h1,h2⟩:=aW (body:=lE (li Rn) (N:Int)) (fun s=>∃k:Nat,k<=Rn.length/\s.1=(k:Int)/\Ds N s.2.1/\(∀j,mem s.2.1 j=decide (j∈Rn.take k))/\Wr s.2.2.1 s.2.2.2.1 s.2.2.2.2.1 s.2.2.2.2.2 (li (Rn.take k))) (fun s=>Rn.length-s.1.toNat) (Q:=fun b=>Ds N b.1/\(∀j,mem b.1 j=decide (j∈Rn))/\Wr b.2.1 b.2.2.1 b.2.2.2.1 b.2.2.2.2 (li Rn)) (fun s hs=>by
   obtain⟨i,l,ring,f,m,w⟩:=s;obtain⟨k,hk,rfl,hd,hm,hw⟩:=hs;dsimp only at hd hm hw ⊢;by_cases hc:k<Rn.length
   . obtain⟨l',g1,g2,g3⟩:=qw hd ((Rn[k]:Nat):Int);obtain⟨r',f',m',w',g4,g5⟩:=AJ (l:=[]) hw (F5 hR hc) (by rw[X4];omega);refine .inl ⟨(((k+1:Nat):Int),l',r',f',m',w'),?_,⟨k+1,hc,rfl,g2,fun j=>?_,by rw[aH hc];exact g5⟩,by dsimp only;omega⟩
     . unfold lE;simp only[au,dlt hc,cond_true,bD hc,V0,g1,g4,an hc (by omega:Rn.length<=9223372036854775807)]
     . have:=hr _ (X2 hc);dsimp only;rw[g3,hm,aH hc,W2];rw[bx0];simp only[bw0,decide_eq_true_eq,V3,Y2];constructor
       . rintro (h|⟨_,h⟩)
         . exact .inl h
         . exact .inr h.symm
       . rintro (h|h)
         . exact .inl h
         . exact .inr ⟨⟨by omega,by omega⟩,h.symm⟩
   . obtain rfl:k=Rn.length:=by omega
     refine .inr ⟨(l,ring,f,m,w),?_,hd,fun j=>by rw[hm,Y9],by rw[Y9]at hw;exact hw⟩;unfold lE;simp only[au,dge hc,cond_false]) (s:=(0,l0,[],0,0,none)) ⟨0,ah0 _,rfl,h0,fun j=>by simp[hz],Wr.nil⟩
 obtain⟨l',r,f,m,w⟩:=b;exact⟨l',r,f,m,w,h1,h2⟩
theorem qX{W:Nat->Bool}{s:(Nat->Bool)×List Nat}{u:Nat}(h:¬ (s.1 u=false/\W u=false)):stW W s u=s:=if_neg h
theorem BM{W:Nat->Bool}{s:(Nat->Bool)×List Nat}{u:Nat}(h:s.1 u=false/\W u=false):stW W s u=(cB s.1 u,s.2++[u]):=if_pos h
theorem GN {R W:Nat->Bool} (hE:inN N E) (hN:N<=200000) {St:List Int} (hS:Ds N St) (hW:∀ j,mem St j=W j) {A:List Nat} {v:Nat} (hA:∀ u∈A,(u,v)∈E) (hAl:A.length<=10000000)
   (hv:Lv E N R W v) {V:Nat->Bool} {Q:List Nat} (hV:∀n,V n=true->Lv E N R W n) (hQ:∀n∈Q,V n=true) (hQd:Q.Nodup) {fd ring:List Int} {f m:Int} {w:Option (List (Int×Int))}
   (hd:Ds N fd) (hm:∀j,mem fd j=V j) (hw:Wr ring f m w (li Q)) :
   ∃fd' r' f' m' w',loop (ie (N:Int) St (N:Int) (li A)) (0,fd,ring,f,m,w)=some (fd',r',f',m',w')/\Ds N fd'/\(∀j,mem fd' j=(A.foldl (stW W) (V,Q)).1 j)/\Wr r' f' m' w' (li (A.foldl (stW W) (V,Q)).2):=by
 have hF:∀k,k<=A.length->(∀n∈((A.take k).foldl (stW W) (V,Q)).2,((A.take k).foldl (stW W) (V,Q)).1 n=true)/\((A.take k).foldl (stW W) (V,Q)).2.length<=N:=fun k hk=>by
   obtain⟨_,i2,i3,i4,_⟩:=qy hE hv (A.take k) V Q (fun u hu=>hA u (bg0 hu)) hV hQ hQd;exact⟨i3,cT i4 (fun x hx=>Lv.lt hE (i2 x (i3 x hx)))⟩
 obtain⟨b,h1,h2⟩:=aW (body:=ie (N:Int) St (N:Int) (li A)) (fun s=>∃k:Nat,k<=A.length/\s.1=(k:Int)/\Ds N s.2.1/\(∀j,mem s.2.1 j=((A.take k).foldl (stW W) (V,Q)).1 j)/\Wr s.2.2.1 s.2.2.2.1 s.2.2.2.2.1 s.2.2.2.2.2 (li ((A.take k).foldl (stW W) (V,Q)).2)) (fun s=>A.length-s.1.toNat) (Q:=fun b=>Ds N b.1/\(∀j,mem b.1 j=(A.foldl (stW W) (V,Q)).1 j)/\Wr b.2.1 b.2.2.1 b.2.2.2.1 b.2.2.2.2 (li (A.foldl (stW W) (V,Q)).2)) (fun s hs=>by
   obtain⟨i,l,ring,f,m,w⟩:=s;obtain⟨k,hk,rfl,hd,hm,hw⟩:=hs;dsimp only at hd hm hw ⊢;by_cases hc:k<A.length
   . have hu:=hA _ (X2 hc);have huN:=(hE _ hu).1;dsimp only at huN;obtain⟨hq,hql⟩:=hF k hk;have eF:(A.take (k+1)).foldl (stW W) (V,Q)=stW W ((A.take k).foldl (stW W) (V,Q)) A[k]:=by rw[aH hc,dd0];rfl
     have hHas:cE (some ((N:Int),St)) ((A[k]:Nat):Int)=some (W A[k]):=by rw[Kg hS,hW]
     have hw1:M0 .i64 ((k:Int)+1)=((k+1:Nat):Int):=an hc (by omega);obtain⟨l',g1,g2,g3⟩:=qw hd ((A[k]:Nat):Int);rw[hm,W2,show decide ((0:Int)<=((A[k]:Nat):Int)/\((A[k]:Nat):Int)<(N:Int))=true from decide_eq_true ⟨by omega,by omega⟩,cd0]at g1
     left
     cases hWk:W A[k]with
     | true =>
       refine⟨(((k+1:Nat):Int),l,ring,f,m,w),?_,⟨k+1,hc,rfl,hd,?_,?_⟩,by dsimp only;omega⟩
       . unfold ie;simp only[au,dlt hc,cond_true,bD hc,V0,hHas,hWk,X7,cond_false,hw1]
       . rw[eF,qX (by simp[hWk])];exact hm
       . rw[eF,qX (by simp[hWk])];exact hw
     | false =>
       cases hVk:((A.take k).foldl (stW W) (V,Q)).1 A[k]with
       | true =>
         rw[hVk]at g1;refine⟨(((k+1:Nat):Int),l',ring,f,m,w),?_,⟨k+1,hc,rfl,g2,?_,?_⟩,by dsimp only;omega⟩
         . unfold ie;simp only[au,dlt hc,cond_true,bD hc,V0,hHas,hWk,aE0,g1,X7,cond_false,hw1]
         . intro j;rw[eF,qX (by simp[hVk])];dsimp only;rw[g3,hm,W2];by_cases e:A[k]=j
           . subst e;rw[hVk];rfl
           . simp[e]
         . rw[eF,qX (by simp[hVk])];exact hw
       | false =>
         rw[hVk]at g1;have hnq:A[k]∉((A.take k).foldl (stW W) (V,Q)).2:=fun h=>by rw[hq _ h]at hVk;cases hVk
         obtain⟨r',f',m',w',g4,g5⟩:=AJ (l:=[]) hw hnq (by omega);refine⟨(((k+1:Nat):Int),l',r',f',m',w'),?_,⟨k+1,hc,rfl,g2,?_,?_⟩,by dsimp only;omega⟩
         . unfold ie;simp only[au,dlt hc,cond_true,bD hc,V0,hHas,hWk,aE0,g1,g4,hw1]
         . intro j;rw[eF,BM ⟨hVk,hWk⟩];dsimp only[cB];rw[g3,hm,W2]
           congr 1
           rw[decide_eq_decide];exact⟨fun h=>h.2.symm,fun h=>⟨⟨by omega,by omega⟩,h.symm⟩⟩
         . rw[eF,BM ⟨hVk,hWk⟩];exact g5
   . obtain rfl:k=A.length:=by omega
     rw[Y9]at hm hw;refine .inr ⟨(l,ring,f,m,w),?_,hd,hm,hw⟩;unfold ie;simp only[au,dge hc,cond_false]) (s:=(0,fd,ring,f,m,w)) ⟨0,ah0 _,rfl,hd,hm,hw⟩
 obtain⟨l',r,f,m,w⟩:=b;exact⟨l',r,f,m,w,h1,h2⟩
end
section
variable {N:Nat}{E:ArG}
abbrev fb(L:List Nat):Nat->Bool:=fun n=>decide (n∈L)
theorem GS (hE:inN N E) (hN:N<=200000) (hEl:E.length<=10000000) {Rn Wn:List Nat} (hR:Rn.Nodup) (hr:∀ n∈Rn,n < N) (hw:∀ n∈Wn,n < N) (hwl:Wn.length<=1000000) :
   ∃l',pF (bks N E) (li Rn) (li Wn)=some (.inr ((N:Int),l'))/\Ds N l'/\∀n,mem l' n=true↔Lv E N (fb Rn) (fb Wn) n:=by
 have hz:=wy ((N+63) / 64);have hD:=Dc (n:=N) (by omega);obtain⟨St,s1,s2,s3⟩:=Iv hN hwl hD hz hw;obtain⟨F0,r0,f0,m0,w0,t1,t2,t3,t4⟩:=Ke hN hR hD hz hr;have hNew:fX (((bks N E).length:Nat):Int)=some (.inr (0,(N:Int),Z2 ((N+63) / 64) 0)):=by
   rw[show (bks N E).length=N by simp,AX,if_neg (by omega),if_neg (by omega)];rfl
 have hV0:∀n,mem F0 n=true->Lv E N (fb Rn) (fb Wn) n:=fun n hn=>by
   rw[t3,decide_eq_true_eq]at hn;exact .rd (hr n hn) (decide_eq_true hn)
 obtain⟨b,h1,h2⟩:=aW (body:=oK (bks N E) (N:Int) St (N:Int)) (fun s=>∃Q:List Nat,Ds N s.1/\Wr s.2.1 s.2.2.1 s.2.2.2.1 s.2.2.2.2 (li Q)/\(∀n,mem s.1 n=true->Lv E N (fb Rn) (fb Wn) n)/\(∀n∈Q,mem s.1 n=true)/\Q.Nodup/\(∀v,mem s.1 v=true->v∈Q\/UY E (fb Wn) (mem s.1) v)/\∀n∈Rn,mem s.1 n=true)
   (fun s=>2*cz N (mem s.1)+s.2.2.2.1.toNat) (Q:=fun b=>Ds N b/\∀n,mem b n=true↔Lv E N (fb Rn) (fb Wn) n) (fun s hs=>by
   obtain⟨fd,ring,f,m,w⟩:=s;obtain⟨Q,hd,hq,hV,hQ,hQd,hC,hRn⟩:=hs;dsimp only at hd hq hV hQ hC hRn ⊢;have hlen:=Ib hq;have hm:=hq.q.m_;cases Q with
   | nil =>
     refine .inr ⟨fd,?_,hd,fun n=>⟨hV n,fun h=>Lv.least (V:=mem fd) (fun n _ hn=>hRn n (by simpa using hn)) (fun a ha hc=>?_) h⟩⟩
     . unfold oK;simp only[hlen,V0,show (li ([]:List Nat)).length=0 from rfl,show decide ((0:Int)<((0:Nat):Int))=false from rfl,cond_false]
     . rcases hC _ hc.2.1 with h1|h1
       . cases h1
       . have:=h1 a.1 ha hc.2.2;rw[hc.1]at this;cases this
   | cons v Q =>
     have hvV:=hQ v (aL0 ..);have hvN:=Da hd hvV;have hLv:=hV v hvV;have hli:li (v::Q)=(v:Int)::li Q:=rfl;rw[hli]at hq;obtain⟨r1,f1,w1,p1,p2⟩:=GP hq;have hA:∀u∈nxt (tn E) v,(u,v)∈E:=fun u hu=>by rw[bL,CB]at hu;exact hu
     have hAl:(nxt (tn E) v).length<=10000000:=by
       unfold nxt;rw[Y6];have:=eY ((tn E).map (·.1)) v;rw[Y6,Mf]at this;omega
     have hQd':=(aw0.1 hQd);have hQ':∀n∈Q,mem fd n=true:=fun n hn=>hQ n (W5 _ hn)
     obtain⟨fd',r',f',m',w',g1,g2,g3,g4⟩:=GN (R:=fb Rn) (W:=fb Wn) hE hN s2 s3 hA hAl hLv hV hQ' hQd'.2 hd (fun _=>rfl) p2;obtain⟨i1,i2,i3,i4,i5,i6,i7,i8⟩:=qy (R:=fb Rn) hE hLv (nxt (tn E) v) (mem fd) Q hA hV hQ' hQd'.2;have e3:mem fd'=((nxt (tn E) v).foldl (stW (fb Wn)) (mem fd,Q)).1:=funext g3;rw[<- e3]at i1 i2 i3 i5 i7 i8;refine .inl ⟨(fd',r',f',m',w'),?_,⟨((nxt (tn E) v).foldl (stW (fb Wn)) (mem fd,Q)).2,g2,g4,i2,i3,i4,fun u hu=>?_,fun n hn=>i1 n (hRn n hn)⟩,?_⟩
     . have hgt:decide ((0:Int)<(((li (v::Q)).length:Nat):Int))=true:=by rw[hli];simp
       have hb:aa (bks N E) (v:Int)=some (li (nxt (tn E) v)):=sQ hvN;rw[hli]at hlen hgt;unfold oK;simp only[hlen,V0,hgt,cond_true,p1,hb,g1]
     . rcases i5 u hu with h|h
       . rcases hC u h with h|h
         . rcases Y4.1 h with rfl|h
           . exact .inr (fun x hx hwx=>i7 x (bL.2 (CB.2 hx)) hwx)
           . exact .inl (i6 u h)
         . exact .inr (fun x hx hwx=>i1 x (h x hx hwx))
       . exact .inl h
     . have hm':=g4.q.m_;dsimp only;rw[hm',hm,hli,au,W2,W2,V9,au];omega) (s:=(F0,r0,f0,m0,w0)) ⟨Rn,t2,t4,hV0,fun n hn=>by rw[t3];exact decide_eq_true hn,hR,fun v hv=>.inl (by rw[t3,decide_eq_true_eq]at hv;exact hv),fun n hn=>by rw[t3];exact decide_eq_true hn⟩
 refine⟨b,?_,h2⟩;unfold pF;rw[hNew];simp only[V0,s1,t1,h1]
end
end
section
abbrev NB(b:Bo):Nat:=bg (xs b) (xs b).length
def rN(P:List Tc)(l:Nat):List Nat:=(Z1 P.length).filter (fun n=>decide ((l:Int)∈(P.getD n ([],[])).1))
def wN(P:List Tc)(l:Nat):List Nat:=(Z1 P.length).filter (fun n=>decide ((l:Int)∈(P.getD n ([],[])).2))
theorem PB(P:List Tc)(l:Nat):(rN P l).Nodup:=List.nodup_range.filter _
theorem Pi{P:List Tc}{l n:Nat}(h:n∈rN P l):n<P.length:=V7.1 (ac0.1 h).1
theorem QG{P:List Tc}{l n:Nat}(h:n∈wN P l):n<P.length:=V7.1 (ac0.1 h).1
theorem Mn(P:List Tc)(l:Nat):(wN P l).length<=P.length:=by
 have:=aa0 (fun n=>decide ((l:Int)∈(P.getD n ([],[])).2)) (Z1 P.length);simpa[wN]using this
def LvS(b:Bo)(l:Nat):Nat->Prop:=Lv (gI (xs b)) (NB b) (fb (rN (pts (xs b)) l)) (fb (wN (pts (xs b)) l))
def lvB(b:Bo)(l n:Nat):Bool:=@decide (LvS b l n) (dh0 _)
theorem m8{b:Bo}{l n:Nat}:lvB b l n=true↔LvS b l n:=by unfold lvB;exact @decide_eq_true_iff _ (dh0 _)
theorem B2(b:Bo):inN (NB b) (gI (xs b)):=wJ (xs b) _ (X3 _)
theorem xg{b:Bo}{l n:Nat}(h:lvB b l n=true):n<NB b:=Lv.lt (B2 b) (m8.1 h)
theorem JY{E:List (Nat×Nat)}{N:Nat}{W:Nat->Bool}{n:Nat}:¬ Lv E N (fb []) W n:=fun h=>by
 have:=Lv.least (V:=fun _=>false) (fun n _ hn=>by simp at hn) (fun a ha hc=>by cases hc.2.1) h;cases this
def SlotOk(b:Bo)(l:Nat)(s:Sw):Prop:=(s=none/\∀n,¬ LvS b l n)\/∃w,s=some ((NB b:Int),w)/\Ds (NB b) w/\∀n,mem w n=true↔LvS b l n
theorem SlotOk.has{b:Bo}{l:Nat}{s:Sw}(h:SlotOk b l s)(p:Int):cE s p=some (decide (0<=p)&&lvB b l p.toNat):=by
 rcases h with⟨rfl,h⟩|⟨w,rfl,hd,h⟩
 . have:lvB b l p.toNat=false:=by
     cases e:lvB b l p.toNat with
     |true=>exact absurd (m8.1 e) (h _)
     |false=>rfl
   rw[this,dZ0];unfold cE fI oP;by_cases q:0<=p
   . simp[q,show ¬ p<0 by omega]
   . simp[q]
 . rw[qG hd]
   congr 1
   have e:mem w p.toNat=lvB b l p.toNat:=by rw[bx0,h,m8]
   rw[e];cases q:lvB b l p.toNat with
   |false=>simp
   | true =>
     have:=xg q;rw[en0,en0,decide_eq_decide];constructor
     . exact fun h=>h.1
     . exact fun h=>⟨h,by omega⟩
structure CsOk(b:Bo)(C:List Sw):Prop where
 z:NB b=0->C=[]
 len:0<NB b->C.length=b.2.2.2.1.length
 ok:∀l s,C[l]?=some s->SlotOk b l s
theorem GD{P:List Tc}{L l:Nat}(hl:l<L)(hP:P.length<=200000):oC (some (P,lcs L P)) (l:Int)=some (li (rN P l),li (wN P l)):=by
 have hr:=BF P l;have hw:=Cq P l;have hlen:(lcs L P).length=L:=by simp[lcs]
 have hg:aa (lcs L P) (l:Int)=some (rdr P l,wtr P l):=by
   rw[aj (by rw[hlen];exact hl)];simp[lcs]
 unfold oC;simp only[aA0,cw0,decide_eq_false (show ¬ ((l:Int)<0)by omega),cond_false,V0,hlen,decide_eq_false (show ¬ ((L:Int)<=(l:Int))by omega),hg];rw[xj _ (by omega),xj _ (by omega)];rfl
theorem He {b:Bo} (h:Sm b):∃ C,mz b=some (some ((NB b:Int),C))/\CsOk b C:=by
 have hb:NB b<=131072:=(vQ h (X3 _)).1;have hP:(pts (xs b)).length=NB b:=Cv _;have hL:=h.locals;have hE:=B2 b;have hEl:(gI (xs b)).length<=2621440:=uW (CS h) (X3 _);unfold mz;rw[show mG b=_ from FJ h,V0,TR,V0,hP];by_cases h0:NB b=0
 . refine⟨[],?_,⟨fun _=>rfl,fun h=>by omega,fun l s hs=>by simp at hs⟩⟩;rw[decide_eq_true (show ((NB b:Nat):Int)=0 by omega),cond_true]
 . rw[decide_eq_false (show ¬ ((NB b:Nat):Int)=0 by omega),cond_false,if_neg h0,show mJ b=_ from Gn h,wS _ _ (by omega)];simp only[V0,a8];rw[H5 (Z7 hb (by decide)) (Z7 hEl (by decide)),V0];obtain⟨C,h1,h2⟩:=aW (body:=lP (some (pts (xs b),lcs b.2.2.2.1.length (pts (xs b)))) (bks (NB b) (gI (xs b))) (Z2 b.2.2.2.1.length none)) (fun s=>∃k:Nat,k<=b.2.2.2.1.length/\s.1=(k:Int)/\s.2.length=b.2.2.2.1.length/\∀l x,s.2[l]?=some x->(l<k->SlotOk b l x)/\(k<=l->x=none)) (fun s=>b.2.2.2.1.length-s.1.toNat) (Q:=fun C=>C.length=b.2.2.2.1.length/\∀l x,C[l]?=some x->SlotOk b l x) (fun s hs=>by
     obtain⟨i,C⟩:=s;obtain⟨k,hk,rfl,hlen,hC⟩:=hs;dsimp only at hlen hC ⊢;by_cases hc:k<b.2.2.2.1.length
     . left
       have hkC:k<C.length:=by omega
       have hn:=(hC k C[k] (Z0 hkC)).2 (X3 _);have hw1:M0 .i64 ((k:Int)+1)=((k+1:Nat):Int):=an hc (by omega);have hgo:=GD (P:=pts (xs b)) hc (by rw[hP];exact Z7 hb (by decide));by_cases hr:rN (pts (xs b)) k=[]
       . refine⟨(((k+1:Nat):Int),C),?_,⟨k+1,hc,rfl,hlen,fun l x hx=>⟨fun hl=>?_,fun hl=>(hC l x hx).2 (by omega)⟩⟩,by dsimp only;omega⟩
         . unfold lP;simp only[X9,dlt hc,cond_true,hgo,V0,hr,show (li ([]:List Nat)).length=0 from rfl,show decide ((0:Int)<((0:Nat):Int))=false from rfl,cond_false,hw1]
         . by_cases e:l=k
           . subst e;rw[Z0 hkC,hn]at hx;obtain rfl:=ap0 hx;refine .inl ⟨rfl,fun n hl=>?_⟩;unfold LvS at hl;rw[hr]at hl;exact JY hl
           . exact (hC l x hx).1 (by omega)
       . obtain⟨w,g1,g2,g3⟩:=GS hE (Z7 hb (by decide)) (Z7 hEl (by decide)) (PB (pts (xs b)) k) (fun n hn=>hP ▸ Pi hn) (fun n (hn:n∈wN (pts (xs b)) k)=>hP ▸ QG hn) (Z7 (Mn (pts (xs b)) k) (by rw[hP];exact Z7 hb (by decide)));have hpos:decide ((0:Int)<(((li (rN (pts (xs b)) k)).length:Nat):Int))=true:=by
           rw[au];have:(rN (pts (xs b)) k).length≠0:=fun e=>hr (Z4.1 e)
           exact decide_eq_true (by omega)
         have e1:aa C (k:Int)=some none:=by rw[aj hkC,hn]
         have e2:aa (C.set k (some ((NB b:Int),w))) (k:Int)=some (some ((NB b:Int),w)):=by rw[aj (by simpa using hkC)];simp
         refine⟨(((k+1:Nat):Int),C.set k (some ((NB b:Int),w))),?_,⟨k+1,hc,rfl,by simpa using hlen,fun l x hx=>⟨fun hl=>?_,fun hl=>?_⟩⟩,by dsimp only;omega⟩
         . unfold lP;simp only[X9,dlt hc,cond_true,hgo,V0,hpos,e1,g1,iB,W2,e2,Gk g2,a8,hw1,List.set_set]
         . by_cases e:l=k
           . subst e;rw[cy0 hkC]at hx;obtain rfl:=ap0 hx;exact .inr ⟨w,rfl,g2,g3⟩
           . rw[bC0 (fun h=>e h.symm)]at hx;exact (hC l x hx).1 (by omega)
         . rw[bC0 (by omega)]at hx;exact (hC l x hx).2 (by omega)
     . obtain rfl:k=b.2.2.2.1.length:=by omega
       refine .inr ⟨C,?_,hlen,fun l x hx=>(hC l x hx).1 ?_⟩
       . unfold lP;simp only[X9,dge hc,cond_false]
       . have:=(V4.1 hx).1;omega) (s:=(0,Z2 b.2.2.2.1.length none)) ⟨0,ah0 _,rfl,by simp,fun l x hx=>⟨fun h=>by omega,fun _=>by rw[df0]at hx;split at hx <;> simp at hx;exact hx.symm⟩⟩
   refine⟨C,?_,⟨fun h=>absurd h h0,fun _=>h2.1,h2.2⟩⟩;rw[h1];rfl
section
variable {b:Bo}{C:List Sw}
theorem Jx:ui (some ((NB b:Int),C))=some ((NB b:Nat):Int):=rfl
theorem Md{q:Nat}(hq:q<C.length):po (some ((NB b:Int),C)) (q:Int)=some C[q]:=by
 unfold po;simp only[aA0,cw0,decide_eq_false (show ¬ ((q:Int)<0)by omega),cond_false,V0,decide_eq_false (show ¬ ((C.length:Int)<=(q:Int))by omega),aj hq]
end
end
section
def lvN(b:Bo)(l:Nat):List Nat:=(Z1 (NB b)).filter (lvB b l)
theorem Kw(b:Bo)(l:Nat):(lvN b l).length<=NB b:=qb _ _
theorem J6{b:Bo}{l:Nat}{w:List Int}(h:∀n,mem w n=true↔LvS b l n):cD (NB b) w=lvN b l:=by
 unfold cD lvN
 congr 1
 funext n
 rw[bx0,h,m8]
theorem IO{b:Bo}{l:Nat}(h:∀n,¬ LvS b l n):lvN b l=[]:=by
 unfold lvN;rw[aX0];exact fun n _ hn=>h n (m8.1 hn)
section
variable {b:Bo}{C:List Sw}
end
end
theorem LA{b:Bo}(h:Few b):NB b<=32:=by
 show bg (xs b) (xs b).length<=32;unfold xs;split
 . have:=h.many;have:=h.blocks;unfold bg;rw[Y9];omega
 . simp[bg,stm]
section
def sm:Nat->(Nat->Nat)->Nat
 |0,_=>0
 |n+1,g=>sm n g+g n
section
variable {b:Bo}{C:List Sw}
theorem Ia:jf none=some []:=by
 unfold jf;have h1:df none 0=some (-1):=rfl;rw[show jp none=some ()from rfl,V0,h1,V0,iA (b:=([]:List Int)) rfl];rfl
theorem Gp(hC:CsOk b C){k:Nat}(hk:k<C.length):ib (some ((NB b:Int),C)) (k:Int)=some (li (lvN b k)):=by
 unfold ib;rw[Md hk,V0]
 rcases hC.ok k _ (Z0 hk)with⟨e,h⟩|⟨w,e,hd,h⟩
 . rw[e,Ia,IO h];rfl
 . rw[e,Jt hd,J6 h];rfl
end
end
def ins(i:Int):List Int->List Int
 |[]=>[i]
 |x::l=>if i<x then i::x::l else x::ins i l
theorem qS(i a:Int):∀l,a∈ins i l↔a=i\/a∈l
 |[]=>by simp[ins]
 | x :: l=>by
   unfold ins;split
   . simp
   . rw[Y4,qS i a l,Y4];constructor
     . rintro (h |h|h) <;> simp[h]
     . rintro (h |h|h) <;> simp[h]
theorem w7(i:Int):∀l:List Int,l.Pairwise (· < ·)->i∉l->(ins i l).Pairwise (· < ·)
 |[],_,_=>by simp[ins]
 | x :: l,h,hi=>by
   obtain⟨h1,h2⟩:=be0.1 h;have hx:i≠x:=fun e=>hi (by simp[e])
   unfold ins;split
   . rename_i hlt;refine be0.2 ⟨fun a ha=>?_,h⟩
     rcases Y4.1 ha with rfl|ha
     . exact hlt
     . have:=h1 a ha;omega
   . refine be0.2 ⟨fun a ha=>?_,w7 i l h2 (fun hm=>hi (by simp[hm]))⟩
     rcases (qS i a l).1 ha with rfl|ha
     . omega
     . exact h1 a ha
theorem BZ(i:Int):∀l:List Int,(ins i l).length=l.length+1
 |[]=>rfl
 |x::l=>by unfold ins;split <;> simp[BZ i l]
theorem vL(i x:Int)(l:List Int):ins i (x::l)=if i<x then i::x::l else x::ins i l:=rfl
def Ei(L:List Int)(i:Int):Bool:=decide (i∈L)
def aL(s:Int)(L:List Int)(i:Int):List Int:=if (0<=i/\i<s)/\i∉L then ins i L else L
def bQ(s:Int)(L:List Int)(i:Int):Bool:=decide ((0<=i/\i<s)/\i∉L)
def rOr(s:Int)(L:List Int):List Int->List Int×Bool
 |[]=>(L,false)
 | x::l=>((rOr s (aL s L x) l).1,bQ s L x||(rOr s (aL s L x) l).2)
theorem Bm(s:Int)(L:List Int)(i:Int):(aL s L i).length<=L.length+1:=by
 unfold aL;split
 . rw[BZ];exact X3 _
 . omega
theorem vW(s:Int)(x:Int):∀(l L:List Int),rOr s L (l++[x])=(aL s (rOr s L l).1 x,(rOr s L l).2||bQ s (rOr s L l).1 x)
 |[],L=>by simp[rOr]
 | y :: l,L=>by
   rw[aK0];unfold rOr;rw[vW s x l];simp[Bool.or_assoc]
theorem BD{s:Int}{L:List Int}(h:L.Pairwise (· < ·))(i:Int):(aL s L i).Pairwise (· < ·):=by
 unfold aL;split
 . rename_i h4;exact w7 _ _ h h4.2
 . exact h
theorem d7{s:Int}{L:List Int}(i x:Int):x∈aL s L i↔x∈L\/(x=i/\0<=i/\i<s):=by
 unfold aL;split
 . rename_i h4;rw[qS];constructor
   . rintro (h|h)
     . exact .inr ⟨h,h4.1⟩
     . exact .inl h
   . rintro (h|h)
     . exact .inr h
     . exact .inl h.1
 . rename_i h4;constructor
   . exact .inl
   . rintro (h|⟨rfl,h⟩)
     . exact h
     . refine dX0 fun h5=>h4 ⟨h,h5⟩
theorem CZ(s:Int):∀(l L:List Int),L.Pairwise (· < ·)->(rOr s L l).1.Pairwise (· < ·)
 |[],_,h=>h
 |x::l,L,h=>CZ s l _ (BD h x)
theorem q9(s:Int)(x:Int):∀(l L:List Int),x∈(rOr s L l).1↔x∈L\/(x∈l/\0<=x/\x<s)
 |[],L=>by simp[rOr]
 | y :: l,L=>by
   unfold rOr;dsimp only;rw[q9 s x l,d7,Y4];constructor
   . rintro ((h|⟨h,h2⟩)|⟨h,h2⟩)
     . exact .inl h
     . subst h;exact .inr ⟨.inl rfl,h2⟩
     . exact .inr ⟨.inr h,h2⟩
   . rintro (h |⟨h|h,h2⟩)
     . exact .inl (.inl h)
     . subst h;exact .inl (.inr ⟨rfl,h2⟩)
     . exact .inr ⟨h,h2⟩
theorem CL(s:Int):∀(l L:List Int),(rOr s L l).2=true↔∃x∈l,(0<=x/\x<s)/\x∉L
 |[],L=>by simp[rOr]
 | y :: l,L=>by
   unfold rOr;dsimp only;rw[bw0,CL s l];unfold bQ;rw[decide_eq_true_eq];constructor
   . rintro (h|⟨x,h1,h2,h3⟩)
     . exact⟨y,by simp,h⟩
     . exact⟨x,by simp[h1],h2,fun h=>h3 ((d7 _ _).2 (.inl h))⟩
   . rintro⟨x,h1,h2,h3⟩;by_cases hy:(0<=y/\y<s)/\y∉L
     . exact .inl hy
     . rcases Y4.1 h1 with rfl|h1
       . exact absurd ⟨h2,h3⟩ hy
       . refine .inr ⟨x,h1,h2,fun h=>?_⟩
         rcases (d7 _ _).1 h with h|⟨rfl,h⟩
         . exact h3 h
         . exact hy ⟨h,h3⟩
theorem vY{A B:List Int}(hA:A.Pairwise (· < ·))(hB:B.Pairwise (· < ·))(h:∀x∈A,x∈B):A.length<=B.length:=by
 have e:B.filter (fun x=>decide (x∈A))=A:=by
   refine ir (eE0 _ hB) hA fun x=>?_
   rw[ac0,decide_eq_true_eq];exact⟨fun h=>h.2,fun hx=>⟨h x hx,hx⟩⟩
 rw[<- e];exact aa0 _ _
theorem Bw{x:Int}:∀{A:List Int},(∀y∈A,y<x)->ins x A=A++[x]
 |[],_=>rfl
 | a :: A,h=>by
   have:=h a (by simp);rw[vL,if_neg (by omega),Bw (fun y hy=>h y (by simp[hy]))];rfl
structure Rp(n:Nat)(l:List Int)(L:List Int):Prop where
 ds:Ds n l
 rs:L.Pairwise (· < ·)
 mm:∀x:Int,x∈L↔0<=x/\mem l x.toNat=true
theorem KN(M:List Nat)(x:Int):x∈liN M↔0<=x/\x.toNat∈M:=by
 unfold liN;rw[Y7];constructor
 . rintro⟨a,ha,rfl⟩;exact⟨aj0 _,by simpa using ha⟩
 . rintro⟨h1,h2⟩;exact⟨x.toNat,h2,bn0 h1⟩
theorem iw{n:Nat}{l:List Int}(h:Ds n l){k:Nat}(hk:mem l k=true):k<n:=by
 rcases aq0 k n with h1|h1
 . exact h1
 . rw[h.top k h1]at hk;cases hk
theorem I7{n:Nat}{l:List Int}(h:Ds n l)(k:Nat):k∈cD n l↔mem l k=true:=by
 unfold cD;rw[ac0,V7];exact⟨fun h=>h.2,fun hk=>⟨iw h hk,hk⟩⟩
theorem LP(n:Nat)(l:List Int):(liN (cD n l)).Pairwise (· < ·):=by
 unfold liN cD;rw[cc0];refine dI0 (fun h=>?_) (eE0 (mem l) (ep0 (n:=n)));exact bL0.2 h
theorem Rp.eq{n:Nat}{l L:List Int}(h:Rp n l L):liN (cD n l)=L :=
 ir (LP n l) h.rs (fun x=>by rw[KN,I7 h.ds,h.mm])
theorem Rp.len{n:Nat}{l L:List Int}(h:Rp n l L):(cD n l).length=L.length:=by
 rw[<- h.eq];simp[liN]
theorem Rp.le{n:Nat}{l L:List Int}(h:Rp n l L):L.length<=n:=by
 rw[<- h.len];exact qb _ _
theorem Lh{n:Nat}(h:n<=1048576):Rp n (Z2 ((n+63) / 64) 0) [] :=
 ⟨Dc h,fb0,fun x=>by simp[wy]⟩
theorem Rp.has{n:Nat}{l L:List Int}(h:Rp n l L)(i:Int):cE (some ((n:Int),l)) i=some (Ei L i):=by
 rw[qG h.ds]
 congr 1
 unfold Ei;rw[bx0,Y1,decide_eq_true_eq,decide_eq_true_eq,h.mm];constructor
 . exact fun h=>⟨h.1.1,h.2⟩
 . intro h2;have:=iw h.ds h2.2;exact⟨⟨h2.1,by omega⟩,h2.2⟩
theorem Rp.add{n:Nat}{l L:List Int}(h:Rp n l L)(i:Int):∃l',dx i n l=some (bQ n L i,l')/\Rp n l' (aL n L i):=by
 obtain⟨l',h1,h2,h3⟩:=qw h.ds i;have hm:=h.mm i;have e:(decide (0<=i/\i<n)&&!mem l i.toNat)=bQ n L i:=by
   unfold bQ;rw[bx0,Y1,decide_eq_true_eq,decide_eq_true_eq,hm];constructor
   . rintro⟨h5,h6⟩;exact⟨h5,fun h7=>by rw[h7.2]at h6;cases h6⟩
   . rintro⟨h5,h6⟩;refine⟨h5,?_⟩;cases h7:mem l i.toNat with
     |false=>rfl
     |true=>exact absurd ⟨h5.1,h7⟩ h6
 refine⟨l',by rw[h1,e],h2,?_,fun x=>?_⟩
 . unfold aL;split
   . rename_i h4;exact w7 _ _ h.rs h4.2
   . exact h.rs
 . rw[h3];unfold aL;split
   . rename_i h4;rw[qS,h.mm,bw0,decide_eq_true_eq];constructor
     . rintro (rfl|h5)
       . exact⟨h4.1.1,.inr ⟨h4.1,rfl⟩⟩
       . exact⟨h5.1,.inl h5.2⟩
     . rintro⟨h5,h6|h6⟩
       . exact .inr ⟨h5,h6⟩
       . exact .inl (by omega)
   . rename_i h4;rw[h.mm,bw0,decide_eq_true_eq];constructor
     . exact fun h5=>⟨h5.1,.inl h5.2⟩
     . rintro⟨h5,h6|h6⟩
       . exact⟨h5,h6⟩
       . have hx:x=i:=by omega
         subst hx;refine⟨h5,?_⟩;cases h7:mem l x.toNat with
         |true=>rfl
         |false=>exact absurd ⟨h6.1,fun h8=>by rw[(hm.1 h8).2]at h7;cases h7⟩ h4
theorem GE{n:Nat}{l L:List Int}(h:Rp n l L){body:Int×List Int->Option ((Int×List Int)⊕List Int)}
   (hb:∀(c:List Int) (k:Nat),mem l k=true->body ((k:Int),c)=(app c [(k:Int)]).bind fun z=>(df (some ((n:Int),l)) ((k:Int)+1)).bind fun i=>some (.inl (i,z))) (he:∀c,body (-1,c)=some (.inr c)) :
   ∃r,df (some ((n:Int),l)) 0=some r/\loop body (r,[])=some L:=by
 have:=CA h.ds hb he;rw[h.eq]at this;exact this
def rk(L:List Int)(i:Int):Nat:=(L.filter (fun x=>decide (x<i))).length
theorem Dt(L:List Int)(i:Int):rk L i<=L.length:=aa0 _ _
theorem vz(i:Int):∀{L:List Int},L.Pairwise (· < ·)->∀k (hk:k<L.length),L[k]<i↔k<rk L i
 |[],_,k,hk=>by simp at hk
 | x :: L,h,k,hk=>by
   obtain⟨h1,h2⟩:=be0.1 h;by_cases hx:x<i
   . have e:rk (x::L) i=rk L i+1:=by unfold rk;simp[hx]
     rw[e];cases k with
     |zero=>simp[hx]
     | succ k =>
       have:=vz i h2 k (by simpa using hk);simp only[List.getElem_cons_succ];rw[this];omega
   . have e:rk (x::L) i=0:=by
       unfold rk;rw[Z4,aX0];intro y hy
       rcases Y4.1 hy with rfl|hy
       . simpa using hx
       . have:=h1 y hy;simp;omega
     rw[e];have:x<=(x::L)[k]:=by
       cases k with
       |zero=>exact cn0 _
       |succ k=>exact Int.le_of_lt (h1 _ (by simp))
     omega
theorem xA{L:List Int}(h:L.Pairwise (· < ·)){i:Int}{n:Nat}(hn:n<=L.length)(h1:∀k (hk:k<L.length),k<n->L[k]<i)(h2:∀k (hk:k<L.length),n<=k->¬ L[k]<i):rk L i=n:=by
 have hl:=Dt L i
 rcases bi0 (rk L i) n with h3 |h3|h3
 . have:=(vz i h (rk L i) (by omega)).1 (h1 _ (by omega) h3);omega
 . exact h3
 . exact absurd ((vz i h n (by omega)).2 h3) (h2 n (by omega) (X3 _))
theorem Kl{L:List Int}(h:L.Pairwise (· < ·)){k:Nat}(hk:k<L.length):rk L (L[k]+1)=k+1:=by
 have hp:=am0.1 h;refine xA h (by omega) (fun j hj hjk=>?_) (fun j hj hjk=>?_)
 . rcases aq0 j k with h1|h1
   . have:=hp j k hj hk h1;omega
   . have:j=k:=by omega
     subst this;omega
 . have:=hp k j hk hj (by omega);omega
theorem Mg{L:List Int}(h:L.Pairwise (· < ·)){k:Nat}(hk:k<L.length):rk L L[k]=k:=by
 have hp:=am0.1 h;refine xA h (by omega) (fun j hj hjk=>hp j k hj hk hjk) (fun j hj hjk=>?_)
 rcases aq0 k j with h1|h1
 . have:=hp k j hk hj h1;omega
 . have:j=k:=by omega
   subst this;omega
theorem CW{L:List Int}(h:L.Pairwise (· < ·))(i:Int):i∈L↔∃hk:rk L i<L.length,L[rk L i]=i:=by
 constructor
 . intro hi;obtain⟨k,hk,rfl⟩:=Z8 hi;have e:=Mg h hk;exact⟨by rw[e];exact hk,by simp only[e]⟩
 . rintro⟨hk,e⟩;rw[<- e];exact X2 hk
theorem Ho(a b:Int):pu a b=some (decide (a<b)):=by
 unfold pu pb;simp
theorem KV(s:Nat)(h:s<=4611686018427387904):M0 .i64 (X8 (M0 .u64 (M0 .i64 (s:Int))) (2 ^ (min (Z5 1) (O0 .u64))))=((s / 2:Nat):Int):=by
 rw[w64 (x:=(s:Int)) (by omega) (by omega)];have e1:M0 .u64 (s:Int)=(s:Int):=by rw[IntKind.wrap_u64];omega
 rw[e1];have e2:((2:Int) ^ (min (Z5 1) (O0 .u64)))=((2:Nat):Int):=rfl;rw[e2,ce0 _ (aj0 _)];rw[show (s:Int) / ((2:Nat):Int)=((s / 2:Nat):Int)from rfl];exact w64 (by omega) (by omega)
theorem Kt{L:List Int}(h:L.Pairwise (· < ·))(hl:L.length<=4000000)(x:Int):loop (tG L x) ((0:Int),((L.length:Nat):Int))=some ((rk L x:Nat):Int):=by
 refine Bx (fun s=>∃lo hi:Nat,s=((lo:Int),(hi:Int))/\lo<=hi/\hi<=L.length/\(∀k (hk:k<L.length),k<lo->L[k]<x)/\(∀k (hk:k<L.length),hi<=k->¬ L[k]<x)) (fun s=>s.2.toNat-s.1.toNat) ?_ ⟨0,L.length,rfl,ah0 _,X3 _,fun k hk h=>absurd h (by omega),fun k hk h=>absurd h (by omega)⟩;rintro s ⟨lo,hi,rfl,h1,h2,h3,h4⟩;unfold tG;by_cases hlt:lo<hi
 . left
   have hm:(lo+hi) / 2<L.length:=by omega
   have hmid:=KV (lo+hi) (by omega);rw[bG0]at hmid;have hp:=am0.1 h;simp only[dlt hlt,cond_true,hmid,aj hm,V0,Ho];by_cases hx:L[(lo+hi) / 2]<x
   . refine⟨((((lo+hi) / 2+1:Nat):Int),(hi:Int)),?_,⟨_,hi,rfl,by omega,h2,fun k hk hkl=>?_,h4⟩,?_⟩
     . rw[decide_eq_true hx,cond_true,an hm (by omega)]
     . rcases aq0 k ((lo+hi) / 2)with h5|h5
       . have:=hp k _ hk hm h5;omega
       . have:k=(lo+hi) / 2:=by omega
         subst this;exact hx
     . show (hi:Int).toNat-(((lo+hi) / 2+1:Nat):Int).toNat<(hi:Int).toNat-(lo:Int).toNat;rw[W2,W2,W2];omega
   . refine⟨((lo:Int),(((lo+hi) / 2:Nat):Int)),?_,⟨lo,_,rfl,by omega,by omega,h3,fun k hk hkl=>?_⟩,?_⟩
     . rw[decide_eq_false hx,cond_false]
     . rcases aq0 ((lo+hi) / 2) k with h5|h5
       . have:=hp _ k hm hk h5;omega
       . have:k=(lo+hi) / 2:=by omega
         subst this;exact hx
     . show (((lo+hi) / 2:Nat):Int).toNat-(lo:Int).toNat<(hi:Int).toNat-(lo:Int).toNat;rw[W2,W2,W2];omega
 . right
   have e:hi=lo:=by omega
   subst e;rw[xA h h2 h3 h4];simp only[dge hlt,cond_false]
theorem KF{L:List Int}(h:L.Pairwise (· < ·))(hl:L.length<=4000000)(x:Int):n6 L x=some (((rk L x:Nat):Int),decide (x∈L)):=by
 unfold n6;rw[Kt h hl];simp only[V0];have hm:=CW h x;by_cases hk:rk L x<L.length
 . simp only[dlt hk,cond_true,aj hk,V0];by_cases hx:L[rk L x]=x
   . have:x∈L:=hm.2 ⟨hk,hx⟩;simp[hx,this]
   . have:¬ x∈L:=fun h=>hx (hm.1 h).2
     simp[hx,this,oB]
 . have:¬ x∈L:=fun h=>hk (hm.1 h).1
   simp only[dge hk,cond_false,V0,decide_eq_false this]
theorem G3{L:List Int}(h:L.Pairwise (· < ·))(hl:L.length<=4000000)(x:Int):cd (some L) x=some ((rk L x:Nat):Int):=by
 unfold cd;simp only[aA0,cond_false,V0,KF h hl]
theorem iI{L:List Int}(k:Nat):ce (some L) (k:Int)=some (L.getD k 0,decide (k<L.length)):=by
 unfold ce lJ;have h0:¬ ((k:Int)<0):=by omega
 simp only[decide_eq_false h0,cond_false,V0,aA0];by_cases hk:k<L.length
 . have h1:¬ (((L.length:Nat):Int)<=(k:Int)):=by omega
   simp only[decide_eq_false h1,cond_false,aj hk,V0];simp[hk]
 . have h1:(((L.length:Nat):Int)<=(k:Int)):=by omega
   simp only[decide_eq_true h1,cond_true];simp[hk]
structure Sp(L:List Int):Prop where
 rs:L.Pairwise (· < ·)
 bd:∀x∈L,0<=x/\x<=2147483647
 ln:L.length<=1000000
theorem Sp.rank{L:List Int}(h:Sp L)(x:Int):cd (some L) x=some ((rk L x:Nat):Int):=G3 h.rs (Z7 h.ln (by decide)) x
theorem Sp.has{L:List Int}(h:Sp L)(x:Int):jg (some L) x=some (decide (x∈L)):=by
 have hl:=h.ln;unfold jg;rw[h.rank];simp only[V0,iI];have hm:=CW h.rs x
 congr 1
 rw[bx0,Y1,decide_eq_true_eq,decide_eq_true_eq,decide_eq_true_eq,hm];constructor
 . rintro⟨h1,h2⟩;refine⟨h1,?_⟩;simpa[h1]using h2
 . rintro⟨h1,h2⟩;refine⟨h1,?_⟩;simpa[h1]using h2
theorem vl{L:List Int}(h:Sp L){k:Nat}(hk:k<L.length):cd (some L) (M0 .i64 (L[k]+1))=some ((k+1:Nat):Int):=by
 have hb:=h.bd L[k] (X2 hk);rw[w64 (by omega) (by omega),h.rank,Kl h.rs hk]
theorem NG{x i:Int}(L:List Int)(h:x<i):rk (x::L) i=rk L i+1:=by unfold rk;simp[h]
theorem Pa{x i:Int}{L:List Int}(h:¬ x<i)(hs:(x::L).Pairwise (· < ·)):rk (x::L) i=0:=by
 obtain⟨h1,h2⟩:=be0.1 hs;unfold rk;rw[Z4,aX0];intro y hy
 rcases Y4.1 hy with rfl|hy
 . simpa using h
 . have:=h1 y hy;simp;omega
theorem CM(i:Int):∀{L:List Int},L.Pairwise (· < ·)->i∉L->L.take (rk L i)++[i]++L.drop (rk L i)=ins i L
 |[],_,_=>rfl
 | x :: L,hs,hi=>by
   obtain⟨h1,h2⟩:=be0.1 hs;have hne:i≠x:=fun e=>hi (by simp[e])
   by_cases hx:x<i
   . rw[NG L hx,vL,if_neg (by omega),<- CM i h2 (fun h=>hi (by simp[h]))];simp
   . rw[Pa hx hs,vL,if_pos (by omega)];rfl
def un(L M:List Int):List Int:=(rOr 2147483648 L M).1
theorem Hh{L:List Int}(h:Sp L)(i:Int)(hl:L.length+1<=1000000):ol i L=some (bQ 2147483648 L i,aL 2147483648 L i)/\Sp (aL 2147483648 L i):=by
 refine⟨?_,BD h.rs i,fun x hx=>?_,Z7 (Bm _ _ _) hl⟩
 . have hcond:(ij i).bind (fun t380=>cond (!t380) (some (true)) ((jg (some L) i).bind fun t395=>some (t395)))=some (!bQ 2147483648 L i):=by
     rw[show ij i=some ((decide (0<=i))&&(decide (i<=2147483647)))from rfl,h.has];unfold bQ;by_cases h1:0<=i
     . by_cases h2:i<=2147483647
       . have h3:i<2147483648:=by omega
         simp[h1,h2,h3]
       . have h3:¬ i<2147483648:=by omega
         simp[h1,h2,h3]
     . simp[h1]
   unfold ol;have hm:∀{β:Type} (k:Bool->Option β),((ij i).bind fun t380=>(cond (!t380) (some (true)) ((jg (some L) i).bind fun t395=>some (t395))).bind k)=k (!bQ 2147483648 L i):=fun k=>by
     have:=congrArg (fun z=>Option.bind z k) hcond;simpa[Option.bind_assoc]using this
   rw[hm];cases ho:bQ 2147483648 L i with
   | false =>
     have:¬ ((0<=i/\i<2147483648)/\i∉L):=of_decide_eq_false ho;unfold aL;rw[if_neg this];rfl
   | true =>
     have hh:(0<=i/\i<2147483648)/\i∉L:=of_decide_eq_true ho;have he:aL 2147483648 L i=ins i L:=by unfold aL;rw[if_pos hh]
     have hrk:=Dt L i;have hi:dP L ((rk L i:Nat):Int) [i]=some (ins i L):=by
       unfold dP;rw[if_pos ⟨by omega,by omega,by simp,by simp;omega⟩,W2,CM i h.rs hh.2]
     simp only[X7,cond_false,h.rank,V0,hi,jU,he]
 . rcases (d7 i x).1 hx with h1|⟨rfl,h2⟩
   . exact h.bd x h1
   . omega
def sk(l:List Int):List Int:=l.mergeSort fun x y=>decide (x<=y)
theorem Kf{l:List Int}(h:l.length<=1073741824):srt l=some (sk l):=by unfold srt;rw[if_pos h];rfl
def cpS(l:List Int):List Int:=Lib.compact (sk l)
theorem Ks(l:List Int):(cpS l).length<=l.length:=by
 have:=Lib.compact_length_le (sk l);unfold sk at this;rw[dq0]at this;exact this
def okm(i:Int):Bool:=decide (0<=i)&&decide (i<=2147483647)
def ofS(xa:List Int):List Int:=cpS (xa.filter okm)
theorem JX{xa:List Int}(h:xa.length<=1000000):jD xa=some (ofS xa):=by
 have hlp:loop (mf xa) ((0:Int),([]:List Int))=some (xa.filter okm):=by
   have:=aC (body:=mf xa) (fun k:Nat=>((k:Int),(xa.take k).filter okm)) xa.length (b:=xa.filter okm) ?_ ?_
   . exact this
   . intro k hk;unfold mf;have hle:=aa0 okm (xa.take k);have ha:app ((xa.take k).filter okm) [xa[k]]=some ((xa.take k).filter okm++[xa[k]]):=aI (by simp at hle ⊢;omega);have e:(xa.take (k+1)).filter okm=(xa.take k).filter okm++(if okm xa[k]then [xa[k]]else []):=by
       rw[aH hk,aB0];cases hm:okm xa[k] <;> simp[hm]
     simp only[dlt hk,cond_true,aj hk,V0,show ∀i,ij i=some (okm i)from fun _=>rfl,ha,e,an hk (by omega)];cases hm:okm xa[k] <;> simp
   . unfold mf;simp
 unfold jD;rw[hlp];have hle:=aa0 okm xa;simp only[V0,Kf (l:=xa.filter okm) (by omega)];rfl
theorem JO(xa:List Int):(ofS xa).length<=xa.length:=Z7 (Ks _) (aa0 _ _)
structure Mx(n:Nat)(f:Option (List Int))(b:Option (Int×List Int))(L:List Int):Prop where
 hn:n<=1048576
 rs:L.Pairwise (· < ·)
 bd:∀x∈L,0<=x/\x<n
 st:(f=some L/\b=none/\L.length<=8)\/∃w,f=none/\b=some ((n:Int),w)/\Rp n w L
theorem Rp.bd{n:Nat}{w L:List Int}(h:Rp n w L):∀x∈L,0<=x/\x<n:=fun x hx=>by
 have:=(h.mm x).1 hx;have:=iw h.ds this.2;omega
theorem r7{n:Nat}{L:List Int}(hn:n<=1048576)(hr:L.Pairwise (· < ·))(hb:∀x∈L,0<=x/\x<n)(hl:L.length<=9):Sp L :=
 ⟨hr,fun x hx=>by have:=hb x hx;omega,by omega⟩
theorem LI{n:Nat}{L:List Int}(hr:L.Pairwise (· < ·))(hb:∀x∈L,0<=x/\x<n):L.length<=n:=by
 have h2:((Z1 n).map (fun k:Nat=>(k:Int))).Pairwise (· < ·):=by
   rw[cc0];exact dI0 (fun h=>bL0.2 h) (ep0 (n:=n))
 have:=vY hr h2 (fun x hx=>by
   have:=hb x hx;rw[Y7];exact⟨x.toNat,V7.2 (by omega),by omega⟩)
 simpa using this
theorem Mx.len{n:Nat}{f:Option (List Int)}{b:Option (Int×List Int)}{L:List Int}(h:Mx n f b L):L.length<=n:=LI h.rs h.bd
theorem Jw{n:Nat}{L:List Int}{i:Int}(hn:n<=1048576)(hi:0<=i/\i<n):aL 2147483648 L i=aL n L i/\bQ 2147483648 L i=bQ n L i:=by
 have h1:0<=i/\i<2147483648:=by omega
 unfold aL bQ;simp[h1,hi]
theorem HU{n:Nat}{L:List Int}{i:Int}(hi:¬ (0<=i/\i<n)):aL n L i=L/\bQ n L i=false:=by
 unfold aL bQ;rw[if_neg (fun h=>hi h.1),decide_eq_false (fun h=>hi h.1)];exact⟨rfl,rfl⟩
theorem wQ{n:Nat}{L:List Int}(i:Int)(hb:∀x∈L,0<=x/\x<n):∀x∈aL n L i,0<=x/\x<n:=fun x hx=>by
 rcases (d7 i x).1 hx with h|⟨rfl,h⟩
 . exact hb x h
 . exact h
theorem uT(n:Int)(f:Option (List Int))(b:Option (Int×List Int)):fO (some (n,f,b))=some b.isSome:=by
 unfold fO;cases b <;> rfl
theorem zx {n:Nat} {L:List Int} (hn:n<=1048576) (h:Sp L) (hb:∀ x∈L,0<=x/\x < n) (b:Option (Int×List Int)):∃ w,k8 n (some L) b=some (some ((n:Int),w))/\Rp n w L:=by
 have hl:=h.ln;have hp:=am0.1 h.rs;have key:=aW (body:=tI n L) (fun s=>∃k:Nat,k<=L.length/\s.1=L.getD k 0/\s.2.1=decide (k<L.length)/\Rp n s.2.2 (L.take k)) (fun s=>if s.2.1 then (L.filter (fun x=>decide (s.1<=x))).length else 0) (Q:=fun w=>Rp n w L) ?_ (s:=(L.getD 0 0,decide (0<L.length),Z2 ((n+63) / 64) (0:Int))) ⟨0,ah0 _,rfl,rfl,Lh hn⟩
 . obtain⟨w,k1,k2⟩:=key;refine⟨w,?_,k2⟩;unfold k8;have h1:¬ ((n:Int)<0):=by omega
   have h2:¬ (1048576<(n:Int)):=by omega
   rw[AX,if_neg h1,if_neg h2,W2];simp only[V0,show g9 L=some L from rfl];have at0:ce (some L) 0=some (L.getD 0 0,decide (0<L.length)):=iI 0;rw[at0];simp only[V0,k1]
 . rintro⟨i,t,w⟩ ⟨k,hk,rfl,rfl,hw⟩;dsimp only at hw ⊢;unfold tI;by_cases hkl:k<L.length
   . left
     have hg:L.getD k 0=L[k]:=by simp[hkl]
     obtain⟨w',a1,a2⟩:=hw.add L[k];have hbk:=hb L[k] (X2 hkl);have hlt:∀y∈L.take k,y<L[k]:=fun y hy=>by
       obtain⟨j,hj,rfl⟩:=cY0.1 hy;exact hp j k (by omega) hkl (by omega)
     have hni:L[k]∉L.take k:=fun hm=>by have:=hlt _ hm;omega
     have e:aL n (L.take k) L[k]=L.take (k+1):=by
       unfold aL;rw[if_pos ⟨hbk,hni⟩,Bw hlt,aH hkl]
     rw[e]at a2;refine⟨(L.getD (k+1) 0,decide (k+1<L.length),w'),?_,⟨k+1,by omega,rfl,rfl,a2⟩,?_⟩
     . simp only[decide_eq_true hkl,cond_true,hg,a1,V0,vl h hkl,iI]
     . dsimp only;rw[decide_eq_true hkl,if_pos rfl,hg];by_cases hk2:k+1<L.length
       . have hg2:L.getD (k+1) 0=L[k+1]:=by simp[hk2]
         rw[decide_eq_true hk2,if_pos rfl,hg2];have hs:(L.filter (fun x=>decide (L[k+1]<=x)))=(L.filter (fun x=>decide (L[k]<=x))).filter (fun x=>decide (L[k+1]<=x)):=by
           rw[dF0];refine bm0 fun x hx=>?_
           have:=hp k (k+1) hkl hk2 (by omega);by_cases h1:L[k+1]<=x
           . have h2:L[k]<=x:=by omega
             simp[h1,h2]
           . simp[h1]
         rw[hs,List.length_filter_lt_length_iff_exists];refine⟨L[k],ac0.2 ⟨X2 hkl,by simp⟩,?_⟩;have:=hp k (k+1) hkl hk2 (by omega);simp;omega
       . rw[decide_eq_false hk2];simp only[W7,if_false];refine cx0 (a:=L[k]) (ac0.2 ⟨X2 hkl,by simp⟩)
   . right
     have e:k=L.length:=by omega
     subst e;rw[Y9]at hw;refine⟨w,?_,hw⟩;simp
theorem qn{n:Nat}{f:Option (List Int)}{b:Option (Int×List Int)}{L:List Int}(h:Mx n f b L)(i:Int):∃f' b',dd i n f b=some (bQ n L i,f',b')/\Mx n f' b' (aL n L i)/\b'.isSome=(b.isSome||decide (8<(aL n L i).length)):=by
 have hn:=h.hn;have hcond:(cond (decide (i<0)) (some (true)) ((fQ (some ((n:Int),f,b))).bind fun i173=>some (decide (i173<=i))))=some (!decide (0<=i/\i<n)):=by
   rw[show fQ (some ((n:Int),f,b))=some (n:Int)from rfl];by_cases h1:i<0
   . have h2:¬ 0<=i:=by omega
     simp[h1,h2]
   . have h2:0<=i:=by omega
     by_cases h3:(n:Int)<=i
     . have h4:¬ i<n:=by omega
       simp[h1,h2,h3,h4]
     . have h4:i<n:=by omega
       simp[h1,h2,h3,h4]
 unfold dd;rw[hcond];simp only[V0];by_cases hi:0<=i/\i<(n:Int)
 . rw[decide_eq_true hi];simp only[X7,cond_false,uT,V0]
   rcases h.st with⟨rfl,rfl,h8⟩|⟨w,rfl,rfl,hw⟩
   . have hsp:=r7 hn h.rs h.bd (by omega);obtain⟨a1,a2⟩:=Hh hsp i (by omega);obtain⟨e1,e2⟩:=Jw (L:=L) hn hi;rw[e1,e2]at a1;rw[e1]at a2;have hl9:(aL n L i).length<=9:=by have:=Bm n L i;omega
     simp only[cS0,cond_false,V0,a1,show ∀M:List Int,lJ (some M)=some ((M.length:Nat):Int)from fun _=>rfl,cw0];by_cases h9:8<(aL n L i).length
     . have h9':(8:Int)<(((aL n L i).length:Nat):Int):=by omega
       obtain⟨w,t1,t2⟩:=zx hn a2 (wQ i h.bd) none;rw[decide_eq_true h9',decide_eq_true h9];simp only[cond_true,t1,V0];exact⟨_,_,rfl,⟨hn,a2.rs,wQ i h.bd,.inr ⟨w,rfl,rfl,t2⟩⟩,rfl⟩
     . have h9':¬ (8:Int)<(((aL n L i).length:Nat):Int):=by omega
       rw[decide_eq_false h9',decide_eq_false h9];simp only[cond_false];exact⟨_,_,rfl,⟨hn,a2.rs,wQ i h.bd,.inl ⟨rfl,rfl,by omega⟩⟩,rfl⟩
   . obtain⟨w',a1,a2⟩:=hw.add i;simp only[cR0,cond_true,V0,a1,Bool.true_or];exact⟨_,_,rfl,⟨hn,a2.rs,a2.bd,.inr ⟨w',rfl,rfl,a2⟩⟩,rfl⟩
 . rw[decide_eq_false hi];obtain⟨e1,e2⟩:=HU (L:=L) hi;rw[e1,e2];refine⟨f,b,rfl,h,?_⟩
   rcases h.st with⟨rfl,rfl,h8⟩|⟨w,rfl,rfl,hw⟩
   . rw[decide_eq_false (by omega:¬ 8<L.length)];rfl
   . rfl
theorem Gi {n:Nat} {f:Option (List Int)} {b:Option (Int×List Int)} {L:List Int} (h:Mx n f b L) (lo hi:Int):∃ f' b' L',n9 lo hi n f b=some (f',b')/\Mx n f' b' L'/\b'.isSome=(b.isSome||decide (8 < L'.length))/\∀ x,x∈L'↔x∈L\/(lo<=x/\x < hi/\0<=x/\x < n):=by
 have hn:=h.hn;have key:=aW (body:=tK hi n) (fun s=>∃L':List Int,0<=s.1/\lo<=s.1/\Mx n s.2.1 s.2.2 L'/\s.2.2.isSome=(b.isSome||decide (8<L'.length))/\∀x,x∈L'↔x∈L\/(lo<=x/\x<s.1/\x<hi/\0<=x/\x<n)) (fun s=>n-s.1.toNat)
   (Q:=fun r=>∃L':List Int,Mx n r.1 r.2 L'/\r.2.isSome=(b.isSome||decide (8<L'.length))/\∀x,x∈L'↔x∈L\/(lo<=x/\x<hi/\0<=x/\x<n)) ?_ (s:=(if lo<0 then 0 else lo,f,b)) ⟨L,?_,?_,h,?_,fun x=>?_⟩
 . obtain⟨⟨f',b'⟩,k1,L',k2,k3,k4⟩:=key;refine⟨f',b',L',?_,k2,k3,k4⟩;unfold n9;rw[k1];rfl
 . rintro⟨i,f1,b1⟩ ⟨L',h0,hlo,hm,hd,hx⟩;dsimp only at h0 hlo hm hd hx ⊢;unfold tK;simp only[show fQ (some ((n:Int),f1,b1))=some (n:Int)from rfl,V0];by_cases hc:i<(if (n:Int)<hi then (n:Int)else hi)
   . left
     have hin:i<n/\i<hi:=by split at hc <;> omega
     obtain⟨f2,b2,a1,a2,a3⟩:=qn hm i;refine⟨(i+1,f2,b2),?_,⟨aL n L' i,by dsimp only;omega,by dsimp only;omega,a2,?_,fun x=>?_⟩,?_⟩
     . rw[decide_eq_true hc];simp only[cond_true,a1,V0,w64 (x:=i+1) (by omega) (by omega)]
     . dsimp only;rw[a3,hd];have hle:L'.length<=(aL n L' i).length:=vY hm.rs a2.rs (fun x hx=>(d7 _ _).2 (.inl hx));by_cases h1:8<L'.length
       . have h2:8<(aL n L' i).length:=by omega
         simp[h1,h2]
       . simp[h1]
     . dsimp only;rw[d7,hx];constructor
       . rintro ((h1|h1)|⟨rfl,h1⟩)
         . exact .inl h1
         . exact .inr ⟨h1.1,by omega,h1.2.2⟩
         . exact .inr ⟨hlo,by omega,hin.2,h1⟩
       . rintro (h1|h1)
         . exact .inl (.inl h1)
         . by_cases h2:x<i
           . exact .inl (.inr ⟨h1.1,h2,h1.2.2⟩)
           . exact .inr ⟨by omega,by omega,by omega⟩
     . show n-(i+1).toNat<n-i.toNat;omega
   . right
     refine⟨(f1,b1),by rw[decide_eq_false hc];rfl,L',hm,hd,fun x=>?_⟩;rw[hx];constructor
     . rintro (h1|h1)
       . exact .inl h1
       . exact .inr ⟨h1.1,h1.2.2⟩
     . rintro (h1|h1)
       . exact .inl h1
       . exact .inr ⟨h1.1,by split at hc <;> omega,h1.2⟩
 . dsimp only;split <;> omega
 . dsimp only;split <;> omega
 . rcases h.st with⟨rfl,rfl,h8⟩|⟨w,rfl,rfl,hw⟩
   . rw[decide_eq_false (by omega:¬ 8<L.length)];rfl
   . rfl
 . dsimp only;constructor
   . exact .inl
   . rintro (h1|h1)
     . exact h1
     . exfalso;have:=h1.2.1;split at this <;> omega
theorem J4:ofS []=[]:=by
 have:=JO [];exact Z4.1 (by simpa using this)
theorem LK:jD []=some []:=by rw[JX (by decide),J4]
theorem Lo{n:Nat}(h:n<=1048576):Mx n (some []) none []:=⟨h,fb0,by simp,.inl ⟨rfl,rfl,by decide⟩⟩
theorem Hd(n:Int):pR n=if n<0 then some (.inl 2)else if 1048576<n then some (.inl 5)else some (.inr (0,n,some [])):=by
 unfold pR;rw[LK];by_cases h1:n<0
 . simp[h1]
 . by_cases h2:1048576<n
   . simp[h1,h2]
   . simp[h1,h2]
theorem G6(x y:Nat)(hx:x<18446744073709551616)(hy:y<18446744073709551616):M0 .u64 ((X0 (O0 .u64) (x:Int) &&& ~~~X0 (O0 .u64) (y:Int)).toNat:Int)=0↔∀i,x.testBit i=true->y.testBit i=true:=by
 have e:M0 .u64 ((X0 (O0 .u64) (x:Int) &&& ~~~X0 (O0 .u64) (y:Int)).toNat:Int)=(((cb0 64 x &&& ~~~cb0 64 y).toNat:Nat):Int):=by
   show M0 .u64 ((X0 64 (x:Int) &&& ~~~X0 64 (y:Int)).toNat:Int)=_;rw[fZ,fZ];exact dN _ (BitVec.isLt _)
 have hb:∀i,(cb0 64 x &&& ~~~cb0 64 y).toNat.testBit i=(x.testBit i&&!y.testBit i):=fun i=>by
   rw[BitVec.testBit_toNat,BitVec.getLsbD_and,BitVec.getLsbD_not,eF0,eF0];by_cases hj:i<64
   . simp[hj]
   . have:x.testBit i=false:=eo0 (bV0 hx (show 2 ^ 64<=2 ^ i from eB0 (by decide) (by omega)));simp[hj,this]
 rw[e];constructor
 . intro h i hi;have h0:(cb0 64 x &&& ~~~cb0 64 y).toNat=0:=by omega
   have:=hb i;rw[h0,cI0,hi]at this;cases hy:y.testBit i with
   |true=>rfl
   |false=>rw[hy]at this;cases this
 . intro h;have h0:(cb0 64 x &&& ~~~cb0 64 y).toNat=0:=du0 fun i=>by
     rw[hb,cI0];cases hx:x.testBit i with
     |false=>rfl
     |true=>rw[h i hx];rfl
   rw[h0];rfl
theorem KU {n:Nat} {l l':List Int} (h:Ds n l) (h':Ds n l'):∃ c q,fH n l n l'=some (c,q,l')/\Ds n q/\(∀ j,mem q j=(mem l j||mem l' j))/\(c=true↔∃ j,mem l' j=true/\mem l j=false):=by
 have hn:=h.hn;have hl:=h.len;have hl':=h'.len;have wordOf:∀{n:Nat} {l:List Int},(∀w∈l,Wd w)->∀(k:Nat) (hk:k<l.length),∃x:Nat,l[k]=(x:Int)/\x<18446744073709551616:=fun hw k hk=>by
   have:=hw _ (X2 hk);unfold Wd at this;exact⟨_,(bn0 this.1).symm,by omega⟩
 have key:=aW (body:=tN l') (fun s=>∃k:Nat,k<=l'.length/\s.2.1=(k:Int)/\s.2.2.length=l.length/\(∀w∈s.2.2,Wd w)/\(∀j,mem s.2.2 j=if j / 64<k then mem l j||mem l' j else mem l j)/\(s.1=true↔∃j,j / 64<k/\mem l' j=true/\mem l j=false)) (fun s=>l'.length-s.2.1.toNat)
   (Q:=fun r=>r.2.length=l.length/\(∀w∈r.2,Wd w)/\(∀j,mem r.2 j=(mem l j||mem l' j))/\(r.1=true↔∃j,mem l' j=true/\mem l j=false)) ?_ (s:=(false,(0:Int),l)) ⟨0,ah0 _,rfl,rfl,h.wd,fun j=>by simp,by simp⟩
 . obtain⟨⟨c,q⟩,hlp,q1,q2,q3,q4⟩:=key;refine⟨c,q,?_,⟨hn,by rw[q1];exact hl,q2,fun j hj=>?_⟩,q3,q4⟩
   . unfold fH;rw[hlp];simp
   . rw[q3,h.top j hj,h'.top j hj];rfl
 . rintro⟨c,i,q⟩ ⟨k,hk,rfl,g1,g2,g3,g4⟩;dsimp only at g1 g2 g3 g4 ⊢;unfold tN;by_cases hkl:k<l'.length
   . left
     have hkq:k<q.length:=by omega
     obtain⟨x,hx,hx2⟩:=wordOf (n:=n) h'.wd k hkl;obtain⟨y,hy,hy2⟩:=wordOf (n:=n) g2 k hkq;have hxs:l'[k]?=some (x:Int):=by rw[Z0 hkl,hx]
     have hys:q[k]?=some (y:Int):=by rw[Z0 hkq,hy]
     have hmy:∀j,j / 64=k->mem l j=y.testBit (j % 64):=fun j hj=>by
       have:=g3 j;rw[if_neg (by omega),ep (by rw[hj];exact hys)]at this;exact this.symm
     have hmx:∀j,j / 64=k->mem l' j=x.testBit (j % 64):=fun j hj=>ep (by rw[hj];exact hxs)
     have ha:=G6 x y hx2 hy2;simp only[dlt hkl,cond_true,aj hkl,aj hkq,hx,hy,V0,an hkl (by omega),W2];by_cases hz:M0 .u64 ((X0 (O0 .u64) (x:Int) &&& ~~~X0 (O0 .u64) (y:Int)).toNat:Int)=0
     . have hsub:=ha.1 hz;have hsub2:∀j,j / 64=k->mem l' j=true->mem l j=true:=fun j hj hm=>by
         rw[hmx j hj]at hm;rw[hmy j hj];exact hsub _ hm
       refine⟨(c,((k+1:Nat):Int),q),by rw[decide_eq_true hz];rfl,⟨k+1,by omega,rfl,g1,g2,fun j=>?_,?_⟩,?_⟩
       . rw[g3];by_cases h1:j / 64<k
         . rw[if_pos h1,if_pos (by omega)]
         . rw[if_neg h1];by_cases h2:j / 64=k
           . rw[if_pos (by omega)];cases hm:mem l' j with
             |false=>simp
             |true=>rw[hsub2 j h2 hm];rfl
           . rw[if_neg (by omega)]
       . rw[g4];constructor
         . rintro⟨j,h1,h2⟩;exact⟨j,by omega,h2⟩
         . rintro⟨j,h1,h2,h3⟩;by_cases h4:j / 64=k
           . rw[hsub2 j h4 h2]at h3;cases h3
           . exact⟨j,by omega,h2,h3⟩
       . show l'.length-((k+1:Nat):Int).toNat<l'.length-((k:Nat):Int).toNat;rw[W2,W2];omega
     . have hw:M0 .u64 ((X0 (O0 .u64) (y:Int) ||| X0 (O0 .u64) (x:Int)).toNat:Int)=((y ||| x:Nat):Int):=orU y x hy2 hx2;have hex:∃i,x.testBit i=true/\y.testBit i=false:=by
         refine dX0 fun hc=>hz (ha.2 fun i hi=>?_)
         cases hyi:y.testBit i with
         |true=>rfl
         |false=>exact absurd ⟨i,hi,hyi⟩ hc
       obtain⟨i,hi1,hi2⟩:=hex;have hi64:i<64:=by
         rcases aq0 i 64 with h1|h1
         . exact h1
         . rw[eo0 (bV0 hx2 (show 2 ^ 64<=2 ^ i from eB0 (by decide) h1))]at hi1;cases hi1
       refine⟨(true,((k+1:Nat):Int),q.set k ((y ||| x:Nat):Int)),by rw[decide_eq_false hz,hw];rfl,⟨k+1,by omega,rfl,by rw[ax0];exact g1,fun w hw=>?_,fun j=>?_,?_⟩,?_⟩
       . rcases ch0 hw with hw|rfl
         . exact g2 w hw
         . have:=dG0 (n:=64) hy2 hx2;unfold Wd;omega
       . dsimp only;rw[Bv hys];by_cases h2:j / 64=k
         . rw[if_pos h2,if_pos (by omega),dV0,hmy j h2,hmx j h2]
         . rw[if_neg h2,g3];by_cases h1:j / 64<k
           . rw[if_pos h1,if_pos (by omega)]
           . rw[if_neg h1,if_neg (by omega)]
       . refine⟨fun _=>⟨64*k+i,by omega,?_,?_⟩,fun _=>rfl⟩
         . rw[hmx _ (by omega),show (64*k+i) % 64=i by omega];exact hi1
         . rw[hmy _ (by omega),show (64*k+i) % 64=i by omega];exact hi2
       . show l'.length-((k+1:Nat):Int).toNat<l'.length-((k:Nat):Int).toNat;rw[W2,W2];omega
   . right
     have e:k=l'.length:=by omega
     subst e;have hlt:∀j,mem l' j=true->j / 64<l'.length:=fun j hj=>by
       have:=iw h' hj;omega
     refine⟨(c,q),by simp,g1,g2,fun j=>?_,?_⟩
     . rw[g3];by_cases h1:j / 64<l'.length
       . rw[if_pos h1]
       . rw[if_neg h1];cases hm:mem l' j with
         |false=>simp
         |true=>exact absurd (hlt j hm) h1
     . rw[g4];constructor
       . rintro⟨j,_,h2⟩;exact⟨j,h2⟩
       . rintro⟨j,h2⟩;exact⟨j,hlt j h2.1,h2⟩
theorem HB{n m:Nat}(h:n≠m)(l l':List Int):fH n l m l'=some (false,l,l'):=by
 unfold fH;have:¬ ((n:Int)=(m:Int)):=by omega
 simp[this]
theorem Rp.or{n m:Nat}{l l' L L':List Int}(h:Rp n l L)(h':Rp m l' L'):∃q,fH n l m l'=some (decide ((n:Int)=(m:Int))&&(rOr n L L').2,q,l')/\Rp n q (if (n:Int)=(m:Int)then (rOr n L L').1 else L):=by
 by_cases e:n=m
 . subst e;obtain⟨c,q,h1,h2,h3,h4⟩:=KU h.ds h'.ds;refine⟨q,?_,?_⟩
   . rw[h1];have:c=(rOr n L L').2:=by
       rw[bx0,h4,CL];constructor
       . rintro⟨j,h5,h6⟩;have:=iw h'.ds h5;refine⟨(j:Int),(h'.mm _).2 ⟨aj0 _,by simpa using h5⟩,⟨aj0 _,by omega⟩,fun h7=>?_⟩;have:=((h.mm _).1 h7).2;rw[W2,h6]at this;cases this
       . rintro⟨x,h5,h6,h7⟩;refine⟨x.toNat,((h'.mm _).1 h5).2,?_⟩;cases h8:mem l x.toNat with
         |false=>rfl
         |true=>exact absurd ((h.mm x).2 ⟨h6.1,h8⟩) h7
     rw[this];simp
   . rw[if_pos rfl];refine⟨h2,CZ _ _ _ h.rs,fun x=>?_⟩;rw[q9,h3,bw0,h.mm,h'.mm];constructor
     . rintro (h5|⟨h5,h6⟩)
       . exact⟨h5.1,.inl h5.2⟩
       . exact⟨h5.1,.inr h5.2⟩
     . rintro⟨h5,h6|h6⟩
       . exact .inl ⟨h5,h6⟩
       . have:=iw h'.ds h6;exact .inr ⟨⟨h5,h6⟩,h5,by omega⟩
 . have e2:¬ ((n:Int)=(m:Int)):=by omega
   rw[HB e,if_neg e2,decide_eq_false e2];exact⟨l,rfl,h⟩
theorem Mx.flag{n:Nat}{f:Option (List Int)}{b:Option (Int×List Int)}{L:List Int}(h:Mx n f b L):(b.isSome||decide (8<L.length))=b.isSome:=by
 rcases h.st with⟨rfl,rfl,h8⟩|⟨w,rfl,rfl,hw⟩
 . rw[decide_eq_false (by omega:¬ 8<L.length)];rfl
 . rfl
theorem qq {n:Nat} {f f2:Option (List Int)} {b b2:Option (Int×List Int)} {L M:List Int} (h:Mx n f b L) (h2:Mx n f2 b2 M):∃ f' b',dU n f b n f2 b2=some ((rOr n L M).2,f',b',f2,b2)/\Mx n f' b' (rOr n L M).1/\b'.isSome=((b.isSome||b2.isSome)||decide (8 < (rOr n L M).1.length)):=by
 have hn:=h.hn;unfold dU;simp only[decide_true,X7,cond_false,uT,V0]
 rcases h2.st with⟨rfl,rfl,h8⟩|⟨w2,rfl,rfl,hw2⟩
 . -- a few
   have hsp:=r7 hn h2.rs h2.bd (by omega);have at0:ce (some M) 0=some (M.getD 0 0,decide (0<M.length)):=iI 0;have key:∃f' b',loop (kV n M) (M.getD 0 0,decide (0<M.length),f,b,false)=some (f',b',(rOr n L M).2)/\Mx n f' b' (rOr n L M).1/\b'.isSome=(b.isSome||decide (8<(rOr n L M).1.length)):=by
     have hind:∀d k,k+d=M.length->∀fk bk,Mx n fk bk (rOr n L (M.take k)).1->bk.isSome=(b.isSome||decide (8<(rOr n L (M.take k)).1.length)) ->
         ∃f' b',loop (kV n M) (M.getD k 0,decide (k<M.length),fk,bk,(rOr n L (M.take k)).2)=some (f',b',(rOr n L M).2)/\Mx n f' b' (rOr n L M).1/\b'.isSome=(b.isSome||decide (8<(rOr n L M).1.length)):=by
       intro d
       induction d with
       | zero =>
         intro k hk fk bk m1 m2;have e:k=M.length:=by omega
         subst e;rw[Y9]at m1 m2 ⊢;refine⟨fk,bk,iA ?_,m1,m2⟩;unfold kV;simp
       | succ d ih =>
         intro k hk fk bk m1 m2;have hkl:k<M.length:=by omega
         have hg:M.getD k 0=M[k]:=by simp[hkl]
         obtain⟨f3,b3,a1,a2,a3⟩:=qn m1 M[k];have e1:(rOr n L (M.take (k+1))).1=aL n (rOr n L (M.take k)).1 M[k]:=by rw[aH hkl,vW]
         have e2:(rOr n L (M.take (k+1))).2=((rOr n L (M.take k)).2||bQ n (rOr n L (M.take k)).1 M[k]):=by rw[aH hkl,vW]
         have hle:(rOr n L (M.take k)).1.length<=(aL n (rOr n L (M.take k)).1 M[k]).length:=vY m1.rs a2.rs (fun x hx=>(d7 _ _).2 (.inl hx));obtain⟨f',b',c1,c2,c3⟩:=ih (k+1) (by omega) f3 b3 (by rw[e1];exact a2) (by
           rw[e1,a3,m2];by_cases h1:8<(rOr n L (M.take k)).1.length
           . have h2:8<(aL n (rOr n L (M.take k)).1 M[k]).length:=by omega
             simp[h1,h2]
           . simp[h1])
         refine⟨f',b',?_,c2,c3⟩;rw[<- c1];refine qh ?_;unfold kV;simp only[decide_eq_true hkl,cond_true,hg,a1,V0,vl hsp hkl,iI,e2];cases bQ n (rOr n L (M.take k)).1 M[k] <;> simp
     exact hind M.length 0 (by omega) f b h h.flag.symm
   obtain⟨f',b',k1,k2,k3⟩:=key;refine⟨f',b',?_,k2,by rw[k3];simp⟩;simp only[cS0,cond_false,show g9 M=some M from rfl,V0,at0,k1]
 . -- bits
   have fin:∀(w:List Int),Rp n w L->∃q,fH n w n w2=some ((rOr n L M).2,q,w2)/\Rp n q (rOr n L M).1:=fun w hw=>by
     obtain⟨q,o1,o2⟩:=hw.or hw2;rw[if_pos rfl]at o2;exact⟨q,by rw[o1];simp,o2⟩
   rcases h.st with⟨rfl,rfl,h8⟩|⟨w,rfl,rfl,hw⟩
   . have hsp:=r7 hn h.rs h.bd (by omega);obtain⟨w,t1,t2⟩:=zx hn hsp h.bd none;obtain⟨q,o1,o2⟩:=fin w t2;refine⟨none,some ((n:Int),q),?_,⟨hn,o2.rs,o2.bd,.inr ⟨q,rfl,rfl,o2⟩⟩,rfl⟩;simp only[cS0,cR0,cond_true,aE0,t1,V0,o1]
   . obtain⟨q,o1,o2⟩:=fin w hw;refine⟨none,some ((n:Int),q),?_,⟨hn,o2.rs,o2.bd,.inr ⟨q,rfl,rfl,o2⟩⟩,rfl⟩;simp only[cR0,cond_true,X7,cond_false,V0,o1]
section
abbrev Mv:=Option (Int×Option (List Int)×Option (Int×List Int))
theorem P5{b:Bo}(hN:0<NB b):(vck b).1=0:=by
 by_cases q:(vck b).1=0
 . exact q
 . exfalso;have:xs b=[]:=by unfold xs;rw[if_neg q]
   have e:NB b=0:=by show bg (xs b) (xs b).length=0;rw[this];rfl
   omega
theorem JK{b:Bo}(h:(vck b).1=0):1<=b.1/\b.1<=b.2.1/\b.2.1<=65536:=by
 unfold vck at h;have hh:=(cX h).1;unfold nC at hh;by_cases c:b.1<1\/b.2.1<b.1
 . rw[if_pos c]at hh;simp at hh
 . rw[if_neg c]at hh;by_cases d:65536<b.2.1
   . rw[if_pos d]at hh;simp at hh
   . omega
theorem K9{b:Bo}(h:(vck b).1=0):∀t∈b.2.2.2.1,∀s∈t,0<=s.1/\s.1<b.2.1:=by
 unfold vck at h;have hl:=(cX (cX (cX h).2).2).1;unfold gG at hl;by_cases c:b.2.2.2.1=[]
 . intro t ht;rw[c]at ht;cases ht
 . rw[if_neg c]at hl;have key:∀t:List St,rck b.2.1 t=0->∀s∈t,0<=s.1/\s.1<b.2.1:=fun t ht s hs=>by
     unfold rck at ht;by_cases c1:16<t.length
     . rw[if_pos c1]at ht;cases ht
     . rw[if_neg c1]at ht;by_cases c2:rin b.2.1 t=true
       . rw[if_pos c2]at ht;cases ht
       . unfold rin at c2;rw[Bool.not_eq_true,ao0]at c2;have:=c2 s hs;simp at this;omega
   cases hq:b.2.2.2.1.findIdx? (fun t=>!decide (rck b.2.1 t=0))with
   | none =>
     intro t ht;have:=ar0.1 hq t ht;simp at this;exact key t this
   | some k =>
     exfalso;rw[hq]at hl;obtain⟨hk,hcc,_⟩:=Z9.1 hq;have e:b.2.2.2.1.getD k []=b.2.2.2.1[k]:=by simp[ag0,hk]
     simp only[e]at hl;simp[hl]at hcc
def rgs(xa:List St):List Int:=Lib.compact ((xa.map (·.1)).mergeSort fun x y=>decide (x<=y))
theorem Gq(xa:List St):(rgs xa).Pairwise (· < ·)/\∀a,a∈rgs xa↔a∈xa.map (·.1):=by
 have hs:((xa.map (·.1)).mergeSort fun x y=>decide (x<=y)).Pairwise (·<=·):=by
   have:=bR0 (le:=fun x y:Int=>decide (x<=y)) (fun a b c h1 h2=>by simp at *;omega) (fun a b=>by simp;omega) (xa.map (·.1));exact this.imp (by simp)
 have h:=js hs;exact⟨h.1,fun a=>(h.2 a).trans ct0⟩
theorem JN(xa:List St):(rgs xa).length<=xa.length:=by
 have:=Lib.compact_length_le ((xa.map (·.1)).mergeSort fun x y=>decide (x<=y));simpa[rgs]using this
theorem Fp(xa:List St)(hn:xa.length<=1000000):io xa=some (rgs xa):=by
 have hl:=aC (body:=lF xa) (fun k:Nat=>((xa.take k).map (·.1),(k:Int))) xa.length (b:=xa.map (·.1)) (fun k hk=>by
     unfold lF;dsimp only;rw[dlt hk,cond_true,aj hk,V0,aI (by simp;omega),V0,an hk (by omega),aH hk,X6];rfl) (by unfold lF;dsimp only;rw[dge (bp0 _),cond_false,Y9])
 unfold io;rw[show loop (lF xa) ([],0)=_ from hl,V0];unfold srt;rw[if_pos (by simp;omega)];rfl
def D7(t:List St)(r:Nat):Prop:=∃s∈t,s.1=(r:Int)
def sdM(b:Bo)(u m r:Nat)(x:Int):Prop:=(r<u/\(0<=x/\x<((NB b:Nat):Int)\/x=((NB b:Nat):Int)+(r:Int)))\/∃k,k<m/\∃t,b.2.2.2.1[k]?=some t/\D7 t r/\0<=x/\lvB b k x.toNat=true
def b9(b:Bo)(u m r:Nat)(s:Mv):Prop:=∃f w L,s=some (((NB b+u:Nat):Int),f,w)/\Mx (NB b+u) f w L/\∀x,x∈L↔sdM b u m r x
theorem qB{n:Nat}(h:n<=1048576):fS (n:Int)=some (.inr ((n:Int),some [])):=by
 unfold fS;rw[Hd,if_neg (by omega),if_neg (by omega)];rfl
theorem rJ{n:Nat}(h:n<=1048576):Mx n (some []) none []:=Lo h
section
variable {b:Bo}{u R:Nat}
theorem IJ{N S r:Nat}{fe:Option (List Int)}{we:Option (Int×List Int)}{Le:List Int}(hS:S<=1048576)(he:Mx S fe we Le)(hLe:∀x,x∈Le↔0<=x/\x<(N:Int))(hr:N+r<S) :
   ∃f1 w1 f2 w2 t1 t2,dU (S:Int) (some []) none (S:Int) fe we=some (t1,f1,w1,fe,we)/\dd ((N+r:Nat):Int) (S:Int) f1 w1=some (t2,f2,w2)/\∃L,Mx S f2 w2 L/\∀x,x∈L↔(0<=x/\x<(N:Int))\/x=(N:Int)+(r:Int):=by
 obtain⟨f1,w1,g1,g2,_⟩:=qq (rJ hS) he;obtain⟨f2,w2,g3,g4,_⟩:=qn g2 ((N+r:Nat):Int);refine⟨f1,w1,f2,w2,_,_,g1,g3,_,g4,fun x=>?_⟩;rw[d7,q9,hLe];constructor
 . rintro ((h|h)|h)
   . cases h
   . exact .inl h.1
   . exact .inr (by omega)
 . rintro (h|h)
   . exact .inl (.inr ⟨h,by omega⟩)
   . exact .inr (by omega)
theorem MP (hU:b.1=(u:Int)) (hR:b.2.1=(R:Int)) (huR:u<=R) (hR2:R<=65536) (hN:NB b<=32) {fe:Option (List Int)} {we:Option (Int×List Int)} {Le:List Int} (he:Mx (NB b + u) fe we Le) (hLe:∀ x,x∈Le↔0<=x/\x < ((NB b:Nat):Int)) :
   ∃V,loop (jo b ((NB b:Nat):Int) (((NB b+u:Nat):Nat):Int) (Z2 R none)) (0,fe,we,Z2 R none)=some V/\V.length=R/\∀r s,V[r]?=some s->b9 b u 0 r s:=by
 have hS:NB b+u<=1048576:=by omega
 have hsz:M0 .i64 (((NB b:Nat):Int)+b.1)=((NB b+u:Nat):Int):=by rw[hU,w64 (by omega) (by omega)];omega
 obtain⟨V,h1,h2⟩:=aW (body:=jo b ((NB b:Nat):Int) (((NB b+u:Nat):Nat):Int) (Z2 R none)) (fun s=>∃k:Nat,k<=R/\s.1=(k:Int)/\s.2.1=fe/\s.2.2.1=we/\s.2.2.2.length=R/\∀r x,s.2.2.2[r]?=some x->(r<k->b9 b u 0 r x)/\(k<=r->x=none)) (fun s=>R-s.1.toNat) (Q:=fun V=>V.length=R/\∀r s,V[r]?=some s->b9 b u 0 r s) (fun s hs=>by
   obtain⟨i,f,w,V⟩:=s;obtain⟨k,hk,rfl,rfl,rfl,hlen,hV⟩:=hs;dsimp only at hlen hV ⊢;by_cases hc:k<R
   . left
     have hkV:k<V.length:=by omega
     have e0:aa V (k:Int)=some V[k]:=aj hkV;have hw1:M0 .i64 ((k:Int)+1)=((k+1:Nat):Int):=an hc (by omega);have nxt:∀x,b9 b u 0 k x->∀r y,(V.set k x)[r]?=some y->(r<k+1->b9 b u 0 r y)/\(k+1<=r->y=none):=fun x hx r y hy=>by
       by_cases e:r=k
       . subst e;rw[cy0 hkV]at hy;obtain rfl:=ap0 hy;exact⟨fun _=>hx,fun h=>by omega⟩
       . rw[bC0 (fun h=>e h.symm)]at hy;exact⟨fun h=>(hV r y hy).1 (by omega),fun h=>(hV r y hy).2 (by omega)⟩
     have gs:∀x:Mv,aa (V.set k x) (k:Int)=some x:=fun x=>by rw[aj (by simpa using hkV)];simp
     by_cases hcu:k<u
     . obtain⟨f1,w1,f2,w2,t1,t2,g1,g2,L,g3,g4⟩:=IJ (r:=k) hS he hLe (by omega);have hwk:M0 .i64 (((NB b:Nat):Int)+(k:Int))=((NB b+k:Nat):Int):=by rw[w64 (by omega) (by omega)];omega
       refine⟨(((k+1:Nat):Int),f,w,V.set k (some (((NB b+u:Nat):Int),f2,w2))),?_,⟨k+1,hc,rfl,rfl,rfl,by simpa using hlen,nxt _ ⟨f2,w2,L,rfl,g3,fun x=>?_⟩⟩,by dsimp only;omega⟩
       . unfold jo;dsimp only;rw[X9,dlt hc,cond_true,e0,V0,hsz,qB hS];simp only[V0,iB,W2];rw[hU,dlt hcu,cond_true];simp only[gs,V0,g1,List.set_set,hwk,g2,hw1,iB]
       . rw[g4];unfold sdM;constructor
         . exact fun h=>.inl ⟨hcu,h⟩
         . rintro (h|⟨k',h,_⟩)
           . exact h.2
           . omega
     . refine⟨(((k+1:Nat):Int),f,w,V.set k (some (((NB b+u:Nat):Int),some [],none))),?_,⟨k+1,hc,rfl,rfl,rfl,by simpa using hlen,nxt _ ⟨some [],none,[],rfl,rJ hS,fun x=>?_⟩⟩,by dsimp only;omega⟩
       . unfold jo;dsimp only;rw[X9,dlt hc,cond_true,e0,V0,hsz,qB hS];simp only[V0,iB,W2];rw[hU,dge hcu,cond_false,hw1]
       . unfold sdM;simp only[List.not_mem_nil,false_iff];rintro (h|⟨k',h,_⟩)
         . omega
         . omega
   . obtain rfl:k=R:=by omega
     refine .inr ⟨V,?_,hlen,fun r x hx=>(hV r x hx).1 ?_⟩
     . unfold jo;dsimp only;rw[X9,dge hc,cond_false]
     . have:=(V4.1 hx).1;omega) (s:=(0,fe,we,Z2 R none)) ⟨0,ah0 _,rfl,rfl,rfl,by simp,fun r x hx=>⟨fun h=>by omega,fun _=>by rw[df0]at hx;split at hx <;> simp at hx;exact hx.symm⟩⟩
 exact⟨V,h1,h2⟩
theorem Jn{S:Nat}(hS:S<=1048576){A:List Nat}(hA:∀n∈A,n<S)(hAl:A.length<=1000000):∃f w L,loop (lM (S:Int) (li A)) (0,some [],none)=some (f,w)/\Mx S f w L/\∀x,x∈L↔x∈li A:=by
 obtain⟨⟨f,w⟩,h1,L,h2,h3⟩:=aW (body:=lM (S:Int) (li A)) (fun s=>∃(k:Nat) (L:List Int),k<=A.length/\s.1=(k:Int)/\Mx S s.2.1 s.2.2 L/\∀x,x∈L↔x∈li (A.take k)) (fun s=>A.length-s.1.toNat) (Q:=fun r=>∃L,Mx S r.1 r.2 L/\∀x,x∈L↔x∈li A) (fun s hs=>by
   obtain⟨i,f,w⟩:=s;obtain⟨k,L,hk,rfl,hm,hL⟩:=hs;dsimp only at hm ⊢;by_cases hc:k<A.length
   . obtain⟨f',w',g1,g2,_⟩:=qn hm ((A[k]:Nat):Int);have:=hA _ (X2 hc);refine .inl ⟨(((k+1:Nat):Int),f',w'),?_,⟨k+1,_,hc,rfl,g2,fun x=>?_⟩,by dsimp only;omega⟩
     . unfold lM;simp only[au,dlt hc,cond_true,bD hc,V0,g1,an hc (by omega:A.length<=9223372036854775807)]
     . rw[d7,hL,aH hc];have e:li (A.take k++[A[k]])=li (A.take k)++[((A[k]:Nat):Int)]:=by unfold li;rw[X6];rfl
       rw[e,V3,Y2];constructor
       . rintro (h|h)
         . exact .inl h
         . exact .inr h.1
       . rintro (h|h)
         . exact .inl h
         . exact .inr ⟨h,by omega,by omega⟩
   . obtain rfl:k=A.length:=by omega
     refine .inr ⟨(f,w),?_,L,hm,fun x=>by rw[hL,Y9]⟩;unfold lM;simp only[au,dge hc,cond_false]) (s:=(0,some [],none)) ⟨0,[],ah0 _,rfl,rJ hS,fun x=>by simp[li]⟩
 exact⟨f,w,L,h1,h2,h3⟩
theorem I3 {m:Nat} {t:List St} (hR2:R<=65536) (ht:b.2.2.2.1[m]? = some t) (hin:∀ s∈t,0<=s.1/\s.1 < (R:Int)) (htl:t.length<=1000) {fs:Option (List Int)} {ws:Option (Int×List Int)} {M:List Int} (hM:Mx (NB b + u) fs ws M)
   (hMx:∀x,x∈M↔0<=x/\lvB b m x.toNat=true) {V:List Mv} (hV:V.length=R) (hVs:∀r s,V[r]?=some s->b9 b u m r s) :
   ∃V',loop (lI (((NB b+u:Nat):Nat):Int) (rgs t)) (0,V,fs,ws)=some V'/\V'.length=R/\∀r s,V'[r]?=some s->b9 b u (m+1) r s:=by
 obtain⟨hrs,hrm⟩:=Gq t;have hrl:=JN t;have step:∀r:Nat,¬ D7 t r->∀s,b9 b u m r s->b9 b u (m+1) r s:=fun r hn s ⟨f,w,L,e,h1,h2⟩=>⟨f,w,L,e,h1,fun x=>by
   rw[h2];unfold sdM;constructor
   . rintro (h|⟨k,hk,h⟩)
     . exact .inl h
     . exact .inr ⟨k,by omega,h⟩
   . rintro (h|⟨k,hk,t',e1,e2,h⟩)
     . exact .inl h
     . by_cases e:k=m
       . subst e;rw[ht]at e1;obtain rfl:=ap0 e1;exact absurd e2 hn
       . exact .inr ⟨k,by omega,t',e1,e2,h⟩⟩
 obtain ⟨V', h1, h2⟩ := aW (body := lI (((NB b + u : Nat) : Nat) : Int) (rgs t)) (fun s => ∃ j : Nat, j <= (rgs t).length /\ s.1 = (j : Int) /\ s.2.1.length = R /\ s.2.2.1 = fs /\ s.2.2.2 = ws /\ ∀ (r : Nat) (x : Mv), s.2.1[r]? = some x -> if (r : Int) ∈ (rgs t).take j then b9 b u (m + 1) r x else b9 b u m r x) (fun s => (rgs t).length - s.1.toNat) (Q := fun V' => V'.length = R /\ ∀ r s, V'[r]? = some s -> b9 b u (m + 1) r s) (fun s hs => by
   obtain⟨i,W,f0,w0⟩:=s;obtain⟨j,hj,rfl,hlen,rfl,rfl,hW⟩:=hs;dsimp only at hlen hW ⊢;by_cases hc:j<(rgs t).length
   . left
     have hmem:=(hrm _).1 (X2 hc);obtain⟨s0,hs0,e0⟩:=Y7.1 hmem;have hb:=hin s0 hs0;rw[e0]at hb;obtain⟨r,hr⟩:=W6 hb.1;have hrW:r<W.length:=by omega
     have hnot:(r:Int)∉(rgs t).take j:=fun hm=>by
       have hnd:(rgs t).Nodup:=hrs.imp (fun h=>by omega);have h2:((rgs t).take (j+1)).Nodup:=hnd.sublist (dH0 _ _);rw[aH hc,aR0]at h2;exact h2.2.2 _ hm _ (Y2.2 hr.symm) rfl
     have hWr:=hW r W[r] (Z0 hrW);rw[if_neg hnot]at hWr;obtain⟨f,w,L,e1,g1,g2⟩:=hWr;obtain⟨f',w',g3,g4,_⟩:=qq g1 hM;have gW:aa W ((r:Nat):Int)=some W[r]:=aj hrW;refine⟨(((j+1:Nat):Int),W.set r (some (((NB b+u:Nat):Int),f',w')),f0,w0),?_,⟨j+1,hc,rfl,by simpa using hlen,rfl,rfl,fun r2 x hx=>?_⟩,by dsimp only;omega⟩
     . unfold lI;dsimp only;rw[dlt hc,cond_true,aj hc,V0,hr];simp only[gW,V0,iB,e1,g3,W2,an hc (by omega:(rgs t).length<=9223372036854775807)]
     . rw[aH hc];by_cases e:r2=r
       . subst e;rw[cy0 hrW]at hx;obtain rfl:=ap0 hx;rw[if_pos (ae0 _ (Y2.2 hr.symm))];refine⟨f',w',_,rfl,g4,fun x=>?_⟩;rw[q9,g2,hMx];unfold sdM;constructor
         . rintro ((h|⟨k,hk,h⟩)|h)
           . exact .inl h
           . exact .inr ⟨k,by omega,h⟩
           . exact .inr ⟨m,by omega,t,ht,⟨s0,hs0,by rw[e0,hr]⟩,h.1⟩
         . rintro (h|⟨k,hk,t',q1,q2,h⟩)
           . exact .inl (.inl h)
           . by_cases e:k=m
             . subst e;have:=xg h.2;exact .inr ⟨h,by omega⟩
             . exact .inl (.inr ⟨k,by omega,t',q1,q2,h⟩)
       . rw[bC0 (fun h=>e h.symm)]at hx;have:=hW r2 x hx;have hiff:(r2:Int)∈(rgs t).take j++[(rgs t)[j]]↔(r2:Int)∈(rgs t).take j:=by
           rw[V3,Y2,hr];exact⟨fun h=>h.elim id (fun h=>absurd (by exact_mod_cast h) e),.inl⟩
         by_cases q:(r2:Int)∈(rgs t).take j
         . rw[if_pos q]at this;rw[if_pos (hiff.2 q)];exact this
         . rw[if_neg q]at this;rw[if_neg (fun h=>q (hiff.1 h))];exact this
   . obtain rfl:j=(rgs t).length:=by omega
     refine .inr ⟨W,?_,hlen,fun r x hx=>?_⟩
     . unfold lI;dsimp only;rw[dge hc,cond_false]
     . have:=hW r x hx;rw[Y9]at this;by_cases q:(r:Int)∈rgs t
       . rw[if_pos q]at this;exact this
       . rw[if_neg q]at this;refine step r (fun ⟨s,hs,e⟩=>q ((hrm _).2 (Y7.2 ⟨s,hs,e⟩))) x this) (s:=(0,V,fs,ws)) ⟨0,ah0 _,rfl,hV,rfl,rfl,fun r x hx=>by simpa using hVs r x hx⟩
 exact⟨V',h1,h2⟩
theorem OJ{C:List Sw}(hC:CsOk b C)(hN0:0<NB b)(hU:b.1=(u:Int))(huR:u<=R)(hR2:R<=65536)(hN:NB b<=32)(hL:b.2.2.2.1.length<=10)(hloc:∀t∈b.2.2.2.1,t.length<=20)(hin:∀t∈b.2.2.2.1,∀s∈t,0<=s.1/\s.1<(R:Int)){V:List Mv}(hV:V.length=R)(hVs:∀r s,V[r]?=some s->b9 b u 0 r s) :
   ∃V',loop (lO b (some ((NB b:Int),C)) ((NB b:Nat):Int)) (0,V)=some V'/\V'.length=R/\∀r s,V'[r]?=some s->b9 b u b.2.2.2.1.length r s:=by
 have hS:NB b+u<=1048576:=by omega
 have hsz:M0 .i64 (((NB b:Nat):Int)+b.1)=((NB b+u:Nat):Int):=by rw[hU,w64 (by omega) (by omega)];omega
 have hCl:=hC.len hN0;obtain⟨V',h1,h2⟩:=aW (body:=lO b (some ((NB b:Int),C)) ((NB b:Nat):Int)) (fun s=>∃k:Nat,k<=b.2.2.2.1.length/\s.1=(k:Int)/\s.2.length=R/\∀r x,s.2[r]?=some x->b9 b u k r x) (fun s=>b.2.2.2.1.length-s.1.toNat) (Q:=fun V'=>V'.length=R/\∀r s,V'[r]?=some s->b9 b u b.2.2.2.1.length r s) (fun s hs=>by
   obtain⟨i,W⟩:=s;obtain⟨k,hk,rfl,hlen,hW⟩:=hs;dsimp only at hlen hW ⊢;by_cases hc:k<b.2.2.2.1.length
   . left
     have hmem:=X2 hc;have hA:∀n∈lvN b k,n<NB b+u:=fun n hn=>by
       unfold lvN at hn;have:=V7.1 (ac0.1 hn).1;omega
     obtain⟨fs,ws,M,g1,g2,g3⟩:=Jn hS hA (Z7 (Kw b k) (by omega));have hM:∀x,x∈M↔0<=x/\lvB b k x.toNat=true:=fun x=>by
       rw[g3];unfold li lvN;rw[Y7];constructor
       . rintro⟨n,hn,rfl⟩;exact⟨aj0 n,by rw[W2];exact (ac0.1 hn).2⟩
       . rintro⟨h0,h⟩;exact⟨x.toNat,ac0.2 ⟨V7.2 (xg h),h⟩,bn0 h0⟩
     obtain⟨W',g4,g5,g6⟩:=I3 hR2 (Z0 hc) (hin _ hmem) (Z7 (hloc _ hmem) (by decide)) g2 hM hlen hW;refine⟨(((k+1:Nat):Int),W'),?_,⟨k+1,hc,rfl,g5,g6⟩,by dsimp only;omega⟩;unfold lO;dsimp only;rw[dlt hc,cond_true,aj hc,V0,hsz,qB hS];simp only[V0];rw[Gp hC (by omega)];simp only[V0];rw[g1];simp only[V0];rw[Fp _ (Z7 (hloc _ hmem) (by decide))];simp only[V0,g4,an hc (by omega:b.2.2.2.1.length<=9223372036854775807)]
   . obtain rfl:k=b.2.2.2.1.length:=by omega
     refine .inr ⟨W,?_,hlen,hW⟩;unfold lO;dsimp only;rw[dge hc,cond_false]) (s:=(0,V)) ⟨0,ah0 _,rfl,hV,hVs⟩
 exact⟨V',h1,h2⟩
end
theorem GH{b:Bo}(h:Few b):∃V:List Mv,dB b=some V/\(NB b=0->V=[])/\(0<NB b->∃u R:Nat,b.1=(u:Int)/\b.2.1=(R:Int)/\1<=u/\u<=R/\R<=65536/\V.length=R/\∀r s,V[r]?=some s->b9 b u b.2.2.2.1.length r s):=by
 obtain⟨C,h1,hC⟩:=He h.sm;have hb:NB b<=32:=LA h;unfold dB;rw[show mz b=_ from h1,V0,Jx,V0];by_cases h0:NB b=0
 . refine⟨[],?_,fun _=>rfl,fun h=>by omega⟩;rw[decide_eq_true (show ((NB b:Nat):Int)=0 by omega),cond_true]
 . have hN0:0<NB b:=by omega
   have hwf:=P5 hN0;obtain⟨w1,w2,w3⟩:=JK hwf;have hloc:=K9 hwf;obtain⟨u,hU⟩:=W6 (show 0<=b.1 by omega);obtain⟨R,hR⟩:=W6 (show 0<=b.2.1 by omega);have hS:NB b+u<=1048576:=by omega
   have hsz:M0 .i64 (((NB b:Nat):Int)+b.1)=((NB b+u:Nat):Int):=by rw[hU,w64 (by omega) (by omega)];omega
   obtain⟨fe,we,Le,g1,g2,_,g3⟩:=Gi (rJ hS) 0 ((NB b:Nat):Int);have hLe:∀x,x∈Le↔0<=x/\x<((NB b:Nat):Int):=fun x=>by
     rw[g3];constructor
     . rintro (h|h)
       . cases h
       . omega
     . exact fun h=>.inr (by omega)
   obtain⟨V1,s1,s2,s3⟩:=MP hU hR (by omega) (by omega) hb g2 hLe;obtain⟨V2,t1,t2,t3⟩:=OJ hC hN0 hU (by omega) (by omega) hb h.locals h.loc (fun t ht s hs=>by have:=hloc t ht s hs;omega) s2 s3;refine⟨V2,?_,fun h=>absurd h h0,fun _=>⟨u,R,hU,hR,by omega,by omega,by omega,t2,t3⟩⟩;rw[decide_eq_false (show ¬ ((NB b:Nat):Int)=0 by omega),cond_false,hsz,qB hS,hR,wS _ _ (by omega)];simp only[V0,a8,g1];rw[s1];simp only[V0];rw[t1];rfl
end
section
theorem C0{n:Nat}{f:Option (List Int)}{b:Option (Int×List Int)}{L:List Int}(h:Mx n f b L):jh (some ((n:Int),f,b))=some L:=by
 have hn:=h.hn;unfold jh;rw[show ue (some ((n:Int),f,b))=some ()from rfl,V0];unfold uc;rw[uT]
 rcases h.st with⟨rfl,rfl,h8⟩|⟨w,rfl,rfl,hw⟩
 . have hsp:=r7 hn h.rs h.bd (by omega);have at0:ce (some L) 0=some (L.getD 0 0,decide (0<L.length)):=iI 0;have hlp:loop (lj (some L)) (L.getD 0 0,decide (0<L.length),([]:List Int))=some L:=by
     have:=aC (body:=lj (some L)) (fun k:Nat=>(L.getD k 0,decide (k<L.length),L.take k)) L.length (b:=L) ?_ ?_
     . exact this
     . intro k hk;unfold lj;have hg:L.getD k 0=L[k]:=by simp[hk]
       have ha:app (L.take k) [L[k]]=some (L.take (k+1)):=by
         rw[aI (by simp;omega),aH hk]
       simp only[decide_eq_true hk,cond_true,hg,ha,V0,vl hsp hk,iI]
     . unfold lj;simp
   simp only[cS0,cond_false,V0,aA0,ub,at0,hlp]
 . have hl:=GE hw (body:=ox (some ((n:Int),w))) (fun c k hk=>by
     have hk2:=iw hw.ds hk;unfold ox;have h0:decide (0<=(k:Int))=true:=by simp
     simp only[h0,cond_true,w64 (x:=(k:Int)+1) (by omega) (by omega)]) (fun c=>by
     unfold ox;rfl)
   obtain⟨r,g1,g2⟩:=hl;simp only[cR0,cond_true,V0,jp,g1,g2]
section
variable {b:Bo}
end
section
variable {b:Bo}{u R:Nat}
end
end
section
def up{α:Type}(f:Nat->α)(v:Nat)(x:α):Nat->α:=fun u=>if u=v then x else f u
theorem dq{α:Type}{f:Nat->α}{v:Nat}{x:α}:up f v x v=x:=if_pos rfl
theorem rS{α:Type}{f:Nat->α}{v u:Nat}{x:α}(h:u≠v):up f v x u=f u:=if_neg h
theorem Ko{α:Type}{f:Nat->α}{v:Nat}{x:α}(h:f v=x):up f v x=f:=by
 funext u;unfold up;split
 . rename_i e;rw[e,h]
 . rfl
theorem Ax{N w:Nat}{p q:Nat->Bool}(hw:w<N)(hp:p w=false)(hq:∀v,q v=(p v||decide (v=w))):(Z1 N).countP q=(Z1 N).countP p+1:=by
 induction N with
 |zero=>omega
 | succ n ih =>
   rw[aU0,cv0,cv0];simp only[bB0,List.countP_nil,Y8];by_cases h:w=n
   . subst h;have:(Z1 w).countP q=(Z1 w).countP p:=eZ0 fun x hx=>by
       rw[hq,decide_eq_false (show ¬ x=w by have:=V7.1 hx;omega),di0]
     rw[this,hq,hp];simp
   . rw[ih (by omega),hq n,decide_eq_false (fun e=>h e.symm),di0];omega
structure Tj(N:Nat)(E:ArG)(A M L:Nat->Nat)(S:Nat->Bool)(m:Nat)(W O:List Nat)(F:List (List Nat)):Prop where
 lt:∀v,M v≠0->v<N
 le:∀v,M v<=m
 inj:∀v w,M v≠0->M v=M w->v=w
 op:∀v,v∈O↔M v≠0/\S v=false
 sm:∀v,S v=true->M v≠0
 os:O.Pairwise (fun a b=>M a<M b)
 wo:∀v∈W,v∈O
 ws:W.Pairwise (fun a b=>M a<M b)
 al:∀v,A v<=(nxt E v).length
 a0:∀v,M v=0->A v=0
 dn:∀v,M v≠0->v∉W->A v=(nxt E v).length
 ar:∀v,∀z∈(nxt E v).take (A v),M z≠0
 cl:∀v w,S v=true->(v,w)∈E->S w=true
 ll:∀v∈O,L v<=M v
 lr:∀v∈O,∃z∈O,M z=L v/\Rch E v z
 ld:∀v∈O,v∉W->L v<M v
 wr:∀y∈O,∀w∈W,M w<=M y->Rch E w y
 lo:∀y∈O,∀z∈(nxt E y).take (A y),S z=false->∀w∈W,M w<=M y->(∀x∈W,M x<=M y->M x<=M w)->L w<=M z
 f1:F.flatten.Nodup
 f2:∀v,v∈F.flatten↔S v=true
 f3:∀C∈F,C≠[]/\C.Pairwise (· < ·)/\∀a∈C,∀b,b∈C↔Rch E a b/\Rch E b a
 mc:(Z1 N).countP (fun v=>decide (M v≠0))=m
section
variable {N:Nat}{E:ArG}{A M L:Nat->Nat}{S:Nat->Bool}{m:Nat}{W O:List Nat}{F:List (List Nat)}
theorem Tj.start(N:Nat)(E:ArG):Tj N E (fun _=>0) (fun _=>0) (fun _=>0) (fun _=>false) 0 [] [] [] where
 lt:=fun v h=>absurd rfl h
 le:=fun _=>X3 _
 inj:=fun v w h=>absurd rfl h
 op:=fun v=>by simp
 sm:=fun v h=>by cases h
 os:=.nil
 wo:=fun v h=>by cases h
 ws:=.nil
 al:=fun _=>ah0 _
 a0:=fun _ _=>rfl
 dn:=fun v h=>absurd rfl h
 ar:=fun v z h=>by simp at h
 cl:=fun v w h=>by cases h
 ll:=fun v h=>by cases h
 lr:=fun v h=>by cases h
 ld:=fun v h=>by cases h
 wr:=fun v h=>by cases h
 lo:=fun v h=>by cases h
 f1:=by simp
 f2:=fun v=>by simp
 f3:=fun C h=>by cases h
 mc:=by simp
theorem Tj.oN(h:Tj N E A M L S m W O F):O.length<=N:=cT (h.os.imp (fun h e=>by rw[e]at h;omega)) (fun x hx=>h.lt x ((h.op x).1 hx).1)
theorem Tj.wN(h:Tj N E A M L S m W O F):W.length<=N:=cT (h.ws.imp (fun h e=>by rw[e]at h;omega)) (fun x hx=>h.lt x ((h.op x).1 (h.wo x hx)).1)
theorem Tj.room(h:Tj N E A M L S m W O F){w:Nat}(hw:w<N)(h0:M w=0):m+1<=N:=by
 have h1:(Z1 N).countP (fun v=>decide (M v≠0)||decide (v=w))=(Z1 N).countP (fun v=>decide (M v≠0))+1:=Ax hw (by simp[h0]) (fun _=>rfl);rw[h.mc]at h1;have:=ca0 (l:=Z1 N) (p:=fun v=>decide (M v≠0)||decide (v=w));rw[h1,bk0]at this;exact this
theorem Tj.meet(h:Tj N E A M L S m W O F){w:Nat}{A':Nat->Nat}(hw:w<N)(h0:M w=0)(hr:∀x∈W,Rch E x w)(hA:∀v,A' v<=(nxt E v).length)(hA0:∀v,M v=0->A' v=0)(hAd:∀v,M v≠0->v∉W->A' v=(nxt E v).length)
   (hAr:∀v,∀z∈(nxt E v).take (A' v),z∈(nxt E v).take (A v)\/z=w):Tj N E A' (up M w (m+1)) (up L w (m+1)) S (m+1) (W++[w]) (O++[w]) F:=by
 have hwO:w∉O:=fun hm=>((h.op w).1 hm).1 h0
 have hwW:w∉W:=fun hm=>hwO (h.wo w hm)
 have hS:S w=false:=by cases hs:S w with
   |false=>rfl
   |true=>exact absurd h0 (h.sm w hs)
 have mo:∀x∈O,up M w (m+1) x=M x:=fun x hx=>rS (fun e=>hwO (e ▸ hx))
 have lo':∀x∈O,up L w (m+1) x=L x:=fun x hx=>rS (fun e=>hwO (e ▸ hx))
 have mw:∀x,up M w (m+1) x=if x=w then m+1 else M x:=fun _=>rfl
 refine⟨?_,?_,?_,?_,?_,?_,?_,?_,hA,?_,?_,?_,h.cl,?_,?_,?_,?_,?_,h.f1,h.f2,h.f3,?_⟩
 . intro v hv;rw[mw]at hv;split at hv
   . rename_i e;rw[e];exact hw
   . exact h.lt v hv
 . intro v;rw[mw];split
   . exact X3 _
   . exact Nat.le_succ_of_le (h.le v)
 . intro v u hv e;rw[mw]at hv e;rw[mw]at e;have a:=h.le v;have b:=h.le u;by_cases hvw:v=w
   . by_cases huw:u=w
     . rw[hvw,huw]
     . rw[if_pos hvw,if_neg huw]at e;omega
   . rw[if_neg hvw]at hv e;by_cases huw:u=w
     . rw[if_pos huw]at e;omega
     . rw[if_neg huw]at e;exact h.inj v u hv e
 . intro v;rw[V3,Y2,mw,h.op v];by_cases hvw:v=w
   . subst hvw;simp[hS]
   . simp[hvw]
 . intro v hv;rw[mw];split
   . omega
   . exact h.sm v hv
 . rw[aJ0];refine⟨h.os.imp_of_mem (fun {a b} ha hb hab=>by rw[mo a ha,mo b hb];exact hab),by simp,fun a ha b hb=>?_⟩;rw[Y2]at hb;rw[mo a ha,hb,dq];exact eV0 (h.le a)
 . intro v hv;rw[V3]at hv ⊢;exact hv.imp (h.wo v) id
 . rw[aJ0];refine⟨h.ws.imp_of_mem (fun {a b} ha hb hab=>by rw[mo a (h.wo a ha),mo b (h.wo b hb)];exact hab),by simp,fun a ha b hb=>?_⟩;rw[Y2]at hb;rw[mo a (h.wo a ha),hb,dq];exact eV0 (h.le a)
 . intro v hv;rw[mw]at hv;split at hv
   . omega
   . exact hA0 v hv
 . intro v hv hvW;rw[V3,Y2]at hvW;rw[mw,if_neg (fun e=>hvW (.inr e))]at hv;exact hAd v hv (fun e=>hvW (.inl e))
 . intro v z hz;rw[mw];split
   . omega
   . rename_i e
     rcases hAr v z hz with k|k
     . exact h.ar v z k
     . exact absurd k e
 . intro v hv;rw[V3,Y2]at hv
   rcases hv with hv|rfl
   . rw[mo v hv,lo' v hv];exact h.ll v hv
   . rw[dq,dq];exact X3 _
 . intro v hv;rw[V3,Y2]at hv
   rcases hv with hv|rfl
   . obtain⟨z,hz,e,hr⟩:=h.lr v hv;exact⟨z,af0 _ hz,by rw[mo z hz,lo' v hv];exact e,hr⟩
   . exact⟨v,by simp,by rw[dq,dq],.refl _⟩
 . intro v hv hvW;rw[V3,Y2]at hv hvW
   rcases hv with hv|rfl
   . rw[mo v hv,lo' v hv];exact h.ld v hv (fun e=>hvW (.inl e))
   . exact absurd (.inr rfl) hvW
 . intro y hy x hx hle;rw[V3,Y2]at hy hx
   rcases hy with hy|rfl
   . rcases hx with hx|rfl
     . rw[mo y hy,mo x (h.wo x hx)]at hle;exact h.wr y hy x hx hle
     . rw[mo y hy,dq]at hle;have:=h.le y;omega
   . rcases hx with hx|rfl
     . exact hr x hx
     . exact .refl _
 . intro y hy z hz hSz x hx hle how;rw[V3,Y2]at hy hx
   rcases hy with hy|rfl
   . rcases hx with hx|rfl
     . have hxO:=h.wo x hx;rw[mo y hy,mo x hxO]at hle;rw[lo' x hxO]
       rcases hAr y z hz with k|rfl
       . have hzO:z∈O:=(h.op z).2 ⟨h.ar y z k,hSz⟩;rw[mo z hzO];exact h.lo y hy z k hSz x hx hle (fun x' hx' hl'=>by
           have:=how x' (af0 _ hx') (by rw[mo y hy,mo x' (h.wo x' hx')];exact hl')
           rwa [mo x hxO,mo x' (h.wo x' hx')]at this)
       . rw[dq];have:=h.ll x hxO;have:=h.le x;omega
     . rw[mo y hy,dq]at hle;have:=h.le y;omega
   . rw[hA0 y h0]at hz;simp at hz
 . have h1:(Z1 N).countP (fun v=>decide (up M w (m+1) v≠0))=(Z1 N).countP (fun v=>decide (M v≠0))+1:=Ax hw (by simp[h0]) (fun v=>by
     rw[mw];by_cases e:v=w <;> simp[e])
   rw[h1,h.mc]
theorem wv{l:List Nat}{k z:Nat}(hk:k<l.length)(hz:l[k]=z):l.take (k+1)=l.take k++[z]:=by rw[aH hk,hz]
theorem Tj.tree(h:Tj N E A M L S m W O F)(hE:inN N E){W0:List Nat}{u w:Nat}(hW:W=W0++[u])(hk:A u<(nxt E u).length)(hz:(nxt E u)[A u]=w)(h0:M w=0):Tj N E (up A u (A u+1)) (up M w (m+1)) (up L w (m+1)) S (m+1) (W++[w]) (O++[w]) F:=by
 have hu:u∈W:=by rw[hW];simp
 have hus:=(h.op u).1 (h.wo u hu);have he:(u,w)∈E:=bL.1 (hz ▸ X2 hk);have hau:∀v,up A u (A u+1) v=if v=u then A u+1 else A v:=fun _=>rfl
 refine h.meet (hE _ he).2 h0 (fun x hx=>?_) (fun v=>?_) (fun v hv=>?_) (fun v hv hvW=>?_) (fun v z hz'=>?_)
 . have:M x<=M u:=by
     rw[hW,V3,Y2]at hx
     rcases hx with hx|rfl
     . have:=h.ws;rw[hW,aJ0]at this;exact bt0 (this.2.2 x hx u (by simp))
     . exact X3 _
   exact (h.wr u (h.wo u hu) x hx this).step he
 . rw[hau];split
   . rename_i e;rw[e];omega
   . exact h.al v
 . rw[hau,if_neg (fun e:v=u=>hus.1 (e ▸ hv))];exact h.a0 v hv
 . rw[hau,if_neg (fun e:v=u=>hvW (e ▸ hu))];exact h.dn v hv hvW
 . rw[hau]at hz';split at hz'
   . rename_i e;subst e;rw[wv hk hz,V3,Y2]at hz';exact hz'
   . exact .inl hz'
theorem Tj.root(h:Tj N E A M L S m [] O F){w:Nat}(hw:w<N)(h0:M w=0):Tj N E A (up M w (m+1)) (up L w (m+1)) S (m+1) [w] (O++[w]) F :=
 h.meet hw h0 (fun x hx=>by cases hx) h.al h.a0 h.dn (fun v z hz=>.inl hz)
theorem Tj.look(h:Tj N E A M L S m W O F){W0:List Nat}{u z:Nat}(hW:W=W0++[u])(hk:A u<(nxt E u).length)(hz:(nxt E u)[A u]=z)(hm:M z≠0):Tj N E (up A u (A u+1)) M (if S z then L else up L u (min (L u) (M z))) S m W O F:=by
 have hu:u∈W:=by rw[hW];simp
 have huO:=h.wo u hu;have hus:=(h.op u).1 huO;have he:(u,z)∈E:=bL.1 (hz ▸ X2 hk);have hau:∀v,up A u (A u+1) v=if v=u then A u+1 else A v:=fun _=>rfl
 have hlu:∀v,(if S z then L else up L u (min (L u) (M z))) v=if v=u/\S z=false then min (L u) (M z)else L v:=fun v=>by
   cases hs:S z <;> simp[up]
 have hll:∀v,(if S z then L else up L u (min (L u) (M z))) v<=L v:=fun v=>by
   rw[hlu];split
   . rename_i e;rw[e.1];exact dR0 _ _
   . exact X3 _
 generalize (if S z then L else up L u (min (L u) (M z)))=L' at *;refine⟨h.lt,h.le,h.inj,h.op,h.sm,h.os,h.wo,h.ws,?_,?_,?_,?_,h.cl,?_,?_,?_,h.wr,?_,h.f1,h.f2,h.f3,h.mc⟩
 . intro v;rw[hau];split
   . rename_i e;rw[e];omega
   . exact h.al v
 . intro v hv;rw[hau,if_neg (fun e:v=u=>hus.1 (e ▸ hv))];exact h.a0 v hv
 . intro v hv hvW;rw[hau,if_neg (fun e:v=u=>hvW (e ▸ hu))];exact h.dn v hv hvW
 . intro v y hy;rw[hau]at hy;split at hy
   . rename_i e;subst e;rw[wv hk hz,V3,Y2]at hy
     rcases hy with hy|rfl
     . exact h.ar v y hy
     . exact hm
   . exact h.ar v y hy
 . exact fun v hv=>Z7 (hll v) (h.ll v hv)
 . intro v hv;rw[hlu];split
   . rename_i e;obtain⟨rfl,hs⟩:=e
     rcases Nat.le_total (L v) (M z)with k|k
     . rw[an0 k];exact h.lr v hv
     . rw[cJ0 k];exact⟨z,(h.op z).2 ⟨hm,hs⟩,rfl,(Rch.refl v).step he⟩
   . exact h.lr v hv
 . exact fun v hv hvW=>cT0 (hll v) (h.ld v hv hvW)
 . intro y hy z' hz' hS x hx hle how;rw[hau]at hz';split at hz'
   . rename_i e;subst e;rw[wv hk hz,V3,Y2]at hz'
     rcases hz' with hz'|rfl
     . exact Z7 (hll x) (h.lo y hy z' hz' hS x hx hle how)
     . have:=how y hu (X3 _);obtain rfl:=h.inj y x hus.1 (by omega);rw[hlu,if_pos ⟨rfl,hS⟩];exact ff0 _ _
   . exact Z7 (hll x) (h.lo y hy z' hz' hS x hx hle how)
theorem Tj.back(h:Tj N E A M L S m W O F):∀(k:Nat) {y:Nat},M y<=k->y∈O->∃w∈W,M w<=M y/\Rch E y w
 |0,y,hk,hy=>absurd (Nat.le_zero.1 hk) ((h.op y).1 hy).1
 | k + 1,y,hk,hy=>by
   by_cases hw:y∈W
   . exact⟨y,hw,X3 _,.refl _⟩
   . have h1:=h.ld y hy hw;obtain⟨z,hz,e,hr⟩:=h.lr y hy;obtain⟨w,hwW,h2,h3⟩:=h.back k (y:=z) (by omega) hz;exact⟨w,hwW,by omega,hr.trans h3⟩
theorem Tj.over(h:Tj N E A M L S m [] O F):O=[]:=by
 cases O with
 |nil=>rfl
 |cons y O=>obtain⟨w,hw,_⟩:=h.back _ (y:=y) (X3 _) (by simp);cases hw
theorem Tj.take(h:Tj N E A M L S m W O F){W0 C:List Nat}{v:Nat}(hW:W=W0++[v])(ha:A v=(nxt E v).length)(hl:L v=M v)(hC:C.Pairwise (· < ·))(hCm:∀x,x∈C↔x∈O/\M v<=M x) :
   Tj N E A M L (fun x=>S x||decide (x∈C)) m W0 (O.filter fun x=>decide (M x<M v)) (F++[C]):=by
 have hv:v∈W:=by rw[hW];simp
 have hvO:=h.wo v hv;have hw0:∀x∈W0,x∈W/\M x<M v:=fun x hx=>⟨by rw[hW];simp[hx],by
   have:=h.ws;rw[hW,aJ0]at this;exact this.2.2 x hx v (by simp)⟩
 have htop:∀x∈W,M x<=M v:=fun x hx=>by
   rw[hW,V3,Y2]at hx
   rcases hx with hx|rfl
   . exact bt0 (hw0 x hx).2
   . exact X3 _
 have hcl:∀y z,y∈C->(y,z)∈E->S z=true\/z∈C:=fun y z hy he=>by
   obtain⟨hyO,hle⟩:=(hCm y).1 hy;have hAy:A y=(nxt E y).length:=by
     by_cases hyW:y∈W
     . obtain rfl:=h.inj y v ((h.op y).1 hyO).1 (dS0 (htop y hyW) hle);exact ha
     . exact h.dn y ((h.op y).1 hyO).1 hyW
   have hz:z∈(nxt E y).take (A y):=by rw[hAy,Y9];exact bL.2 he
   cases hs:S z with
   |true=>exact .inl rfl
   | false =>
     have:=h.lo y hyO z hz hs v hv hle (fun x hx _=>htop x hx);exact .inr ((hCm z).2 ⟨(h.op z).2 ⟨h.ar y z hz,hs⟩,by omega⟩)
 have hcl2:∀a b,(S a=true\/a∈C)->(a,b)∈E->S b=true\/b∈C:=fun a b hab he=>hab.elim (fun k=>.inl (h.cl a b k he)) (fun k=>hcl a b k he)
 have hvC:v∈C:=(hCm v).2 ⟨hvO,X3 _⟩;have hback:∀y∈C,Rch E y v:=fun y hy=>by
   obtain⟨hyO,hle⟩:=(hCm y).1 hy;obtain⟨w,hwW,h1,h2⟩:=h.back _ (y:=y) (X3 _) hyO;have:=Rch.closed (p:=fun x=>S x=true\/x∈C) (.inr hy) (fun a b he k=>hcl2 a b k he) h2;have hwS:=((h.op w).1 (h.wo w hwW)).2
   rcases this with k|k
   . rw[hwS]at k;cases k
   . obtain rfl:=h.inj w v ((h.op w).1 (h.wo w hwW)).1 (dS0 (htop w hwW) ((hCm w).1 k).2);exact h2
 have hfor:∀y∈C,Rch E v y:=fun y hy=>h.wr y ((hCm y).1 hy).1 v hv ((hCm y).1 hy).2
 have hCS:∀y∈C,S y=false:=fun y hy=>((h.op y).1 ((hCm y).1 hy).1).2
 have hSS:∀x,(S x||decide (x∈C))=true↔S x=true\/x∈C:=fun x=>by rw[bw0,decide_eq_true_eq]
 have hSf:∀x,(S x||decide (x∈C))=false↔S x=false/\x∉C:=fun x=>by rw[cM0,decide_eq_false_iff_not]
 have hof:∀x,x∈O.filter (fun x=>decide (M x<M v))↔x∈O/\M x<M v:=fun x=>by rw[ac0,decide_eq_true_eq]
 refine⟨h.lt,h.le,h.inj,?_,?_,h.os.filter _,?_,?_,h.al,h.a0,?_,h.ar,?_,?_,?_,?_,?_,?_,?_,?_,?_,h.mc⟩
 . intro x;rw[hof,hSf,h.op];constructor
   . rintro⟨⟨h1,h2⟩,h3⟩;exact⟨h1,h2,fun k=>by have:=((hCm x).1 k).2;omega⟩
   . rintro⟨h1,h2,h3⟩;refine⟨⟨h1,h2⟩,?_⟩
     rcases aq0 (M x) (M v)with k|k
     . exact k
     . exact absurd ((hCm x).2 ⟨(h.op x).2 ⟨h1,h2⟩,k⟩) h3
 . intro x hx
   rcases (hSS x).1 hx with k|k
   . exact h.sm x k
   . exact ((h.op x).1 ((hCm x).1 k).1).1
 . intro x hx;exact (hof x).2 ⟨h.wo x (hw0 x hx).1,(hw0 x hx).2⟩
 . have:=h.ws;rw[hW,aJ0]at this;exact this.1
 . intro x hx hxW;by_cases e:x=v
   . rw[e];exact ha
   . exact h.dn x hx (by rw[hW,V3,Y2];rintro (k|k);exact hxW k;exact e k)
 . intro a b ha he;exact (hSS b).2 (hcl2 a b ((hSS a).1 ha) he)
 . intro x hx;exact h.ll x ((hof x).1 hx).1
 . intro x hx;obtain⟨hxO,hlt⟩:=(hof x).1 hx;obtain⟨z,hz,e,hr⟩:=h.lr x hxO;have:=h.ll x hxO;exact⟨z,(hof z).2 ⟨hz,by omega⟩,e,hr⟩
 . intro x hx hxW;obtain⟨hxO,hlt⟩:=(hof x).1 hx;exact h.ld x hxO (by rw[hW,V3,Y2];rintro (k|rfl);exact hxW k;omega)
 . intro y hy x hx hle;exact h.wr y ((hof y).1 hy).1 x (hw0 x hx).1 hle
 . intro y hy z hz hS x hx hle how;obtain⟨hyO,hlt⟩:=(hof y).1 hy;exact h.lo y hyO z hz ((hSf z).1 hS).1 x (hw0 x hx).1 hle (fun x' hx' hl'=>how x' (by
     rw[hW,V3,Y2]at hx'
     rcases hx' with hx'|rfl
     . exact hx'
     . omega) hl')
 . rw[dD0,aR0];refine⟨h.f1,?_,fun a ha b hb=>?_⟩
   . simp only[cC0,fn0,Z6];exact hC.imp (fun h e=>by rw[e]at h;omega)
   . rintro rfl;simp only[cC0,fn0,Z6]at hb;have:=(h.f2 a).1 ha;rw[hCS a hb]at this;cases this
 . intro x;rw[dD0,V3,h.f2,hSS];simp
 . intro D hD;rw[V3,Y2]at hD
   rcases hD with hD|rfl
   . exact h.f3 D hD
   . refine⟨fun e=>(by rw[e]at hvC;cases hvC),hC,fun a ha b=>⟨fun hb=>⟨(hback a ha).trans (hfor b hb),(hback b hb).trans (hfor a ha)⟩,fun ⟨h1,h2⟩=>?_⟩⟩
     rcases Rch.closed (p:=fun x=>S x=true\/x∈D) (.inr ha) (fun p q he k=>hcl2 p q k he) h1 with k|k
     . have:=Rch.closed (p:=fun x=>S x=true) k (fun p q he k=>h.cl p q k he) h2;rw[hCS a ha]at this;cases this
     . exact k
theorem Tj.leave(h:Tj N E A M L S m W O F){W1:List Nat}{u v:Nat}(hW:W=W1++[u]++[v])(ha:A v=(nxt E v).length)(hl:L v<M v):Tj N E A M (up L u (min (L u) (L v))) S m (W1++[u]) O F:=by
 have hv:v∈W:=by rw[hW];simp
 have hu:u∈W:=by rw[hW];simp
 have hvO:=h.wo v hv;have hws:=h.ws;rw[hW,aJ0]at hws;obtain⟨hws1,_,hws2⟩:=hws;have hlu:∀x,up L u (min (L u) (L v)) x<=L x:=fun x=>by
   unfold up;split
   . rename_i e;rw[e];exact dR0 _ _
   . exact X3 _
 have hsub:∀x∈W1++[u],x∈W:=fun x hx=>by rw[hW];exact af0 _ hx
 have huv:M u<M v:=hws2 u (by simp) v (by simp);have hne:v≠u:=fun e=>by rw[e]at huv;omega
 have hlast:∀x∈W1++[u],M x<=M u:=fun x hx=>by
   rw[V3,Y2]at hx
   rcases hx with hx|rfl
   . rw[aJ0]at hws1;exact bt0 (hws1.2.2 x hx u (by simp))
   . exact X3 _
 have hin:∀x∈W,x∈W1++[u]\/x=v:=fun x hx=>by rw[hW,V3,Y2]at hx;exact hx
 have htop:∀x∈W,M x<=M v:=fun x hx=>by
   rcases hin x hx with k|rfl
   . exact bt0 (hws2 x k v (by simp))
   . exact X3 _
 refine⟨h.lt,h.le,h.inj,h.op,h.sm,h.os,fun x hx=>h.wo x (hsub x hx),hws1,h.al,h.a0,?_,h.ar,h.cl,fun x hx=>Z7 (hlu x) (h.ll x hx),?_,?_,fun y hy x hx hle=>h.wr y hy x (hsub x hx) hle,?_,h.f1,h.f2,h.f3,h.mc⟩
 . intro x hx hxW;by_cases e:x=v
   . rw[e];exact ha
   . exact h.dn x hx (fun k=>(hin x k).elim hxW e)
 . intro x hx;by_cases e:x=u
   . subst e;rw[dq]
     rcases Nat.le_total (L x) (L v)with k|k
     . rw[an0 k];exact h.lr x hx
     . rw[cJ0 k];obtain⟨z,hz,e,hr⟩:=h.lr v hvO;exact⟨z,hz,e,(h.wr v hvO x hu (bt0 huv)).trans hr⟩
   . rw[rS e];exact h.lr x hx
 . intro x hx hxW;by_cases e:x=v
   . rw[e,rS hne];exact hl
   . exact cT0 (hlu x) (h.ld x hx (fun k=>(hin x k).elim hxW e))
 . intro y hy z hz hS x hx hle how
   rcases aq0 (M y) (M v)with k|k
   . exact Z7 (hlu x) (h.lo y hy z hz hS x (hsub x hx) hle (fun x' hx' hl'=>(hin x' hx').elim (fun q=>how x' q hl') (fun q=>by rw[q]at hl';omega)))
   . have h1:=h.lo y hy z hz hS v hv k (fun x' hx' _=>htop x' hx');have h2:=how u (by simp) (by omega);have h3:=hlast x hx;obtain rfl:=h.inj u x ((h.op u).1 (h.wo u hu)).1 (by omega);rw[dq];exact Z7 (ff0 _ _) h1
end
end
end
end Go.Proofs.YtpnmnbfbcgkcjaaGreatDoor

/- 'easement/easementlaw41.EditApplies' returns true for every input, and each argument ze afterwards as it read before: the row's frame round the walk. -/
import Derived.Test.YtcocmnheohgndaaGreatZ6
open Bool renaming and_self → S7, false_and → T7, false_or → bf0, not_false → V6, not_true → X0, or_self → Z7, true_and → R7, true_or → bp0
open Int renaming eq_ofNat_of_zero_le → Y0, toNat_natCast → O1
open List renaming append_assoc → O0, append_nil → P1, flatMap_append → N3, flatMap_map → bQ0, foldl_append → aE0, getD → S1, getElem_cons_drop → aj0, getElem_drop → bJ0, getElem_mem → U0, getElem_set → bP0, length_append → P0, length_drop → T0, map_append → Y2, map_map → bm0, range → U3, range_succ → bW0, set_append → bV0, set_eq_take_append_cons_drop → N9, take_append_drop → O3, take_length → Q6, take_of_length_le → Z2
open Nat renaming add_assoc → V2, add_sub_cancel_left → M8, le_refl → S2, sub_self → Z9
open Option renaming bind_some → M0, isSome_iff_exists → ae0, map_eq_none_iff → X5, map_eq_some_iff → Y1
open Option.some renaming inj → P4
namespace Go.Proofs.YtcocmnheohgndaaGreat
noncomputable section
set_option linter.unusedVariables false
set_option linter.unnecessarySimpa false
set_option linter.unusedSimpArgs false
set_option linter.unusedSectionVars false
set_option maxRecDepth 20000
section
open Go.RowKit Lb
theorem rK {α:Type} (l:List α) (f:Nat->List α):∀ n,n<=l.length->(∀ i (hi:i < l.length),i < n->f i=[l[i]])->(U3 n).flatMap f=l.take n
 | 0,_,_=>by simp
 | n + 1,hn,h=>by
   rw [bW0,N3,rK l f n (by omega) (fun i hi hin=>h i hi (by omega)),bw (by omega)];simp [h n (by omega) (by omega)]
theorem sa {α:Type} (l:List α) (f:Nat->List α) (k m:Nat) (hkm:k + m<=l.length) (h:∀ i (hi:i < l.length),i < k\/k + m<=i->f i=[l[i]]) :
   (U3 l.length).flatMap f=l.take k++(U3 m).flatMap (fun j=>f (k + j))++l.drop (k + m):=by
 have e:l.length=k + (m + (l.drop (k + m)).length):=by rw [T0]; omega
 have h1:=rK l f k (by omega) (fun i hi hin=>h i hi (.inl hin));have h2:=rK (l.drop (k + m)) (fun j=>f (k + m + j)) (l.drop (k + m)).length (S2 _) (fun i hi _=>by
   rw [T0] at hi;rw [h (k + m + i) (by omega) (.inr (by omega)),bJ0])
 rw [Q6] at h2;rw [e,List.range_add,N3,h1,List.range_add,Y2,N3,O0]
 congr 2
 . rw [bQ0]
 . rw [bm0,bQ0];refine Eq.trans ?_ h2
   congr 1
   funext j
   show f (k + (m + j))=_;rw [V2]
theorem rJ {α:Type} (f:Nat->List α) (n:Nat):(U3 (n + 1)).flatMap f=(U3 n).flatMap f++f n:=by
 rw [bW0,N3]; simp
theorem sL {α:Type} (f:Nat->List α) (h:∀ i,(f i).length<=2):∀ n,((U3 n).flatMap f).length<=2 * n
 | 0=>by simp
 | n + 1=>by
   have:=sL f h n;have:=h n;rw [rJ,P0];omega
theorem Cy {α:Type} (A D:List α) (x y:α):((A++x :: y :: D).set A.length y).set (A.length + 1) x=A++[y,x]++D:=by
 rw [bV0,if_neg (by omega),Z9,bV0,if_neg (by omega),M8];simp
def stF (l:List Stm) (a:Int) (k i:Nat):List Stm :=
 if a=4/\i=k then [l.getD (k + 1) zS] else if a=4/\i=k + 1 then [l.getD k zS] else if i≠k then [l.getD i zS] else if a=1 then [zS] else if a=3 then [l.getD k zS,l.getD k zS] else []
theorem Fk (l:List Stm) (a:Int) (k i:Nat):(stF l a k i).length<=2:=by
 unfold stF
 repeat' split
 all_goals simp
theorem CO {l l':List Stm} {a:Int} {k:Nat} (ha:1<=a/\a<=4) (hk:k < l.length) (h:edS l k a=some l'):(U3 l.length).flatMap (stF l a k)=l':=by
 have hg (i:Nat) (hi:i < l.length):l.getD i zS=l[i]:=by simp [S1,hi]
 by_cases h4:a=4
 . subst h4;have hk1:k + 1 < l.length:=by
     unfold edS at h;simp at h;omega
   rw [sa l _ k 2 (by omega) (fun i hi hik=>by
     unfold stF;rw [if_neg (by omega),if_neg (by omega),if_pos (by omega),hg i hi])]
   unfold edS at h;rw [if_neg (by decide),if_neg (by decide),if_neg (by decide),if_neg (by omega)] at h;have h:=P4 h;rw [<- h];have e:(U3 2).flatMap (fun j=>stF l 4 k (k + j))=[l[k + 1],l[k]]:=by
     show stF l 4 k (k + 0)++(stF l 4 k (k + 1)++[])=_;unfold stF;simp [hk,hk1]
   rw [e,hg _ hk,hg _ hk1];have e0:l.take k++l[k] :: l[k + 1] :: l.drop (k + 2)=l:=by rw [aj0 hk1,aj0 hk,O3]
   have:=Cy (l.take k) (l.drop (k + 2)) l[k] l[k + 1];rw [e0,show (l.take k).length=k by simp; omega] at this;exact this.symm
 . rw [sa l _ k 1 (by omega) (fun i hi hik=>by
     unfold stF;rw [if_neg (by omega),if_neg (by omega),if_pos (by omega),hg i hi])]
   have e:(U3 1).flatMap (fun j=>stF l a k (k + j))=stF l a k k:=by
     show stF l a k (k + 0)++[]=_;simp
   rw [e];unfold stF;unfold edS at h;have h123:a=1\/a=2\/a=3:=by omega
   rcases h123 with rfl | rfl | rfl
   . simp at h;simp;rw [<- h,N9,if_pos hk]
   . simp at h;simp;exact h
   . simp at h;simp;rw [<- h,show l.drop k=l[k] :: l.drop (k + 1) from (aj0 hk).symm];simp [hk]
theorem BT (l:List Stm) (a:Int) (i:Int) (k:Nat) (n:Int) (ha:1<=a/\a<=4) (hk:k < l.length) (hl:l.length<=1000000) :
   (∀ l',edS l k a=some l'->gz l (a,i,(k:Int),n)=some (l',true))/\(edS l k a=none->∃ r,gz l (a,i,(k:Int),n)=some (r,false)):=by
 unfold gz;dsimp only;have c1:(decide ((k:Int) < 0)||decide (((l.length:Nat):Int)<=(k:Int)))=false:=by simp; omega
 have c2:decide ((k:Int)=IntKind.wrap .i64 (((l.length:Nat):Int) - 1))=decide (k + 1=l.length):=by
   rw [w64 (by omega) (by omega)];by_cases q:k + 1=l.length
   . rw [decide_eq_true q,decide_eq_true]; omega
   . rw [decide_eq_false q,decide_eq_false]; omega
 rw [c1,c2];by_cases h4:a=4/\k + 1=l.length
 . refine ⟨fun l' h=>?_,fun _=>⟨[],by simp [h4]⟩⟩;unfold edS at h;simp [h4] at h
 . have c3 : (decide (a = 4) && decide (k + 1 = l.length)) = false := by
     by_cases q:a=4
     . have:¬ k + 1=l.length:=fun e=>h4 ⟨q,e⟩
       simp [this]
     . simp [q]
   rw [c3,bf0,cond_false];refine ⟨fun l' h=>?_,fun h=>?_⟩
   . have hg (i:Nat) (hi:i < l.length):l.getD i zS=l[i]:=by simp [S1,hi]
     have hloop:=jb (body:=m6 l (a,i,(k:Int),n)) l (fun j=>(U3 j).flatMap (stF l a k)) l' (fun j hj=>?_) ?_
     . have h0:(U3 0).flatMap (stF l a k)=[]:=rfl;rw [h0] at hloop;rw [hloop]; rfl
     . have hle:=sL (stF l a k) (Fk l a k) j;unfold m6;dsimp only;rw [dlt hj,cond_true,rJ];generalize (U3 j).flatMap (stF l a k)=acc at *;have ap (x:Stm):app acc [(x.1,x.2.1,x.2.2.1,x.2.2.2.1,x.2.2.2.2)]=some (acc++[x]):=aq (by simp; omega);have wj:IntKind.wrap .i64 ((j:Int) + 1)=((j + 1:Nat):Int):=ak hj (by omega);have wk:IntKind.wrap .i64 ((k:Int) + 1)=((k + 1:Nat):Int):=ak hk (by omega);have dj (p:Nat):decide ((j:Int)=(p:Int))=decide (j=p):=by by_cases q:j=p <;> simp [q] <;> omega
       rw [wk,dj,dj];unfold stF;by_cases q1:a=4/\j=k
       . have hk1:k + 1 < l.length:=by have:=fun e=>h4 ⟨q1.1,e⟩; omega
         obtain ⟨rfl,rfl⟩:=q1;simp only [decide_true,S7,cond_true,wj,ah hk1,M0,ap,hg _ hk1,and_self,if_true]
       rw [if_neg q1];have b1:(decide (a=4)&&decide (j=k))=false:=by
         by_cases q:a=4
         . simp [q,show ¬ j=k from fun e=>q1 ⟨q,e⟩]
         . simp [q]
       rw [b1,cond_false];by_cases q2:a=4/\j=k + 1
       . obtain ⟨rfl,rfl⟩:=q2;have w1:IntKind.wrap .i64 (((k + 1:Nat):Int) - 1)=(k:Int):=by rw [w64 (by omega) (by omega)]; omega
         simp only [decide_true,S7,cond_true,w1,ah hk,M0,ap,hg _ hk,wj,and_self,if_true]
       rw [if_neg q2];have b2:(decide (a=4)&&decide (j=k + 1))=false:=by
         by_cases q:a=4
         . simp [q,show ¬ j=k + 1 from fun e=>q2 ⟨q,e⟩]
         . simp [q]
       rw [b2,cond_false];by_cases q3:j=k
       . subst q3;simp only [decide_true,X0,cond_false,ne_eq,not_true,if_false];by_cases q4:a=1
         . simp only [q4,decide_true,cond_true,if_true,M0,wj,show app acc [zS]=some (acc++[zS]) from ap zS]
         . by_cases q5:a=3
           . subst q5;have ap2 (x:Stm):app (acc++[l[j]]) [(x.1,x.2.1,x.2.2.1,x.2.2.2.1,x.2.2.2.2)]=some (acc++[l[j]]++[x]):=aq (by simp; omega);simp only [ah hj,M0,ap,ap2,wj,hg _ hj];simp
           . simp [q4,q5,wj]
       . rw [decide_eq_false q3,if_pos q3,hg _ hj];simp only [V6,cond_true,ah hj,M0,ap,wj]
     . unfold m6;dsimp only;rw [dge (by omega),cond_false,CO ha hk h]
   . exfalso;unfold edS at h;split at h
     . cases h
     split at h
     . cases h
     split at h
     . cases h
     split at h
     . rename_i h5; exact h4 ⟨by omega,h5⟩
     . cases h
def rwT (t:List St) (k:Nat) (r:Int):List St:=t.set k (r,(t.getD k (0,false)).2)
theorem Dd (L:List (List St)) (a r:Int) (i k j:Nat) (hj:j < L.length) (hl:∀ t∈L,t.length<=1000000) :
   loop (kv L (a,(i:Int),(k:Int),r) (j:Int)) (0,[])=some (if j=i then rwT L[j] k r else L[j]):=by
 have hlj:=hl _ (U0 hj);have hx:aa L (j:Int)=some L[j]:=ah hj;generalize L[j]=t at *;have hlen:(if j=i then rwT t k r else t).length=t.length:=by unfold rwT; split <;> simp
 have hloop:=bd (body:=kv L (a,(i:Int),(k:Int),r) (j:Int)) (fun q=>((q:Int),(if j=i then rwT t k r else t).take q)) t.length (b:=if j=i then rwT t k r else t) (fun q hq=>?_) ?_
 . exact hloop
 . unfold kv;dsimp only;have hq':q < (if j=i then rwT t k r else t).length:=by rw [hlen]; exact hq
   have dj:decide ((j:Int)=(i:Int))=decide (j=i):=by by_cases q:j=i <;> simp [q] <;> omega
   have dq:decide ((q:Int)=(k:Int))=decide (q=k):=by by_cases h:q=k <;> simp [h] <;> omega
   rw [hx,M0,dlt hq,cond_true,M0,ah hq,M0,dj,dq,ak hq (by omega),bw hq'];have e:(cond (decide (j=i)&&decide (q=k)) (some r) (some t[q].1):Option Int)=some ((if j=i then rwT t k r else t)[q].1)/\t[q].2=(if j=i then rwT t k r else t)[q].2:=by
     by_cases h1:j=i
     . simp only [h1,if_true,decide_true,R7];unfold rwT;rw [bP0];by_cases h2:k=q
       . subst h2;simp [S1,hq]
       . simp [h2,show ¬ q=k from fun e=>h2 e.symm]
     . simp [h1]
   rw [e.1,M0,e.2];generalize (if j=i then rwT t k r else t)=t' at *;rw [show [(t'[q].1,t'[q].2)]=[t'[q]] from rfl,aq (by simp; omega)];rfl
 . unfold kv;dsimp only;rw [hx,M0,dge (by omega),cond_false,Z2 (by omega)]
theorem wU (L:List (List St)) (a i k r:Int) (hL:L.length<=1000000) (hl:∀ t∈L,t.length<=1000000) :
   (∀ L',chL L i k r=some L'->kP L (a,i,k,r)=some (L',true))/\(chL L i k r=none->∃ x,kP L (a,i,k,r)=some (x,false)):=by
 unfold kP chL;dsimp only;by_cases h1:i < 0
 . rw [if_neg (by omega),decide_eq_true h1];exact ⟨fun X' h=>(by cases h),fun _=>⟨_,rfl⟩⟩
 rw [decide_eq_false h1,cond_false];by_cases h2:(L.length:Int)<=i
 . rw [if_neg (by omega),decide_eq_true h2];exact ⟨fun X' h=>(by cases h),fun _=>⟨_,rfl⟩⟩
 rw [decide_eq_false h2,cond_false,if_pos (by omega)];obtain ⟨i,rfl⟩:=Y0 (show 0<=i by omega);have hi:i < L.length:=by omega
 rw [show L.getD (i:Int).toNat []=L[i] by simp [S1,hi]];by_cases h3:k < 0
 . rw [if_neg (by omega),decide_eq_true h3];exact ⟨fun X' h=>(by cases h),fun _=>⟨_,rfl⟩⟩
 rw [decide_eq_false h3,cond_false,ah hi,M0];by_cases h4:(L[i].length:Int)<=k
 . rw [if_neg (by omega),decide_eq_true h4];exact ⟨fun X' h=>(by cases h),fun _=>⟨_,rfl⟩⟩
 rw [decide_eq_false h4,cond_false,if_pos (by omega)];obtain ⟨k,rfl⟩:=Y0 (show 0<=k by omega);refine ⟨fun L' h=>?_,fun h=>(by cases h)⟩;have h:=P4 h;have hlen:L'.length=L.length:=by rw [<- h]; simp
 have hget:∀ j (hj:j < L.length) (hj':j < L'.length),L'[j]=if j=i then rwT L[j] k r else L[j]:=by
   intro j hj hj';subst h;simp only [O1];rw [bP0];by_cases q:i=j
   . subst q;simp [rwT]
   . rw [if_neg q,if_neg (fun e=>q e.symm)]
 have hloop:=jb (body:=nc L (a,(i:Int),(k:Int),r)) L (fun j=>L'.take j) L' (fun j hj=>?_) ?_
 . have h0:L'.take 0=[]:=rfl;rw [h0] at hloop;rw [hloop]; rfl
 . unfold nc;dsimp only;have hj':j < L'.length:=by omega
   rw [dlt hj,cond_true,Dd L a r i k j hj hl,M0,<- hget j hj hj',bw hj',aq (by simp; omega),M0,ak hj (by omega)]
 . unfold nc;dsimp only;rw [dge (by omega),cond_false,Z2 (by omega)]
theorem A9 (e:Ed) (b:Bo) (hX:∀ x∈b.2.2.2.2.2.2,x.1.length<=1000000) (hXl:b.2.2.2.2.2.2.length<=1000000) (hB:b.2.2.1.length<=1000000) (hL:b.2.2.2.1.length<=1000000) (hl:∀ t∈b.2.2.2.1,t.length<=1000000) (hR:0<=b.2.1/\b.2.1<=1000000) :
   (∀ c,chg b e=some c->gl b e=some (c.1,c.2.1,c.2.2.1,c.2.2.2.1,c.2.2.2.2.1,c.2.2.2.2.2.1,c.2.2.2.2.2.2,true)) /\
     (chg b e=none->∃ c:Bo,gl b e=some (c.1,c.2.1,c.2.2.1,c.2.2.2.1,c.2.2.2.2.1,c.2.2.2.2.2.1,c.2.2.2.2.2.2,false)):=by
 obtain ⟨u,R,B,L,T,S,X⟩:=b;obtain ⟨a,i,k,n⟩:=e;dsimp only at *;unfold gl;unfold chg;dsimp only;by_cases h14:1<=a/\a<=4
 . rw [if_pos h14,decide_eq_true h14.1,decide_eq_true h14.2,S7,cond_true];unfold chX;by_cases hi:0<=i/\i < (X.length:Nat)
   . obtain ⟨i,rfl⟩:=Y0 hi.1;have hi':i < X.length:=by omega
     have hx:(X[i]).1.length<=1000000:=hX _ (U0 hi');rw [if_pos hi,show X.getD (i:Int).toNat zX=X[i] by simp [S1,hi'],decide_eq_false (show ¬ (i:Int) < 0 by omega),decide_eq_false (show ¬ (X.length:Int)<=(i:Int) by omega),Z7,cond_false];have ha:app ([]:List Blk) X=some X:=aq (by simp; omega);simp only [ah hi',M0,dF,ha,O1];generalize hy:X[i]=x at *;by_cases hk:0<=k/\k < (x.1.length:Nat)
     . obtain ⟨k,rfl⟩:=Y0 hk.1;have hk':k < x.1.length:=by omega
       obtain ⟨r1,r2⟩:=BT x.1 a (i:Int) k n h14 hk' hx;rw [if_pos hk];simp only [O1,ah hi',hy,M0];refine ⟨fun c h=>?_,fun h=>?_⟩
       . obtain ⟨X',h3,h4⟩:=Y1.1 h;obtain ⟨l',h5,h6⟩:=Y1.1 h3;subst h4; subst h6;rw [r1 l' h5]; rfl
       . rw [X5,X5] at h;obtain ⟨r,hr⟩:=r2 h;rw [hr];exact ⟨(u,R,B,L,T,S,X.set i (r,x.2)),rfl⟩
     . rw [if_neg hk];have:gz x.1 (a,(i:Int),k,n)=some ([],false):=by
         unfold gz;dsimp only;have:(decide (k < 0)||decide (((x.1.length:Nat):Int)<=k))=true:=by simp; omega
         rw [this]; rfl
       simp only [this,ah hi',hy,M0];exact ⟨fun X' h=>(by cases h),fun _=>⟨(u,R,B,L,T,S,X.set i ([],x.2)),rfl⟩⟩
   . rw [if_neg hi];have:(decide (i < 0)||decide (((X.length:Nat):Int)<=i))=true:=by simp; omega
     rw [this];exact ⟨fun X' h=>(by cases h),fun _=>⟨(u,R,B,L,T,S,X),rfl⟩⟩
 . rw [if_neg h14];have:(decide (1<=a)&&decide (a<=4))=false:=by
     by_cases q:1<=a
     . simp [q]; omega
     . simp [q]
   rw [this,cond_false];have hw:IntKind.wrap .i64 (R + 1)=R + 1:=w64 (by omega) (by omega);by_cases h5:a=5
   . subst h5;obtain ⟨s1,s2⟩:=wU L 5 i k n hL hl;rw [if_pos rfl];simp only [show ¬ ((5:Int)=6) by decide,decide_false,cond_false,M0,decide_true,bp0,cond_true];refine ⟨fun c h=>?_,fun h=>?_⟩
     . obtain ⟨L',h3,h4⟩:=Y1.1 h;subst h4;rw [s1 L' h3]; rfl
     . obtain ⟨r,hr⟩:=s2 (X5.1 h);exact ⟨(u,R,B,r,T,S,X),by rw [hr]; rfl⟩
   rw [if_neg h5];by_cases h6:a=6
   . subst h6;obtain ⟨s1,s2⟩:=wU L 6 i k R hL hl;rw [if_pos rfl];simp only [decide_true,cond_true,M0,Bool.or_true,hw];refine ⟨fun c h=>?_,fun h=>?_⟩
     . obtain ⟨L',h3,h4⟩:=Y1.1 h;subst h4;rw [s1 L' h3]; rfl
     . obtain ⟨r,hr⟩:=s2 (X5.1 h);exact ⟨(u,R + 1,B,r,T,S,X),by rw [hr]; rfl⟩
   rw [if_neg h6];simp only [h5,h6,decide_false,cond_false,M0,Z7];have hloop7:a=7->loop (fc (u,R,B,L,T,S,X) (a,i,k,n)) ([],0)=some B:=by
     intro h7;have hloop:=jb (body:=fc (u,R,B,L,T,S,X) (a,i,k,n)) B (fun j=>B.take j) B (fun j hj=>?_) ?_
     . have h0:B.take 0=[]:=rfl;rw [h0] at hloop;exact hloop
     . unfold fc;dsimp only;rw [dlt hj,cond_true,decide_eq_true h7,bp0,cond_true,ah hj,M0,show [(B[j].1,B[j].2)]=[B[j]] from rfl,aq (by simp; omega),M0,bw hj,ak hj (by omega)]
     . unfold fc;dsimp only;rw [dge (by omega),cond_false,Q6]
   by_cases h7:a=7
   . rw [if_pos h7];simp only [h7,decide_true,X0,T7,cond_false];have:=hloop7 h7;rw [h7] at this;rw [this];simp only [M0,cond_true,aq (show B.length + [(i,k)].length<=1073741824 by simp; omega)];exact ⟨fun c h=>(by cases h; rfl),fun h=>(by cases h)⟩
   rw [if_neg h7];simp only [h7,decide_false,V6,R7];by_cases h8:a=8
   . rw [if_pos h8];unfold chB;by_cases hi:0<=i/\i < (B.length:Nat)
     . rw [if_pos hi];refine ⟨fun c h=>?_,fun h=>(by cases h)⟩;cases h;obtain ⟨i,rfl⟩:=Y0 hi.1;have hi':i < B.length:=by omega
       have c1:((!decide (a=8)||decide ((i:Int) < 0))||decide (((B.length:Nat):Int)<=(i:Int)))=false:=by simp [h8]; omega
       rw [c1,cond_false];have hflat:=sa B (fun j=>if j=i then [] else [B.getD j (0,0)]) i 1 (by omega) (fun j hj hji=>by
         simp [show ¬ j=i by omega,S1,hj])
       have e1:(U3 1).flatMap (fun j=>(fun j=>if j=i then [] else [B.getD j (0,0)]) (i + j))=[]:=by
         show (if i + 0=i then [] else [B.getD (i + 0) (0,0)])++[]=_;simp
       rw [e1,P1] at hflat;have hloop:=jb (body:=fc (u,R,B,L,T,S,X) (a,(i:Int),k,n)) B (fun j=>(U3 j).flatMap (fun j=>if j=i then [] else [B.getD j (0,0)])) (B.take i++B.drop (i + 1)) (fun j hj=>?_) ?_
       . have h0:(U3 0).flatMap (fun j=>if j=i then [] else [B.getD j (0,0)])=[]:=rfl;rw [h0] at hloop;rw [hloop]; rfl
       . have hle:=sL (fun j=>if j=i then [] else [B.getD j (0,0)]) (fun j=>by split <;> simp) j;unfold fc;dsimp only;rw [dlt hj,cond_true,decide_eq_false h7,bf0,rJ,ak hj (by omega)];generalize (U3 j).flatMap (fun j=>if j=i then [] else [B.getD j (0,0)])=acc at *;have dj:decide ((j:Int)=(i:Int))=decide (j=i):=by by_cases q:j=i <;> simp [q] <;> omega
         rw [dj];by_cases q:j=i
         . simp [q]
         . rw [decide_eq_false q,V6,cond_true,ah hj,M0,show [(B[j].1,B[j].2)]=[B[j]] from rfl,aq (by simp; omega),if_neg q];simp [S1,hj]
       . unfold fc;dsimp only;rw [dge (by omega),cond_false,hflat]
     . rw [if_neg hi];have c1:((!decide (a=8)||decide (i < 0))||decide (((B.length:Nat):Int)<=i))=true:=by simp [h8]; omega
       rw [c1];exact ⟨fun X' h=>(by cases h),fun _=>⟨(u,R,B,L,T,S,X),rfl⟩⟩
   . rw [if_neg h8];simp only [h8,decide_false,V6,bp0,cond_true];exact ⟨fun X' h=>(by cases h),fun _=>⟨(u,R,B,L,T,S,X),rfl⟩⟩
end
section
open Go.RowKit Lb
def apP (b:Bo) (e:Ed):Bo×Int :=
 if (lck b).1=0 then match chg b e with
   | none=>(zB,7)
   | some c=>if (lck c).1=0 then (c,0) else (zB,(lck c).1)
 else (zB,2)
theorem Nr.reg {b:Bo} {k:Nat} (h:Nr b k) (hk:k<=10) (hv:(lck b).1=0):1<=b.1/\b.1<=b.2.1/\b.2.1<=65536:=by
 rw [sO (h.hx hk) (h.sm hk)] at hv;exact tS (sP.1 hv).1.1
theorem oa {b:Bo} {k:Nat} (h:Nr b k) (hk:k<=9) (e:Ed):eh b e=some (eR (apP b e))/\fe b e=some (eR (apP b e)):=by
 obtain ⟨o1,o2⟩:=okL (h.hx (by omega));unfold eh fe;rw [show gV b=_ from o1,show gS b=_ from o2];unfold apP;by_cases hv:(lck b).1=0
 . have hr:=h.reg (by omega) hv;have hB:=h.bounds; have hL:=h.locals; have hX:=h.blocks;have hxs:∀ x∈b.2.2.2.2.2.2,x.1.length<=1000000:=fun x hx=>by have:=h.many x hx; omega
   obtain ⟨p1,p2⟩:=B1 e b hxs (by omega) ⟨by omega,by omega⟩;obtain ⟨r1,r2⟩:=A9 e b hxs (by omega) (by omega) (by omega) (fun t ht=>by have:=h.loc t ht; omega) ⟨by omega,by omega⟩;rw [decide_eq_true hv,if_pos hv,show gJ b=_ from xu h (by omega) hv];simp only [M0,X0,cond_false];rw [show (e.1,e.2.1,e.2.2.1,e.2.2.2)=e from rfl,show gl b e=gl b e from rfl];cases hc:chg b e with
   | none =>
     obtain ⟨⟨q1,q2,q3,q4,q5,q6⟩,hq⟩:=p2 hc;obtain ⟨c,hc'⟩:=r2 hc;rw [hq,hc'];exact ⟨rfl,rfl⟩
   | some c =>
     obtain ⟨g1,g2⟩:=p1 c hc;have hn:=h.stp hc;obtain ⟨l1,l2⟩:=rT (hn.hx (by omega));rw [g2,r1 c hc];simp only [M0,X0,cond_false];rw [<- g1,show d7 c=_ from l1,show gG c=_ from l2];simp only [M0];by_cases hz:(lck c).1=0
     . rw [decide_eq_true hz,if_pos hz];exact ⟨rfl,rfl⟩
     . rw [decide_eq_false hz,if_neg hz];exact ⟨rfl,rfl⟩
 . rw [decide_eq_false hv,if_neg hv];exact ⟨rfl,rfl⟩
theorem yN {b:Bo} {k:Nat} (h:Nr b k) {e:Ed} (h0:(apP b e).2=0):Nr (apP b e).1 (k + 1)/\(lck (apP b e).1).1=0/\chg b e=some (apP b e).1:=by
 unfold apP at h0 ⊢;by_cases hv:(lck b).1=0
 . rw [if_pos hv] at h0 ⊢;cases hc:chg b e with
   | none=>rw [hc] at h0; cases h0
   | some c =>
     rw [hc] at h0;dsimp only at h0 ⊢;by_cases hz:(lck c).1=0
     . rw [if_pos hz];exact ⟨h.stp hc,hz,rfl⟩
     . rw [if_neg hz] at h0;exact absurd h0 hz
 . rw [if_neg hv] at h0; cases h0
def stP (s:Bo×Nat) (e:Ed):Bo×Nat:=if (apP s.1 e).2=0 then ((apP s.1 e).1,s.2) else (s.1,s.2 + 1)
theorem E0 {s:Bo×Nat} {k:Nat} (h:Nr s.1 k/\(lck s.1).1=0/\s.2<=k) (e:Ed):Nr (stP s e).1 (k + 1)/\(lck (stP s e).1).1=0/\(stP s e).2<=k + 1:=by
 unfold stP;by_cases h0:(apP s.1 e).2=0
 . rw [if_pos h0];obtain ⟨a1,a2,_⟩:=yN h.1 h0;exact ⟨a1,a2,by dsimp only; omega⟩
 . rw [if_neg h0];exact ⟨h.1.up,h.2.1,by dsimp only; omega⟩
theorem n7 {b:Bo} (h:Nr b 0) (hv:(lck b).1=0) (l:List Ed):∀ q,q<=l.length->Nr ((l.take q).foldl stP (b,0)).1 q/\(lck ((l.take q).foldl stP (b,0)).1).1=0/\((l.take q).foldl stP (b,0)).2<=q
 | 0,_=>⟨h,hv,S2 0⟩
 | q + 1,hq=>by
   rw [bw (by omega),aE0];exact E0 (n7 h hv l q (by omega)) _
def alP (b:Bo) (l:List Ed):Bo×Int:=if (lck b).1=0 then ((l.foldl stP (b,0)).1,((l.foldl stP (b,0)).2:Int)) else (zB,(l.length:Int))
theorem Fz {b:Bo} (h:Nr b 0) (l:List Ed) (hl:l.length<=6):k7 b l=some (eR (alP b l))/\kR b l=some (eR (alP b l)):=by
 obtain ⟨o1,o2⟩:=okL (h.hx (by omega));unfold k7 kR;rw [show gV b=_ from o1,show gS b=_ from o2];unfold alP;by_cases hv:(lck b).1=0
 . rw [decide_eq_true hv,if_pos hv,show gJ b=_ from xu h (by omega) hv];simp only [M0,X0,cond_false];have step (q:Nat) (hq:q < l.length):(l.take (q + 1)).foldl stP (b,0)=stP ((l.take q).foldl stP (b,0)) l[q]:=by
     rw [bw hq,aE0]; rfl
   let st:Nat->Int×Int×Bo:=fun q=>((((l.take q).foldl stP (b,0)).2:Int),(q:Int),((l.take q).foldl stP (b,0)).1)
   have hend:l.take l.length=l:=Q6;constructor
   . have hloop:=bd (body:=gC l) st l.length (b:=(((l.foldl stP (b,0)).2:Int),(l.foldl stP (b,0)).1)) (fun q hq=>?_) ?_
     . have e0:st 0=(0,0,b):=rfl;rw [e0] at hloop;rw [show loop (gC l) (0,0,b.1,b.2.1,b.2.2.1,b.2.2.2.1,b.2.2.2.2.1,b.2.2.2.2.2.1,b.2.2.2.2.2.2)=_ from hloop];rfl
     . obtain ⟨i1,i2,i3⟩:=n7 h hv l q (by omega);show gC l ((((l.take q).foldl stP (b,0)).2:Int),(q:Int),((l.take q).foldl stP (b,0)).1)=some (.inl ((((l.take (q + 1)).foldl stP (b,0)).2:Int),((q + 1:Nat):Int),((l.take (q + 1)).foldl stP (b,0)).1));rw [step q hq];generalize (l.take q).foldl stP (b,0)=s at *;obtain ⟨c,n⟩:=s;dsimp only at i1 i2 i3 ⊢;obtain ⟨c1,c2,c3,c4,c5,c6,c7⟩:=c;unfold gC;dsimp only;rw [dlt hq,cond_true,ah hq,M0,show (l[q].1,l[q].2.1,l[q].2.2.1,l[q].2.2.2)=l[q] from rfl,(oa i1 (by omega) l[q]).1,ak hq (by omega)];unfold stP;dsimp only;simp only [M0];by_cases h0:(apP (c1,c2,c3,c4,c5,c6,c7) l[q]).2=0
       . rw [decide_eq_true h0,if_pos h0]; rfl
       . rw [decide_eq_false h0,if_neg h0,w64 (by omega) (by omega)]; rfl
     . show gC l ((((l.take l.length).foldl stP (b,0)).2:Int),(l.length:Int),((l.take l.length).foldl stP (b,0)).1)=_;rw [hend];generalize l.foldl stP (b,0)=s;obtain ⟨⟨c1,c2,c3,c4,c5,c6,c7⟩,n⟩:=s;unfold gC;dsimp only;rw [dge (by omega),cond_false]
   . have hloop:=bd (body:=gt l) st l.length (b:=(((l.foldl stP (b,0)).2:Int),(l.foldl stP (b,0)).1)) (fun q hq=>?_) ?_
     . have e0:st 0=(0,0,b):=rfl;rw [e0] at hloop;rw [show loop (gt l) (0,0,b.1,b.2.1,b.2.2.1,b.2.2.2.1,b.2.2.2.2.1,b.2.2.2.2.2.1,b.2.2.2.2.2.2)=_ from hloop];rfl
     . obtain ⟨i1,i2,i3⟩:=n7 h hv l q (by omega);show gt l ((((l.take q).foldl stP (b,0)).2:Int),(q:Int),((l.take q).foldl stP (b,0)).1)=some (.inl ((((l.take (q + 1)).foldl stP (b,0)).2:Int),((q + 1:Nat):Int),((l.take (q + 1)).foldl stP (b,0)).1));rw [step q hq];generalize (l.take q).foldl stP (b,0)=s at *;obtain ⟨c,n⟩:=s;dsimp only at i1 i2 i3 ⊢;obtain ⟨c1,c2,c3,c4,c5,c6,c7⟩:=c;unfold gt;dsimp only;rw [dlt hq,cond_true,ah hq,M0,show (l[q].1,l[q].2.1,l[q].2.2.1,l[q].2.2.2)=l[q] from rfl,(oa i1 (by omega) l[q]).2,ak hq (by omega)];unfold stP;dsimp only;simp only [M0,cB];by_cases h0:(apP (c1,c2,c3,c4,c5,c6,c7) l[q]).2=0
       . rw [decide_eq_true h0,if_pos h0]; rfl
       . rw [decide_eq_false h0,if_neg h0,w64 (by omega) (by omega)]; rfl
     . show gt l ((((l.take l.length).foldl stP (b,0)).2:Int),(l.length:Int),((l.take l.length).foldl stP (b,0)).1)=_;rw [hend];generalize l.foldl stP (b,0)=s;obtain ⟨⟨c1,c2,c3,c4,c5,c6,c7⟩,n⟩:=s;unfold gt;dsimp only;rw [dge (by omega),cond_false]
 . rw [decide_eq_false hv,if_neg hv];exact ⟨rfl,rfl⟩
theorem Nr.fin {b:Bo} {k:Nat} (h:Nr b k) (hk:k<=10):Fin38 b:=by
 have h1:=h.bounds; have h2:=h.locals; have h3:=h.ret; have h4:=h.sigs; have h5:=h.blocks;refine ⟨by omega,by omega,fun t ht=>by have:=h.loc t ht; omega,by omega,by omega,fun s hs=>?_,by omega,fun x hx=>?_⟩
 . obtain ⟨n1,n2,n3,n4⟩:=h.sig s hs;exact ⟨by omega,by omega,fun t ht=>by have:=n4 t ht; omega,by omega⟩
 . obtain ⟨n1,n2,n3⟩:=h.term x hx;have n4:=h.many x hx;exact ⟨by omega,by omega,by omega,by omega⟩
theorem Nr.zero:Nr zB 0:=⟨by simp,by simp,by simp,by simp,by simp,by simp,by simp,by simp,by simp⟩
theorem DS {b:Bo} {k:Nat} (h:Nr b k) (hk:k<=9) (e:Ed):Fin38 (apP b e).1:=by
 by_cases h0:(apP b e).2=0
 . exact (yN h h0).1.fin (by omega)
 . unfold apP at h0 ⊢;have hz:Fin38 zB:=Nr.zero.fin (by omega);split
   . rename_i hv;rw [if_pos hv] at h0;cases hc:chg b e with
     | none=>exact hz
     | some c =>
       rw [hc] at h0;dsimp only at h0 ⊢;split
       . rename_i hq; rw [if_pos hq] at h0; exact absurd rfl h0
       . exact hz
   . exact hz
theorem EC {b:Bo} (h:Nr b 0) (l:List Ed) (hl:l.length<=6):Fin38 (alP b l).1:=by
 unfold alP;split
 . rename_i hv;have:=(n7 h hv l l.length (S2 _)).1;rw [Q6] at this;exact this.fin (by omega)
 . exact Nr.zero.fin (by omega)
abbrev b41:Bo:=(1,1,[],[[]],[],[],[([(4,0,0,0,false)],(3,0,0,[],[],[]))])
abbrev c41:Bo:=(1,1,[],[[]],[],[],[([(0,0,0,0,false)],(3,0,0,[],[],[]))])
theorem Jo:Nr b41 0:=⟨by simp,by simp,by simp,by simp,by simp,by simp,by simp,by simp,by simp⟩
theorem FB (L:List (List St)) (R:Int) (h:0 < L.length):sE L R (4,0,0,0,false)=0:=by
 unfold sE;have:ck (4,0,0,0,false) L R=some ([],0):=by
   unfold ck;rw [show iV ((4:Int),0,0,0,false)=_ from nS (4,0,0,0,false)];have g1:gR 4=some false:=rfl;have g2:gO 4=some true:=rfl;have g3:gq 4=some false:=rfl;have g4:decide (((L.length:Nat):Int)<=0)=false:=decide_eq_false (by omega);have g5:fOk (4,0,0,0,false)=true:=rfl;simp only [g1,g2,g3,g4,g5,M0];rfl
 rw [this]; rfl
theorem zZ:(lck b41).1=0/\(lck c41).1=0:=by
 have hs:∀ s,Sm ((1,1,[],[[]],[],[],[([s],(3,0,0,[],[],[]))]):Bo):=fun s=>⟨by simp,by simp,by simp,by simp,by simp,by simp,by simp,by simp,by simp [stm]⟩
 have key:∀ s,sE [[]] 1 s=0->(lck ((1,1,[],[[]],[],[],[([s],(3,0,0,[],[],[]))]):Bo)).1=0:=by
   intro s h;rw [sO (fun x hx=>by simp at hx; subst hx; simp) (hs s)];refine sP.2 ⟨⟨by rfl,by rfl,by rfl,by rfl,by rfl,by rfl⟩,fun x hx=>?_⟩;simp at hx;subst hx;exact ⟨fun t ht=>by simp at ht; subst ht; exact h,Ff (t:=[]) (L:=[]) rfl rfl (by simp)⟩
 exact ⟨key _ (FB _ _ (by simp)),key _ (FD _ _)⟩
theorem FP:ek [108,111,110,101]=some (6,true):=by
 unfold ek;rw [ow (n:=7) (r := .inr (6,true)) (by rfl)];rfl
theorem E1:kI=some true:=by
 have hap:apP b41 (1,0,0,0)=(c41,0):=by
   have hc:chg b41 (1,0,0,0)=some c41:=rfl;unfold apP;rw [if_pos zZ.1,hc];dsimp only;rw [if_pos zZ.2]
 unfold kI;rw [show eh ((1,1,[],([[]]:List (List (Int×Bool))),[],[],([(([(4,0,0,0,false)]:List (Int×Int×Int×Int×Bool)),(3,0,0,[],[],[]))]:List ((List (Int×Int×Int×Int×Bool))×(Int×Int×Int×(List Int)×(List Int)×(List Int)))))) (1,0,0,0)=_ from (oa Jo (by omega) (1,0,0,0)).1,hap,FP];rfl
end
section
open Go.RowKit Lb
theorem EM (l:List Ed) (hl:l.length<=6):nD l=some l:=by
 unfold nD;have hloop:=jb (body:=nd l) l (fun j=>l.take j) l (fun j hj=>?_) ?_
 . have h0:l.take 0=[]:=rfl;rw [h0] at hloop;rw [hloop]; rfl
 . unfold nd;dsimp only;rw [dlt hj,cond_true,ah hj];simp only [M0];rw [show [(l[j].1,l[j].2.1,l[j].2.2.1,l[j].2.2.2)]=[l[j]] from rfl,aq (by simp; omega),M0,bw hj,ak hj (by omega)]
 . unfold nd;dsimp only;rw [dge (by omega),cond_false,Q6]
theorem wW (s:List UInt8):ek s=some (if s=[98,108,97,110,107] then (1,true) else if s=[100,114,111,112] then (2,true) else if s=[116,119,105,99,101] then (3,true) else if s=[115,119,97,112] then (4,true) else if s=[114,101,103,105,111,110] then (5,true) else if s=[108,111,110,101] then (6,true) else if s=[100,101,99,108,97,114,101] then (7,true) else if s=[117,110,100,101,99,108,97,114,101] then (8,true) else (0,false)):=by
 unfold ek;have body (i:Int) (w:List UInt8) (j:Int) (h0:i<=8) (hw:fp i=some w) (hj:IntKind.wrap .i64 (i + 1)=j):iN s i=if s=w then some (.inr (.inr (i,true))) else some (.inl j):=by
   unfold iN;rw [decide_eq_true h0,cond_true,hw,M0,hj];by_cases q:s=w
   . rw [if_pos q,decide_eq_true q.symm]; rfl
   . rw [if_neg q,decide_eq_false (fun e=>q e.symm)]; rfl
 have st (i:Int) (w:List UInt8) (j:Int) (h0:i<=8) (hw:fp i=some w) (hj:IntKind.wrap .i64 (i + 1)=j):loop (iN s) i=if s=w then some (.inr (i,true)) else loop (iN s) j:=by
   by_cases q:s=w
   . rw [if_pos q];exact bO (by rw [body i w j h0 hw hj,if_pos q])
   . rw [if_neg q];exact di (by rw [body i w j h0 hw hj,if_neg q])
 have e9:loop (iN s) 9=some (.inl ()):=bO rfl;rw [st 1 [98,108,97,110,107] 2 (by decide) rfl rfl,st 2 [100,114,111,112] 3 (by decide) rfl rfl,st 3 [116,119,105,99,101] 4 (by decide) rfl rfl,st 4 [115,119,97,112] 5 (by decide) rfl rfl,st 5 [114,101,103,105,111,110] 6 (by decide) rfl rfl,st 6 [108,111,110,101] 7 (by decide) rfl rfl,st 7 [100,101,99,108,97,114,101] 8 (by decide) rfl rfl,st 8 [117,110,100,101,99,108,97,114,101] 9 (by decide) rfl rfl,e9]
 repeat' split
 all_goals rfl
theorem DD (k:Int):(1<=k/\k<=8/\∃ w,fp k=some w/\iS k=some w/\ek w=some (k,true))\/(¬ (1<=k/\k<=8)/\fp k=some [63]/\iS k=some [63]/\ek [63]=some (0,false)):=by
 by_cases h:1<=k/\k<=8
 . refine .inl ⟨h.1,h.2,?_⟩;have:k=1\/k=2\/k=3\/k=4\/k=5\/k=6\/k=7\/k=8:=by omega
   rcases this with rfl | rfl | rfl | rfl | rfl | rfl | rfl | rfl <;> exact ⟨_,rfl,rfl,by rw [wW]; rfl⟩
 . refine .inr ⟨h,?_,?_,by rw [wW]; rfl⟩
   . unfold fp;simp only [show ¬ k=1 by omega,show ¬ k=2 by omega,show ¬ k=3 by omega,show ¬ k=4 by omega,show ¬ k=5 by omega,show ¬ k=6 by omega,show ¬ k=7 by omega,show ¬ k=8 by omega,decide_false,cond_false]
   . unfold iS;have:(decide (k < 1)||decide (8 < k))=true:=by simp; omega
     rw [this]; rfl
theorem AB (xa:Bo) (xb:List Ed) (xc:Int) (k0:Tp.Ok tD xa) (k1:Tp.Ok (.sl (.cons (.int .i64) (.cons (.int .i64) (.cons (.int .i64) (.one (.int .i64)))))) xb) (k2:Tp.Ok (.int .i64) xc) (q0:Tp.Fit tD xa) (q1:Tp.Fit (.sl (.cons (.int .i64) (.cons (.int .i64) (.cons (.int .i64) (.one (.int .i64)))))) xb) (q2:Tp.Fit (.int .i64) xc):qM xa xb xc=some true:=by
 unfold qM;rw [E1]
 rcases HH xa (CX q0) with hs | ⟨hs,hf⟩
 . rw [show gF xa=_ from hs]; rfl
 have h:=hf.nr;rw [show gF xa=_ from hs];by_cases h5:5 < xb.length
 . rw [decide_eq_true (show (5:Int) < ((xb.length:Nat):Int) by omega)]; rfl
 rw [decide_eq_false (show ¬ (5:Int) < ((xb.length:Nat):Int) by omega)];simp only [M0,X0,Z7,cond_false];rw [EM xb (by omega),M0];have hloop:=bd (body:=kj xa xb xb) (fun k=>(k:Int)) xb.length (b := .inl ()) (fun k hk=>?_) ?_
 . rw [show loop (kj xa xb xb) 0=_ from hloop,M0];obtain ⟨a1,a2⟩:=Fz h xb (by omega);have hfin:=EC h xb (by omega);dsimp only;rw [show k7 xa xb=_ from a1,show kR xa xb=_ from a2];generalize alP xa xb=r at *;have hself:gK r.1 r.1=some true:=wY r.1 hfin
   rcases DD xc with ⟨n1,n2,w,m1,m2,m3⟩ | ⟨n1,m1,m2,m3⟩
   . simp only [M0,m1,m2,m3,hself,decide_true,decide_eq_true n1,decide_eq_true n2];rfl
   . have:(decide (1<=xc)&&decide (xc<=8))=false:=by
       by_cases q:1<=xc
       . simp [q]; omega
       . simp [q]
     simp only [M0,m1,m2,m3,hself,decide_true,this];by_cases q:(0:Int)=xc
     . simp [q]
     . simp [q]
 . unfold kj;obtain ⟨a1,a2⟩:=oa h (by omega) xb[k];have hfin:=DS h (by omega) xb[k];rw [dlt hk,cond_true,ah hk];simp only [M0];rw [show (xb[k].1,xb[k].2.1,xb[k].2.2.1,xb[k].2.2.2)=xb[k] from rfl,show eh xa xb[k]=_ from a1,show fe xa xb[k]=_ from a2];generalize apP xa xb[k]=r at *;have hself:gK r.1 r.1=some true:=wY r.1 hfin;simp only [M0,cB,hself,decide_true,X0,Z7,cond_false,ak hk (by omega)]
 . unfold kj;rw [dge (by omega),cond_false]
end
open Go.RowKit
theorem AA {H:Type} (enc:TypeId×Value->H) (W:World) (base:Nat) {v0 v1 v2:Value} {d0 d1 d2:DataW H} {p0 p1 p2:List MemPlace}
   (h0:DataW.Trod enc Tryz.prog W 0 (fun _=>true) true 30 v0 d0 p0) (h1:DataW.Trod enc Tryz.prog W 0 (fun _=>true) true 31 v1 d1 p1) (h2:DataW.Trod enc Tryz.prog W 0 (fun _=>true) true 3 v2 d2 p2)
   (o0:Value.okWide Tryz.prog W .any base 30 v0) (o1:Value.okWide Tryz.prog W .any base 31 v1) (o2:Value.okWide Tryz.prog W .any base 3 v2)
   (w0:(d0.weights Tryz.prog 30).all (·<=reachBytes)=true)
   (w1:(d1.weights Tryz.prog 31).all (·<=reachBytes)=true)
   (w2:(d2.weights Tryz.prog 3).all (·<=reachBytes)=true) :
   Calls Tryz.prog 3 #[v0,v1,v2] W fun e W'=>e = .returned (.bool true)/\Below W.heap.size W W':=by
 obtain ⟨xa,i0,k0⟩:=Tp.arg (.cons (.int .i64) (.cons (.int .i64) (.cons (.sl (.cons (.int .i64) (.one (.int .i64)))) (.cons (.sl (.one (.sl (.cons (.int .i64) (.one .bool))))) (.cons (.one (.sl (.cons (.int .i64) (.one .bool)))) (.cons (.sl (.cons (.int .i64) (.cons (.sl (.cons (.int .i64) (.one (.int .i64)))) (.cons (.sl (.one (.sl (.cons (.int .i64) (.one .bool))))) (.one (.one (.sl (.cons (.int .i64) (.one .bool))))))))) (.one (.sl (.cons (.sl (.cons (.int .i64) (.cons (.int .i64) (.cons (.int .i64) (.cons (.int .i64) (.one .bool)))))) (.one (.cons (.int .i64) (.cons (.int .i64) (.cons (.int .i64) (.cons (.sl (.int .i64)) (.cons (.sl (.int .i64)) (.one (.sl (.int .i64)))))))))))))))))) (by kernel_rfl) o0 h0;have q0:=Tp.argFit (.cons (.int .i64) (.cons (.int .i64) (.cons (.sl (.cons (.int .i64) (.one (.int .i64)))) (.cons (.sl (.one (.sl (.cons (.int .i64) (.one .bool))))) (.cons (.one (.sl (.cons (.int .i64) (.one .bool)))) (.cons (.sl (.cons (.int .i64) (.cons (.sl (.cons (.int .i64) (.one (.int .i64)))) (.cons (.sl (.one (.sl (.cons (.int .i64) (.one .bool))))) (.one (.one (.sl (.cons (.int .i64) (.one .bool))))))))) (.one (.sl (.cons (.sl (.cons (.int .i64) (.cons (.int .i64) (.cons (.int .i64) (.cons (.int .i64) (.one .bool)))))) (.one (.cons (.int .i64) (.cons (.int .i64) (.cons (.int .i64) (.cons (.sl (.int .i64)) (.cons (.sl (.int .i64)) (.one (.sl (.int .i64)))))))))))))))))) (r := .any) (b:=base) (by kernel_rfl) (by kernel_rfl) h0 i0 w0;obtain ⟨xb,i1,k1⟩:=Tp.arg (.sl (.cons (.int .i64) (.cons (.int .i64) (.cons (.int .i64) (.one (.int .i64)))))) (by kernel_rfl) o1 h1;have q1:=Tp.argFit (.sl (.cons (.int .i64) (.cons (.int .i64) (.cons (.int .i64) (.one (.int .i64)))))) (r := .any) (b:=base) (by kernel_rfl) (by kernel_rfl) h1 i1 w1;obtain ⟨xc,i2,k2⟩:=Tp.arg (.int .i64) (by kernel_rfl) o2 h2;have q2:=Tp.argFit (.int .i64) (r := .any) (b:=base) (by kernel_rfl) (by kernel_rfl) h2 i2 w2;exact Hw (s:=uP) (x:=(xa,xb,xc)) (args:=[v0,v1,v2]) Aw (AB xa xb xc k0 k1 k2 q0 q1 q2) trivial rfl rfl ⟨_,_,rfl,oS _ i0,_,_,rfl,oS _ i1,_,_,rfl,oS _ i2,rfl⟩
end
end Go.Proofs.YtcocmnheohgndaaGreat
namespace Go.Proofs.YtcocmnheohgndaaGreat.editAppliesFrame
set_option maxRecDepth 40000
open Go.ChangeShapes Go.WideShapes Go.ChangeAt Go.RowKit
theorem own:ownKnob Tryz.prog.godebug=none:=by kernel_rfl
theorem Dy (H:Type) (enc:TypeId×Value->H) (W:World) (base:Nat) (args:Array Value) (ds gs:List (DataW H)) (before:List MemPlace)
    (hval:∀ (j:Nat) t v,Tryz.f3.params[j]? = some t->args[j]? = some v->Value.okWide Tryz.prog W .any base t v)
    (hW:DataW.Whole enc Tryz.prog Tryz.f3.params.toList Rows.editAppliesSpec.vars false W args.toList ds gs before) (vt:List TypeId) (hwt:(DataW.weightsEach Tryz.prog (Tryz.f3.params.toList++vt) (ds++gs)).all (·<=reachBytes)=true) :
    Calls Tryz.prog 3 args W fun e W'=>∃ v,e = .returned v/\Rows.editAppliesSpec.post enc Tryz.prog Tryz.f3 false true false false W args v W':=by
  have hW':=hW;obtain ⟨p,q,hA0,hV,rfl,hfz,hnd⟩:=hW;have hA:DataW.TrodAll enc Tryz.prog W 0 (fun _=>true) true Tryz.f3.params.toList args.toList ds p:=hA0;rw [Tryz.params3] at hA hval hwt;obtain ⟨v0,vs0,d0,ds0,p0,q0,hargs,rfl,rfl,h0,r0⟩:=trodAll_cons hA;obtain ⟨v1,vs1,d1,ds1,p1,q1,rfl,rfl,rfl,h1,r1⟩:=trodAll_cons r0;obtain ⟨v2,vs2,d2,ds2,p2,q2,rfl,rfl,rfl,h2,r2⟩:=trodAll_cons r1;obtain ⟨rfl,rfl,rfl⟩:=trodAll_nil r2;obtain rfl:args = #[v0,v1,v2]:=by cases args; simp_all
  refine (AA enc W base h0 h1 h2 (hval 0 _ v0 rfl rfl) (hval 1 _ v1 rfl rfl) (hval 2 _ v2 rfl rfl) (io _ _ hwt 0 _ _ rfl rfl) (io _ _ hwt 1 _ _ rfl rfl) (io _ _ hwt 2 _ _ rfl rfl)).mono fun e W' ⟨he,hb⟩=>?_
  subst he;exact ⟨_,rfl,CH (tb:=_) rfl hW' rfl rfl (by kernel_rfl) (by kernel_rfl) (of_decide_eq_true (by kernel_rfl)) hb⟩
noncomputable def zz (os:Os):World:=World.holding Tryz.prog os ⟨#[],#[],[]⟩
theorem ze (os:Os) {H:Type} (enc:TypeId×Value->H):∃ x,DataW.whole enc Tryz.prog ((zz os).forCall (fun _ _=>0) ⟨#[],#[.agg #[.int .i64 0,.int .i64 0,.slice none 0 0,.slice none 0 0,.slice none 0 0,.slice none 0 0,.slice none 0 0],.slice none 0 0,.int .i64 0],[]⟩).memory Tryz.f3.params.toList Rows.editAppliesSpec.vars false (#[.agg #[.int .i64 0,.int .i64 0,.slice none 0 0,.slice none 0 0,.slice none 0 0,.slice none 0 0,.slice none 0 0],.slice none 0 0,.int .i64 0]:Array Value).toList 8=some x :=
  ae0.1 (by kernel_rfl)
set_option maxRecDepth 100000 in
theorem Fj (os:Os) (started:os.Started) (H:Type) (enc:TypeId×Value->H) (F:Stop.Interp) :
    ReturnsInHanded {} Tryz.checked os 3 .any ((OpenSpec.ofChange Rows.editAppliesSpec).preRow enc Tryz.prog Tryz.f3 Rows.editAppliesRow.domain false Rows.editAppliesRow.laid) (((OpenSpec.ofChange Rows.editAppliesSpec).at F).post enc Tryz.prog Tryz.f3 false true false false):=by
  obtain ⟨x,hx⟩:=ze os enc;refine returnsInHanded_of_row (C:=Tryz.checked) (s:=OpenSpec.ofChange Rows.editAppliesSpec) own started (by kernel_rfl) Tryz.func3
    (witness_row_at (enc:=enc) (C:=Tryz.checked) false (zz os) #[.agg #[.int .i64 0,.int .i64 0,.slice none 0 0,.slice none 0 0,.slice none 0 0,.slice none 0 0,.slice none 0 0],.slice none 0 0,.int .i64 0] rfl (by kernel_rfl) (by kernel_rfl) (by kernel_rfl)
      (OpenSpec.preRow_of_cond 8 hx (by kernel_rfl) (fun k hk=>by cases hk) (by kernel_rfl) (laidMet_of_run' 8 (by kernel_rfl) (by kernel_rfl)))) ?_
  intro W base args ds gs before hval hW _ _ hwt hL _ _;exact Dy H enc W base args ds gs before hval hW _ hwt
theorem proved:Rows.EditAppliesSaid :=
  OpenClaim.holds_of_cond 3 Tryz.f3 rfl rfl rfl rfl rfl rfl rfl ⟨rfl,rfl,rfl,rfl,rfl⟩ rfl rfl rfl rfl rfl (by kernel_rfl) Tryz.func3 (by kernel_rfl)
    (of_decide_eq_true (by kernel_rfl)) (by unfold Func.isWrapper; first | (rw [if_pos (by decide +kernel)]; kernel_rfl) | (rw [if_neg (by decide +kernel)]; exact ⟨rfl,rfl⟩))
    (fun os started H enc _ F=>by rw [OpenClaim.pre_eq_preRow]; exact Fj os started H enc F)
end Go.Proofs.YtcocmnheohgndaaGreat.editAppliesFrame

/- 'easement/easementlaw41.EditTurns' returns true for every input, and each argument zp afterwards as it read before: the row's frame round the walk. -/
import Derived.Test.YtcocmnheohgndaaGreatZ6
open Bool renaming not_true → Y0
open Int renaming toNat_natCast → O1
open List renaming append_assoc → O0, append_nil → P1, drop_left' → aE0, drop_of_length_le → W9, findIdx?_eq_none_iff → T1, foldl_append → au0, getD → R1, getD_eq_getElem?_getD → aF0, getElem?_append_right → P2, getElem_cons_drop → W7, getElem_mem → S0, length → M1, length_set → O4, mem_append → Y1, mem_of_mem_drop → U5, mem_of_mem_take → T5, mem_or_eq_of_mem_set → Q4, mem_singleton → U1, set_getElem_self → aa0, take_append_drop → Y2, take_left' → T6, take_length → T7
open Nat renaming add_sub_cancel_left → M6, le_refl → T2, sub_self → V8
open Option renaming bind_some → M0, isSome_iff_exists → R9, map_eq_none_iff → O5, map_some → X9
open Option.some renaming inj → X3
namespace Go.Proofs.YtcocmnheohgndaaGreat
noncomputable section
set_option linter.unusedVariables false
set_option linter.unnecessarySimpa false
set_option linter.unusedSimpArgs false
set_option linter.unusedSectionVars false
set_option maxRecDepth 20000
section
open Go.RowKit Lb
def apP (b:Bo) (e:Ed):Bo×Int :=
 if (lck b).1=0 then match chg b e with
   | none=>(zB,7)
   | some c=>if (lck c).1=0 then (c,0) else (zB,(lck c).1)
 else (zB,2)
theorem Nr.reg {b:Bo} {k:Nat} (h:Nr b k) (hk:k<=10) (hv:(lck b).1=0):1<=b.1/\b.1<=b.2.1/\b.2.1<=65536:=by
 rw [gX (h.hx hk) (h.sm hk)] at hv;exact ph (gW.1 hv).1.1
theorem sg {b:Bo} {k:Nat} (h:Nr b k) (hk:k<=9) (e:Ed):iK b e=some (dS (apP b e))/\m8 b e=some (dS (apP b e)):=by
 obtain ⟨o1,o2⟩:=okL (h.hx (by omega));unfold iK m8;rw [show gC b=_ from o1,show iU b=_ from o2];unfold apP;by_cases hv:(lck b).1=0
 . have hr:=h.reg (by omega) hv;have hB:=h.bounds; have hL:=h.locals; have hX:=h.blocks;have hxs:∀ x∈b.2.2.2.2.2.2,x.1.length<=1000000:=fun x hx=>by have:=h.many x hx; omega
   obtain ⟨p1,p2⟩:=B9 e b hxs (by omega) ⟨by omega,by omega⟩;obtain ⟨r1,r2⟩:=AN e b hxs (by omega) (by omega) (by omega) (fun t ht=>by have:=h.loc t ht; omega) ⟨by omega,by omega⟩;rw [decide_eq_true hv,if_pos hv,show gv b=_ from xo h (by omega) hv];simp only [M0,Y0,cond_false];rw [show (e.1,e.2.1,e.2.2.1,e.2.2.2)=e from rfl,show iB b e=iB b e from rfl];cases hc:chg b e with
   | none =>
     obtain ⟨⟨q1,q2,q3,q4,q5,q6⟩,hq⟩:=p2 hc;obtain ⟨c,hc'⟩:=r2 hc;rw [hq,hc'];exact ⟨rfl,rfl⟩
   | some c =>
     obtain ⟨g1,g2⟩:=p1 c hc;have hn:=h.stp hc;obtain ⟨l1,l2⟩:=rC (hn.hx (by omega));rw [g2,r1 c hc];simp only [M0,Y0,cond_false];rw [<- g1,show d8 c=_ from l1,show iJ c=_ from l2];simp only [M0];by_cases hz:(lck c).1=0
     . rw [decide_eq_true hz,if_pos hz];exact ⟨rfl,rfl⟩
     . rw [decide_eq_false hz,if_neg hz];exact ⟨rfl,rfl⟩
 . rw [decide_eq_false hv,if_neg hv];exact ⟨rfl,rfl⟩
theorem Fk {b:Bo} {k:Nat} (h:Nr b k) {e:Ed} (h0:(apP b e).2=0):Nr (apP b e).1 (k + 1)/\(lck (apP b e).1).1=0/\chg b e=some (apP b e).1:=by
 unfold apP at h0 ⊢;by_cases hv:(lck b).1=0
 . rw [if_pos hv] at h0 ⊢;cases hc:chg b e with
   | none=>rw [hc] at h0; cases h0
   | some c =>
     rw [hc] at h0;dsimp only at h0 ⊢;by_cases hz:(lck c).1=0
     . rw [if_pos hz];exact ⟨h.stp hc,hz,rfl⟩
     . rw [if_neg hz] at h0;exact absurd h0 hz
 . rw [if_neg hv] at h0; cases h0
def stP (s:Bo×Nat) (e:Ed):Bo×Nat:=if (apP s.1 e).2=0 then ((apP s.1 e).1,s.2) else (s.1,s.2 + 1)
theorem Eg {s:Bo×Nat} {k:Nat} (h:Nr s.1 k/\(lck s.1).1=0/\s.2<=k) (e:Ed):Nr (stP s e).1 (k + 1)/\(lck (stP s e).1).1=0/\(stP s e).2<=k + 1:=by
 unfold stP;by_cases h0:(apP s.1 e).2=0
 . rw [if_pos h0];obtain ⟨a1,a2,_⟩:=Fk h.1 h0;exact ⟨a1,a2,by dsimp only; omega⟩
 . rw [if_neg h0];exact ⟨h.1.up,h.2.1,by dsimp only; omega⟩
theorem rF {b:Bo} (h:Nr b 0) (hv:(lck b).1=0) (l:List Ed):∀ q,q<=l.length->Nr ((l.take q).foldl stP (b,0)).1 q/\(lck ((l.take q).foldl stP (b,0)).1).1=0/\((l.take q).foldl stP (b,0)).2<=q
 | 0,_=>⟨h,hv,T2 0⟩
 | q + 1,hq=>by
   rw [bz (by omega),au0];exact Eg (rF h hv l q (by omega)) _
def alP (b:Bo) (l:List Ed):Bo×Int:=if (lck b).1=0 then ((l.foldl stP (b,0)).1,((l.foldl stP (b,0)).2:Int)) else (zB,(l.length:Int))
theorem E8 {b:Bo} (h:Nr b 0) (l:List Ed) (hl:l.length<=6):gF b l=some (dS (alP b l))/\uV b l=some (dS (alP b l)):=by
 obtain ⟨o1,o2⟩:=okL (h.hx (by omega));unfold gF uV;rw [show gC b=_ from o1,show iU b=_ from o2];unfold alP;by_cases hv:(lck b).1=0
 . rw [decide_eq_true hv,if_pos hv,show gv b=_ from xo h (by omega) hv];simp only [M0,Y0,cond_false];have step (q:Nat) (hq:q < l.length):(l.take (q + 1)).foldl stP (b,0)=stP ((l.take q).foldl stP (b,0)) l[q]:=by
     rw [bz hq,au0]; rfl
   let st:Nat->Int×Int×Bo:=fun q=>((((l.take q).foldl stP (b,0)).2:Int),(q:Int),((l.take q).foldl stP (b,0)).1)
   have hend:l.take l.length=l:=T7;constructor
   . have hloop:=bq (body:=gg l) st l.length (b:=(((l.foldl stP (b,0)).2:Int),(l.foldl stP (b,0)).1)) (fun q hq=>?_) ?_
     . have e0:st 0=(0,0,b):=rfl;rw [e0] at hloop;rw [show loop (gg l) (0,0,b.1,b.2.1,b.2.2.1,b.2.2.2.1,b.2.2.2.2.1,b.2.2.2.2.2.1,b.2.2.2.2.2.2)=_ from hloop];rfl
     . obtain ⟨i1,i2,i3⟩:=rF h hv l q (by omega);show gg l ((((l.take q).foldl stP (b,0)).2:Int),(q:Int),((l.take q).foldl stP (b,0)).1)=some (.inl ((((l.take (q + 1)).foldl stP (b,0)).2:Int),((q + 1:Nat):Int),((l.take (q + 1)).foldl stP (b,0)).1));rw [step q hq];generalize (l.take q).foldl stP (b,0)=s at *;obtain ⟨c,n⟩:=s;dsimp only at i1 i2 i3 ⊢;obtain ⟨c1,c2,c3,c4,c5,c6,c7⟩:=c;unfold gg;dsimp only;rw [dlt hq,cond_true,ah hq,M0,show (l[q].1,l[q].2.1,l[q].2.2.1,l[q].2.2.2)=l[q] from rfl,(sg i1 (by omega) l[q]).1,ak hq (by omega)];unfold stP;dsimp only;simp only [M0];by_cases h0:(apP (c1,c2,c3,c4,c5,c6,c7) l[q]).2=0
       . rw [decide_eq_true h0,if_pos h0]; rfl
       . rw [decide_eq_false h0,if_neg h0,w64 (by omega) (by omega)]; rfl
     . show gg l ((((l.take l.length).foldl stP (b,0)).2:Int),(l.length:Int),((l.take l.length).foldl stP (b,0)).1)=_;rw [hend];generalize l.foldl stP (b,0)=s;obtain ⟨⟨c1,c2,c3,c4,c5,c6,c7⟩,n⟩:=s;unfold gg;dsimp only;rw [dge (by omega),cond_false]
   . have hloop:=bq (body:=ga l) st l.length (b:=(((l.foldl stP (b,0)).2:Int),(l.foldl stP (b,0)).1)) (fun q hq=>?_) ?_
     . have e0:st 0=(0,0,b):=rfl;rw [e0] at hloop;rw [show loop (ga l) (0,0,b.1,b.2.1,b.2.2.1,b.2.2.2.1,b.2.2.2.2.1,b.2.2.2.2.2.1,b.2.2.2.2.2.2)=_ from hloop];rfl
     . obtain ⟨i1,i2,i3⟩:=rF h hv l q (by omega);show ga l ((((l.take q).foldl stP (b,0)).2:Int),(q:Int),((l.take q).foldl stP (b,0)).1)=some (.inl ((((l.take (q + 1)).foldl stP (b,0)).2:Int),((q + 1:Nat):Int),((l.take (q + 1)).foldl stP (b,0)).1));rw [step q hq];generalize (l.take q).foldl stP (b,0)=s at *;obtain ⟨c,n⟩:=s;dsimp only at i1 i2 i3 ⊢;obtain ⟨c1,c2,c3,c4,c5,c6,c7⟩:=c;unfold ga;dsimp only;rw [dlt hq,cond_true,ah hq,M0,show (l[q].1,l[q].2.1,l[q].2.2.1,l[q].2.2.2)=l[q] from rfl,(sg i1 (by omega) l[q]).2,ak hq (by omega)];unfold stP;dsimp only;simp only [M0,cM];by_cases h0:(apP (c1,c2,c3,c4,c5,c6,c7) l[q]).2=0
       . rw [decide_eq_true h0,if_pos h0]; rfl
       . rw [decide_eq_false h0,if_neg h0,w64 (by omega) (by omega)]; rfl
     . show ga l ((((l.take l.length).foldl stP (b,0)).2:Int),(l.length:Int),((l.take l.length).foldl stP (b,0)).1)=_;rw [hend];generalize l.foldl stP (b,0)=s;obtain ⟨⟨c1,c2,c3,c4,c5,c6,c7⟩,n⟩:=s;unfold ga;dsimp only;rw [dge (by omega),cond_false]
 . rw [decide_eq_false hv,if_neg hv];exact ⟨rfl,rfl⟩
theorem Nr.fin {b:Bo} {k:Nat} (h:Nr b k) (hk:k<=10):Fin38 b:=by
 have h1:=h.bounds; have h2:=h.locals; have h3:=h.ret; have h4:=h.sigs; have h5:=h.blocks;refine ⟨by omega,by omega,fun t ht=>by have:=h.loc t ht; omega,by omega,by omega,fun s hs=>?_,by omega,fun x hx=>?_⟩
 . obtain ⟨n1,n2,n3,n4⟩:=h.sig s hs;exact ⟨by omega,by omega,fun t ht=>by have:=n4 t ht; omega,by omega⟩
 . obtain ⟨n1,n2,n3⟩:=h.term x hx;have n4:=h.many x hx;exact ⟨by omega,by omega,by omega,by omega⟩
abbrev b41:Bo:=(1,1,[],[[]],[],[],[([(4,0,0,0,false)],(3,0,0,[],[],[]))])
abbrev c41:Bo:=(1,1,[],[[]],[],[],[([(0,0,0,0,false)],(3,0,0,[],[],[]))])
theorem Hw:Nr b41 0:=⟨by simp,by simp,by simp,by simp,by simp,by simp,by simp,by simp,by simp⟩
theorem EX (L:List (List St)) (R:Int) (h:0 < L.length):sE L R (4,0,0,0,false)=0:=by
 unfold sE;have:cy (4,0,0,0,false) L R=some ([],0):=by
   unfold cy;rw [show kG ((4:Int),0,0,0,false)=_ from nH (4,0,0,0,false)];have g1:iQ 4=some false:=rfl;have g2:iP 4=some true:=rfl;have g3:iC 4=some false:=rfl;have g4:decide (((L.length:Nat):Int)<=0)=false:=decide_eq_false (by omega);have g5:fOk (4,0,0,0,false)=true:=rfl;simp only [g1,g2,g3,g4,g5,M0];rfl
 rw [this]; rfl
theorem zK:(lck b41).1=0/\(lck c41).1=0:=by
 have hs:∀ s,Sm ((1,1,[],[[]],[],[],[([s],(3,0,0,[],[],[]))]):Bo):=fun s=>⟨by simp,by simp,by simp,by simp,by simp,by simp,by simp,by simp,by simp [stm]⟩
 have key:∀ s,sE [[]] 1 s=0->(lck ((1,1,[],[[]],[],[],[([s],(3,0,0,[],[],[]))]):Bo)).1=0:=by
   intro s h;rw [gX (fun x hx=>by simp at hx; subst hx; simp) (hs s)];refine gW.2 ⟨⟨by rfl,by rfl,by rfl,by rfl,by rfl,by rfl⟩,fun x hx=>?_⟩;simp at hx;subst hx;exact ⟨fun t ht=>by simp at ht; subst ht; exact h,ES (t:=[]) (L:=[]) rfl rfl (by simp)⟩
 exact ⟨key _ (EX _ _ (by simp)),key _ (Fb _ _)⟩
theorem F8:nj [108,111,110,101]=some (6,true):=by
 unfold nj;rw [ol (n:=7) (r := .inr (6,true)) (by rfl)];rfl
theorem D6:iE=some true:=by
 have hap:apP b41 (1,0,0,0)=(c41,0):=by
   have hc:chg b41 (1,0,0,0)=some c41:=rfl;unfold apP;rw [if_pos zK.1,hc];dsimp only;rw [if_pos zK.2]
 unfold iE;rw [show iK ((1,1,[],([[]]:List (List (Int×Bool))),[],[],([(([(4,0,0,0,false)]:List (Int×Int×Int×Int×Bool)),(3,0,0,[],[],[]))]:List ((List (Int×Int×Int×Int×Bool))×(Int×Int×Int×(List Int)×(List Int)×(List Int)))))) (1,0,0,0)=_ from (sg Hw (by omega) (1,0,0,0)).1,hap,F8];rfl
end
section
open Go.RowKit Lb
theorem FE {b:Bo} {i:Nat} (hi:i < b.2.2.2.2.2.2.length) {l:List Stm} (hl:∀ s∈l,s∈b.2.2.2.2.2.2[i].1) (h:(vck b).1=0):(vck (b.1,b.2.1,b.2.2.1,b.2.2.2.1,b.2.2.2.2.1,b.2.2.2.2.2.1,b.2.2.2.2.2.2.set i (l,b.2.2.2.2.2.2[i].2))).1=0:=by
 obtain ⟨⟨h1,h2,h3,h4,h5,h6⟩,h7⟩:=gW.1 h;refine gW.2 ⟨⟨h1,h2,h3,h4,h5,?_⟩,fun x hx=>?_⟩
 . have hne:b.2.2.2.2.2.2.set i (l,b.2.2.2.2.2.2[i].2)≠[]:=fun e=>by
     have:=congrArg M1 e;rw [O4] at this;simp at this;rw [this] at hi;simp at hi
   unfold jM;rw [if_neg (show ¬ (b.2.2.2.2.2.2.set i (l,b.2.2.2.2.2.2[i].2))=[] from hne)]
 . have har:aL (b.1,b.2.1,b.2.2.1,b.2.2.2.1,b.2.2.2.2.1,b.2.2.2.2.2.1,b.2.2.2.2.2.2.set i (l,b.2.2.2.2.2.2[i].2))=aL b:=by unfold aL; dsimp only; rw [O4]
   rw [har]
   rcases Q4 (show x∈b.2.2.2.2.2.2.set i (l,b.2.2.2.2.2.2[i].2) from hx) with hx | rfl
   . exact h7 x hx
   . obtain ⟨g1,g2⟩:=h7 _ (S0 hi);exact ⟨fun t ht=>g1 t (hl t ht),g2⟩
theorem FX {b:Bo} (h:(vck b).1=0):(vck (b.1,b.2.1,b.2.2.1++[(0,0)],b.2.2.2)).1=0:=by
 obtain ⟨⟨h1,h2,h3,h4,h5,h6⟩,h7⟩:=gW.1 h;refine gW.2 ⟨⟨h1,?_,h3,h4,h5,h6⟩,h7⟩;have hh:=ph h1;unfold dI at h2 ⊢;dsimp only;have:(b.2.2.1++[(0,0)]).findIdx? (aJ b.1)=none:=by
   rw [T1];intro x hx
   rcases Y1.1 hx with hx | hx
   . cases hf:b.2.2.1.findIdx? (aJ b.1) with
     | some k=>rw [hf] at h2; cases h2
     | none=>exact T1.1 hf x hx
   . simp at hx;subst hx;unfold aJ;simp;omega
 rw [this]
theorem oL {b:Bo} {a i k n:Int} (ha:1<=a/\a<=4):chg b (a,i,k,n)=(chX b.2.2.2.2.2.2 i k a).map fun X=>(b.1,b.2.1,b.2.2.1,b.2.2.2.1,b.2.2.2.2.1,b.2.2.2.2.2.1,X):=by
 unfold chg; rw [if_pos ha]
theorem Ej {X:List Blk} {j m:Nat} {a:Int} (hj:j < X.length) (hm:m < X[j].1.length):chX X (j:Int) (m:Int) a=(edS X[j].1 m a).map fun l=>X.set j (l,X[j].2):=by
 unfold chX;have e:X.getD (j:Int).toNat zX=X[j]:=by simp [R1,hj]
 rw [if_pos ⟨by omega,by omega⟩,e,if_pos ⟨by omega,by omega⟩];rfl
theorem DU {l l':List Stm} {k:Nat} {a:Int} (h:edS l k a=some l') (hk:k < l.length) (ha:a≠1):∀ s∈l',s∈l:=by
 unfold edS at h;rw [if_neg ha] at h;have hg (i:Nat) (hi:i < l.length):l.getD i zS∈l:=by rw [show l.getD i zS=l[i] by simp [R1,hi]]; exact S0 hi
 split at h
 . cases h;intro s hs
   rcases Y1.1 hs with hs | hs
   . exact T5 hs
   . exact U5 hs
 split at h
 . cases h;intro s hs
   rcases Y1.1 hs with hs | hs
   . rcases Y1.1 hs with hs | hs
     . exact T5 hs
     . simp only [U1] at hs;rw [hs]; exact hg k hk
   . exact U5 hs
 split at h
 . cases h
 . cases h;rename_i h4;intro s hs
   rcases Q4 hs with hs | rfl
   . rcases Q4 hs with hs | rfl
     . exact hs
     . exact hg _ (by omega)
   . exact hg k hk
theorem Bx {l l':List Stm} {k:Nat} (h:edS l k 4=some l') (hk:k < l.length):k < l'.length/\edS l' k 4=some l:=by
 unfold edS at h;rw [if_neg (by decide),if_neg (by decide),if_neg (by decide)] at h;split at h
 . cases h
 . rename_i h4;have hk1:k + 1 < l.length:=by omega
   have h:=X3 h;rw [show l.getD (k + 1) zS=l[k + 1] by simp [R1,hk1],show l.getD k zS=l[k] by simp [R1,hk]] at h;have e0:l.take k++l[k] :: l[k + 1] :: l.drop (k + 2)=l:=by rw [W7 hk1,W7 hk,Y2]
   have e1:=rH (l.take k) (l.drop (k + 2)) l[k] l[k + 1];rw [e0,show (l.take k).length=k by simp; omega,h] at e1;have hlen:l'.length=l.length:=by rw [<- h]; simp
   refine ⟨by omega,?_⟩;unfold edS;rw [if_neg (by decide),if_neg (by decide),if_neg (by decide),if_neg (by omega)];have hl:(l.take k).length=k:=by simp; omega
   have g0:l'.getD k zS=l[k + 1]:=by
     rw [e1,O0,aF0,P2 (by omega),hl,V8]; rfl
   have g1:l'.getD (k + 1) zS=l[k]:=by
     rw [e1,O0,aF0,P2 (by omega),hl,M6]; rfl
   rw [g0,g1];have e2:=rH (l.take k) (l.drop (k + 2)) l[k + 1] l[k];rw [show l.take k++l[k + 1] :: l[k] :: l.drop (k + 2)=l' by rw [e1]; simp,hl] at e2;rw [e2,O0];exact congrArg some e0
theorem Bn {l l':List Stm} {k:Nat} (h:edS l k 3=some l') (hk:k < l.length):k < l'.length/\edS l' k 2=some l:=by
 unfold edS at h;rw [if_neg (by decide),if_neg (by decide),if_pos rfl,show l.getD k zS=l[k] by simp [R1,hk]] at h;have h:=X3 h;have hl:(l.take k).length=k:=by simp; omega
 subst h;refine ⟨by simp; omega,?_⟩;unfold edS;rw [if_neg (by decide),if_pos rfl]
 congr 1
 have e1:(l.take k++[l[k]]++l.drop k).take k=l.take k:=by rw [O0]; exact T6 hl
 have e2:(l.take k++[l[k]]++l.drop k).drop (k + 1)=l.drop k:=aE0 (by simp; omega);rw [e1,e2,Y2]
theorem xn {b c:Bo} {e:Ed} (hv:(lck b).1=0) (h:chg b e=some c) (hc:(lck c).1=0):apP b e=(c,0):=by
 unfold apP; rw [if_pos hv,h]; dsimp only; rw [if_pos hc]
theorem w9 {b:Bo} {e:Ed} (hv:(lck b).1=0) (h:chg b e=none):apP b e=(zB,7):=by
 unfold apP; rw [if_pos hv,h]
theorem xO {b:Bo} (hv:(lck b).1=0) (e f:Ed):alP b [e,f]=((stP (stP (b,0) e) f).1,(((stP (stP (b,0) e) f).2:Nat):Int)):=by
 unfold alP; rw [if_pos hv]; rfl
theorem wW {b c:Bo} {e f:Ed} (hv:(lck b).1=0) (h1:chg b e=some c) (hc:(lck c).1=0) (h2:chg c f=some b):alP b [e,f]=(b,0):=by
 rw [xO hv];have s1:stP (b,0) e=(c,0):=by unfold stP; dsimp only; rw [xn hv h1 hc,if_pos rfl]
 have s2:stP (c,0) f=(b,0):=by unfold stP; dsimp only; rw [xn hc h2 hv,if_pos rfl]
 rw [s1,s2]; rfl
theorem Dr {b:Bo} {e f:Ed} (hv:(lck b).1=0) (h1:chg b e=none) (h2:chg b f=none):alP b [e,f]=(b,2):=by
 rw [xO hv];have s1:stP (b,0) e=(b,1):=by unfold stP; dsimp only; rw [w9 hv h1,if_neg (by decide)]
 have s2:stP (b,1) f=(b,2):=by unfold stP; dsimp only; rw [w9 hv h2,if_neg (by decide)]
 rw [s1,s2]; rfl
theorem xy {b:Bo} (h:Nr b 0) (hv:(lck b).1=0) (i k:Int) (a d:Int) (ha:2<=a/\a<=4) (hd:2<=d/\d<=4) (hb:∀ {l l':List Stm} {k:Nat},edS l k a=some l'->k < l.length->k < l'.length/\edS l' k d=some l)
   (hn:∀ (l:List Stm) (k:Nat),k < l.length->edS l k a=none->edS l k d=none):alP b [(a,i,k,0),(d,i,k,0)]=(b,0)\/alP b [(a,i,k,0),(d,i,k,0)]=(b,2):=by
 have hV:(vck b).1=0:=by rw [<- gX (h.hx (by omega)) (h.sm (by omega))]; exact hv
 cases hx:chX b.2.2.2.2.2.2 i k a with
 | none =>
   refine .inr (Dr hv (by rw [oL (by omega),hx]; rfl) ?_);rw [oL (by omega)];have:chX b.2.2.2.2.2.2 i k d=none:=by
     unfold chX at hx ⊢;split
     . rename_i h1;rw [if_pos h1] at hx;split
       . rename_i h2;rw [if_pos h2] at hx;rw [O5] at hx ⊢;exact hn _ _ (by omega) hx
       . rfl
     . rfl
   rw [this]; rfl
 | some X' =>
   obtain ⟨j,m,hj,l,rfl,rfl,hm,hl,rfl⟩:=xS hx;obtain ⟨b1,b2⟩:=hb hl hm;have hc1:chg b (a,(j:Int),(m:Int),0)=some (b.1,b.2.1,b.2.2.1,b.2.2.2.1,b.2.2.2.2.1,b.2.2.2.2.2.1,b.2.2.2.2.2.2.set j (l,b.2.2.2.2.2.2[j].2)):=by rw [oL (by omega),hx]; rfl
   refine .inl (wW hv hc1 ?_ ?_)
   . have hn':=h.stp hc1;rw [gX (hn'.hx (by omega)) (hn'.sm (by omega))];exact FE hj (DU hl hm (by omega)) hV
   . rw [oL (by omega)];dsimp only;have hj':j < (b.2.2.2.2.2.2.set j (l,b.2.2.2.2.2.2[j].2)).length:=by rw [O4]; exact hj
     have hg:(b.2.2.2.2.2.2.set j (l,b.2.2.2.2.2.2[j].2))[j]=(l,b.2.2.2.2.2.2[j].2):=List.getElem_set_self _;rw [Ej hj' (by rw [hg]; exact b1),hg,b2];simp only [X9,List.set_set];rw [show (b.2.2.2.2.2.2[j].1,b.2.2.2.2.2.2[j].2)=b.2.2.2.2.2.2[j] from rfl,aa0]
theorem D2 {b:Bo} (h:Nr b 0) (hv:(lck b).1=0):alP b [(7,0,0,0),(8,((b.2.2.1.length:Nat):Int),0,0)]=(b,0):=by
 have hV:(vck b).1=0:=by rw [<- gX (h.hx (by omega)) (h.sm (by omega))]; exact hv
 have hc1:chg b (7,0,0,0)=some (b.1,b.2.1,b.2.2.1++[(0,0)],b.2.2.2):=rfl;refine wW hv hc1 ?_ ?_
 . have hn':=h.stp hc1;rw [gX (hn'.hx (by omega)) (hn'.sm (by omega))];exact FX hV
 . show (chB (b.2.2.1++[(0,0)]) ((b.2.2.1.length:Nat):Int)).map (fun B=>(b.1,b.2.1,B,b.2.2.2))=_;unfold chB;rw [if_pos ⟨by omega,by simp; omega⟩,O1,T6 rfl,W9 (by simp),P1];rfl
theorem Au (xa:Bo) (xb xc:Int) (k0:Tp.Ok td xa) (k1:Tp.Ok (.int .i64) xb) (k2:Tp.Ok (.int .i64) xc) (q0:Tp.Fit td xa) (q1:Tp.Fit (.int .i64) xb) (q2:Tp.Fit (.int .i64) xc):qr xa xb xc=some true:=by
 unfold qr;rw [D6]
 rcases F6 xa (CK q0) with hs | ⟨hs,hf⟩
 . rw [show gl xa=_ from hs]; rfl
 have h:=hf.nr;rw [show gl xa=_ from hs];have hall (l:List Ed) (hl:l.length<=6):gF xa l=some (dS (alP xa l)):=(E8 h l hl).1;simp only [M0,Y0,cond_false];rw [hall _ (by simp),hall _ (by simp),hall _ (by simp)];have hself:gx xa xa=some true:=De xa (h.fin (by omega));by_cases hv:(lck xa).1=0
 . rw [D2 h hv];have t1:=xy h hv xb xc 4 4 (by decide) (by decide) Bx (fun l k _ h=>h);have t2:=xy h hv xb xc 3 2 (by decide) (by decide) Bn (fun l k _ h=>by unfold edS at h; simp at h)
   rcases t1 with t1 | t1 <;> rcases t2 with t2 | t2 <;> rw [t1,t2] <;> simp only [M0,hself] <;> rfl
 . have ha (l:List Ed):alP xa l=(zB,(l.length:Int)):=by unfold alP; rw [if_neg hv]
   rw [ha,ha,ha];rfl
end
open Go.RowKit
theorem Ak {H:Type} (enc:TypeId×Value->H) (W:World) (base:Nat) {v0 v1 v2:Value} {d0 d1 d2:DataW H} {p0 p1 p2:List MemPlace}
   (h0:DataW.Trod enc Tryz.prog W 0 (fun _=>true) true 30 v0 d0 p0) (h1:DataW.Trod enc Tryz.prog W 0 (fun _=>true) true 3 v1 d1 p1) (h2:DataW.Trod enc Tryz.prog W 0 (fun _=>true) true 3 v2 d2 p2)
   (o0:Value.okWide Tryz.prog W .any base 30 v0) (o1:Value.okWide Tryz.prog W .any base 3 v1) (o2:Value.okWide Tryz.prog W .any base 3 v2)
   (w0:(d0.weights Tryz.prog 30).all (·<=reachBytes)=true)
   (w1:(d1.weights Tryz.prog 3).all (·<=reachBytes)=true)
   (w2:(d2.weights Tryz.prog 3).all (·<=reachBytes)=true) :
   Calls Tryz.prog 4 #[v0,v1,v2] W fun e W'=>e = .returned (.bool true)/\Below W.heap.size W W':=by
 obtain ⟨xa,i0,k0⟩:=Tp.arg (.cons (.int .i64) (.cons (.int .i64) (.cons (.sl (.cons (.int .i64) (.one (.int .i64)))) (.cons (.sl (.one (.sl (.cons (.int .i64) (.one .bool))))) (.cons (.one (.sl (.cons (.int .i64) (.one .bool)))) (.cons (.sl (.cons (.int .i64) (.cons (.sl (.cons (.int .i64) (.one (.int .i64)))) (.cons (.sl (.one (.sl (.cons (.int .i64) (.one .bool))))) (.one (.one (.sl (.cons (.int .i64) (.one .bool))))))))) (.one (.sl (.cons (.sl (.cons (.int .i64) (.cons (.int .i64) (.cons (.int .i64) (.cons (.int .i64) (.one .bool)))))) (.one (.cons (.int .i64) (.cons (.int .i64) (.cons (.int .i64) (.cons (.sl (.int .i64)) (.cons (.sl (.int .i64)) (.one (.sl (.int .i64)))))))))))))))))) (by kernel_rfl) o0 h0;have q0:=Tp.argFit (.cons (.int .i64) (.cons (.int .i64) (.cons (.sl (.cons (.int .i64) (.one (.int .i64)))) (.cons (.sl (.one (.sl (.cons (.int .i64) (.one .bool))))) (.cons (.one (.sl (.cons (.int .i64) (.one .bool)))) (.cons (.sl (.cons (.int .i64) (.cons (.sl (.cons (.int .i64) (.one (.int .i64)))) (.cons (.sl (.one (.sl (.cons (.int .i64) (.one .bool))))) (.one (.one (.sl (.cons (.int .i64) (.one .bool))))))))) (.one (.sl (.cons (.sl (.cons (.int .i64) (.cons (.int .i64) (.cons (.int .i64) (.cons (.int .i64) (.one .bool)))))) (.one (.cons (.int .i64) (.cons (.int .i64) (.cons (.int .i64) (.cons (.sl (.int .i64)) (.cons (.sl (.int .i64)) (.one (.sl (.int .i64)))))))))))))))))) (r := .any) (b:=base) (by kernel_rfl) (by kernel_rfl) h0 i0 w0;obtain ⟨xb,i1,k1⟩:=Tp.arg (.int .i64) (by kernel_rfl) o1 h1;have q1:=Tp.argFit (.int .i64) (r := .any) (b:=base) (by kernel_rfl) (by kernel_rfl) h1 i1 w1;obtain ⟨xc,i2,k2⟩:=Tp.arg (.int .i64) (by kernel_rfl) o2 h2;have q2:=Tp.argFit (.int .i64) (r := .any) (b:=base) (by kernel_rfl) (by kernel_rfl) h2 i2 w2;exact Fw (s:=uE) (x:=(xa,xb,xc)) (args:=[v0,v1,v2]) Ac (Au xa xb xc k0 k1 k2 q0 q1 q2) trivial rfl rfl ⟨_,_,rfl,oE _ i0,_,_,rfl,oE _ i1,_,_,rfl,oE _ i2,rfl⟩
end
end Go.Proofs.YtcocmnheohgndaaGreat
namespace Go.Proofs.YtcocmnheohgndaaGreat.editTurnsFrame
set_option maxRecDepth 40000
open Go.ChangeShapes Go.WideShapes Go.ChangeAt Go.RowKit
theorem own:ownKnob Tryz.prog.godebug=none:=by kernel_rfl
theorem Da (H:Type) (enc:TypeId×Value->H) (W:World) (base:Nat) (args:Array Value) (ds gs:List (DataW H)) (before:List MemPlace)
    (hval:∀ (j:Nat) t v,Tryz.f4.params[j]? = some t->args[j]? = some v->Value.okWide Tryz.prog W .any base t v)
    (hW:DataW.Whole enc Tryz.prog Tryz.f4.params.toList Rows.editTurnsSpec.vars false W args.toList ds gs before) (vt:List TypeId) (hwt:(DataW.weightsEach Tryz.prog (Tryz.f4.params.toList++vt) (ds++gs)).all (·<=reachBytes)=true) :
    Calls Tryz.prog 4 args W fun e W'=>∃ v,e = .returned v/\Rows.editTurnsSpec.post enc Tryz.prog Tryz.f4 false true false false W args v W':=by
  have hW':=hW;obtain ⟨p,q,hA0,hV,rfl,hfz,hnd⟩:=hW;have hA:DataW.TrodAll enc Tryz.prog W 0 (fun _=>true) true Tryz.f4.params.toList args.toList ds p:=hA0;rw [Tryz.params4] at hA hval hwt;obtain ⟨v0,vs0,d0,ds0,p0,q0,hargs,rfl,rfl,h0,r0⟩:=trodAll_cons hA;obtain ⟨v1,vs1,d1,ds1,p1,q1,rfl,rfl,rfl,h1,r1⟩:=trodAll_cons r0;obtain ⟨v2,vs2,d2,ds2,p2,q2,rfl,rfl,rfl,h2,r2⟩:=trodAll_cons r1;obtain ⟨rfl,rfl,rfl⟩:=trodAll_nil r2;obtain rfl:args = #[v0,v1,v2]:=by cases args; simp_all
  refine (Ak enc W base h0 h1 h2 (hval 0 _ v0 rfl rfl) (hval 1 _ v1 rfl rfl) (hval 2 _ v2 rfl rfl) (hP _ _ hwt 0 _ _ rfl rfl) (hP _ _ hwt 1 _ _ rfl rfl) (hP _ _ hwt 2 _ _ rfl rfl)).mono fun e W' ⟨he,hb⟩=>?_
  subst he;exact ⟨_,rfl,CA (tb:=_) rfl hW' rfl rfl (by kernel_rfl) (by kernel_rfl) (of_decide_eq_true (by kernel_rfl)) hb⟩
noncomputable def zi (os:Os):World:=World.holding Tryz.prog os ⟨#[],#[],[]⟩
theorem zp (os:Os) {H:Type} (enc:TypeId×Value->H):∃ x,DataW.whole enc Tryz.prog ((zi os).forCall (fun _ _=>0) ⟨#[],#[.agg #[.int .i64 0,.int .i64 0,.slice none 0 0,.slice none 0 0,.slice none 0 0,.slice none 0 0,.slice none 0 0],.int .i64 0,.int .i64 0],[]⟩).memory Tryz.f4.params.toList Rows.editTurnsSpec.vars false (#[.agg #[.int .i64 0,.int .i64 0,.slice none 0 0,.slice none 0 0,.slice none 0 0,.slice none 0 0,.slice none 0 0],.int .i64 0,.int .i64 0]:Array Value).toList 8=some x :=
  R9.1 (by kernel_rfl)
set_option maxRecDepth 100000 in
theorem EY (os:Os) (started:os.Started) (H:Type) (enc:TypeId×Value->H) (F:Stop.Interp) :
    ReturnsInHanded {} Tryz.checked os 4 .any ((OpenSpec.ofChange Rows.editTurnsSpec).preRow enc Tryz.prog Tryz.f4 Rows.editTurnsRow.domain false Rows.editTurnsRow.laid) (((OpenSpec.ofChange Rows.editTurnsSpec).at F).post enc Tryz.prog Tryz.f4 false true false false):=by
  obtain ⟨x,hx⟩:=zp os enc;refine returnsInHanded_of_row (C:=Tryz.checked) (s:=OpenSpec.ofChange Rows.editTurnsSpec) own started (by kernel_rfl) Tryz.func4
    (witness_row_at (enc:=enc) (C:=Tryz.checked) false (zi os) #[.agg #[.int .i64 0,.int .i64 0,.slice none 0 0,.slice none 0 0,.slice none 0 0,.slice none 0 0,.slice none 0 0],.int .i64 0,.int .i64 0] rfl (by kernel_rfl) (by kernel_rfl) (by kernel_rfl)
      (OpenSpec.preRow_of_cond 8 hx (by kernel_rfl) (fun k hk=>by cases hk) (by kernel_rfl) (laidMet_of_run' 8 (by kernel_rfl) (by kernel_rfl)))) ?_
  intro W base args ds gs before hval hW _ _ hwt hL _ _;exact Da H enc W base args ds gs before hval hW _ hwt
theorem proved:Rows.EditTurnsSaid :=
  OpenClaim.holds_of_cond 4 Tryz.f4 rfl rfl rfl rfl rfl rfl rfl ⟨rfl,rfl,rfl,rfl,rfl⟩ rfl rfl rfl rfl rfl (by kernel_rfl) Tryz.func4 (by kernel_rfl)
    (of_decide_eq_true (by kernel_rfl)) (by unfold Func.isWrapper; first | (rw [if_pos (by decide +kernel)]; kernel_rfl) | (rw [if_neg (by decide +kernel)]; exact ⟨rfl,rfl⟩))
    (fun os started H enc _ F=>by rw [OpenClaim.pre_eq_preRow]; exact EY os started H enc F)
end Go.Proofs.YtcocmnheohgndaaGreat.editTurnsFrame

/- 'easement/easementlaw28.SeedTells' returns true for every input, and each argument vH afterwards as it read before: the row's frame round the walk. -/
import Derived.Test.YtaajcbeoafhmaaaGreatDoorZ7
import Derived.Test.YtaajcbeoafhmaaaGreatDoorRows
import Derived.Lib.LaidTab
import Derived.Test.YtaajcbeoafhmaaaGreatDoorCards
import Derived.Test.YtaajcbeoafhmaaaGreatDoorTie
import Derived.Lay
import Derived.SevenTiedAt
namespace Go.Proofs.YtaajcbeoafhmaaaGreatDoor
noncomputable section
set_option linter.unusedVariables false
set_option linter.unnecessarySimpa false
set_option linter.unusedSimpArgs false
set_option maxRecDepth 20000
open Go.RowKit
theorem FA {b:Bo} (h:Sm b):∃ (V:List Mv) (c:Nat),kK b 0 0 0 0 0 0 0=some (V,(c:Int))∧NB b≤c∧c≤100000∧(NB b=0→V=[])∧(0 < NB b→∃ u R:Nat,b.1=(u:Int)∧b.2.1=(R:Int)∧1≤u∧u≤R∧R≤65536∧V.length=R∧∀ r s,V[r]? = some s→bZ b u b.2.2.2.1.length r s):=by
 obtain ⟨C,c,h1,hC,hc1,hc2⟩:=ER h
 have hb:NB b≤32:=(dY h (Nat.le_refl _)).1
 unfold kK
 rw [show kL b 0 0 0 0 0 0 0=_ from h1,Option.bind_some]
 dsimp only
 rw [jP,Option.bind_some]
 by_cases h0:NB b=0
 . refine ⟨[],c,?_,hc1,by omega,fun _=>rfl,fun h=>by omega⟩
   rw [decide_eq_true (show ((NB b:Nat):Int)=0 by omega),cond_true]
 . have hN0:0 < NB b:=by omega
   have hwf:=BE hN0
   obtain ⟨w1,w2,w3⟩:=zy hwf
   have hloc:=AX hwf
   obtain ⟨u,hU⟩:=Int.eq_ofNat_of_zero_le (show 0≤b.1 by omega)
   obtain ⟨R,hR⟩:=Int.eq_ofNat_of_zero_le (show 0≤b.2.1 by omega)
   have hS:NB b + u≤1048576:=by omega
   have hsz:IntKind.wrap .i64 (((NB b:Nat):Int) + b.1)=((NB b + u:Nat):Int):=by rw [hU,w64 (by omega) (by omega)]; omega
   obtain ⟨fe,we,Le,g1,g2,_,g3⟩:=tJ (ix hS) 0 ((NB b:Nat):Int)
   have hLe:∀ x,x∈Le↔0≤x∧x < ((NB b:Nat):Int):=fun x=>by
     rw [g3]
     constructor
     . rintro (h | h)
       . cases h
       . omega
     . exact fun h => .inr (by omega)
   obtain ⟨V1,s1,s2,s3⟩:=Bm hU hR (by omega) (by omega) hb g2 hLe
   obtain ⟨V2,t1,t2,t3⟩:=Bf hC hN0 hU (by omega) (by omega) hb h.locals h.loc (fun t ht s hs=>by have:=hloc t ht s hs; omega) s2 s3
   refine ⟨V2,c + R,?_,by omega,by omega,fun h=>absurd h h0,fun _=>⟨u,R,hU,hR,by omega,by omega,by omega,t2,t3⟩⟩
   rw [decide_eq_false (show ¬ ((NB b:Nat):Int)=0 by omega),cond_false,hsz,hR,uP (by omega) (by omega),Option.bind_some,jA hS,mR _ _ (by omega)]
   simp only [Option.bind_some,g1]
   rw [show loop (wC b ((NB b:Nat):Int) (((NB b + u:Nat):Nat):Int) (List.replicate R none)) (0,fe,we,List.replicate R none)=_ from s1]
   simp only [Option.bind_some]
   rw [show loop (wB b (some ((NB b:Int),C)) ((NB b:Nat):Int)) (0,V1)=_ from t1]; rfl
theorem Gc (t:List St) (r:Nat) (hn:t.length≤1000000):∃ q:Bool,my t (r:Int)=some q∧(q=true↔eh t r):=by
 refine ⟨t.any fun s=>decide (s.1=(r:Int)),?_,?_⟩
 . unfold my r6 r7
   rw [b9 (body:=nF t (r:Int)) t (fun x=>decide (x.1=(r:Int))) (fun k => .inr (k:Int)) (.inl ()) ?_ ?_]
   . cases hf:t.findIdx? (fun x=>decide (x.1=(r:Int))) with
     | none =>
       have:(t.any fun s=>decide (s.1=(r:Int)))=false:=by
         rw [List.any_eq_false]; exact fun x hx=>by simpa using List.findIdx?_eq_none_iff.1 hf x hx
       rw [this]; rfl
     | some k =>
       obtain ⟨hk,hcc,_⟩:=List.findIdx?_eq_some_iff_getElem.1 hf
       have:(t.any fun s=>decide (s.1=(r:Int)))=true:=List.any_eq_true.2 ⟨_,List.getElem_mem hk,hcc⟩
       rw [this]
       simp
   . intro k hk
     unfold nF sH
     rw [dlt hk,cond_true,ah hk]
     simp only [Option.bind_some]
     rw [aj hk (by omega)]
     cases decide (t[k].1=(r:Int)) <;> rfl
   . simp [nF]
 . rw [List.any_eq_true]
   unfold eh
   constructor
   . rintro ⟨s,h1,h2⟩; exact ⟨s,h1,by simpa using h2⟩
   . rintro ⟨s,h1,h2⟩; exact ⟨s,h1,by simpa using h2⟩
theorem tv {n:Nat} {p:Nat→Bool} {x:Int}:x∈li ((List.range n).filter p)↔0≤x∧x < (n:Int)∧p x.toNat=true:=by
 unfold li
 rw [List.mem_map]
 constructor
 . rintro ⟨k,hk,rfl⟩
   obtain ⟨h1,h2⟩:=List.mem_filter.1 hk
   have:=List.mem_range.1 h1
   exact ⟨Int.natCast_nonneg k,by exact_mod_cast this,by simpa using h2⟩
 . rintro ⟨h0,h1,h2⟩
   exact ⟨x.toNat,List.mem_filter.2 ⟨List.mem_range.2 (by omega),h2⟩,Int.toNat_of_nonneg h0⟩
theorem wP (n:Nat) (p:Nat→Bool):(li ((List.range n).filter p)).Pairwise (· < ·):=by
 unfold li
 rw [List.pairwise_map]
 exact (List.pairwise_lt_range.sublist List.filter_sublist).imp (fun h=>by exact_mod_cast h)
theorem I0 {S:Nat} {A:List Nat} (hA:∀ n∈A,n < S) (hAl:A.length≤1000000) {f0:Option (List Int)} {w0:Option (Int×List Int)} {L0:List Int} (h0:Mx S f0 w0 L0):∃ f w L,loop (ll (S:Int) (li A)) (0,f0,w0)=some (f,w)∧Mx S f w L∧∀ x,x∈L↔x∈L0∨x∈li A:=by
 obtain ⟨⟨f,w⟩,h1,L,h2,h3⟩:=bL (body:=ll (S:Int) (li A)) (fun s=>∃ (k:Nat) (L:List Int),k≤A.length∧s.1=(k:Int)∧Mx S s.2.1 s.2.2 L∧∀ x,x∈L↔x∈L0∨x∈li (A.take k)) (fun s=>A.length - s.1.toNat) (Q:=fun r=>∃ L,Mx S r.1 r.2 L∧∀ x,x∈L↔x∈L0∨x∈li A) (fun s hs=>by
   obtain ⟨i,f,w⟩:=s
   obtain ⟨k,L,hk,rfl,hm,hL⟩:=hs
   dsimp only at hm ⊢
   by_cases hc:k < A.length
   . obtain ⟨f',w',g1,g2,_⟩:=mC hm ((A[k]:Nat):Int)
     have:=hA _ (List.getElem_mem hc)
     refine .inl ⟨(((k + 1:Nat):Int),f',w'),?_,⟨k + 1,_,hc,rfl,g2,fun x=>?_⟩,by dsimp only; omega⟩
     . unfold ll
       simp only [bz,dlt hc,cond_true,im hc,Option.bind_some,g1,aj hc (by omega:A.length≤9223372036854775807)]
     . rw [dz,hL,aM hc]
       have e:li (A.take k++[A[k]])=li (A.take k)++[((A[k]:Nat):Int)]:=by unfold li; rw [List.map_append]; rfl
       rw [e,List.mem_append,List.mem_singleton]
       constructor
       . rintro ((h | h) | h)
         . exact .inl h
         . exact .inr (.inl h)
         . exact .inr (.inr h.1)
       . rintro (h | h | h)
         . exact .inl (.inl h)
         . exact .inl (.inr h)
         . exact .inr ⟨h,by omega,by omega⟩
   . obtain rfl:k=A.length:=by omega
     refine .inr ⟨(f,w),?_,L,hm,fun x=>by rw [hL,List.take_length]⟩
     unfold ll
     simp only [bz,dge hc,cond_false]) (s:=(0,f0,w0)) ⟨0,L0,Nat.zero_le _,rfl,h0,fun x=>by simp [li]⟩
 exact ⟨f,w,L,h1,h2,h3⟩
theorem Ef {b:Bo} {u R:Nat} (h:Sm b) (hN0:0 < NB b) (hU:b.1=(u:Int)) (hR:b.2.1=(R:Int)) (huR:u≤R) (hR2:R≤65536) {r:Nat} (hr:r < R):aP b (r:Int)=some (li ((List.range (NB b)).filter (sdB b u b.2.2.2.1.length r))):=by
 obtain ⟨C,h1,hC⟩:=ub h
 have hb:NB b≤32:=(dY h (Nat.le_refl _)).1
 have hL:=h.locals
 have hCl:=hC.len hN0
 have hS:NB b≤1048576:=by omega
 -- what is filled ahead
 obtain ⟨f0,w0,L0,hf,m0,q0⟩:∃ f0 w0 L0,((cond (decide ((r:Int) < b.1)) ((eD (some ((NB b:Int),C))).bind fun i=>(gG 0 i ((NB b:Nat):Int) (some []) none).bind fun (l,l2)=>some ((l,l2))) (some ((some [],none)))):Option (((Option (List Int))×(Option (Int×(List Int))))))=some (f0,w0)∧Mx (NB b) f0 w0 L0∧∀ x,x∈L0↔r < u∧0≤x∧x < ((NB b:Nat):Int):=by
   by_cases q:r < u
   . obtain ⟨fe,we,Le,g1,g2,_,g3⟩:=tJ (ix hS) 0 ((NB b:Nat):Int)
     refine ⟨fe,we,Le,?_,g2,fun x=>?_⟩
     . rw [decide_eq_true (by rw [hU]; exact_mod_cast q),cond_true,jP,Option.bind_some,g1]; rfl
     . rw [g3]
       constructor
       . rintro (h | h)
         . cases h
         . exact ⟨q,by omega⟩
       . exact fun h => .inr (by omega)
   . refine ⟨some [],none,[],?_,ix hS,fun x=>?_⟩
     . rw [decide_eq_false (by rw [hU]; omega),cond_false]
     . simp only [List.not_mem_nil,false_iff]
       exact fun h=>q h.1
 obtain ⟨⟨f,w⟩,hl,M,hM,hx⟩:=bL (body:=lm b (r:Int) (some ((NB b:Int),C)) ((NB b:Nat):Int)) (fun s=>∃ (k:Nat) (L:List Int),k≤b.2.2.2.1.length∧s.1=(k:Int)∧Mx (NB b) s.2.1 s.2.2 L∧∀ x,x∈L↔x∈L0∨∃ k',k' < k∧∃ t,b.2.2.2.1[k']? = some t∧eh t r∧0≤x∧lvB b k' x.toNat=true) (fun s=>b.2.2.2.1.length - s.1.toNat) (Q:=fun s=>∃ L,Mx (NB b) s.1 s.2 L∧∀ x,x∈L↔x∈L0∨∃ k',k' < b.2.2.2.1.length∧∃ t,b.2.2.2.1[k']? = some t∧eh t r∧0≤x∧lvB b k' x.toNat=true) (fun s hs=>by
   obtain ⟨i,f,w⟩:=s
   obtain ⟨k,L,hk,rfl,hm,hLk⟩:=hs
   dsimp only at hm ⊢
   by_cases hc:k < b.2.2.2.1.length
   . left
     obtain ⟨q,q1,q2⟩:=Gc b.2.2.2.1[k] r (Nat.le_trans (h.loc _ (List.getElem_mem hc)) (by decide))
     have ex1:∀ x:Int,(∃ k',k' < k + 1∧∃ t,b.2.2.2.1[k']? = some t∧eh t r∧0≤x∧lvB b k' x.toNat=true)↔(∃ k',k' < k∧∃ t,b.2.2.2.1[k']? = some t∧eh t r∧0≤x∧lvB b k' x.toNat=true)∨(q=true∧0≤x∧lvB b k x.toNat=true):=fun x=>by
       constructor
       . rintro ⟨k',hk',t,e1,e2,e3⟩
         by_cases e:k'=k
         . subst e
           rw [List.getElem?_eq_getElem hc] at e1
           obtain rfl:=Option.some.inj e1
           exact .inr ⟨q2.2 e2,e3⟩
         . exact .inl ⟨k',by omega,t,e1,e2,e3⟩
       . rintro (⟨k',hk',h⟩ | ⟨h1,h2⟩)
         . exact ⟨k',by omega,h⟩
         . exact ⟨k,by omega,_,List.getElem?_eq_getElem hc,q2.1 h1,h2⟩
     cases hq:q with
     | true =>
       have hA:∀ n∈lvN b k,n < NB b:=fun n hn=>by
         unfold lvN at hn
         exact List.mem_range.1 (List.mem_filter.1 hn).1
       obtain ⟨f',w',L',g1,g2,g3⟩:=I0 hA (Nat.le_trans (Al b k) (by omega)) hm
       refine ⟨(((k + 1:Nat):Int),f',w'),?_,⟨k + 1,L',hc,rfl,g2,fun x=>?_⟩,by dsimp only; omega⟩
       . unfold lm
         dsimp only
         rw [dlt hc,cond_true,ah hc,Option.bind_some,q1,Option.bind_some,hq,cond_true,xO hC (by omega)]
         simp only [Option.bind_some]
         rw [g1]
         simp only [Option.bind_some,aj hc (by omega:b.2.2.2.1.length≤9223372036854775807)]
       . rw [g3,hLk,ex1,or_assoc]
         have e:x∈li (lvN b k)↔(q=true∧0≤x∧lvB b k x.toNat=true):=by
           unfold lvN
           rw [tv]
           constructor
           . exact fun h=>⟨hq,h.1,h.2.2⟩
           . exact fun h=>⟨h.2.1,by have:=iu h.2.2; omega,h.2.2⟩
         rw [e]
     | false =>
       refine ⟨(((k + 1:Nat):Int),f,w),?_,⟨k + 1,L,hc,rfl,hm,fun x=>?_⟩,by dsimp only; omega⟩
       . unfold lm
         dsimp only
         rw [dlt hc,cond_true,ah hc,Option.bind_some,q1,Option.bind_some,hq,cond_false,aj hc (by omega)]
       . rw [hLk,ex1,hq]
         simp
   . obtain rfl:k=b.2.2.2.1.length:=by omega
     refine .inr ⟨(f,w),?_,L,hm,hLk⟩
     unfold lm
     dsimp only
     rw [dge hc,cond_false]) (s:=(0,f0,w0)) ⟨0,L0,Nat.zero_le _,rfl,m0,fun x=>by simp⟩
 have hML:M=li ((List.range (NB b)).filter (sdB b u b.2.2.2.1.length r)):=by
   refine eJ hM.rs (wP _ _) (fun x=>?_)
   rw [hx,q0,tv,ir]
   unfold sdM
   constructor
   . rintro (h | ⟨k,hk,t,e1,e2,e3,e4⟩)
     . exact ⟨h.2.1,h.2.2,.inl ⟨h.1,.inl (by omega)⟩⟩
     . have:=iu e4
       exact ⟨e3,by omega,.inr ⟨k,hk,t,e1,e2,by omega,by rw [Int.toNat_natCast]; exact e4⟩⟩
   . rintro ⟨a1,a2,h | ⟨k,hk,t,e1,e2,e3,e4⟩⟩
     . exact .inl ⟨h.1,a1,a2⟩
     . exact .inr ⟨k,hk,t,e1,e2,a1,by rw [Int.toNat_natCast] at e4; exact e4⟩
 rw [← hML]
 unfold aP
 rw [show fx b=_ from h1,Option.bind_some,jP,Option.bind_some]
 have hg:(((decide (((NB b:Nat):Int)=0))||(decide ((r:Int) < 0)))||(decide (b.2.1≤(r:Int))))=false:=by
   rw [Bool.or_eq_false_iff,Bool.or_eq_false_iff,decide_eq_false_iff_not,decide_eq_false_iff_not,decide_eq_false_iff_not]; omega
 rw [hg,cond_false,Option.bind_some,jA hS]
 simp only [Option.bind_some]
 simp only [jP,Option.bind_some] at hf
 rw [hf]
 simp only [Option.bind_some]
 rw [hl]
 have hn:=hM.hn
 simp only [Option.bind_some,show sy ((NB b:Nat):Int) f w=some (f,w) from rfl]
 unfold su
 rw [pp]
 rcases hM.st with ⟨rfl,rfl,h8⟩ | ⟨w',rfl,rfl,hw⟩
 . have hsp:=ni hn hM.rs hM.bd (by omega)
   have at0:bv (some M) 0=some (M.getD 0 0,decide (0 < M.length)):=eR 0
   have hlp:loop (lj M) (M.getD 0 0,decide (0 < M.length),([]:List Int))=some M:=by
     have:=aF (body:=lj M) (fun k:Nat=>(M.getD k 0,decide (k < M.length),M.take k)) M.length (b:=M) ?_ ?_
     . exact this
     . intro k hk
       unfold lj
       have hg:M.getD k 0=M[k]:=by simp [hk]
       have ha:app (M.take k) [M[k]]=some (M.take (k + 1)):=by
         rw [aH (by simp; omega),aM hk]
       simp only [decide_eq_true hk,cond_true,hg,ha,Option.bind_some,pC hsp hk,eR]
     . unfold lj
       simp
   simp only [Option.isSome_none,cond_false,Option.bind_some,dM,at0,hlp]
 . have hl:=xQ hw (body:=oz ((NB b:Nat):Int) w') (fun c k hk=>by
     have hk2:=fG hw.ds hk
     unfold oz
     have h0:decide (0≤(k:Int))=true:=by simp
     simp only [h0,cond_true,w64 (x:=(k:Int) + 1) (by omega) (by omega)]) (fun c=>by
     unfold oz
     rfl)
   obtain ⟨r,g1,g2⟩:=hl
   simp only [Option.isSome_some,cond_true,Option.bind_some,sA,g1,g2]
theorem wO {b:Bo} (h:Sm b) {r:Int} (hr:NB b=0∨r < 0∨b.2.1≤r):aP b r=some []:=by
 obtain ⟨C,h1,hC⟩:=ub h
 unfold aP
 rw [show fx b=_ from h1,Option.bind_some,jP,Option.bind_some]
 have hg:(((decide (((NB b:Nat):Int)=0))||(decide (r < 0)))||(decide (b.2.1≤r)))=true:=by
   rw [Bool.or_eq_true,Bool.or_eq_true,decide_eq_true_eq,decide_eq_true_eq,decide_eq_true_eq]; omega
 rw [hg,cond_true]
theorem ym (N:Nat) (p:Nat→Bool) (hN:N≤1000000):bB (vec N p)=some (li ((List.range N).filter p)):=by
 unfold bB
 have hl:=aF (body:=lr (vec N p)) (fun k:Nat=>(li ((List.range k).filter p),(k:Int))) N (b:=li ((List.range N).filter p)) (fun k hk=>by
     have hkl:((List.range k).filter p).length≤k:=by have:=List.length_filter_le p (List.range k); simpa using this
     have e:(List.range (k + 1)).filter p=(List.range k).filter p++if p k=true then [k] else []:=by
       rw [List.range_succ,List.filter_append]
       cases q:p k <;> simp [q]
     unfold lr
     dsimp only
     rw [jF,dlt hk,cond_true,qb hk,Option.bind_some,aj hk (by omega),e]
     cases q:p k with
     | true =>
       have ha:=aH (a:=li ((List.range k).filter p)) (b:=[(k:Int)]) (by rw [bz]; simp; omega)
       simp [ha]
       simp [li]
     | false=>simp) (by
     unfold lr
     dsimp only
     rw [jF,dge (Nat.lt_irrefl _),cond_false])
 rw [show loop (lr (vec N p)) ([],0)=_ from hl]; rfl
theorem Gh (N u:Nat) (p:Nat→Bool):(vec (N + u) p).take N=vec N p:=by
 unfold vec
 rw [← List.map_take,List.take_range,Nat.min_eq_left (Nat.le_add_right _ _)]
theorem Do (xa:Bo) (xb xc:Int) (k0:Tp.Ok va xa) (k1:Tp.Ok (.int .i64) xb) (k2:Tp.Ok (.int .i64) xc) (q0:Tp.Fit va xa) (q1:Tp.Fit (.int .i64) xb) (q2:Tp.Fit (.int .i64) xc):sG xa xb xc=some true:=by
 unfold sG
 rcases Hg xa (Gx q0) with h | ⟨h,hs⟩
 . rw [show fv xa=some false from h,mN]; rfl
 . by_cases h20:20 < xa.2.1
   . rw [show fv xa=some true from h,mN,decide_eq_true h20]; rfl
   . obtain ⟨V,c,h1,hc1,hc2,hV0,hV1⟩:=FA hs
     have hb:NB xa≤32:=(dY hs (Nat.le_refl _)).1
     have hAl:(((au (xs xa)).length:Nat):Int)=((NB xa:Nat):Int):=by rw [ii]
     rw [show fv xa=some true from h,Option.bind_some,decide_eq_false h20]
     simp only [Bool.not_true,Bool.or_self,cond_false]
     rw [show kK xa 0 0 0 0 0 0 0=_ from h1,Option.bind_some,
       show dd xa=_ from mA hs]
     dsimp only
     by_cases h0:NB xa=0
     . rw [hV0 h0,show eH xa=_ from DG hs h0,
         show eG xa xb=_ from xD hs (.inl h0),
         show eE xa=_ from uu hs,if_pos h0,
         show aP xa xc=_ from wO hs (.inl h0)]
       simp only [Option.bind_some,yh (show c≤1000000000 by omega),AA,hAl]
       rw [decide_eq_false (show ¬ (c:Int) < ((NB xa:Nat):Int) by omega),decide_eq_true (show ((NB xa:Nat):Int)=0 by omega),mN]
       simp
     . have hN0:0 < NB xa:=Nat.pos_of_ne_zero h0
       obtain ⟨u,R,hU,hR,hu1,huR,hR2,hlen,hok⟩:=hV1 hN0
       have hu2:u≤65536:=Nat.le_trans huR hR2
       have hsz:IntKind.wrap .i64 (((NB xa:Nat):Int) + xa.1)=((NB xa + u:Nat):Int):=by rw [hU,w64 (by omega) (by omega)]; omega
       have hszA:IntKind.wrap .i64 ((((au (xs xa)).length:Nat):Int) + xa.1)=((NB xa + u:Nat):Int):=by rw [hAl]; exact hsz
       generalize hA:(List.range R).map (fun r=>vec (NB xa + u) (sdB xa u xa.2.2.2.1.length r))=A
       have hRof:eH xa=some A:=by rw [← hA]; exact HG hs hN0 hU hR hu2 hR2
       have hAlen:A.length=R:=by rw [← hA]; simp
       have hAget:∀ r,r < R→aa A (r:Int)=some (vec (NB xa + u) (sdB xa u xa.2.2.2.1.length r)):=fun r hr=>by rw [← hA]; exact kx hr
       -- the tail: every region's value, then the points of one
       have hl1:loop (kM xa V A (au (xs xa))) 0=some (.inl ()):=aF (body:=kM xa V A (au (xs xa))) (fun k:Nat=>(k:Int)) R (b := .inl ()) (fun r hr=>by
         have hrV:r < V.length:=by omega
         have gV:aa V (r:Int)=some V[r]:=ah hrV
         obtain ⟨f,w,L,e,hm,hL⟩:=hok r V[r] (List.getElem?_eq_getElem hrV)
         have hLe:L=li ((List.range (NB xa + u)).filter (sdB xa u xa.2.2.2.1.length r)):=by
           refine eJ hm.rs (wP _ _) (fun x=>?_)
           rw [tv,ir]
           constructor
           . intro hx
             have:=hm.bd x hx
             rw [Int.toNat_of_nonneg this.1]
             exact ⟨this.1,this.2,(hL x).1 hx⟩
           . rintro ⟨a1,a2,a3⟩
             rw [Int.toNat_of_nonneg a1] at a3
             exact (hL x).2 a3
         have hll:=hm.len
         unfold kM
         rw [hAlen,dlt hr,cond_true,gV]
         simp only [Option.bind_some]
         rw [e,show b8 (some (((NB xa + u:Nat):Int),f,w))=some ((NB xa + u:Nat):Int) from rfl,Option.bind_some,hszA,hAget r hr,vu hm]
         simp only [Option.bind_some,decide_true,Bool.not_true,cond_false]
         rw [ym _ _ (by omega),Option.bind_some,pA _ _ (by omega),← hLe]
         simp only [Option.bind_some,decide_true,Bool.not_true,cond_false,aj hr (by omega:R≤9223372036854775807)]) (by
         unfold kM
         rw [hAlen,dge (Nat.lt_irrefl _),cond_false])
       have hT:cond ((decide (xc < 0))||(decide (xa.2.1≤xc))) ((aP xa xc).bind fun l15311=>(cond (decide ((((l15311.length:Nat):Int))=0)) ((bf).bind fun t15330=>some (t15330)) (some (false))).bind fun t15326=>some (t15326)) ((aa A xc).bind fun x15415=>(subL x15415 0 ((((au (xs xa)).length:Nat):Int))).bind fun y15426=>(aP xa xc).bind fun l15434=>(bB y15426).bind fun l15444=>(bh l15434 l15444).bind fun t15460=>cond (t15460) ((bf).bind fun t15467=>some (t15467)) (some (false)))=some true:=by
         by_cases q:xc < 0∨xa.2.1≤xc
         . have e:((decide (xc < 0))||(decide (xa.2.1≤xc)))=true:=by rw [Bool.or_eq_true,decide_eq_true_eq,decide_eq_true_eq]; exact q
           rw [e,cond_true,show aP xa xc=_ from wO hs (.inr q),mN]; rfl
         . have e:((decide (xc < 0))||(decide (xa.2.1≤xc)))=false:=by rw [Bool.or_eq_false_iff,decide_eq_false_iff_not,decide_eq_false_iff_not]; omega
           obtain ⟨r,rfl⟩:=Int.eq_ofNat_of_zero_le (show 0≤xc by omega)
           have hr:r < R:=by omega
           have hfl:((List.range (NB xa)).filter (sdB xa u xa.2.2.2.1.length r)).length≤NB xa:=by have:=List.length_filter_le (sdB xa u xa.2.2.2.1.length r) (List.range (NB xa)); simpa using this
           rw [e,cond_false,hAget r hr,Option.bind_some,hAl,jK (by omega) (by omega) (by rw [jF]; omega),Int.toNat_natCast,Gh]
           simp only [Option.bind_some,Int.toNat_zero,List.drop_zero]
           rw [show aP xa (r:Int)=_ from Ef hs hN0 hU hR huR hR2 hr,Option.bind_some,ym _ _ (by omega),Option.bind_some,Ie (by omega),mN]
           simp
       have hE:∀ q:Option (Unit⊕Bool),q=some (.inl ())→∀ t:Option Bool,t=some true→(q.bind fun o=>match o with | .inr r=>some r | .inl ()=>t)=some true:=fun q hq t ht=>by rw [hq,ht]; rfl
       rw [show eH xa=_ from hRof,
         show eE xa=_ from uu hs,if_neg h0,hsz]
       simp only [Option.bind_some,yh (show c≤1000000000 by omega),AA]
       rw [hszA,hlen,hAlen,decide_eq_true (rfl:(R:Int)=(R:Int))]
       simp only [Bool.not_true,cond_false,cond_true,Option.bind_some,decide_true]
       by_cases hx:0≤xb∧xb < xa.1
       . have hxw:IntKind.wrap .i64 ((((au (xs xa)).length:Nat):Int) + xb)=IntKind.wrap .i64 (((NB xa:Nat):Int) + xb):=by rw [hAl]
         rw [show eG xa xb=_ from D7 hs h0 hx.1 hx.2,Option.bind_some]
         dsimp only
         rw [decide_eq_false (show ¬ (c:Int) < (((au (xs xa)).length:Nat):Int) by rw [hAl]; omega),decide_eq_false (show ¬ (((au (xs xa)).length:Nat):Int)=0 by rw [hAl]; omega),decide_eq_true hx.1,decide_eq_true hx.2,hxw]
         simp only [Bool.not_true,cond_false,cond_true,Option.bind_some,decide_true,beq_self_eq_true]
         exact hE _ hl1 _ hT
       . rw [show eG xa xb=_ from xD hs (.inr (by omega)),Option.bind_some]
         dsimp only
         rw [decide_eq_false (show ¬ (c:Int) < (((au (xs xa)).length:Nat):Int) by rw [hAl]; omega),decide_eq_false (show ¬ (((au (xs xa)).length:Nat):Int)=0 by rw [hAl]; omega)]
         by_cases hx0:0≤xb
         . rw [decide_eq_true hx0,decide_eq_false (show ¬ xb < xa.1 by omega)]
           simp only [Bool.not_true,Bool.not_false,cond_false,cond_true,Option.bind_some,decide_true,beq_self_eq_true]
           exact hE _ hl1 _ hT
         . rw [decide_eq_false hx0]
           simp only [Bool.not_true,Bool.not_false,cond_false,cond_true,Option.bind_some,decide_true,beq_self_eq_true]
           exact hE _ hl1 _ hT
theorem Di {H:Type} (enc:TypeId×Value→H) (W:World) (base:Nat) {v0 v1 v2:Value} {d0 d1 d2:DataW H} {p0 p1 p2:List MemPlace}
   (h0:DataW.Trod enc Tryz.prog W 0 (fun _=>true) true 30 v0 d0 p0) (h1:DataW.Trod enc Tryz.prog W 0 (fun _=>true) true 3 v1 d1 p1) (h2:DataW.Trod enc Tryz.prog W 0 (fun _=>true) true 3 v2 d2 p2)
   (o0:Value.okWide Tryz.prog W .any base 30 v0) (o1:Value.okWide Tryz.prog W .any base 3 v1) (o2:Value.okWide Tryz.prog W .any base 3 v2)
   (hgk:tzGk (Hp.of W))
   (w0:(d0.weights Tryz.prog 30).all (·≤reachBytes)=true)
   (w1:(d1.weights Tryz.prog 3).all (·≤reachBytes)=true)
   (w2:(d2.weights Tryz.prog 3).all (·≤reachBytes)=true) :
   Calls Tryz.prog 3 #[v0,v1,v2] W fun e W'=>e = .returned (.bool true)∧Below W.heap.size W W':=by
 obtain ⟨xa,i0,k0⟩:=Tp.arg (.cons (.int .i64) (.cons (.int .i64) (.cons (.sl (.cons (.int .i64) (.one (.int .i64)))) (.cons (.sl (.one (.sl (.cons (.int .i64) (.one .bool))))) (.cons (.one (.sl (.cons (.int .i64) (.one .bool)))) (.cons (.sl (.cons (.int .i64) (.cons (.sl (.cons (.int .i64) (.one (.int .i64)))) (.cons (.sl (.one (.sl (.cons (.int .i64) (.one .bool))))) (.one (.one (.sl (.cons (.int .i64) (.one .bool))))))))) (.one (.sl (.cons (.sl (.cons (.int .i64) (.cons (.int .i64) (.cons (.int .i64) (.cons (.int .i64) (.one .bool)))))) (.one (.cons (.int .i64) (.cons (.int .i64) (.cons (.int .i64) (.cons (.sl (.int .i64)) (.cons (.sl (.int .i64)) (.one (.sl (.int .i64)))))))))))))))))) (by kernel_rfl) o0 h0
 have q0:=Tp.argFit (.cons (.int .i64) (.cons (.int .i64) (.cons (.sl (.cons (.int .i64) (.one (.int .i64)))) (.cons (.sl (.one (.sl (.cons (.int .i64) (.one .bool))))) (.cons (.one (.sl (.cons (.int .i64) (.one .bool)))) (.cons (.sl (.cons (.int .i64) (.cons (.sl (.cons (.int .i64) (.one (.int .i64)))) (.cons (.sl (.one (.sl (.cons (.int .i64) (.one .bool))))) (.one (.one (.sl (.cons (.int .i64) (.one .bool))))))))) (.one (.sl (.cons (.sl (.cons (.int .i64) (.cons (.int .i64) (.cons (.int .i64) (.cons (.int .i64) (.one .bool)))))) (.one (.cons (.int .i64) (.cons (.int .i64) (.cons (.int .i64) (.cons (.sl (.int .i64)) (.cons (.sl (.int .i64)) (.one (.sl (.int .i64)))))))))))))))))) (r := .any) (b:=base) (by kernel_rfl) (by kernel_rfl) h0 i0 w0
 obtain ⟨xb,i1,k1⟩:=Tp.arg (.int .i64) (by kernel_rfl) o1 h1
 have q1:=Tp.argFit (.int .i64) (r := .any) (b:=base) (by kernel_rfl) (by kernel_rfl) h1 i1 w1
 obtain ⟨xc,i2,k2⟩:=Tp.arg (.int .i64) (by kernel_rfl) o2 h2
 have q2:=Tp.argFit (.int .i64) (r := .any) (b:=base) (by kernel_rfl) (by kernel_rfl) h2 i2 w2
 exact Nt (s:=wF) (x:=(xa,xb,xc)) (args:=[v0,v1,v2]) CP (Do xa xb xc k0 k1 k2 q0 q1 q2) hgk rfl rfl ⟨_,_,rfl,qB _ i0,_,_,rfl,qB _ i1,_,_,rfl,qB _ i2,rfl⟩
theorem Ip:∀ j,j < 64→(Lib.deBruijn64tab.map Int.ofNat).getD j 0=((Lib.deBruijn64tab.getD j 0:Nat):Int):=by decide +kernel
theorem G2 {W : World} {rest : List (String × DataW Unit)} (h : laidMet Tryz.prog (("math/bits.deBruijn64tab", Rows.laid_math_bits_deBruijn64tab) :: rest) W) : tzGk (Hp.of W) := by
 have hg : Tryz.prog.globalNamed "math/bits.deBruijn64tab" = some 0 := by kernel_rfl
 have hT : Lib.TabIs Tryz.prog W "math/bits.deBruijn64tab" .u8 (Lib.deBruijn64tab.map Int.ofNat) :=
   Lib.tabIs_of_head (t:=219) (e:=5) (n:=64) hg (by kernel_rfl) (by kernel_rfl) (by kernel_rfl) (by kernel_rfl) (by kernel_rfl) h
 intro j hj
 rw [← Ip j hj]
 exact zw (hT.cell hg j (by simpa [Lib.deBruijn64tab] using hj))
end
end Go.Proofs.YtaajcbeoafhmaaaGreatDoor
namespace Go.Proofs.YtaajcbeoafhmaaaGreatDoor.seedTellsFrame
set_option maxRecDepth 40000
open Go.ChangeShapes Go.WideShapes Go.ChangeAt Go.RowKit
theorem own:ownKnob Tryz.prog.godebug=none:=by kernel_rfl
theorem zn (H:Type) (enc:TypeId×Value→H) (W:World) (base:Nat) (args:Array Value) (ds gs:List (DataW H)) (before:List MemPlace)
   (hval:∀ (j:Nat) t v,Tryz.f3.params[j]? = some t→args[j]? = some v→Value.okWide Tryz.prog W .any base t v)
   (hW:DataW.Whole enc Tryz.prog Tryz.f3.params.toList Rows.seedTellsSpec.vars false W args.toList ds gs before) (vt:List TypeId) (hwt:(DataW.weightsEach Tryz.prog (Tryz.f3.params.toList++vt) (ds++gs)).all (·≤reachBytes)=true) (hgk:tzGk (Hp.of W)) :
   Calls Tryz.prog 3 args W fun e W'=>∃ v,e = .returned v∧Rows.seedTellsSpec.post enc Tryz.prog Tryz.f3 false true false false W args v W':=by
 have hW':=hW
 obtain ⟨p,q,hA0,hV,rfl,hfz,hnd⟩:=hW
 have hA:DataW.TrodAll enc Tryz.prog W 0 (fun _=>true) true Tryz.f3.params.toList args.toList ds p:=hA0
 rw [Tryz.params3] at hA hval hwt
 obtain ⟨v0,vs0,d0,ds0,p0,q0,hargs,rfl,rfl,h0,r0⟩:=trodAll_cons hA
 obtain ⟨v1,vs1,d1,ds1,p1,q1,rfl,rfl,rfl,h1,r1⟩:=trodAll_cons r0
 obtain ⟨v2,vs2,d2,ds2,p2,q2,rfl,rfl,rfl,h2,r2⟩:=trodAll_cons r1
 obtain ⟨rfl,rfl,rfl⟩:=trodAll_nil r2
 obtain rfl:args = #[v0,v1,v2]:=by cases args; simp_all
 refine (Di enc W base h0 h1 h2 (hval 0 _ v0 rfl rfl) (hval 1 _ v1 rfl rfl) (hval 2 _ v2 rfl rfl) hgk (iA _ _ hwt 0 _ _ rfl rfl) (iA _ _ hwt 1 _ _ rfl rfl) (iA _ _ hwt 2 _ _ rfl rfl)).mono fun e W' ⟨he,hb⟩=>?_
 subst he
 exact ⟨_,rfl,F2 (tb:=_) rfl hW' rfl rfl (by kernel_rfl) (by kernel_rfl) (of_decide_eq_true (by kernel_rfl)) hb⟩
noncomputable def Bg (os:Os):World:=World.laidAll Tryz.prog os Rows.seedTellsRow.laid
theorem vH (os:Os) {H:Type} (enc:TypeId×Value→H):∃ x,DataW.whole enc Tryz.prog ((Bg os).forCall (fun _ _=>0) ⟨#[],#[.agg #[.int .i64 0,.int .i64 0,.slice none 0 0,.slice none 0 0,.slice none 0 0,.slice none 0 0,.slice none 0 0],.int .i64 0,.int .i64 0],[]⟩).memory Tryz.f3.params.toList Rows.seedTellsSpec.vars false (#[.agg #[.int .i64 0,.int .i64 0,.slice none 0 0,.slice none 0 0,.slice none 0 0,.slice none 0 0,.slice none 0 0],.int .i64 0,.int .i64 0]:Array Value).toList 8=some x :=
 Option.isSome_iff_exists.1 (by kernel_rfl)
set_option maxRecDepth 100000 in
theorem Ij (os:Os) (started:os.Started) (H:Type) (enc:TypeId×Value→H) (F:Stop.Interp) :
   ReturnsInHanded {} Tryz.checked os 3 .any ((OpenSpec.ofChange Rows.seedTellsSpec).preRow enc Tryz.prog Tryz.f3 Rows.seedTellsRow.domain false Rows.seedTellsRow.laid) (((OpenSpec.ofChange Rows.seedTellsSpec).at F).post enc Tryz.prog Tryz.f3 false true false false):=by
 obtain ⟨x,hx⟩:=vH os enc
 refine returnsInHanded_of_row (C:=Tryz.checked) (s:=OpenSpec.ofChange Rows.seedTellsSpec) own started (by kernel_rfl) Tryz.func3
   ⟨Bg os,fun _ _=>0,⟨#[],#[.agg #[.int .i64 0,.int .i64 0,.slice none 0 0,.slice none 0 0,.slice none 0 0,.slice none 0 0,.slice none 0 0],.int .i64 0,.int .i64 0],[]⟩,World.laidAll_os _ _ _,World.shaped_of_ZipB (by kernel_rfl) (by kernel_rfl),rfl,(Input.okWide_of_okWideB (by kernel_rfl)).2,
     OpenSpec.preRow_of_cond 8 hx (by kernel_rfl) (fun k hk=>by cases hk) (by kernel_rfl) (by rw [MakeChecks.laidMetH_plain _ _ _ (by kernel_rfl)]; exact laidMet_laidAll _ (by kernel_rfl) (by kernel_rfl)),
     by simp only [Assume.holds]; exact ⟨by simp,by simp,by simp,by simp,by simp⟩⟩ ?_
 intro W base args ds gs before hval hW _ _ hwt hL _ _
 exact zn H enc W base args ds gs before hval hW _ hwt (G2 (rest:=[]) (by rw [MakeChecks.laidMetH_plain _ _ _ (by kernel_rfl)] at hL; exact hL))
theorem I5:Rows.SeedTellsSaid :=
 OpenClaim.holds_of_cond 3 Tryz.f3 rfl rfl rfl rfl rfl rfl rfl ⟨rfl,rfl,rfl,rfl,rfl⟩ rfl rfl rfl rfl rfl (by kernel_rfl) Tryz.func3 (by kernel_rfl)
   (of_decide_eq_true (by kernel_rfl)) (by unfold Func.isWrapper; first | (rw [if_pos (by decide +kernel)]; kernel_rfl) | (rw [if_neg (by decide +kernel)]; exact ⟨rfl,rfl⟩))
   (fun os started H enc _ F=>by rw [OpenClaim.pre_eq_preRow]; exact Ij os started H enc F)
theorem card:Rows.SeedTellsCardSaid :=
 Claim7.holds_tied_plain_at .later [] [.data] true (true, "69afacfbd48a1b6ddf6b7bf80203764013ec63c3f8ad2624e5f3bc871cbaa802") false I5 (fun _ h => by cases h) (by kernel_rfl) (fun _ h => by cases h) seedTells_row_tie rfl ⟨rfl, rfl⟩ (by kernel_rfl) rfl
   (fun f fn hf hfn=>by
     obtain rfl : f = 3 := Option.some.inj ((show Tryz.prog.funcNamed "easement/easementlaw28.SeedTells" = some 3 by kernel_rfl).symm.trans hf) |>.symm
     obtain rfl:fn=Tryz.f3:=(Option.some.inj (Tryz.func3.symm.trans hfn)).symm
     exact ⟨by kernel_rfl,fun j t ht=>by
       rw [Tryz.params3] at ht
       have hm:t∈[30,3,3]:=by simpa using Array.mem_of_getElem? ht
       have hall:([30,3,3].all fun u=>!Tryz.prog.wantsStandIn u)=true:=by kernel_rfl
       exact (show Tryz.prog.wantsStandIn t=false by simpa using List.all_eq_true.1 hall t hm)⟩)
   (by kernel_rfl)
end Go.Proofs.YtaajcbeoafhmaaaGreatDoor.seedTellsFrame

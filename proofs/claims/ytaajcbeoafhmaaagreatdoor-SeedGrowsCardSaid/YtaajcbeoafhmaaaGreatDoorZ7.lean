/- 'easement/easementlaw28.SeedGrows' returns true for every input, and each argument zM afterwards as it read before: the row's frame round the walk. -/
import Derived.Test.YtaajcbeoafhmaaaGreatDoorZ6
import Derived.Test.YtaajcbeoafhmaaaGreatDoorRows
import Derived.Lib.LaidTab
import Derived.Test.YtaajcbeoafhmaaaGreatDoorCards
import Derived.Test.YtaajcbeoafhmaaaGreatDoorTie
import Derived.Lay
import Derived.SevenTiedAt
namespace Go.Proofs.YtaajcbeoafhmaaaGreatDoor
noncomputable section
set_option linter.unusedVariables false
set_option linter.unnecessarySimpa false
set_option linter.unusedSimpArgs false
set_option maxRecDepth 20000
open Go.RowKit
section
abbrev Mv:=Option (Int×Option (List Int)×Option (Int×List Int))
theorem o9 {b:Bo} (hN:0 < NB b):(vck b).1=0:=by
 by_cases q:(vck b).1=0
 . exact q
 . exfalso
   have:xs b=[]:=by unfold xs; rw [if_neg q]
   have e:NB b=0:=by show bg (xs b) (xs b).length=0; rw [this]; rfl
   omega
theorem E9 {b:Bo} (h:(vck b).1=0):1≤b.1∧b.1≤b.2.1∧b.2.1≤65536:=by
 unfold vck at h
 have hh:=(cB h).1
 unfold iX at hh
 by_cases c:b.1 < 1∨b.2.1 < b.1
 . rw [if_pos c] at hh; simp at hh
 . rw [if_neg c] at hh
   by_cases d:65536 < b.2.1
   . rw [if_pos d] at hh; simp at hh
   . omega
theorem GN {b:Bo} (h:(vck b).1=0):∀ t∈b.2.2.2.1,∀ s∈t,0≤s.1∧s.1 < b.2.1:=by
 unfold vck at h
 have hl:=(cB (cB (cB h).2).2).1
 unfold d6 at hl
 by_cases c:b.2.2.2.1=[]
 . intro t ht; rw [c] at ht; cases ht
 . rw [if_neg c] at hl
   have key:∀ t:List St,rck b.2.1 t=0→∀ s∈t,0≤s.1∧s.1 < b.2.1:=fun t ht s hs=>by
     unfold rck at ht
     by_cases c1:16 < t.length
     . rw [if_pos c1] at ht; cases ht
     . rw [if_neg c1] at ht
       by_cases c2:rin b.2.1 t=true
       . rw [if_pos c2] at ht; cases ht
       . unfold rin at c2
         rw [Bool.not_eq_true,List.any_eq_false] at c2
         have:=c2 s hs
         simp at this
         omega
   cases hq:b.2.2.2.1.findIdx? (fun t=>!decide (rck b.2.1 t=0)) with
   | none =>
     intro t ht
     have:=List.findIdx?_eq_none_iff.1 hq t ht
     simp at this
     exact key t this
   | some k =>
     exfalso
     rw [hq] at hl
     obtain ⟨hk,hcc,_⟩:=List.findIdx?_eq_some_iff_getElem.1 hq
     have e:b.2.2.2.1.getD k []=b.2.2.2.1[k]:=by simp [List.getD,hk]
     simp only [e] at hl
     simp [hl] at hcc
def rgs (xa:List St):List Int:=Lib.compact ((xa.map (·.1)).mergeSort fun x y=>decide (x≤y))
theorem B1 (xa:List St):(rgs xa).Pairwise (· < ·)∧∀ a,a∈rgs xa↔a∈xa.map (·.1):=by
 have hs:((xa.map (·.1)).mergeSort fun x y=>decide (x≤y)).Pairwise (·≤·):=by
   have:=List.pairwise_mergeSort (le:=fun x y:Int=>decide (x≤y)) (fun a b c h1 h2=>by simp at *; omega) (fun a b=>by simp; omega) (xa.map (·.1))
   exact this.imp (by simp)
 have h:=mW hs
 exact ⟨h.1,fun a=>(h.2 a).trans List.mem_mergeSort⟩
theorem Fw (xa:List St):(rgs xa).length≤xa.length:=by
 have:=Lib.compact_length_le ((xa.map (·.1)).mergeSort fun x y=>decide (x≤y))
 simpa [rgs] using this
theorem Ba (xa:List St) (hn:xa.length≤1000000):fI xa=some (rgs xa):=by
 have hl:=aQ (body:=jU xa) (fun k:Nat=>((xa.take k).map (·.1),(k:Int))) xa.length (b:=xa.map (·.1)) (fun k hk=>by
     unfold jU
     dsimp only
     rw [dlt hk,cond_true,ah hk,Option.bind_some,aM (by simp; omega),Option.bind_some,aq hk (by omega),aO hk,List.map_append]; rfl) (by
     unfold jU
     dsimp only
     rw [dge (Nat.lt_irrefl _),cond_false,List.take_length])
 unfold fI
 rw [show loop (jU xa) ([],0)=_ from hl,Option.bind_some]
 unfold srt
 rw [if_pos (by simp; omega)]; rfl
def Aj (t:List St) (r:Nat):Prop:=∃ s∈t,s.1=(r:Int)
def sdM (b:Bo) (u m r:Nat) (x:Int):Prop:=(r < u∧(0≤x∧x < ((NB b:Nat):Int)∨x=((NB b:Nat):Int) + (r:Int)))∨∃ k,k < m∧∃ t,b.2.2.2.1[k]? = some t∧Aj t r∧0≤x∧lvB b k x.toNat=true
def bO (b:Bo) (u m r:Nat) (s:Mv):Prop:=∃ f w L,s=some (((NB b + u:Nat):Int),f,w)∧Mx (NB b + u) f w L∧∀ x,x∈L↔sdM b u m r x
theorem nP {n:Nat} (h:n≤1048576):en (n:Int)=some (.inr ((n:Int),some [])):=by
 unfold en
 rw [CB,if_neg (by omega),if_neg (by omega)]; rfl
theorem oz {n:Nat} (h:n≤1048576):Mx n (some []) none []:=Gn h
section
variable {b:Bo} {u R:Nat}
theorem D7 {N S r:Nat} {fe:Option (List Int)} {we:Option (Int×List Int)} {Le:List Int} (hS:S≤1048576) (he:Mx S fe we Le) (hLe:∀ x,x∈Le↔0≤x∧x < (N:Int)) (hr:N + r < S) :
   ∃ f1 w1 f2 w2 t1 t2,ed (S:Int) (some []) none (S:Int) fe we=some (t1,f1,w1,fe,we)∧cG ((N + r:Nat):Int) (S:Int) f1 w1=some (t2,f2,w2)∧∃ L,Mx S f2 w2 L∧∀ x,x∈L↔(0≤x∧x < (N:Int))∨x=(N:Int) + (r:Int):=by
 obtain ⟨f1,w1,g1,g2,_⟩:=wq (oz hS) he
 obtain ⟨f2,w2,g3,g4,_⟩:=nC g2 ((N + r:Nat):Int)
 refine ⟨f1,w1,f2,w2,_,_,g1,g3,_,g4,fun x=>?_⟩
 rw [dm,n8,hLe]
 constructor
 . rintro ((h | h) | h)
   . cases h
   . exact .inl h.1
   . exact .inr (by omega)
 . rintro (h | h)
   . exact .inl (.inr ⟨h,by omega⟩)
   . exact .inr (by omega)
theorem Ic (hU:b.1=(u:Int)) (hR:b.2.1=(R:Int)) (huR:u≤R) (hR2:R≤65536) (hN:NB b≤32) {fe:Option (List Int)} {we:Option (Int×List Int)} {Le:List Int} (he:Mx (NB b + u) fe we Le) (hLe:∀ x,x∈Le↔0≤x∧x < ((NB b:Nat):Int)) :
   ∃ V,loop (gX b ((NB b:Nat):Int) (((NB b + u:Nat):Nat):Int) (List.replicate R none)) (0,fe,we,List.replicate R none)=some V∧V.length=R∧∀ r s,V[r]? = some s→bO b u 0 r s:=by
 have hS:NB b + u≤1048576:=by omega
 have hsz:IntKind.wrap .i64 (((NB b:Nat):Int) + b.1)=((NB b + u:Nat):Int):=by rw [hU,w64 (by omega) (by omega)]; omega
 obtain ⟨V,h1,h2⟩:=b0 (body:=gX b ((NB b:Nat):Int) (((NB b + u:Nat):Nat):Int) (List.replicate R none)) (fun s=>∃ k:Nat,k≤R∧s.1=(k:Int)∧s.2.1=fe∧s.2.2.1=we∧s.2.2.2.length=R∧∀ r x,s.2.2.2[r]? = some x→(r < k→bO b u 0 r x)∧(k≤r→x=none)) (fun s=>R - s.1.toNat) (Q:=fun V=>V.length=R∧∀ r s,V[r]? = some s→bO b u 0 r s) (fun s hs=>by
   obtain ⟨i,f,w,V⟩:=s
   obtain ⟨k,hk,rfl,rfl,rfl,hlen,hV⟩:=hs
   dsimp only at hlen hV ⊢
   by_cases hc:k < R
   . left
     have hkV:k < V.length:=by omega
     have e0:aa V (k:Int)=some V[k]:=ah hkV
     have hw1:IntKind.wrap .i64 ((k:Int) + 1)=((k + 1:Nat):Int):=aq hc (by omega)
     have nxt:∀ x,bO b u 0 k x→∀ r y,(V.set k x)[r]? = some y→(r < k + 1→bO b u 0 r y)∧(k + 1≤r→y=none):=fun x hx r y hy=>by
       by_cases e:r=k
       . subst e
         rw [List.getElem?_set_self hkV] at hy
         obtain rfl:=Option.some.inj hy
         exact ⟨fun _=>hx,fun h=>by omega⟩
       . rw [List.getElem?_set_ne (fun h=>e h.symm)] at hy
         exact ⟨fun h=>(hV r y hy).1 (by omega),fun h=>(hV r y hy).2 (by omega)⟩
     have gs:∀ x:Mv,aa (V.set k x) (k:Int)=some x:=fun x=>by rw [ah (by simpa using hkV)]; simp
     by_cases hcu:k < u
     . obtain ⟨f1,w1,f2,w2,t1,t2,g1,g2,L,g3,g4⟩:=D7 (r:=k) hS he hLe (by omega)
       have hwk:IntKind.wrap .i64 (((NB b:Nat):Int) + (k:Int))=((NB b + k:Nat):Int):=by rw [w64 (by omega) (by omega)]; omega
       refine ⟨(((k + 1:Nat):Int),f,w,V.set k (some (((NB b + u:Nat):Int),f2,w2))),?_,⟨k + 1,hc,rfl,rfl,rfl,by simpa using hlen,nxt _ ⟨f2,w2,L,rfl,g3,fun x=>?_⟩⟩,by dsimp only; omega⟩
       . unfold gX
         dsimp only
         rw [List.length_replicate,dlt hc,cond_true,e0,Option.bind_some,hsz,nP hS]
         simp only [Option.bind_some,fW,Int.toNat_natCast]
         rw [hU,dlt hcu,cond_true]
         simp only [gs,Option.bind_some,g1,List.set_set,hwk,g2,hw1,fW]
       . rw [g4]
         unfold sdM
         constructor
         . exact fun h => .inl ⟨hcu,h⟩
         . rintro (h | ⟨k',h,_⟩)
           . exact h.2
           . omega
     . refine ⟨(((k + 1:Nat):Int),f,w,V.set k (some (((NB b + u:Nat):Int),some [],none))),?_,⟨k + 1,hc,rfl,rfl,rfl,by simpa using hlen,nxt _ ⟨some [],none,[],rfl,oz hS,fun x=>?_⟩⟩,by dsimp only; omega⟩
       . unfold gX
         dsimp only
         rw [List.length_replicate,dlt hc,cond_true,e0,Option.bind_some,hsz,nP hS]
         simp only [Option.bind_some,fW,Int.toNat_natCast]
         rw [hU,dge hcu,cond_false,hw1]
       . unfold sdM
         simp only [List.not_mem_nil,false_iff]
         rintro (h | ⟨k',h,_⟩)
         . omega
         . omega
   . obtain rfl:k=R:=by omega
     refine .inr ⟨V,?_,hlen,fun r x hx=>(hV r x hx).1 ?_⟩
     . unfold gX
       dsimp only
       rw [List.length_replicate,dge hc,cond_false]
     . have:=(List.getElem?_eq_some_iff.1 hx).1; omega) (s:=(0,fe,we,List.replicate R none)) ⟨0,Nat.zero_le _,rfl,rfl,rfl,by simp,fun r x hx=>⟨fun h=>by omega,fun _=>by rw [List.getElem?_replicate] at hx; split at hx <;> simp at hx; exact hx.symm⟩⟩
 exact ⟨V,h1,h2⟩
theorem Dn {S:Nat} (hS:S≤1048576) {A:List Nat} (hA:∀ n∈A,n < S) (hAl:A.length≤1000000):∃ f w L,loop (jV (S:Int) (li A)) (0,some [],none)=some (f,w)∧Mx S f w L∧∀ x,x∈L↔x∈li A:=by
 obtain ⟨⟨f,w⟩,h1,L,h2,h3⟩:=b0 (body:=jV (S:Int) (li A)) (fun s=>∃ (k:Nat) (L:List Int),k≤A.length∧s.1=(k:Int)∧Mx S s.2.1 s.2.2 L∧∀ x,x∈L↔x∈li (A.take k)) (fun s=>A.length - s.1.toNat) (Q:=fun r=>∃ L,Mx S r.1 r.2 L∧∀ x,x∈L↔x∈li A) (fun s hs=>by
   obtain ⟨i,f,w⟩:=s
   obtain ⟨k,L,hk,rfl,hm,hL⟩:=hs
   dsimp only at hm ⊢
   by_cases hc:k < A.length
   . obtain ⟨f',w',g1,g2,_⟩:=nC hm ((A[k]:Nat):Int)
     have:=hA _ (List.getElem_mem hc)
     refine .inl ⟨(((k + 1:Nat):Int),f',w'),?_,⟨k + 1,_,hc,rfl,g2,fun x=>?_⟩,by dsimp only; omega⟩
     . unfold jV
       simp only [bT,dlt hc,cond_true,iF hc,Option.bind_some,g1,aq hc (by omega:A.length≤9223372036854775807)]
     . rw [dm,hL,aO hc]
       have e:li (A.take k++[A[k]])=li (A.take k)++[((A[k]:Nat):Int)]:=by unfold li; rw [List.map_append]; rfl
       rw [e,List.mem_append,List.mem_singleton]
       constructor
       . rintro (h | h)
         . exact .inl h
         . exact .inr h.1
       . rintro (h | h)
         . exact .inl h
         . exact .inr ⟨h,by omega,by omega⟩
   . obtain rfl:k=A.length:=by omega
     refine .inr ⟨(f,w),?_,L,hm,fun x=>by rw [hL,List.take_length]⟩
     unfold jV
     simp only [bT,dge hc,cond_false]) (s:=(0,some [],none)) ⟨0,[],Nat.zero_le _,rfl,oz hS,fun x=>by simp [li]⟩
 exact ⟨f,w,L,h1,h2,h3⟩
theorem DV {m:Nat} {t:List St} (hR2:R≤65536) (ht:b.2.2.2.1[m]? = some t) (hin:∀ s∈t,0≤s.1∧s.1 < (R:Int)) (htl:t.length≤1000) {fs:Option (List Int)} {ws:Option (Int×List Int)} {M:List Int} (hM:Mx (NB b + u) fs ws M)
   (hMx:∀ x,x∈M↔0≤x∧lvB b m x.toNat=true) {V:List Mv} (hV:V.length=R) (hVs:∀ r s,V[r]? = some s→bO b u m r s) :
   ∃ V',loop (jX (((NB b + u:Nat):Nat):Int) (rgs t)) (0,V,fs,ws)=some V'∧V'.length=R∧∀ r s,V'[r]? = some s→bO b u (m + 1) r s:=by
 obtain ⟨hrs,hrm⟩:=B1 t
 have hrl:=Fw t
 have step:∀ r:Nat,¬ Aj t r→∀ s,bO b u m r s→bO b u (m + 1) r s:=fun r hn s ⟨f,w,L,e,h1,h2⟩=>⟨f,w,L,e,h1,fun x=>by
   rw [h2]
   unfold sdM
   constructor
   . rintro (h | ⟨k,hk,h⟩)
     . exact .inl h
     . exact .inr ⟨k,by omega,h⟩
   . rintro (h | ⟨k,hk,t',e1,e2,h⟩)
     . exact .inl h
     . by_cases e:k=m
       . subst e; rw [ht] at e1; obtain rfl:=Option.some.inj e1; exact absurd e2 hn
       . exact .inr ⟨k,by omega,t',e1,e2,h⟩⟩
 obtain ⟨V', h1, h2⟩ := b0 (body := jX (((NB b + u : Nat) : Nat) : Int) (rgs t)) (fun s => ∃ j : Nat, j ≤ (rgs t).length ∧ s.1 = (j : Int) ∧ s.2.1.length = R ∧ s.2.2.1 = fs ∧ s.2.2.2 = ws ∧ ∀ (r : Nat) (x : Mv), s.2.1[r]? = some x → if (r : Int) ∈ (rgs t).take j then bO b u (m + 1) r x else bO b u m r x) (fun s => (rgs t).length - s.1.toNat) (Q := fun V' => V'.length = R ∧ ∀ r s, V'[r]? = some s → bO b u (m + 1) r s) (fun s hs => by
   obtain ⟨i,W,f0,w0⟩:=s
   obtain ⟨j,hj,rfl,hlen,rfl,rfl,hW⟩:=hs
   dsimp only at hlen hW ⊢
   by_cases hc:j < (rgs t).length
   . left
     have hmem:=(hrm _).1 (List.getElem_mem hc)
     obtain ⟨s0,hs0,e0⟩:=List.mem_map.1 hmem
     have hb:=hin s0 hs0
     rw [e0] at hb
     obtain ⟨r,hr⟩:=Int.eq_ofNat_of_zero_le hb.1
     have hrW:r < W.length:=by omega
     have hnot:(r:Int)∉(rgs t).take j:=fun hm=>by
       have hnd:(rgs t).Nodup:=hrs.imp (fun h=>by omega)
       have h2:((rgs t).take (j + 1)).Nodup:=hnd.sublist (List.take_sublist _ _)
       rw [aO hc,List.nodup_append] at h2
       exact h2.2.2 _ hm _ (List.mem_singleton.2 hr.symm) rfl
     have hWr:=hW r W[r] (List.getElem?_eq_getElem hrW)
     rw [if_neg hnot] at hWr
     obtain ⟨f,w,L,e1,g1,g2⟩:=hWr
     obtain ⟨f',w',g3,g4,_⟩:=wq g1 hM
     have gW:aa W ((r:Nat):Int)=some W[r]:=ah hrW
     refine ⟨(((j + 1:Nat):Int),W.set r (some (((NB b + u:Nat):Int),f',w')),f0,w0),?_,⟨j + 1,hc,rfl,by simpa using hlen,rfl,rfl,fun r2 x hx=>?_⟩,by dsimp only; omega⟩
     . unfold jX
       dsimp only
       rw [dlt hc,cond_true,ah hc,Option.bind_some,hr]
       simp only [gW,Option.bind_some,fW,e1,g3,Int.toNat_natCast,aq hc (by omega:(rgs t).length≤9223372036854775807)]
     . rw [aO hc]
       by_cases e:r2=r
       . subst e
         rw [List.getElem?_set_self hrW] at hx
         obtain rfl:=Option.some.inj hx
         rw [if_pos (List.mem_append_right _ (List.mem_singleton.2 hr.symm))]
         refine ⟨f',w',_,rfl,g4,fun x=>?_⟩
         rw [n8,g2,hMx]
         unfold sdM
         constructor
         . rintro ((h | ⟨k,hk,h⟩) | h)
           . exact .inl h
           . exact .inr ⟨k,by omega,h⟩
           . exact .inr ⟨m,by omega,t,ht,⟨s0,hs0,by rw [e0,hr]⟩,h.1⟩
         . rintro (h | ⟨k,hk,t',q1,q2,h⟩)
           . exact .inl (.inl h)
           . by_cases e:k=m
             . subst e
               have:=oG h.2
               exact .inr ⟨h,by omega⟩
             . exact .inl (.inr ⟨k,by omega,t',q1,q2,h⟩)
       . rw [List.getElem?_set_ne (fun h=>e h.symm)] at hx
         have:=hW r2 x hx
         have hiff:(r2:Int)∈(rgs t).take j++[(rgs t)[j]]↔(r2:Int)∈(rgs t).take j:=by
           rw [List.mem_append,List.mem_singleton,hr]
           exact ⟨fun h=>h.elim id (fun h=>absurd (by exact_mod_cast h) e),.inl⟩
         by_cases q:(r2:Int)∈(rgs t).take j
         . rw [if_pos q] at this; rw [if_pos (hiff.2 q)]; exact this
         . rw [if_neg q] at this; rw [if_neg (fun h=>q (hiff.1 h))]; exact this
   . obtain rfl:j=(rgs t).length:=by omega
     refine .inr ⟨W,?_,hlen,fun r x hx=>?_⟩
     . unfold jX
       dsimp only
       rw [dge hc,cond_false]
     . have:=hW r x hx
       rw [List.take_length] at this
       by_cases q:(r:Int)∈rgs t
       . rw [if_pos q] at this; exact this
       . rw [if_neg q] at this
         refine step r (fun ⟨s,hs,e⟩=>q ((hrm _).2 (List.mem_map.2 ⟨s,hs,e⟩))) x this) (s:=(0,V,fs,ws)) ⟨0,Nat.zero_le _,rfl,hV,rfl,rfl,fun r x hx=>by simpa using hVs r x hx⟩
 exact ⟨V',h1,h2⟩
theorem Ip {C:List Sw} (hC:CsOk b C) (hN0:0 < NB b) (hU:b.1=(u:Int)) (huR:u≤R) (hR2:R≤65536) (hN:NB b≤32) (hL:b.2.2.2.1.length≤10) (hloc:∀ t∈b.2.2.2.1,t.length≤20) (hin:∀ t∈b.2.2.2.1,∀ s∈t,0≤s.1∧s.1 < (R:Int)) {V:List Mv} (hV:V.length=R) (hVs:∀ r s,V[r]? = some s→bO b u 0 r s) :
   ∃ V',loop (jS b (some ((NB b:Int),C)) ((NB b:Nat):Int)) (0,V)=some V'∧V'.length=R∧∀ r s,V'[r]? = some s→bO b u b.2.2.2.1.length r s:=by
 have hS:NB b + u≤1048576:=by omega
 have hsz:IntKind.wrap .i64 (((NB b:Nat):Int) + b.1)=((NB b + u:Nat):Int):=by rw [hU,w64 (by omega) (by omega)]; omega
 have hCl:=hC.len hN0
 obtain ⟨V',h1,h2⟩:=b0 (body:=jS b (some ((NB b:Int),C)) ((NB b:Nat):Int)) (fun s=>∃ k:Nat,k≤b.2.2.2.1.length∧s.1=(k:Int)∧s.2.length=R∧∀ r x,s.2[r]? = some x→bO b u k r x) (fun s=>b.2.2.2.1.length - s.1.toNat) (Q:=fun V'=>V'.length=R∧∀ r s,V'[r]? = some s→bO b u b.2.2.2.1.length r s) (fun s hs=>by
   obtain ⟨i,W⟩:=s
   obtain ⟨k,hk,rfl,hlen,hW⟩:=hs
   dsimp only at hlen hW ⊢
   by_cases hc:k < b.2.2.2.1.length
   . left
     have hmem:=List.getElem_mem hc
     have hA:∀ n∈lvN b k,n < NB b + u:=fun n hn=>by
       unfold lvN at hn
       have:=List.mem_range.1 (List.mem_filter.1 hn).1
       omega
     obtain ⟨fs,ws,M,g1,g2,g3⟩:=Dn hS hA (Nat.le_trans (Fp b k) (by omega))
     have hM:∀ x,x∈M↔0≤x∧lvB b k x.toNat=true:=fun x=>by
       rw [g3]
       unfold li lvN
       rw [List.mem_map]
       constructor
       . rintro ⟨n,hn,rfl⟩
         exact ⟨Int.natCast_nonneg n,by rw [Int.toNat_natCast]; exact (List.mem_filter.1 hn).2⟩
       . rintro ⟨h0,h⟩
         exact ⟨x.toNat,List.mem_filter.2 ⟨List.mem_range.2 (oG h),h⟩,Int.toNat_of_nonneg h0⟩
     obtain ⟨W',g4,g5,g6⟩:=DV hR2 (List.getElem?_eq_getElem hc) (hin _ hmem) (Nat.le_trans (hloc _ hmem) (by decide)) g2 hM hlen hW
     refine ⟨(((k + 1:Nat):Int),W'),?_,⟨k + 1,hc,rfl,g5,g6⟩,by dsimp only; omega⟩
     unfold jS
     dsimp only
     rw [dlt hc,cond_true,ah hc,Option.bind_some,hsz,nP hS]
     simp only [Option.bind_some]
     rw [BR hC (by omega)]
     simp only [Option.bind_some]
     rw [g1]
     simp only [Option.bind_some]
     rw [Ba _ (Nat.le_trans (hloc _ hmem) (by decide))]
     simp only [Option.bind_some,g4,aq hc (by omega:b.2.2.2.1.length≤9223372036854775807)]
   . obtain rfl:k=b.2.2.2.1.length:=by omega
     refine .inr ⟨W,?_,hlen,hW⟩
     unfold jS
     dsimp only
     rw [dge hc,cond_false]) (s:=(0,V)) ⟨0,Nat.zero_le _,rfl,hV,hVs⟩
 exact ⟨V',h1,h2⟩
end
theorem rD {b:Bo} (h:Sm b):∃ V:List Mv,de b=some V∧(NB b=0→V=[])∧(0 < NB b→∃ u R:Nat,b.1=(u:Int)∧b.2.1=(R:Int)∧1≤u∧u≤R∧R≤65536∧V.length=R∧∀ r s,V[r]? = some s→bO b u b.2.2.2.1.length r s):=by
 obtain ⟨C,h1,hC⟩:=CT h
 have hb:NB b≤32:=(kJ h (Nat.le_refl _)).1
 unfold de
 rw [show kh b=_ from h1,Option.bind_some,Fu,Option.bind_some]
 by_cases h0:NB b=0
 . refine ⟨[],?_,fun _=>rfl,fun h=>by omega⟩
   rw [decide_eq_true (show ((NB b:Nat):Int)=0 by omega),cond_true]
 . have hN0:0 < NB b:=by omega
   have hwf:=o9 hN0
   obtain ⟨w1,w2,w3⟩:=E9 hwf
   have hloc:=GN hwf
   obtain ⟨u,hU⟩:=Int.eq_ofNat_of_zero_le (show 0≤b.1 by omega)
   obtain ⟨R,hR⟩:=Int.eq_ofNat_of_zero_le (show 0≤b.2.1 by omega)
   have hS:NB b + u≤1048576:=by omega
   have hsz:IntKind.wrap .i64 (((NB b:Nat):Int) + b.1)=((NB b + u:Nat):Int):=by rw [hU,w64 (by omega) (by omega)]; omega
   obtain ⟨fe,we,Le,g1,g2,_,g3⟩:=Cc (oz hS) 0 ((NB b:Nat):Int)
   have hLe:∀ x,x∈Le↔0≤x∧x < ((NB b:Nat):Int):=fun x=>by
     rw [g3]
     constructor
     . rintro (h | h)
       . cases h
       . omega
     . exact fun h => .inr (by omega)
   obtain ⟨V1,s1,s2,s3⟩:=Ic hU hR (by omega) (by omega) hb g2 hLe
   obtain ⟨V2,t1,t2,t3⟩:=Ip hC hN0 hU (by omega) (by omega) hb h.locals h.loc (fun t ht s hs=>by have:=hloc t ht s hs; omega) s2 s3
   refine ⟨V2,?_,fun h=>absurd h h0,fun _=>⟨u,R,hU,hR,by omega,by omega,by omega,t2,t3⟩⟩
   rw [decide_eq_false (show ¬ ((NB b:Nat):Int)=0 by omega),cond_false,hsz,nP hS,hR,s9 _ _ (by omega)]
   simp only [Option.bind_some,bf,g1]
   rw [s1]
   simp only [Option.bind_some]
   rw [t1]; rfl
end
section
theorem s8 {n:Nat} {f:Option (List Int)} {b:Option (Int×List Int)} {L:List Int} (h:Mx n f b L):gT (some ((n:Int),f,b))=some L:=by
 have hn:=h.hn
 unfold gT
 rw [show qk (some ((n:Int),f,b))=some () from rfl,Option.bind_some]
 unfold qg
 rw [ky]
 rcases h.st with ⟨rfl,rfl,h8⟩ | ⟨w,rfl,rfl,hw⟩
 . have hsp:=ll hn h.rs h.bd (by omega)
   have at0:bS (some L) 0=some (L.getD 0 0,decide (0 < L.length)):=gf 0
   have hlp:loop (jJ (some L)) (L.getD 0 0,decide (0 < L.length),([]:List Int))=some L:=by
     have:=aQ (body:=jJ (some L)) (fun k:Nat=>(L.getD k 0,decide (k < L.length),L.take k)) L.length (b:=L) ?_ ?_
     . exact this
     . intro k hk
       unfold jJ
       have hg:L.getD k 0=L[k]:=by simp [hk]
       have ha:app (L.take k) [L[k]]=some (L.take (k + 1)):=by
         rw [aM (by simp; omega),aO hk]
       simp only [decide_eq_true hk,cond_true,hg,ha,Option.bind_some,rn hsp hk,gf]
     . unfold jJ
       simp
   simp only [Option.isSome_none,cond_false,Option.bind_some,Option.isNone_some,qh,at0,hlp]
 . have hl:=BV hw (body:=lY (some ((n:Int),w))) (fun c k hk=>by
     have hk2:=fT hw.ds hk
     unfold lY
     have h0:decide (0≤(k:Int))=true:=by simp
     simp only [h0,cond_true,w64 (x:=(k:Int) + 1) (by omega) (by omega)]) (fun c=>by
     unfold lY
     rfl)
   obtain ⟨r,g1,g2⟩:=hl
   simp only [Option.isSome_some,cond_true,Option.bind_some,gY,g1,g2]
section
variable {b:Bo}
theorem Gw (h:Sm b) {β:Type} (F:Int→Option β):((dg b).bind fun p=>(db p).bind F)=F ((NB b:Nat):Int):=by
 rw [show dg b=_ from qS h]; rfl
theorem Dr (h:Sm b):ku b=some (if NB b=0 then 0 else IntKind.wrap .i64 (((NB b:Nat):Int) + b.1)):=by
 unfold ku
 rw [Gw h]
 by_cases h0:NB b=0
 . rw [if_pos h0,decide_eq_true (show ((NB b:Nat):Int)=0 by omega)]; rfl
 . rw [if_neg h0,decide_eq_false (show ¬ ((NB b:Nat):Int)=0 by omega)]; rfl
end
section
variable {b:Bo} {u R:Nat}
end
abbrev b28:Bo:=(1,2,[],[[(1,false)]],[(0,false)],[],[([],(3,0,0,[],[],[]))])
theorem Al:Sm b28:=⟨by decide,by decide,by decide,by decide,by decide,by decide,by decide,by decide,by decide⟩
theorem Hl:(vck b28).1=0:=by
 have hr:tE (bc b28) (3,0,0,[],[],[])=0:=GD (t:=[(1,false)]) (L:=[]) rfl rfl (by simp)
 have hc:b8 b28=(0,0,0,0):=by
   have h1:bG b28 ([],(3,0,0,[],[],[]))=none:=by
     unfold bG
     simp only [List.findIdx?_nil,hr]
     rfl
   unfold b8
   simp only [List.findIdx?_cons,h1]
   rfl
 unfold vck
 rw [hc]; rfl
theorem Aa:xs b28=b28.2.2.2.2.2.2:=by unfold xs; rw [if_pos Hl]
theorem ID:pts (xs b28)=[([0],[])]:=by
 rw [Aa]
 show []++([]++[cpT ([0],[])])=_
 unfold cpT
 rw [FW]; rfl
theorem ly:NB b28=1:=by show bg (xs b28) (xs b28).length=1; rw [Aa]; decide
theorem Kb:lvB b28 0 0=true:=by
 rw [eL]
 unfold LvS
 rw [ly,ID]
 exact .rd (by decide) (by decide)
theorem yk:g8=some true:=by
 unfold g8
 obtain ⟨V,h1,_,hV⟩:=rD Al
 obtain ⟨u,R,hU,hR,_,_,_,hlen,hs⟩:=hV (by rw [ly]; decide)
 obtain rfl:u=1:=by have:((1:Nat):Int)=(u:Int):=hU; omega
 obtain rfl:R=2:=by have:((2:Nat):Int)=(R:Int):=hR; omega
 rw [show de (1,2,[],[[(1,false)]],[(0,false)],[],[([],(3,0,0,[],[],[]))])=_ from h1,Option.bind_some,hlen]
 obtain ⟨f0,w0,L0,e0,m0,q0⟩:=hs 0 V[0] (List.getElem?_eq_getElem (by omega))
 obtain ⟨f1,w1,L1,e1,m1,q1⟩:=hs 1 V[1] (List.getElem?_eq_getElem (by omega))
 have g0:aa V 0=some V[0]:=ah (k:=0) (by omega)
 have g1:aa V 1=some V[1]:=ah (k:=1) (by omega)
 have hL0:L0=[0,1]:=by
   refine fN m0.rs (by simp) (fun x=>?_)
   rw [q0]
   unfold sdM
   rw [ly]
   simp only [List.mem_cons,List.not_mem_nil,or_false]
   constructor
   . rintro (h | ⟨k,hk,t,ht,⟨s,hs1,hs2⟩,_⟩)
     . omega
     . obtain rfl:k=0:=by have:k < 1:=hk; omega
       obtain rfl:[(1,false)]=t:=Option.some.inj ht
       simp at hs1; subst hs1; simp at hs2
   . exact fun h => .inl ⟨by omega,by omega⟩
 have hL1:L1=[0]:=by
   refine fN m1.rs (by simp) (fun x=>?_)
   rw [q1]
   unfold sdM
   simp only [List.mem_singleton]
   constructor
   . rintro (h | ⟨k,hk,t,ht,_,h0,h2⟩)
     . omega
     . have:=oG h2
       rw [ly] at this
       omega
   . rintro rfl
     exact .inr ⟨0,by decide,[(1,false)],rfl,⟨(1,false),by simp,rfl⟩,Int.le_refl 0,Kb⟩
 subst hL0 hL1
 have hsz:=Dr Al
 rw [show ku (1,2,[],[[(1,false)]],[(0,false)],[],[([],(3,0,0,[],[],[]))])=_ from hsz,g0,g1,Option.bind_some,Option.bind_some,e0,e1,s8 m0,s8 m1,Option.bind_some,Option.bind_some,wa _ _ (by simp),wa _ _ (by simp),ly]
 rfl
end
section
def aI (X:List Blk):List (Nat×Tm):=X.map (fun x=>(x.1.length,x.2))
theorem kH {X Y:List Blk} (h:aI X=aI Y):X.length=Y.length:=by
 have:=congrArg List.length h
 simpa [aI] using this
theorem r6 {X Y:List Blk} (h:aI X=aI Y) {j:Nat} (hj:j < X.length) (hj':j < Y.length):X[j].1.length=Y[j].1.length∧X[j].2=Y[j].2:=by
 have e:(aI X)[j]? = (aI Y)[j]?:=by rw [h]
 unfold aI at e
 rw [List.getElem?_map,List.getElem?_map,List.getElem?_eq_getElem hj,List.getElem?_eq_getElem hj'] at e
 simpa using e
theorem kK {X Y:List Blk} (h:aI X=aI Y) (k:Nat):bg X k=bg Y k:=by
 have e:∀ X:List Blk,bg X k=(((aI X).take k).map (·.1)).sum + k:=fun X=>by
   unfold bg stm aI
   rw [← List.map_take,List.map_map]; rfl
 rw [e,e,h]
theorem EV {X Y:List Blk} (h:aI X=aI Y) {j k:Nat} (hj:j < X.length):gs X j k=gs Y j k:=by
 have hj':j < Y.length:=by rw [← kH h]; exact hj
 obtain ⟨e1,e2⟩:=r6 h hj hj'
 funext m
 unfold gs
 rw [cx hj,cx hj',e1,e2]
 simp only [kK h]
theorem Eo {X Y:List Blk} (h:aI X=aI Y) {n:Nat} (hn:n < bg X X.length):nxp X n=nxp Y n:=by
 obtain ⟨j,k,hj,hk,rfl,_⟩:=oq X X.length (Nat.le_refl _) n hn
 have hj':j < Y.length:=by rw [← kH h]; exact hj
 obtain ⟨e1,e2⟩:=r6 h hj hj'
 rw [sS hj hk,kK h j,sS hj' (by omega),EV h hj,kK h,kH h]
theorem vQ {X Y:List Blk} (h:aI X=aI Y):∀ n,n≤bg X X.length→bz X n=bz Y n
 | 0,_=>rfl
 | n + 1,hn=>by
   unfold bz
   rw [vQ h n (by omega),Eo h (by omega)]
theorem rW {X Y:List Blk} (h:aI X=aI Y):bg X X.length=bg Y Y.length:=by rw [kK h,kH h]
theorem CL {X Y:List Blk} (h:aI X=aI Y):c9 X=c9 Y:=by
 show bz X _=bz Y _
 rw [← rW h]; exact vQ h _ (Nat.le_refl _)
structure Sub (X Y:List Blk):Prop where
 sk:aI X=aI Y
 rd:∀ j (hj:j < X.length) (hj':j < Y.length) k (hk:k < X[j].1.length) (hk':k < Y[j].1.length),(∀ x∈(sT X[j].1[k]).1,x∈(sT Y[j].1[k]).1)∧∀ x∈(sT Y[j].1[k]).2,x∈(sT X[j].1[k]).2
theorem Sub.pnt {X Y:List Blk} (h:Sub X Y) {n:Nat} (hn:n < bg X X.length):∃ s t,(pts X)[n]? = some s∧(pts Y)[n]? = some t∧(∀ x∈s.1,x∈t.1)∧∀ x∈t.2,x∈s.2:=by
 obtain ⟨j,k,hj,hk,rfl,_⟩:=oq X X.length (Nat.le_refl _) n hn
 have hj':j < Y.length:=by rw [← kH h.sk]; exact hj
 obtain ⟨e1,e2⟩:=r6 h.sk hj hj'
 have p2:=yJ hj' (show k≤Y[j].1.length by omega)
 rw [← kK h.sk j] at p2
 refine ⟨_,_,yJ hj hk,p2,?_⟩
 unfold pT cpT
 by_cases q:k < X[j].1.length
 . have q':k < Y[j].1.length:=by omega
   rw [List.getElem?_eq_getElem q,List.getElem?_eq_getElem q']
   obtain ⟨a,b⟩:=h.rd j hj hj' k q q'
   exact ⟨fun x hx=>(oo _ x).2 (a x ((oo _ x).1 hx)),b⟩
 . rw [List.getElem?_eq_none (by omega),List.getElem?_eq_none (by omega),e2]
   exact ⟨fun x hx=>hx,fun x hx=>hx⟩
def LvX (X:List Blk) (l:Nat):Nat→Prop:=Lv (c9 X) (bg X X.length) (fb (rN (pts X) l)) (fb (wN (pts X) l))
theorem Sub.lv {X Y:List Blk} (h:Sub X Y) {l n:Nat} (k:LvX X l n):LvX Y l n:=by
 have hb:=rW h.sk
 have hpl:=nT X
 have hpl':=nT Y
 unfold LvX at k ⊢
 induction k with
 | @rd n hn hr =>
   refine .rd (by omega) ?_
   obtain ⟨s,t,h1,h2,h3,_⟩:=h.pnt hn
   obtain ⟨i1,rfl⟩:=List.getElem?_eq_some_iff.1 h1
   obtain ⟨i2,rfl⟩:=List.getElem?_eq_some_iff.1 h2
   have hm:n∈rN (pts X) l:=by simpa using hr
   exact decide_eq_true ((yL i2).2 (h3 _ ((yL i1).1 hm)))
 | @st u v he _ hw ih =>
   have hu:u < bg X X.length:=(n4 X _ (Nat.le_refl _) _ he).1
   refine .st (by rw [← CL h.sk]; exact he) ih ?_
   obtain ⟨s,t,h1,h2,_,h4⟩:=h.pnt hu
   obtain ⟨i1,rfl⟩:=List.getElem?_eq_some_iff.1 h1
   obtain ⟨i2,rfl⟩:=List.getElem?_eq_some_iff.1 h2
   have hm:u∉wN (pts X) l:=by simpa using hw
   exact decide_eq_false fun hc=>hm ((zb i1).2 (h4 _ ((zb i2).1 hc)))
def swS (X:List Blk) (i a:Nat) (s:Stm):List Blk:=X.set i ((X.getD i lw).1.set a s,(X.getD i lw).2)
section
variable {X:List Blk} {i a:Nat} {s:Stm}
theorem eM:(swS X i a s).length=X.length:=by simp [swS]
theorem kL {j:Nat} (hj:j < X.length) (hj':j < (swS X i a s).length):(swS X i a s)[j]=if i=j then (X[j].1.set a s,X[j].2) else X[j]:=by
 simp only [swS,List.getElem_set]
 by_cases q:i=j
 . subst q; rw [if_pos rfl,if_pos rfl,cx hj]
 . rw [if_neg q,if_neg q]
theorem rY:aI X=aI (swS X i a s):=by
 apply List.ext_getElem (by simp [aI,swS])
 intro j h1 h2
 have hj:j < X.length:=by simpa [aI] using h1
 have hj':j < (swS X i a s).length:=by rw [eM]; exact hj
 simp only [aI,List.getElem_map]
 rw [kL hj hj']
 by_cases q:i=j
 . rw [if_pos q]; simp
 . rw [if_neg q]
theorem Dv (hi:i < X.length) (ha:a < X[i].1.length) (hr:∀ x∈(sT X[i].1[a]).1,x∈(sT s).1) (hw:∀ x∈(sT s).2,x∈(sT X[i].1[a]).2):Sub X (swS X i a s) where
 sk:=rY
 rd:=fun j hj hj' k hk hk'=>by
   simp only [kL hj hj'] at hk' ⊢
   by_cases q:i=j
   . subst q
     simp only [if_true,List.getElem_set]
     by_cases q2:a=k
     . subst q2; simp only [if_true]; exact ⟨hr,hw⟩
     . simp only [if_neg q2]; exact ⟨fun x hx=>hx,fun x hx=>hx⟩
   . simp only [if_neg q]; exact ⟨fun x hx=>hx,fun x hx=>hx⟩
theorem xO {x:Blk} (h:x∈swS X i a s):x∈X∨∃ (hi:i < X.length),x=(X[i].1.set a s,X[i].2):=by
 obtain ⟨j,hj',rfl⟩:=List.getElem_of_mem h
 have hj:j < X.length:=by rw [eM] at hj'; exact hj'
 rw [kL hj hj']
 by_cases q:i=j
 . subst q; right; exact ⟨hj,by rw [if_pos rfl]⟩
 . left; rw [if_neg q]; exact List.getElem_mem hj
theorem Ea (hi:i < X.length) (ha:a < X[i].1.length):swS (swS X i a s) i a X[i].1[a]=X:=by
 apply List.ext_getElem (by rw [eM,eM])
 intro j h1 h2
 have hj':j < (swS X i a s).length:=by rw [eM]; exact h2
 rw [kL hj' h1,kL h2 hj']
 by_cases q:i=j
 . subst q
   simp only [if_true,List.set_set]
   exact Prod.ext (List.set_getElem_self ha) rfl
 . simp only [if_neg q]
end
def swB (b:Bo) (i a:Nat) (s:Stm):Bo:=(b.1,b.2.1,b.2.2.1,b.2.2.2.1,b.2.2.2.2.1,b.2.2.2.2.2.1,swS b.2.2.2.2.2.2 i a s)
theorem xz {a b:Flt}:(or0 a b).1=0↔a.1=0∧b.1=0:=by
 unfold or0
 by_cases q:a.1=0
 . simp [q]
 . simp [q]
theorem xZ {b:Bo}:(vck b).1=0↔((iX b).1=0∧(kO b).1=0∧(d6 b).1=0∧(jo b).1=0∧(lB b).1=0∧(gD b).1=0)∧∀ x∈b.2.2.2.2.2.2,(∀ s∈x.1,sE b.2.2.2.1 b.2.1 s=0)∧tE (bc b) x.2=0:=by
 constructor
 . intro h
   refine ⟨?_,xM h⟩
   unfold vck at h
   simp only [xz] at h
   exact ⟨h.1,h.2.1,h.2.2.1,h.2.2.2.1,h.2.2.2.2.1,h.2.2.2.2.2.1⟩
 . rintro ⟨⟨h1,h2,h3,h4,h5,h6⟩,h7⟩
   unfold vck
   simp only [xz]
   refine ⟨h1,h2,h3,h4,h5,h6,?_⟩
   unfold b8
   have:b.2.2.2.2.2.2.findIdx? (fun x=>(bG b x).isSome)=none:=List.findIdx?_eq_none_iff.2 fun x hx=>by
     obtain ⟨g1,g2⟩:=h7 x hx
     unfold bG
     rw [List.findIdx?_eq_none_iff.2 (fun s hs=>by rw [g1 s hs]; rfl)]
     simp [g2]
   rw [this]
theorem zq {b:Bo} {i a:Nat} {s:Stm} (hs:sE b.2.2.2.1 b.2.1 s=0) (h:(vck b).1=0):(vck (swB b i a s)).1=0:=by
 obtain ⟨⟨h1,h2,h3,h4,h5,h6⟩,h7⟩:=xZ.1 h
 have hlen:(swS b.2.2.2.2.2.2 i a s).length=b.2.2.2.2.2.2.length:=eM
 have hne:b.2.2.2.2.2.2≠[]:=fun e=>by unfold gD at h6; rw [if_pos e] at h6; simp at h6
 refine xZ.2 ⟨⟨h1,h2,h3,h4,h5,?_⟩,fun x hx=>?_⟩
 . have:swS b.2.2.2.2.2.2 i a s≠[]:=fun e=>hne (List.length_eq_zero_iff.1 (by rw [← hlen,e]; rfl))
   unfold gD
   rw [if_neg (show ¬ (swB b i a s).2.2.2.2.2.2=[] from this)]
 . have har:bc (swB b i a s)=bc b:=by unfold bc swB; dsimp only; rw [hlen]
   rw [har]
   rcases xO (show x∈swS b.2.2.2.2.2.2 i a s from hx) with hx | ⟨hi,rfl⟩
   . exact h7 x hx
   . obtain ⟨g1,g2⟩:=h7 _ (List.getElem_mem hi)
     refine ⟨fun t ht=>?_,g2⟩
     rcases List.mem_or_eq_of_mem_set ht with ht | rfl
     . exact g1 t ht
     . exact hs
theorem EG {b:Bo} {i a:Nat} {s:Stm} (hi:i < b.2.2.2.2.2.2.length) (ha:a < b.2.2.2.2.2.2[i].1.length) (h0:sE b.2.2.2.1 b.2.1 b.2.2.2.2.2.2[i].1[a]=0) (h:(vck (swB b i a s)).1=0):(vck b).1=0:=by
 have:=zq (b:=swB b i a s) (i:=i) (a:=a) (s:=b.2.2.2.2.2.2[i].1[a]) h0 h
 have e:swB (swB b i a s) i a b.2.2.2.2.2.2[i].1[a]=b:=by
   unfold swB
   dsimp only
   rw [Ea hi ha]
 rw [e] at this; exact this
theorem F6 (L:List (List St)) (R:Int) (k:Nat) (hk:k < L.length):sE L R (4,0,(k:Int),0,false)=0:=by
 unfold sE
 have:dL (4,0,(k:Int),0,false) L R=some ([],0):=by
   unfold dL
   rw [show ic ((4:Int),0,(k:Int),0,false)=_ from nk (4,0,(k:Int),0,false)]
   have h1:decide ((k:Int) < 0)=false:=decide_eq_false (by omega)
   have h2:decide (((L.length:Nat):Int)≤(k:Int))=false:=decide_eq_false (by omega)
   have h3:¬ L.length≤k:=by omega
   simp [fOk,aY,aZ,bN,ie,ig,j6,h1,h2,h3]
 rw [this]; rfl
theorem Sm.sw {b:Bo} (h:Sm b) (i a:Nat) (s:Stm):Sm (swB b i a s) where
 bounds:=h.bounds
 locals:=h.locals
 loc:=h.loc
 ret:=h.ret
 sigs:=h.sigs
 sig:=h.sig
 blocks:=by show (swS b.2.2.2.2.2.2 i a s).length≤8; rw [eM]; exact h.blocks
 term:=fun x hx=>by
   rcases xO (show x∈swS b.2.2.2.2.2.2 i a s from hx) with hx | ⟨hi,rfl⟩
   . exact h.term x hx
   . have:=h.term _ (List.getElem_mem hi); exact this
 many:=by
   have e:stm (swS b.2.2.2.2.2.2 i a s)=stm b.2.2.2.2.2.2:=by
     have e:∀ X:List Blk,stm X=((aI X).map (·.1)).sum:=fun X=>by
       unfold stm aI
       rw [List.map_map]; rfl
     rw [e,e,← rY]
   show stm (swS b.2.2.2.2.2.2 i a s)≤24
   rw [e]; exact h.many
end
theorem lm {b:Bo} (h:(vck b).1=0):xs b=b.2.2.2.2.2.2:=by unfold xs; rw [if_pos h]
theorem I8 {b:Bo} {i a:Nat} {s:Stm} (h:(vck b).1=0) (h':(vck (swB b i a s)).1=0):NB (swB b i a s)=NB b:=by
 show bg (xs _) (xs _).length=bg (xs _) (xs _).length
 rw [lm h,lm h']
 exact (rW rY).symm
theorem G2 {b:Bo} {i a:Nat} {s:Stm} (hsub:Sub b.2.2.2.2.2.2 (swS b.2.2.2.2.2.2 i a s)) (h:(vck b).1=0) (h':(vck (swB b i a s)).1=0) {l n:Nat} (k:lvB b l n=true):lvB (swB b i a s) l n=true:=by
 have k1:LvX (xs b) l n:=eL.1 k
 rw [lm h] at k1
 have k2:LvX (xs (swB b i a s)) l n:=by rw [lm h']; exact hsub.lv k1
 exact eL.2 k2
theorem Hg {b:Bo} {i a:Nat} {s:Stm} (hsub:Sub b.2.2.2.2.2.2 (swS b.2.2.2.2.2.2 i a s)) (h:(vck b).1=0) (h':(vck (swB b i a s)).1=0) {u m r:Nat} {x:Int} (k:sdM b u m r x):sdM (swB b i a s) u m r x:=by
 unfold sdM at k ⊢
 rw [I8 h h']
 rcases k with k | ⟨q,hq,t,ht,hr,hx,hl⟩
 . exact .inl k
 . exact .inr ⟨q,hq,t,ht,hr,hx,G2 hsub h h' hl⟩
theorem GG {b:Bo} (h:(vck b).1=0) (hi:0 < b.2.2.2.2.2.2.length):0 < NB b:=by
 show 0 < bg (xs b) (xs b).length
 rw [lm h]; unfold bg; omega
theorem DW {V':List Mv} {n:Nat} {f:Option (List Int)} {w:Option (Int×List Int)} {L L':List Int} {r:Nat} (hr:aa V' (r:Int)=some (some ((n:Int),f,w))) (hm:Mx n f w L') (hl:L.length≤1000000000) (hsub:∀ x∈L,x∈L'):loop (jI V' (r:Int) L) 0=some (.inl ()):=by
 have h:=aQ (body:=jI V' (r:Int) L) (fun k:Nat=>(k:Int)) L.length (b := .inl ()) ?_ ?_
 . exact h
 . intro k hk
   unfold jI
   rw [dlt hk,cond_true,hr,ah hk]
   simp only [Option.bind_some]
   rw [hm.has,decide_eq_true (hsub _ (List.getElem_mem hk)),aq hk (by omega)]
   simp
 . unfold jI
   simp
theorem A8 (xa:Bo) (xb xc xd:Int) (k0:Tp.Ok sU xa) (k1:Tp.Ok (.int .i64) xb) (k2:Tp.Ok (.int .i64) xc) (k3:Tp.Ok (.int .i64) xd) (q0:Tp.Fit sU xa) (q1:Tp.Fit (.int .i64) xb) (q2:Tp.Fit (.int .i64) xc) (q3:Tp.Fit (.int .i64) xd):qf xa xb xc xd=some true:=by
 unfold qf
 rcases EO xa (Di q0) with h | ⟨h,hs⟩
 . rw [show fG xa=some false from h,yk]; rfl
 rw [show fG xa=some true from h,Option.bind_some,yk]
 by_cases c1:20 < xa.2.1
 . simp [c1]
 by_cases c2:xb < 0
 . simp [c2]
 by_cases c3:((xa.2.2.2.2.2.2.length:Nat):Int)≤xb
 . simp [c3]
 by_cases c4:xc < 0
 . simp [c4]
 obtain ⟨i,rfl⟩:=Int.eq_ofNat_of_zero_le (show 0≤xb by omega)
 obtain ⟨a,rfl⟩:=Int.eq_ofNat_of_zero_le (show 0≤xc by omega)
 have hi:i < xa.2.2.2.2.2.2.length:=by omega
 have g1:aa xa.2.2.2.2.2.2 (i:Int)=some xa.2.2.2.2.2.2[i]:=ah hi
 have e1:(((((!true)||(decide (20 < xa.2.1)))||(decide ((i:Int) < 0)))||(decide (((xa.2.2.2.2.2.2.length:Nat):Int)≤(i:Int))))||(decide ((a:Int) < 0)))=false:=by
   rw [decide_eq_false c1,decide_eq_false c2,decide_eq_false c3,decide_eq_false c4]; rfl
 rw [e1,cond_false,g1]
 simp only [Option.bind_some]
 by_cases c5:((xa.2.2.2.2.2.2[i].1.length:Nat):Int)≤(a:Int)
 . simp [c5]
 have ha:a < xa.2.2.2.2.2.2[i].1.length:=by omega
 have g2:aa xa.2.2.2.2.2.2[i].1 (a:Int)=some xa.2.2.2.2.2.2[i].1[a]:=ah ha
 rw [decide_eq_false c5,cond_false,g2]
 simp only [Option.bind_some]
 by_cases c6n:¬ xa.2.2.2.2.2.2[i].1[a].1=0
 . rw [decide_eq_false c6n]; simp
 have c6:xa.2.2.2.2.2.2[i].1[a].1=0:=Decidable.not_not.1 c6n
 rw [decide_eq_true c6,Bool.not_true,Bool.false_or]
 by_cases c7:xd < 0
 . simp [c7]
 by_cases c8:((xa.2.2.2.1.length:Nat):Int)≤xd
 . simp [c8]
 obtain ⟨l,rfl⟩:=Int.eq_ofNat_of_zero_le (show 0≤xd by omega)
 have hl:l < xa.2.2.2.1.length:=by omega
 have hb8:=hs.blocks
 have hst:=hs.stmts (List.getElem_mem hi)
 rw [decide_eq_false c7,decide_eq_false c8,Bool.or_self,cond_false,aM (by simp; omega)]
 simp only [Option.bind_some,List.nil_append]
 rw [aM (by simp; omega)]
 simp only [Option.bind_some,List.nil_append,g1,g2]
 have gc:aE (i:Int) (i:Int)=some ():=by unfold aE; simp
 simp only [gc,Option.bind_some]
 obtain ⟨V,h1,hV0,hV1⟩:=rD hs
 obtain ⟨V',h1',hV0',hV1'⟩:=rD (hs.sw i a (4,0,(l:Int),0,false))
 have eS:swS xa.2.2.2.2.2.2 i a (4,0,(l:Int),0,false)=xa.2.2.2.2.2.2.set i (xa.2.2.2.2.2.2[i].1.set a (4,0,(l:Int),0,false),xa.2.2.2.2.2.2[i].2):=by unfold swS; rw [cx hi]
 have h2:de (xa.1,xa.2.1,xa.2.2.1,xa.2.2.2.1,xa.2.2.2.2.1,xa.2.2.2.2.2.1,xa.2.2.2.2.2.2.set i (xa.2.2.2.2.2.2[i].1.set a (4,0,(l:Int),0,false),xa.2.2.2.2.2.2[i].2))=some V':=by rw [← eS]; exact h1'
 rw [show de xa=some V from h1,Option.bind_some]
 simp only [Int.toNat_natCast]
 rw [show de (xa.1,xa.2.1,xa.2.2.1,xa.2.2.2.1,xa.2.2.2.2.1,xa.2.2.2.2.2.1,xa.2.2.2.2.2.2.set i (xa.2.2.2.2.2.2[i].1.set a (4,0,(l:Int),0,false),xa.2.2.2.2.2.2[i].2.1,xa.2.2.2.2.2.2[i].2.2.1,xa.2.2.2.2.2.2[i].2.2.2.1,xa.2.2.2.2.2.2[i].2.2.2.2.1,xa.2.2.2.2.2.2[i].2.2.2.2.2.1,xa.2.2.2.2.2.2[i].2.2.2.2.2.2))=some V' from h2,Option.bind_some]
 have hsub:Sub xa.2.2.2.2.2.2 (swS xa.2.2.2.2.2.2 i a (4,0,(l:Int),0,false)):=Dv hi ha (fun x hx=>by simp [sT,aZ,c6] at hx) (fun x hx=>by simp [sT,aY] at hx)
 have hNV:∀ {b:Bo},0 < b.2.2.2.2.2.2.length→((vck b).1=0↔0 < NB b):=fun hp=>⟨fun h=>GG h hp,o9⟩
 have hp':0 < (swB xa i a (4,0,(l:Int),0,false)).2.2.2.2.2.2.length:=by show 0 < (swS _ _ _ _).length; rw [eM]; omega
 by_cases hlen:V.length=V'.length
 . have hlp:loop (gM V V') 0=some (.inl ()):=by
     by_cases h0:NB xa=0
     . rw [hV0 h0]
       exact eK (b:=Sum.inl ()) (by unfold gM; rfl)
     . obtain ⟨u,R,hU,hR,hu1,huR,hR2,hVl,hok⟩:=hV1 (by omega)
       have hN':0 < NB (swB xa i a (4,0,(l:Int),0,false)):=Nat.pos_of_ne_zero fun h0'=>by
         have:=hV0' h0'
         rw [this] at hlen
         simp at hlen
         rw [hlen] at hVl; simp at hVl; omega
       obtain ⟨u',R',hU',hR',_,_,_,hVl',hok'⟩:=hV1' hN'
       have hv:=o9 (show 0 < NB xa by omega)
       have hv':=o9 hN'
       have hu:u'=u:=by
         have:(u':Int)=(u:Int):=by rw [← hU',← hU]; rfl
         omega
       subst hu
       have hb:NB xa≤32:=(kJ hs (Nat.le_refl _)).1
       have h:=aQ (body:=gM V V') (fun k:Nat=>(k:Int)) V.length (b := .inl ()) ?_ ?_
       . exact h
       . intro r hr
         obtain ⟨f,w,L,e,hm,hL⟩:=hok r V[r] (List.getElem?_eq_getElem hr)
         have hr':r < V'.length:=by omega
         obtain ⟨f',w',L',e',hm',hL'⟩:=hok' r V'[r] (List.getElem?_eq_getElem hr')
         have gV':aa V' (r:Int)=some (some (((NB (swB xa i a (4,0,(l:Int),0,false)) + u':Nat):Int),f',w')):=by rw [ah hr',e']
         have hLl:L.length≤1000000000:=by
           have:=hm.len; omega
         unfold gM
         rw [dlt hr,cond_true,ah hr,Option.bind_some,e,s8 hm,Option.bind_some,DW gV' hm' hLl (fun x hx=>(hL' x).2 (Hg hsub hv hv' ((hL x).1 hx))),Option.bind_some]
         dsimp only
         rw [aq hr (by omega)]
       . unfold gM
         simp
   rw [show decide (((V.length:Nat):Int)=((V'.length:Nat):Int))=true from decide_eq_true (by omega),Bool.not_true,cond_false,hlp]
   rfl
 . rw [show decide (((V.length:Nat):Int)=((V'.length:Nat):Int))=false from decide_eq_false (by omega),Bool.not_false,cond_true]
   have hne:xa.2.2.2.2.2.2[i].1[a]≠(0,0,0,0,false):=fun ez=>by
     have hiff:(vck xa).1=0↔(vck (swB xa i a (4,0,(l:Int),0,false))).1=0:=⟨fun h=>zq (F6 _ _ l hl) h,fun h=>EG hi ha (by rw [ez]; exact GQ _ _) h⟩
     rw [hNV (by omega),hNV hp'] at hiff
     by_cases h0:NB xa=0
     . have h0':NB (swB xa i a (4,0,(l:Int),0,false))=0:=by omega
       exact hlen (by rw [hV0 h0,hV0' h0'])
     . obtain ⟨u,R,hU,hR,_,_,_,hVl,_⟩:=hV1 (by omega)
       obtain ⟨u',R',hU',hR',_,_,_,hVl',_⟩:=hV1' (by omega)
       have:(R':Int)=(R:Int):=by rw [← hR',← hR]; rfl
       omega
   have hb:((decide (xa.2.2.2.2.2.2[i].1[a].1=0))&&((decide (xa.2.2.2.2.2.2[i].1[a].2.1=0))&&((decide (xa.2.2.2.2.2.2[i].1[a].2.2.1=0))&&((decide (xa.2.2.2.2.2.2[i].1[a].2.2.2.1=0))&&(xa.2.2.2.2.2.2[i].1[a].2.2.2.2 == false)))))=false:=by
     cases hc:((decide (xa.2.2.2.2.2.2[i].1[a].1=0))&&((decide (xa.2.2.2.2.2.2[i].1[a].2.1=0))&&((decide (xa.2.2.2.2.2.2[i].1[a].2.2.1=0))&&((decide (xa.2.2.2.2.2.2[i].1[a].2.2.2.1=0))&&(xa.2.2.2.2.2.2[i].1[a].2.2.2.2 == false))))) with
     | false=>rfl
     | true =>
       exfalso
       simp only [Bool.and_eq_true,decide_eq_true_eq,beq_iff_eq] at hc
       exact hne (Prod.ext hc.1 (Prod.ext hc.2.1 (Prod.ext hc.2.2.1 (Prod.ext hc.2.2.2.1 hc.2.2.2.2))))
   rw [decide_eq_true c6] at hb
   rw [hb]; rfl
theorem A7 {H:Type} (enc:TypeId×Value→H) (W:World) (base:Nat) {v0 v1 v2 v3:Value} {d0 d1 d2 d3:DataW H} {p0 p1 p2 p3:List MemPlace}
   (h0:DataW.Trod enc Tryz.prog W 0 (fun _=>true) true 30 v0 d0 p0) (h1:DataW.Trod enc Tryz.prog W 0 (fun _=>true) true 3 v1 d1 p1) (h2:DataW.Trod enc Tryz.prog W 0 (fun _=>true) true 3 v2 d2 p2) (h3:DataW.Trod enc Tryz.prog W 0 (fun _=>true) true 3 v3 d3 p3)
   (o0:Value.okWide Tryz.prog W .any base 30 v0) (o1:Value.okWide Tryz.prog W .any base 3 v1) (o2:Value.okWide Tryz.prog W .any base 3 v2) (o3:Value.okWide Tryz.prog W .any base 3 v3)
   (hgk:tzGk (Hp.of W))
   (w0:(d0.weights Tryz.prog 30).all (·≤reachBytes)=true)
   (w1:(d1.weights Tryz.prog 3).all (·≤reachBytes)=true)
   (w2:(d2.weights Tryz.prog 3).all (·≤reachBytes)=true)
   (w3:(d3.weights Tryz.prog 3).all (·≤reachBytes)=true) :
   Calls Tryz.prog 5 #[v0,v1,v2,v3] W fun e W'=>e = .returned (.bool true)∧Below W.heap.size W W':=by
 obtain ⟨xa,i0,k0⟩:=Tp.arg (.cons (.int .i64) (.cons (.int .i64) (.cons (.sl (.cons (.int .i64) (.one (.int .i64)))) (.cons (.sl (.one (.sl (.cons (.int .i64) (.one .bool))))) (.cons (.one (.sl (.cons (.int .i64) (.one .bool)))) (.cons (.sl (.cons (.int .i64) (.cons (.sl (.cons (.int .i64) (.one (.int .i64)))) (.cons (.sl (.one (.sl (.cons (.int .i64) (.one .bool))))) (.one (.one (.sl (.cons (.int .i64) (.one .bool))))))))) (.one (.sl (.cons (.sl (.cons (.int .i64) (.cons (.int .i64) (.cons (.int .i64) (.cons (.int .i64) (.one .bool)))))) (.one (.cons (.int .i64) (.cons (.int .i64) (.cons (.int .i64) (.cons (.sl (.int .i64)) (.cons (.sl (.int .i64)) (.one (.sl (.int .i64)))))))))))))))))) (by kernel_rfl) o0 h0
 have q0:=Tp.argFit (.cons (.int .i64) (.cons (.int .i64) (.cons (.sl (.cons (.int .i64) (.one (.int .i64)))) (.cons (.sl (.one (.sl (.cons (.int .i64) (.one .bool))))) (.cons (.one (.sl (.cons (.int .i64) (.one .bool)))) (.cons (.sl (.cons (.int .i64) (.cons (.sl (.cons (.int .i64) (.one (.int .i64)))) (.cons (.sl (.one (.sl (.cons (.int .i64) (.one .bool))))) (.one (.one (.sl (.cons (.int .i64) (.one .bool))))))))) (.one (.sl (.cons (.sl (.cons (.int .i64) (.cons (.int .i64) (.cons (.int .i64) (.cons (.int .i64) (.one .bool)))))) (.one (.cons (.int .i64) (.cons (.int .i64) (.cons (.int .i64) (.cons (.sl (.int .i64)) (.cons (.sl (.int .i64)) (.one (.sl (.int .i64)))))))))))))))))) (r := .any) (b:=base) (by kernel_rfl) (by kernel_rfl) h0 i0 w0
 obtain ⟨xb,i1,k1⟩:=Tp.arg (.int .i64) (by kernel_rfl) o1 h1
 have q1:=Tp.argFit (.int .i64) (r := .any) (b:=base) (by kernel_rfl) (by kernel_rfl) h1 i1 w1
 obtain ⟨xc,i2,k2⟩:=Tp.arg (.int .i64) (by kernel_rfl) o2 h2
 have q2:=Tp.argFit (.int .i64) (r := .any) (b:=base) (by kernel_rfl) (by kernel_rfl) h2 i2 w2
 obtain ⟨xd,i3,k3⟩:=Tp.arg (.int .i64) (by kernel_rfl) o3 h3
 have q3:=Tp.argFit (.int .i64) (r := .any) (b:=base) (by kernel_rfl) (by kernel_rfl) h3 i3 w3
 exact H8 (s:=uG) (x:=(xa,xb,xc,xd)) (args:=[v0,v1,v2,v3]) AC (A8 xa xb xc xd k0 k1 k2 k3 q0 q1 q2 q3) hgk rfl rfl ⟨_,_,rfl,kU _ i0,_,_,rfl,kU _ i1,_,_,rfl,kU _ i2,_,_,rfl,kU _ i3,rfl⟩
theorem FY:∀ j,j < 64→(Lib.deBruijn64tab.map Int.ofNat).getD j 0=((Lib.deBruijn64tab.getD j 0:Nat):Int):=by decide +kernel
theorem Ex {W : World} {rest : List (String × DataW Unit)} (h : laidMet Tryz.prog (("math/bits.deBruijn64tab", Rows.laid_math_bits_deBruijn64tab) :: rest) W) : tzGk (Hp.of W) := by
 have hg : Tryz.prog.globalNamed "math/bits.deBruijn64tab" = some 0 := by kernel_rfl
 have hT : Lib.TabIs Tryz.prog W "math/bits.deBruijn64tab" .u8 (Lib.deBruijn64tab.map Int.ofNat) :=
   Lib.tabIs_of_head (t:=219) (e:=5) (n:=64) hg (by kernel_rfl) (by kernel_rfl) (by kernel_rfl) (by kernel_rfl) (by kernel_rfl) h
 intro j hj
 rw [← FY j hj]
 exact wU (hT.cell hg j (by simpa [Lib.deBruijn64tab] using hj))
end
end Go.Proofs.YtaajcbeoafhmaaaGreatDoor
namespace Go.Proofs.YtaajcbeoafhmaaaGreatDoor.seedGrowsFrame
set_option maxRecDepth 40000
open Go.ChangeShapes Go.WideShapes Go.ChangeAt Go.RowKit
theorem own:ownKnob Tryz.prog.godebug=none:=by kernel_rfl
theorem wD (H:Type) (enc:TypeId×Value→H) (W:World) (base:Nat) (args:Array Value) (ds gs:List (DataW H)) (before:List MemPlace)
   (hval:∀ (j:Nat) t v,Tryz.f5.params[j]? = some t→args[j]? = some v→Value.okWide Tryz.prog W .any base t v)
   (hW:DataW.Whole enc Tryz.prog Tryz.f5.params.toList Rows.seedGrowsSpec.vars false W args.toList ds gs before) (vt:List TypeId) (hwt:(DataW.weightsEach Tryz.prog (Tryz.f5.params.toList++vt) (ds++gs)).all (·≤reachBytes)=true) (hgk:tzGk (Hp.of W)) :
   Calls Tryz.prog 5 args W fun e W'=>∃ v,e = .returned v∧Rows.seedGrowsSpec.post enc Tryz.prog Tryz.f5 false true false false W args v W':=by
 have hW':=hW
 obtain ⟨p,q,hA0,hV,rfl,hfz,hnd⟩:=hW
 have hA:DataW.TrodAll enc Tryz.prog W 0 (fun _=>true) true Tryz.f5.params.toList args.toList ds p:=hA0
 rw [Tryz.params5] at hA hval hwt
 obtain ⟨v0,vs0,d0,ds0,p0,q0,hargs,rfl,rfl,h0,r0⟩:=trodAll_cons hA
 obtain ⟨v1,vs1,d1,ds1,p1,q1,rfl,rfl,rfl,h1,r1⟩:=trodAll_cons r0
 obtain ⟨v2,vs2,d2,ds2,p2,q2,rfl,rfl,rfl,h2,r2⟩:=trodAll_cons r1
 obtain ⟨v3,vs3,d3,ds3,p3,q3,rfl,rfl,rfl,h3,r3⟩:=trodAll_cons r2
 obtain ⟨rfl,rfl,rfl⟩:=trodAll_nil r3
 obtain rfl:args = #[v0,v1,v2,v3]:=by cases args; simp_all
 refine (A7 enc W base h0 h1 h2 h3 (hval 0 _ v0 rfl rfl) (hval 1 _ v1 rfl rfl) (hval 2 _ v2 rfl rfl) (hval 3 _ v3 rfl rfl) hgk (eZ _ _ hwt 0 _ _ rfl rfl) (eZ _ _ hwt 1 _ _ rfl rfl) (eZ _ _ hwt 2 _ _ rfl rfl) (eZ _ _ hwt 3 _ _ rfl rfl)).mono fun e W' ⟨he,hb⟩=>?_
 subst he
 exact ⟨_,rfl,DQ (tb:=_) rfl hW' rfl rfl (by kernel_rfl) (by kernel_rfl) (of_decide_eq_true (by kernel_rfl)) hb⟩
noncomputable def zK (os:Os):World:=World.laidAll Tryz.prog os Rows.seedGrowsRow.laid
theorem zM (os:Os) {H:Type} (enc:TypeId×Value→H):∃ x,DataW.whole enc Tryz.prog ((zK os).forCall (fun _ _=>0) ⟨#[],#[.agg #[.int .i64 0,.int .i64 0,.slice none 0 0,.slice none 0 0,.slice none 0 0,.slice none 0 0,.slice none 0 0],.int .i64 0,.int .i64 0,.int .i64 0],[]⟩).memory Tryz.f5.params.toList Rows.seedGrowsSpec.vars false (#[.agg #[.int .i64 0,.int .i64 0,.slice none 0 0,.slice none 0 0,.slice none 0 0,.slice none 0 0,.slice none 0 0],.int .i64 0,.int .i64 0,.int .i64 0]:Array Value).toList 8=some x :=
 Option.isSome_iff_exists.1 (by kernel_rfl)
set_option maxRecDepth 100000 in
theorem Ga (os:Os) (started:os.Started) (H:Type) (enc:TypeId×Value→H) (F:Stop.Interp) :
   ReturnsInHanded {} Tryz.checked os 5 .any ((OpenSpec.ofChange Rows.seedGrowsSpec).preRow enc Tryz.prog Tryz.f5 Rows.seedGrowsRow.domain false Rows.seedGrowsRow.laid) (((OpenSpec.ofChange Rows.seedGrowsSpec).at F).post enc Tryz.prog Tryz.f5 false true false false):=by
 obtain ⟨x,hx⟩:=zM os enc
 refine returnsInHanded_of_row (C:=Tryz.checked) (s:=OpenSpec.ofChange Rows.seedGrowsSpec) own started (by kernel_rfl) Tryz.func5
   ⟨zK os,fun _ _=>0,⟨#[],#[.agg #[.int .i64 0,.int .i64 0,.slice none 0 0,.slice none 0 0,.slice none 0 0,.slice none 0 0,.slice none 0 0],.int .i64 0,.int .i64 0,.int .i64 0],[]⟩,World.laidAll_os _ _ _,World.shaped_of_ZipB (by kernel_rfl) (by kernel_rfl),rfl,(Input.okWide_of_okWideB (by kernel_rfl)).2,
     OpenSpec.preRow_of_cond 8 hx (by kernel_rfl) (fun k hk=>by cases hk) (by kernel_rfl) (by rw [MakeChecks.laidMetH_plain _ _ _ (by kernel_rfl)]; exact laidMet_laidAll _ (by kernel_rfl) (by kernel_rfl)),
     by simp only [Assume.holds]; exact ⟨by simp,by simp,by simp,by simp,by simp⟩⟩ ?_
 intro W base args ds gs before hval hW _ _ hwt hL _ _
 exact wD H enc W base args ds gs before hval hW _ hwt (Ex (rest:=[]) (by rw [MakeChecks.laidMetH_plain _ _ _ (by kernel_rfl)] at hL; exact hL))
theorem FQ:Rows.SeedGrowsSaid :=
 OpenClaim.holds_of_cond 5 Tryz.f5 rfl rfl rfl rfl rfl rfl rfl ⟨rfl,rfl,rfl,rfl,rfl⟩ rfl rfl rfl rfl rfl (by kernel_rfl) Tryz.func5 (by kernel_rfl)
   (of_decide_eq_true (by kernel_rfl)) (by unfold Func.isWrapper; first | (rw [if_pos (by decide +kernel)]; kernel_rfl) | (rw [if_neg (by decide +kernel)]; exact ⟨rfl,rfl⟩))
   (fun os started H enc _ F=>by rw [OpenClaim.pre_eq_preRow]; exact Ga os started H enc F)
theorem card:Rows.SeedGrowsCardSaid :=
 Claim7.holds_tied_plain_at .later [] [.data] true (true, "69afacfbd48a1b6ddf6b7bf80203764013ec63c3f8ad2624e5f3bc871cbaa802") false FQ (fun _ h => by cases h) (by kernel_rfl) (fun _ h => by cases h) seedGrows_row_tie rfl ⟨rfl, rfl⟩ (by kernel_rfl) rfl
   (fun f fn hf hfn=>by
     obtain rfl : f = 5 := Option.some.inj ((show Tryz.prog.funcNamed "easement/easementlaw28.SeedGrows" = some 5 by kernel_rfl).symm.trans hf) |>.symm
     obtain rfl:fn=Tryz.f5:=(Option.some.inj (Tryz.func5.symm.trans hfn)).symm
     exact ⟨by kernel_rfl,fun j t ht=>by
       rw [Tryz.params5] at ht
       have hm:t∈[30,3,3,3]:=by simpa using Array.mem_of_getElem? ht
       have hall:([30,3,3,3].all fun u=>!Tryz.prog.wantsStandIn u)=true:=by kernel_rfl
       exact (show Tryz.prog.wantsStandIn t=false by simpa using List.all_eq_true.1 hall t hm)⟩)
   (by kernel_rfl)
end Go.Proofs.YtaajcbeoafhmaaaGreatDoor.seedGrowsFrame

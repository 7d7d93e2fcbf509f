/- A part of the proof: what lies ahead of the law. Nothing is claimed here. -/
import Derived.Test.YtfldcmoebihobaaGreatDoorZ5
import Derived.Lib.RowBridge
namespace Go.Proofs.YtfldcmoebihobaaGreatDoor
noncomputable section
set_option linter.unusedVariables false
set_option linter.unnecessarySimpa false
set_option linter.unusedSimpArgs false
open Go.RowKit
abbrev KY:Tp := .cons (.int .i64) (.cons (.sl (.cons (.int .i64) (.one (.int .i64)))) (.cons (.sl (.one (.sl (.cons (.int .i64) (.one .bool))))) (.one (.one (.sl (.cons (.int .i64) (.one .bool)))))))
abbrev Lw:Tp := .cons (.int .i64) (.cons (.int .i64) (.cons (.int .i64) (.cons (.sl (.int .i64)) (.cons (.sl (.int .i64)) (.one (.sl (.int .i64)))))))
abbrev sQ:Tp := .cons (.int .i64) (.cons (.int .i64) (.cons (.sl (.cons (.int .i64) (.one (.int .i64)))) (.cons (.sl (.one (.sl (.cons (.int .i64) (.one .bool))))) (.cons (.one (.sl (.cons (.int .i64) (.one .bool)))) (.cons (.sl KY) (.one (.sl (.cons (.sl (.cons (.int .i64) (.cons (.int .i64) (.cons (.int .i64) (.cons (.int .i64) (.one .bool)))))) (.one Lw)))))))))
abbrev Blk:=List Stm×Tm
abbrev Bo:=Int×Int×List (Int×Int)×List (List St)×List St×List Sg×List Blk
def stm (l:List Blk):Nat:=(l.map (fun x=>x.1.length)).sum
structure Few (b:Bo):Prop where
 bounds:b.2.2.1.length≤20
 locals:b.2.2.2.1.length≤10
 loc:∀ t∈b.2.2.2.1,t.length≤20
 ret:b.2.2.2.2.1.length≤20
 sigs:b.2.2.2.2.2.1.length≤4
 sig:∀ s∈b.2.2.2.2.2.1,s.2.1.length≤20∧s.2.2.1.length≤20∧s.2.2.2.length≤20∧∀ t∈s.2.2.1,t.length≤20
 blocks:b.2.2.2.2.2.2.length≤8
 term:∀ x∈b.2.2.2.2.2.2,x.2.2.2.2.1.length≤20∧x.2.2.2.2.2.1.length≤20∧x.2.2.2.2.2.2.length≤20
 many:stm b.2.2.2.2.2.2≤24
structure Sm (b:Bo):Prop where
 bounds:b.2.2.1.length≤65536
 locals:b.2.2.2.1.length≤65536
 loc:∀ t∈b.2.2.2.1,t.length≤20
 ret:b.2.2.2.2.1.length≤20
 sigs:b.2.2.2.2.2.1.length≤65536
 sig:∀ s∈b.2.2.2.2.2.1,s.2.1.length≤20∧s.2.2.1.length≤20∧s.2.2.2.length≤20∧∀ t∈s.2.2.1,t.length≤20
 blocks:b.2.2.2.2.2.2.length≤65536
 term:∀ x∈b.2.2.2.2.2.2,x.2.2.2.2.1.length≤20∧x.2.2.2.2.2.1.length≤20∧x.2.2.2.2.2.2.length≤20
 many:stm b.2.2.2.2.2.2≤65536
theorem Few.sm {b:Bo} (h:Few b):Sm b:=⟨Nat.le_trans h.bounds (by omega),Nat.le_trans h.locals (by omega),h.loc,h.ret,Nat.le_trans h.sigs (by omega),h.sig,Nat.le_trans h.blocks (by omega),h.term,Nat.le_trans h.many (by omega)⟩
theorem yn {α:Type} (f:α→Nat):∀ (l:List α) (x:α),x∈l→f x≤(l.map f).sum
 | [],x,h=>by cases h
 | y :: l,x,h=>by
   rcases List.mem_cons.1 h with rfl | h
   . simp
   . have:=yn f l x h; simp; omega
theorem nO {α:Type} (f:α→Nat) (l:List α) (k:Nat):((l.take k).map f).sum≤(l.map f).sum:=by
 have:l.map f=(l.take k).map f++(l.drop k).map f:=by rw [← List.map_append,List.take_append_drop]
 rw [this,List.sum_append]; omega
theorem Sm.stmts {b:Bo} (h:Sm b) {x:Blk} (hx:x∈b.2.2.2.2.2.2):x.1.length≤65536:=by
 have:=yn (fun x:Blk=>x.1.length) _ x hx
 have:=h.many; unfold stm at this; omega
theorem kU {X:List Blk} {k:Nat} (hk:k < X.length):stm (X.take (k + 1))=stm (X.take k) + X[k].1.length:=by
 unfold stm; rw [bF hk,List.map_append,List.sum_append]; simp
theorem Df {b:Bo} (h:Tp.Fit sQ b):∀ x∈b.2.2.2.2.2.2,x.1.length≤140737488351232:=by
 obtain ⟨_,_,_,_,_,_,_,h2⟩:=h
 exact fun x hx=>(h2 x hx).1.1
theorem Id (b : Bo) (hb : ∀ x ∈ b.2.2.2.2.2.2, x.1.length ≤ 140737488351232) : gy b = some false ∨ (gy b = some true ∧ Few b) := by
 obtain ⟨u,n,B,L,R,S,X⟩:=b
 unfold gy
 dsimp only at *
 have e1:((((decide (20 < (((B.length:Nat):Int))))||(decide (10 < (((L.length:Nat):Int)))))||(decide (4 < (((S.length:Nat):Int)))))||(decide (8 < (((X.length:Nat):Int)))))=decide (20 < B.length∨10 < L.length∨4 < S.length∨8 < X.length):=by
   by_cases h1:20 < B.length <;> by_cases h2:10 < L.length <;> by_cases h3:4 < S.length <;> by_cases h4:8 < X.length <;> simp [h1,h2,h3,h4] <;> omega
 rw [e1]
 by_cases h0:20 < B.length∨10 < L.length∨4 < S.length∨8 < X.length
 . rw [decide_eq_true h0]; exact .inl rfl
 . rw [decide_eq_false h0,cond_false,sW]
   by_cases q:R.length≤20
   . have e:decide (((R.length:Nat):Int)≤20)=true:=by simp; omega
     simp only [Option.bind_some,e,Bool.not_true,cond_false]
     rw [zS (body:=uC (u,n,B,L,R,S,X)) (xa:=L) (by omega) (fun i=>rfl)]
     cases hf:L.any (fun t=>!decide (t.length≤20)) with
     | true=>exact .inl rfl
     | false =>
       simp only [Bool.false_eq_true,if_false,Option.bind_some]
       have hS:∃ t,loop (ik (u,n,B,L,R,S,X)) 0=some t∧(t = .inr false∨(t = .inl ()∧∀ s∈S,s.2.1.length≤20∧s.2.2.1.length≤20∧s.2.2.2.length≤20∧∀ t∈s.2.2.1,t.length≤20)):=by
         have hl:=eX (body:=ik (u,n,B,L,R,S,X)) (fun k=>∃ h:k < S.length,eV S[k]=some false) (fun k:Nat=>(k:Int)) S.length (fun _ => .inr false) (.inl ()) ?_ ?_ ?_
         . rcases hl with ⟨k,_,_,_,h4⟩ | ⟨h1,h2⟩
           . exact ⟨_,h4,.inl rfl⟩
           . refine ⟨_,h2,.inr ⟨rfl,fun s hs=>?_⟩⟩
             obtain ⟨k,hk,rfl⟩:=List.getElem_of_mem hs
             rcases zq S[k] with h | ⟨h,f1,f2,f3,f4⟩
             . exact absurd ⟨hk,h⟩ (h1 k hk)
             . exact ⟨f1,f2,f3,f4⟩
         . intro k hk hp
           unfold ik
           rcases zq S[k] with h | ⟨h,_⟩
           . exact absurd ⟨hk,h⟩ hp
           . simp only [dlt hk,cond_true,ah hk,Option.bind_some,show eV (S[k].1,S[k].2.1,S[k].2.2.1,S[k].2.2.2)=_ from h,ak hk (by omega:S.length≤9223372036854775807)]
             rfl
         . rintro k hk ⟨_,hp⟩
           unfold ik
           simp only [dlt hk,cond_true,ah hk,Option.bind_some,show eV (S[k].1,S[k].2.1,S[k].2.2.1,S[k].2.2.2)=_ from hp]
           rfl
         . simp [ik]
       obtain ⟨t,ht,hS⟩:=hS
       rw [ht]
       rcases hS with rfl | ⟨rfl,hS⟩
       . exact .inl rfl
       . simp only [Option.bind_some]
         have hX:=eX (body:=gg (u,n,B,L,R,S,X)) (fun k=>∃ h:k < X.length,(((decide (20 < ((((X[k]).2.2.2.2.1.length:Nat):Int))))||(decide (20 < ((((X[k]).2.2.2.2.2.1.length:Nat):Int)))))||(decide (20 < ((((X[k]).2.2.2.2.2.2.length:Nat):Int)))))=true) (fun k:Nat=>(((stm (X.take k):Nat):Int),(k:Int))) X.length (fun _ => .inr false) (.inl ((stm X:Nat):Int)) ?_ ?_ ?_
         . rcases hX with ⟨k,_,_,_,h4⟩ | ⟨h1,h2⟩
           . have h4':loop (gg (u,n,B,L,R,S,X)) (0,0)=some (.inr false):=by simpa [stm] using h4
             rw [h4']; exact .inl rfl
           . have h2':loop (gg (u,n,B,L,R,S,X)) (0,0)=some (.inl ((stm X:Nat):Int)):=by simpa [stm] using h2
             rw [h2']
             by_cases hm:stm X≤24
             . refine .inr ⟨by simp; omega,⟨by dsimp only; omega,by dsimp only; omega,ye hf,q,by dsimp only; omega,hS,by dsimp only; omega,fun x hx=>?_,hm⟩⟩
               obtain ⟨k,hk,rfl⟩:=List.getElem_of_mem hx
               have hn:=h1 k hk
               dsimp only at hk hn
               have hn2:(((decide (20 < ((((X[k]).2.2.2.2.1.length:Nat):Int))))||(decide (20 < ((((X[k]).2.2.2.2.2.1.length:Nat):Int)))))||(decide (20 < ((((X[k]).2.2.2.2.2.2.length:Nat):Int)))))=false:=by
                 cases hc:(((decide (20 < ((((X[k]).2.2.2.2.1.length:Nat):Int))))||(decide (20 < ((((X[k]).2.2.2.2.2.1.length:Nat):Int)))))||(decide (20 < ((((X[k]).2.2.2.2.2.2.length:Nat):Int))))) with
                 | false=>rfl
                 | true=>exact absurd ⟨hk,hc⟩ hn
               simp at hn2
               dsimp only
               omega
             . refine .inl ?_
               simp; omega
         . intro k hk hp
           have hn2:(((decide (20 < ((((X[k]).2.2.2.2.1.length:Nat):Int))))||(decide (20 < ((((X[k]).2.2.2.2.2.1.length:Nat):Int)))))||(decide (20 < ((((X[k]).2.2.2.2.2.2.length:Nat):Int)))))=false:=by
             cases hc:(((decide (20 < ((((X[k]).2.2.2.2.1.length:Nat):Int))))||(decide (20 < ((((X[k]).2.2.2.2.2.1.length:Nat):Int)))))||(decide (20 < ((((X[k]).2.2.2.2.2.2.length:Nat):Int))))) with
             | false=>rfl
             | true=>exact absurd ⟨hk,hc⟩ hp
           have a1:=hb X[k] (List.getElem_mem hk)
           have a2:stm (X.take k)≤k * 140737488351232:=by
             unfold stm
             have:∀ q:List Blk,(∀ x∈q,x∈X)→(q.map (fun x=>x.1.length)).sum≤q.length * 140737488351232:=by
               intro q
               induction q with
               | nil=>intro _; simp
               | cons x q ih =>
                 intro hq
                 have:=ih (fun y hy=>hq y (by simp [hy]))
                 have:=hb x (hq x (by simp))
                 simp only [List.map_cons,List.sum_cons,List.length_cons,Nat.succ_mul]; omega
             have h3:=this (X.take k) (fun x hx=>List.mem_of_mem_take hx)
             rw [List.length_take,Nat.min_eq_left (by omega)] at h3
             exact h3
           have a3:k≤8:=by omega
           have a4:k * 140737488351232≤8 * 140737488351232:=Nat.mul_le_mul_right _ a3
           unfold gg
           simp only [dlt hk,cond_true,ah hk,Option.bind_some,hn2,cond_false,ak hk (by omega:X.length≤9223372036854775807)]
           rw [w64 (by omega) (by omega),kU hk]
           simp
         . rintro k hk ⟨_,hp⟩
           unfold gg
           simp only [dlt hk,cond_true,ah hk,Option.bind_some,hp]
         . unfold gg
           simp
   . have e:decide (((R.length:Nat):Int)≤20)=false:=by simp; omega
     simp only [Option.bind_some,e]; exact .inl rfl
section
abbrev Flt:=Int×Int×Int×Int
def sE (L:List (List St)) (R:Int) (x:Stm):Int:=((bM x L R).getD ([],0)).2
def tE (a:Ar) (x:Tm):Int:=((bQ x a).getD ([],0)).2
def aE (b:Bo):Ar:=(((b.2.2.2.2.2.2.length:Nat):Int),b.2.1,b.2.2.2.1,b.2.2.2.2.1,b.2.2.2.2.2.1)
def co (b:Bo):Flt:=if b.1 < 1∨b.2.1 < b.1 then (7,0,0,0) else if 65536 < b.2.1 then (6,0,0,0) else (0,0,0,0)
def cV (b:Bo):Flt:=match b.2.2.1.findIdx? (aK b.1) with | some k=>(7,1,(k:Int),0) | none=>(0,0,0,0)
def b8 (b:Bo):Flt:=if b.2.2.2.1=[] then (14,2,0,0) else match b.2.2.2.1.findIdx? (fun t=>!decide (rck b.2.1 t=0)) with | some k=>(rck b.2.1 (b.2.2.2.1.getD k []),2,(k:Int),0) | none=>(0,0,0,0)
def bB (b:Bo):Flt:=if rck b.1 b.2.2.2.2.1=0 then if shp b.2.2.2.2.1 (b.2.2.2.1.getD 0 []) then (0,3,0,0) else (8,3,0,0) else (rck b.1 b.2.2.2.2.1,3,0,0)
def cL (b:Bo):Flt:=match b.2.2.2.2.2.1.findIdx? (fun s=>!decide (chk s=0)) with | some k=>(chk (b.2.2.2.2.2.1.getD k (0,[],[],[])),4,(k:Int),0) | none=>(0,0,0,0)
def dI (b:Bo):Flt:=if b.2.2.2.2.2.2=[] then (14,5,0,0) else (0,0,0,0)
def aG (b:Bo) (x:Blk):Option (Int×Int×Int) :=
 match x.1.findIdx? (fun s=>!decide (sE b.2.2.2.1 b.2.1 s=0)) with
 | some j=>some (sE b.2.2.2.1 b.2.1 (x.1.getD j (0,0,0,0,false)),6,(j:Int))
 | none=>if tE (aE b) x.2=0 then none else some (tE (aE b) x.2,7,0)
def bO (k:Nat) (o:Option (Int×Int×Int)):Flt:=match o with | some (e,p,j)=>(e,p,(k:Int),j) | none=>(0,0,0,0)
def aM (b:Bo):Flt:=match b.2.2.2.2.2.2.findIdx? (fun x=>(aG b x).isSome) with | some k=>bO k (aG b (b.2.2.2.2.2.2.getD k ([],0,0,0,[],[],[]))) | none=>(0,0,0,0)
def or0 (a b:Flt):Flt:=if a.1=0 then b else a
def vck (b:Bo):Flt:=or0 (co b) (or0 (cV b) (or0 (b8 b) (or0 (bB b) (or0 (cL b) (or0 (dI b) (aM b))))))
theorem vx {t:List St} (n:Int) (h:t.length≤20):dj t n=some (rck n t):=ne t n (by omega)
section
variable {b:Bo} (h:Sm b)
include h
theorem zz {x:Stm}:∃ l,eS x b.2.2.2.1 b.2.1=some (l,sE b.2.2.2.1 b.2.1 x)∧bM x b.2.2.2.1 b.2.1=some (l,sE b.2.2.2.1 b.2.1 x):=by
 obtain ⟨l,e,h1,h2,_⟩:=uO x b.2.2.2.1 b.2.1 h.loc
 have:sE b.2.2.2.1 b.2.1 x=e:=by unfold sE; rw [h2]; rfl
 exact ⟨l,by rw [h1,this],by rw [h2,this]⟩
theorem zk {x:Blk} (hx:x∈b.2.2.2.2.2.2):∃ l,di x.2 (aE b)=some (l,tE (aE b) x.2)∧bQ x.2 (aE b)=some (l,tE (aE b) x.2):=by
 obtain ⟨a1,a2,a3⟩:=h.term x hx
 obtain ⟨l,e,h1,h2,_⟩:=xG x.2 (aE b) a1 a2 a3 h.ret h.loc h.sig
 have:tE (aE b) x.2=e:=by unfold tE; rw [h2]; rfl
 exact ⟨l,by rw [h1,this],by rw [h2,this]⟩
theorem sgl {s:Sg} (hs:s∈b.2.2.2.2.2.1):cP s=some (chk s):=by
 obtain ⟨a1,a2,a3,a4⟩:=h.sig s hs
 exact uR s (by omega) (fun t ht=>by have:=a4 t ht; omega)
theorem BQ:gB b=some (or0 (co b) (cV b)):=by
 have h1:=h.bounds
 obtain ⟨u,n,B,L,R,S,X⟩:=b
 unfold gB co cV or0
 dsimp only at *
 by_cases q:u < 1∨n < u
 . have:(decide (u < 1)||decide (n < u))=true:=by simpa using q
   rw [this,if_pos q]; rfl
 . have:(decide (u < 1)||decide (n < u))=false:=by simpa using q
   rw [this,if_neg q,cond_false]
   by_cases q2:65536 < n
   . rw [decide_eq_true q2,if_pos q2]; rfl
   . rw [decide_eq_false q2,if_neg q2,cond_false,decide_eq_false (by omega),cond_false,aS (body:=gl (u,n,B,L,R,S,X)) B (aK u) (fun k=>(.inr (7,1,(k:Int),0):Unit⊕Flt)) (.inl ()) ?_ ?_]
     . cases B.findIdx? (aK u) <;> rfl
     . intro k hk
       unfold gl
       simp only [dlt hk,cond_true,ah hk,Option.bind_some,ak hk (by omega:B.length≤9223372036854775807)]
       show cond (aK u B[k]) _ _=_
       cases aK u B[k] <;> rfl
     . simp [gl]
theorem A3:gz b=some (or0 (b8 b) (or0 (bB b) (cL b))):=by
 have h1:=h.locals
 have h2:=h.sigs
 have h3:=h.ret
 have h4:=h.loc
 obtain ⟨u,n,B,L,R,S,X⟩:=b
 unfold gz b8 bB cL
 dsimp only at *
 by_cases q:L=[]
 . subst q; rfl
 . have q' : ¬ ((L.length : Nat) : Int) = 0 := fun hc => q (List.length_eq_zero_iff.1 (by omega))
   rw [if_neg q,decide_eq_false q',cond_false,decide_eq_false (by omega),cond_false,aS (body:=gf (u,n,B,L,R,S,X)) L (fun t=>!decide (rck n t=0)) (fun k=>(.inr (rck n (L.getD k []),2,(k:Int),0):Unit⊕Flt)) (.inl ()) ?_ ?_]
   . cases hf:L.findIdx? (fun t=>!decide (rck n t=0)) with
     | some k =>
       obtain ⟨hk,h5,_⟩:=List.findIdx?_eq_some_iff_getElem.1 hf
       have e:L.getD k []=L[k]:=by simp [List.getD,hk]
       have:¬ rck n L[k]=0:=by simpa using h5
       simp only [or0,e,if_neg this]; rfl
     | none =>
       have hp:0 < L.length:=List.length_pos_iff.2 q
       have e0:L.getD 0 []=L[0]:=by simp [List.getD,hp]
       simp only [Option.bind_some,iE]
       by_cases q2:rck u R=0
       . have g0:aa L 0=some L[0]:=ah (k:=0) hp
         simp only [q2,decide_true,Bool.not_true,cond_false,g0,Option.bind_some,e0]
         rw [kF _ _ (by have:=h4 L[0] (List.getElem_mem hp); omega),fh,Option.bind_some]
         cases hs:shp R L[0] with
         | false=>rfl
         | true =>
           simp only [Bool.not_true,cond_false]
           rw [decide_eq_false (by omega),cond_false,aS (body:=ge (u,n,B,L,R,S,X)) S (fun s=>!decide (chk s=0)) (fun k=>(.inr (chk (S.getD k (0,[],[],[])),4,(k:Int),0):Unit⊕Flt)) (.inl ()) ?_ ?_]
           . cases S.findIdx? (fun s=>!decide (chk s=0)) <;> rfl
           . intro k hk
             unfold ge
             have e:S.getD k (0,[],[],[])=S[k]:=by simp [List.getD,hk]
             simp only [dlt hk,cond_true,ah hk,Option.bind_some,ak hk (by omega:S.length≤9223372036854775807),e,show eR (S[k].1,S[k].2.1,S[k].2.2.1,S[k].2.2.2)=_ from qB S[k]]
             cases (!decide (chk S[k]=0)) <;> rfl
           . simp [ge]
       . simp [q2,or0]
   . intro k hk
     unfold gf
     have e:L.getD k []=L[k]:=by simp [List.getD,hk]
     simp only [dlt hk,cond_true,ah hk,Option.bind_some,ak hk (by omega:L.length≤9223372036854775807),e,iE]
     cases (!decide (rck n L[k]=0)) <;> rfl
   . simp [gf]
theorem AP:dU b=some (or0 (dI b) (aM b)):=by
 have h1:=h.blocks
 have h2:=h.many
 have hst:=fun x (hx:x∈b.2.2.2.2.2.2)=>h.stmts hx
 have hT:=fun x (hx:x∈b.2.2.2.2.2.2)=>zk h hx
 have hS:=fun x=>zz h (x:=x)
 unfold dU dI aM
 by_cases q:b.2.2.2.2.2.2=[]
 . rw [if_pos q,q]; rfl
 . have q' : ¬ ((b.2.2.2.2.2.2.length : Nat) : Int) = 0 := fun hc => q (List.length_eq_zero_iff.1 (by omega))
   rw [if_neg q,decide_eq_false q',cond_false,decide_eq_false (by omega),cond_false]
   have hl1:=aF (body:=ij b) (fun k:Nat=>(((stm (b.2.2.2.2.2.2.take k):Nat):Int),(k:Int))) b.2.2.2.2.2.2.length (b := .inl ()) ?_ ?_
   . have hl1':loop (ij b) (0,0)=some (.inl ()):=by simpa [stm] using hl1
     rw [hl1',Option.bind_some]
     dsimp only
     rw [aS (body:=fU b) b.2.2.2.2.2.2 (fun x=>(aG b x).isSome) (fun k=>(.inr (bO k (aG b (b.2.2.2.2.2.2.getD k ([],0,0,0,[],[],[])))):Unit⊕Flt)) (.inl ()) ?_ ?_]
     . cases b.2.2.2.2.2.2.findIdx? (fun x=>(aG b x).isSome) <;> rfl
     . intro k hk
       unfold fU
       have e:b.2.2.2.2.2.2.getD k ([],0,0,0,[],[],[])=b.2.2.2.2.2.2[k]:=by simp [List.getD,hk]
       obtain ⟨l,_,hT'⟩:=hT _ (List.getElem_mem hk)
       have hst':=hst _ (List.getElem_mem hk)
       simp only [dlt hk,cond_true,ah hk,Option.bind_some,ak hk (by omega:b.2.2.2.2.2.2.length≤9223372036854775807),e]
       generalize b.2.2.2.2.2.2[k]=x at *
       rw [aS (body:=fW b k x) x.1 (fun s=>!decide (sE b.2.2.2.1 b.2.1 s=0)) (fun j=>(.inr (.inr (.inr (sE b.2.2.2.1 b.2.1 (x.1.getD j (0,0,0,0,false)),6,(k:Int),(j:Int)))):Unit⊕(Int⊕(Unit⊕Flt)))) (.inl ()) ?_ ?_]
       . unfold aG
         cases hf:x.1.findIdx? (fun s=>!decide (sE b.2.2.2.1 b.2.1 s=0)) with
         | some j=>rfl
         | none =>
           simp only [Option.bind_some]
           rw [show bQ (x.2.1,x.2.2.1,x.2.2.2.1,x.2.2.2.2.1,x.2.2.2.2.2.1,x.2.2.2.2.2.2) (((b.2.2.2.2.2.2.length:Nat):Int),b.2.1,b.2.2.2.1,b.2.2.2.2.1,b.2.2.2.2.2.1)=_ from hT',Option.bind_some]
           by_cases q3:tE (aE b) x.2=0
           . simp [q3]
           . simp [q3,bO]
       . intro j hj
         obtain ⟨l,_,hS'⟩:=hS x.1[j]
         have e2:x.1.getD j (0,0,0,0,false)=x.1[j]:=by simp [List.getD,hj]
         unfold fW
         simp only [dlt hj,cond_true,ah hj,Option.bind_some,ak hj (by omega:x.1.length≤9223372036854775807),e2,show bM (x.1[j].1,x.1[j].2.1,x.1[j].2.2.1,x.1[j].2.2.2.1,x.1[j].2.2.2.2) b.2.2.2.1 b.2.1=_ from hS']
         cases (!decide (sE b.2.2.2.1 b.2.1 x.1[j]=0)) <;> rfl
       . simp [fW]
     . simp [fU]
   . intro k hk
     have a1:=kU hk
     have a2:=nO (fun x:Blk=>x.1.length) b.2.2.2.2.2.2 (k + 1)
     have a3:stm (b.2.2.2.2.2.2.take (k + 1))≤stm b.2.2.2.2.2.2:=a2
     unfold ij
     simp only [dlt hk,cond_true,ah hk,Option.bind_some,ak hk (by omega:b.2.2.2.2.2.2.length≤9223372036854775807)]
     rw [w64 (by omega) (by omega),decide_eq_false (by omega),cond_false,a1]
     simp
   . unfold ij
     simp
theorem A8:dV b=some (vck b):=by
 unfold dV vck
 rw [show gB b=_ from BQ h,show gz b=_ from A3 h,show dU b=_ from AP h]
 generalize co b=v1
 generalize cV b=v2
 generalize b8 b=v3
 generalize bB b=v4
 generalize cL b=v5
 generalize or0 (dI b) (aM b)=v6
 simp only [Option.bind_some]
 have key:∀ a c:Flt,(cond (!decide ((or0 a c).1=0)) (some ((or0 a c).1,(or0 a c).2.1,(or0 a c).2.2.1,(or0 a c).2.2.2)) none:Option Flt)=(cond (!decide ((or0 a c).1=0)) (some (or0 a c)) none):=fun a c=>rfl
 unfold or0
 by_cases q1:v1.1=0 <;> by_cases q2:v2.1=0 <;> by_cases q3:v3.1=0 <;> by_cases q4:v4.1=0 <;> by_cases q5:v5.1=0 <;> simp [q1,q2,q3,q4,q5]
end
end
section
theorem vu {b:Bo}:(aM b).1=0→aM b=(0,0,0,0):=by
 unfold aM
 cases hf:b.2.2.2.2.2.2.findIdx? (fun x=>(aG b x).isSome) with
 | none=>intro _; rfl
 | some k =>
   obtain ⟨hk,h5,_⟩:=List.findIdx?_eq_some_iff_getElem.1 hf
   have e:b.2.2.2.2.2.2.getD k ([],0,0,0,[],[],[])=b.2.2.2.2.2.2[k]:=by simp [List.getD,hk]
   simp only [e]
   intro hz
   exfalso
   generalize b.2.2.2.2.2.2[k]=x at *
   unfold aG at hz h5
   cases hg:x.1.findIdx? (fun s=>!decide (sE b.2.2.2.1 b.2.1 s=0)) with
   | some j =>
     obtain ⟨hj,h6,_⟩:=List.findIdx?_eq_some_iff_getElem.1 hg
     have e2:x.1.getD j (0,0,0,0,false)=x.1[j]:=by simp [List.getD,hj]
     rw [hg] at hz
     simp only [bO,e2] at hz
     simp [hz] at h6
   | none =>
     rw [hg] at hz h5
     by_cases q:tE (aE b) x.2=0
     . simp [q] at h5
     . simp [q,bO] at hz
section
variable {b:Bo} (h:Sm b)
include h
theorem BY:fX b=some (cV b):=by
 have h1:=h.bounds
 unfold fX cV
 rw [decide_eq_false (by omega),cond_false,aS (body:=fP b) b.2.2.1 (aK b.1) (fun k=>(.inr (7,1,(k:Int),0):Unit⊕Flt)) (.inl ()) ?_ ?_]
 . cases b.2.2.1.findIdx? (aK b.1) <;> rfl
 . intro k hk
   unfold fP jO aR
   simp only [dlt hk,cond_true,ah hk,Option.bind_some,ak hk (by omega:b.2.2.1.length≤9223372036854775807)]
   generalize b.2.2.1[k]=x
   obtain ⟨x1,x2⟩:=x
   have e (x:Int):(!((decide (0≤x))&&(decide (x < b.1))))=(decide (x < 0)||decide (b.1≤x)):=by
     by_cases p:x < 0 <;> by_cases q:b.1≤x <;> simp [p,q] <;> omega
   simp only [e,aK]
   by_cases p1:x1 < 0 <;> by_cases p2:b.1≤x1 <;> by_cases p3:x2 < 0 <;> by_cases p4:b.1≤x2 <;> simp [p1,p2,p3,p4]
 . simp [fP]
theorem E6:fY b=some (b8 b):=by
 have h1:=h.locals
 have h4:=h.loc
 unfold fY b8
 by_cases q:b.2.2.2.1=[]
 . rw [if_pos q,q]; rfl
 . have q':¬ ((b.2.2.2.1.length:Nat):Int)=0:=fun hc=>q (List.length_eq_zero_iff.1 (by omega))
   rw [if_neg q,decide_eq_false q',cond_false,decide_eq_false (by omega),cond_false,aS (body:=fO b) b.2.2.2.1 (fun t=>!decide (rck b.2.1 t=0)) (fun k=>(.inr (rck b.2.1 (b.2.2.2.1.getD k []),2,(k:Int),0):Unit⊕Flt)) (.inl ()) ?_ ?_]
   . cases b.2.2.2.1.findIdx? (fun t=>!decide (rck b.2.1 t=0)) <;> rfl
   . intro k hk
     unfold fO aR
     have e:b.2.2.2.1.getD k []=b.2.2.2.1[k]:=by simp [List.getD,hk]
     simp only [dlt hk,cond_true,ah hk,Option.bind_some,ak hk (by omega:b.2.2.2.1.length≤9223372036854775807),e,vx _ (h4 _ (List.getElem_mem hk))]
     cases (!decide (rck b.2.1 b.2.2.2.1[k]=0)) <;> rfl
   . simp [fO]
theorem E8 (hL:b.2.2.2.1≠[]):dT b=some (bB b):=by
 have h3:=h.ret
 unfold dT bB
 have hp:0 < b.2.2.2.1.length:=List.length_pos_iff.2 hL
 have e0:b.2.2.2.1.getD 0 []=b.2.2.2.1[0]:=by simp [List.getD,hp]
 have g0:aa b.2.2.2.1 0=some b.2.2.2.1[0]:=ah (k:=0) hp
 rw [vx _ h3,Option.bind_some,g0,Option.bind_some,gF _ _ (by omega),e0,Option.bind_some]
 by_cases q:rck b.1 b.2.2.2.2.1=0
 . rw [if_pos q,q]
   cases shp b.2.2.2.2.1 b.2.2.2.1[0] <;> rfl
 . rw [if_neg q,decide_eq_false q]; rfl
theorem ES:gh b=some (cL b):=by
 have h1:=h.sigs
 have hs:=fun s (hs:s∈b.2.2.2.2.2.1)=>sgl h hs
 unfold gh cL
 rw [decide_eq_false (by omega),cond_false,aS (body:=fS b) b.2.2.2.2.2.1 (fun s=>!decide (chk s=0)) (fun k=>(.inr (chk (b.2.2.2.2.2.1.getD k (0,[],[],[])),4,(k:Int),0):Unit⊕Flt)) (.inl ()) ?_ ?_]
 . cases b.2.2.2.2.2.1.findIdx? (fun s=>!decide (chk s=0)) <;> rfl
 . intro k hk
   unfold fS aR
   have e:b.2.2.2.2.2.1.getD k (0,[],[],[])=b.2.2.2.2.2.1[k]:=by simp [List.getD,hk]
   have hs':=hs _ (List.getElem_mem hk)
   simp only [dlt hk,cond_true,ah hk,Option.bind_some,ak hk (by omega:b.2.2.2.2.2.1.length≤9223372036854775807),e,show cP (b.2.2.2.2.2.1[k].1,b.2.2.2.2.2.1[k].2.1,b.2.2.2.2.2.1[k].2.2.1,b.2.2.2.2.2.1[k].2.2.2)=_ from hs']
   cases (!decide (chk b.2.2.2.2.2.1[k]=0)) <;> rfl
 . simp [fS]
theorem EF:fZ b=some (dI b):=by
 have h1:=h.blocks
 have h2:=h.many
 unfold fZ dI
 by_cases q:b.2.2.2.2.2.2=[]
 . rw [if_pos q,q]; rfl
 . have q':¬ ((b.2.2.2.2.2.2.length:Nat):Int)=0:=fun hc=>q (List.length_eq_zero_iff.1 (by omega))
   rw [if_neg q,decide_eq_false q',cond_false,decide_eq_false (by omega),cond_false]
   have hl1:=aF (body:=ie b) (fun k:Nat=>(((stm (b.2.2.2.2.2.2.take k):Nat):Int),(k:Int))) b.2.2.2.2.2.2.length (b := .inl ()) ?_ ?_
   . have hl1':loop (ie b) (0,0)=some (.inl ()):=by simpa [stm] using hl1
     rw [hl1']; rfl
   . intro k hk
     have a1:=kU hk
     have a2:=nO (fun x:Blk=>x.1.length) b.2.2.2.2.2.2 (k + 1)
     have a3:stm (b.2.2.2.2.2.2.take (k + 1))≤stm b.2.2.2.2.2.2:=a2
     unfold ie aR
     simp only [dlt hk,cond_true,ah hk,Option.bind_some,ak hk (by omega:b.2.2.2.2.2.2.length≤9223372036854775807)]
     rw [w64 (by omega) (by omega),decide_eq_false (by omega),cond_false,a1]
     simp
   . unfold ie
     simp
theorem Dp:dS b=some (aM b):=by
 have h1:=h.blocks
 have hst:=fun x (hx:x∈b.2.2.2.2.2.2)=>h.stmts hx
 have hT:=fun x (hx:x∈b.2.2.2.2.2.2)=>zk h hx
 have hS:=fun x=>zz h (x:=x)
 unfold dS aM
 rw [aS (body:=fT b) b.2.2.2.2.2.2 (fun x=>(aG b x).isSome) (fun k=>(.inr (bO k (aG b (b.2.2.2.2.2.2.getD k ([],0,0,0,[],[],[])))):Unit⊕Flt)) (.inl ()) ?_ ?_]
 . cases b.2.2.2.2.2.2.findIdx? (fun x=>(aG b x).isSome) <;> rfl
 . intro k hk
   unfold fT
   have e:b.2.2.2.2.2.2.getD k ([],0,0,0,[],[],[])=b.2.2.2.2.2.2[k]:=by simp [List.getD,hk]
   obtain ⟨l,hT',_⟩:=hT _ (List.getElem_mem hk)
   have hst':=hst _ (List.getElem_mem hk)
   simp only [dlt hk,cond_true,ah hk,Option.bind_some,ak hk (by omega:b.2.2.2.2.2.2.length≤9223372036854775807),e]
   generalize b.2.2.2.2.2.2[k]=x at *
   rw [aS (body:=fR b k x) x.1 (fun s=>!decide (sE b.2.2.2.1 b.2.1 s=0)) (fun j=>(.inr (.inr (.inr (sE b.2.2.2.1 b.2.1 (x.1.getD j (0,0,0,0,false)),6,(k:Int),(j:Int)))):Unit⊕(Int⊕(Unit⊕Flt)))) (.inl ()) ?_ ?_]
   . unfold aG
     cases hf:x.1.findIdx? (fun s=>!decide (sE b.2.2.2.1 b.2.1 s=0)) with
     | some j=>rfl
     | none =>
       simp only [Option.bind_some]
       unfold aR m6
       rw [Option.bind_some,show di (x.2.1,x.2.2.1,x.2.2.2.1,x.2.2.2.2.1,x.2.2.2.2.2.1,x.2.2.2.2.2.2) (((b.2.2.2.2.2.2.length:Nat):Int),b.2.1,b.2.2.2.1,b.2.2.2.2.1,b.2.2.2.2.2.1)=_ from hT',Option.bind_some]
       by_cases q3:tE (aE b) x.2=0
       . simp [q3]
       . simp [q3,bO]
   . intro j hj
     obtain ⟨l,hS',_⟩:=hS x.1[j]
     have e2:x.1.getD j (0,0,0,0,false)=x.1[j]:=by simp [List.getD,hj]
     unfold fR aR m7
     simp only [dlt hj,cond_true,ah hj,Option.bind_some,ak hj (by omega:x.1.length≤9223372036854775807),e2,show eS (x.1[j].1,x.1[j].2.1,x.1[j].2.2.1,x.1[j].2.2.2.1,x.1[j].2.2.2.2) b.2.2.2.1 b.2.1=_ from hS']
     cases (!decide (sE b.2.2.2.1 b.2.1 x.1[j]=0)) <;> rfl
   . simp [fR]
 . simp [fT]
theorem uL:eO b=some (vck b):=by
 unfold eO vck aR
 have hh:gm b=some (co b):=by
   unfold gm co
   by_cases q:b.1 < 1∨b.2.1 < b.1
   . have:(decide (b.1 < 1)||decide (b.2.1 < b.1))=true:=by simpa using q
     rw [this,if_pos q]; rfl
   . have:(decide (b.1 < 1)||decide (b.2.1 < b.1))=false:=by simpa using q
     rw [this,if_neg q,cond_false]
     by_cases q2:65536 < b.2.1
     . rw [decide_eq_true q2,if_pos q2]; rfl
     . rw [decide_eq_false q2,if_neg q2]; rfl
 rw [Option.bind_some,show gm b=_ from hh,show fX b=_ from BY h,show fY b=_ from E6 h,
   show gh b=_ from ES h,show fZ b=_ from EF h,show dS b=_ from Dp h]
 have hret:(b8 b).1=0→dT b=some (bB b):=by
   intro hz
   refine E8 h (fun hc=>?_)
   unfold b8 at hz
   rw [if_pos hc] at hz; cases hz
 have hz6:(aM b).1=0→aM b=(0,0,0,0):=vu
 generalize co b=v1
 generalize cV b=v2
 generalize b8 b=v3 at *
 generalize bB b=v4 at *
 generalize cL b=v5
 generalize dI b=v6
 generalize aM b=v7 at *
 unfold or0
 by_cases q1:v1.1=0 <;> by_cases q2:v2.1=0 <;> by_cases q3:v3.1=0 <;> by_cases q4:v4.1=0 <;> by_cases q5:v5.1=0 <;> by_cases q6:v6.1=0 <;> by_cases q7:v7.1=0 <;> simp_all
end
end
theorem Ga (L:List (List St)) (R:Int):sE L R (0,0,0,0,false)=0:=by
 unfold sE
 have:bM (0,0,0,0,false) L R=some ([],0):=by
   unfold bM
   rw [show eT ((0:Int),0,0,0,false)=_ from kH (0,0,0,0,false)]
   rfl
 rw [this]; rfl
theorem Gn {a:Ar} {t:List St} {L:List (List St)} (h:a.2.2.1=t :: L) (hs:shp t a.2.2.2.1=true) (ht:t.length≤20):tE a (3,0,0,[],[],[])=0:=by
 unfold tE
 have:∃ l,bQ (3,0,0,[],[],[]) a=some (l,0):=by
   unfold bQ
   rw [show dh ((3:Int),0,0,[],[],[])=_ from iD (3,0,0,[],[],[])]
   simp only [cQ _ _ (show ([]:List Int).length≤1000 by simp)]
   have h0:aa a.2.2.1 0=some t:=by rw [h]; rfl
   have h1:¬ ((a.2.2.1.length:Nat):Int)=0:=by rw [h]; simp; omega
   have h2:¬ a.2.2.1=[]:=by rw [h]; simp
   rw [h0]
   simp only [Option.bind_some]
   rw [gG t a.2.2.2.1 7 0 (by omega) (by decide) (by decide),hs]
   refine ⟨rel 7 0 t a.2.2.2.1,?_⟩
   have e1:bf (3,0,0,[],[],[])=0:=by decide
   have e2:∀ n,bad n []=false:=fun n=>rfl
   simp [e1,e2,h1,h2]
 obtain ⟨l,hl⟩:=this
 rw [hl]; rfl
def bg (X:List Blk) (k:Nat):Nat:=stm (X.take k) + k
theorem bS {X:List Blk} {k:Nat} (hk:k < X.length):bg X (k + 1)=bg X k + X[k].1.length + 1:=by
 unfold bg; rw [kU hk]; omega
theorem cW (X:List Blk) {i j:Nat} (h:i≤j) (hj:j≤X.length):bg X i≤bg X j:=by
 induction j with
 | zero => have : i = 0 := by omega
           subst this; exact Nat.le_refl _
 | succ j ih =>
   by_cases q:i=j + 1
   . subst q; exact Nat.le_refl _
   . have:=ih (by omega) (by omega)
     rw [bS (by omega)]; omega
theorem GZ (X:List Blk) {i j:Nat} (h:i < j) (hj:j≤X.length):bg X i < bg X j:=by
 have h1:=cW X (i:=i + 1) (j:=j) h hj
 have h2:=bS (X:=X) (k:=i) (by omega)
 omega
def bgs (X:List Blk):List Int:=(List.range X.length).map fun k=>((bg X k:Nat):Int)
theorem nZ (X:List Blk):(bgs X).length=X.length:=by simp [bgs]
theorem oc (X:List Blk) {k:Nat} (hk:k < X.length):aa (bgs X) (k:Int)=some ((bg X k:Nat):Int):=by
 rw [ah (by rw [nZ]; exact hk)]; simp [bgs]
def lN (i n:Nat):List (Int×Int×Bool):=(List.range (n + 1)).map fun (k:Nat)=>((i:Int),(k:Int),decide (k=n))
def cF (X:List Blk):Nat→List (Int×Int×Bool)
 | 0=>[]
 | i + 1=>cF X i++lN i (X.getD i ([],0,0,0,[],[],[])).1.length
theorem ce {α:Type} {l:List α} {k:Nat} {d:α} (hk:k < l.length):l.getD k d=l[k]:=by simp [List.getD,hk]
theorem nL (X:List Blk):∀ i,i≤X.length→(cF X i).length=bg X i
 | 0,_=>by simp [cF,bg,stm]
 | i + 1,h=>by
   have ih:=nL X i (by omega)
   rw [bS (by omega)]
   simp only [cF,List.length_append,ih,lN,List.length_map,List.length_range,ce (show i < X.length by omega)]; omega
theorem wL (X:List Blk):∀ i,i≤X.length→∀ j k,j < i→(hj:j < X.length)→k≤X[j].1.length→(cF X i)[bg X j + k]? = some ((j:Int),(k:Int),decide (k=X[j].1.length))
 | 0,_,j,k,h,_,_=>by omega
 | i + 1,h,j,k,hji,hj,hk=>by
   have hl:=nL X i (by omega)
   unfold cF
   by_cases q:j=i
   . subst q
     rw [List.getElem?_append_right (by omega),hl,Nat.add_sub_cancel_left,ce hj]
     unfold lN
     rw [List.getElem?_map,List.getElem?_range (by omega)]; rfl
   . have h1:=cW X (i:=j + 1) (j:=i) (by omega) (by omega)
     rw [bS hj] at h1
     rw [List.getElem?_append_left (by omega)]
     exact wL X i (by omega) j k (by omega) hj hk
abbrev aV (X:List Blk):List (Int×Int×Bool):=cF X X.length
theorem nQ (X:List Blk):(aV X).length=bg X X.length:=nL X _ (Nat.le_refl _)
theorem kP (X:List Blk) {j k:Nat} (hj:j < X.length) (hk:k≤X[j].1.length):(aV X)[bg X j + k]? = some ((j:Int),(k:Int),decide (k=X[j].1.length)):=wL X _ (Nat.le_refl _) j k hj hj hk
theorem gP (X:List Blk):∀ i,i≤X.length→∀ n,n < bg X i→∃ j k,∃ hj:j < X.length,k≤X[j].1.length∧n=bg X j + k∧j < i
 | 0,_,n,h=>by simp [bg,stm] at h
 | i + 1,h,n,hn=>by
   rw [bS (show i < X.length by omega)] at hn
   by_cases q:n < bg X i
   . obtain ⟨j,k,hj,h1,h2,h3⟩:=gP X i (by omega) n q
     exact ⟨j,k,hj,h1,h2,by omega⟩
   . exact ⟨i,n - bg X i,by omega,by omega,by omega,by omega⟩
theorem kS {b:Bo} (h:Sm b) {k:Nat} (hk:k≤b.2.2.2.2.2.2.length):bg b.2.2.2.2.2.2 k≤131072:=by
 have a2:=nO (fun x:Blk=>x.1.length) b.2.2.2.2.2.2 k
 have a3:stm (b.2.2.2.2.2.2.take k)≤stm b.2.2.2.2.2.2:=a2
 have:=h.many
 have:=h.blocks
 unfold bg; omega
def xs (b:Bo):List Blk:=if (vck b).1=0 then b.2.2.2.2.2.2 else []
theorem kT {b:Bo} (h:Sm b) {k:Nat} (hk:k≤(xs b).length):bg (xs b) k≤131072∧(xs b).length≤65536:=by
 unfold xs at *
 split
 . rename_i q; rw [if_pos q] at hk; exact ⟨kS h hk,h.blocks⟩
 . rename_i q; rw [if_neg q] at hk
   obtain rfl:k=0:=by simpa using hk
   simp [bg,stm]
theorem uU {b:Bo} (h:Sm b):dm b=some (some (bgs (xs b),((bg (xs b) (xs b).length:Nat):Int))):=by
 unfold dm ni
 rw [show eO b=_ from uL h]
 simp only [Option.bind_some]
 unfold xs
 by_cases q:(vck b).1=0
 . have h1:=h.blocks
   rw [decide_eq_true q,Bool.not_true,cond_false,if_pos q]
   have hl:=aF (body:=kl b) (fun k:Nat=>((k:Int),(List.range k).map (fun i=>((bg b.2.2.2.2.2.2 i:Nat):Int)),((bg b.2.2.2.2.2.2 k:Nat):Int))) b.2.2.2.2.2.2.length (b:=(bgs b.2.2.2.2.2.2,((bg b.2.2.2.2.2.2 b.2.2.2.2.2.2.length:Nat):Int))) ?_ ?_
   . have hl':loop (kl b) (0,[],0)=some (bgs b.2.2.2.2.2.2,((bg b.2.2.2.2.2.2 b.2.2.2.2.2.2.length:Nat):Int)):=by simpa [bg,stm] using hl
     rw [hl']; rfl
   . intro k hk
     have a1:=kS h (k:=k) (by omega)
     have a2:=kS h (k:=k + 1) (by omega)
     have a3:=bS hk
     unfold kl
     simp only [dlt hk,cond_true,ah hk,Option.bind_some]
     rw [aI (by simp; omega),Option.bind_some,ak hk (by omega),w64 (x:=((b.2.2.2.2.2.2[k].1.length:Nat):Int) + 1) (by omega) (by omega),w64 (by omega) (by omega),a3,List.range_succ,List.map_append]
     simp only [Option.some.injEq,Sum.inl.injEq,Prod.mk.injEq,true_and,List.map_cons,List.map_nil]
     omega
   . unfold kl
     simp [bgs]
 . rw [decide_eq_false q,if_neg q]; rfl
theorem ri {b:Bo} (h:Sm b):cx b=some (aV (xs b)):=by
 unfold cx eW
 rw [show dV b=_ from A8 h]
 simp only [Option.bind_some]
 unfold xs
 by_cases q:(vck b).1=0
 . have h1:=h.blocks
   rw [decide_eq_true q,Bool.not_true,cond_false,if_pos q]
   have hl:=aF (body:=kj b) (fun k:Nat=>(cF b.2.2.2.2.2.2 k,(k:Int))) b.2.2.2.2.2.2.length (b:=aV b.2.2.2.2.2.2) ?_ ?_
   . rw [show loop (kj b) ([],0)=_ from hl]; rfl
   . intro k hk
     have a1:=kS h (k:=k) (by omega)
     have a2:=kS h (k:=k + 1) (by omega)
     have a3:=bS hk
     have a4:=nL b.2.2.2.2.2.2 k (by omega)
     unfold kj
     simp only [dlt hk,cond_true,ah hk,Option.bind_some]
     have hin:=aF (body:=kd (k:Int) b.2.2.2.2.2.2[k]) (fun j:Nat=>(cF b.2.2.2.2.2.2 k++(List.range j).map (fun (i:Nat)=>((k:Int),(i:Int),decide (i=b.2.2.2.2.2.2[k].1.length))),(j:Int))) (b.2.2.2.2.2.2[k].1.length + 1) (b:=cF b.2.2.2.2.2.2 k++lN k b.2.2.2.2.2.2[k].1.length) ?_ ?_
     . have hin':loop (kd (k:Int) b.2.2.2.2.2.2[k]) (cF b.2.2.2.2.2.2 k,0)=some (cF b.2.2.2.2.2.2 k++lN k b.2.2.2.2.2.2[k].1.length):=by simpa using hin
       rw [hin',Option.bind_some,ak hk (by omega)]
       simp only [cF,ce hk]
     . intro j hj
       unfold kd
       dsimp only
       rw [decide_eq_true (by omega),cond_true,aI (by simp; omega),Option.bind_some,w64 (by omega) (by omega),List.range_succ,List.map_append]
       have e:decide ((j:Int)=((b.2.2.2.2.2.2[k].1.length:Nat):Int))=decide (j=b.2.2.2.2.2.2[k].1.length):=by
         by_cases c:j=b.2.2.2.2.2.2[k].1.length <;> simp [c] <;> omega
       rw [e]
       simp
     . unfold kd
       dsimp only
       rw [decide_eq_false (by omega)]
       rfl
   . unfold kj
     simp
 . rw [decide_eq_false q,if_neg q]; rfl
theorem Gb {a c:Nat} (h:a + c≤1000000):IntKind.wrap .i64 (Int.fdiv (IntKind.wrap .u64 (IntKind.wrap .i64 ((a:Int) + (c:Int)))) (2 ^ (min (Int.toNat 1) (IntKind.bits .u64))))=(((a + c) / 2:Nat):Int):=by
 have e1:IntKind.wrap .i64 ((a:Int) + (c:Int))=((a + c:Nat):Int):=by rw [w64 (by omega) (by omega)]; omega
 have e2:IntKind.wrap .u64 ((a + c:Nat):Int)=((a + c:Nat):Int):=by
   show ((a + c:Nat):Int) % 2 ^ 64=_
   omega
 have e3:(2:Int) ^ (min (Int.toNat 1) (IntKind.bits .u64))=2:=by decide
 rw [e1,e2,e3,Int.fdiv_eq_ediv_of_nonneg _ (by omega),w64 (by omega) (by omega)]
 omega
theorem CS {X:List Blk} (hX:X.length≤400000) {t:Int} {j k:Nat} (hj:j < X.length) (hk:k≤X[j].1.length) {n:Nat} (hn:n=bg X j + k) :
   lV ((X.length:Nat):Int) (some (bgs X,t)) (n:Int)=some ((j + 1:Nat):Int):=by
 unfold lV
 have pr:∀ i,i < X.length→(n < bg X i↔j < i):=by
   intro i hi
   constructor
   . intro h
     by_cases q:j < i
     . exact q
     . have:=cW X (i:=i) (j:=j) (by omega) (by omega); omega
   . intro h
     have h1:=cW X (i:=j + 1) (j:=i) h (by omega)
     rw [bS hj] at h1; omega
 have key:=d8 (body:=pV (some (bgs X,t)) (n:Int)) (fun s:Int×Int=>∃ a c:Nat,s=((a:Int),(c:Int))∧a≤j + 1∧j + 1≤c∧c≤X.length) (fun s=>(s.2 - s.1).toNat) (Q:=fun r=>r=((j + 1:Nat):Int)) ?_ (s:=(0,((X.length:Nat):Int))) ⟨0,X.length,rfl,by omega,by omega,by omega⟩
 . obtain ⟨r,h1,h2⟩:=key
   rw [h1,h2]; rfl
 . rintro _ ⟨a,c,rfl,h1,h2,h3⟩
   unfold pV pY
   dsimp only
   by_cases q:a < c
   . have hm:(a + c) / 2 < X.length:=by omega
     simp only [dlt q,cond_true,Gb (show a + c≤1000000 by omega),Option.bind_some,oc X hm]
     by_cases q2:j < (a + c) / 2
     . have:=(pr _ hm).2 q2
       rw [decide_eq_true (by omega),Bool.not_true,cond_false]
       refine .inl ⟨_,rfl,⟨a,(a + c) / 2,rfl,h1,by omega,by omega⟩,by dsimp only; omega⟩
     . have:¬ n < bg X ((a + c) / 2):=fun hc=>q2 ((pr _ hm).1 hc)
       rw [decide_eq_false (by omega),Bool.not_false,cond_true,w64 (by omega) (by omega)]
       refine .inl ⟨_,rfl,⟨(a + c) / 2 + 1,c,rfl,by omega,h2,h3⟩,by dsimp only; omega⟩
   . rw [decide_eq_false (by omega),cond_false]
     exact .inr ⟨_,rfl,by omega⟩
theorem zb {X:List Blk} (hX:X.length≤400000) (hb:bg X X.length≤1000000) {j k:Nat} (hj:j < X.length) (hk:k≤X[j].1.length) :
   jY (some (bgs X,((bg X X.length:Nat):Int))) ((bg X j + k:Nat):Int)=some ((j:Int),(k:Int),true):=by
 have h1:=cW X (i:=j + 1) (j:=X.length) hj (Nat.le_refl _)
 rw [bS hj] at h1
 unfold jY eM
 rw [decide_eq_false (by omega),cond_false]
 simp only [Option.isNone_some,cond_false,Option.bind_some]
 rw [decide_eq_false (by omega),cond_false,nZ,CS hX hj hk rfl,Option.bind_some,w64 (by omega) (by omega),show ((j + 1:Nat):Int) - 1=(j:Int) by omega,oc X hj,Option.bind_some,w64 (by omega) (by omega)]
 simp only [Option.some.injEq,Prod.mk.injEq,true_and,and_true]
 omega
theorem FL {X:List Blk} (hX:X.length≤400000) {j:Nat} (hj:j < X.length):mo (some (bgs X,((bg X X.length:Nat):Int))) (j:Int)=some ((bg X (j + 1):Nat):Int):=by
 unfold mo
 rw [Option.bind_some,w64 (by omega) (by omega)]
 dsimp only
 rw [nZ]
 by_cases q:j + 1 < X.length
 . rw [decide_eq_true (by omega),cond_true,show (j:Int) + 1=((j + 1:Nat):Int) by omega,oc X q]; rfl
 . have:j + 1=X.length:=by omega
   rw [decide_eq_false (by omega),cond_false,this]
theorem EB {X:List Blk} (hX:X.length≤400000) (hb:bg X X.length≤1000000) {j k:Nat} (hj:j < X.length) (hk:k≤X[j].1.length) :
   ml (some (bgs X,((bg X X.length:Nat):Int))) ((bg X j + k:Nat):Int)=some (decide (k=X[j].1.length)):=by
 have h1:=cW X (i:=j + 1) (j:=X.length) hj (Nat.le_refl _)
 have h2:=bS hj
 unfold ml
 rw [zb hX hb hj hk]
 simp only [Option.bind_some,cond_true,FL hX hj,w64 (x:=((bg X j + k:Nat):Int) + 1) (by omega) (by omega)]
 congr 1
 by_cases c:k=X[j].1.length
 . rw [decide_eq_true c,decide_eq_true (by omega)]
 . rw [decide_eq_false c,decide_eq_false (by omega)]
theorem DT {X:List Blk} (hb:bg X X.length≤1000000) {j k:Nat} (hj:j < X.length) (hk:k≤X[j].1.length):kD (aV X) (j:Int) (k:Int)=some (((bg X j + k:Nat):Int),true):=by
 have h1:=cW X (i:=j + 1) (j:=X.length) hj (Nat.le_refl _)
 have h2:=bS hj
 have hl:=nQ X
 unfold kD
 have key:=eX (body:=kp (aV X) (j:Int) (k:Int)) (fun n=>n=bg X j + k) (fun n:Nat=>(n:Int)) (aV X).length (fun n => .inr ((n:Int),true)) (.inl ()) ?_ ?_ ?_
 . rcases key with ⟨n,_,rfl,_,h4⟩ | ⟨h3,_⟩
   . rw [show (0:Int)=((0:Nat):Int) from rfl,h4]; rfl
   . exact absurd rfl (h3 (bg X j + k) (by omega))
 . intro n hn hp
   obtain ⟨i,m,hi,hm,rfl,_⟩:=gP X X.length (Nat.le_refl _) n (by omega)
   have hg:=kP X hi hm
   rw [List.getElem?_eq_getElem hn] at hg
   unfold kp
   simp only [dlt hn,cond_true,ah hn,Option.bind_some,Option.some.inj hg,ak hn (by omega:(aV X).length≤9223372036854775807)]
   by_cases c1:i=j
   . subst c1
     have c2:¬ m=k:=fun e=>hp (by rw [e])
     have:¬ (m:Int)=(k:Int):=by omega
     simp [this]
   . have:¬ (i:Int)=(j:Int):=by omega
     simp [this]
 . rintro n hn rfl
   have hg:=kP X hj hk
   rw [List.getElem?_eq_getElem hn] at hg
   unfold kp
   simp only [dlt hn,cond_true,ah hn,Option.bind_some,Option.some.inj hg]
   simp
 . unfold kp; simp
theorem rf:∀ {xs ys:List Int},xs.Pairwise (· < ·)→ys.Pairwise (· < ·)→(∀ a,a∈xs↔a∈ys)→xs=ys
 | [],[],_,_,_=>rfl
 | [],y :: ys,_,_,h=>by have:=(h y).2 (by simp); simp at this
 | x :: xs,[],_,_,h=>by have:=(h x).1 (by simp); simp at this
 | x :: xs,y :: ys,hx,hy,h=>by
   obtain ⟨hx1,hx2⟩:=List.pairwise_cons.1 hx
   obtain ⟨hy1,hy2⟩:=List.pairwise_cons.1 hy
   have e:x=y:=by
     have h1:=(h x).1 (by simp)
     have h2:=(h y).2 (by simp)
     rcases List.mem_cons.1 h1 with h1 | h1
     . exact h1
     . rcases List.mem_cons.1 h2 with h2 | h2
       . exact h2.symm
       . have:=hy1 x h1; have:=hx1 y h2; omega
   subst e
   rw [rf hx2 hy2 (fun a=>?_)]
   constructor
   . intro ha
     rcases List.mem_cons.1 ((h a).1 (by simp [ha])) with e | e
     . subst e; have:=hx1 a ha; omega
     . exact e
   . intro ha
     rcases List.mem_cons.1 ((h a).2 (by simp [ha])) with e | e
     . subst e; have:=hy1 a ha; omega
     . exact e
theorem uy {zs:List Int} (hs:zs.Pairwise (·≤·)):∀ m,m≤zs.length→(Lib.compactUpTo zs.toArray m).Pairwise (· < ·)∧∀ a,a∈Lib.compactUpTo zs.toArray m↔a∈zs.take m
 | 0,_=>by simp [Lib.compactUpTo]
 | m + 1,h=>by
   obtain ⟨h1,h2⟩:=uy hs m (by omega)
   have hm:m < zs.length:=by omega
   have e:zs.toArray[m]! = zs[m]:=by simp [getElem!_pos,hm]
   rw [Lib.compactUpTo_succ,e]
   have htk:zs.take (m + 1)=zs.take m++[zs[m]]:=List.take_succ_eq_append_getElem hm
   have hle:∀ a∈zs.take m,a≤zs[m]:=by
     intro a ha
     have:=hs.sublist (List.take_sublist (m + 1) zs)
     rw [htk] at this
     exact (List.pairwise_append.1 this).2.2 a ha _ (by simp)
   rw [htk]
   cases hk:Lib.keeps zs.toArray m with
   | false =>
     simp only [Bool.false_eq_true,if_false,List.append_nil]
     refine ⟨h1,fun a=>?_⟩
     rw [h2,List.mem_append]
     have hm0:m≠0:=by rintro rfl; simp [Lib.keeps] at hk
     have he:zs.toArray[m]! = zs.toArray[m - 1]!:=by
       simp [Lib.keeps,hm0] at hk; simpa using hk
     have hp:m - 1 < zs.length:=by omega
     have e2:zs.toArray[m - 1]! = zs[m - 1]:=by simp [getElem!_pos,hp]
     rw [e,e2] at he
     constructor
     . exact .inl
     . rintro (h | h)
       . exact h
       . simp at h; rw [h,he]
         exact List.mem_take_iff_getElem.2 ⟨m - 1,by omega,rfl⟩
   | true =>
     simp only [if_true]
     refine ⟨List.pairwise_append.2 ⟨h1,by simp,fun a ha b hb=>?_⟩,fun a=>by rw [List.mem_append,List.mem_append,h2]⟩
     simp at hb; subst hb
     have ha':=(h2 a).1 ha
     have hle':=hle a ha'
     rcases Int.lt_or_eq_of_le hle' with h | h
     . exact h
     . exfalso
       obtain ⟨j,hj,rfl⟩:=List.mem_take_iff_getElem.1 ha'
       have hm0:m≠0:=by omega
       have hp:m - 1 < zs.length:=by omega
       have e2:zs.toArray[m - 1]! = zs[m - 1]:=by simp [getElem!_pos,hp]
       simp only [Lib.keeps,e,e2] at hk
       simp [hm0] at hk
       have a1:zs[j]≤zs[m - 1]:=by
         rcases Nat.lt_or_ge j (m - 1) with q | q
         . exact List.pairwise_iff_getElem.1 hs j (m - 1) _ _ q
         . have:j=m - 1:=by omega
           subst this; exact Int.le_refl _
       have a2:zs[m - 1]≤zs[m]:=List.pairwise_iff_getElem.1 hs (m - 1) m _ _ (by omega)
       omega
theorem qt {zs:List Int} (hs:zs.Pairwise (·≤·)):(Lib.compact zs).Pairwise (· < ·)∧∀ a,a∈Lib.compact zs↔a∈zs:=by
 have:=uy hs zs.length (Nat.le_refl _)
 rw [List.take_length] at this
 exact this
section
theorem fa {α:Type} {m j:Nat} {f:Nat→α} (h:j < m):aa ((List.range m).map f) (j:Int)=some (f j):=by
 rw [ah (by simpa using h)]; simp
theorem si {α:Type} {m j:Nat} {f:Nat→α} {y:α}:((List.range m).map f).set j y=(List.range m).map (fun v=>if v=j then y else f v):=by
 apply List.ext_getElem
 . simp
 . intro i h1 h2
   simp only [List.getElem_set,List.getElem_map,List.getElem_range]
   by_cases h:j=i
   . subst h; simp
   . simp [h,Ne.symm h]
theorem ir {α:Type} {m:Nat} {f g:Nat→α} (h:∀ v,v < m→f v=g v):(List.range m).map f=(List.range m).map g:=List.map_congr_left fun v hv=>h v (List.mem_range.1 hv)
theorem uH {α:Type} (m:Nat) (z:α):List.replicate m z=(List.range m).map (fun _=>z):=by
 apply List.ext_getElem <;> simp
def cnt (ks:List Nat) (v:Nat):Nat:=ks.countP (fun x=>decide (x=v))
def ltc (ks:List Nat) (v:Nat):Nat:=ks.countP (fun x=>decide (x < v))
theorem Eb (ks:List Nat):ltc ks 0=0:=by simp [ltc]
theorem rO (ks:List Nat) (v:Nat):ltc ks (v + 1)=ltc ks v + cnt ks v:=by
 unfold ltc cnt
 induction ks with
 | nil=>rfl
 | cons x ks ih =>
   rw [List.countP_cons,List.countP_cons,List.countP_cons,ih]
   by_cases h:x < v
   . simp [h,show x < v + 1 by omega,show ¬ x=v by omega]; omega
   . by_cases h2:x=v
     . simp [h2]; omega
     . simp [h,h2,show ¬ x < v + 1 by omega]
theorem rJ (ks:List Nat) {v w:Nat} (h:v≤w):ltc ks v≤ltc ks w:=by
 unfold ltc; apply List.countP_mono_left; intro x _; simp; omega
theorem oz (ks:List Nat) (v:Nat):ltc ks v≤ks.length:=List.countP_le_length
theorem yx (ks:List Nat) (v:Nat):cnt ks v≤ks.length:=List.countP_le_length
theorem kW {ks:List Nat} {k:Nat} (h:k < ks.length) (v:Nat):cnt (ks.take (k + 1)) v=cnt (ks.take k) v + (if ks[k]=v then 1 else 0):=by
 unfold cnt; rw [bF h,List.countP_append]; simp [List.countP_cons]
theorem u9 (ks:List Nat) (k v:Nat):cnt (ks.take k) v≤cnt ks v:=by
 unfold cnt
 conv=>rhs; rw [← List.take_append_drop k ks,List.countP_append]
 omega
theorem Bt {ks:List Nat} {k:Nat} (h:k < ks.length):cnt (ks.take k) ks[k] < cnt ks ks[k]:=by
 have:=u9 ks (k + 1) ks[k]
 rw [kW h] at this
 simp at this; omega
def pos (ks:List Nat) (i:Nat):Nat:=ltc ks (ks.getD i 0) + cnt (ks.take i) (ks.getD i 0)
theorem sN {ks:List Nat} {i:Nat} (h:i < ks.length):pos ks i < ltc ks (ks[i] + 1):=by
 have:=Bt h
 unfold pos; rw [rO]
 simp [h]; omega
theorem yQ {ks:List Nat} {i:Nat} (h:i < ks.length):ltc ks ks[i]≤pos ks i:=by unfold pos; simp [h]
theorem BJ {ks:List Nat} {i:Nat} (h:i < ks.length):pos ks i < ks.length:=Nat.lt_of_lt_of_le (sN h) (oz _ _)
theorem xz {ks:List Nat} {i j:Nat} (hi:i < j) (hj:j < ks.length):pos ks i≠pos ks j:=by
 have hi':i < ks.length:=by omega
 rcases Nat.lt_trichotomy ks[i] ks[j] with h | h | h
 . have:=sN hi'; have:=yQ hj; have:=rJ ks (v:=ks[i] + 1) (w:=ks[j]) (by omega); omega
 . have h1:=kW hi' ks[j]
   have h2:cnt (ks.take (i + 1)) ks[j]≤cnt (ks.take j) ks[j]:=by
     have:=u9 (ks.take j) (i + 1) ks[j]
     rw [List.take_take,Nat.min_eq_left (by omega)] at this; exact this
   unfold pos; simp [hi',hj,h] at h1 ⊢; omega
 . have:=sN hj; have:=yQ hi'; have:=rJ ks (v:=ks[j] + 1) (w:=ks[i]) (by omega); omega
def occ (ks:List Nat) (v:Nat):List Nat:=(List.range ks.length).filter (fun i=>decide (ks.getD i 0=v))
theorem rE (ks:List Nat) (v:Nat):∀ k,k≤ks.length→((List.range k).filter (fun i=>decide (ks.getD i 0=v))).length=cnt (ks.take k) v∧∀ (r i:Nat),((List.range k).filter (fun i=>decide (ks.getD i 0=v)))[r]? = some i→∃ hi:i < ks.length,ks[i]=v∧cnt (ks.take i) v=r
 | 0,_=>by simp [cnt]
 | k + 1,hk=>by
   obtain ⟨h1,h2⟩:=rE ks v k (by omega)
   have hkl:k < ks.length:=by omega
   have e:(List.range (k + 1)).filter (fun i=>decide (ks.getD i 0=v))=(List.range k).filter (fun i=>decide (ks.getD i 0=v))++(if ks[k]=v then [k] else []):=by
     rw [List.range_succ,List.filter_append]
     by_cases h:ks[k]=v <;> simp [hkl,h]
   rw [e,kW hkl]
   generalize hF:(List.range k).filter (fun i=>decide (ks.getD i 0=v))=F at h1 h2
   by_cases h:ks[k]=v
   . simp only [h,if_true]
     refine ⟨by simp [h1],fun r i hr=>?_⟩
     by_cases hr2:r < F.length
     . rw [List.getElem?_append_left hr2] at hr; exact h2 r i hr
     . rw [List.getElem?_append_right (by omega)] at hr
       have hr3:r - F.length=0:=by
         have:=(List.getElem?_eq_some_iff.1 hr).1
         simp at this; omega
       rw [hr3] at hr
       simp at hr
       subst hr
       exact ⟨hkl,h,by omega⟩
   . simp only [h,if_false,List.append_nil,Nat.add_zero]
     exact ⟨h1,h2⟩
theorem xJ (ks:List Nat) (v:Nat):(occ ks v).length=cnt ks v:=by have:=(rE ks v ks.length (Nat.le_refl _)).1; rw [List.take_length] at this; exact this
theorem EI (ks:List Nat) (v r:Nat) (h:r < (occ ks v).length):∃ (hi:(occ ks v)[r] < ks.length),ks[(occ ks v)[r]]=v∧cnt (ks.take (occ ks v)[r]) v=r:=(rE ks v ks.length (Nat.le_refl _)).2 r _ (List.getElem?_eq_getElem h)
theorem sA {ks:List Nat} {v i:Nat}:i∈occ ks v↔∃ h:i < ks.length,ks[i]=v:=by
 unfold occ
 simp only [List.mem_filter,List.mem_range,decide_eq_true_eq]
 constructor
 . rintro ⟨h1,h2⟩; exact ⟨h1,by simpa [h1] using h2⟩
 . rintro ⟨h1,h2⟩; exact ⟨h1,by simpa [h1] using h2⟩
def av (ks:List Nat) (k p:Nat):Nat:=((List.range k).find? (fun i=>decide (pos ks i=p))).getD 0
theorem yr {ks:List Nat} {k i:Nat} (hk:k≤ks.length) (hi:i < k):av ks k (pos ks i)=i:=by
 unfold av
 cases h:(List.range k).find? (fun j=>decide (pos ks j=pos ks i)) with
 | none =>
   rw [List.find?_eq_none] at h
   exact absurd (by simp) (h i (List.mem_range.2 hi))
 | some j =>
   have h1:=List.find?_some h
   have h2:=List.mem_range.1 (List.mem_of_find?_eq_some h)
   simp at h1
   rcases Nat.lt_trichotomy i j with q | q | q
   . exact absurd h1.symm (xz q (by omega))
   . exact q.symm
   . exact absurd h1 (xz q (by omega))
theorem Eo {ks:List Nat} {k:Nat} (hk:k < ks.length) (p:Nat):av ks (k + 1) p=if p=pos ks k then k else av ks k p:=by
 by_cases h:p=pos ks k
 . rw [if_pos h,h,yr (by omega) (by omega)]
 . rw [if_neg h]
   unfold av
   rw [List.range_succ,List.find?_append]
   simp [Ne.symm h]
theorem FR (ks:List Nat) (v:Nat):((((List.range ks.length).map (fun p=>(av ks ks.length p:Int))).take (ltc ks (v + 1))).drop (ltc ks v))=(occ ks v).map (fun i:Nat=>(i:Int)):=by
 apply List.ext_getElem
 . have h1:=rO ks v
   have h2:=oz ks (v + 1)
   rw [List.length_drop,List.length_take,List.length_map,List.length_map,xJ,List.length_range]; omega
 . intro r h1 h2
   have hr:r < (occ ks v).length:=by simpa using h2
   obtain ⟨hi,h3,h4⟩:=EI ks v r hr
   simp only [List.getElem_drop,List.getElem_take,List.getElem_map,List.getElem_range]
   have:pos ks (occ ks v)[r]=ltc ks v + r:=by
     have e:ks.getD (occ ks v)[r] 0=v:=by simp [hi,h3]
     unfold pos; rw [e,h4]
   rw [← this,yr (Nat.le_refl _) hi]
section
variable {α:Type} (key:α→Int) (n:Int) (xb:List α)
def ix1:(Int×(List Int))→Option ((Int×(List Int))⊕(List Int)):=fun ((i,l):(Int×(List Int)))=>cond (decide (i < (((xb.length:Nat):Int)))) ((aa xb i).bind fun x=>(aa l (IntKind.wrap .i64 (key x + 1))).bind fun a=>(aa l (IntKind.wrap .i64 (key x + 1))).bind fun b=>(some (l.set (IntKind.wrap .i64 (key x + 1)).toNat (IntKind.wrap .i64 (a + 1)))).bind fun z=>some (.inl ((IntKind.wrap .i64 (i + 1),z)))) (some (.inr (l)))
def ix2:(Int×(List Int))→Option ((Int×(List Int))⊕(List Int)):=fun ((i,l):(Int×(List Int)))=>cond (decide (i < n)) ((aa l (IntKind.wrap .i64 (i + 1))).bind fun a=>(aa l i).bind fun b=>(aa l (IntKind.wrap .i64 (i + 1))).bind fun c=>(some (l.set (IntKind.wrap .i64 (i + 1)).toNat (IntKind.wrap .i64 (a + b)))).bind fun z=>some (.inl ((IntKind.wrap .i64 (i + 1),z)))) (some (.inr (l)))
def ix3:((List Int)×Int×(List Int))→Option (((List Int)×Int×(List Int))⊕(List Int)):=fun ((l,i,m):((List Int)×Int×(List Int)))=>cond (decide (i < (((xb.length:Nat):Int)))) ((aa xb i).bind fun x=>(aa l (key x)).bind fun a=>(aa m a).bind fun b=>(some (m.set a.toNat i)).bind fun z=>(aa l (key x)).bind fun c=>(aa l (key x)).bind fun d=>(some (l.set (key x).toNat (IntKind.wrap .i64 (c + 1)))).bind fun y=>some (.inl ((y,IntKind.wrap .i64 (i + 1),z)))) (some (.inr (m)))
variable {key n xb} {ks:List Nat}
theorem yJ (hk:xb.map key=ks.map (fun k:Nat=>(k:Int))) {i:Nat} (h:i < xb.length):∃ h2:i < ks.length,key xb[i]=(ks[i]:Int):=by
 have hl:xb.length=ks.length:=by simpa using congrArg List.length hk
 refine ⟨by omega,?_⟩
 have h1:(xb.map key)[i]'(by simpa using h)=(ks.map (fun k:Nat=>(k:Int)))[i]'(by simp; omega):=by simp only [hk]
 simpa using h1
theorem yv {N:Nat} (hk:xb.map key=ks.map (fun k:Nat=>(k:Int))) (hN:∀ x∈ks,x < N) (hb:ks.length≤1073741824) (hNb:N≤1073741824):loop (ix1 key xb) (0,List.replicate (N + 1) 0)=some ((List.range (N + 1)).map (fun v=>((if v=0 then 0 else cnt ks (v - 1):Nat):Int))):=by
 have hl:xb.length=ks.length:=by simpa using congrArg List.length hk
 have h:=aF (body:=ix1 key xb) (fun k:Nat=>((k:Int),(List.range (N + 1)).map (fun v=>((if v=0 then 0 else cnt (ks.take k) (v - 1):Nat):Int)))) xb.length (b:=(List.range (N + 1)).map (fun v=>((if v=0 then 0 else cnt ks (v - 1):Nat):Int))) ?_ ?_
 . rw [uH]; simpa [cnt] using h
 . intro k hk2
   obtain ⟨hk3,hk4⟩:=yJ hk hk2
   have hlt:=hN _ (List.getElem_mem hk3)
   have hw:IntKind.wrap .i64 (key xb[k] + 1)=((ks[k] + 1:Nat):Int):=by rw [hk4,w64 (by omega) (by omega)]; omega
   have hc:=yx (ks.take k) ks[k]
   simp only [List.length_take] at hc
   unfold ix1
   simp only [dlt hk2,cond_true,ah hk2,Option.bind_some,hw,fa (show ks[k] + 1 < N + 1 by omega),Int.toNat_natCast,si,ak hk2 (by omega:xb.length≤9223372036854775807)]
   congr 3
   refine ir (fun v hv=>?_)
   rw [kW hk3]
   simp only [Nat.add_one_ne_zero,if_false,Nat.add_sub_cancel]
   by_cases h1:v=ks[k] + 1
   . subst h1; simp only [if_true,Nat.add_one_ne_zero,if_false,Nat.add_sub_cancel]; rw [w64 (by omega) (by omega)]; omega
   . rw [if_neg h1]
     by_cases h2:v=0
     . simp [h2]
     . simp [h2,show ¬ ks[k]=v - 1 by omega]
 . unfold ix1
   simp only [hl,Int.lt_irrefl,decide_false,cond_false,List.take_length]
theorem yM {N:Nat} (hb:ks.length≤1073741824) (hNb:N≤1073741824):loop (ix2 (N:Int)) (0,(List.range (N + 1)).map (fun v=>((if v=0 then 0 else cnt ks (v - 1):Nat):Int)))=some ((List.range (N + 1)).map (fun v=>(ltc ks v:Int))):=by
 have h:=aF (body:=ix2 (N:Int)) (fun j:Nat=>((j:Int),(List.range (N + 1)).map (fun v=>((if v≤j then ltc ks v else cnt ks (v - 1):Nat):Int)))) N (b:=(List.range (N + 1)).map (fun v=>(ltc ks v:Int))) ?_ ?_
 . have e:(List.range (N + 1)).map (fun v=>((if v≤0 then ltc ks v else cnt ks (v - 1):Nat):Int))=(List.range (N + 1)).map (fun v=>((if v=0 then 0 else cnt ks (v - 1):Nat):Int)):=by
     refine ir (fun v hv=>?_)
     by_cases h1:v=0
     . simp [h1,Eb]
     . simp [h1]
   simp only [e] at h
   exact h
 . intro j hj
   have hs:=rO ks j
   have hle:=oz ks (j + 1)
   unfold ix2
   simp only [dlt hj,cond_true,ak hj (by omega:N≤9223372036854775807),fa (show j + 1 < N + 1 by omega),fa (show j < N + 1 by omega),Option.bind_some,Int.toNat_natCast,si]
   congr 3
   refine ir (fun v hv=>?_)
   simp only [show ¬ (j + 1≤j) by omega,if_false,Nat.le_refl,if_true,Nat.add_sub_cancel]
   by_cases h1:v=j + 1
   . subst h1; simp only [if_true,Nat.le_refl]; rw [w64 (by omega) (by omega)]; omega
   . rw [if_neg h1]
     by_cases h2:v≤j
     . simp [h2,show v≤j + 1 by omega]
     . simp [h2,show ¬ v≤j + 1 by omega]
 . unfold ix2
   simp only [Int.lt_irrefl,decide_false,cond_false]
   congr 2
   refine ir (fun v hv=>?_)
   simp [show v≤N by omega]
theorem yK {N:Nat} (hk:xb.map key=ks.map (fun k:Nat=>(k:Int))) (hN:∀ x∈ks,x < N) (hb:ks.length≤1073741824) (hNb:N≤1073741824):loop (ix3 key xb) ((List.range (N + 1)).map (fun v=>(ltc ks v:Int)),0,List.replicate xb.length 0)=some ((List.range ks.length).map (fun p=>(av ks ks.length p:Int))):=by
 have hl:xb.length=ks.length:=by simpa using congrArg List.length hk
 have h:=aF (body:=ix3 key xb) (fun k:Nat=>((List.range (N + 1)).map (fun v=>((ltc ks v + cnt (ks.take k) v:Nat):Int)),(k:Int),(List.range ks.length).map (fun p=>(av ks k p:Int)))) xb.length (b:=(List.range ks.length).map (fun p=>(av ks ks.length p:Int))) ?_ ?_
 . rw [hl,uH]; simpa [cnt,av] using h
 . intro k hk2
   obtain ⟨hk3,hk4⟩:=yJ hk hk2
   have hlt:=hN _ (List.getElem_mem hk3)
   have hp:ltc ks ks[k] + cnt (ks.take k) ks[k]=pos ks k:=by unfold pos; simp [hk3]
   have hpl:=BJ hk3
   unfold ix3
   simp only [dlt hk2,cond_true,ah hk2,Option.bind_some,hk4,fa (show ks[k] < N + 1 by omega),hp,fa hpl,Int.toNat_natCast,si,ak hk2 (by omega:xb.length≤9223372036854775807)]
   congr 3
   . refine ir (fun v hv=>?_)
     rw [kW hk3]
     by_cases h1:v=ks[k]
     . subst h1; simp only [if_true]; rw [w64 (by omega) (by omega)]; omega
     . rw [if_neg h1,if_neg (Ne.symm h1)]; simp
   . congr 1
     refine ir (fun p hp2=>?_)
     rw [Eo hk3]
     split <;> rfl
 . unfold ix3
   simp only [hl,Int.lt_irrefl,decide_false,cond_false]
end
abbrev Gr:=Int×(List (Int×Int))×((List Int)×(List Int))×((List Int)×(List Int))
abbrev ArG:=List (Nat×Nat)
def ai (E:ArG):List (Int×Int):=E.map (fun e=>((e.1:Int),(e.2:Int)))
def ixs (N:Nat) (ks:List Nat):List Int×List Int:=((List.range (N + 1)).map (fun v=>(ltc ks v:Int)),(List.range ks.length).map (fun p=>(av ks ks.length p:Int)))
def mkG (N:Nat) (E:ArG):Gr:=((N:Int),ai E,ixs N (E.map (·.1)),ixs N (E.map (·.2)))
def inN (N:Nat) (E:ArG):Prop:=∀ e∈E,e.1 < N∧e.2 < N
theorem cY (E:ArG):(ai E).length=E.length:=by simp [ai]
theorem kR {α:Type} (xa:List α) (hn:xa.length≤1073741824):dd xa (some ([]:List α)) ((app ([]:List α) xa).bind fun z=>some z)=some xa:=by
 rw [sf]
 . rw [aI (by simpa using hn)]; simp
 . rintro rfl; rw [aI (by simp)]; rfl
theorem Br {N:Nat} {E:ArG} (h:inN N E) (hn:N≤1048576) (he:E.length≤67108864):lY (N:Int) (ai E)=some (ixs N (E.map (·.1))):=by
 have hk:(ai E).map (fun x:Int×Int=>x.1)=(E.map (·.1)).map (fun k:Nat=>(k:Int)):=by simp [ai]
 have hN:∀ x∈E.map (·.1),x < N:=by intro x hx; obtain ⟨e,he,rfl⟩:=List.mem_map.1 hx; exact (h e he).1
 have hw:IntKind.wrap .i64 ((N:Int) + 1)=((N + 1:Nat):Int):=by rw [w64 (by omega) (by omega)]; omega
 have h1:=yv (key:=fun x:Int×Int=>x.1) (N:=N) hk hN (by simp; omega) (by omega)
 have h2:=yM (ks:=E.map (·.1)) (N:=N) (by simp; omega) (by omega)
 have h3:=yK (key:=fun x:Int×Int=>x.1) (N:=N) hk hN (by simp; omega) (by omega)
 have hl:(ai E).length≤1073741824:=by rw [cY]; omega
 unfold lY
 have hm1:(mk ((N + 1:Nat):Int) ((N + 1:Nat):Int) (0:Int):Option (List Int))=some (List.replicate (N + 1) 0):=mkN (by omega)
 have hm2:(mk (((ai E).length:Nat):Int) (((ai E).length:Nat):Int) (0:Int):Option (List Int))=some (List.replicate (ai E).length 0):=mkN hl
 rw [hw]
 simp only [hm1,hm2,Option.bind_some,rV]
 show (loop (ix1 (fun x:Int×Int=>x.1) (ai E)) (0,_)).bind _=_
 rw [h1,Option.bind_some]
 show (loop (ix2 (N:Int)) (0,_)).bind _=_
 rw [h2,Option.bind_some]
 have hc:∀ l:List Int,l.length≤1073741824→bP l=some l:=fun l hl=>kR l hl
 rw [hc _ (by simp; omega),Option.bind_some]
 show (loop (ix3 (fun x:Int×Int=>x.1) (ai E)) (_,0,_)).bind _=_
 rw [h3]; rfl
theorem Bw {N:Nat} {E:ArG} (h:inN N E) (hn:N≤1048576) (he:E.length≤67108864):lZ (N:Int) (ai E)=some (ixs N (E.map (·.2))):=by
 have hk:(ai E).map (fun x:Int×Int=>x.2)=(E.map (·.2)).map (fun k:Nat=>(k:Int)):=by simp [ai]
 have hN:∀ x∈E.map (·.2),x < N:=by intro x hx; obtain ⟨e,he,rfl⟩:=List.mem_map.1 hx; exact (h e he).2
 have hw:IntKind.wrap .i64 ((N:Int) + 1)=((N + 1:Nat):Int):=by rw [w64 (by omega) (by omega)]; omega
 have h1:=yv (key:=fun x:Int×Int=>x.2) (N:=N) hk hN (by simp; omega) (by omega)
 have h2:=yM (ks:=E.map (·.2)) (N:=N) (by simp; omega) (by omega)
 have h3:=yK (key:=fun x:Int×Int=>x.2) (N:=N) hk hN (by simp; omega) (by omega)
 have hl:(ai E).length≤1073741824:=by rw [cY]; omega
 unfold lZ
 have hm1:(mk ((N + 1:Nat):Int) ((N + 1:Nat):Int) (0:Int):Option (List Int))=some (List.replicate (N + 1) 0):=mkN (by omega)
 have hm2:(mk (((ai E).length:Nat):Int) (((ai E).length:Nat):Int) (0:Int):Option (List Int))=some (List.replicate (ai E).length 0):=mkN hl
 rw [hw]
 simp only [hm1,hm2,Option.bind_some,rV]
 show (loop (ix1 (fun x:Int×Int=>x.2) (ai E)) (0,_)).bind _=_
 rw [h1,Option.bind_some]
 show (loop (ix2 (N:Int)) (0,_)).bind _=_
 rw [h2,Option.bind_some]
 have hc:∀ l:List Int,l.length≤1073741824→bP l=some l:=fun l hl=>kR l hl
 rw [hc _ (by simp; omega),Option.bind_some]
 show (loop (ix3 (fun x:Int×Int=>x.2) (ai E)) (_,0,_)).bind _=_
 rw [h3]; rfl
def jv (n:Int) (a:Int×Int):Bool:=(((decide (a.1 < 0))||(decide (n≤a.1)))||(decide (a.2 < 0)))||(decide (n≤a.2))
theorem E2 (n:Int) (xb:List (Int×Int)) (hb:xb.length≤1073741824):loop (mQ n xb) 0=some (if xb.any (jv n) then .inr (none,7) else .inl ()):=by
 refine dp xb (jv n) _ _ (fun k h=>?_) ?_
 . unfold mQ
   simp only [dlt h,cond_true,ah h,Option.bind_some,ak h (by omega:xb.length≤9223372036854775807)]
   show cond (jv n xb[k]) _ _=_
   cases jv n xb[k] <;> rfl
 . simp [mQ]
theorem FS {N:Nat} {E:ArG} (h:inN N E) (hn:N≤1048576) (he:E.length≤67108864):kB (N:Int) (ai E)=some (some (mkG N E),0):=by
 unfold kB
 have h1:decide ((N:Int) < 0)=false:=decide_eq_false (by omega)
 have h2:(decide ((1048576:Int) < (N:Int))||decide ((67108864:Int) < (((ai E).length:Nat):Int)))=false:=by rw [cY]; simp; omega
 have h3:(ai E).any (jv (N:Int))=false:=by
   rw [List.any_eq_false]
   intro a ha
   obtain ⟨e,he,rfl⟩:=List.mem_map.1 ha
   have:=h e he
   simp [jv]; omega
 rw [h1,cond_false,h2,cond_false,E2 _ _ (by rw [cY]; omega),h3]
 simp only [Bool.false_eq_true,if_false,Option.bind_some]
 have hc:pW (ai E)=some (ai E):=kR _ (by rw [cY]; omega)
 rw [hc,Option.bind_some,Br h hn he,Option.bind_some,Bw h hn he]
 rfl
theorem rb (ks:List Nat) (v:Nat):(occ ks v).length≤ks.length:=by rw [xJ]; exact yx ks v
theorem Bi {N:Nat} {ks:List Nat} (hn:N≤1048576) (he:ks.length≤67108864) {v:Nat} (hv:v < N):mF (ixs N ks) (v:Int)=some ((occ ks v).map (fun i:Nat=>(i:Int))):=by
 unfold mF ixs
 have h1:=oz ks (v + 1)
 have h2:=rJ ks (v:=v) (w:=v + 1) (by omega)
 simp only [fa (show v < N + 1 by omega),Option.bind_some,ak hv (by omega:N≤9223372036854775807),fa (show v + 1 < N + 1 by omega)]
 rw [kZ (by omega) (by omega) (by simp; omega)]
 simp only [Int.toNat_natCast,Option.bind_some,FR]
theorem DM (N:Nat) (E:ArG):p9 (some (mkG N E))=some (N:Int):=rfl
theorem ER (N:Nat) (E:ArG):qd (some (mkG N E))=some (E.length:Int):=by
 show some ((((ai E).length:Nat):Int))=_
 rw [cY]
theorem CM (N:Nat) (E:ArG) (v:Int):jR (some (mkG N E)) v=some (decide (0≤v)&&decide (v < (N:Int))):=by
 unfold jR
 rw [DM]
 cases decide (0≤v) <;> simp
theorem B7 {N:Nat} {E:ArG} {v:Nat} (h:v < N):jR (some (mkG N E)) (v:Int)=some true:=by
 rw [CM]; simp [h]
theorem Hi {N:Nat} {E:ArG} (hn:N≤1048576) (he:E.length≤67108864) {v:Nat} (h:v < N):mz (some (mkG N E)) (v:Int)=some ((occ (E.map (·.2)) v).map (fun i:Nat=>(i:Int))):=by
 unfold mz
 rw [B7 h]
 have:=Bi (ks:=E.map (·.2)) hn (by simp; omega) h
 have hb:=rb (E.map (·.2)) v
 simp only [Bool.not_true,cond_false,Option.bind_some,mkG]
 rw [this,Option.bind_some]
 have hc:∀ l:List Int,l.length≤1073741824→bP l=some l:=fun l hl=>kR l hl
 rw [hc _ (by simp at hb ⊢; omega)]; rfl
def nxt (E:ArG) (v:Nat):List Nat:=(occ (E.map (·.1)) v).map (fun i=>(E.getD i (0,0)).2)
theorem Fp {E:ArG} {v i:Nat} (h:i∈occ (E.map (·.1)) v):∃ h:i < E.length,E[i].1=v:=by
 obtain ⟨h1,h2⟩:=sA.1 h
 exact ⟨by simpa using h1,by simpa using h2⟩
theorem iY {E:ArG} {v u:Nat}:u∈nxt E v↔(v,u)∈E:=by
 unfold nxt
 constructor
 . intro h
   obtain ⟨i,hi,rfl⟩:=List.mem_map.1 h
   obtain ⟨h1,h2⟩:=Fp hi
   have:E.getD i (0,0)=E[i]:=by simp [h1]
   rw [this]
   have e:(v,E[i].2)=E[i]:=by rw [← h2]
   rw [e]; exact List.getElem_mem h1
 . intro h
   obtain ⟨i,hi,he⟩:=List.getElem_of_mem h
   refine List.mem_map.2 ⟨i,sA.2 ⟨by simpa using hi,by simp [he]⟩,by simp [hi,he]⟩
def tn (E:ArG):ArG:=E.map (fun e=>(e.2,e.1))
theorem F6 (E:ArG):(tn E).length=E.length:=by simp [tn]
theorem yq {E:ArG} {a b:Nat}:(a,b)∈tn E↔(b,a)∈E:=by
 unfold tn
 constructor
 . intro h; obtain ⟨e,he,h2⟩:=List.mem_map.1 h; cases h2; exact he
 . intro h; exact List.mem_map.2 ⟨_,h,rfl⟩
inductive Rch (E:ArG):Nat→Nat→Prop
 | refl (v:Nat):Rch E v v
 | step {v w u:Nat} (h:Rch E v w) (e:(w,u)∈E):Rch E v u
theorem Rch.trans {E:ArG} {a b c:Nat} (h:Rch E a b) (k:Rch E b c):Rch E a c:=by
 induction k with
 | refl=>exact h
 | step _ e ih=>exact ih.step e
theorem Rch.mono {E F:ArG} (hf:∀ e∈E,e∈F) {a b:Nat} (h:Rch E a b):Rch F a b:=by
 induction h with
 | refl=>exact .refl _
 | step _ e ih=>exact ih.step (hf _ e)
theorem Rch.lt {N:Nat} {E:ArG} (hE:inN N E) {a b:Nat} (h:Rch E a b) (ha:a < N):b < N:=by
 cases h with
 | refl=>exact ha
 | step _ e=>exact (hE _ e).2
theorem C4 {A:List Nat}:∀ {L:List Nat},L.Nodup→(∀ x∈L,x∈A)→L.length≤A.length:=by
 intro L
 induction L generalizing A with
 | nil=>intro _ _; simp
 | cons x L ih =>
   intro hd hs
   have hx:=hs x (by simp)
   rw [List.nodup_cons] at hd
   have:=ih (A:=A.erase x) hd.2 (fun y hy=>by
     have hne:y≠x:=fun e=>hd.1 (e ▸ hy)
     exact (List.mem_erase_of_ne hne).2 (hs y (by simp [hy])))
   rw [List.length_erase_of_mem hx] at this
   have:0 < A.length:=List.length_pos_of_mem hx
   simp; omega
theorem rS {L:List Nat} {N:Nat} (hd:L.Nodup) (h:∀ x∈L,x < N):L.length≤N:=by
 have:=C4 (A:=List.range N) hd (fun x hx=>List.mem_range.2 (h x hx))
 simpa using this
def li (L:List Nat):List Int:=L.map (fun i:Nat=>(i:Int))
theorem bH (L:List Nat):(li L).length=L.length:=by simp [li]
theorem k8 {L:List Nat} {k:Nat} (h:k < L.length):aa (li L) (k:Int)=some ((L[k]:Nat):Int):=by rw [ah (by rw [bH]; exact h)]; simp [li]
theorem xx {E:ArG} {k:Nat} (h:k < E.length):aa (ai E) (k:Int)=some (((E[k].1:Nat):Int),((E[k].2:Nat):Int)):=by rw [ah (by rw [cY]; exact h)]; simp [ai]
open Classical in
def rl (N:Nat) (E:ArG) (v:Nat):List Nat:=(List.range N).filter (fun w=>decide (Rch E v w))
theorem Bc (N:Nat) (p:Nat→Bool):(li ((List.range N).filter p)).Pairwise (· < ·):=by
 unfold li
 rw [List.pairwise_map]
 refine List.Pairwise.imp (R:=fun a b:Nat=>a < b) (fun h=>by omega) ?_
 exact List.pairwise_lt_range.filter p
end
theorem rk (xa xb:List Int) (hn:xa.length≤1073741824):ix xa xb=some (decide (xa=xb)):=by
 unfold ix
 by_cases hl:xa.length=xb.length
 . rw [ur hl,cond_false,ve (body:=mJ xa xb) xa xb (.inr false) (.inl ()) hl ?_ ?_]
   . by_cases h:xa=xb <;> simp [h]
   . intro k h; unfold mJ
     have h2:k < xb.length:=by omega
     by_cases q:xa[k]=xb[k] <;> simp [ah h,ah h2,h,q,ak h (by omega)]
   . simp [mJ]
 . rw [oX hl,cond_true]
   have:¬ xa=xb:=fun h=>hl (by rw [h])
   simp [this]
theorem Fw {N:Nat} {E:ArG} {i:Int}:jV (some (mkG N E)) i=some (if h:0≤i∧i < (E.length:Int) then (((E[i.toNat]'(by omega)).1:Int),((E[i.toNat]'(by omega)).2:Int),true) else (0,0,false)):=by
 unfold jV
 rw [ER]
 by_cases h0:i < 0
 . simp [h0,show ¬ (0≤i∧i < (E.length:Int)) by omega]
 . by_cases h1:(E.length:Int)≤i
   . simp [h0,h1,show ¬ (0≤i∧i < (E.length:Int)) by omega]
   . have h2:0≤i∧i < (E.length:Int):=by omega
     obtain ⟨k,rfl⟩:=Int.eq_ofNat_of_zero_le h2.1
     have hk:k < E.length:=by omega
     simp only [h0,h1,decide_false,cond_false,Option.bind_some,mkG,xx hk]
     simp [hk]
def inL (N:Nat) (M:List Nat):List Int:=(List.range N).map (fun w=>if w∈M then (1:Int) else 0)
theorem Bp {N:Nat} (M:List Nat) (hN:N≤1000000):mY (inL N M)=some (li ((List.range N).filter (fun w=>decide (w∈M)))):=by
 unfold mY
 have hl:(inL N M).length=N:=by simp [inL]
 have h:=qR (body:=mB (inL N M)) (inL N M) (fun k=>li ((List.range k).filter (fun w=>decide (w∈M)))) (li ((List.range N).filter (fun w=>decide (w∈M)))) ?_ ?_
 . simp only [List.range_zero,List.filter_nil,li,List.map_nil] at h
   rw [h]; rfl
 . intro k h
   have hlf:((List.range k).filter (fun w=>decide (w∈M))).length≤k:=by
     have:=List.length_filter_le (fun w=>decide (w∈M)) (List.range k); simpa using this
   have g:aa (inL N M) (k:Int)=some (if k∈M then (1:Int) else 0):=fa (by omega)
   rw [List.range_succ,List.filter_append]
   generalize (List.range k).filter (fun w=>decide (w∈M))=A at hlf
   unfold mB
   simp only [dlt h,cond_true,g,Option.bind_some,ak h (by omega:(inL N M).length≤9223372036854775807)]
   by_cases hm:k∈M
   . have ha:app (li A) [(k:Int)]=some (li (A++[k])):=by rw [aI (by rw [bH]; simp; omega)]; simp [li]
     simp only [hm,if_true,decide_true,cond_true,ha,Option.bind_some,List.filter_cons,List.filter_nil]
   . simp [hm]
 . simp [mB,hl]
inductive Thr (E:ArG):List Nat→List Nat→List Nat→List Nat→List Nat→Prop
 | nil {o m:List Nat}:Thr E o m [] o m
 | skip {o m r o' m':List Nat} {u:Nat}:u∈m→Thr E o m r o' m'→Thr E o m (u :: r) o' m'
 | step {o m r o1 m1 o' m':List Nat} {u:Nat}:u∉m→Thr E o (m++[u]) (nxt E u) o1 m1→Thr E (o1++[u]) m1 r o' m'→Thr E o m (u :: r) o' m'
theorem Thr.grow {E:ArG} {o m r o' m':List Nat} (h:Thr E o m r o' m'):∃ D O,m'=m++D∧o'=o++O∧O.Perm D∧(∀ x∈r,x∈m'):=by
 induction h with
 | nil=>exact ⟨[],[],by simp,by simp,.refl _,by simp⟩
 | skip hu h ih =>
   obtain ⟨D,O,rfl,rfl,hp,hr⟩:=ih
   exact ⟨D,O,rfl,rfl,hp,fun x hx=>by
     rcases List.mem_cons.1 hx with rfl | hx
     . exact List.mem_append_left _ hu
     . exact hr x hx⟩
 | step hu h1 h2 ih1 ih2 =>
   obtain ⟨D1,O1,rfl,rfl,hp1,hr1⟩:=ih1
   obtain ⟨D2,O2,rfl,rfl,hp2,hr2⟩:=ih2
   rename_i o m r u
   refine ⟨u :: D1++D2,O1++[u]++O2,by simp,by simp,?_,fun x hx=>?_⟩
   . refine List.Perm.append ?_ hp2
     refine (List.perm_append_comm (l₁:=O1) (l₂:=[u])).trans ?_
     exact hp1.cons u
   . rcases List.mem_cons.1 hx with rfl | hx
     . simp
     . exact hr2 x hx
theorem Thr.inv {E:ArG} {N:Nat} (hE:inN N E) {o m r o' m':List Nat} (h:Thr E o m r o' m'):m.Nodup→(∀ x∈m,x < N)→(∀ x∈r,x < N)→m'.Nodup∧∀ x∈m',x < N:=by
 induction h with
 | nil=>exact fun a b _=>⟨a,b⟩
 | skip hu h ih=>exact fun a b c=>ih a b (fun x hx=>c x (List.mem_cons_of_mem _ hx))
 | step hu h1 h2 ih1 ih2 =>
   intro a b c
   rename_i o m r o1 m1 o' m' u
   have hun:u < N:=c u (List.mem_cons_self ..)
   have hd:(m++[u]).Nodup:=by
     rw [List.nodup_append]; refine ⟨a,by simp,?_⟩
     intro x hx y hy; simp at hy; subst hy; intro e; subst e; exact hu hx
   have hl:∀ x∈m++[u],x < N:=fun x hx=>by
     rcases List.mem_append.1 hx with q | q
     . exact b x q
     . simp at q; omega
   obtain ⟨a1,b1⟩:=ih1 hd hl (fun x hx=>(hE _ (iY.1 hx)).2)
   exact ih2 a1 b1 (fun x hx=>c x (List.mem_cons_of_mem _ hx))
theorem Thr.ex {E:ArG} {N:Nat} (hE:inN N E):∀ (k:Nat) (r o m:List Nat),N - m.length≤k→m.Nodup→(∀ x∈m,x < N)→(∀ x∈r,x < N)→∃ o' m',Thr E o m r o' m':=by
 intro k
 induction k with
 | zero =>
   intro r
   induction r with
   | nil=>intro o m _ _ _ _; exact ⟨o,m,.nil⟩
   | cons u r ih =>
     intro o m hk hd hl hr
     by_cases hu:u∈m
     . obtain ⟨o',m',h⟩:=ih o m hk hd hl (fun x hx=>hr x (List.mem_cons_of_mem _ hx))
       exact ⟨o',m',.skip hu h⟩
     . exfalso
       have hd1:(m++[u]).Nodup:=by
         rw [List.nodup_append]; refine ⟨hd,by simp,?_⟩
         intro x hx y hy; simp at hy; subst hy; intro e; subst e; exact hu hx
       have:=rS (N:=N) hd1 (fun x hx=>by
         rcases List.mem_append.1 hx with q | q
         . exact hl x q
         . simp at q; subst q; exact hr _ (List.mem_cons_self ..))
       simp at this; omega
 | succ k ihk =>
   intro r
   induction r with
   | nil=>intro o m _ _ _ _; exact ⟨o,m,.nil⟩
   | cons u r ih =>
     intro o m hk hd hl hr
     by_cases hu:u∈m
     . obtain ⟨o',m',h⟩:=ih o m hk hd hl (fun x hx=>hr x (List.mem_cons_of_mem _ hx))
       exact ⟨o',m',.skip hu h⟩
     . have hd1:(m++[u]).Nodup:=by
         rw [List.nodup_append]; refine ⟨hd,by simp,?_⟩
         intro x hx y hy; simp at hy; subst hy; intro e; subst e; exact hu hx
       have hl1:∀ x∈m++[u],x < N:=fun x hx=>by
         rcases List.mem_append.1 hx with q | q
         . exact hl x q
         . simp at q; subst q; exact hr _ (List.mem_cons_self ..)
       have hn1:∀ x∈nxt E u,x < N:=fun x hx=>(hE _ (iY.1 hx)).2
       obtain ⟨o1,m1,h1⟩:=ihk (nxt E u) o (m++[u]) (by simp; omega) hd1 hl1 hn1
       obtain ⟨D,O,rfl,rfl,_,_⟩:=h1.grow
       obtain ⟨a1,b1⟩:=h1.inv hE hd1 hl1 hn1
       obtain ⟨o',m',h2⟩:=ihk r ((o++O)++[u]) (m++[u]++D) (by simp; omega) a1 b1 (fun x hx=>hr x (List.mem_cons_of_mem _ hx))
       exact ⟨o',m',.step hu h1 h2⟩
def OkO (E:ArG) (o:List Nat):Prop:=∀ A x B,o=A++x :: B→∀ y,(x,y)∈E→y∈A∨Rch E y x
theorem OkO.snoc {E:ArG} {o:List Nat} {u:Nat} (h:OkO E o) (hu:∀ y,(u,y)∈E→y∈o∨Rch E y u):OkO E (o++[u]):=by
 intro A x B e y hy
 rcases List.eq_nil_or_concat B with rfl | ⟨B',z,rfl⟩
 . obtain ⟨e1,e2⟩:=List.append_inj' e rfl
   simp at e2; subst e1; subst e2; exact hu y hy
 . have e':o++[u]=(A++x :: B')++[z]:=by rw [e]; simp
   obtain ⟨e1,e2⟩:=List.append_inj' e' rfl
   exact h A x B' e1 y hy
theorem Thr.ok {E:ArG} {o m r o' m':List Nat} (h:Thr E o m r o' m'):(∀ g∈m,g∉o→∀ x∈r,Rch E g x)→OkO E o→OkO E o'∧∀ g∈m',g∉o'→g∈m∧g∉o:=by
 induction h with
 | nil=>exact fun _ h=>⟨h,fun g a b=>⟨a,b⟩⟩
 | skip hu h ih=>exact fun a b=>ih (fun g hg ho x hx=>a g hg ho x (List.mem_cons_of_mem _ hx)) b
 | step hu h1 h2 ih1 ih2 =>
   intro a b
   rename_i o m r o1 m1 o' m' u
   obtain ⟨k1,g1⟩:=ih1 (fun g hg ho x hx=>by
     have hux:(u,x)∈E:=iY.1 hx
     rcases List.mem_append.1 hg with q | q
     . exact (a g q ho u (List.mem_cons_self ..)).step hux
     . simp at q; subst q; exact (Rch.refl _).step hux) b
   obtain ⟨_,_,_,_,_,hall⟩:=h1.grow
   have k2:OkO E (o1++[u]):=k1.snoc (fun y hy=>by
     by_cases q:y∈o1
     . exact .inl q
     . refine .inr ?_
       obtain ⟨c1,c2⟩:=g1 y (hall y (iY.2 hy)) q
       rcases List.mem_append.1 c1 with q2 | q2
       . exact a y q2 c2 u (List.mem_cons_self ..)
       . simp at q2; subst q2; exact .refl _)
   have g2:∀ g∈m1,g∉o1++[u]→g∈m∧g∉o:=fun g hg ho=>by
     have n1:g∉o1:=fun q=>ho (List.mem_append_left _ q)
     have n2:g≠u:=fun q=>ho (by simp [q])
     obtain ⟨c1,c2⟩:=g1 g hg n1
     rcases List.mem_append.1 c1 with q | q
     . exact ⟨q,c2⟩
     . simp at q; exact absurd q n2
   obtain ⟨k3,g3⟩:=ih2 (fun g hg ho x hx=>by
     obtain ⟨c1,c2⟩:=g2 g hg ho
     exact a g c1 c2 x (List.mem_cons_of_mem _ hx)) k2
   exact ⟨k3,fun g hg ho=>by obtain ⟨c1,c2⟩:=g3 g hg ho; exact g2 g c1 c2⟩
theorem Thr.all {E:ArG} {N:Nat} (hE:inN N E):∃ o m,Thr E [] [] (List.range N) o m∧o.Perm (List.range N)∧OkO E o:=by
 obtain ⟨o,m,h⟩:=Thr.ex hE N (List.range N) [] [] (by simp) (by simp) (by simp) (fun x hx=>List.mem_range.1 hx)
 obtain ⟨D,O,e1,e2,hp,hr⟩:=h.grow
 simp only [List.nil_append] at e1 e2; subst e1; subst e2
 obtain ⟨hd,hl⟩:=h.inv hE (by simp) (by simp) (fun x hx=>List.mem_range.1 hx)
 refine ⟨o,m,h,hp.trans ?_,(h.ok (by simp) (fun A x B e=>by simp at e)).1⟩
 refine (List.perm_ext_iff_of_nodup hd List.nodup_range).2 (fun x=>⟨fun hx=>List.mem_range.2 (hl x hx),fun hx=>hr x hx⟩)
set_option maxRecDepth 20000
section
abbrev Pts:=Option (List Int×Int)
abbrev flG (P:Pts) (N:Nat) (E:ArG):Option (Pts×Option Gr):=some (P,some (mkG N E))
section
variable {P:Pts} {N:Nat} {E:ArG}
end
end
abbrev fC:Blk:=([],0,0,0,[],[],[])
def gs (X:List Blk) (j k m:Nat):Bool:=if k=(X.getD j fC).1.length then (X.getD j fC).2.2.2.2.1.any (fun t=>decide (bg X t.toNat=m)) else decide (m=bg X j + k + 1)
def nxp (X:List Blk) (n:Nat):List Nat:=(List.range (bg X X.length)).filter (gs X ((aV X).getD n (0,0,false)).1.toNat ((aV X).getD n (0,0,false)).2.1.toNat)
def bd (X:List Blk):Nat→ArG
 | 0=>[]
 | n + 1=>bd X n++(nxp X n).map (fun m=>(n,m))
theorem sO {X:List Blk} {j k:Nat} (hj:j < X.length) (hk:k≤X[j].1.length):nxp X (bg X j + k)=(List.range (bg X X.length)).filter (gs X j k):=by
 have h:=kP X hj hk
 unfold nxp
 rw [List.getD_eq_getElem?_getD,h]; rfl
theorem FB {X:List Blk} {n m:Nat} (h:m∈nxp X n):m < bg X X.length:=by
 unfold nxp at h; exact List.mem_range.1 (List.mem_filter.1 h).1
theorem ov (X:List Blk):∀ n,n≤bg X X.length→inN (bg X X.length) (bd X n)
 | 0,_=>by intro e he; simp [bd] at he
 | n + 1,hn=>by
   intro e he
   simp only [bd,List.mem_append,List.mem_map] at he
   rcases he with q | ⟨m,hm,rfl⟩
   . exact ov X n (by omega) e q
   . exact ⟨by show n < _; omega,FB hm⟩
theorem vh:∀ (N p:Nat),p < N→(List.range N).filter (fun m=>decide (m=p))=[p]
 | 0,p,h=>by omega
 | N + 1,p,h=>by
   rw [List.range_succ,List.filter_append]
   by_cases q:p=N
   . subst q
     have:(List.range p).filter (fun m=>decide (m=p))=[]:=by
       rw [List.filter_eq_nil_iff]; intro x hx; have:=List.mem_range.1 hx; simp; omega
     rw [this]; simp
   . rw [vh N p (by omega)]
     have:¬ N=p:=fun e=>q e.symm
     simp [this]
structure Tos (X:List Blk):Prop where
 few:X.length≤65536
 pts:bg X X.length≤131072
 len:∀ x∈X,x.2.2.2.2.1.length≤20
 good:∀ x∈X,∀ t∈x.2.2.2.2.1,0≤t∧t < (X.length:Int)
theorem qV {α:Type} [DecidableEq α]:∀ {l m:List α},l.Nodup→(∀ a∈l,a∈m)→l.length≤m.length
 | [],m,_,_=>Nat.zero_le _
 | x :: l,m,hn,hs=>by
   obtain ⟨h1,h2⟩:=List.nodup_cons.1 hn
   have hx:=hs x List.mem_cons_self
   have:=qV (m:=m.erase x) h2 fun a ha=>(List.mem_erase_of_ne (fun e=>h1 (by rw [← e]; exact ha))).2 (hs a (List.mem_cons_of_mem _ ha))
   rw [List.length_erase_of_mem hx] at this
   have:=List.length_pos_of_mem hx
   rw [List.length_cons]; omega
theorem sY {X:List Blk} (hT:Tos X) (N j k:Nat):((List.range N).filter (gs X j k)).length≤20:=by
 have hnd:((List.range N).filter (gs X j k)).Nodup:=List.nodup_range.filter _
 by_cases hk:k=(X.getD j fC).1.length
 . have hl:(X.getD j fC).2.2.2.2.1.length≤20:=by
     rw [List.getD_eq_getElem?_getD]
     rcases Nat.lt_or_ge j X.length with h | h
     . rw [List.getElem?_eq_getElem h]; exact hT.len _ (List.getElem_mem h)
     . rw [List.getElem?_eq_none h]; exact Nat.zero_le _
   refine Nat.le_trans (qV hnd (m:=(X.getD j fC).2.2.2.2.1.map fun t=>bg X t.toNat) fun m hm=>?_) (by rw [List.length_map]; exact hl)
   have:=(List.mem_filter.1 hm).2
   unfold gs at this
   rw [if_pos hk,List.any_eq_true] at this
   obtain ⟨t,ht,e⟩:=this
   exact List.mem_map.2 ⟨t,ht,of_decide_eq_true e⟩
 . refine Nat.le_trans (qV hnd (m:=[bg X j + k + 1]) fun m hm=>?_) (by simp)
   have:=(List.mem_filter.1 hm).2
   unfold gs at this
   rw [if_neg hk] at this
   rw [of_decide_eq_true this]; exact List.mem_cons_self
theorem Fb {X:List Blk} (hT:Tos X) (n:Nat):(nxp X n).length≤20:=sY hT _ _ _
theorem w8 {X:List Blk} (hT:Tos X):∀ n,(bd X n).length≤n * 20
 | 0=>by simp [bd]
 | n + 1=>by
   have:=w8 hT n
   have:=Fb hT n
   simp only [bd,List.length_append,List.length_map,Nat.succ_mul]; omega
theorem iM {a b:Flt} (h:(or0 a b).1=0):a.1=0∧b.1=0:=by
 unfold or0 at h; split at h
 . rename_i q; exact ⟨q,h⟩
 . rename_i q; exact absurd h q
theorem Dd {b:Bo} (h:(vck b).1=0):(aM b).1=0:=by
 unfold vck at h
 obtain ⟨_,h⟩:=iM h
 obtain ⟨_,h⟩:=iM h
 obtain ⟨_,h⟩:=iM h
 obtain ⟨_,h⟩:=iM h
 obtain ⟨_,h⟩:=iM h
 exact (iM h).2
theorem Dc {b:Bo} (h:(vck b).1=0):∀ x∈b.2.2.2.2.2.2,tE (aE b) x.2=0:=by
 have hc:=Dd h
 unfold aM at hc
 cases hq:b.2.2.2.2.2.2.findIdx? (fun x=>(aG b x).isSome) with
 | none =>
   intro x hx
   have:=List.findIdx?_eq_none_iff.1 hq x hx
   unfold aG at this
   split at this
   . simp at this
   . by_cases q:tE (aE b) x.2=0
     . exact q
     . rw [if_neg q] at this; simp at this
 | some k =>
   exfalso
   rw [hq] at hc
   obtain ⟨hk,hcc,_⟩:=List.findIdx?_eq_some_iff_getElem.1 hq
   have e:b.2.2.2.2.2.2.getD k ([],0,0,0,[],[],[])=b.2.2.2.2.2.2[k]:=by simp [List.getD,hk]
   simp only [e] at hc
   unfold aG at hcc hc
   split at hcc
   . rename_i j hj
     rw [hj] at hc
     obtain ⟨hj1,hj2,_⟩:=List.findIdx?_eq_some_iff_getElem.1 hj
     have e2:b.2.2.2.2.2.2[k].1.getD j (0,0,0,0,false)=b.2.2.2.2.2.2[k].1[j]:=by simp [List.getD,hj1]
     simp only [e2,bO] at hc
     simp [hc] at hj2
   . rename_i hj
     rw [hj] at hc
     by_cases q:tE (aE b) b.2.2.2.2.2.2[k].2=0
     . rw [if_pos q] at hcc; simp at hcc
     . rw [if_neg q] at hc; simp only [bO] at hc; exact q hc
theorem Hb {a:Ar} {x:Tm} (h:tE a x=0) (hl:x.2.2.2.1.length≤20) (hl2:x.2.2.2.2.1.length≤20) (hl3:x.2.2.2.2.2.length≤20):bad a.1 x.2.2.2.1=false:=by
 cases q:bad a.1 x.2.2.2.1 with
 | false=>rfl
 | true =>
   exfalso
   unfold tE bQ at h
   rw [show dh (x.1,x.2.1,x.2.2.1,x.2.2.2.1,x.2.2.2.2.1,x.2.2.2.2.2)=_ from iD x] at h
   simp only [Option.bind_some] at h
   by_cases q2:bf x=0
   . rw [decide_eq_true q2,Bool.not_true,cond_false,cQ _ _ (by omega),q] at h
     simp at h
   . rw [decide_eq_false q2,Bool.not_false,cond_true] at h
     exact q2 h
theorem lE {b:Bo} {j:Nat} (hj:j < (xs b).length):(vck b).1=0∧xs b=b.2.2.2.2.2.2:=by
 by_cases q:(vck b).1=0
 . exact ⟨q,by unfold xs; rw [if_pos q]⟩
 . unfold xs at hj; rw [if_neg q] at hj; simp at hj
theorem lm {b:Bo} (h:Sm b):Tos (xs b):=by
 obtain ⟨h1,h2⟩:=kT h (Nat.le_refl _)
 refine ⟨h2,h1,fun x hx=>?_,fun x hx t ht=>?_⟩
 . obtain ⟨j,hj,rfl⟩:=List.getElem_of_mem hx
   obtain ⟨_,e⟩:=lE hj
   exact (h.term _ (by rw [← e]; exact List.getElem_mem hj)).1
 . obtain ⟨j,hj,rfl⟩:=List.getElem_of_mem hx
   obtain ⟨hv,e⟩:=lE hj
   have hm:(xs b)[j]∈b.2.2.2.2.2.2:=by rw [← e]; exact List.getElem_mem hj
   obtain ⟨a1,a2,a3⟩:=h.term _ hm
   have hb:=Hb (Dc hv _ hm) a1 a2 a3
   unfold bad at hb
   rw [List.any_eq_false] at hb
   have:=hb t ht
   rw [e]
   unfold aE at this
   simp at this
   omega
theorem nW {X:List Blk} {j:Nat} (hj:j < X.length):X.getD j fC=X[j]:=by simp [List.getD,hj]
theorem Ek {X:List Blk} (hT:Tos X) {j:Nat} (hj:j < X.length):kz X[j].2 (bgs X)=some (li ((List.range (bg X X.length)).filter (gs X j X[j].1.length))):=by
 have hm:X[j]∈X:=List.getElem_mem hj
 have hlen:=hT.len _ hm
 have hg:=hT.good _ hm
 have hfew:=hT.few
 have hlp:=qR (body:=mL X[j].2 (bgs X)) X[j].2.2.2.2.1 (fun k=>(X[j].2.2.2.2.1.take k).map (fun t:Int=>((bg X t.toNat:Nat):Int))) (X[j].2.2.2.2.1.map (fun t:Int=>((bg X t.toNat:Nat):Int))) ?_ ?_
 . unfold kz
   simp only [List.take_zero,List.map_nil] at hlp
   rw [hlp,Option.bind_some]
   unfold srt
   rw [if_pos (by simp; omega)]
   simp only [Option.bind_some]
   unfold jw
   simp only [Option.bind_some]
   congr 1
   have hs:=List.pairwise_mergeSort (le:=fun x y:Int=>decide (x≤y)) (fun a b c h1 h2=>by simp at *; omega) (fun a b=>by simp; omega) (X[j].2.2.2.2.1.map (fun t:Int=>((bg X t.toNat:Nat):Int)))
   obtain ⟨c1,c2⟩:=qt (hs.imp (fun h=>by simpa using h))
   refine rf c1 (Bc _ _) (fun a=>?_)
   rw [c2,List.mem_mergeSort]
   unfold li
   simp only [List.mem_map,List.mem_filter,List.mem_range]
   constructor
   . rintro ⟨t,ht,rfl⟩
     obtain ⟨t0,t1⟩:=hg t ht
     refine ⟨bg X t.toNat,⟨GZ X (by omega) (Nat.le_refl _),?_⟩,rfl⟩
     unfold gs
     rw [nW hj,if_pos rfl]
     exact List.any_eq_true.2 ⟨t,ht,by simp⟩
   . rintro ⟨m,⟨_,hg2⟩,rfl⟩
     unfold gs at hg2
     rw [nW hj,if_pos rfl] at hg2
     obtain ⟨t,ht,e⟩:=List.any_eq_true.1 hg2
     exact ⟨t,ht,by simp at e; rw [e]⟩
 . intro k hk
   obtain ⟨t0,t1⟩:=hg _ (List.getElem_mem hk)
   have e:aa (bgs X) X[j].2.2.2.2.1[k]=some ((bg X (X[j].2.2.2.2.1[k]).toNat:Nat):Int):=by
     have:=oc X (k:=(X[j].2.2.2.2.1[k]).toNat) (by omega)
     rwa [Int.toNat_of_nonneg t0] at this
   unfold mL
   simp only [dlt hk,cond_true,ah hk,Option.bind_some,e]
   rw [aI (by simp; omega),Option.bind_some,ak hk (by omega),bF hk,List.map_append]; rfl
 . unfold mL
   simp only [dge (show ¬ X[j].2.2.2.2.1.length < X[j].2.2.2.2.1.length by omega),cond_false,List.take_length]
abbrev jp (X:List Blk):Pts:=some (bgs X,((bg X X.length:Nat):Int))
abbrev az (X:List Blk):ArG:=bd X (bg X X.length)
theorem kI {X:List Blk} (hT:Tos X) {n:Nat} (hn:n≤bg X X.length):(bd X n).length≤2621440:=by
 have h1:=w8 hT n
 have h2:=hT.pts
 omega
theorem Ff (E:ArG) (n:Nat) (H:List Nat):ai (E++H.map (fun m=>(n,m)))=ai E++(li H).map (fun x=>((n:Int),x)):=by
 simp [ai,li,Function.comp_def]
theorem xD {X:List Blk} {j k:Nat} (hj:j < X.length) (hk:k≤X[j].1.length):bd X (bg X j + k + 1)=bd X (bg X j + k)++((List.range (bg X X.length)).filter (gs X j k)).map (fun m=>(bg X j + k,m)):=by
 simp only [bd,sO hj hk]
theorem F2 {X:List Blk} {j k:Nat} (hj:j < X.length) (hk:k < X[j].1.length):(List.range (bg X X.length)).filter (gs X j k)=[bg X j + k + 1]:=by
 have h1:=bS hj
 have h2:=cW X (i:=j + 1) (j:=X.length) hj (Nat.le_refl _)
 have:gs X j k=fun m=>decide (m=bg X j + k + 1):=by
   funext m; unfold gs; rw [nW hj,if_neg (by omega)]
 rw [this,vh _ _ (by omega)]
theorem CD {n:Nat} {H:List Nat} {E:ArG} (hl:E.length + H.length≤100000000):loop (mS (n:Int) (li H)) (ai E,0)=some (ai (E++H.map (fun m=>(n,m)))):=by
 have:=rI (li H) (fun x:Int=>((n:Int),x)) (ai E) (by rw [cY,bH]; omega) (body:=mS (n:Int) (li H)) (fun c i=>by
   unfold mS
   cases hg:aa (li H) i with
   | none=>simp [hg]
   | some x=>simp [hg])
 rw [this,Ff]
theorem Cn {X:List Blk} (h:X.length≤400000):mg (jp X)=some (bgs X):=by
 have hc:∀ l:List Int,l.length≤1073741824→bP l=some l:=fun l hl=>kR l hl
 unfold mg jp
 simp only [Option.isNone_some,cond_false,Option.bind_some]
 rw [hc _ (by rw [nZ]; omega)]; rfl
theorem B0 {b:Bo} (h:Sm b):kC b=some (flG (jp (xs b)) (bg (xs b) (xs b).length) (az (xs b))):=by
 have hT:=lm h
 have h32:=hT.pts
 have h8:=hT.few
 unfold kC
 rw [show dm b=_ from uU h]
 have e1:eM (jp (xs b))=some ((bg (xs b) (xs b).length:Nat):Int):=rfl
 simp only [Option.bind_some,Cn (show (xs b).length≤400000 by omega),e1]
 have hl:=aF (body:=ku b (jp (xs b)) (bgs (xs b)) ((bg (xs b) (xs b).length:Nat):Int)) (fun n:Nat=>(ai (bd (xs b) n),(n:Int))) (bg (xs b) (xs b).length) (b:=ai (az (xs b))) ?_ ?_
 . rw [show loop (ku b (jp (xs b)) (bgs (xs b)) ((bg (xs b) (xs b).length:Nat):Int)) ([],0)=_ from hl]
   simp only [Option.bind_some]
   have hin:=ov (xs b) _ (Nat.le_refl _)
   have hb:=kI hT (Nat.le_refl _)
   rw [show kB ((bg (xs b) (xs b).length:Nat):Int) (ai (az (xs b)))=_ from FS (N:=bg (xs b) (xs b).length) (E:=az (xs b)) hin (by omega) (Nat.le_trans hb (by decide))]; rfl
 . intro n hn
   obtain ⟨j,k,hj,hk,rfl,_⟩:=gP (xs b) (xs b).length (Nat.le_refl _) n hn
   obtain ⟨hv,ex⟩:=lE hj
   have hb:=kI hT (Nat.le_of_lt hn)
   have hat:=zb (X:=xs b) (by omega) (by omega) hj hk
   have hen:=EB (X:=xs b) (by omega) (by omega) hj hk
   have hfl:((List.range (bg (xs b) (xs b).length)).filter (gs (xs b) j k)).length≤20:=sY hT _ _ _
   have hin:=CD (n:=bg (xs b) j + k) (H:=(List.range (bg (xs b) (xs b).length)).filter (gs (xs b) j k)) (E:=bd (xs b) (bg (xs b) j + k)) (by omega)
   rw [← xD hj hk] at hin
   unfold ku
   simp only [dlt hn,cond_true,hat,hen,Option.bind_some]
   by_cases q:k=(xs b)[j].1.length
   . have hgb:aa b.2.2.2.2.2.2 (j:Int)=some (xs b)[j]:=by rw [← ex]; exact ah hj
     have hh:=Ek hT hj
     rw [← q] at hh
     simp only [decide_eq_true q,cond_true,hgb,Option.bind_some]
     rw [show kz ((xs b)[j].2.1,(xs b)[j].2.2.1,(xs b)[j].2.2.2.1,(xs b)[j].2.2.2.2.1,(xs b)[j].2.2.2.2.2.1,(xs b)[j].2.2.2.2.2.2) (bgs (xs b))=_ from hh]
     simp only [Option.bind_some,hin,ak hn (by omega)]
   . have hkl:k < (xs b)[j].1.length:=by omega
     rw [F2 hj hkl] at hin
     simp only [decide_eq_false q,cond_false,Option.bind_some,ak hn (by omega)]
     rw [show ([((bg (xs b) j + k + 1:Nat):Int)]:List Int)=li [bg (xs b) j + k + 1] from rfl,hin]; rfl
 . unfold ku
   simp only [dge (show ¬ bg (xs b) (xs b).length < bg (xs b) (xs b).length by omega),cond_false]
theorem Ey {b:Bo} (h:Sm b) {j k m:Nat} (hj:j < (xs b).length) (hk:k≤(xs b)[j].1.length):kx b (aV (xs b)) ((bg (xs b) j + k:Nat):Int) (m:Int)=some (gs (xs b) j k m):=by
 have hT:=lm h
 have h32:=hT.pts
 obtain ⟨hv,ex⟩:=lE hj
 have hg:aa (aV (xs b)) ((bg (xs b) j + k:Nat):Int)=some ((j:Int),(k:Int),decide (k=(xs b)[j].1.length)):=by
   have:=kP (xs b) hj hk
   unfold aa; rw [if_pos (by omega),Int.toNat_natCast,this]
 have h1:=bS hj
 have h2:=cW (xs b) (i:=j + 1) (j:=(xs b).length) hj (Nat.le_refl _)
 have hgb:aa b.2.2.2.2.2.2 (j:Int)=some (xs b)[j]:=by rw [← ex]; exact ah hj
 unfold kx
 simp only [hg,Option.bind_some]
 unfold gs
 rw [nW hj]
 by_cases q:k=(xs b)[j].1.length
 . simp only [decide_eq_true q,Bool.not_true,cond_false,hgb,Option.bind_some]
   rw [if_pos q]
   have hm:(xs b)[j]∈xs b:=List.getElem_mem hj
   have hlen:=hT.len _ hm
   have hgd:=hT.good _ hm
   rw [dp (xs b)[j].2.2.2.2.1 (fun t=>decide (bg (xs b) t.toNat=m)) (.inr true) (.inl ()) ?_ ?_]
   . cases ((xs b)[j].2.2.2.2.1).any (fun t=>decide (bg (xs b) t.toNat=m)) <;> rfl
   . intro i hi
     obtain ⟨t0,t1⟩:=hgd _ (List.getElem_mem hi)
     have e:kD (aV (xs b)) (xs b)[j].2.2.2.2.1[i] 0=some (((bg (xs b) ((xs b)[j].2.2.2.2.1[i]).toNat:Nat):Int),true):=by
       have:=DT (X:=xs b) (by omega) (j:=((xs b)[j].2.2.2.2.1[i]).toNat) (k:=0) (by omega) (by omega)
       rwa [Int.toNat_of_nonneg t0] at this
     unfold qm
     simp only [dlt hi,cond_true,ah hi,Option.bind_some,e,Bool.true_and,ak hi (by omega:(xs b)[j].2.2.2.2.1.length≤9223372036854775807)]
     by_cases c:bg (xs b) ((xs b)[j].2.2.2.2.1[i]).toNat=m
     . simp [c]
     . have c':¬ ((bg (xs b) ((xs b)[j].2.2.2.2.1[i]).toNat:Nat):Int)=(m:Int):=by omega
       simp [c,c']
   . unfold qm
     simp
 . simp only [decide_eq_false q,Bool.not_false,cond_true]
   rw [if_neg q,w64 (by omega) (by omega)]
   congr 1
   by_cases c:m=bg (xs b) j + k + 1
   . rw [decide_eq_true c,decide_eq_true (by omega)]
   . rw [decide_eq_false c,decide_eq_false (by omega)]
theorem Bb {b:Bo} (h:Sm b):ky b=some (ai (az (xs b))):=by
 have hT:=lm h
 have h32:=hT.pts
 have hal:=nQ (xs b)
 unfold ky
 rw [show cx b=_ from ri h]
 simp only [Option.bind_some]
 have hl:=aF (body:=ka b (aV (xs b))) (fun n:Nat=>(ai (bd (xs b) n),(n:Int))) (bg (xs b) (xs b).length) (b:=ai (az (xs b))) ?_ ?_
 . rw [show loop (ka b (aV (xs b))) ([],0)=_ from hl]; rfl
 . intro n hn
   obtain ⟨j,k,hj,hk,rfl,_⟩:=gP (xs b) (xs b).length (Nat.le_refl _) n hn
   have hb:=kI hT (Nat.le_of_lt hn)
   have hin:=aF (body:=j9 b (aV (xs b)) ((bg (xs b) j + k:Nat):Int)) (fun i:Nat=>(ai (bd (xs b) (bg (xs b) j + k)++((List.range i).filter (gs (xs b) j k)).map (fun m=>(bg (xs b) j + k,m))),(i:Int))) (bg (xs b) (xs b).length) (b:=ai (bd (xs b) (bg (xs b) j + k + 1))) ?_ ?_
   . unfold ka
     simp only [hal,dlt hn,cond_true]
     have hin':loop (j9 b (aV (xs b)) ((bg (xs b) j + k:Nat):Int)) (ai (bd (xs b) (bg (xs b) j + k)),0)=some (ai (bd (xs b) (bg (xs b) j + k + 1))):=by simpa using hin
     rw [hin',Option.bind_some,ak hn (by omega)]
   . intro i hi
     have hfl:((List.range i).filter (gs (xs b) j k)).length≤20:=sY hT _ _ _
     unfold j9
     simp only [hal,dlt hi,cond_true,show kx b (aV (xs b)) ((bg (xs b) j + k:Nat):Int) (i:Int)=_ from Ey h hj hk,Option.bind_some,ak hi (by omega:bg (xs b) (xs b).length≤9223372036854775807)]
     rw [List.range_succ,List.filter_append]
     cases hgi:gs (xs b) j k i with
     | true =>
       rw [cond_true,aI (by rw [cY]; simp; omega),Option.bind_some]
       have e:[i].filter (gs (xs b) j k)=[i]:=by simp [hgi]
       rw [e]
       simp [ai]
     | false =>
       have e:[i].filter (gs (xs b) j k)=[]:=by simp [hgi]
       rw [e,List.append_nil]; rfl
   . unfold j9
     simp only [hal,dge (show ¬ bg (xs b) (xs b).length < bg (xs b) (xs b).length by omega),cond_false,xD hj hk]
 . unfold ka
   simp only [hal,dge (show ¬ bg (xs b) (xs b).length < bg (xs b) (xs b).length by omega),cond_false]
section
section
variable {P:Pts} {N:Nat} {E:ArG}
theorem Fx (E:ArG):(tn E).map (·.1)=E.map (·.2):=by simp [tn]
theorem Cg (hn:N≤1048576) (he:E.length≤67108864) {v:Nat} (h:v < N):mD (flG P N E) (v:Int)=some (li (nxt (tn E) v)):=by
 unfold mD qh
 simp only [Option.isNone_some,cond_false,Option.bind_some]
 rw [Hi hn he h,Option.bind_some]
 have hb:=rb (E.map (·.2)) v
 simp at hb
 generalize hO:occ (E.map (·.2)) v=O at hb ⊢
 have hO2:∀ i∈O,i < E.length:=fun i hi=>by
   rw [← hO] at hi
   obtain ⟨h1,_⟩:=sA.1 hi
   simpa using h1
 have hx:nxt (tn E) v=O.map (fun i=>(E.getD i (0,0)).1):=by
   unfold nxt; rw [Fx,hO]
   refine List.map_congr_left (fun i hi=>?_)
   have:=hO2 i hi
   simp [tn,this]
 rw [hx]
 have hl:=aF (body:=mj (flG P N E) (O.map (fun i:Nat=>(i:Int)))) (fun k:Nat=>((O.take k).map (fun i=>(((E.getD i (0,0)).1:Nat):Int))++(O.drop k).map (fun i:Nat=>(i:Int)),(k:Int))) O.length (b:=(O.map (fun i=>(((E.getD i (0,0)).1:Nat):Int)))) ?_ ?_
 . simp only [List.take_zero,List.map_nil,List.nil_append,List.drop_zero] at hl
   rw [show ((0:Int))=((0:Nat):Int) from rfl,hl]
   simp [li]
 . intro k hk
   have hk':k < (O.map (fun i:Nat=>(i:Int))).length:=by simpa using hk
   have hi:=hO2 _ (List.getElem_mem hk)
   have hlen:((O.take k).map (fun i=>(((E.getD i (0,0)).1:Nat):Int))).length=k:=by simp; omega
   have g1:aa ((O.take k).map (fun i=>(((E.getD i (0,0)).1:Nat):Int))++(O.drop k).map (fun i:Nat=>(i:Int))) (k:Int)=some ((O[k]:Nat):Int):=by
     rw [ah (by simp; omega),List.getElem_append_right (by omega)]
     simp only [List.getElem_map,List.getElem_drop,hlen,Nat.sub_self,Nat.add_zero]
   have g2:jV (some (mkG N E)) ((O[k]:Nat):Int)=some (((E[O[k]].1:Nat):Int),((E[O[k]].2:Nat):Int),true):=by
     rw [Fw,dif_pos ⟨by omega,by omega⟩]
     simp
   unfold mj
   simp only [dlt hk',cond_true,g1,Option.bind_some,g2,Int.toNat_natCast,ak hk' (by simp; omega)]
   congr 3
   rw [bF hk,List.map_append,List.drop_eq_getElem_cons hk,List.map_cons,List.set_append_right _ _ (by omega),hlen,Nat.sub_self,List.set_cons_zero,List.append_assoc]
   simp [hi]
 . simp [mj]
end
end
section
theorem px {α:Type} {m j:Nat} {f:Nat→α} (h:j < m):aa ((List.range m).map f) (j:Int)=some (f j):=by
 rw [ah (by simpa using h)]; simp
theorem uh {α:Type} {m j:Nat} {f:Nat→α} {y:α}:((List.range m).map f).set j y=(List.range m).map (fun v=>if v=j then y else f v):=by
 apply List.ext_getElem
 . simp
 . intro i h1 h2
   simp only [List.getElem_set,List.getElem_map,List.getElem_range]
   by_cases q:j=i
   . subst q; simp
   . rw [if_neg q,if_neg (fun e=>q e.symm)]
theorem eC {α:Type} {m:Nat} {f g:Nat→α} (h:∀ v,v < m→f v=g v):(List.range m).map f=(List.range m).map g:=List.map_congr_left fun v hv=>h v (List.mem_range.1 hv)
theorem zR {α:Type} (m:Nat) (z:α):List.replicate m z=(List.range m).map (fun _=>z):=by
 apply List.ext_getElem <;> simp
theorem nM (a:Int):bV a a=some ():=by unfold bV; simp
abbrev Tc:=List Int×List Int
def g8 (l:List Int):List Int:=l.mergeSort fun x y=>decide (x≤y)
theorem FQ {l:List Int} (h:l.length≤1073741824):srt l=some (g8 l):=by unfold srt; rw [if_pos h]; rfl
def cp (l:List Int):List Int:=Lib.compact (g8 l)
theorem xX (l:List Int):(g8 l).Pairwise (·≤·):=by
 have:=List.pairwise_mergeSort (le:=fun x y:Int=>decide (x≤y)) (fun a b c h1 h2=>by simp at *; omega) (fun a b=>by simp; omega) l
 exact this.imp (fun h=>by simpa using h)
theorem zx (l:List Int):(cp l).Pairwise (· < ·):=(qt (xX l)).1
theorem lf (l:List Int) (a:Int):a∈cp l↔a∈l:=by
 rw [cp,(qt (xX l)).2 a]; unfold g8; exact List.mem_mergeSort
theorem FZ (l:List Int):(cp l).length≤l.length:=by
 have:=Lib.compact_length_le (g8 l)
 unfold g8 at this
 rw [List.length_mergeSort] at this
 exact this
theorem G7 (l:List Int):(cp l).Nodup:=(zx l).imp (fun h=>by omega)
def sT (s:Stm):Tc:=(if aZ s.1 then [s.2.2.1] else [],if aY s.1 then [s.2.1] else [])
def tT (x:Tm):Tc:=if x.1=2 then (x.2.2.2.2.1,[]) else if x.1=4 then (x.2.2.2.2.1,[x.2.2.1]) else if x.1=3 then ([0],[]) else ([],[])
def cpT (t:Tc):Tc:=(cp t.1,t.2)
def eo (x:Blk):List Tc:=x.1.map (fun s=>cpT (sT s))++[cpT (tT x.2)]
theorem DC (x:Blk):(eo x).length=x.1.length + 1:=by simp [eo]
def dH (X:List Blk):Nat→List Tc
 | 0=>[]
 | i + 1=>dH X i++eo (X.getD i ([],0,0,0,[],[],[]))
theorem nT (X:List Blk):∀ i,i≤X.length→(dH X i).length=bg X i
 | 0,_=>by simp [dH,bg,stm]
 | i + 1,h=>by
   have ih:=nT X i (by omega)
   rw [bS (by omega)]
   simp only [dH,List.length_append,ih,DC,ce (show i < X.length by omega)]; omega
theorem wB (X:List Blk):∀ i,i≤X.length→∀ j k,j < i→(hj:j < X.length)→k≤X[j].1.length→(dH X i)[bg X j + k]? = (eo X[j])[k]?
 | 0,_,j,k,h,_,_=>by omega
 | i + 1,h,j,k,hji,hj,hk=>by
   have hl:=nT X i (by omega)
   unfold dH
   by_cases q:j=i
   . subst q
     rw [List.getElem?_append_right (by omega),hl,Nat.add_sub_cancel_left,ce hj]
   . have h1:=cW X (i:=j + 1) (j:=i) (by omega) (by omega)
     rw [bS hj] at h1
     rw [List.getElem?_append_left (by omega)]
     exact wB X i (by omega) j k (by omega) hj hk
abbrev pts (X:List Blk):List Tc:=dH X X.length
theorem k7 (X:List Blk):(pts X).length=bg X X.length:=nT X _ (Nat.le_refl _)
theorem C5 {x:Blk} {k:Nat} (h:k < x.1.length):(eo x)[k]? = some (cpT (sT x.1[k])):=by
 unfold eo; rw [List.getElem?_append_left (by simpa using h)]; simp [h]
theorem Ee {x:Blk}:(eo x)[x.1.length]? = some (cpT (tT x.2)):=by
 unfold eo; rw [List.getElem?_append_right (by simp)]; simp
def rdr (P:List Tc) (l:Nat):List Int:=((List.range P.length).filter (fun n=>decide ((l:Int)∈(P.getD n ([],[])).1))).map (fun n:Nat=>(n:Int))
def wtr (P:List Tc) (l:Nat):List Int:=((List.range P.length).filter (fun n=>decide ((l:Int)∈(P.getD n ([],[])).2))).map (fun n:Nat=>(n:Int))
def lcs (N:Nat) (P:List Tc):List Tc:=(List.range N).map fun l=>(rdr P l,wtr P l)
theorem wZ (P:List Tc) (t:Tc) (p:Tc→Bool):((List.range (P++[t]).length).filter (fun n=>p ((P++[t]).getD n ([],[])))).map (fun n:Nat=>(n:Int)) =
   ((List.range P.length).filter (fun n=>p (P.getD n ([],[])))).map (fun n:Nat=>(n:Int))++if p t then [(P.length:Int)] else []:=by
 rw [List.length_append,List.length_singleton,List.range_succ,List.filter_append,List.map_append]
 congr 1
 . congr 1
   refine List.filter_congr (fun n hn=>?_)
   have hn:n < P.length:=List.mem_range.1 hn
   rw [ce (by simp; omega),ce hn,List.getElem_append_left hn]
 . have:(P++[t]).getD P.length ([],[])=t:=by simp [List.getD]
   simp only [List.filter_cons,List.filter_nil,this]
   cases p t <;> rfl
theorem DE (P:List Tc) (t:Tc) (l:Nat):rdr (P++[t]) l=rdr P l++if (l:Int)∈t.1 then [(P.length:Int)] else []:=by
 have:=wZ P t (fun u=>decide ((l:Int)∈u.1))
 unfold rdr; rw [this]; simp
theorem DA (P:List Tc) (t:Tc) (l:Nat):wtr (P++[t]) l=wtr P l++if (l:Int)∈t.2 then [(P.length:Int)] else []:=by
 have:=wZ P t (fun u=>decide ((l:Int)∈u.2))
 unfold wtr; rw [this]; simp
theorem xn (P:List Tc) (l:Nat):(rdr P l).length≤P.length:=by
 unfold rdr; rw [List.length_map]
 exact Nat.le_trans (List.length_filter_le ..) (by simp)
theorem xP (P:List Tc) (l:Nat):(wtr P l).length≤P.length:=by
 unfold wtr; rw [List.length_map]
 exact Nat.le_trans (List.length_filter_le ..) (by simp)
theorem sL (l:List Int) (h:l.length≤1000000):bP l=some l:=by
 unfold bP
 rw [aI (by simp; omega),sf (fun e=>by subst e; rfl)]
 simp
theorem Cj (s:Stm):mO (s.1,s.2.1,s.2.2.1,s.2.2.2.1,s.2.2.2.2)=some (sT s):=by
 unfold mO sT aZ aY
 by_cases h1:s.1=1
 . simp [h1]
 . by_cases h2:s.1=2
   . simp [h2]
   . by_cases h3:s.1=3
     . simp [h3]
     . by_cases h4:s.1=4
       . simp [h4]
       . by_cases h5:s.1=5
         . simp [h5]
         . have:¬ (1≤s.1∧s.1≤4):=by omega
           simp [h1,h2,h3,h4,h5,this]
theorem Ch (x:Tm) (h:x.2.2.2.2.1.length≤1000):mP (x.1,x.2.1,x.2.2.1,x.2.2.2.1,x.2.2.2.2.1,x.2.2.2.2.2)=some (tT x):=by
 unfold mP tT
 have hc:=sL x.2.2.2.2.1 (by omega)
 simp only [hc,Option.bind_some,rV]
 by_cases h1:x.1=2
 . simp [h1]
 . by_cases h2:x.1=4
   . simp [h2]
   . by_cases h3:x.1=3
     . simp [h3]
     . simp [h1,h2,h3]
section
variable {N:Nat} {P:List Tc}
def jF (N:Nat) (l:List Int):Prop:=∀ a∈l,0≤a∧a < (N:Int)
theorem IB {q:List Int} (hq:jF N q) (hn:q.Nodup) (hql:q.length≤1000) (f:Nat→Tc) (hf:∀ l,l < N→(f l).1.length≤1000000) :
   loop (jL P q) (0,(List.range N).map f)=some ((List.range N).map fun (l:Nat)=>if (l:Int)∈q then ((f l).1++[(P.length:Int)],(f l).2) else f l):=by
 have h:=aF (body:=jL P q) (fun k:Nat=>((k:Int),(List.range N).map fun (l:Nat)=>if (l:Int)∈q.take k then ((f l).1++[(P.length:Int)],(f l).2) else f l)) q.length (b:=(List.range N).map fun (l:Nat)=>if (l:Int)∈q then ((f l).1++[(P.length:Int)],(f l).2) else f l) ?_ ?_
 . simpa using h
 . intro k hk
   obtain ⟨h1,h2⟩:=hq _ (List.getElem_mem hk)
   obtain ⟨m,hm⟩:=Int.eq_ofNat_of_zero_le h1
   have hmN:m < N:=by rw [hm] at h2; exact Int.ofNat_lt.1 h2
   have hnot:¬ ((m:Nat):Int)∈q.take k:=by
     intro hmem
     obtain ⟨i,hi,e⟩:=List.getElem_of_mem hmem
     simp at hi
     rw [List.getElem_take] at e
     exact List.pairwise_iff_getElem.1 hn i k (by omega) hk (by omega) (e.trans hm.symm)
   have hg:aa ((List.range N).map fun (l:Nat)=>if (l:Int)∈q.take k then ((f l).1++[(P.length:Int)],(f l).2) else f l) ((m:Nat):Int)=some (f m):=by
     rw [px hmN,if_neg hnot]
   have hfl:=hf m hmN
   unfold jL
   simp only [dlt hk,cond_true,ah hk,Option.bind_some,hm,hg,nM]
   rw [aI (by simp; omega)]
   simp only [Option.bind_some,ak hk (by omega:q.length≤9223372036854775807),Int.toNat_natCast,Option.some.injEq,Sum.inl.injEq,Prod.mk.injEq,true_and]
   rw [uh]
   refine eC (fun v hv=>?_)
   rw [bF hk,hm]
   by_cases e:v=m
   . subst e; simp
   . have:¬ (v:Int)=(m:Int):=by omega
     simp [e,this]
 . unfold jL
   simp
theorem GQ {q:List Int} (hq:jF N q) (hn:q.Nodup) (hql:q.length≤1000) (f:Nat→Tc) (hf:∀ l,l < N→(f l).2.length≤1000000) :
   loop (jM q P) (0,(List.range N).map f)=some ((List.range N).map fun (l:Nat)=>if (l:Int)∈q then ((f l).1,(f l).2++[(P.length:Int)]) else f l):=by
 have h:=aF (body:=jM q P) (fun k:Nat=>((k:Int),(List.range N).map fun (l:Nat)=>if (l:Int)∈q.take k then ((f l).1,(f l).2++[(P.length:Int)]) else f l)) q.length (b:=(List.range N).map fun (l:Nat)=>if (l:Int)∈q then ((f l).1,(f l).2++[(P.length:Int)]) else f l) ?_ ?_
 . simpa using h
 . intro k hk
   obtain ⟨h1,h2⟩:=hq _ (List.getElem_mem hk)
   obtain ⟨m,hm⟩:=Int.eq_ofNat_of_zero_le h1
   have hmN:m < N:=by rw [hm] at h2; exact Int.ofNat_lt.1 h2
   have hnot:¬ ((m:Nat):Int)∈q.take k:=by
     intro hmem
     obtain ⟨i,hi,e⟩:=List.getElem_of_mem hmem
     simp at hi
     rw [List.getElem_take] at e
     exact List.pairwise_iff_getElem.1 hn i k (by omega) hk (by omega) (e.trans hm.symm)
   have hg:aa ((List.range N).map fun (l:Nat)=>if (l:Int)∈q.take k then ((f l).1,(f l).2++[(P.length:Int)]) else f l) ((m:Nat):Int)=some (f m):=by
     rw [px hmN,if_neg hnot]
   have hfl:=hf m hmN
   unfold jM
   simp only [dlt hk,cond_true,ah hk,Option.bind_some,hm,hg,nM]
   rw [aI (by simp; omega)]
   simp only [Option.bind_some,ak hk (by omega:q.length≤9223372036854775807),Int.toNat_natCast,Option.some.injEq,Sum.inl.injEq,Prod.mk.injEq,true_and]
   rw [uh]
   refine eC (fun v hv=>?_)
   rw [bF hk,hm]
   by_cases e:v=m
   . subst e; simp
   . have:¬ (v:Int)=(m:Int):=by omega
     simp [e,this]
 . unfold jM
   simp
structure Tg (N:Nat) (t:Tc):Prop where
 r:jF N t.1
 w:jF N t.2
 rl:t.1.length≤1000
 wl:t.2.length≤1
theorem yw {t:Tc} (h:Tg N t) (hP:P.length≤900000):ib t.1 t.2 P (lcs N P)=some (P++[cpT t],lcs N (P++[cpT t])):=by
 have hc:=FZ t.1
 have hrl:=h.rl
 have hwl:=h.wl
 have hq:jF N (cp t.1):=fun a ha=>h.r a ((lf _ _).1 ha)
 have hwn:t.2.Nodup:=by
   cases hw:t.2 with
   | nil=>simp
   | cons a l =>
     rw [hw] at hwl
     have:l=[]:=by cases l with
       | nil=>rfl
       | cons b l=>simp at hwl
     simp [this]
 unfold ib
 rw [FQ (by omega),Option.bind_some,show jw (g8 t.1)=some (cp t.1) from rfl,Option.bind_some,aI (by simp; omega),Option.bind_some]
 unfold lcs
 rw [IB hq (G7 _) (by omega) _ (fun l hl=>by have:=xn P l; dsimp only; omega),Option.bind_some,
   GQ h.w hwn (by omega) _ (fun l hl=>by have:=xP P l; dsimp only; split <;> (dsimp only; omega)),Option.bind_some]
 simp only [Option.some.injEq,Prod.mk.injEq]
 refine ⟨rfl,eC (fun l hl=>?_)⟩
 rw [DE,DA]
 show _=(rdr P l++(if (l:Int)∈cp t.1 then _ else _),wtr P l++(if (l:Int)∈t.2 then _ else _))
 by_cases c1:(l:Int)∈cp t.1 <;> by_cases c2:(l:Int)∈t.2 <;> simp [c1,c2]
end
theorem Hm {L:List (List St)} {R:Int} {x:Stm} (h:sE L R x=0):fOk x=true∧(aY x.1=true→loc L x.2.1=true)∧(aZ x.1=true→loc L x.2.2.1=true):=by
 unfold sE bM at h
 have g1:iC x.1=some (aY x.1):=rfl
 have g2:iB x.1=some (aZ x.1):=rfl
 rw [show eT (x.1,x.2.1,x.2.2.1,x.2.2.2.1,x.2.2.2.2)=_ from kH x] at h
 simp only [Option.bind_some,g1,g2,xI] at h
 cases hf:fOk x with
 | false=>rw [hf] at h; simp at h
 | true =>
   rw [hf] at h
   simp only [Bool.not_true,cond_false] at h
   cases c1:(aY x.1&&!loc L x.2.1) with
   | true=>rw [c1] at h; simp at h
   | false =>
     rw [c1] at h
     simp only [cond_false,Option.bind_some] at h
     cases c2:(aZ x.1&&!loc L x.2.2.1) with
     | true=>rw [c2] at h; simp at h
     | false =>
       refine ⟨rfl,fun e=>?_,fun e=>?_⟩
       . rw [e] at c1; simpa using c1
       . rw [e] at c2; simpa using c2
theorem ze {a:Ar} {x:Tm} (h:tE a x=0) (hl:x.2.2.2.1.length≤20) (hl2:x.2.2.2.2.1.length≤20) (hl3:x.2.2.2.2.2.length≤20) :
   bf x=0∧bad (a.2.2.1.length:Int) x.2.2.2.2.1=false∧(x.1=4→bad (a.2.2.1.length:Int) [x.2.2.1]=false)∧(x.1=3→¬ a.2.2.1.length=0):=by
 unfold tE bQ at h
 rw [show dh (x.1,x.2.1,x.2.2.1,x.2.2.2.1,x.2.2.2.2.1,x.2.2.2.2.2)=_ from iD x] at h
 simp only [Option.bind_some,cQ x.2.2.2.1 _ (by omega),cQ x.2.2.2.2.1 _ (by omega),cQ x.2.2.2.2.2 _ (by omega),cQ [x.2.2.1] _ (by simp),cQ [x.2.1] _ (by simp),Bool.not_not] at h
 by_cases q2:bf x=0
 . rw [decide_eq_true q2,Bool.not_true,cond_false] at h
   cases c1:bad a.1 x.2.2.2.1 with
   | true=>rw [c1] at h; simp at h
   | false =>
     rw [c1] at h
     simp only [cond_false,Option.bind_some] at h
     cases c2:bad (a.2.2.1.length:Int) x.2.2.2.2.1 with
     | true=>rw [c2] at h; simp at h
     | false =>
       rw [c2] at h
       simp only [cond_false,Option.bind_some] at h
       cases c3:bad a.2.1 x.2.2.2.2.2 with
       | true=>rw [c3] at h; simp at h
       | false =>
         rw [c3] at h
         simp only [cond_false,Option.bind_some] at h
         refine ⟨q2,rfl,fun e=>?_,fun e=>?_⟩
         . cases c4:bad (a.2.2.1.length:Int) [x.2.2.1] with
           | false=>rfl
           | true=>rw [c4] at h; simp [e] at h
         . intro e0
           rw [e,e0] at h
           simp at h
 . rw [decide_eq_false q2,Bool.not_false,cond_true] at h
   exact absurd h q2
theorem b6 {a b:Flt} (h:(or0 a b).1=0):a.1=0∧b.1=0:=by
 unfold or0 at h
 split at h
 . rename_i q; exact ⟨q,h⟩
 . rename_i q; exact absurd h q
theorem xy {b:Bo} (h:(vck b).1=0):∀ x∈b.2.2.2.2.2.2,(∀ s∈x.1,sE b.2.2.2.1 b.2.1 s=0)∧tE (aE b) x.2=0:=by
 unfold vck at h
 have hc:=(b6 (b6 (b6 (b6 (b6 (b6 h).2).2).2).2).2).2
 unfold aM at hc
 cases hq:b.2.2.2.2.2.2.findIdx? (fun x=>(aG b x).isSome) with
 | none =>
   intro x hx
   have:=List.findIdx?_eq_none_iff.1 hq x hx
   unfold aG at this
   split at this
   . simp at this
   . rename_i hs
     refine ⟨fun s hm=>?_,?_⟩
     . have:=List.findIdx?_eq_none_iff.1 hs s hm
       simpa using this
     . by_cases q:tE (aE b) x.2=0
       . exact q
       . rw [if_neg q] at this; simp at this
 | some k =>
   exfalso
   rw [hq] at hc
   obtain ⟨hk,hcc,_⟩:=List.findIdx?_eq_some_iff_getElem.1 hq
   have e:b.2.2.2.2.2.2.getD k ([],0,0,0,[],[],[])=b.2.2.2.2.2.2[k]:=by simp [List.getD,hk]
   simp only [e] at hc
   unfold aG at hcc hc
   split at hcc
   . rename_i j hj
     rw [hj] at hc
     obtain ⟨hj1,hj2,_⟩:=List.findIdx?_eq_some_iff_getElem.1 hj
     have e2:b.2.2.2.2.2.2[k].1.getD j (0,0,0,0,false)=b.2.2.2.2.2.2[k].1[j]:=by simp [List.getD,hj1]
     simp only [e2,bO] at hc
     simp [hc] at hj2
   . rename_i hj
     rw [hj] at hc
     by_cases q:tE (aE b) b.2.2.2.2.2.2[k].2=0
     . rw [if_pos q] at hcc; simp at hcc
     . rw [if_neg q] at hc; simp only [bO] at hc; exact q hc
theorem s9 {n:Nat} {l:List Int} (h:bad (n:Int) l=false):jF n l:=by
 intro a ha
 unfold bad at h
 rw [List.any_eq_false] at h
 have:=h a ha
 simp at this
 omega
structure Vb (N:Nat) (X:List Blk):Prop where
 st:∀ x∈X,∀ s∈x.1,Tg N (sT s)
 tm:∀ x∈X,Tg N (tT x.2)
 fm:∀ x∈X,bf x.2=0
 ar:∀ x∈X,x.2.2.2.2.2.1.length≤20
 pos:X≠[]→0 < N
theorem zj {b:Bo} (h:Sm b):Vb b.2.2.2.1.length (xs b):=by
 unfold xs
 by_cases q:(vck b).1=0
 . rw [if_pos q]
   have ha:=xy q
   refine ⟨fun x hx s hs=>?_,fun x hx=>?_,fun x hx=>?_,fun x hx=>(h.term x hx).2.1,fun _=>?_⟩
   . obtain ⟨h1,h2,h3⟩:=Hm ((ha x hx).1 s hs)
     refine ⟨fun a m=>?_,fun a m=>?_,?_,?_⟩
     . unfold sT at m; dsimp only at m
       by_cases c:aZ s.1=true
       . rw [if_pos c] at m; simp at m; subst m
         have:=h3 c; unfold loc at this; simp at this; omega
       . rw [if_neg c] at m; simp at m
     . unfold sT at m; dsimp only at m
       by_cases c:aY s.1=true
       . rw [if_pos c] at m; simp at m; subst m
         have:=h2 c; unfold loc at this; simp at this; omega
       . rw [if_neg c] at m; simp at m
     . unfold sT; dsimp only; split <;> simp
     . unfold sT; dsimp only; split <;> simp
   . obtain ⟨a1,a2,a3⟩:=h.term x hx
     obtain ⟨h1,h2,h3,h4⟩:=ze (ha x hx).2 a1 a2 a3
     unfold tT
     by_cases c1:x.2.1=2
     . rw [if_pos c1]; exact ⟨s9 h2,fun a m=>by simp at m,by dsimp only; omega,by simp⟩
     . rw [if_neg c1]
       by_cases c2:x.2.1=4
       . rw [if_pos c2]; exact ⟨s9 h2,s9 (h3 c2),by dsimp only; omega,by simp⟩
       . rw [if_neg c2]
         by_cases c3:x.2.1=3
         . rw [if_pos c3]
           have:=h4 c3
           refine ⟨fun a m=>?_,fun a m=>by simp at m,by simp,by simp⟩
           simp at m; subst m
           unfold aE at this; dsimp only at this
           omega
         . rw [if_neg c3]; exact ⟨fun a m=>by simp at m,fun a m=>by simp at m,by simp,by simp⟩
   . obtain ⟨a1,a2,a3⟩:=h.term x hx
     exact (ze (ha x hx).2 a1 a2 a3).1
   . unfold vck at q
     have hl:=(b6 (b6 (b6 q).2).2).1
     unfold b8 at hl
     by_cases c:b.2.2.2.1=[]
     . rw [if_pos c] at hl; simp at hl
     . exact List.length_pos_iff.2 c
 . rw [if_neg q]
   exact ⟨fun x hx=>(by cases hx),fun x hx=>(by cases hx),fun x hx=>(by cases hx),fun x hx=>(by cases hx),fun e=>absurd rfl e⟩
theorem F1 {N:Nat} {x:Blk} {P:List Tc} (hx:∀ s∈x.1,Tg N (sT s)) (hl:x.1.length≤300000) (hP:P.length≤500000) :
   loop (kg x) (0,P,lcs N P)=some (P++x.1.map (fun s=>cpT (sT s)),lcs N (P++x.1.map (fun s=>cpT (sT s)))):=by
 have h:=aF (body:=kg x) (fun k:Nat=>((k:Int),P++(x.1.take k).map (fun s=>cpT (sT s)),lcs N (P++(x.1.take k).map (fun s=>cpT (sT s))))) x.1.length (b:=(P++x.1.map (fun s=>cpT (sT s)),lcs N (P++x.1.map (fun s=>cpT (sT s))))) ?_ ?_
 . simpa using h
 . intro k hk
   unfold kg
   simp only [dlt hk,cond_true,ah hk,Option.bind_some,Cj]
   rw [show ib (sT x.1[k]).1 (sT x.1[k]).2 _ _=_ from yw (hx _ (List.getElem_mem hk)) (by simp; omega),Option.bind_some]
   simp only [ak hk (by omega:x.1.length≤9223372036854775807),bF hk,List.map_append,List.map_cons,List.map_nil,List.append_assoc]
 . unfold kg
   simp
theorem Bs {b:Bo} (h:Sm b):eU b=some (some (pts (xs b),if bg (xs b) (xs b).length=0 then [] else lcs b.2.2.2.1.length (pts (xs b)))):=by
 obtain ⟨hb,hX8⟩:=kT h (Nat.le_refl _)
 have hv:=zj h
 have hNL:=h.locals
 have hxs:bg (xs b) (xs b).length≠0→xs b=b.2.2.2.2.2.2:=by
   unfold xs; split
   . intro _; rfl
   . intro hc; exact absurd (by simp [bg,stm]) hc
 have hbs:=h
 unfold eU
 rw [show dm b=_ from uU h,Option.bind_some,show eM (some (bgs (xs b),((bg (xs b) (xs b).length:Nat):Int)))=some ((bg (xs b) (xs b).length:Nat):Int) from rfl,Option.bind_some]
 by_cases q:bg (xs b) (xs b).length=0
 . rw [if_pos q,q]
   have:pts (xs b)=[]:=by
     have:=k7 (xs b); rw [q] at this; exact List.length_eq_zero_iff.1 this
   rw [this]; rfl
 . rw [if_neg q,decide_eq_false (by omega),cond_false,mkN (by omega),Option.bind_some]
   have hX:=hxs q
   have hl0:List.replicate b.2.2.2.1.length (([],[]):Tc)=lcs b.2.2.2.1.length []:=by rw [zR]; rfl
   rw [hl0]
   have hL:=aF (body:=km b) (fun k:Nat=>((k:Int),dH (xs b) k,lcs b.2.2.2.1.length (dH (xs b) k))) (xs b).length (b:=(pts (xs b),lcs b.2.2.2.1.length (pts (xs b)))) ?_ ?_
   . rw [show loop (km b) (0,[],lcs b.2.2.2.1.length [])=_ from hL]; rfl
   . intro k hk
     have hk2:k < b.2.2.2.2.2.2.length:=by rw [← hX]; exact hk
     have hget:aa b.2.2.2.2.2.2 (k:Int)=some (xs b)[k]:=by rw [ah hk2]; simp only [hX]
     have hm:(xs b)[k]∈xs b:=List.getElem_mem hk
     have a0:=nT (xs b) k (by omega)
     have a1:=cW (xs b) (i:=k + 1) (j:=(xs b).length) hk (Nat.le_refl _)
     rw [bS hk] at a1
     have a2:=hv.ar _ hm
     unfold km
     simp only [dlt hk2,cond_true,hget,Option.bind_some]
     rw [F1 (hv.st _ hm) (by omega) (by omega),Option.bind_some]
     dsimp only
     rw [Ch (xs b)[k].2 (by omega),Option.bind_some,yw (hv.tm _ hm) (by simp; omega),Option.bind_some,ak hk (by omega)]
     simp only [dH,eo,ce hk,List.append_assoc]
   . unfold km
     dsimp only
     rw [dge (by rw [← hX]; omega),cond_false]
end
section
section
variable {P:List Tc} {C:List Tc}
theorem MD:qb (some (P,C))=some ((P.length:Nat):Int):=rfl
end
abbrev b24:Bo:=(1,1,[],[[],[],[]],[],[],[([(1,1,2,0,false)],(3,0,0,[],[],[]))])
theorem Lz:bM (1,1,2,0,false) b24.2.2.2.1 b24.2.1=some ([],0):=by
 unfold bM
 rw [show eT ((1:Int),1,2,0,false)=_ from kH (1,1,2,0,false)]
 have e:dW [] [] 1 0=some ([],0):=by
   rw [gG _ _ _ _ (by decide) (by decide) (by decide)]; rfl
 show ((dW [] [] 1 0).bind _)=_
 rw [e]; rfl
theorem sK (a:Int):cp [a]=[a]:=by
 refine rf (zx _) (by simp) (fun x=>?_)
 rw [lf]
end
theorem iK (x:Nat):BitVec.ofInt 64 (x:Int)=BitVec.ofNat 64 x:=by simp
theorem dD (x:Nat) (h:x < 18446744073709551616):IntKind.wrap .u64 (x:Int)=(x:Int):=by
 rw [IntKind.wrap_u64]
 omega
theorem nI {k:Nat} (hk:k < 64):2 ^ k < 18446744073709551616:=Nat.pow_lt_pow_right (by decide) hk
theorem xF {k:Nat} (hk:k < 64):IntKind.wrap .u64 (1 * 2 ^ (min k (IntKind.bits .u64)))=((2 ^ k:Nat):Int):=by
 have h1:min k (IntKind.bits .u64)=k:=Nat.min_eq_left (Nat.le_of_lt hk)
 rw [h1,Int.one_mul]
 have:=dD (2 ^ k) (nI hk)
 rw [← this]
 congr 1
theorem zV (x y:Nat) (hx:x < 18446744073709551616) (hy:y < 18446744073709551616):IntKind.wrap .u64 ((BitVec.ofInt (IntKind.bits .u64) (x:Int) &&& BitVec.ofInt (IntKind.bits .u64) (y:Int)).toNat:Int)=((x &&& y:Nat):Int):=by
 show IntKind.wrap .u64 ((BitVec.ofInt 64 (x:Int) &&& BitVec.ofInt 64 (y:Int)).toNat:Int)=_
 rw [iK,iK,BitVec.toNat_and,BitVec.toNat_ofNat,BitVec.toNat_ofNat,Nat.mod_eq_of_lt hx,Nat.mod_eq_of_lt hy]
 exact dD _ (Nat.and_lt_two_pow (n:=64) _ hy)
theorem orU (x y:Nat) (hx:x < 18446744073709551616) (hy:y < 18446744073709551616):IntKind.wrap .u64 ((BitVec.ofInt (IntKind.bits .u64) (x:Int) ||| BitVec.ofInt (IntKind.bits .u64) (y:Int)).toNat:Int)=((x ||| y:Nat):Int):=by
 show IntKind.wrap .u64 ((BitVec.ofInt 64 (x:Int) ||| BitVec.ofInt 64 (y:Int)).toNat:Int)=_
 rw [iK,iK,BitVec.toNat_or,BitVec.toNat_ofNat,BitVec.toNat_ofNat,Nat.mod_eq_of_lt hx,Nat.mod_eq_of_lt hy]
 exact dD _ (Nat.or_lt_two_pow (n:=64) hx hy)
theorem EH (x k:Nat):(x &&& 2 ^ k=0)↔x.testBit k=false:=by
 constructor
 . intro h
   have:=congrArg (fun n=>n.testBit k) h
   simpa [Nat.testBit_and,Nat.testBit_two_pow_self] using this
 . intro h
   apply Nat.eq_of_testBit_eq
   intro i
   rw [Nat.testBit_and,Nat.testBit_two_pow,Nat.zero_testBit]
   by_cases hi:k=i
   . subst hi; simp [h]
   . simp [hi]
theorem Gl (x k i:Nat):(x ||| 2 ^ k).testBit i=(x.testBit i||decide (k=i)):=by
 rw [Nat.testBit_or,Nat.testBit_two_pow]
def Wd (w:Int):Prop:=0≤w∧w < 18446744073709551616
def mem (l:List Int) (i:Nat):Bool:=match l[i / 64]? with | some w=>w.toNat.testBit (i % 64) | none=>false
structure Ds (n:Nat) (l:List Int):Prop where
 hn:n≤1048576
 len:l.length=(n + 63) / 64
 wd:∀ w∈l,Wd w
 top:∀ i,n≤i→mem l i=false
theorem qA {n:Nat} {l:List Int} (i:Int):eK (some ((n:Int),l)) i=some (decide (0≤i∧i < n)):=by
 unfold eK
 rw [show mA (some ((n:Int),l))=some (n:Int) from rfl]
 by_cases h:0≤i
 . simp [h]
 . simp [h]
theorem Ds.word {n:Nat} {l:List Int} (h:Ds n l) {k:Nat} (hk:k < n):∃ x:Nat,l[k / 64]? = some (x:Int)∧x < 18446744073709551616:=by
 have hl:k / 64 < l.length:=by rw [h.len]; omega
 refine ⟨(l[k / 64]).toNat,?_,?_⟩
 . rw [List.getElem?_eq_getElem hl,Int.toNat_of_nonneg (h.wd _ (List.getElem_mem hl)).1]
 . have:=h.wd _ (List.getElem_mem hl)
   unfold Wd at this
   omega
theorem fu {l:List Int} {k x:Nat} (h:l[k / 64]? = some (x:Int)):mem l k=x.testBit (k % 64):=by
 unfold mem
 rw [h]
 simp
theorem rH {n:Nat} {l:List Int} (h:Ds n l) (i:Int):bZ (some ((n:Int),l)) i=some (decide (0≤i∧i < n)&&mem l i.toNat):=by
 unfold bZ
 rw [qA]
 by_cases hi:0≤i∧i < n
 . obtain ⟨k,rfl⟩:=Int.eq_ofNat_of_zero_le hi.1
   have hk:k < n:=by omega
   have hn:=h.hn
   obtain ⟨x,hx,hx2⟩:=h.word hk
   have e1:IntKind.wrap .i64 (Int.tdiv (k:Int) 64)=((k / 64:Nat):Int):=by
     rw [show Int.tdiv (k:Int) 64=((k / 64:Nat):Int) from rfl]
     exact w64 (by omega) (by omega)
   have e2:Int.tmod (k:Int) 64=((k % 64:Nat):Int):=rfl
   have g:aa l ((k / 64:Nat):Int)=some (x:Int):=by
     unfold aa
     rw [if_pos (Int.natCast_nonneg _),Int.toNat_natCast]
     exact hx
   have hd:decide (0≤(k:Int)∧(k:Int) < n)=true:=by simpa using hk
   rw [hd,e1,e2]
   simp only [Option.bind_some,cond_true,g,ta (Int.natCast_nonneg _),Int.toNat_natCast,Bool.true_and]
   have E:IntKind.wrap .u64 ((BitVec.ofInt (IntKind.bits .u64) (x:Int) &&& BitVec.ofInt (IntKind.bits .u64) (IntKind.wrap .u64 (1 * 2 ^ (min (k % 64) (IntKind.bits .u64))))).toNat:Int)=((x &&& 2 ^ (k % 64):Nat):Int):=by
     rw [xF (Nat.mod_lt k (by decide))]
     exact zV x _ hx2 (nI (Nat.mod_lt k (by decide)))
   simp only [E,fu hx]
   have hb:=EH x (k % 64)
   cases ht:x.testBit (k % 64) with
   | false=>simp [hb.2 ht]
   | true =>
     have:¬ (x &&& 2 ^ (k % 64)=0):=fun e=>by rw [hb.1 e] at ht; cases ht
     have h2:¬ (((x &&& 2 ^ (k % 64):Nat):Int)=0):=by omega
     rw [decide_eq_false h2]
     rfl
 . rw [decide_eq_false hi]
   rfl
theorem D7 {l:List Int} {q x y:Nat} (hq:l[q]? = some (x:Int)) (j:Nat):mem (l.set q (y:Int)) j=if j / 64=q then y.testBit (j % 64) else mem l j:=by
 unfold mem
 rw [List.getElem?_set]
 have hlt:q < l.length:=(List.getElem?_eq_some_iff.1 hq).1
 by_cases hj:j / 64=q
 . rw [if_pos hj.symm,if_pos hj,← hj] 
   simp [hj,hlt]
 . rw [if_neg (fun e=>hj e.symm),if_neg hj]
theorem rD {n:Nat} {l:List Int} (h:Ds n l) (i:Int):∃ l',eJ i n l=some (decide (0≤i∧i < n)&&!mem l i.toNat,l')∧Ds n l'∧∀ j,mem l' j=(mem l j||decide ((0≤i∧i < n)∧i.toNat=j)):=by
 unfold eJ
 rw [qA,rH h]
 by_cases hi:0≤i∧i < n
 . rw [decide_eq_true hi]
   cases hm:mem l i.toNat with
   | true=>exact ⟨l,rfl,h,fun j=>by
       by_cases hj:i.toNat=j
       . subst hj; simp [hm]
       . simp [hj]⟩
   | false =>
     obtain ⟨k,rfl⟩:=Int.eq_ofNat_of_zero_le hi.1
     have hk:k < n:=by omega
     have hn:=h.hn
     obtain ⟨x,hx,hx2⟩:=h.word hk
     have e1:IntKind.wrap .i64 (Int.tdiv (k:Int) 64)=((k / 64:Nat):Int):=by
       rw [show Int.tdiv (k:Int) 64=((k / 64:Nat):Int) from rfl]
       exact w64 (by omega) (by omega)
     have e2:Int.tmod (k:Int) 64=((k % 64:Nat):Int):=rfl
     have g:aa l ((k / 64:Nat):Int)=some (x:Int):=by
       unfold aa
       rw [if_pos (Int.natCast_nonneg _),Int.toNat_natCast]
       exact hx
     have E:IntKind.wrap .u64 ((BitVec.ofInt (IntKind.bits .u64) (x:Int) ||| BitVec.ofInt (IntKind.bits .u64) (IntKind.wrap .u64 (1 * 2 ^ (min (k % 64) (IntKind.bits .u64))))).toNat:Int)=((x ||| 2 ^ (k % 64):Nat):Int):=by
       rw [xF (Nat.mod_lt k (by decide))]
       exact orU x _ hx2 (nI (Nat.mod_lt k (by decide)))
     have hlt:k / 64 < l.length:=(List.getElem?_eq_some_iff.1 hx).1
     have hmem:∀ j,mem (l.set (k / 64) ((x ||| 2 ^ (k % 64):Nat):Int)) j=(mem l j||decide (((0:Int)≤(k:Int)∧(k:Int) < n)∧k=j)):=fun j=>by
       rw [D7 hx]
       by_cases hj:j / 64=k / 64
       . rw [if_pos hj,Gl,fu (by rw [hj]; exact hx)]
         have:(k % 64=j % 64)↔k=j:=by omega
         simp [this,hk]
       . rw [if_neg hj]
         have:¬ k=j:=fun e=>hj (by rw [e])
         simp [this]
     refine ⟨l.set (k / 64) ((x ||| 2 ^ (k % 64):Nat):Int),?_,⟨hn,by rw [List.length_set]; exact h.len,fun w hw=>?_,fun j hj=>?_⟩,hmem⟩
     . rw [e1,e2]
       simp only [Option.bind_some,cond_true,cond_false,g,ta (Int.natCast_nonneg _),Int.toNat_natCast,Bool.true_and,Bool.not_true,Bool.not_false,E]
     . rcases List.mem_or_eq_of_mem_set hw with hw | rfl
       . exact h.wd w hw
       . have:=Nat.or_lt_two_pow (n:=64) hx2 (nI (Nat.mod_lt k (by decide)))
         unfold Wd
         omega
     . rw [hmem,h.top j hj]
       have:¬ k=j:=by omega
       simp [this]
 . rw [decide_eq_false hi]
   exact ⟨l,rfl,h,fun j=>by simp [hi]⟩
theorem nS (x r j:Nat):(x / 2 ^ r * 2 ^ r).testBit j=(decide (r≤j)&&x.testBit j):=by
 rw [Nat.testBit_mul_two_pow]
 by_cases h:r≤j
 . rw [Nat.testBit_div_two_pow,Nat.sub_add_cancel h]
 . simp [h]
theorem CX (x r:Nat) (hx:x < 18446744073709551616) (hr:r < 64):IntKind.wrap .u64 ((Int.fdiv (x:Int) (2 ^ (min r (IntKind.bits .u64)))) * 2 ^ (min r (IntKind.bits .u64)))=((x / 2 ^ r * 2 ^ r:Nat):Int):=by
 have h1:min r (IntKind.bits .u64)=r:=Nat.min_eq_left (Nat.le_of_lt hr)
 have hp:((2:Int) ^ r)=((2 ^ r:Nat):Int):=by simp
 have h2:Int.fdiv (x:Int) ((2 ^ r:Nat):Int)=((x / 2 ^ r:Nat):Int):=by
   rw [Int.fdiv_eq_ediv_of_nonneg _ (Int.natCast_nonneg _)]
   rfl
 rw [h1,hp,h2,← Int.natCast_mul]
 exact dD _ (Nat.lt_of_le_of_lt (Nat.div_mul_le_self x (2 ^ r)) hx)
theorem Fo {x:Nat} (h0:x≠0) (h:x < 18446744073709551616):Lib.ctz 64 x < 64∧x.testBit (Lib.ctz 64 x)=true∧∀ j,j < Lib.ctz 64 x→x.testBit j=false:=by
 have h':x < 2 ^ 64:=h
 obtain ⟨m,hm,hk⟩:=Lib.ctzFrom_spec 64 x (by omega) h'
 have e:Lib.ctz 64 x=Lib.ctzFrom 64 x:=by simp [Lib.ctz,h0]
 rw [e]
 clear e
 revert hm hk
 generalize Lib.ctzFrom 64 x=c
 intro hm hk
 refine ⟨hk,?_,fun j hj=>?_⟩
 . rw [hm,Nat.mul_comm,Nat.testBit_mul_two_pow]
   simp
 . rw [hm,Nat.mul_comm,Nat.testBit_mul_two_pow]
   simp [Nat.not_le.2 hj]
theorem Cx {n:Int} {l:List Int} (hw:∀ w∈l,Wd w) (hlen:l.length≤20000):∀ (d a w:Nat),a + 1 + d=l.length→w < 18446744073709551616 →
   ∃ r,loop (ig (n,l)) ((a:Int),(w:Int))=some r∧((r = .inr (-1)∧w=0∧∀ q,a < q→q < l.length→l[q]? = some 0) ∨
     ∃ b v:Nat,r = .inl ((b:Int),(v:Int))∧v≠0∧v < 18446744073709551616∧a≤b∧b < l.length∧((b=a∧v=w)∨(a < b∧w=0∧l[b]? = some (v:Int)))∧∀ q,a < q→q < b→l[q]? = some 0):=by
 intro d
 induction d with
 | zero =>
   intro a w ha hx
   by_cases h0:w=0
   . subst h0
     refine ⟨.inr (-1),iQ ?_,.inl ⟨rfl,rfl,fun q h1 h2=>by omega⟩⟩
     have e:IntKind.wrap .i64 ((a:Int) + 1)=((l.length:Nat):Int):=by rw [w64 (by omega) (by omega)]; omega
     unfold ig
     simp [e]
   . refine ⟨.inl ((a:Int),(w:Int)),iQ ?_,.inr ⟨a,w,rfl,h0,hx,Nat.le_refl a,by omega,.inl ⟨rfl,rfl⟩,fun q h1 h2=>by omega⟩⟩
     have h1:¬ ((w:Int)=0):=by omega
     unfold ig
     simp [h1,h0]
 | succ d ih =>
   intro a w ha hx
   by_cases h0:w=0
   . subst h0
     have hlt:a + 1 < l.length:=by omega
     have hwd:=hw _ (List.getElem_mem hlt)
     obtain ⟨x,hxe⟩:∃ x:Nat,l[a + 1]=(x:Int):=⟨l[a + 1].toNat,(Int.toNat_of_nonneg hwd.1).symm⟩
     have hx2:x < 18446744073709551616:=by have:=hwd.2; rw [hxe] at this; omega
     have hq:l[a + 1]? = some (x:Int):=by rw [List.getElem?_eq_getElem hlt,hxe]
     obtain ⟨r,h1,h2⟩:=ih (a + 1) x (by omega) hx2
     have e:IntKind.wrap .i64 ((a:Int) + 1)=((a + 1:Nat):Int):=by rw [w64 (by omega) (by omega)]; rfl
     have hne:¬ (((a + 1:Nat):Int)=((l.length:Nat):Int)):=by omega
     have hg:aa l ((a + 1:Nat):Int)=some (x:Int):=by
       unfold aa
       rw [if_pos (Int.natCast_nonneg _),Int.toNat_natCast]
       exact hq
     refine ⟨r,(rh (s':=(((a + 1:Nat):Int),(x:Int))) ?_).trans h1,?_⟩
     . unfold ig
       simp only [e,hg,Option.bind_some,decide_eq_false hne,cond_false]
       rfl
     . rcases h2 with ⟨h3,h4,h5⟩ | ⟨b,v,h3,h4,h5,h6,h7,h8,h9⟩
       . refine .inl ⟨h3,rfl,fun q g1 g2=>?_⟩
         by_cases hqa:q=a + 1
         . subst hqa; rw [hq,h4]; rfl
         . exact h5 q (by omega) g2
       . refine .inr ⟨b,v,h3,h4,h5,by omega,h7,.inr ?_,fun q g1 g2=>?_⟩
         . rcases h8 with ⟨rfl,rfl⟩ | ⟨g1,g2,g3⟩
           . exact ⟨by omega,rfl,hq⟩
           . exact ⟨by omega,rfl,g3⟩
         . by_cases hqa:q=a + 1
           . subst hqa
             rcases h8 with ⟨rfl,rfl⟩ | ⟨k1,k2,k3⟩
             . omega
             . rw [hq,k2]; rfl
           . exact h9 q (by omega) g2
   . refine ⟨.inl ((a:Int),(w:Int)),iQ ?_,.inr ⟨a,w,rfl,h0,hx,Nat.le_refl a,by omega,.inl ⟨rfl,rfl⟩,fun q h1 h2=>by omega⟩⟩
     have h1:¬ ((w:Int)=0):=by omega
     unfold ig
     simp [h1,h0]
theorem rG {l:List Int} {j:Nat} (h:∀ w,l[j / 64]? = some w→w=0):mem l j=false:=by
 unfold mem
 cases hl:l[j / 64]? with
 | none=>rfl
 | some w=>rw [h w hl]; simp
theorem vW {n:Nat} {l:List Int} (h:Ds n l) (i:Int):∃ r,eN (some ((n:Int),l)) i=some r∧((r = -1∧∀ j:Nat,i≤(j:Int)→mem l j=false) ∨
   ∃ k:Nat,r=(k:Int)∧i≤(k:Int)∧mem l k=true∧∀ j:Nat,i≤(j:Int)→j < k→mem l j=false):=by
 obtain ⟨c,hc⟩:∃ c:Nat,(if i < 0 then 0 else i)=(c:Int):=⟨(if i < 0 then 0 else i).toNat,by split <;> omega⟩
 have hci:∀ j:Nat,i≤(j:Int)↔c≤j:=fun j=>by split at hc <;> omega
 have hn:=h.hn
 have hl:=h.len
 unfold eN
 simp only [hc,qA,Option.bind_some]
 by_cases hk:c < n
 . have hd : decide (0 ≤ (c : Int) ∧ (c : Int) < n) = true := by simpa using hk
   obtain ⟨x,hx,hx2⟩:=h.word hk
   have e1:IntKind.wrap .i64 (Int.tdiv (c:Int) 64)=((c / 64:Nat):Int):=by
     rw [show Int.tdiv (c:Int) 64=((c / 64:Nat):Int) from rfl]
     exact w64 (by omega) (by omega)
   have e2:Int.tmod (c:Int) 64=((c % 64:Nat):Int):=rfl
   have g:aa l ((c / 64:Nat):Int)=some (x:Int):=by
     unfold aa
     rw [if_pos (Int.natCast_nonneg _),Int.toNat_natCast]
     exact hx
   have hr:c % 64 < 64:=Nat.mod_lt c (by decide)
   have hw2:x / 2 ^ (c % 64) * 2 ^ (c % 64) < 18446744073709551616:=Nat.lt_of_le_of_lt (Nat.div_mul_le_self x _) hx2
   obtain ⟨r,hlp,hcase⟩:=Cx (n:=(n:Int)) h.wd (by omega) (l.length - 1 - c / 64) (c / 64) _ (by omega) hw2
   simp only [hd,Bool.not_true,cond_false,e1,e2,g,Option.bind_some,ta (Int.natCast_nonneg _),Int.toNat_natCast,CX x _ hx2 hr,hlp]
   rcases hcase with ⟨rfl,h4,h5⟩ | ⟨b,v,rfl,h4,h5,h6,h7,h8,h9⟩
   . refine ⟨-1,rfl,.inl ⟨rfl,fun j hj=>?_⟩⟩
     have hj:=(hci j).1 hj
     by_cases hja:j / 64=c / 64
     . rw [fu (by rw [hja]; exact hx)]
       have:=nS x (c % 64) (j % 64)
       rw [h4,Nat.zero_testBit] at this
       have hle:c % 64≤j % 64:=by omega
       simpa [hle] using this.symm
     . refine rG (fun w hw=>?_)
       have hlt:=(List.getElem?_eq_some_iff.1 hw).1
       rw [h5 (j / 64) (by omega) hlt] at hw
       exact (Option.some.inj hw).symm
   . obtain ⟨t1,t2,t3⟩:=Fo h4 h5
     have ht:tzF (v:Int)=some ((Lib.ctz 64 v:Nat):Int):=by
       unfold tzF
       rw [if_pos ⟨Int.natCast_nonneg _,by omega⟩,Int.toNat_natCast]
     have e3:IntKind.wrap .i64 (IntKind.wrap .i64 ((b:Int) * 64) + ((Lib.ctz 64 v:Nat):Int))=((b * 64 + Lib.ctz 64 v:Nat):Int):=by
       rw [w64 (x:=(b:Int) * 64) (by omega) (by omega),w64 (by omega) (by omega)]
       omega
     refine ⟨((b * 64 + Lib.ctz 64 v:Nat):Int),by simp only [ht,Option.bind_some,e3],.inr ⟨_,rfl,?_⟩⟩
     generalize Lib.ctz 64 v=z at t1 t2 t3
     have d1:(b * 64 + z) / 64=b:=by omega
     have d2:(b * 64 + z) % 64=z:=by omega
     rcases h8 with ⟨rfl,rfl⟩ | ⟨g1,g2,g3⟩
     . rw [nS,Bool.and_eq_true] at t2
       have hz:c % 64≤z:=by simpa using t2.1
       refine ⟨(hci _).2 (by omega),?_,fun j hj hjk=>?_⟩
       . rw [fu (x:=x) (by rw [d1]; exact hx),d2]
         exact t2.2
       . have hj:=(hci j).1 hj
         have:=t3 (j % 64) (by omega)
         rw [nS] at this
         rw [fu (by rw [show j / 64=c / 64 by omega]; exact hx)]
         have hle:c % 64≤j % 64:=by omega
         simpa [hle] using this
     . refine ⟨(hci _).2 (by omega),?_,fun j hj hjk=>?_⟩
       . rw [fu (x:=v) (by rw [d1]; exact g3),d2]
         exact t2
       . have hj:=(hci j).1 hj
         by_cases hja:j / 64=c / 64
         . rw [fu (by rw [hja]; exact hx)]
           have:=nS x (c % 64) (j % 64)
           rw [g2,Nat.zero_testBit] at this
           have hle:c % 64≤j % 64:=by omega
           simpa [hle] using this.symm
         . by_cases hjb:j / 64=b
           . rw [fu (by rw [hjb]; exact g3)]
             exact t3 _ (by omega)
           . exact rG (fun w hw=>by
               rw [h9 (j / 64) (by omega) (by omega)] at hw
               exact (Option.some.inj hw).symm)
 . have hd:decide (0≤(c:Int)∧(c:Int) < n)=false:=by simpa using hk
   simp only [hd,Bool.not_false,cond_true]
   exact ⟨-1,rfl,.inl ⟨rfl,fun j hj=>h.top j (by have:=(hci j).1 hj; omega)⟩⟩
theorem xK (m j:Nat):mem (List.replicate m 0) j=false:=rG (fun w hw=>by
 rw [List.getElem?_replicate] at hw
 split at hw
 . exact (Option.some.inj hw).symm
 . cases hw)
theorem Gc {n:Nat} (h:n≤1048576):Ds n (List.replicate ((n + 63) / 64) 0) :=
 ⟨h,List.length_replicate,fun w hw=>by
   obtain ⟨_,rfl⟩:=List.mem_replicate.1 hw
   exact ⟨Int.le_refl _,by decide⟩,fun j _=>xK _ j⟩
theorem Dk (n:Int):gD n=if n < 0 then some (.inl 2) else if 1048576 < n then some (.inl 5) else some (.inr (0,n,List.replicate ((n.toNat + 63) / 64) 0)):=by
 unfold gD
 by_cases h1:n < 0
 . simp [h1]
 . by_cases h2:1048576 < n
   . simp [h1,h2]
   . obtain ⟨k,rfl⟩:=Int.eq_ofNat_of_zero_le (by omega:0≤n)
     have e:IntKind.wrap .i64 (Int.tdiv (IntKind.wrap .i64 (IntKind.wrap .i64 ((k:Int) + 64) - 1)) 64)=(((k + 63) / 64:Nat):Int):=by
       rw [w64 (x:=(k:Int) + 64) (by omega) (by omega),w64 (x:=(k:Int) + 64 - 1) (by omega) (by omega),show (k:Int) + 64 - 1=((k + 63:Nat):Int) by omega]
       rw [show Int.tdiv ((k + 63:Nat):Int) 64=(((k + 63) / 64:Nat):Int) from rfl]
       exact w64 (by omega) (by omega)
     rw [e]
     have hm:(mk ((((k + 63) / 64:Nat):Int)) ((((k + 63) / 64:Nat):Int)) (0:Int))=some (List.replicate ((k + 63) / 64) 0):=by
       unfold mk
       rw [if_pos (by constructor <;> omega),Int.toNat_natCast]
     rw [hm]
     simp [h1,h2]
def eE (n:Nat) (l:List Int):List Nat:=(List.range n).filter (mem l)
def liN (L:List Nat):List Int:=L.map Int.ofNat
theorem nA {p:Nat→Bool} {c:Nat}:∀ (d:Nat),(∀ j,c≤j→j < c + d→p j=false)→(List.range (c + d)).filter p=(List.range c).filter p
 | 0,_=>rfl
 | d + 1,h=>by
   rw [← Nat.add_assoc,List.range_succ,List.filter_append,nA d (fun j h1 h2=>h j h1 (by omega))]
   simp [h (c + d) (by omega) (by omega)]
theorem np (p:Nat→Bool) (c:Nat):((List.range c).filter p).length≤c:=by
 have:=List.length_filter_le p (List.range c)
 simpa using this
theorem FX {n:Nat} {l:List Int} (h:Ds n l) {body:Int×List Int→Option ((Int×List Int)⊕List Int)}
   (hb:∀ (c:List Int) (k:Nat),mem l k=true→body ((k:Int),c)=(app c [(k:Int)]).bind fun z=>(eN (some ((n:Int),l)) ((k:Int) + 1)).bind fun i=>some (.inl (i,z))) (he:∀ c,body (-1,c)=some (.inr c)) :
   ∃ r,eN (some ((n:Int),l)) 0=some r∧loop body (r,[])=some (liN (eE n l)):=by
 have hn:=h.hn
 have lt_of:∀ k,mem l k=true→k < n:=fun k hk=>by
   rcases Nat.lt_or_ge k n with h1 | h1
   . exact h1
   . rw [h.top k h1] at hk; cases hk
 have key:∀ (r:Int) (acc:List Int),(∃ c:Nat,c≤n∧acc=liN ((List.range c).filter (mem l))∧((r = -1∧∀ j:Nat,(c:Int)≤(j:Int)→mem l j=false)∨∃ k:Nat,r=(k:Int)∧(c:Int)≤(k:Int)∧mem l k=true∧∀ j:Nat,(c:Int)≤(j:Int)→j < k→mem l j=false)) →
     loop body (r,acc)=some (liN (eE n l)):=by
   intro r acc hI
   refine DU (fun s=>∃ c:Nat,c≤n∧s.2=liN ((List.range c).filter (mem l))∧((s.1 = -1∧∀ j:Nat,(c:Int)≤(j:Int)→mem l j=false)∨∃ k:Nat,s.1=(k:Int)∧(c:Int)≤(k:Int)∧mem l k=true∧∀ j:Nat,(c:Int)≤(j:Int)→j < k→mem l j=false)) (fun s=>if s.1 < 0 then 0 else n + 1 - s.1.toNat) ?_ (s:=(r,acc)) hI
   rintro ⟨r,acc⟩ ⟨c,hcn,rfl,hr⟩
   rcases hr with ⟨rfl,h2⟩ | ⟨k,rfl,h2,h3,h4⟩
   . right
     have e:eE n l=(List.range c).filter (mem l):=by
       unfold eE
       have:=nA (p:=mem l) (c:=c) (n - c) (fun j h1 _=>h2 j (by omega))
       rw [show c + (n - c)=n by omega] at this
       exact this
     rw [e]
     exact he _
   . left
     have hk:=lt_of k h3
     obtain ⟨r',g1,g2⟩:=vW h (((k + 1:Nat):Int))
     have e1:(k:Int) + 1=((k + 1:Nat):Int):=rfl
     have e2:(List.range (k + 1)).filter (mem l)=(List.range c).filter (mem l)++[k]:=by
       have:=nA (p:=mem l) (c:=c) (k - c) (fun j h5 h6=>h4 j (by omega) (by omega))
       rw [show c + (k - c)=k by omega] at this
       rw [List.range_succ,List.filter_append,this]
       simp [h3]
     have e3:app (liN ((List.range c).filter (mem l))) [(k:Int)]=some (liN ((List.range (k + 1)).filter (mem l))):=by
       have:=np (mem l) c
       unfold app
       rw [if_pos (by simp [liN]; omega),e2]
       simp [liN]
     refine ⟨(r',liN ((List.range (k + 1)).filter (mem l))),?_,⟨k + 1,by omega,rfl,g2⟩,?_⟩
     . rw [hb _ k h3]
       simp only [e3,e1,g1,Option.bind_some]
     . show (if r' < 0 then 0 else n + 1 - r'.toNat) < (if (k:Int) < 0 then 0 else n + 1 - (k:Int).toNat)
       rw [if_neg (by omega:¬ (k:Int) < 0),Int.toNat_natCast]
       rcases g2 with ⟨rfl,_⟩ | ⟨k',rfl,k1,k2,_⟩
       . simp; omega
       . rw [if_neg (by omega:¬ (k':Int) < 0),Int.toNat_natCast]
         have:=lt_of k' k2
         omega
 obtain ⟨r,g1,g2⟩:=vW h 0
 exact ⟨r,g1,key r [] ⟨0,Nat.zero_le n,rfl,g2⟩⟩
theorem EL {n:Nat} {l:List Int} (h:Ds n l) (k:Nat):bZ (some ((n:Int),l)) (k:Int)=some (mem l k):=by
 rw [rH h,Int.toNat_natCast]
 cases hm:mem l k with
 | false=>simp
 | true =>
   have:k < n:=by
     rcases Nat.lt_or_ge k n with h1 | h1
     . exact h1
     . rw [h.top k h1] at hm; cases hm
   simp [this]
def pc:Nat→Nat→Nat
 | 0,_=>0
 | n + 1,x=>(x % 2) + pc n (x / 2)
theorem kG (a b y M:Nat) (ha:a < 256) (hb:b < 256):(a + 256 * y) &&& (b + 256 * M)=(a &&& b) + 256 * (y &&& M):=by
 have h1:a &&& b < 256:=Nat.and_lt_two_pow (n:=8) a hb
 apply Nat.eq_of_testBit_eq
 intro i
 have e:∀ (u v:Nat),u < 256→(u + 256 * v).testBit i=if i < 8 then u.testBit i else v.testBit (i - 8):=fun u v hu=>by
   rw [Nat.add_comm,show 256 * v=2 ^ 8 * v from rfl,Nat.testBit_two_pow_mul_add v (show u < 2 ^ 8 from hu)]
 rw [Nat.testBit_and,e a y ha,e b M hb,e _ _ h1]
 split <;> simp [Nat.testBit_and]
theorem nN (P:Nat→Bool) (h:(List.range 256).all P=true) {a:Nat} (ha:a < 256):P a=true:=List.all_eq_true.1 h a (List.mem_range.2 ha)
def s1 (M x:Nat):Nat:=((x / 2) &&& M) + (x &&& M)
def s2 (M x:Nat):Nat:=((x / 4) &&& M) + (x &&& M)
def s3 (M x:Nat):Nat:=(x / 16 + x) &&& M
theorem Dm (a y M:Nat) (ha:a < 256):s1 (85 + 256 * M) (a + 256 * y)=s1 85 a + 256 * s1 M y:=by
 unfold s1
 have h2:(a + 256 * y) / 2=(a / 2 + 128 * (y % 2)) + 256 * (y / 2):=by omega
 have h3:(a / 2 + 128 * (y % 2)) &&& 85=(a / 2) &&& 85:=by
   have h4:y % 2=0∨y % 2=1:=by omega
   rcases h4 with h4 | h4
   . rw [h4]; rfl
   . rw [h4]
     have:=nN (fun a=>decide (((a / 2 + 128 * 1) &&& 85)=((a / 2) &&& 85))) (by decide +kernel) ha
     exact of_decide_eq_true this
 rw [kG a 85 y M ha (by decide),h2,kG _ 85 _ M (by omega) (by decide),h3]
 omega
theorem Gj {a:Nat} (ha:a < 256):s1 85 a < 256:=by
 have:=nN (fun a=>decide (s1 85 a < 256)) (by decide +kernel) ha
 exact of_decide_eq_true this
theorem Ed (a y M:Nat) (ha:a < 256):s2 (51 + 256 * M) (a + 256 * y)=s2 51 a + 256 * s2 M y:=by
 unfold s2
 have h2:(a + 256 * y) / 4=(a / 4 + 64 * (y % 4)) + 256 * (y / 4):=by omega
 have h3:(a / 4 + 64 * (y % 4)) &&& 51=(a / 4) &&& 51:=by
   have h4:y % 4=0∨y % 4=1∨y % 4=2∨y % 4=3:=by omega
   have:=nN (fun a=>decide (((a / 4 + 64 * 1) &&& 51)=((a / 4) &&& 51)∧((a / 4 + 64 * 2) &&& 51)=((a / 4) &&& 51)∧((a / 4 + 64 * 3) &&& 51)=((a / 4) &&& 51))) (by decide +kernel) ha
   have:=of_decide_eq_true this
   rcases h4 with h4 | h4 | h4 | h4 <;> rw [h4]
   . rfl
   . exact this.1
   . exact this.2.1
   . exact this.2.2
 rw [kG a 51 y M ha (by decide),h2,kG _ 51 _ M (by omega) (by decide),h3]
 omega
theorem xA {a:Nat} (ha:a < 256):((s2 51 (s1 85 a)) / 16 + (s2 51 (s1 85 a)) % 16)=pc 8 a∧(s2 51 (s1 85 a)) % 16≤4∧(s2 51 (s1 85 a)) / 16≤4∧s2 51 (s1 85 a) < 256∧pc 8 a≤8:=by
 have:=nN (fun a=>decide (((s2 51 (s1 85 a)) / 16 + (s2 51 (s1 85 a)) % 16)=pc 8 a∧(s2 51 (s1 85 a)) % 16≤4∧(s2 51 (s1 85 a)) / 16≤4∧s2 51 (s1 85 a) < 256∧pc 8 a≤8)) (by decide +kernel) ha
 exact of_decide_eq_true this
theorem C8 (a y M:Nat) (ha:a < 256) (h1:a % 16≤4) (h2:a / 16≤4) (h3:y % 16≤4):s3 (15 + 256 * M) (a + 256 * y)=(a / 16 + a % 16) + 256 * s3 M y:=by
 unfold s3
 have e:(a + 256 * y) / 16 + (a + 256 * y)=(a / 16 + a % 16 + 16 * (a / 16 + y % 16)) + 256 * (y / 16 + y):=by omega
 rw [e,kG _ 15 _ M (by omega) (by decide)]
 have:(a / 16 + a % 16 + 16 * (a / 16 + y % 16)) &&& 15=a / 16 + a % 16:=by
   rw [show (15:Nat)=2 ^ 4 - 1 from rfl,Nat.and_two_pow_sub_one_eq_mod]
   omega
 rw [this]
theorem yF:∀ (n m x:Nat),pc (n + m) x=pc n x + pc m (x / 2 ^ n)
 | 0,m,x=>by simp [pc]
 | n + 1,m,x=>by
   rw [show n + 1 + m=(n + m) + 1 by omega,show pc ((n + m) + 1) x=x % 2 + pc (n + m) (x / 2) from rfl,show pc (n + 1) x=x % 2 + pc n (x / 2) from rfl]
   rw [yF n m,Nat.div_div_eq_div_mul,Nat.pow_succ,Nat.mul_comm 2]
   omega
theorem Ge (a y:Nat) (ha:a < 256):pc 8 (a + 256 * y)=pc 8 a:=by
 unfold pc pc pc pc pc pc pc pc pc
 omega
def en:Nat→Nat→Nat
 | _,0=>0
 | b,n + 1=>b + 256 * en b n
def pcs:Nat→Nat→Nat
 | 0,_=>0
 | n + 1,x=>pc 8 (x % 256) + 256 * pcs n (x / 256)
theorem GL (n:Nat):∀ x,x < 256 ^ n→s3 (en 15 n) (s2 (en 51 n) (s1 (en 85 n) x))=pcs n x∧(s2 (en 51 n) (s1 (en 85 n) x)) % 16≤4:=by
 induction n with
 | zero => intro x hx; have : x = 0 := by simp at hx; omega
           subst this; decide
 | succ n ih =>
   intro x hx
   have hx2:x / 256 < 256 ^ n:=by
     rw [Nat.pow_succ] at hx
     exact Nat.div_lt_of_lt_mul (by rw [Nat.mul_comm]; exact hx)
   obtain ⟨i1,i2⟩:=ih _ hx2
   have ha:x % 256 < 256:=Nat.mod_lt _ (by decide)
   obtain ⟨b1,b2,b3,b4,b5⟩:=xA ha
   have e:x=x % 256 + 256 * (x / 256):=by omega
   unfold en
   have e1:s1 (85 + 256 * en 85 n) x=s1 85 (x % 256) + 256 * s1 (en 85 n) (x / 256):=by
     conv=>lhs; rw [e]
     exact Dm _ _ _ ha
   rw [e1,Ed _ _ _ (Gj ha),C8 _ _ _ b4 b2 b3 i2,i1,b1]
   refine ⟨rfl,?_⟩
   omega
theorem EU (x:Nat) (hx:x < 18446744073709551616):s3 1085102592571150095 (s2 3689348814741910323 (s1 6148914691236517205 x))=pcs 8 x :=
 (GL 8 x hx).1
theorem GE (x:Nat):∃ p0 p1 p2 p3 p4 p5 p6 p7:Nat,pcs 8 x=p0 + 256 * (p1 + 256 * (p2 + 256 * (p3 + 256 * (p4 + 256 * (p5 + 256 * (p6 + 256 * (p7 + 256 * 0)))))))∧pc 64 x=p0 + p1 + p2 + p3 + p4 + p5 + p6 + p7∧p0≤8∧p1≤8∧p2≤8∧p3≤8∧p4≤8∧p5≤8∧p6≤8∧p7≤8:=by
 have h:∀ y,pc 8 (y % 256)≤8:=fun y=>(xA (Nat.mod_lt y (by decide))).2.2.2.2
 have g:∀ m y,pc (8 + m) y=pc 8 (y % 256) + pc m (y / 256):=fun m y=>by
   rw [yF 8 m]
   congr 1
   conv=>lhs; rw [show y=y % 256 + 256 * (y / 256) by omega]
   exact Ge _ _ (Nat.mod_lt _ (by decide))
 refine ⟨_,_,_,_,_,_,_,_,rfl,?_,h _,h _,h _,h _,h _,h _,h _,h _⟩
 rw [show (64:Nat)=8 + (8 + (8 + (8 + (8 + (8 + (8 + (8 + 0))))))) from rfl,g,g,g,g,g,g,g,g]
 simp only [pc]
 omega
theorem dv {k L R x:Nat} (hk:0 < k) (h:x=L + k * R) (hL:L < k):x / k=R:=by
 rw [h,Nat.add_mul_div_left _ _ hk,Nat.div_eq_of_lt hL,Nat.zero_add]
theorem Jz {y z u v s:Nat} {p0 p1 p2 p3 p4 p5 p6 p7:Nat} (hy:y=p0 + 256 * (p1 + 256 * (p2 + 256 * (p3 + 256 * (p4 + 256 * (p5 + 256 * (p6 + 256 * (p7 + 256 * 0)))))))) (hs:s=p0 + p1 + p2 + p3 + p4 + p5 + p6 + p7) (h0:p0≤8) (h1:p1≤8) (h2:p2≤8) (h3:p3≤8) (h4:p4≤8) (h5:p5≤8) (h6:p6≤8) (h7:p7≤8)
   (hz:z=y + y / 256) (hu:u=z + z / 65536) (hv:v=u + u / 4294967296):v % 128=s∧v < 9223372036854775808:=by
 have e1:y / 256=p1 + 256 * (p2 + 256 * (p3 + 256 * (p4 + 256 * (p5 + 256 * (p6 + 256 * p7))))):=dv (L:=p0) (by decide) (by rw [hy]; rfl) (by omega)
 rw [e1,hy] at hz
 have e2:z / 65536=(p2 + p3) + 256 * ((p3 + p4) + 256 * ((p4 + p5) + 256 * ((p5 + p6) + 256 * ((p6 + p7) + 256 * p7)))):=dv (L:=(p0 + p1) + 256 * (p1 + p2)) (by decide) (by rw [hz]; clear hz hu hv hy e1; omega) (by clear hz hu hv hy e1; omega)
 rw [e2,hz] at hu
 clear e1 e2 hz hy
 have e3:u / 4294967296=(p4 + p5 + p6 + p7) + 256 * ((p5 + p6 + p7) + 256 * ((p6 + p7) + 256 * p7)):=dv (L:=(p0 + p1 + p2 + p3) + 256 * ((p1 + p2 + p3 + p4) + 256 * ((p2 + p3 + p4 + p5) + 256 * (p3 + p4 + p5 + p6)))) (by decide) (by rw [hu]; clear hu hv; omega) (by clear hu hv; omega)
 rw [e3,hu] at hv
 clear e3 hu
 refine ⟨?_,by omega⟩
 have:v=s + 128 * (2 * ((p1+p2+p3+p4 + (p5+p6+p7)) + 256 * ((p2+p3+p4+p5 + (p6+p7)) + 256 * ((p3+p4+p5+p6 + p7) + 256 * ((p4+p5+p6+p7) + 256 * ((p5+p6+p7) + 256 * ((p6+p7) + 256 * p7))))))):=by rw [hv,hs]; clear hv hs; omega
 rw [this,Nat.add_mul_mod_self_left]
 exact Nat.mod_eq_of_lt (by omega)

def ocA (x m:Int):Int:=IntKind.wrap .u64 ((BitVec.ofInt (IntKind.bits .u64) x &&& BitVec.ofInt (IntKind.bits .u64) m).toNat:Int)
def ocS (x:Int) (k:Nat):Int:=Int.fdiv x (2 ^ (min k (IntKind.bits .u64)))
def oc1 (x:Int):Int:=IntKind.wrap .u64 (ocA (ocS x 1) 6148914691236517205 + ocA x 6148914691236517205)
def oc2 (x:Int):Int:=IntKind.wrap .u64 (ocA (ocS x 2) 3689348814741910323 + ocA x 3689348814741910323)
def oc3 (x:Int):Int:=ocA (IntKind.wrap .u64 (ocS x 4 + x)) 1085102592571150095
def oc4 (x:Int):Int:=IntKind.wrap .u64 (x + ocS x 8)
def oc5 (x:Int):Int:=IntKind.wrap .u64 (x + ocS x 16)
def oc6 (x:Int):Int:=IntKind.wrap .u64 (x + ocS x 32)
theorem CL (x:Int):me x=some (IntKind.wrap .i64 ((BitVec.ofInt (IntKind.bits .i64) (IntKind.wrap .i64 (oc6 (oc5 (oc4 (oc3 (oc2 (oc1 x))))))) &&& BitVec.ofInt (IntKind.bits .i64) 127).toNat:Int)):=rfl
theorem lk (x m:Nat) (M:Int) (hM:M=(m:Int)) (hx:x < 18446744073709551616) (hm:m < 18446744073709551616):ocA (x:Int) M=((x &&& m:Nat):Int):=by
 rw [hM]
 exact zV x m hx hm
theorem jk (x k:Nat) (hk:k < 64):ocS (x:Int) k=((x / 2 ^ k:Nat):Int):=by
 unfold ocS
 have h1:min k (IntKind.bits .u64)=k:=Nat.min_eq_left (Nat.le_of_lt hk)
 have hp:((2:Int) ^ k)=((2 ^ k:Nat):Int):=by simp
 rw [h1,hp,Int.fdiv_eq_ediv_of_nonneg _ (Int.natCast_nonneg _)]
 rfl
theorem fq (x m:Nat):x &&& m≤m:=Nat.and_le_right
theorem FW (x:Nat) (hx:x < 18446744073709551616):oc1 (x:Int)=((s1 6148914691236517205 x:Nat):Int):=by
 unfold oc1 s1
 rw [jk x 1 (by decide),lk (x / 2 ^ 1) 6148914691236517205 6148914691236517205 rfl (by omega) (by decide),lk x 6148914691236517205 6148914691236517205 rfl hx (by decide),← Int.natCast_add]
 have b1:=fq (x / 2 ^ 1) 6148914691236517205
 have b2:=fq x 6148914691236517205
 exact dD _ (by omega)
theorem FT (x:Nat) (hx:x < 18446744073709551616):oc2 (x:Int)=((s2 3689348814741910323 x:Nat):Int):=by
 unfold oc2 s2
 rw [jk x 2 (by decide),lk (x / 2 ^ 2) 3689348814741910323 3689348814741910323 rfl (by omega) (by decide),lk x 3689348814741910323 3689348814741910323 rfl hx (by decide),← Int.natCast_add]
 have b1:=fq (x / 2 ^ 2) 3689348814741910323
 have b2:=fq x 3689348814741910323
 exact dD _ (by omega)
theorem FI (z:Nat) (hz:z≤7378697629483820646):oc3 (z:Int)=((s3 1085102592571150095 z:Nat):Int):=by
 unfold oc3 s3
 rw [jk z 4 (by decide),← Int.natCast_add,dD _ (by omega),lk _ 1085102592571150095 1085102592571150095 rfl (by omega) (by decide)]
theorem If (x:Nat):s1 6148914691236517205 x < 18446744073709551616:=by
 have b1:=fq (x / 2) 6148914691236517205
 have b2:=fq x 6148914691236517205
 unfold s1; omega
theorem HH (x:Nat):s2 3689348814741910323 x≤7378697629483820646:=by
 have b1:=fq (x / 4) 3689348814741910323
 have b2:=fq x 3689348814741910323
 unfold s2; omega
theorem F9 (w:Nat) (h:w + w / 256 < 18446744073709551616):oc4 (w:Int)=((w + w / 256:Nat):Int):=by
 unfold oc4
 rw [jk w 8 (by decide),← Int.natCast_add]
 exact dD _ h
theorem FD (w:Nat) (h:w + w / 65536 < 18446744073709551616):oc5 (w:Int)=((w + w / 65536:Nat):Int):=by
 unfold oc5
 rw [jk w 16 (by decide),← Int.natCast_add]
 exact dD _ h
theorem F4 (w:Nat) (h:w + w / 4294967296 < 18446744073709551616):oc6 (w:Int)=((w + w / 4294967296:Nat):Int):=by
 unfold oc6
 rw [jk w 32 (by decide),← Int.natCast_add]
 exact dD _ h
theorem Gq (v:Nat) (h:v < 9223372036854775808):IntKind.wrap .i64 ((BitVec.ofInt (IntKind.bits .i64) (IntKind.wrap .i64 (v:Int)) &&& BitVec.ofInt (IntKind.bits .i64) 127).toNat:Int)=((v % 128:Nat):Int):=by
 rw [w64 (x:=(v:Int)) (by omega) (by omega)]
 show IntKind.wrap .i64 ((BitVec.ofInt 64 (v:Int) &&& BitVec.ofInt 64 ((127:Nat):Int)).toNat:Int)=_
 rw [iK,iK,BitVec.toNat_and,BitVec.toNat_ofNat,BitVec.toNat_ofNat,Nat.mod_eq_of_lt (by omega),Nat.mod_eq_of_lt (by decide),show (127:Nat)=2 ^ 7 - 1 from rfl,Nat.and_two_pow_sub_one_eq_mod]
 exact w64 (by omega) (by omega)
theorem D5 (w s:Nat) (h:∃ p0 p1 p2 p3 p4 p5 p6 p7:Nat,w=p0 + 256 * (p1 + 256 * (p2 + 256 * (p3 + 256 * (p4 + 256 * (p5 + 256 * (p6 + 256 * (p7 + 256 * 0)))))))∧s=p0 + p1 + p2 + p3 + p4 + p5 + p6 + p7∧p0≤8∧p1≤8∧p2≤8∧p3≤8∧p4≤8∧p5≤8∧p6≤8∧p7≤8) :
   IntKind.wrap .i64 ((BitVec.ofInt (IntKind.bits .i64) (IntKind.wrap .i64 (oc6 (oc5 (oc4 (w:Int))))) &&& BitVec.ofInt (IntKind.bits .i64) 127).toNat:Int)=((s:Nat):Int):=by
 obtain ⟨p0,p1,p2,p3,p4,p5,p6,p7,q,qs,c0,c1,c2,c3,c4,c5,c6,c7⟩:=h
 obtain ⟨r1,r2⟩:=Jz q qs c0 c1 c2 c3 c4 c5 c6 c7 rfl rfl rfl
 clear q qs c0 c1 c2 c3 c4 c5 c6 c7
 generalize h1:w + w / 256=w1 at *
 generalize h2:w1 + w1 / 65536=w2 at *
 generalize h3:w2 + w2 / 4294967296=w3 at *
 rw [F9 w (by omega),h1,FD w1 (by omega),h2,F4 w2 (by omega),h3,Gq w3 r2,r1]
theorem Er (x:Nat) (hx:x < 18446744073709551616):me (x:Int)=some ((pc 64 x:Nat):Int):=by
 rw [CL,FW x hx,FT _ (If x),FI _ (HH _),EU x hx]
 exact congrArg some (D5 _ _ (GE x))
theorem qU:∀ (n x:Nat),pc n x=((List.range n).filter (fun i=>x.testBit i)).length
 | 0,_=>rfl
 | n + 1,x=>by
   have e:(fun i=>x.testBit i) ∘ Nat.succ=fun i=>(x / 2).testBit i:=funext fun i=>by
     show x.testBit (i + 1)=_
     rw [Nat.testBit_succ]
   rw [show pc (n + 1) x=x % 2 + pc n (x / 2) from rfl,qU n (x / 2),List.range_succ_eq_map,List.filter_cons,List.filter_map,e]
   have h0:x.testBit 0=decide (x % 2=1):=Nat.testBit_zero x
   rw [h0]
   by_cases h:x % 2=1
   . rw [if_pos (decide_eq_true h),List.length_cons,List.length_map,h]
     omega
   . rw [if_neg (by simpa using h),List.length_map]
     omega
def cE (l:List Int):Nat:=(l.map fun w=>pc 64 w.toNat).sum
theorem mem_cons (w:Int) (l:List Int) (i:Nat):mem (w :: l) i=if i < 64 then w.toNat.testBit i else mem l (i - 64):=by
 unfold mem
 by_cases h:i < 64
 . rw [if_pos h,Nat.div_eq_of_lt h,Nat.mod_eq_of_lt h]
   rfl
 . rw [if_neg h,show i / 64=(i - 64) / 64 + 1 by omega,show i % 64=(i - 64) % 64 by omega]
   rfl
theorem yb:∀ l:List Int,((List.range (64 * l.length)).filter (mem l)).length=cE l
 | []=>rfl
 | w :: l=>by
   rw [show 64 * (w :: l).length=64 + 64 * l.length by simp; omega,List.range_add,List.filter_append,List.length_append,List.filter_map,List.length_map]
   have e1:(List.range 64).filter (mem (w :: l))=(List.range 64).filter (fun i=>w.toNat.testBit i):=List.filter_congr fun i hi=>by
     rw [mem_cons,if_pos (List.mem_range.1 hi)]
   have e2:(mem (w :: l)) ∘ (64 + ·)=mem l:=funext fun i=>by
     show mem (w :: l) (64 + i)=_
     rw [mem_cons,if_neg (by omega),Nat.add_sub_cancel_left]
   rw [e1,e2,yb l,← qU]
   simp [cE]
theorem Dj {n:Nat} {l:List Int} (h:Ds n l):(eE n l).length=cE l:=by
 have hl:=h.len
 rw [← yb]
 have:=nA (p:=mem l) (c:=n) (64 * l.length - n) (fun j h1 _=>h.top j h1)
 rw [show n + (64 * l.length - n)=64 * l.length by omega] at this
 rw [this]
 rfl
theorem IH (n x:Nat):pc n x≤n:=by
 rw [qU]; exact np _ _
theorem vL {l:List Int} {k:Nat} (hk:k < l.length):cE (l.take (k + 1))=cE (l.take k) + pc 64 (l[k]).toNat:=by
 unfold cE
 rw [bF hk,List.map_append,List.sum_append]
 simp
theorem vp {n:Nat} {l:List Int} (h:Ds n l):fV (some ((n:Int),l))=some (((eE n l).length:Nat):Int):=by
 have hn:=h.hn
 have hl:=h.len
 have hb:∀ k,k≤l.length→cE (l.take k)≤64 * k:=fun k=>by
   induction k with
   | zero=>intro _; simp [cE]
   | succ k ih =>
     intro hk
     have:=ih (by omega)
     have h2:=IH 64 (l[k]).toNat
     rw [vL (by omega:k < l.length)]
     omega
 unfold fV
 have hlp:loop (jQ ((n:Int),l)) ((0:Int),(0:Int))=some ((cE l:Nat):Int):=by
   have:=aF (body:=jQ ((n:Int),l)) (fun k:Nat=>(((cE (l.take k):Nat):Int),(k:Int))) l.length (b:=((cE l:Nat):Int)) ?_ ?_
   . exact this
   . intro k hk
     unfold jQ
     have hw:=h.wd _ (List.getElem_mem hk)
     unfold Wd at hw
     obtain ⟨x,hx⟩:=Int.eq_ofNat_of_zero_le hw.1
     have ho:=Er x (by omega)
     rw [← hx] at ho
     have hp:l[k].toNat=x:=by omega
     have h1:=hb k (by omega)
     have h2:=hb (k + 1) (by omega)
     have e:cE (l.take (k + 1))=cE (l.take k) + pc 64 x:=by
       rw [vL hk,hp]
     simp only [dlt hk,cond_true,ah hk,ho,Option.bind_some]
     rw [ak hk (by omega),e,w64 (by omega) (by omega),← Int.natCast_add]
   . unfold jQ
     simp
 simp only [Option.isNone_some,cond_false,Option.bind_some]
 rw [hlp,Dj h]
 rfl
section
structure Qr {α:Type} (ring:List α) (f m:Int) (l:List α):Prop where
 m_:m=((l.length:Nat):Int)
 f0:0≤f
 fl:(ring=[]∧f=0)∨f < ((ring.length:Nat):Int)
 le:l.length≤ring.length
 sz:ring.length≤100000000
 at_:∀ i x,l[i]? = some x→ring[(f.toNat + i) % ring.length]? = some x
theorem Qr.nil {α:Type}:Qr ([]:List α) 0 0 []:=⟨rfl,Int.le_refl 0,.inl ⟨rfl,rfl⟩,Nat.le_refl _,by simp,fun i x h=>by simp at h⟩
section
variable {α β:Type} {ring:List α} {f m:Int} {l:List α}
theorem CE (z:α) (a:List α) (k:Nat) (h:a.length≤k):cpy (List.replicate k z) 0 (a.take k)=a++List.replicate (k - a.length) z:=by
 unfold cpy
 rw [List.take_of_length_le h]
 simp
theorem Cw (z:α) (h0:0≤f) (h1:f≤((ring.length:Nat):Int)) (hs:ring.length≤100000000) (K:List α→Option β) :
   (mk (IntKind.wrap .i64 ((IntKind.wrap .i64 (2 * (((ring.length:Nat):Int)))) + 1)) (IntKind.wrap .i64 ((IntKind.wrap .i64 (2 * (((ring.length:Nat):Int)))) + 1)) z:Option (List α)).bind (fun z15=>(subL ring f (((ring.length:Nat):Int))).bind fun _=>(some (cpy z15 ((0:Int).toNat) ((List.drop (f:Int).toNat (List.take (((ring.length:Nat):Int):Int).toNat ring)).take (z15.length - (0:Int).toNat)))).bind fun z20=>(subL z20 (((min (List.drop (f:Int).toNat (List.take (((ring.length:Nat):Int):Int).toNat ring)).length (z15.length - (0:Int).toNat):Nat):Int)) (((z15.length:Nat):Int))).bind fun _=>(subL ring 0 f).bind fun _=>(some (cpy z20 ((((min (List.drop (f:Int).toNat (List.take (((ring.length:Nat):Int):Int).toNat ring)).length (z15.length - (0:Int).toNat):Nat):Int):Int).toNat) ((List.drop (0:Int).toNat (List.take (f:Int).toNat ring)).take (((((z15.length:Nat):Int):Int).toNat) - (((min (List.drop (f:Int).toNat (List.take (((ring.length:Nat):Int):Int).toNat ring)).length (z15.length - (0:Int).toNat):Nat):Int):Int).toNat)))).bind fun z22=>K z22)
     = K (ring.drop f.toNat++(ring.take f.toNat++List.replicate (ring.length + 1) z)):=by
 have w1:IntKind.wrap .i64 (2 * (((ring.length:Nat):Int)))=2 * ((ring.length:Nat):Int):=w64 (by omega) (by omega)
 have w2:IntKind.wrap .i64 (2 * ((ring.length:Nat):Int) + 1)=((2 * ring.length + 1:Nat):Int):=by rw [w64 (by omega) (by omega)]; omega
 obtain ⟨k,rfl⟩:=Int.eq_ofNat_of_zero_le h0
 have hk:k≤ring.length:=by omega
 have hmk:mk ((2 * ring.length + 1:Nat):Int) ((2 * ring.length + 1:Nat):Int) z=some (List.replicate (2 * ring.length + 1) z):=by
   unfold mk
   rw [if_pos ⟨by omega,Int.le_refl _,by omega⟩,Int.toNat_natCast]
 rw [w1,w2,hmk]
 simp only [Option.bind_some,Int.toNat_natCast,Int.toNat_zero,List.take_length,Nat.sub_zero,List.length_replicate,List.drop_zero,List.length_drop]
 have hmin:min (ring.length - k) (2 * ring.length + 1)=ring.length - k:=by omega
 rw [hmin,kZ (by omega) (by omega) (by omega)]
 simp only [Option.bind_some]
 have hl:(ring.drop k).length≤2 * ring.length + 1:=by rw [List.length_drop]; omega
 rw [CE z (ring.drop k) _ hl,kZ (by omega) (by omega) (by simp; omega),kZ (by omega) (by omega) (by omega)]
 simp only [Option.bind_some,Int.toNat_natCast]
 congr 1
 unfold cpy
 have hd:(ring.drop k).length=ring.length - k:=List.length_drop
 have ht:(ring.take k).length=k:=by rw [List.length_take]; omega
 rw [List.take_of_length_le (l:=ring.take k) (by rw [ht]; omega),ht,List.take_append_of_le_length (by rw [hd]; exact Nat.le_refl _),List.take_of_length_le (l:=ring.drop k) (by rw [hd]; exact Nat.le_refl _),List.drop_append,List.drop_of_length_le (l:=ring.drop k) (by rw [hd]; omega),hd,List.nil_append,List.drop_replicate]
 congr 3
 omega
theorem Qr.grow (z:α) (h:Qr ring f m l) (he:m=((ring.length:Nat):Int)) (hl:l.length≤10000000):Qr (ring.drop f.toNat++(ring.take f.toNat++List.replicate (ring.length + 1) z)) 0 m l∧l.length < (ring.drop f.toNat++(ring.take f.toNat++List.replicate (ring.length + 1) z)).length:=by
 have hn:l.length=ring.length:=by have:=h.m_; omega
 have hf:f.toNat≤ring.length:=by rcases h.fl with ⟨h1,h2⟩ | h1 <;> omega
 have hlen:(ring.drop f.toNat++(ring.take f.toNat++List.replicate (ring.length + 1) z)).length=2 * ring.length + 1:=by simp; omega
 refine ⟨⟨h.m_,Int.le_refl 0,.inr (by rw [hlen]; omega),by rw [hlen]; omega,by rw [hlen]; omega,fun i x hx=>?_⟩,by rw [hlen]; omega⟩
 have hi:i < l.length:=(List.getElem?_eq_some_iff.1 hx).1
 have h1:=h.at_ i x hx
 rw [hlen,Int.toNat_zero,Nat.zero_add,Nat.mod_eq_of_lt (by omega)]
 by_cases hc:f.toNat + i < ring.length
 . rw [Nat.mod_eq_of_lt hc] at h1
   rw [List.getElem?_append_left (by rw [List.length_drop]; omega),List.getElem?_drop]
   exact h1
 . rw [Nat.mod_eq_sub_mod (by omega),Nat.mod_eq_of_lt (by omega)] at h1
   rw [List.getElem?_append_right (by rw [List.length_drop]; omega),List.length_drop,List.getElem?_append_left (by rw [List.length_take]; omega),List.getElem?_take,if_pos (by omega)]
   rw [← h1]
   congr 1
   omega
theorem wr (a b:Nat):Int.tmod (a:Int) (b:Int)=((a % b:Nat):Int):=rfl
theorem Qr.push (x:α) (h:Qr ring f m l) (hl:l.length < ring.length):Int.tmod (IntKind.wrap .i64 (f + m)) ((ring.length:Nat):Int)=(((f.toNat + l.length) % ring.length:Nat):Int)∧(f.toNat + l.length) % ring.length < ring.length∧IntKind.wrap .i64 (m + 1)=((l.length + 1:Nat):Int)∧Qr (ring.set ((f.toNat + l.length) % ring.length) x) f ((l.length + 1:Nat):Int) (l++[x]):=by
 have hm:=h.m_
 have hf:=h.f0
 have hs:=h.sz
 have hfl:f < ((ring.length:Nat):Int):=by rcases h.fl with ⟨h1,_⟩ | h1; (subst h1; simp at hl); exact h1
 have hp:0 < ring.length:=by omega
 have hlt:=Nat.mod_lt (f.toNat + l.length) hp
 refine ⟨?_,hlt,?_,⟨by simp,hf,.inr (by rw [List.length_set]; exact hfl),by rw [List.length_set]; simp; omega,by rw [List.length_set]; exact hs,fun i y hy=>?_⟩⟩
 . rw [hm,w64 (by omega) (by omega)]
   obtain ⟨k,rfl⟩:=Int.eq_ofNat_of_zero_le hf
   rw [← Int.natCast_add]
   exact wr _ _
 . rw [hm,w64 (by omega) (by omega)]; omega
 . rw [List.length_set,List.getElem?_set]
   rcases Nat.lt_trichotomy i l.length with hi | hi | hi
   . rw [List.getElem?_append_left hi] at hy
     have hne:¬ (f.toNat + l.length) % ring.length=(f.toNat + i) % ring.length:=fun e=>by
       have hf':f.toNat < ring.length:=by omega
       by_cases c1:f.toNat + l.length < ring.length
       . rw [Nat.mod_eq_of_lt c1,Nat.mod_eq_of_lt (by omega)] at e; omega
       . rw [Nat.mod_eq_sub_mod (by omega),Nat.mod_eq_of_lt (by omega)] at e
         by_cases c2:f.toNat + i < ring.length
         . rw [Nat.mod_eq_of_lt c2] at e; omega
         . rw [Nat.mod_eq_sub_mod (by omega),Nat.mod_eq_of_lt (by omega)] at e; omega
     rw [if_neg hne]
     exact h.at_ i y hy
   . subst hi
     rw [List.getElem?_append_right (Nat.le_refl _),Nat.sub_self] at hy
     rw [if_pos rfl,if_pos hlt]
     simpa using hy
   . rw [List.getElem?_eq_none (by simp; omega)] at hy; cases hy
theorem Qr.pop (z x:α) {l':List α} (h:Qr ring f m (x :: l')):m≠0∧aa ring f=some x∧nz ((ring.length:Nat):Int)=some ()∧IntKind.wrap .i64 (m - 1)=((l'.length:Nat):Int)∧Qr (ring.set f.toNat z) (Int.tmod (IntKind.wrap .i64 (f + 1)) ((ring.length:Nat):Int)) ((l'.length:Nat):Int) l':=by
 have hm:=h.m_
 have hf:=h.f0
 have hs:=h.sz
 have hle:=h.le
 simp only [List.length_cons] at hm hle
 have hfl:f < ((ring.length:Nat):Int):=by rcases h.fl with ⟨h1,_⟩ | h1; (subst h1; simp at hle); exact h1
 have h0:=h.at_ 0 x rfl
 rw [Nat.add_zero,Nat.mod_eq_of_lt (by omega)] at h0
 have hmod:Int.tmod (IntKind.wrap .i64 (f + 1)) ((ring.length:Nat):Int)=(((f.toNat + 1) % ring.length:Nat):Int):=by
   rw [w64 (by omega) (by omega)]
   obtain ⟨k,rfl⟩:=Int.eq_ofNat_of_zero_le hf
   exact wr (k + 1) _
 refine ⟨by omega,by unfold aa; rw [if_pos hf]; exact h0,tL (by omega),by rw [w64 (by omega) (by omega)]; omega,?_⟩
 rw [hmod]
 have hlt:=Nat.mod_lt (f.toNat + 1) (show 0 < ring.length by omega)
 refine ⟨rfl,by omega,.inr (by rw [List.length_set]; omega),by rw [List.length_set]; omega,by rw [List.length_set]; exact hs,fun i y hy=>?_⟩
 have hi:i < l'.length:=(List.getElem?_eq_some_iff.1 hy).1
 have h1:=h.at_ (i + 1) y (by simpa using hy)
 rw [List.length_set,Int.toNat_natCast,List.getElem?_set]
 have e1:((f.toNat + 1) % ring.length + i) % ring.length=(f.toNat + (i + 1)) % ring.length:=by
   rw [Nat.mod_add_mod]; congr 1; omega
 rw [e1]
 have hne:¬ f.toNat=(f.toNat + (i + 1)) % ring.length:=fun e=>by
   by_cases c:f.toNat + (i + 1) < ring.length
   . rw [Nat.mod_eq_of_lt c] at e; omega
   . rw [Nat.mod_eq_sub_mod (by omega),Nat.mod_eq_of_lt (by omega)] at e; omega
 rw [if_neg hne]
 exact h1
end
end
section
section
variable {ring:List (Int)} {f m:Int} {l:List (Int)}
end
section
variable {ring:List (Int)} {f m:Int} {l:List (Int)}
theorem Cf {w:(Option (List ((Int)×Int)))} (h0:0≤f) (h1:f≤((ring.length:Nat):Int)) (hs:ring.length≤100000000):lX ring f m w=some (ring.drop f.toNat++(ring.take f.toNat++List.replicate (ring.length + 1) 0),w):=by
 unfold lX
 exact Cw 0 h0 h1 hs (fun z=>some (z,w))
theorem B3 {w:(Option (List ((Int)×Int)))} (xb:List (Int)) (i:Nat) (hi:i < xb.length) (hx:xb.length≤10000000) (h:Qr ring f m l) (hl:l.length≤10000000):∃ r f',ia xb ((i:Int),ring,f,m,w)=some (.inl (((i + 1:Nat):Int),r,f',((l.length + 1:Nat):Int),w))∧Qr r f' ((l.length + 1:Nat):Int) (l++[xb[i]]):=by
 have hf:=h.f0
 have hfl:f≤((ring.length:Nat):Int):=by rcases h.fl with ⟨h1,h2⟩ | h1 <;> omega
 have hle:=h.le
 have hm:=h.m_
 by_cases hc:m=((ring.length:Nat):Int)
 . obtain ⟨hq,hq2⟩:=Qr.grow 0 h hc hl
   have hg:=Cf (w:=w) (m:=m) hf hfl h.sz
   generalize (ring.drop f.toNat++(ring.take f.toNat++List.replicate (ring.length + 1) 0))=r at hq hq2 hg
   obtain ⟨p1,p2,p3,p4⟩:=hq.push xb[i] hq2
   rw [Int.zero_add] at p1
   refine ⟨_,0,?_,p4⟩
   unfold ia
   simp only [dlt hi,cond_true,ah hi,Option.bind_some,hc,decide_true]
   rw [← hc,hg]
   simp only [Option.bind_some,Int.zero_add]
   rw [tL (by omega)]
   simp only [Option.bind_some,p1,ah p2,Int.toNat_natCast,p3,ak hi (by omega)]
 . have hq2:l.length < ring.length:=by omega
   obtain ⟨p1,p2,p3,p4⟩:=h.push xb[i] hq2
   refine ⟨_,f,?_,p4⟩
   unfold ia
   simp only [dlt hi,cond_true,ah hi,Option.bind_some,hc,decide_false,cond_false]
   rw [tL (by omega)]
   simp only [Option.bind_some,p1,ah p2,Int.toNat_natCast,p3,ak hi (by omega)]
theorem Co {w:(Option (List ((Int)×Int)))} (xb:List (Int)) (h:Qr ring f m l) (hl:l.length + xb.length≤10000000):∃ r f',lW xb ring f m w=some (r,f',((l.length + xb.length:Nat):Int),w)∧Qr r f' ((l.length + xb.length:Nat):Int) (l++xb):=by
 obtain ⟨b,h1,h2⟩:=d8 (body:=ia xb) (fun s=>∃ k:Nat,k≤xb.length∧s.1=(k:Int)∧s.2.2.2.1=((l.length + k:Nat):Int)∧Qr s.2.1 s.2.2.1 s.2.2.2.1 (l++xb.take k)∧w=s.2.2.2.2) (fun s=>xb.length - s.1.toNat) (Q:=fun b=>∃ r f',b=(r,f',((l.length + xb.length:Nat):Int),w)∧Qr r f' ((l.length + xb.length:Nat):Int) (l++xb)) (fun s hs=>by
   obtain ⟨i,r,f',m',w'⟩:=s
   obtain ⟨k,hk,e1,e2,hq,hw⟩:=hs
   dsimp only at e1 e2 hq hw
   subst e1 hw
   by_cases hc:k < xb.length
   . obtain ⟨r2,f2,g1,g2⟩:=B3 (w:=w) xb k hc (by omega) hq (by simp; omega)
     refine .inl ⟨_,g1,⟨k + 1,hc,rfl,by simp; omega,?_,rfl⟩,by dsimp only; rw [Int.toNat_natCast,Int.toNat_natCast]; omega⟩
     have e3:l++xb.take (k + 1)=(l++xb.take k)++[xb[k]]:=by rw [bF hc,List.append_assoc]
     dsimp only
     rw [e3]
     exact g2
   . obtain rfl:k=xb.length:=by omega
     refine .inr ⟨(r,f',m',w),?_,r,f',by rw [e2],?_⟩
     . unfold ia
       simp only [dge hc,cond_false]
     . rw [← e2]; simpa using hq) (s:=(0,ring,f,m,w)) ⟨0,Nat.zero_le _,rfl,by simpa using h.m_,by simpa using h,rfl⟩
 obtain ⟨r,f',rfl,hq⟩:=h2
 refine ⟨r,f',?_,hq⟩
 unfold lW
 rw [h1]
 rfl
theorem Ci {w:(Option (List ((Int)×Int)))} {x:Int} (h:Qr ring f m (x :: l)):∃ r f',ma ring f m w=some (x,true,r,f',((l.length:Nat):Int),w)∧Qr r f' ((l.length:Nat):Int) l:=by
 obtain ⟨h1,h2,h3,h4,h5⟩:=h.pop 0 x
 refine ⟨_,_,?_,h5⟩
 unfold ma jN
 simp only [Option.bind_some,h1,decide_false,cond_false,h2,h3,h4]
end
section
variable {ring:List (List UInt8)} {f m:Int} {l:List (List UInt8)}
end
section
variable {ring:List (List UInt8)} {f m:Int} {l:List (List UInt8)}
end
end
section
section
variable {α:Type} [DecidableEq α]
theorem Ej (k:α) (x:Option (List (α×Int))):gW k x = !decide (aC k (x.getD []) > 0):=by cases x <;> rfl
theorem Ea (k:α) (x:Option (List (α×Int))):cZ k x=if aC k (x.getD []) > 0 then x.getD [] else bx k (wrap64 (aC k (x.getD []) + 1)) (x.getD []):=by cases x <;> rfl
structure Wr (ring:List α) (f m:Int) (w:Option (List (α×Int))) (l:List α):Prop where
 q:Qr ring f m l
 nd:l.Nodup
 ks:((w.getD []).map (·.1)).Nodup
 c:∀ k,aC k (w.getD [])=if k∈l then 1 else 0
theorem Wr.nil:Wr ([]:List α) 0 0 none []:=⟨Qr.nil,List.nodup_nil,List.nodup_nil,fun k=>rfl⟩
end
section
variable {ring:List (Int)} {f m:Int} {l:List (Int)} {w:Option (List ((Int)×Int))}
theorem Cd (k:Int) (h:Wr ring f m w l) (hl:l.length≤9000000):∃ r f' w',cG k ring f m w=some (!decide (k∈l),r,f',(((if k∈l then l else l++[k]).length:Nat):Int),w')∧Wr r f' (((if k∈l then l else l++[k]).length:Nat):Int) w' (if k∈l then l else l++[k]):=by
 have hc:=h.c k
 unfold cG rm
 rw [Ej,Ea]
 by_cases hk:k∈l
 . rw [if_pos hk] at hc
   have hm:=h.q.m_
   simp only [hc,if_pos hk,hk,decide_true,Bool.not_true,Option.bind_some,show (1:Int) > 0 by omega,if_true,Bool.not_false,cond_true]
   rw [hm]
   exact ⟨_,_,_,rfl,⟨hm ▸ h.q,h.nd,by simpa using h.ks,by simpa using h.c⟩⟩
 . rw [if_neg hk] at hc
   have h0:¬ ((0:Int) > 0):=by omega
   have h1:wrap64 (0 + 1)=1:=IntWalk.wrap64_in (0 + 1) (by decide)
   obtain ⟨r,f',g1,g2⟩:=Co (w:=some (bx k 1 (w.getD []))) [k] h.q (by simp; omega)
   simp only [hc,if_neg hk,hk,decide_false,Bool.not_false,Option.bind_some,h0,h1,if_false,Bool.not_true,cond_false]
   rw [g1]
   refine ⟨r,f',some (bx k 1 (w.getD [])),?_,⟨?_,?_,?_,fun k'=>?_⟩⟩
   . simp
   . simpa using g2
   . exact List.nodup_append.2 ⟨h.nd,by simp,fun a ha b hb e=>by simp at hb; subst hb; subst e; exact hk ha⟩
   . exact vV k 1 _ h.ks
   . show aC k' (bx k 1 (w.getD []))=_
     rw [xg,h.c k']
     by_cases h2:k'=k <;> simp [h2]
theorem C0 {x:Int} (h:Wr ring f m w (x :: l)):∃ r f' w',fM ring f m w=some (x,true,r,f',((l.length:Nat):Int),w')∧Wr r f' ((l.length:Nat):Int) w' l:=by
 obtain ⟨r,f',g1,g2⟩:=Ci (w:=w) h.q
 refine ⟨r,f',w.map (bL x),?_,⟨g2,(List.nodup_cons.1 h.nd).2,?_,fun k=>?_⟩⟩
 . unfold fM
   rw [g1]
   rfl
 . cases w with
   | none=>exact List.nodup_nil
   | some w=>exact (wa x w h.ks).1
 . have hx:=(List.nodup_cons.1 h.nd).1
   have hc:=h.c k
   cases w with
   | none =>
     have hx0:=h.c x
     rw [if_pos (by simp)] at hx0
     exact absurd (show (0:Int)=1 from hx0) (by decide)
   | some w =>
     show aC k (bL x w)=_
     have hc:aC k w=_:=hc
     rw [wC x k w h.ks,hc]
     by_cases h2:k=x
     . subst h2; simp [hx]
     . simp [h2]
theorem DP (h:Wr ring f m w l):fN ring f m w=some (((l.length:Nat):Int),ring,w):=by
 unfold fN jN
 rw [h.q.m_]; rfl
end
section
variable {ring:List (List UInt8)} {f m:Int} {l:List (List UInt8)} {w:Option (List ((List UInt8)×Int))}
end
end
section
abbrev Sw:=Option (Int×List Int)
theorem yL {n:Nat} {l:List Int} (h:Ds n l) {k:Nat} (hk:mem l k=true):k < n:=by
 rcases Nat.lt_or_ge k n with h1 | h1
 . exact h1
 . rw [h.top k h1] at hk; cases hk
theorem Fe {n:Nat} {l:List Int} (h:Ds n l):im (some ((n:Int),l))=some (liN (eE n l)):=by
 have hn:=h.hn
 obtain ⟨r,g1,g2⟩:=FX h (body:=qa (some ((n:Int),l))) (fun c k hk=>by
   have:=yL h hk
   unfold qa
   dsimp only
   rw [show decide (0≤(k:Int))=true by simp,cond_true,w64 (by omega) (by omega)]) (fun c=>rfl)
 unfold im
 rw [show mM (some ((n:Int),l))=some () from rfl,Option.bind_some,g1,Option.bind_some,g2]; rfl
theorem yG {α:Type} (n:Nat) (z:α) (h:n≤1073741824):mk (n:Int) (n:Int) z=some (List.replicate n z):=by
 unfold mk
 rw [if_pos ⟨by omega,Int.le_refl _,by omega⟩,Int.toNat_natCast]
section
variable {P:Pts} {N:Nat} {E:ArG}
abbrev bks (N:Nat) (E:ArG):List (List Int):=(List.range N).map fun v=>li (nxt (tn E) v)
theorem Dh (hn:N≤1048576) (he:E.length≤67108864):m8 (flG P N E) (N:Int)=some (bks N E):=by
 unfold m8
 rw [yG N ([]:List Int) (by omega),Option.bind_some]
 have hl:=aF (body:=mK (flG P N E) (List.replicate N [])) (fun k:Nat=>((List.range N).map (fun v=>if v < k then li (nxt (tn E) v) else []),(k:Int))) N (b:=bks N E) ?_ ?_
 . have e:(List.replicate N ([]:List Int))=(List.range N).map (fun v=>if v < 0 then li (nxt (tn E) v) else []):=by
     rw [zR]; exact eC fun v _=>by simp
   rw [show ((List.replicate N ([]:List Int)),(0:Int))=((List.range N).map (fun v=>if v < 0 then li (nxt (tn E) v) else []),((0:Nat):Int)) by rw [← e]; rfl,hl]; rfl
 . intro k hk
   unfold mK
   simp only [List.length_replicate,dlt hk,cond_true,Cg hn he hk,Option.bind_some,px hk,Int.toNat_natCast,uh,ak hk (by omega:N≤9223372036854775807)]
   congr 3
   refine eC fun v _=>?_
   by_cases h1:v=k
   . subst h1; simp
   . have:v < k + 1↔v < k:=by omega
     simp [h1,this]
 . unfold mK
   simp only [List.length_replicate,dge (show ¬ N < N by omega),cond_false]
   congr 2
   exact eC fun v hv=>by simp [hv]
end
section
variable {N:Nat} {E:ArG}
theorem DD (hN:N≤200000) {Wn:List Nat} (hl:Wn.length≤1000000) {l0:List Int} (h0:Ds N l0) (hz:∀ j,mem l0 j=false) (hw:∀ n∈Wn,n < N) :
   ∃ l',loop (j8 (li Wn) (N:Int)) (0,l0)=some l'∧Ds N l'∧∀ j,mem l' j=decide (j∈Wn):=by
 obtain ⟨b,h1,h2⟩:=d8 (body:=j8 (li Wn) (N:Int)) (fun s=>∃ k:Nat,k≤Wn.length∧s.1=(k:Int)∧Ds N s.2∧∀ j,mem s.2 j=decide (j∈Wn.take k)) (fun s=>Wn.length - s.1.toNat) (Q:=fun b=>Ds N b∧∀ j,mem b j=decide (j∈Wn)) (fun s hs=>by
   obtain ⟨i,l⟩:=s
   obtain ⟨k,hk,rfl,hd,hm⟩:=hs
   dsimp only at hd hm ⊢
   by_cases hc:k < Wn.length
   . obtain ⟨l',g1,g2,g3⟩:=rD hd ((Wn[k]:Nat):Int)
     refine .inl ⟨(((k + 1:Nat):Int),l'),?_,⟨k + 1,hc,rfl,g2,fun j=>?_⟩,by dsimp only; omega⟩
     . unfold j8
       simp only [bH,dlt hc,cond_true,k8 hc,Option.bind_some,g1,ak hc (by omega:Wn.length≤9223372036854775807)]
     . have:=hw _ (List.getElem_mem hc)
       rw [g3,hm,bF hc,Int.toNat_natCast]
       rw [Bool.eq_iff_iff]
       simp only [Bool.or_eq_true,decide_eq_true_eq,List.mem_append,List.mem_singleton]
       constructor
       . rintro (h | ⟨_,h⟩)
         . exact .inl h
         . exact .inr h.symm
       . rintro (h | h)
         . exact .inl h
         . exact .inr ⟨⟨by omega,by omega⟩,h.symm⟩
   . obtain rfl:k=Wn.length:=by omega
     refine .inr ⟨l,?_,hd,fun j=>by rw [hm,List.take_length]⟩
     unfold j8
     simp only [bH,dge hc,cond_false]) (s:=(0,l0)) ⟨0,Nat.zero_le _,rfl,h0,fun j=>by simp [hz]⟩
 exact ⟨b,h1,h2⟩
theorem F7 {L:List Nat} {n:Nat}:(n:Int)∈li L↔n∈L:=by
 unfold li
 rw [List.mem_map]
 constructor
 . rintro ⟨a,h,e⟩
   have:a=n:=by exact_mod_cast e
   exact this ▸ h
 . exact fun h=>⟨n,h,rfl⟩
theorem BZ {L:List Nat} {k:Nat} (h:L.Nodup) (hk:k < L.length):L[k]∉L.take k:=by
 have h2:(L.take (k + 1)).Nodup:=h.sublist (List.take_sublist _ _)
 rw [bF hk,List.nodup_append] at h2
 exact fun hm=>h2.2.2 _ hm _ (List.mem_singleton.2 rfl) rfl
theorem wh {ring:List Int} {f m:Int} {l:List Int} {w:Option (List (Int×Int))} {k:Nat} {L:List Nat} (h:Wr ring f m w (li L)) (hk:k∉L) (hl:L.length≤9000000) :
   ∃ r f' m' w',cG (k:Int) ring f m w=some (true,r,f',m',w')∧Wr r f' m' w' (li (L++[k])):=by
 obtain ⟨r,f',w',g1,g2⟩:=Cd (k:Int) h (by rw [bH]; exact hl)
 have hn:¬ ((k:Int)∈li L):=fun h=>hk (F7.1 h)
 rw [if_neg hn] at g1 g2
 rw [show decide ((k:Int)∈li L)=false from decide_eq_false hn] at g1
 have e:li (L++[k])=li L++[(k:Int)]:=by simp [li]
 exact ⟨r,f',_,w',g1,by rw [e]; exact g2⟩
theorem EJ (hN:N≤200000) {Rn:List Nat} (hR:Rn.Nodup) {l0:List Int} (h0:Ds N l0) (hz:∀ j,mem l0 j=false) (hr:∀ n∈Rn,n < N) :
   ∃ l' r f m w,loop (jW (li Rn) (N:Int)) (0,l0,[],0,0,none)=some (l',r,f,m,w)∧Ds N l'∧(∀ j,mem l' j=decide (j∈Rn))∧Wr r f m w (li Rn):=by
 have hl:Rn.length≤N:=rS hR hr
 obtain ⟨b,h1,h2⟩:=d8 (body:=jW (li Rn) (N:Int)) (fun s=>∃ k:Nat,k≤Rn.length∧s.1=(k:Int)∧Ds N s.2.1∧(∀ j,mem s.2.1 j=decide (j∈Rn.take k))∧Wr s.2.2.1 s.2.2.2.1 s.2.2.2.2.1 s.2.2.2.2.2 (li (Rn.take k))) (fun s=>Rn.length - s.1.toNat) (Q:=fun b=>Ds N b.1∧(∀ j,mem b.1 j=decide (j∈Rn))∧Wr b.2.1 b.2.2.1 b.2.2.2.1 b.2.2.2.2 (li Rn)) (fun s hs=>by
   obtain ⟨i,l,ring,f,m,w⟩:=s
   obtain ⟨k,hk,rfl,hd,hm,hw⟩:=hs
   dsimp only at hd hm hw ⊢
   by_cases hc:k < Rn.length
   . obtain ⟨l',g1,g2,g3⟩:=rD hd ((Rn[k]:Nat):Int)
     obtain ⟨r',f',m',w',g4,g5⟩:=wh (l:=[]) hw (BZ hR hc) (by rw [List.length_take]; omega)
     refine .inl ⟨(((k + 1:Nat):Int),l',r',f',m',w'),?_,⟨k + 1,hc,rfl,g2,fun j=>?_,by rw [bF hc]; exact g5⟩,by dsimp only; omega⟩
     . unfold jW
       simp only [bH,dlt hc,cond_true,k8 hc,Option.bind_some,g1,g4,ak hc (by omega:Rn.length≤9223372036854775807)]
     . have:=hr _ (List.getElem_mem hc)
       dsimp only
       rw [g3,hm,bF hc,Int.toNat_natCast]
       rw [Bool.eq_iff_iff]
       simp only [Bool.or_eq_true,decide_eq_true_eq,List.mem_append,List.mem_singleton]
       constructor
       . rintro (h | ⟨_,h⟩)
         . exact .inl h
         . exact .inr h.symm
       . rintro (h | h)
         . exact .inl h
         . exact .inr ⟨⟨by omega,by omega⟩,h.symm⟩
   . obtain rfl:k=Rn.length:=by omega
     refine .inr ⟨(l,ring,f,m,w),?_,hd,fun j=>by rw [hm,List.take_length],by rw [List.take_length] at hw; exact hw⟩
     unfold jW
     simp only [bH,dge hc,cond_false]) (s:=(0,l0,[],0,0,none)) ⟨0,Nat.zero_le _,rfl,h0,fun j=>by simp [hz],Wr.nil⟩
 obtain ⟨l',r,f,m,w⟩:=b
 exact ⟨l',r,f,m,w,h1,h2⟩
theorem oa {W:Nat→Bool} {s:(Nat→Bool)×List Nat} {u:Nat} (h:¬ (s.1 u=false∧W u=false)):stW W s u=s:=if_neg h
theorem ym {W:Nat→Bool} {s:(Nat→Bool)×List Nat} {u:Nat} (h:s.1 u=false∧W u=false):stW W s u=(bj s.1 u,s.2++[u]):=if_pos h
theorem Cz {R W:Nat→Bool} (hE:inN N E) (hN:N≤200000) {St:List Int} (hS:Ds N St) (hW:∀ j,mem St j=W j) {A:List Nat} {v:Nat} (hA:∀ u∈A,(u,v)∈E) (hAl:A.length≤10000000)
   (hv:Lv E N R W v) {V:Nat→Bool} {Q:List Nat} (hV:∀ n,V n=true→Lv E N R W n) (hQ:∀ n∈Q,V n=true) (hQd:Q.Nodup) {fd ring:List Int} {f m:Int} {w:Option (List (Int×Int))}
   (hd:Ds N fd) (hm:∀ j,mem fd j=V j) (hw:Wr ring f m w (li Q)) :
   ∃ fd' r' f' m' w',loop (ga (N:Int) St (N:Int) (li A)) (0,fd,ring,f,m,w)=some (fd',r',f',m',w')∧Ds N fd'∧(∀ j,mem fd' j=(A.foldl (stW W) (V,Q)).1 j)∧Wr r' f' m' w' (li (A.foldl (stW W) (V,Q)).2):=by
 have hF:∀ k,k≤A.length→(∀ n∈((A.take k).foldl (stW W) (V,Q)).2,((A.take k).foldl (stW W) (V,Q)).1 n=true)∧((A.take k).foldl (stW W) (V,Q)).2.length≤N:=fun k hk=>by
   obtain ⟨_,i2,i3,i4,_⟩:=nJ hE hv (A.take k) V Q (fun u hu=>hA u (List.mem_of_mem_take hu)) hV hQ hQd
   exact ⟨i3,rS i4 (fun x hx=>Lv.lt hE (i2 x (i3 x hx)))⟩
 obtain ⟨b,h1,h2⟩:=d8 (body:=ga (N:Int) St (N:Int) (li A)) (fun s=>∃ k:Nat,k≤A.length∧s.1=(k:Int)∧Ds N s.2.1∧(∀ j,mem s.2.1 j=((A.take k).foldl (stW W) (V,Q)).1 j)∧Wr s.2.2.1 s.2.2.2.1 s.2.2.2.2.1 s.2.2.2.2.2 (li ((A.take k).foldl (stW W) (V,Q)).2)) (fun s=>A.length - s.1.toNat) (Q:=fun b=>Ds N b.1∧(∀ j,mem b.1 j=(A.foldl (stW W) (V,Q)).1 j)∧Wr b.2.1 b.2.2.1 b.2.2.2.1 b.2.2.2.2 (li (A.foldl (stW W) (V,Q)).2)) (fun s hs=>by
   obtain ⟨i,l,ring,f,m,w⟩:=s
   obtain ⟨k,hk,rfl,hd,hm,hw⟩:=hs
   dsimp only at hd hm hw ⊢
   by_cases hc:k < A.length
   . have hu:=hA _ (List.getElem_mem hc)
     have huN:=(hE _ hu).1
     dsimp only at huN
     obtain ⟨hq,hql⟩:=hF k hk
     have eF:(A.take (k + 1)).foldl (stW W) (V,Q)=stW W ((A.take k).foldl (stW W) (V,Q)) A[k]:=by rw [bF hc,List.foldl_append]; rfl
     have hHas:bZ (some ((N:Int),St)) ((A[k]:Nat):Int)=some (W A[k]):=by rw [EL hS,hW]
     have hw1:IntKind.wrap .i64 ((k:Int) + 1)=((k + 1:Nat):Int):=ak hc (by omega)
     obtain ⟨l',g1,g2,g3⟩:=rD hd ((A[k]:Nat):Int)
     rw [hm,Int.toNat_natCast,show decide ((0:Int)≤((A[k]:Nat):Int)∧((A[k]:Nat):Int) < (N:Int))=true from decide_eq_true ⟨by omega,by omega⟩,Bool.true_and] at g1
     left
     cases hWk:W A[k] with
     | true =>
       refine ⟨(((k + 1:Nat):Int),l,ring,f,m,w),?_,⟨k + 1,hc,rfl,hd,?_,?_⟩,by dsimp only; omega⟩
       . unfold ga
         simp only [bH,dlt hc,cond_true,k8 hc,Option.bind_some,hHas,hWk,Bool.not_true,cond_false,hw1]
       . rw [eF,oa (by simp [hWk])]; exact hm
       . rw [eF,oa (by simp [hWk])]; exact hw
     | false =>
       cases hVk:((A.take k).foldl (stW W) (V,Q)).1 A[k] with
       | true =>
         rw [hVk] at g1
         refine ⟨(((k + 1:Nat):Int),l',ring,f,m,w),?_,⟨k + 1,hc,rfl,g2,?_,?_⟩,by dsimp only; omega⟩
         . unfold ga
           simp only [bH,dlt hc,cond_true,k8 hc,Option.bind_some,hHas,hWk,Bool.not_false,g1,Bool.not_true,cond_false,hw1]
         . intro j
           rw [eF,oa (by simp [hVk])]
           dsimp only
           rw [g3,hm,Int.toNat_natCast]
           by_cases e:A[k]=j
           . subst e; rw [hVk]; rfl
           . simp [e]
         . rw [eF,oa (by simp [hVk])]; exact hw
       | false =>
         rw [hVk] at g1
         have hnq:A[k]∉((A.take k).foldl (stW W) (V,Q)).2:=fun h=>by rw [hq _ h] at hVk; cases hVk
         obtain ⟨r',f',m',w',g4,g5⟩:=wh (l:=[]) hw hnq (by omega)
         refine ⟨(((k + 1:Nat):Int),l',r',f',m',w'),?_,⟨k + 1,hc,rfl,g2,?_,?_⟩,by dsimp only; omega⟩
         . unfold ga
           simp only [bH,dlt hc,cond_true,k8 hc,Option.bind_some,hHas,hWk,Bool.not_false,g1,g4,hw1]
         . intro j
           rw [eF,ym ⟨hVk,hWk⟩]
           dsimp only [bj]
           rw [g3,hm,Int.toNat_natCast]
           congr 1
           rw [decide_eq_decide]
           exact ⟨fun h=>h.2.symm,fun h=>⟨⟨by omega,by omega⟩,h.symm⟩⟩
         . rw [eF,ym ⟨hVk,hWk⟩]; exact g5
   . obtain rfl:k=A.length:=by omega
     rw [List.take_length] at hm hw
     refine .inr ⟨(l,ring,f,m,w),?_,hd,hm,hw⟩
     unfold ga
     simp only [bH,dge hc,cond_false]) (s:=(0,fd,ring,f,m,w)) ⟨0,Nat.zero_le _,rfl,hd,hm,hw⟩
 obtain ⟨l',r,f,m,w⟩:=b
 exact ⟨l',r,f,m,w,h1,h2⟩
end
section
variable {N:Nat} {E:ArG}
abbrev fb (L:List Nat):Nat→Bool:=fun n=>decide (n∈L)
theorem Cs (hE:inN N E) (hN:N≤200000) (hEl:E.length≤10000000) {Rn Wn:List Nat} (hR:Rn.Nodup) (hr:∀ n∈Rn,n < N) (hw:∀ n∈Wn,n < N) (hwl:Wn.length≤1000000) :
   ∃ l',mV (bks N E) (li Rn) (li Wn)=some (.inr ((N:Int),l'))∧Ds N l'∧∀ n,mem l' n=true↔Lv E N (fb Rn) (fb Wn) n:=by
 have hz:=xK ((N + 63) / 64)
 have hD:=Gc (n:=N) (by omega)
 obtain ⟨St,s1,s2,s3⟩:=DD hN hwl hD hz hw
 obtain ⟨F0,r0,f0,m0,w0,t1,t2,t3,t4⟩:=EJ hN hR hD hz hr
 have hNew:gD (((bks N E).length:Nat):Int)=some (.inr (0,(N:Int),List.replicate ((N + 63) / 64) 0)):=by
   rw [show (bks N E).length=N by simp,Dk,if_neg (by omega),if_neg (by omega)]; rfl
 have hV0:∀ n,mem F0 n=true→Lv E N (fb Rn) (fb Wn) n:=fun n hn=>by
   rw [t3,decide_eq_true_eq] at hn
   exact .rd (hr n hn) (decide_eq_true hn)
 obtain ⟨b,h1,h2⟩:=d8 (body:=my (bks N E) (N:Int) St (N:Int)) (fun s=>∃ Q:List Nat,Ds N s.1∧Wr s.2.1 s.2.2.1 s.2.2.2.1 s.2.2.2.2 (li Q)∧(∀ n,mem s.1 n=true→Lv E N (fb Rn) (fb Wn) n)∧(∀ n∈Q,mem s.1 n=true)∧Q.Nodup∧(∀ v,mem s.1 v=true→v∈Q∨K7 E (fb Wn) (mem s.1) v)∧∀ n∈Rn,mem s.1 n=true)
   (fun s=>2 * cz N (mem s.1) + s.2.2.2.1.toNat) (Q:=fun b=>Ds N b∧∀ n,mem b n=true↔Lv E N (fb Rn) (fb Wn) n) (fun s hs=>by
   obtain ⟨fd,ring,f,m,w⟩:=s
   obtain ⟨Q,hd,hq,hV,hQ,hQd,hC,hRn⟩:=hs
   dsimp only at hd hq hV hQ hC hRn ⊢
   have hlen:=DP hq
   have hm:=hq.q.m_
   cases Q with
   | nil =>
     refine .inr ⟨fd,?_,hd,fun n=>⟨hV n,fun h=>Lv.least (V:=mem fd) (fun n _ hn=>hRn n (by simpa using hn)) (fun a ha hc=>?_) h⟩⟩
     . unfold my
       simp only [hlen,Option.bind_some,show (li ([]:List Nat)).length=0 from rfl,show decide ((0:Int) < ((0:Nat):Int))=false from rfl,cond_false]
     . rcases hC _ hc.2.1 with h1 | h1
       . cases h1
       . have:=h1 a.1 ha hc.2.2
         rw [hc.1] at this; cases this
   | cons v Q =>
     have hvV:=hQ v (List.mem_cons_self ..)
     have hvN:=yL hd hvV
     have hLv:=hV v hvV
     have hli:li (v :: Q)=(v:Int) :: li Q:=rfl
     rw [hli] at hq
     obtain ⟨r1,f1,w1,p1,p2⟩:=C0 hq
     have hA:∀ u∈nxt (tn E) v,(u,v)∈E:=fun u hu=>by rw [iY,yq] at hu; exact hu
     have hAl:(nxt (tn E) v).length≤10000000:=by
       unfold nxt; rw [List.length_map]
       have:=rb ((tn E).map (·.1)) v
       rw [List.length_map,F6] at this; omega
     have hQd':=(List.nodup_cons.1 hQd)
     have hQ':∀ n∈Q,mem fd n=true:=fun n hn=>hQ n (List.mem_cons_of_mem _ hn)
     obtain ⟨fd',r',f',m',w',g1,g2,g3,g4⟩:=Cz (R:=fb Rn) (W:=fb Wn) hE hN s2 s3 hA hAl hLv hV hQ' hQd'.2 hd (fun _=>rfl) p2
     obtain ⟨i1,i2,i3,i4,i5,i6,i7,i8⟩:=nJ (R:=fb Rn) hE hLv (nxt (tn E) v) (mem fd) Q hA hV hQ' hQd'.2
     have e3:mem fd'=((nxt (tn E) v).foldl (stW (fb Wn)) (mem fd,Q)).1:=funext g3
     rw [← e3] at i1 i2 i3 i5 i7 i8
     refine .inl ⟨(fd',r',f',m',w'),?_,⟨((nxt (tn E) v).foldl (stW (fb Wn)) (mem fd,Q)).2,g2,g4,i2,i3,i4,fun u hu=>?_,fun n hn=>i1 n (hRn n hn)⟩,?_⟩
     . have hgt:decide ((0:Int) < (((li (v :: Q)).length:Nat):Int))=true:=by rw [hli]; simp
       have hb:aa (bks N E) (v:Int)=some (li (nxt (tn E) v)):=px hvN
       rw [hli] at hlen hgt
       unfold my
       simp only [hlen,Option.bind_some,hgt,cond_true,p1,hb,g1]
     . rcases i5 u hu with h | h
       . rcases hC u h with h | h
         . rcases List.mem_cons.1 h with rfl | h
           . exact .inr (fun x hx hwx=>i7 x (iY.2 (yq.2 hx)) hwx)
           . exact .inl (i6 u h)
         . exact .inr (fun x hx hwx=>i1 x (h x hx hwx))
       . exact .inl h
     . have hm':=g4.q.m_
       dsimp only
       rw [hm',hm,hli,bH,Int.toNat_natCast,Int.toNat_natCast,List.length_cons,bH]
       omega) (s:=(F0,r0,f0,m0,w0)) ⟨Rn,t2,t4,hV0,fun n hn=>by rw [t3]; exact decide_eq_true hn,hR,fun v hv => .inl (by rw [t3,decide_eq_true_eq] at hv; exact hv),fun n hn=>by rw [t3]; exact decide_eq_true hn⟩
 refine ⟨b,?_,h2⟩
 unfold mV
 rw [hNew]
 simp only [Option.bind_some,s1,t1,h1]
end
end
section
abbrev NB (b:Bo):Nat:=bg (xs b) (xs b).length
def rN (P:List Tc) (l:Nat):List Nat:=(List.range P.length).filter (fun n=>decide ((l:Int)∈(P.getD n ([],[])).1))
def wN (P:List Tc) (l:Nat):List Nat:=(List.range P.length).filter (fun n=>decide ((l:Int)∈(P.getD n ([],[])).2))
theorem sV {P:List Tc} {l n:Nat} (hn:n < P.length):n∈rN P l↔(l:Int)∈P[n].1:=by
 unfold rN
 rw [List.mem_filter,List.mem_range,ce hn,decide_eq_true_eq]
 exact ⟨fun h=>h.2,fun h=>⟨hn,h⟩⟩
theorem sH {P:List Tc} {l n:Nat} (hn:n < P.length):n∈wN P l↔(l:Int)∈P[n].2:=by
 unfold wN
 rw [List.mem_filter,List.mem_range,ce hn,decide_eq_true_eq]
 exact ⟨fun h=>h.2,fun h=>⟨hn,h⟩⟩
theorem Hx (P:List Tc) (l:Nat):(rN P l).Nodup:=List.nodup_range.filter _
theorem Ie {P:List Tc} {l n:Nat} (h:n∈rN P l):n < P.length:=List.mem_range.1 (List.mem_filter.1 h).1
theorem G1 {P:List Tc} {l n:Nat} (h:n∈wN P l):n < P.length:=List.mem_range.1 (List.mem_filter.1 h).1
theorem FA (P:List Tc) (l:Nat):(wN P l).length≤P.length:=by
 have:=List.length_filter_le (fun n=>decide ((l:Int)∈(P.getD n ([],[])).2)) (List.range P.length)
 simpa [wN] using this
def LvS (b:Bo) (l:Nat):Nat→Prop:=Lv (az (xs b)) (NB b) (fb (rN (pts (xs b)) l)) (fb (wN (pts (xs b)) l))
def lvB (b:Bo) (l n:Nat):Bool:=@decide (LvS b l n) (Classical.propDecidable _)
theorem dx {b:Bo} {l n:Nat}:lvB b l n=true↔LvS b l n:=by unfold lvB; exact @decide_eq_true_iff _ (Classical.propDecidable _)
theorem sd (b:Bo):inN (NB b) (az (xs b)):=ov (xs b) _ (Nat.le_refl _)
theorem FE {b:Bo} {l n:Nat} (h:lvB b l n=true):n < NB b:=Lv.lt (sd b) (dx.1 h)
theorem Fu {E:List (Nat×Nat)} {N:Nat} {W:Nat→Bool} {n:Nat}:¬ Lv E N (fb []) W n:=fun h=>by
 have:=Lv.least (V:=fun _=>false) (fun n _ hn=>by simp at hn) (fun a ha hc=>by cases hc.2.1) h
 cases this
def SlotOk (b:Bo) (l:Nat) (s:Sw):Prop:=(s=none∧∀ n,¬ LvS b l n)∨∃ w,s=some ((NB b:Int),w)∧Ds (NB b) w∧∀ n,mem w n=true↔LvS b l n
theorem SlotOk.has {b:Bo} {l:Nat} {s:Sw} (h:SlotOk b l s) (p:Int):bZ s p=some (decide (0≤p)&&lvB b l p.toNat):=by
 rcases h with ⟨rfl,h⟩ | ⟨w,rfl,hd,h⟩
 . have:lvB b l p.toNat=false:=by
     cases e:lvB b l p.toNat with
     | true=>exact absurd (dx.1 e) (h _)
     | false=>rfl
   rw [this,Bool.and_false]
   unfold bZ eK mA
   by_cases q:0≤p
   . simp [q,show ¬ p < 0 by omega]
   . simp [q]
 . rw [rH hd]
   congr 1
   have e:mem w p.toNat=lvB b l p.toNat:=by rw [Bool.eq_iff_iff,h,dx]
   rw [e]
   cases q:lvB b l p.toNat with
   | false=>simp
   | true =>
     have:=FE q
     rw [Bool.and_true,Bool.and_true,decide_eq_decide]
     constructor
     . exact fun h=>h.1
     . exact fun h=>⟨h,by omega⟩
structure CsOk (b:Bo) (C:List Sw):Prop where
 z:NB b=0→C=[]
 len:0 < NB b→C.length=b.2.2.2.1.length
 ok:∀ l s,C[l]? = some s→SlotOk b l s
theorem BV {P:List Tc} {L l:Nat} (hl:l < L) (hP:P.length≤200000):mn (some (P,lcs L P)) (l:Int)=some (li (rN P l),li (wN P l)):=by
 have hr:=xn P l
 have hw:=xP P l
 have hlen:(lcs L P).length=L:=by simp [lcs]
 have hg:aa (lcs L P) (l:Int)=some (rdr P l,wtr P l):=by
   rw [ah (by rw [hlen]; exact hl)]; simp [lcs]
 unfold mn
 simp only [Option.isNone_some,Bool.false_or,decide_eq_false (show ¬ ((l:Int) < 0) by omega),cond_false,Option.bind_some,hlen,decide_eq_false (show ¬ ((L:Int)≤(l:Int)) by omega),hg]
 rw [sL _ (by omega),sL _ (by omega)]
 rfl
theorem nC {b:Bo} (h:Sm b):∃ C,cw b=some (some ((NB b:Int),C))∧CsOk b C:=by
 have hb:NB b≤131072:=(kT h (Nat.le_refl _)).1
 have hP:(pts (xs b)).length=NB b:=k7 _
 have hL:=h.locals
 have hE:=sd b
 have hEl:(az (xs b)).length≤2621440:=kI (lm h) (Nat.le_refl _)
 unfold cw
 rw [show eU b=_ from Bs h,Option.bind_some,MD,Option.bind_some,hP]
 by_cases h0:NB b=0
 . refine ⟨[],?_,⟨fun _=>rfl,fun h=>by omega,fun l s hs=>by simp at hs⟩⟩
   rw [decide_eq_true (show ((NB b:Nat):Int)=0 by omega),cond_true]
 . rw [decide_eq_false (show ¬ ((NB b:Nat):Int)=0 by omega),cond_false,if_neg h0,show kC b=_ from B0 h,yG _ _ (by omega)]
   simp only [Option.bind_some,aR]
   rw [Dh (Nat.le_trans hb (by decide)) (Nat.le_trans hEl (by decide)),Option.bind_some]
   obtain ⟨C,h1,h2⟩:=d8 (body:=kb (some (pts (xs b),lcs b.2.2.2.1.length (pts (xs b)))) (bks (NB b) (az (xs b))) (List.replicate b.2.2.2.1.length none)) (fun s=>∃ k:Nat,k≤b.2.2.2.1.length∧s.1=(k:Int)∧s.2.length=b.2.2.2.1.length∧∀ l x,s.2[l]? = some x→(l < k→SlotOk b l x)∧(k≤l→x=none)) (fun s=>b.2.2.2.1.length - s.1.toNat) (Q:=fun C=>C.length=b.2.2.2.1.length∧∀ l x,C[l]? = some x→SlotOk b l x) (fun s hs=>by
     obtain ⟨i,C⟩:=s
     obtain ⟨k,hk,rfl,hlen,hC⟩:=hs
     dsimp only at hlen hC ⊢
     by_cases hc:k < b.2.2.2.1.length
     . left
       have hkC:k < C.length:=by omega
       have hn:=(hC k C[k] (List.getElem?_eq_getElem hkC)).2 (Nat.le_refl _)
       have hw1:IntKind.wrap .i64 ((k:Int) + 1)=((k + 1:Nat):Int):=ak hc (by omega)
       have hgo:=BV (P:=pts (xs b)) hc (by rw [hP]; exact Nat.le_trans hb (by decide))
       by_cases hr:rN (pts (xs b)) k=[]
       . refine ⟨(((k + 1:Nat):Int),C),?_,⟨k + 1,hc,rfl,hlen,fun l x hx=>⟨fun hl=>?_,fun hl=>(hC l x hx).2 (by omega)⟩⟩,by dsimp only; omega⟩
         . unfold kb
           simp only [List.length_replicate,dlt hc,cond_true,hgo,Option.bind_some,hr,show (li ([]:List Nat)).length=0 from rfl,show decide ((0:Int) < ((0:Nat):Int))=false from rfl,cond_false,hw1]
         . by_cases e:l=k
           . subst e
             rw [List.getElem?_eq_getElem hkC,hn] at hx
             obtain rfl:=Option.some.inj hx
             refine .inl ⟨rfl,fun n hl=>?_⟩
             unfold LvS at hl
             rw [hr] at hl
             exact Fu hl
           . exact (hC l x hx).1 (by omega)
       . obtain ⟨w,g1,g2,g3⟩:=Cs hE (Nat.le_trans hb (by decide)) (Nat.le_trans hEl (by decide)) (Hx (pts (xs b)) k) (fun n hn=>hP ▸ Ie hn) (fun n (hn:n∈wN (pts (xs b)) k)=>hP ▸ G1 hn) (Nat.le_trans (FA (pts (xs b)) k) (by rw [hP]; exact Nat.le_trans hb (by decide)))
         have hpos:decide ((0:Int) < (((li (rN (pts (xs b)) k)).length:Nat):Int))=true:=by
           rw [bH]
           have:(rN (pts (xs b)) k).length≠0:=fun e=>hr (List.length_eq_zero_iff.1 e)
           exact decide_eq_true (by omega)
         have e1:aa C (k:Int)=some none:=by rw [ah hkC,hn]
         have e2:aa (C.set k (some ((NB b:Int),w))) (k:Int)=some (some ((NB b:Int),w)):=by rw [ah (by simpa using hkC)]; simp
         refine ⟨(((k + 1:Nat):Int),C.set k (some ((NB b:Int),w))),?_,⟨k + 1,hc,rfl,by simpa using hlen,fun l x hx=>⟨fun hl=>?_,fun hl=>?_⟩⟩,by dsimp only; omega⟩
         . unfold kb
           simp only [List.length_replicate,dlt hc,cond_true,hgo,Option.bind_some,hpos,e1,g1,nM,Int.toNat_natCast,e2,vp g2,aR,hw1,List.set_set]
         . by_cases e:l=k
           . subst e
             rw [List.getElem?_set_self hkC] at hx
             obtain rfl:=Option.some.inj hx
             exact .inr ⟨w,rfl,g2,g3⟩
           . rw [List.getElem?_set_ne (fun h=>e h.symm)] at hx
             exact (hC l x hx).1 (by omega)
         . rw [List.getElem?_set_ne (by omega)] at hx
           exact (hC l x hx).2 (by omega)
     . obtain rfl:k=b.2.2.2.1.length:=by omega
       refine .inr ⟨C,?_,hlen,fun l x hx=>(hC l x hx).1 ?_⟩
       . unfold kb
         simp only [List.length_replicate,dge hc,cond_false]
       . have:=(List.getElem?_eq_some_iff.1 hx).1; omega) (s:=(0,List.replicate b.2.2.2.1.length none)) ⟨0,Nat.zero_le _,rfl,by simp,fun l x hx=>⟨fun h=>by omega,fun _=>by rw [List.getElem?_replicate] at hx; split at hx <;> simp at hx; exact hx.symm⟩⟩
   refine ⟨C,?_,⟨fun h=>absurd h h0,fun _=>h2.1,h2.2⟩⟩
   rw [h1]; rfl
section
variable {b:Bo} {C:List Sw}
theorem kX:df (some ((NB b:Int),C))=some ((NB b:Nat):Int):=rfl
theorem yH {q:Nat} (hq:q < C.length):eQ (some ((NB b:Int),C)) (q:Int)=some C[q]:=by
 unfold eQ
 simp only [Option.isNone_some,Bool.false_or,decide_eq_false (show ¬ ((q:Int) < 0) by omega),cond_false,Option.bind_some,decide_eq_false (show ¬ ((C.length:Int)≤(q:Int)) by omega),ah hq]
theorem Bu {q:Int} (hq:q < 0∨(C.length:Int)≤q):eQ (some ((NB b:Int),C)) q=some none:=by
 unfold eQ
 by_cases h:q < 0
 . simp [h]
 . simp [h,show (C.length:Int)≤q by omega]
theorem ya (hC:CsOk b C) (p:Int) {q:Nat} (hq:q < C.length):eP (some ((NB b:Int),C)) p (q:Int)=some (decide (0≤p)&&lvB b q p.toNat):=by
 unfold eP
 rw [yH hq,Option.bind_some,(hC.ok q _ (List.getElem?_eq_getElem hq)).has]; rfl
abbrev c8 (b:Bo) (m:Nat) (p:Int):List Nat:=(List.range m).filter (fun k=>decide (0≤p)&&lvB b k p.toNat)
theorem sR (hC:CsOk b C) (hl:C.length≤1000000) (p:Int):cN (some ((NB b:Int),C)) p=some (li (c8 b C.length p)):=by
 unfold cN
 simp only [Option.isNone_some,cond_false,Option.bind_some]
 have h:=aF (body:=mw p ((NB b:Int),C)) (fun k:Nat=>(li (c8 b k p),(k:Int))) C.length (b:=li (c8 b C.length p)) ?_ ?_
 . rw [show (([]:List Int),(0:Int))=(li (c8 b 0 p),((0:Nat):Int)) from rfl,h]; rfl
 . intro k hk
   have hs:=(hC.ok k _ (List.getElem?_eq_getElem hk)).has p
   have hkl:(c8 b k p).length≤k:=np _ _
   have e:c8 b (k + 1) p=c8 b k p++if (decide (0≤p)&&lvB b k p.toNat)=true then [k] else []:=by
     unfold c8
     rw [List.range_succ,List.filter_append]
     cases q:(decide (0≤p)&&lvB b k p.toNat) <;> simp [q]
   unfold mw
   simp only [dlt hk,cond_true,ah hk,Option.bind_some,hs,ak hk (by omega)]
   rw [e]
   cases q:(decide (0≤p)&&lvB b k p.toNat) with
   | true =>
     rw [cond_true,aI (by rw [bH]; simp; omega),if_pos rfl]
     simp [li]
   | false=>simp
 . unfold mw
   simp only [dge (show ¬ C.length < C.length by omega),cond_false]
end
end
section
def lvN (b:Bo) (l:Nat):List Nat:=(List.range (NB b)).filter (lvB b l)
theorem xN (b:Bo) (l:Nat):(lvN b l).length≤NB b:=np _ _
theorem yj {b:Bo} {l:Nat} {w:List Int} (h:∀ n,mem w n=true↔LvS b l n):eE (NB b) w=lvN b l:=by
 unfold eE lvN
 congr 1
 funext n
 rw [Bool.eq_iff_iff,h,dx]
theorem xk {b:Bo} {l:Nat} (h:∀ n,¬ LvS b l n):lvN b l=[]:=by
 unfold lvN
 rw [List.filter_eq_nil_iff]
 exact fun n _ hn=>h n (dx.1 hn)
theorem SlotOk.count {b:Bo} {l:Nat} {s:Sw} (h:SlotOk b l s):fV s=some (((lvN b l).length:Nat):Int):=by
 rcases h with ⟨rfl,h⟩ | ⟨w,rfl,hd,h⟩
 . rw [xk h]; rfl
 . rw [vp hd,yj h]
section
variable {b:Bo} {C:List Sw}
def cB (b:Bo):Nat→Nat
 | 0=>0
 | k + 1=>cB b k + (lvN b k).length
theorem wO (b:Bo):∀ k,cB b k≤k * NB b
 | 0=>Nat.zero_le _
 | k + 1=>by
   have h1:=wO b k
   have h2:=xN b k
   rw [Nat.succ_mul]; unfold cB; omega
theorem qZ (hC:CsOk b C) (hl:C.length * NB b≤1000000) (hl2:C.length≤1000000):dR (some ((NB b:Int),C))=some ((cB b C.length:Nat):Int):=by
 unfold dR
 simp only [Option.isNone_some,cond_false,Option.bind_some]
 have h:=aF (body:=mh ((NB b:Int),C)) (fun k:Nat=>(((cB b k:Nat):Int),(k:Int))) C.length (b:=((cB b C.length:Nat):Int)) ?_ ?_
 . rw [show ((0:Int),(0:Int))=(((cB b 0:Nat):Int),((0:Nat):Int)) from rfl,h]; rfl
 . intro k hk
   have hs:=(hC.ok k _ (List.getElem?_eq_getElem hk)).count
   have h1:=wO b (k + 1)
   have h2:(k + 1) * NB b≤C.length * NB b:=Nat.mul_le_mul_right _ hk
   have e:cB b (k + 1)=cB b k + (lvN b k).length:=rfl
   unfold mh
   simp only [dlt hk,cond_true,ah hk,Option.bind_some,hs,ak hk (by omega)]
   rw [w64 (by omega) (by omega),e]; rfl
 . unfold mh
   simp only [dge (show ¬ C.length < C.length by omega),cond_false]
end
abbrev b25:Bo:=(1,1,[],[[],[],[]],[],[],[([(1,1,2,0,false),(4,0,1,0,false)],(3,0,0,[],[],[]))])
theorem Lb:Sm b25:=⟨by decide,by decide,by decide,by decide,by decide,by decide,by decide,by decide,by decide⟩
theorem KE:bM (4,0,1,0,false) b25.2.2.2.1 b25.2.1=some ([],0):=by
 unfold bM
 rw [show eT ((4:Int),0,1,0,false)=_ from kH (4,0,1,0,false)]
 rfl
theorem G4:(vck b25).1=0:=by
 have hs:sE b25.2.2.2.1 b25.2.1 (1,1,2,0,false)=0:=by unfold sE; rw [show bM (1,1,2,0,false) b25.2.2.2.1 b25.2.1=_ from Lz]; rfl
 have hs2:sE b25.2.2.2.1 b25.2.1 (4,0,1,0,false)=0:=by unfold sE; rw [KE]; rfl
 have hr:tE (aE b25) (3,0,0,[],[],[])=0:=Gn (t:=[]) (L:=[[],[]]) rfl rfl (by simp)
 have hc:aM b25=(0,0,0,0):=by
   have h1:aG b25 ([(1,1,2,0,false),(4,0,1,0,false)],(3,0,0,[],[],[]))=none:=by
     unfold aG
     simp only [List.findIdx?_cons,hs,hs2,hr]
     rfl
   unfold aM
   simp only [List.findIdx?_cons,h1]
   rfl
 unfold vck
 rw [hc]; rfl
theorem tR:xs b25=b25.2.2.2.2.2.2:=by unfold xs; rw [if_pos G4]
abbrev P25:List Tc:=[([2],[1]),([1],[]),([0],[])]
theorem GR:pts (xs b25)=P25:=by
 rw [tR]
 show []++([cpT ([2],[1]),cpT ([1],[])]++[cpT ([0],[])])=_
 unfold cpT
 rw [sK,sK,sK]; rfl
theorem pI:NB b25=3:=by show bg (xs b25) (xs b25).length=3; rw [tR]; decide
theorem FH:az (xs b25)=[(0,1),(1,2)]:=by rw [tR]; decide
theorem zd (k:Nat):LvS b25 k=Lv [(0,1),(1,2)] 3 (fb (rN P25 k)) (fb (wN P25 k)):=by
 unfold LvS; rw [FH,pI,GR]
theorem lvF {k n:Nat} (V:Nat→Bool) (h1:∀ n,n < 3→fb (rN P25 k) n=true→V n=true) (h2:∀ a∈[(0,1),(1,2)],¬ (V a.1=false∧V a.2=true∧fb (wN P25 k) a.1=false)) (hn:V n=false):lvB b25 k n=false:=by
 cases e:lvB b25 k n with
 | false=>rfl
 | true =>
   rw [dx,zd] at e
   have:=Lv.least h1 h2 e
   rw [hn] at this; cases this
theorem lvT {k n:Nat} (h:Lv [(0,1),(1,2)] 3 (fb (rN P25 k)) (fb (wN P25 k)) n):lvB b25 k n=true:=by rw [dx,zd]; exact h
theorem zZ:lvB b25 0 2=true:=lvT (.rd (by decide) (by decide))
theorem zG:lvB b25 0 1=true:=lvT (.st (v:=2) (by decide) (.rd (by decide) (by decide)) (by decide))
theorem zO:lvB b25 0 0=true:=lvT (.st (v:=1) (by decide) (.st (v:=2) (by decide) (.rd (by decide) (by decide)) (by decide)) (by decide))
theorem zF:lvB b25 1 1=true:=lvT (.rd (by decide) (by decide))
theorem zB:lvB b25 2 0=true:=lvT (.rd (by decide) (by decide))
theorem zM:lvB b25 1 0=false:=lvF (fun n=>decide (n=1)) (by decide) (by decide) rfl
theorem zX:lvB b25 1 2=false:=lvF (fun n=>decide (n=1)) (by decide) (by decide) rfl
theorem Ad:lvB b25 2 1=false:=lvF (fun n=>decide (n=0)) (by decide) (by decide) rfl
theorem zC:lvB b25 2 2=false:=lvF (fun n=>decide (n=0)) (by decide) (by decide) rfl
theorem xv:iu=some true:=by
 unfold iu
 obtain ⟨C,h1,hC⟩:=nC Lb
 have hl:C.length=3:=hC.len (by rw [pI]; decide)
 rw [show (mk 3 3 ([]):Option (List (List (Int×Bool))))=some [[],[],[]] from mkN (k:=3) (by decide),Option.bind_some,show cw (1,1,[],[[],[],[]],[],[],[([(1,1,2,0,false),(4,0,1,0,false)],(3,0,0,[],[],[]))])=_ from h1,Option.bind_some]
 have i0:cN (some ((NB b25:Int),C)) 0=some [0,2]:=by
   rw [sR hC (by omega),hl]
   simp [c8,List.range_succ,zO,zM,zB,li]
 have i1:cN (some ((NB b25:Int),C)) 1=some [0,1]:=by
   rw [sR hC (by omega),hl]
   simp [c8,List.range_succ,zG,zF,Ad,li]
 have i2:cN (some ((NB b25:Int),C)) 2=some [0]:=by
   rw [sR hC (by omega),hl]
   simp [c8,List.range_succ,zZ,zX,zC,li]
 have hc:dR (some ((NB b25:Int),C))=some 5:=by
   rw [qZ hC (by rw [hl,pI]; decide) (by omega),hl]
   simp [cB,lvN,pI,List.range_succ,zO,zG,zZ,zM,zF,zX,zB,Ad,zC]
 rw [i0,i1,i2,hc]
 simp only [Option.bind_some]
 rw [rk _ _ (by simp),rk _ _ (by simp),rk _ _ (by simp)]
 rfl
end
theorem nF (t:List St) (n:Int):dj t n=some (rck n t):=by
 by_cases h:16 < t.length
 . unfold dj rck
   rw [decide_eq_true (by omega),if_pos h]; rfl
 . exact ne t n (by omega)
theorem Cb (s:Sg):cP s=some (chk s):=by
 obtain ⟨n,B,A,R⟩:=s
 unfold cP chk
 dsimp only at *
 by_cases h0:n < 0
 . rw [decide_eq_true h0,if_pos h0]; rfl
 . rw [decide_eq_false h0,if_neg h0,cond_false,se]
   by_cases h1:16 < n∨16 < B.length∨16 < A.length
   . rw [decide_eq_true h1,if_pos h1]; rfl
   . rw [decide_eq_false h1,if_neg h1,cond_false]
     rw [dp (body:=gq (n,B,A,R)) B (aK n) (.inr 7) (.inl ()) ?_ ?_]
     . cases hb:B.any (aK n) with
       | true=>rfl
       | false =>
         simp only [Bool.false_eq_true,if_false,Option.bind_some]
         rw [tc (body:=gt (n,B,A,R)) (n:=n) (A:=A) (by omega) ?_ ?_]
         . rw [nF R n]
           simp only [Option.bind_some]
           cases lc n A <;> rfl
         . intro k hk
           unfold gt
           simp only [dlt hk,cond_true,ah hk,Option.bind_some]
           rw [nF,Option.bind_some]
         . simp [gt]
     . intro k hk
       unfold gq jP
       simp only [dlt hk,cond_true,ah hk,Option.bind_some,ak hk (by omega:B.length≤9223372036854775807)]
       generalize B[k]=b
       obtain ⟨b1,b2⟩:=b
       have e (x:Int):(!((decide (0≤x))&&(decide (x < n))))=(decide (x < 0)||decide (n≤x)):=by
         by_cases p:x < 0 <;> by_cases q:n≤x <;> simp [p,q] <;> omega
       simp only [e,aK]
       by_cases p1:b1 < 0 <;> by_cases p2:n≤b1 <;> by_cases p3:b2 < 0 <;> by_cases p4:n≤b2 <;> simp [p1,p2,p3,p4]
     . simp [gq]
theorem Cp {s:Sg} (h:chk s=0):s.2.1.length≤20∧s.2.2.1.length≤20∧s.2.2.2.length≤20∧∀ t∈s.2.2.1,t.length≤20:=by
 unfold chk at h
 by_cases h0:s.1 < 0
 . rw [if_pos h0] at h; cases h
 . rw [if_neg h0] at h
   by_cases h1:16 < s.1∨16 < s.2.1.length∨16 < s.2.2.1.length
   . rw [if_pos h1] at h; cases h
   . rw [if_neg h1] at h
     cases hb:s.2.1.any (aK s.1) with
     | true=>rw [hb] at h; simp at h
     | false =>
       rw [hb] at h
       simp only [Bool.false_eq_true,if_false] at h
       unfold lc at h
       cases hf:s.2.2.1.findIdx? (fun t=>!decide (rck s.1 t=0)) with
       | some k =>
         exfalso
         obtain ⟨hk,h5,_⟩:=List.findIdx?_eq_some_iff_getElem.1 hf
         have e:s.2.2.1.getD k []=s.2.2.1[k]:=by simp [List.getD,hk]
         rw [hf] at h
         simp only [e] at h
         simp [h] at h5
       | none =>
         rw [hf] at h
         have hr:=(d9 h).1
         refine ⟨by omega,by omega,by omega,fun t ht=>?_⟩
         have:=List.findIdx?_eq_none_iff.1 hf t ht
         have:=(d9 (by simpa using this)).1
         omega
theorem Du (x:Tm) (a:Ar) (hR:a.2.2.2.1.length≤20) (hL:∀ t∈a.2.2.1,t.length≤20) (hS:∀ s∈a.2.2.2.2,s.2.1.length≤20∧s.2.2.1.length≤20∧s.2.2.2.length≤20∧∀ t∈s.2.2.1,t.length≤20) :
   ∃ l e,di x a=some (l,e)∧bQ x a=some (l,e):=by
 by_cases hf:bf x=0
 . obtain ⟨_,l2,l3,l4⟩:=qO hf
   obtain ⟨l,e,h1,h2,_⟩:=xG x a (by omega) (by omega) (by omega) hR hL hS
   exact ⟨l,e,h1,h2⟩
 . refine ⟨[],bf x,?_,?_⟩
   . unfold di
     rw [show iA (x.1,x.2.1,x.2.2.1,x.2.2.2.1,x.2.2.2.2.1,x.2.2.2.2.2)=some (bf x) from w9 x,Option.bind_some,decide_eq_false hf]; rfl
   . unfold bQ
     rw [show dh (x.1,x.2.1,x.2.2.1,x.2.2.2.1,x.2.2.2.2.1,x.2.2.2.2.2)=some (bf x) from iD x,Option.bind_some,decide_eq_false hf]; rfl
def lB (b:Bo):Flt:=if 65536 < b.2.2.1.length then (6,1,0,0) else cV b
def lL (b:Bo):Flt:=if b.2.2.2.1=[] then (14,2,0,0) else if 65536 < b.2.2.2.1.length then (6,2,0,0) else b8 b
def lS (b:Bo):Flt:=if 65536 < b.2.2.2.2.2.1.length then (6,4,0,0) else cL b
def lkR (X:List Blk):Unit⊕Flt:=((List.range X.length).findSome? (fun k=>if 65536 < stm (X.take (k + 1)) then some (.inr (6,5,(k:Int),0):Unit⊕Flt) else none)).getD (.inl ())
def lK (b:Bo):Flt:=if b.2.2.2.2.2.2=[] then (14,5,0,0) else if 65536 < b.2.2.2.2.2.2.length then (6,5,0,0) else match lkR b.2.2.2.2.2.2 with | .inr f=>f | .inl ()=>(0,0,0,0)
theorem xR {X:List Blk} {f:Flt} (h:lkR X = .inr f):f.1=6:=by
 unfold lkR at h
 cases hf:(List.range X.length).findSome? (fun k=>if 65536 < stm (X.take (k + 1)) then some (.inr (6,5,(k:Int),0):Unit⊕Flt) else none) with
 | none=>rw [hf] at h; cases h
 | some v =>
   rw [hf] at h
   simp only [Option.getD_some] at h
   subst h
   obtain ⟨k,_,hk⟩:=List.exists_of_findSome?_eq_some hf
   by_cases q:65536 < stm (X.take (k + 1))
   . rw [if_pos q] at hk; cases hk; rfl
   . rw [if_neg q] at hk; cases hk
theorem nX {b:Bo} (h:(lL b).1=0):b.2.2.2.1≠[]∧b.2.2.2.1.length≤65536∧∀ t∈b.2.2.2.1,t.length≤20:=by
 unfold lL at h
 by_cases q:b.2.2.2.1=[]
 . rw [if_pos q] at h; cases h
 . rw [if_neg q] at h
   by_cases q2:65536 < b.2.2.2.1.length
   . rw [if_pos q2] at h; cases h
   . rw [if_neg q2] at h
     refine ⟨q,by omega,fun t ht=>?_⟩
     unfold b8 at h
     rw [if_neg q] at h
     cases hf:b.2.2.2.1.findIdx? (fun t=>!decide (rck b.2.1 t=0)) with
     | some k =>
       exfalso
       obtain ⟨hk,h5,_⟩:=List.findIdx?_eq_some_iff_getElem.1 hf
       have e:b.2.2.2.1.getD k []=b.2.2.2.1[k]:=by simp [List.getD,hk]
       rw [hf] at h
       simp only [e] at h
       simp [h] at h5
     | none =>
       have:=List.findIdx?_eq_none_iff.1 hf t ht
       have:=(d9 (by simpa using this)).1
       omega
theorem qX {b:Bo} (h:(bB b).1=0):b.2.2.2.2.1.length≤20:=by
 unfold bB at h
 by_cases q:rck b.1 b.2.2.2.2.1=0
 . have:=(d9 q).1; omega
 . rw [if_neg q] at h; exact absurd h q
theorem sn {b:Bo} (h:(lS b).1=0):∀ s∈b.2.2.2.2.2.1,s.2.1.length≤20∧s.2.2.1.length≤20∧s.2.2.2.length≤20∧∀ t∈s.2.2.1,t.length≤20:=by
 unfold lS at h
 by_cases q2:65536 < b.2.2.2.2.2.1.length
 . rw [if_pos q2] at h; cases h
 . rw [if_neg q2] at h
   intro s hs
   unfold cL at h
   cases hf:b.2.2.2.2.2.1.findIdx? (fun s=>!decide (chk s=0)) with
   | some k =>
     exfalso
     obtain ⟨hk,h5,_⟩:=List.findIdx?_eq_some_iff_getElem.1 hf
     have e:b.2.2.2.2.2.1.getD k (0,[],[],[])=b.2.2.2.2.2.1[k]:=by simp [List.getD,hk]
     rw [hf] at h
     simp only [e] at h
     simp [h] at h5
   | none =>
     have:=List.findIdx?_eq_none_iff.1 hf s hs
     exact Cp (by simpa using this)
theorem BW (b:Bo):fX b=some (lB b):=by
 unfold fX lB
 by_cases h1:65536 < b.2.2.1.length
 . rw [decide_eq_true (by omega),cond_true,if_pos h1]
 . unfold cV
   rw [if_neg h1,decide_eq_false (by omega),cond_false,aS (body:=fP b) b.2.2.1 (aK b.1) (fun k=>(.inr (7,1,(k:Int),0):Unit⊕Flt)) (.inl ()) ?_ ?_]
   . cases b.2.2.1.findIdx? (aK b.1) <;> rfl
   . intro k hk
     unfold fP jO aR
     simp only [dlt hk,cond_true,ah hk,Option.bind_some,ak hk (by omega:b.2.2.1.length≤9223372036854775807)]
     generalize b.2.2.1[k]=x
     obtain ⟨x1,x2⟩:=x
     have e (x:Int):(!((decide (0≤x))&&(decide (x < b.1))))=(decide (x < 0)||decide (b.1≤x)):=by
       by_cases p:x < 0 <;> by_cases q:b.1≤x <;> simp [p,q] <;> omega
     simp only [e,aK]
     by_cases p1:x1 < 0 <;> by_cases p2:b.1≤x1 <;> by_cases p3:x2 < 0 <;> by_cases p4:b.1≤x2 <;> simp [p1,p2,p3,p4]
   . simp [fP]
theorem EC (b:Bo):fY b=some (lL b):=by
 unfold fY lL
 by_cases q:b.2.2.2.1=[]
 . rw [if_pos q,q]; rfl
 . have q':¬ ((b.2.2.2.1.length:Nat):Int)=0:=fun hc=>q (List.length_eq_zero_iff.1 (by omega))
   rw [if_neg q,decide_eq_false q',cond_false]
   by_cases h1:65536 < b.2.2.2.1.length
   . rw [decide_eq_true (by omega),cond_true,if_pos h1]
   . unfold b8
     rw [if_neg h1,if_neg q,decide_eq_false (by omega),cond_false,aS (body:=fO b) b.2.2.2.1 (fun t=>!decide (rck b.2.1 t=0)) (fun k=>(.inr (rck b.2.1 (b.2.2.2.1.getD k []),2,(k:Int),0):Unit⊕Flt)) (.inl ()) ?_ ?_]
     . cases b.2.2.2.1.findIdx? (fun t=>!decide (rck b.2.1 t=0)) <;> rfl
     . intro k hk
       unfold fO aR
       have e:b.2.2.2.1.getD k []=b.2.2.2.1[k]:=by simp [List.getD,hk]
       simp only [dlt hk,cond_true,ah hk,Option.bind_some,ak hk (by omega:b.2.2.2.1.length≤9223372036854775807),e,nF]
       cases (!decide (rck b.2.1 b.2.2.2.1[k]=0)) <;> rfl
     . simp [fO]
theorem EK {b:Bo} (hL:b.2.2.2.1≠[]):dT b=some (bB b):=by
 unfold dT bB
 have hp:0 < b.2.2.2.1.length:=List.length_pos_iff.2 hL
 have e0:b.2.2.2.1.getD 0 []=b.2.2.2.1[0]:=by simp [List.getD,hp]
 have g0:aa b.2.2.2.1 0=some b.2.2.2.1[0]:=ah (k:=0) hp
 rw [nF,Option.bind_some,g0,Option.bind_some]
 by_cases q:rck b.1 b.2.2.2.2.1=0
 . have:=(d9 q).1
   rw [gF _ _ (by omega),e0,Option.bind_some,if_pos q,q]
   cases shp b.2.2.2.2.1 b.2.2.2.1[0] <;> rfl
 . rw [if_neg q,decide_eq_false q]; rfl
theorem E0 (b:Bo):gh b=some (lS b):=by
 unfold gh lS
 by_cases h1:65536 < b.2.2.2.2.2.1.length
 . rw [decide_eq_true (by omega),cond_true,if_pos h1]
 . unfold cL
   rw [if_neg h1,decide_eq_false (by omega),cond_false,aS (body:=fS b) b.2.2.2.2.2.1 (fun s=>!decide (chk s=0)) (fun k=>(.inr (chk (b.2.2.2.2.2.1.getD k (0,[],[],[])),4,(k:Int),0):Unit⊕Flt)) (.inl ()) ?_ ?_]
   . cases b.2.2.2.2.2.1.findIdx? (fun s=>!decide (chk s=0)) <;> rfl
   . intro k hk
     unfold fS aR
     have e:b.2.2.2.2.2.1.getD k (0,[],[],[])=b.2.2.2.2.2.1[k]:=by simp [List.getD,hk]
     simp only [dlt hk,cond_true,ah hk,Option.bind_some,ak hk (by omega:b.2.2.2.2.2.1.length≤9223372036854775807),e,show cP (b.2.2.2.2.2.1[k].1,b.2.2.2.2.2.1[k].2.1,b.2.2.2.2.2.1[k].2.2.1,b.2.2.2.2.2.1[k].2.2.2)=_ from Cb _]
     cases (!decide (chk b.2.2.2.2.2.1[k]=0)) <;> rfl
   . simp [fS]
section
theorem vH {X:List Blk} (hx:∀ x∈X,x.1.length≤140737488351232) (k:Nat):stm (X.take k)≤X.length * 140737488351232:=by
 have key:∀ l:List Blk,(∀ x∈l,x.1.length≤140737488351232)→stm l≤l.length * 140737488351232:=by
   intro l
   induction l with
   | nil=>intro _; simp [stm]
   | cons x l ih =>
     intro h
     have h1:=ih (fun y hy=>h y (List.mem_cons_of_mem _ hy))
     have h2:=h x (List.mem_cons_self ..)
     unfold stm at *
     simp only [List.map_cons,List.sum_cons,List.length_cons,Nat.succ_mul]
     omega
 have h1:=key X hx
 have h2:=nO (fun x:Blk=>x.1.length) X k
 unfold stm at *
 omega
section
variable {b:Bo} (hx:∀ x∈b.2.2.2.2.2.2,x.1.length≤140737488351232)
include hx
theorem w7 {body:(Int×Int)→Option ((Int×Int)⊕(Unit⊕Flt))} (hX:b.2.2.2.2.2.2.length≤65536)
   (hb:∀ i k,body (i,k)=cond (decide (k < ((b.2.2.2.2.2.2.length:Nat):Int))) ((aa b.2.2.2.2.2.2 k).bind fun x=>cond (decide (65536 < (IntKind.wrap .i64 (i + ((x.1.length:Nat):Int))))) (some (.inr (.inr (6,5,k,0)))) (some (.inl (IntKind.wrap .i64 (i + ((x.1.length:Nat):Int)),IntKind.wrap .i64 (k + 1))))) (some (.inr (.inl ())))) :
   loop body (0,0)=some (lkR b.2.2.2.2.2.2):=by
 have h:=CH (body:=body) b.2.2.2.2.2.2.length (fun k:Nat=>(((stm (b.2.2.2.2.2.2.take k):Nat):Int),(k:Int))) (fun k=>if 65536 < stm (b.2.2.2.2.2.2.take (k + 1)) then some (.inr (6,5,(k:Int),0):Unit⊕Flt) else none) (.inl ()) ?_ ?_
 . unfold lkR
   rw [← h]; simp [stm]
 . intro k hk
   have a1:=kU hk
   have a2:=vH hx k
   have a3:=vH hx (k + 1)
   have a4:b.2.2.2.2.2.2.length * 140737488351232≤65536 * 140737488351232:=Nat.mul_le_mul_right _ hX
   rw [hb]
   simp only [dlt hk,cond_true,ah hk,Option.bind_some,ak hk (by omega:b.2.2.2.2.2.2.length≤9223372036854775807)]
   have e:IntKind.wrap .i64 (((stm (b.2.2.2.2.2.2.take k):Nat):Int) + ((b.2.2.2.2.2.2[k].1.length:Nat):Int))=((stm (b.2.2.2.2.2.2.take (k + 1)):Nat):Int):=by
     rw [w64 (by omega) (by omega),a1]; omega
   rw [e]
   by_cases q:65536 < stm (b.2.2.2.2.2.2.take (k + 1))
   . rw [decide_eq_true (by omega),if_pos q]; rfl
   . rw [decide_eq_false (by omega),if_neg q]; rfl
 . rw [hb]; simp
theorem Ft:fZ b=some (lK b):=by
 unfold fZ lK
 by_cases q:b.2.2.2.2.2.2=[]
 . rw [if_pos q,q]; rfl
 . have q':¬ ((b.2.2.2.2.2.2.length:Nat):Int)=0:=fun hc=>q (List.length_eq_zero_iff.1 (by omega))
   rw [if_neg q,decide_eq_false q',cond_false]
   by_cases h1:65536 < b.2.2.2.2.2.2.length
   . rw [decide_eq_true (by omega),cond_true,if_pos h1]
   . rw [if_neg h1,decide_eq_false (by omega),cond_false,w7 (body:=ie b) hx (by omega) (fun i k=>rfl)]
     cases lkR b.2.2.2.2.2.2 <;> rfl
theorem Dr:gB b=some (or0 (co b) (lB b)):=by
 obtain ⟨u,n,B,L,R,S,X⟩:=b
 unfold gB co lB cV or0
 dsimp only at *
 by_cases q:u < 1∨n < u
 . have:(decide (u < 1)||decide (n < u))=true:=by simpa using q
   rw [this,if_pos q]; rfl
 . have:(decide (u < 1)||decide (n < u))=false:=by simpa using q
   rw [this,if_neg q,cond_false]
   by_cases q2:65536 < n
   . rw [decide_eq_true q2,if_pos q2]; rfl
   . rw [decide_eq_false q2,if_neg q2,cond_false]
     by_cases q3:65536 < B.length
     . rw [decide_eq_true (by omega),if_pos q3]; rfl
     . rw [decide_eq_false (by omega),if_neg q3,cond_false,aS (body:=gl (u,n,B,L,R,S,X)) B (aK u) (fun k=>(.inr (7,1,(k:Int),0):Unit⊕Flt)) (.inl ()) ?_ ?_]
       . cases B.findIdx? (aK u) <;> rfl
       . intro k hk
         unfold gl
         simp only [dlt hk,cond_true,ah hk,Option.bind_some,ak hk (by omega:B.length≤9223372036854775807)]
         show cond (aK u B[k]) _ _=_
         cases aK u B[k] <;> rfl
       . simp [gl]
omit hx in
theorem CP:gz b=some (or0 (lL b) (or0 (bB b) (lS b))):=by
 obtain ⟨u,n,B,L,R,S,X⟩:=b
 unfold gz lL b8 bB lS cL
 dsimp only at *
 by_cases q:L=[]
 . subst q; rfl
 . have q' : ¬ ((L.length : Nat) : Int) = 0 := fun hc => q (List.length_eq_zero_iff.1 (by omega))
   rw [if_neg q,decide_eq_false q',cond_false]
   by_cases g1:65536 < L.length
   . rw [decide_eq_true (by omega),cond_true,if_pos g1]; rfl
   . rw [if_neg g1,if_neg q,decide_eq_false (by omega),cond_false,aS (body:=gf (u,n,B,L,R,S,X)) L (fun t=>!decide (rck n t=0)) (fun k=>(.inr (rck n (L.getD k []),2,(k:Int),0):Unit⊕Flt)) (.inl ()) ?_ ?_]
     . cases hf:L.findIdx? (fun t=>!decide (rck n t=0)) with
       | some k =>
         obtain ⟨hk,h5,_⟩:=List.findIdx?_eq_some_iff_getElem.1 hf
         have e:L.getD k []=L[k]:=by simp [List.getD,hk]
         have:¬ rck n L[k]=0:=by simpa using h5
         simp only [or0,e,if_neg this]; rfl
       | none =>
         have hp:0 < L.length:=List.length_pos_iff.2 q
         have e0:L.getD 0 []=L[0]:=by simp [List.getD,hp]
         have hL0:L[0].length≤16:=by
           have:=List.findIdx?_eq_none_iff.1 hf L[0] (List.getElem_mem hp)
           exact (d9 (by simpa using this)).1
         simp only [Option.bind_some,iE]
         by_cases q2:rck u R=0
         . have g0:aa L 0=some L[0]:=ah (k:=0) hp
           simp only [q2,decide_true,Bool.not_true,cond_false,g0,Option.bind_some,e0]
           rw [kF _ _ (by omega),fh,Option.bind_some]
           cases hs:shp R L[0] with
           | false=>rfl
           | true =>
             simp only [Bool.not_true,cond_false]
             by_cases g2:65536 < S.length
             . rw [decide_eq_true (by omega),if_pos g2]; rfl
             . rw [decide_eq_false (by omega),if_neg g2,cond_false,aS (body:=ge (u,n,B,L,R,S,X)) S (fun s=>!decide (chk s=0)) (fun k=>(.inr (chk (S.getD k (0,[],[],[])),4,(k:Int),0):Unit⊕Flt)) (.inl ()) ?_ ?_]
               . cases S.findIdx? (fun s=>!decide (chk s=0)) <;> rfl
               . intro k hk
                 unfold ge
                 have e:S.getD k (0,[],[],[])=S[k]:=by simp [List.getD,hk]
                 simp only [dlt hk,cond_true,ah hk,Option.bind_some,ak hk (by omega:S.length≤9223372036854775807),e,show eR (S[k].1,S[k].2.1,S[k].2.2.1,S[k].2.2.2)=_ from qB S[k]]
                 cases (!decide (chk S[k]=0)) <;> rfl
               . simp [ge]
         . simp [q2,or0]
     . intro k hk
       unfold gf
       have e:L.getD k []=L[k]:=by simp [List.getD,hk]
       simp only [dlt hk,cond_true,ah hk,Option.bind_some,ak hk (by omega:L.length≤9223372036854775807),e,iE]
       cases (!decide (rck n L[k]=0)) <;> rfl
     . simp [gf]
variable (hL:∀ t∈b.2.2.2.1,t.length≤20) (hR:b.2.2.2.2.1.length≤20) (hS:∀ s∈b.2.2.2.2.2.1,s.2.1.length≤20∧s.2.2.1.length≤20∧s.2.2.2.length≤20∧∀ t∈s.2.2.1,t.length≤20)
include hL hR hS
omit hx hR hS in
theorem zy {x:Stm}:∃ l,eS x b.2.2.2.1 b.2.1=some (l,sE b.2.2.2.1 b.2.1 x)∧bM x b.2.2.2.1 b.2.1=some (l,sE b.2.2.2.1 b.2.1 x):=by
 obtain ⟨l,e,h1,h2,_⟩:=uO x b.2.2.2.1 b.2.1 hL
 have:sE b.2.2.2.1 b.2.1 x=e:=by unfold sE; rw [h2]; rfl
 exact ⟨l,by rw [h1,this],by rw [h2,this]⟩
omit hx in
theorem zp {x:Tm}:∃ l,di x (aE b)=some (l,tE (aE b) x)∧bQ x (aE b)=some (l,tE (aE b) x):=by
 obtain ⟨l,e,h1,h2⟩:=Du x (aE b) hR hL hS
 have:tE (aE b) x=e:=by unfold tE; rw [h2]; rfl
 exact ⟨l,by rw [h1,this],by rw [h2,this]⟩
theorem D0 (hX:b.2.2.2.2.2.2.length≤65536):dS b=some (aM b):=by
 unfold dS aM
 rw [aS (body:=fT b) b.2.2.2.2.2.2 (fun x=>(aG b x).isSome) (fun k=>(.inr (bO k (aG b (b.2.2.2.2.2.2.getD k ([],0,0,0,[],[],[])))):Unit⊕Flt)) (.inl ()) ?_ ?_]
 . cases b.2.2.2.2.2.2.findIdx? (fun x=>(aG b x).isSome) <;> rfl
 . intro k hk
   unfold fT
   have e:b.2.2.2.2.2.2.getD k ([],0,0,0,[],[],[])=b.2.2.2.2.2.2[k]:=by simp [List.getD,hk]
   have hst':=hx _ (List.getElem_mem hk)
   simp only [dlt hk,cond_true,ah hk,Option.bind_some,ak hk (by omega:b.2.2.2.2.2.2.length≤9223372036854775807),e]
   generalize b.2.2.2.2.2.2[k]=x at *
   obtain ⟨l,hT',_⟩:=zp hL hR hS (x:=x.2)
   rw [aS (body:=fR b k x) x.1 (fun s=>!decide (sE b.2.2.2.1 b.2.1 s=0)) (fun j=>(.inr (.inr (.inr (sE b.2.2.2.1 b.2.1 (x.1.getD j (0,0,0,0,false)),6,(k:Int),(j:Int)))):Unit⊕(Int⊕(Unit⊕Flt)))) (.inl ()) ?_ ?_]
   . unfold aG
     cases hf:x.1.findIdx? (fun s=>!decide (sE b.2.2.2.1 b.2.1 s=0)) with
     | some j=>rfl
     | none =>
       simp only [Option.bind_some]
       unfold aR m6
       rw [Option.bind_some,show di (x.2.1,x.2.2.1,x.2.2.2.1,x.2.2.2.2.1,x.2.2.2.2.2.1,x.2.2.2.2.2.2) (((b.2.2.2.2.2.2.length:Nat):Int),b.2.1,b.2.2.2.1,b.2.2.2.2.1,b.2.2.2.2.2.1)=_ from hT',Option.bind_some]
       by_cases q3:tE (aE b) x.2=0
       . simp [q3]
       . simp [q3,bO]
   . intro j hj
     obtain ⟨l,hS',_⟩:=zy (b:=b) hL (x:=x.1[j])
     have e2:x.1.getD j (0,0,0,0,false)=x.1[j]:=by simp [List.getD,hj]
     unfold fR aR m7
     simp only [dlt hj,cond_true,ah hj,Option.bind_some,ak hj (by omega:x.1.length≤9223372036854775807),e2,show eS (x.1[j].1,x.1[j].2.1,x.1[j].2.2.1,x.1[j].2.2.2.1,x.1[j].2.2.2.2) b.2.2.2.1 b.2.1=_ from hS']
     cases (!decide (sE b.2.2.2.1 b.2.1 x.1[j]=0)) <;> rfl
   . simp [fR]
 . simp [fT]
theorem BK:dU b=some (or0 (lK b) (aM b)):=by
 unfold dU lK aM
 by_cases q:b.2.2.2.2.2.2=[]
 . rw [if_pos q,q]; rfl
 . have q' : ¬ ((b.2.2.2.2.2.2.length : Nat) : Int) = 0 := fun hc => q (List.length_eq_zero_iff.1 (by omega))
   rw [if_neg q,decide_eq_false q',cond_false]
   by_cases h1:65536 < b.2.2.2.2.2.2.length
   . rw [decide_eq_true (by omega),cond_true,if_pos h1]; rfl
   . rw [if_neg h1,decide_eq_false (by omega),cond_false,w7 (body:=ij b) hx (by omega) (fun i k=>rfl)]
     cases hk6:lkR b.2.2.2.2.2.2 with
     | inr f =>
       have:=xR hk6
       simp only [Option.bind_some,or0]
       rw [if_neg (by omega)]
     | inl u =>
     rw [Option.bind_some]
     dsimp only
     rw [aS (body:=fU b) b.2.2.2.2.2.2 (fun x=>(aG b x).isSome) (fun k=>(.inr (bO k (aG b (b.2.2.2.2.2.2.getD k ([],0,0,0,[],[],[])))):Unit⊕Flt)) (.inl ()) ?_ ?_]
     . cases b.2.2.2.2.2.2.findIdx? (fun x=>(aG b x).isSome) <;> rfl
     . intro k hk
       unfold fU
       have e:b.2.2.2.2.2.2.getD k ([],0,0,0,[],[],[])=b.2.2.2.2.2.2[k]:=by simp [List.getD,hk]
       have hst':=hx _ (List.getElem_mem hk)
       simp only [dlt hk,cond_true,ah hk,Option.bind_some,ak hk (by omega:b.2.2.2.2.2.2.length≤9223372036854775807),e]
       generalize b.2.2.2.2.2.2[k]=x at *
       obtain ⟨l,_,hT'⟩:=zp hL hR hS (x:=x.2)
       rw [aS (body:=fW b k x) x.1 (fun s=>!decide (sE b.2.2.2.1 b.2.1 s=0)) (fun j=>(.inr (.inr (.inr (sE b.2.2.2.1 b.2.1 (x.1.getD j (0,0,0,0,false)),6,(k:Int),(j:Int)))):Unit⊕(Int⊕(Unit⊕Flt)))) (.inl ()) ?_ ?_]
       . unfold aG
         cases hf:x.1.findIdx? (fun s=>!decide (sE b.2.2.2.1 b.2.1 s=0)) with
         | some j=>rfl
         | none =>
           simp only [Option.bind_some]
           rw [show bQ (x.2.1,x.2.2.1,x.2.2.2.1,x.2.2.2.2.1,x.2.2.2.2.2.1,x.2.2.2.2.2.2) (((b.2.2.2.2.2.2.length:Nat):Int),b.2.1,b.2.2.2.1,b.2.2.2.2.1,b.2.2.2.2.2.1)=_ from hT',Option.bind_some]
           by_cases q3:tE (aE b) x.2=0
           . simp [q3]
           . simp [q3,bO]
       . intro j hj
         obtain ⟨l,_,hS'⟩:=zy (b:=b) hL (x:=x.1[j])
         have e2:x.1.getD j (0,0,0,0,false)=x.1[j]:=by simp [List.getD,hj]
         unfold fW
         simp only [dlt hj,cond_true,ah hj,Option.bind_some,ak hj (by omega:x.1.length≤9223372036854775807),e2,show bM (x.1[j].1,x.1[j].2.1,x.1[j].2.2.1,x.1[j].2.2.2.1,x.1[j].2.2.2.2) b.2.2.2.1 b.2.1=_ from hS']
         cases (!decide (sE b.2.2.2.1 b.2.1 x.1[j]=0)) <;> rfl
       . simp [fW]
     . simp [fU]
end
def lck (b:Bo):Flt:=or0 (co b) (or0 (lB b) (or0 (lL b) (or0 (bB b) (or0 (lS b) (or0 (lK b) (aM b))))))
theorem Da (b:Bo):gm b=some (co b):=by
 unfold gm co
 by_cases q:b.1 < 1∨b.2.1 < b.1
 . have:(decide (b.1 < 1)||decide (b.2.1 < b.1))=true:=by simpa using q
   rw [this,if_pos q]; rfl
 . have:(decide (b.1 < 1)||decide (b.2.1 < b.1))=false:=by simpa using q
   rw [this,if_neg q,cond_false]
   by_cases q2:65536 < b.2.1
   . rw [decide_eq_true q2,if_pos q2]; rfl
   . rw [decide_eq_false q2,if_neg q2]; rfl
theorem xB {b:Bo} (h:(lK b).1=0):b.2.2.2.2.2.2.length≤65536:=by
 unfold lK at h
 by_cases q:b.2.2.2.2.2.2=[]
 . rw [q]; simp
 . rw [if_neg q] at h
   by_cases q2:65536 < b.2.2.2.2.2.2.length
   . rw [if_pos q2] at h; cases h
   . omega
theorem nH {b:Bo} (hx:∀ x∈b.2.2.2.2.2.2,x.1.length≤140737488351232):eO b=some (lck b)∧dV b=some (lck b):=by
 have eb:b=b:=rfl
 have h1:=Da b
 have h2:=BW b
 have h3:=EC b
 have h4:(lL b).1=0→dT b=some (bB b):=fun h=>EK (nX h).1
 have h5:=E0 b
 have h6:=Ft hx
 have h7:(lL b).1=0→(bB b).1=0→(lS b).1=0→(lK b).1=0→dS b=some (aM b):=fun a1 a2 a3 a4=>D0 hx (nX a1).2.2 (qX a2) (sn a3) (xB a4)
 have r1:=Dr hx
 have r2:=CP (b:=b)
 have r3:(lL b).1=0→(bB b).1=0→(lS b).1=0→dU b=some (or0 (lK b) (aM b)):=fun a1 a2 a3=>BK hx (nX a1).2.2 (qX a2) (sn a3)
 have hz6:(aM b).1=0→aM b=(0,0,0,0):=vu
 unfold eO dV aR lck
 simp only [eb,Option.bind_some,h1,h2,h3,h5,h6,r1,r2]
 generalize co b=v1 at *
 generalize lB b=v2 at *
 generalize lL b=v3 at *
 generalize bB b=v4 at *
 generalize lS b=v5 at *
 generalize lK b=v6 at *
 generalize aM b=v7 at *
 generalize dT b=o1 at *
 generalize dS b=o2 at *
 generalize dU b=o3 at *
 unfold or0 at *
 by_cases q1:v1.1=0 <;> by_cases q2:v2.1=0 <;> by_cases q3:v3.1=0 <;> by_cases q4:v4.1=0 <;> by_cases q5:v5.1=0 <;> by_cases q6:v6.1=0 <;> by_cases q7:v7.1=0 <;> simp_all
end
section
theorem BH {b:Bo} (hc:(aM b).1=0):∀ x∈b.2.2.2.2.2.2,tE (aE b) x.2=0:=by
 unfold aM at hc
 cases hq:b.2.2.2.2.2.2.findIdx? (fun x=>(aG b x).isSome) with
 | none =>
   intro x hx
   have:=List.findIdx?_eq_none_iff.1 hq x hx
   unfold aG at this
   split at this
   . simp at this
   . by_cases q:tE (aE b) x.2=0
     . exact q
     . rw [if_neg q] at this; simp at this
 | some k =>
   exfalso
   rw [hq] at hc
   obtain ⟨hk,hcc,_⟩:=List.findIdx?_eq_some_iff_getElem.1 hq
   have e:b.2.2.2.2.2.2.getD k ([],0,0,0,[],[],[])=b.2.2.2.2.2.2[k]:=by simp [List.getD,hk]
   simp only [e] at hc
   unfold aG at hcc hc
   split at hcc
   . rename_i j hj
     rw [hj] at hc
     obtain ⟨hj1,hj2,_⟩:=List.findIdx?_eq_some_iff_getElem.1 hj
     have e2:b.2.2.2.2.2.2[k].1.getD j (0,0,0,0,false)=b.2.2.2.2.2.2[k].1[j]:=by simp [List.getD,hj1]
     simp only [e2,bO] at hc
     simp [hc] at hj2
   . rename_i hj
     rw [hj] at hc
     by_cases q:tE (aE b) b.2.2.2.2.2.2[k].2=0
     . rw [if_pos q] at hcc; simp at hcc
     . rw [if_neg q] at hc; simp only [bO] at hc; exact q hc
theorem EQ {a:Ar} {x:Tm} (h:tE a x=0):bf x=0:=by
 by_cases q:bf x=0
 . exact q
 . exfalso
   unfold tE bQ at h
   rw [show dh (x.1,x.2.1,x.2.2.1,x.2.2.2.1,x.2.2.2.2.1,x.2.2.2.2.2)=_ from iD x] at h
   simp only [Option.bind_some,decide_eq_false q,Bool.not_false,cond_true] at h
   exact q h
theorem E4 {b:Bo} (h:(lK b).1=0):stm b.2.2.2.2.2.2≤65536:=by
 unfold lK at h
 by_cases q:b.2.2.2.2.2.2=[]
 . rw [q]; simp [stm]
 . rw [if_neg q] at h
   by_cases q2:65536 < b.2.2.2.2.2.2.length
   . rw [if_pos q2] at h; cases h
   . rw [if_neg q2] at h
     cases hl:lkR b.2.2.2.2.2.2 with
     | inr f=>rw [hl] at h; rw [xR hl] at h; cases h
     | inl u =>
       unfold lkR at hl
       cases hf:(List.range b.2.2.2.2.2.2.length).findSome? (fun k=>if 65536 < stm (b.2.2.2.2.2.2.take (k + 1)) then some (.inr (6,5,(k:Int),0):Unit⊕Flt) else none) with
       | some v =>
         exfalso
         rw [hf] at hl
         simp only [Option.getD_some] at hl
         subst hl
         obtain ⟨l1,k,l2,_,hk,_⟩:=List.findSome?_eq_some_iff.1 hf
         split at hk <;> cases hk
       | none =>
         have hp:0 < b.2.2.2.2.2.2.length:=List.length_pos_iff.2 q
         have:=List.findSome?_eq_none_iff.1 hf (b.2.2.2.2.2.2.length - 1) (List.mem_range.2 (by omega))
         rw [show b.2.2.2.2.2.2.length - 1 + 1=b.2.2.2.2.2.2.length by omega,List.take_length] at this
         by_cases q3:65536 < stm b.2.2.2.2.2.2
         . rw [if_pos q3] at this; cases this
         . omega
theorem F5 {b:Bo} (h:(lck b).1=0):Sm b:=by
 unfold lck at h
 obtain ⟨_,h⟩:=b6 h
 obtain ⟨h2,h⟩:=b6 h
 obtain ⟨h3,h⟩:=b6 h
 obtain ⟨h4,h⟩:=b6 h
 obtain ⟨h5,h⟩:=b6 h
 obtain ⟨h6,h7⟩:=b6 h
 obtain ⟨_,l2,l3⟩:=nX h3
 have hs:=sn h5
 refine ⟨?_,l2,l3,qX h4,?_,hs,xB h6,fun x hx=>?_,E4 h6⟩
 . unfold lB at h2
   by_cases q:65536 < b.2.2.1.length
   . rw [if_pos q] at h2; cases h2
   . omega
 . unfold lS at h5
   by_cases q:65536 < b.2.2.2.2.2.1.length
   . rw [if_pos q] at h5; cases h5
   . omega
 . obtain ⟨_,a,b,c⟩:=qO (EQ (BH h7 x hx))
   exact ⟨by omega,by omega,by omega⟩
section
variable {b:Bo} (hx:∀ x∈b.2.2.2.2.2.2,x.1.length≤140737488351232)
include hx
theorem Fg (h:Sm b):lck b=vck b:=by
 have h1:=(nH hx).1
 rw [uL h] at h1
 exact (Option.some.inj h1).symm
theorem Ba (h:(lck b).1≠0):dm b=some (some ([],0)):=by
 unfold dm ni
 rw [show eO b=_ from (nH hx).1]
 simp only [Option.bind_some,decide_eq_false h]; rfl
theorem BC (h:(lck b).1≠0):cx b=some []:=by
 unfold cx eW
 rw [show dV b=_ from (nH hx).2]
 simp only [Option.bind_some,decide_eq_false h]; rfl
theorem CV:eW b=some (decide ((lck b).1=0)):=by
 unfold eW
 rw [show dV b=_ from (nH hx).2]; rfl
end
end
def pT (x:Blk) (k:Nat):Tc:=match x.1[k]? with | some s=>sT s | none=>tT x.2
theorem sM {X:List Blk} {j k:Nat} (hj:j < X.length) (hk:k≤X[j].1.length):(pts X)[bg X j + k]? = some (cpT (pT X[j] k)):=by
 rw [wB X _ (Nat.le_refl _) j k hj hj hk]
 unfold pT
 by_cases q:k < X[j].1.length
 . rw [C5 q,List.getElem?_eq_getElem q]
 . have:k=X[j].1.length:=by omega
   subst this
   rw [Ee,List.getElem?_eq_none (Nat.le_refl _)]
theorem Dw {x:Tm} (h:bf x=0) (h3:¬ x.1=3) (a:Int):a∈x.2.2.2.2.1↔a∈(tT x).1:=by
 have hr:=(qO h).1
 unfold ls at hr
 unfold tT
 by_cases c1:x.1=1
 . rw [if_pos c1] at hr
   have:x.2.2.2.2.1=[]:=by simp at hr; exact hr.1.2
   simp [c1,this]
 . rw [if_neg c1] at hr
   by_cases c2:x.1=2
   . simp [c2]
   . rw [if_neg c2,if_neg h3] at hr
     by_cases c4:x.1=4
     . simp [c4]
     . rw [if_neg c4] at hr; cases hr
theorem MF (s:Stm) (l:Int):decide (l∈(sT s).1)=(aZ s.1&&decide (s.2.2.1=l)):=by
 unfold sT; dsimp only
 by_cases c:aZ s.1=true
 . rw [if_pos c,c]; simp [eq_comm]
 . rw [if_neg c]; rw [Bool.not_eq_true] at c; rw [c]; simp
theorem MP (s:Stm) (l:Int):decide (l∈(sT s).2)=(aY s.1&&decide (s.2.1=l)):=by
 unfold sT; dsimp only
 by_cases c:aY s.1=true
 . rw [if_pos c,c]; simp [eq_comm]
 . rw [if_neg c]; rw [Bool.not_eq_true] at c; rw [c]; simp
theorem DZ {b:Bo} {j k:Nat} (hj:j < b.2.2.2.2.2.2.length) (hk:k≤b.2.2.2.2.2.2[j].1.length) (hf:bf b.2.2.2.2.2.2[j].2=0) (ha:b.2.2.2.2.2.2[j].2.2.2.2.2.1.length≤20) (l:Int) :
   iv b ((j:Int),(k:Int),decide (k=b.2.2.2.2.2.2[j].1.length)) l=some (decide (l∈(pT b.2.2.2.2.2.2[j] k).1)):=by
 unfold iv pT
 rw [ah hj]
 simp only [Option.bind_some]
 by_cases q:k < b.2.2.2.2.2.2[j].1.length
 . rw [decide_eq_false (show ¬ k=b.2.2.2.2.2.2[j].1.length by omega),Bool.not_false,cond_true,ah q,Option.bind_some,List.getElem?_eq_getElem q]
   dsimp only
   rw [MF]; rfl
 . have e:k=b.2.2.2.2.2.2[j].1.length:=by omega
   rw [decide_eq_true e,Bool.not_true,cond_false,List.getElem?_eq_none (by omega)]
   dsimp only
   by_cases c3:b.2.2.2.2.2.2[j].2.1=3
   . rw [decide_eq_true c3,cond_true]
     simp [tT,c3]
   . rw [decide_eq_false c3,cond_false]
     rw [dp (body:=mE l b.2.2.2.2.2.2[j]) b.2.2.2.2.2.2[j].2.2.2.2.2.1 (fun a=>decide (a=l)) (.inr true) (.inl ()) ?_ ?_]
     . have hm:=Dw hf c3 l
       by_cases c:l∈b.2.2.2.2.2.2[j].2.2.2.2.2.1
       . have h1:(b.2.2.2.2.2.2[j].2.2.2.2.2.1.any fun a=>decide (a=l))=true:=by
           rw [List.any_eq_true]; exact ⟨l,c,by simp⟩
         rw [h1,if_pos rfl,decide_eq_true (hm.1 c)]; rfl
       . have h1:(b.2.2.2.2.2.2[j].2.2.2.2.2.1.any fun a=>decide (a=l))=false:=by
           rw [List.any_eq_false]; intro a h2 h3; simp at h3; subst h3; exact c h2
         rw [h1,if_neg (by simp),decide_eq_false (fun h=>c (hm.2 h))]; rfl
     . intro i hi
       unfold mE
       simp only [dlt hi,cond_true,ah hi,Option.bind_some,ak hi (by omega:b.2.2.2.2.2.2[j].2.2.2.2.2.1.length≤9223372036854775807)]
       by_cases c:b.2.2.2.2.2.2[j].2.2.2.2.2.1[i]=l <;> simp [c]
     . unfold mE
       simp
theorem CG {b:Bo} {j k:Nat} (hj:j < b.2.2.2.2.2.2.length) (hk:k≤b.2.2.2.2.2.2[j].1.length) (l:Int) :
   iq b ((j:Int),(k:Int),decide (k=b.2.2.2.2.2.2[j].1.length)) l=some (decide (l∈(pT b.2.2.2.2.2.2[j] k).2)):=by
 unfold iq pT
 rw [ah hj]
 simp only [Option.bind_some]
 by_cases q:k < b.2.2.2.2.2.2[j].1.length
 . rw [decide_eq_false (show ¬ k=b.2.2.2.2.2.2[j].1.length by omega),Bool.not_false,cond_true,ah q,Option.bind_some,List.getElem?_eq_getElem q]
   dsimp only
   rw [MP]; rfl
 . have e:k=b.2.2.2.2.2.2[j].1.length:=by omega
   rw [decide_eq_true e,Bool.not_true,cond_false,List.getElem?_eq_none (by omega)]
   simp only [tT]
   by_cases c4:b.2.2.2.2.2.2[j].2.1=4
   . have:¬ b.2.2.2.2.2.2[j].2.1=2:=by omega
     simp [c4,eq_comm]
   . by_cases c2:b.2.2.2.2.2.2[j].2.1=2
     . simp [c2]
     . by_cases c3:b.2.2.2.2.2.2[j].2.1=3 <;> simp [c4,c2,c3]
section
def aJ (X:List Blk):List (Nat×Tm):=X.map (fun x=>(x.1.length,x.2))
theorem kQ {X Y:List Blk} (h:aJ X=aJ Y):X.length=Y.length:=by
 have:=congrArg List.length h
 simpa [aJ] using this
theorem rY {X Y:List Blk} (h:aJ X=aJ Y) {j:Nat} (hj:j < X.length) (hj':j < Y.length):X[j].1.length=Y[j].1.length∧X[j].2=Y[j].2:=by
 have e:(aJ X)[j]? = (aJ Y)[j]?:=by rw [h]
 unfold aJ at e
 rw [List.getElem?_map,List.getElem?_map,List.getElem?_eq_getElem hj,List.getElem?_eq_getElem hj'] at e
 simpa using e
theorem kY {X Y:List Blk} (h:aJ X=aJ Y) (k:Nat):bg X k=bg Y k:=by
 have e:∀ X:List Blk,bg X k=(((aJ X).take k).map (·.1)).sum + k:=fun X=>by
   unfold bg stm aJ
   rw [← List.map_take,List.map_map]; rfl
 rw [e,e,h]
theorem E7 {X Y:List Blk} (h:aJ X=aJ Y) {j k:Nat} (hj:j < X.length):gs X j k=gs Y j k:=by
 have hj':j < Y.length:=by rw [← kQ h]; exact hj
 obtain ⟨e1,e2⟩:=rY h hj hj'
 funext m
 unfold gs
 rw [ce hj,ce hj',e1,e2]
 simp only [kY h]
theorem DN {X Y:List Blk} (h:aJ X=aJ Y) {n:Nat} (hn:n < bg X X.length):nxp X n=nxp Y n:=by
 obtain ⟨j,k,hj,hk,rfl,_⟩:=gP X X.length (Nat.le_refl _) n hn
 have hj':j < Y.length:=by rw [← kQ h]; exact hj
 obtain ⟨e1,e2⟩:=rY h hj hj'
 rw [sO hj hk,kY h j,sO hj' (by omega),E7 h hj,kY h,kQ h]
theorem vK {X Y:List Blk} (h:aJ X=aJ Y):∀ n,n≤bg X X.length→bd X n=bd Y n
 | 0,_=>rfl
 | n + 1,hn=>by
   unfold bd
   rw [vK h n (by omega),DN h (by omega)]
theorem rz {X Y:List Blk} (h:aJ X=aJ Y):bg X X.length=bg Y Y.length:=by rw [kY h,kQ h]
theorem Cq {X Y:List Blk} (h:aJ X=aJ Y):az X=az Y:=by
 show bd X _=bd Y _
 rw [← rz h]; exact vK h _ (Nat.le_refl _)
structure Sub (X Y:List Blk):Prop where
 sk:aJ X=aJ Y
 rd:∀ j (hj:j < X.length) (hj':j < Y.length) k (hk:k < X[j].1.length) (hk':k < Y[j].1.length),(∀ x∈(sT X[j].1[k]).1,x∈(sT Y[j].1[k]).1)∧∀ x∈(sT Y[j].1[k]).2,x∈(sT X[j].1[k]).2
theorem Sub.pnt {X Y:List Blk} (h:Sub X Y) {n:Nat} (hn:n < bg X X.length):∃ s t,(pts X)[n]? = some s∧(pts Y)[n]? = some t∧(∀ x∈s.1,x∈t.1)∧∀ x∈t.2,x∈s.2:=by
 obtain ⟨j,k,hj,hk,rfl,_⟩:=gP X X.length (Nat.le_refl _) n hn
 have hj':j < Y.length:=by rw [← kQ h.sk]; exact hj
 obtain ⟨e1,e2⟩:=rY h.sk hj hj'
 have p2:=sM hj' (show k≤Y[j].1.length by omega)
 rw [← kY h.sk j] at p2
 refine ⟨_,_,sM hj hk,p2,?_⟩
 unfold pT cpT
 by_cases q:k < X[j].1.length
 . have q':k < Y[j].1.length:=by omega
   rw [List.getElem?_eq_getElem q,List.getElem?_eq_getElem q']
   obtain ⟨a,b⟩:=h.rd j hj hj' k q q'
   exact ⟨fun x hx=>(lf _ x).2 (a x ((lf _ x).1 hx)),b⟩
 . rw [List.getElem?_eq_none (by omega),List.getElem?_eq_none (by omega),e2]
   exact ⟨fun x hx=>hx,fun x hx=>hx⟩
def LvX (X:List Blk) (l:Nat):Nat→Prop:=Lv (az X) (bg X X.length) (fb (rN (pts X) l)) (fb (wN (pts X) l))
theorem Sub.lv {X Y:List Blk} (h:Sub X Y) {l n:Nat} (k:LvX X l n):LvX Y l n:=by
 have hb:=rz h.sk
 have hpl:=k7 X
 have hpl':=k7 Y
 unfold LvX at k ⊢
 induction k with
 | @rd n hn hr =>
   refine .rd (by omega) ?_
   obtain ⟨s,t,h1,h2,h3,_⟩:=h.pnt hn
   obtain ⟨i1,rfl⟩:=List.getElem?_eq_some_iff.1 h1
   obtain ⟨i2,rfl⟩:=List.getElem?_eq_some_iff.1 h2
   have hm:n∈rN (pts X) l:=by simpa using hr
   exact decide_eq_true ((sV i2).2 (h3 _ ((sV i1).1 hm)))
 | @st u v he _ hw ih =>
   have hu:u < bg X X.length:=(ov X _ (Nat.le_refl _) _ he).1
   refine .st (by rw [← Cq h.sk]; exact he) ih ?_
   obtain ⟨s,t,h1,h2,_,h4⟩:=h.pnt hu
   obtain ⟨i1,rfl⟩:=List.getElem?_eq_some_iff.1 h1
   obtain ⟨i2,rfl⟩:=List.getElem?_eq_some_iff.1 h2
   have hm:u∉wN (pts X) l:=by simpa using hw
   exact decide_eq_false fun hc=>hm ((sH i1).2 (h4 _ ((sH i2).1 hc)))
def swS (X:List Blk) (i a:Nat) (s:Stm):List Blk:=X.set i ((X.getD i fC).1.set a s,(X.getD i fC).2)
section
variable {X:List Blk} {i a:Nat} {s:Stm}
theorem n6:(swS X i a s).length=X.length:=by simp [swS]
theorem su {j:Nat} (hj:j < X.length) (hj':j < (swS X i a s).length):(swS X i a s)[j]=if i=j then (X[j].1.set a s,X[j].2) else X[j]:=by
 simp only [swS,List.getElem_set]
 by_cases q:i=j
 . subst q; rw [if_pos rfl,if_pos rfl,ce hj]
 . rw [if_neg q,if_neg q]
theorem wG:aJ X=aJ (swS X i a s):=by
 apply List.ext_getElem (by simp [aJ,swS])
 intro j h1 h2
 have hj:j < X.length:=by simpa [aJ] using h1
 have hj':j < (swS X i a s).length:=by rw [n6]; exact hj
 simp only [aJ,List.getElem_map]
 rw [su hj hj']
 by_cases q:i=j
 . rw [if_pos q]; simp
 . rw [if_neg q]
theorem C6 (hi:i < X.length) (ha:a < X[i].1.length) (hr:∀ x∈(sT s).1,x∈(sT X[i].1[a]).1) (hw:∀ x∈(sT X[i].1[a]).2,x∈(sT s).2):Sub (swS X i a s) X where
 sk:=wG.symm
 rd:=fun j hj' hj k hk' hk=>by
   simp only [su hj hj'] at hk' ⊢
   by_cases q:i=j
   . subst q
     simp only [if_true,List.getElem_set]
     by_cases q2:a=k
     . subst q2; simp only [if_true]; exact ⟨hr,hw⟩
     . simp only [if_neg q2]; exact ⟨fun x hx=>hx,fun x hx=>hx⟩
   . simp only [if_neg q]; exact ⟨fun x hx=>hx,fun x hx=>hx⟩
theorem xC {x:Blk} (h:x∈swS X i a s):x∈X∨∃ (hi:i < X.length),x=(X[i].1.set a s,X[i].2):=by
 obtain ⟨j,hj',rfl⟩:=List.getElem_of_mem h
 have hj:j < X.length:=by rw [n6] at hj'; exact hj'
 rw [su hj hj']
 by_cases q:i=j
 . subst q; right; exact ⟨hj,by rw [if_pos rfl]⟩
 . left; rw [if_neg q]; exact List.getElem_mem hj
end
def swB (b:Bo) (i a:Nat) (s:Stm):Bo:=(b.1,b.2.1,b.2.2.1,b.2.2.2.1,b.2.2.2.2.1,b.2.2.2.2.2.1,swS b.2.2.2.2.2.2 i a s)
theorem yd {a b:Flt}:(or0 a b).1=0↔a.1=0∧b.1=0:=by
 unfold or0
 by_cases q:a.1=0
 . simp [q]
 . simp [q]
theorem xr {b:Bo}:(vck b).1=0↔((co b).1=0∧(cV b).1=0∧(b8 b).1=0∧(bB b).1=0∧(cL b).1=0∧(dI b).1=0)∧∀ x∈b.2.2.2.2.2.2,(∀ s∈x.1,sE b.2.2.2.1 b.2.1 s=0)∧tE (aE b) x.2=0:=by
 constructor
 . intro h
   refine ⟨?_,xy h⟩
   unfold vck at h
   simp only [yd] at h
   exact ⟨h.1,h.2.1,h.2.2.1,h.2.2.2.1,h.2.2.2.2.1,h.2.2.2.2.2.1⟩
 . rintro ⟨⟨h1,h2,h3,h4,h5,h6⟩,h7⟩
   unfold vck
   simp only [yd]
   refine ⟨h1,h2,h3,h4,h5,h6,?_⟩
   unfold aM
   have:b.2.2.2.2.2.2.findIdx? (fun x=>(aG b x).isSome)=none:=List.findIdx?_eq_none_iff.2 fun x hx=>by
     obtain ⟨g1,g2⟩:=h7 x hx
     unfold aG
     rw [List.findIdx?_eq_none_iff.2 (fun s hs=>by rw [g1 s hs]; rfl)]
     simp [g2]
   rw [this]
theorem G8 {b:Bo} {i a:Nat} {s:Stm} (hs:sE b.2.2.2.1 b.2.1 s=0) (h:(vck b).1=0):(vck (swB b i a s)).1=0:=by
 obtain ⟨⟨h1,h2,h3,h4,h5,h6⟩,h7⟩:=xr.1 h
 have hlen:(swS b.2.2.2.2.2.2 i a s).length=b.2.2.2.2.2.2.length:=n6
 have hne:b.2.2.2.2.2.2≠[]:=fun e=>by unfold dI at h6; rw [if_pos e] at h6; simp at h6
 refine xr.2 ⟨⟨h1,h2,h3,h4,h5,?_⟩,fun x hx=>?_⟩
 . have:swS b.2.2.2.2.2.2 i a s≠[]:=fun e=>hne (List.length_eq_zero_iff.1 (by rw [← hlen,e]; rfl))
   unfold dI
   rw [if_neg (show ¬ (swB b i a s).2.2.2.2.2.2=[] from this)]
 . have har:aE (swB b i a s)=aE b:=by unfold aE swB; dsimp only; rw [hlen]
   rw [har]
   rcases xC (show x∈swS b.2.2.2.2.2.2 i a s from hx) with hx | ⟨hi,rfl⟩
   . exact h7 x hx
   . obtain ⟨g1,g2⟩:=h7 _ (List.getElem_mem hi)
     refine ⟨fun t ht=>?_,g2⟩
     rcases List.mem_or_eq_of_mem_set ht with ht | rfl
     . exact g1 t ht
     . exact hs
theorem Sm.sw {b:Bo} (h:Sm b) (i a:Nat) (s:Stm):Sm (swB b i a s) where
 bounds:=h.bounds
 locals:=h.locals
 loc:=h.loc
 ret:=h.ret
 sigs:=h.sigs
 sig:=h.sig
 blocks:=by show (swS b.2.2.2.2.2.2 i a s).length≤65536; rw [n6]; exact h.blocks
 term:=fun x hx=>by
   rcases xC (show x∈swS b.2.2.2.2.2.2 i a s from hx) with hx | ⟨hi,rfl⟩
   . exact h.term x hx
   . have:=h.term _ (List.getElem_mem hi); exact this
 many:=by
   have e:stm (swS b.2.2.2.2.2.2 i a s)=stm b.2.2.2.2.2.2:=by
     have e:∀ X:List Blk,stm X=((aJ X).map (·.1)).sum:=fun X=>by
       unfold stm aJ
       rw [List.map_map]; rfl
     rw [e,e,← wG]
   show stm (swS b.2.2.2.2.2.2 i a s)≤65536
   rw [e]; exact h.many
end
theorem FM {b:Bo} (h:Few b):NB b≤32:=by
 show bg (xs b) (xs b).length≤32
 unfold xs
 split
 . have:=h.many
   have:=h.blocks
   unfold bg; rw [List.take_length]; omega
 . simp [bg,stm]
theorem FP {b:Bo} (h:Sm b) (l:Nat):kh b (l:Int)=some (vec (NB b) (lvB b l)):=by
 have hb:NB b≤131072:=(kT h (Nat.le_refl _)).1
 have hP:(pts (xs b)).length=NB b:=k7 _
 have hE:=sd b
 have hEl:(az (xs b)).length≤2621440:=kI (lm h) (Nat.le_refl _)
 have hv:=zj h
 have hal:=nQ (xs b)
 -- tA and bI at a point
 have key:∀ n,n < NB b→∃ p,aa (aV (xs b)) (n:Int)=some p∧iv b p (l:Int)=some (fb (rN (pts (xs b)) l) n)∧iq b p (l:Int)=some (fb (wN (pts (xs b)) l) n):=fun n hn=>by
   obtain ⟨j,k,hj,hk,rfl,_⟩:=gP (xs b) (xs b).length (Nat.le_refl _) n hn
   have hpt:=sM hj hk
   have hg:=kP (xs b) hj hk
   have ex:=(lE hj).2
   have hm:(xs b)[j]∈xs b:=List.getElem_mem hj
   have f1:=hv.fm _ hm
   have f2:=hv.ar _ hm
   have hj2:j < b.2.2.2.2.2.2.length:=by rw [← ex]; exact hj
   have hx:(xs b)[j]=b.2.2.2.2.2.2[j]:=by simp only [ex]
   rw [hx] at hk hg hpt f1 f2
   have hnp:bg (xs b) j + k < (pts (xs b)).length:=by rw [hP]; exact hn
   have hPe:(pts (xs b))[bg (xs b) j + k]=cpT (pT b.2.2.2.2.2.2[j] k):=by
     rw [List.getElem?_eq_getElem hnp] at hpt
     exact Option.some.inj hpt
   refine ⟨((j:Int),(k:Int),decide (k=b.2.2.2.2.2.2[j].1.length)),?_,?_,?_⟩
   . rw [ah (by rw [hal]; exact hn)]
     rw [List.getElem?_eq_getElem (by rw [hal]; exact hn)] at hg
     exact hg
   . rw [DZ hj2 hk f1 f2]
     congr 1
     rw [decide_eq_decide,sV hnp,hPe]
     exact (lf _ _).symm
   . rw [CG hj2 hk]
     congr 1
     rw [decide_eq_decide,sH hnp,hPe]; rfl
 generalize hR:fb (rN (pts (xs b)) l)=R at key
 generalize hW:fb (wN (pts (xs b)) l)=W at key
 have hLv:∀ n,LvS b l n↔Lv (az (xs b)) (NB b) R W n:=fun n=>by unfold LvS; rw [hR,hW]
 unfold kh
 rw [show cx b=_ from ri h,Option.bind_some,show ky b=_ from Bb h,Option.bind_some]
 have hl1:=aF (body:=jX b (l:Int) (aV (xs b))) (fun n:Nat=>((vec n R),(n:Int))) (NB b) (b:=vec (NB b) R) (fun n hn=>by
     obtain ⟨p,g1,g2,_⟩:=key n hn
     have hvl:=yi n R
     have hvs:vec (n + 1) R=vec n R++[if R n=true then 1 else 0]:=by unfold vec; rw [List.range_succ,List.map_append]; rfl
     unfold jX
     dsimp only
     rw [show decide ((n:Int) < (((aV (xs b)).length:Nat):Int))=true from decide_eq_true (by rw [hal]; exact_mod_cast hn),cond_true,g1,Option.bind_some,show iv b (p.1,p.2.1,p.2.2) (l:Int)=_ from g2,Option.bind_some,hvs]
     cases R n with
     | true=>rw [cond_true,aI (by simp; omega)]; simp only [Option.bind_some,ak hn (by omega)]; rfl
     | false=>rw [cond_false,aI (by simp; omega)]; simp only [Option.bind_some,ak hn (by omega)]; rfl) (by
     unfold jX
     dsimp only
     rw [show decide (((NB b:Nat):Int) < (((aV (xs b)).length:Nat):Int))=false from decide_eq_false (by rw [hal]; exact Int.lt_irrefl _),cond_false])
 rw [show loop (jX b (l:Int) (aV (xs b))) ([],0)=_ from hl1,Option.bind_some]
 -- one round over the az
 have hl2:∀ (V:Nat→Bool) (m:Bool),loop (jZ b (l:Int) (aV (xs b)) (ai (az (xs b)))) (vec (NB b) V,m,0)=some (vec (NB b) ((az (xs b)).foldl (stA W) (V,m)).1,((az (xs b)).foldl (stA W) (V,m)).2):=fun V m=>by
   have hh := aF (body := jZ b (l : Int) (aV (xs b)) (ai (az (xs b)))) (fun i : Nat => (vec (NB b) (((az (xs b)).take i).foldl (stA W) (V, m)).1, (((az (xs b)).take i).foldl (stA W) (V, m)).2, (i : Int))) (az (xs b)).length (b := (vec (NB b) ((az (xs b)).foldl (stA W) (V, m)).1, ((az (xs b)).foldl (stA W) (V, m)).2)) (fun i hi => by
       obtain ⟨h1,h2⟩:=hE _ (List.getElem_mem hi)
       obtain ⟨p,g1,_,g3⟩:=key _ h1
       have eF:((az (xs b)).take (i + 1)).foldl (stA W) (V,m)=stA W (((az (xs b)).take i).foldl (stA W) (V,m)) (az (xs b))[i]:=by rw [bF hi,List.foldl_append]; rfl
       rw [eF]
       generalize ((az (xs b)).take i).foldl (stA W) (V,m)=F
       unfold jZ
       dsimp only
       rw [show decide ((i:Int) < (((ai (az (xs b))).length:Nat):Int))=true from decide_eq_true (by rw [cY]; exact_mod_cast hi),cond_true,xx hi,Option.bind_some]
       dsimp only
       rw [xU h1,Option.bind_some,ak hi (by omega)]
       cases c1:F.1 (az (xs b))[i].1 with
       | true =>
         have e:stA W F (az (xs b))[i]=F:=if_neg (fun h=>by rw [c1] at h; cases h.1)
         rw [e]
         simp
       | false =>
         rw [if_neg (by simp),decide_eq_true rfl,cond_true,Option.bind_some,xU h2]
         simp only [Option.bind_some]
         cases c2:F.1 (az (xs b))[i].2 with
         | false =>
           have e:stA W F (az (xs b))[i]=F:=if_neg (fun h=>by rw [c2] at h; cases h.2.1)
           rw [e]
           simp
         | true =>
           rw [if_pos rfl,decide_eq_true rfl,cond_true,g1,Option.bind_some,show iq b (p.1,p.2.1,p.2.2) (l:Int)=_ from g3]
           cases c3:W (az (xs b))[i].1 with
           | true =>
             have e:stA W F (az (xs b))[i]=F:=if_neg (fun h=>by rw [c3] at h; cases h.2.2)
             rw [e]
             simp
           | false =>
             have e:stA W F (az (xs b))[i]=(bj F.1 (az (xs b))[i].1,true):=if_pos ⟨c1,c2,c3⟩
             rw [e]
             simp [EA h1]) (by
       unfold jZ
       dsimp only
       rw [show decide ((((az (xs b)).length:Nat):Int) < (((ai (az (xs b))).length:Nat):Int))=false from decide_eq_false (by rw [cY]; exact Int.lt_irrefl _),cond_false,List.take_length])
   exact hh
 -- round by round
 obtain ⟨r,h1,h2⟩:=d8 (body:=qf b (l:Int) (aV (xs b)) (ai (az (xs b)))) (fun s=>∃ V:Nat→Bool,s.1=vec (NB b) V∧(∀ n,V n=true→Lv (az (xs b)) (NB b) R W n)∧(∀ n,n < NB b→R n=true→V n=true)∧(s.2=false→∀ a∈az (xs b),¬ (V a.1=false∧V a.2=true∧W a.1=false)))
   (fun s=>2 * (s.1.filter (fun x=>decide (x=0))).length + if s.2=true then 1 else 0) (Q:=fun r=>∃ V:Nat→Bool,r=vec (NB b) V∧∀ n,V n=true↔Lv (az (xs b)) (NB b) R W n) (fun s hs=>by
   obtain ⟨v,m⟩:=s
   obtain ⟨V,rfl,i1,i2,i3⟩:=hs
   dsimp only at i3 ⊢
   have hcz:∀ V:Nat→Bool,((vec (NB b) V).filter (fun x=>decide (x=0))).length=cz (NB b) V:=fun V=>by
     unfold vec cz
     rw [List.filter_map,List.length_map]
     congr 2
     funext n
     show decide ((if V n=true then (1:Int) else 0)=0) = !V n
     cases V n <;> rfl
   cases m with
   | true =>
     obtain ⟨j1,j2,j3,j4,j5⟩:=rP (R:=R) (W:=W) hE (az (xs b)) V false (fun a ha=>ha)
     refine .inl ⟨(vec (NB b) ((az (xs b)).foldl (stA W) (V,false)).1,((az (xs b)).foldl (stA W) (V,false)).2),?_,⟨_,rfl,j2 i1,fun n hn hr=>j1 n (i2 n hn hr),fun hm=>?_⟩,?_⟩
     . unfold qf
       simp only [cond_true,hl2,Option.bind_some]
     . obtain ⟨_,e,f⟩:=j3 hm
       rw [e]; exact f
     . dsimp only
       rw [hcz,hcz]
       cases hm:((az (xs b)).foldl (stA W) (V,false)).2 with
       | true =>
         rcases j5 hm with h | h
         . cases h
         . simp; omega
       | false=>simp; omega
   | false =>
     refine .inr ⟨vec (NB b) V,rfl,V,rfl,fun n=>⟨i1 n,fun h=>Lv.least i2 (i3 rfl) h⟩⟩) (s:=(vec (NB b) (fun n=>decide (n < NB b)&&R n),true)) ⟨_,rfl,fun n hn=>by
     rw [Bool.and_eq_true,decide_eq_true_eq] at hn
     exact .rd hn.1 hn.2,fun n hn hr=>by rw [decide_eq_true hn,hr]; rfl,fun h=>by cases h⟩
 have e0:vec (NB b) R=vec (NB b) (fun n=>decide (n < NB b)&&R n):=by
   unfold vec
   exact eC fun n hn=>by
     have e:(decide (n < NB b)&&R n)=R n:=by rw [decide_eq_true hn,Bool.true_and]
     simp only [e]
 rw [e0,h1]
 obtain ⟨V,rfl,hV⟩:=h2
 rw [Option.bind_some]
 congr 1
 unfold vec
 refine eC fun n _=>?_
 have:V n=lvB b l n:=by rw [Bool.eq_iff_iff,hV,dx,hLv]
 rw [this]
end
end Go.Proofs.YtfldcmoebihobaaGreatDoor

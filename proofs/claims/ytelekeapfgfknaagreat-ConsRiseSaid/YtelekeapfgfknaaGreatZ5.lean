/- 'easement/easementlaw27.ConsRise' returns true for every input, and each argument tM afterwards as it read before: the row's frame round the walk. -/
import Derived.Test.YtelekeapfgfknaaGreatZ4
import Derived.Lib.SplitLaws
import Derived.Lib.IndexMore
import Derived.Lib.Join
namespace Go.Proofs.YtelekeapfgfknaaGreat
noncomputable section
set_option linter.unusedVariables false
set_option linter.unnecessarySimpa false
set_option linter.unusedSimpArgs false
open Go.RowKit
abbrev Sg:=Int×List (Int×Int)×List (List St)×List St
def aB (n:Int) (b:Int×Int):Bool:=(((decide (b.1 < 0))||(decide (n≤b.1)))||(decide (b.2 < 0)))||(decide (n≤b.2))
def lc (n:Int) (A:List (List St)):Unit⊕Int:=match A.findIdx? (fun t=>!decide (rck n t=0)) with | some k => .inr (rck n (A.getD k [])) | none => .inl ()
def chk (s:Sg):Int :=
 if s.1 < 0 then 7 else if 16 < s.1∨16 < s.2.1.length∨16 < s.2.2.1.length then 6 else if s.2.1.any (aB s.1) then 7
 else match lc s.1 s.2.2.1 with | .inr e=>e | .inl ()=>rck s.1 s.2.2.2
theorem nP (a:Int) (b c:Nat):(((decide (16 < a))||(decide (16 < ((b:Nat):Int))))||(decide (16 < ((c:Nat):Int))))=decide (16 < a∨16 < b∨16 < c):=by
 by_cases h1:16 < a <;> by_cases h2:16 < b <;> by_cases h3:16 < c <;> simp [h1,h2,h3] <;> omega
theorem oD {n:Int} {A:List (List St)} {body:Int→Option (Int⊕(Unit⊕Int))} (hn:A.length≤1000) (hb:∀ (k:Nat) (h:k < A.length),body (k:Int)=cond (!decide (rck n A[k]=0)) (some (.inr (.inr (rck n A[k])))) (some (.inl (IntKind.wrap .i64 ((k:Int) + 1))))) (he:body (A.length:Int)=some (.inr (.inl ()))):loop body 0=some (lc n A):=by
 rw [aL A (fun t=>!decide (rck n t=0)) (fun k => .inr (rck n (A.getD k []))) (.inl ()) ?_ he]
 . rfl
 . intro k hk
   rw [hb k hk,ap hk (by omega:A.length≤9223372036854775807)]
   have:A.getD k []=A[k]:=by simp [List.getD,hk]
   rw [this]
   cases (!decide (rck n A[k]=0)) <;> rfl
theorem pT (s:Sg) (hr:s.2.2.2.length≤1000) (ha:∀ t∈s.2.2.1,t.length≤1000):cg s=some (chk s):=by
 obtain ⟨n,B,A,R⟩:=s
 unfold cg chk
 dsimp only at *
 by_cases h0:n < 0
 . rw [decide_eq_true h0,if_pos h0]; rfl
 . rw [decide_eq_false h0,if_neg h0,cond_false,nP]
   by_cases h1:16 < n∨16 < B.length∨16 < A.length
   . rw [decide_eq_true h1,if_pos h1]; rfl
   . rw [decide_eq_false h1,if_neg h1,cond_false]
     rw [eZ (body:=eI (n,B,A,R)) B (aB n) (.inr 7) (.inl ()) ?_ ?_]
     . cases hb:B.any (aB n) with
       | true=>rfl
       | false =>
         simp only [Bool.false_eq_true,if_false,Option.bind_some]
         rw [oD (body:=eH (n,B,A,R)) (n:=n) (A:=A) (by omega) ?_ ?_]
         . rw [kg R n (by omega)]
           simp only [Option.bind_some]
           cases lc n A <;> rfl
         . intro k hk
           unfold eH
           have:=ha A[k] (List.getElem_mem hk)
           simp only [dlt hk,cond_true,ai hk,Option.bind_some]
           rw [kg _ _ (by omega),Option.bind_some]
         . simp [eH]
     . intro k hk
       unfold eI ie
       simp only [dlt hk,cond_true,ai hk,Option.bind_some,ap hk (by omega:B.length≤9223372036854775807)]
       generalize B[k]=b
       obtain ⟨b1,b2⟩:=b
       have e (x:Int):(!((decide (0≤x))&&(decide (x < n))))=(decide (x < 0)||decide (n≤x)):=by
         by_cases p:x < 0 <;> by_cases q:n≤x <;> simp [p,q] <;> omega
       simp only [e,aB]
       by_cases p1:b1 < 0 <;> by_cases p2:n≤b1 <;> by_cases p3:b2 < 0 <;> by_cases p4:n≤b2 <;> simp [p1,p2,p3,p4]
     . simp [eI]
theorem mW (s:Sg):dE s=some (chk s):=by
 obtain ⟨n,B,A,R⟩:=s
 unfold dE chk
 dsimp only at *
 by_cases h0:n < 0
 . rw [decide_eq_true h0,if_pos h0]; rfl
 . rw [decide_eq_false h0,if_neg h0,cond_false,nP]
   by_cases h1:16 < n∨16 < B.length∨16 < A.length
   . rw [decide_eq_true h1,if_pos h1]; rfl
   . rw [decide_eq_false h1,if_neg h1,cond_false]
     rw [eZ (body:=jN (n,B,A,R)) B (aB n) (.inr 7) (.inl ()) ?_ ?_]
     . cases hb:B.any (aB n) with
       | true=>rfl
       | false =>
         simp only [Bool.false_eq_true,if_false,Option.bind_some]
         rw [oD (body:=jM (n,B,A,R)) (n:=n) (A:=A) (by omega) ?_ ?_]
         . rw [fY R n]
           simp only [Option.bind_some]
           cases lc n A <;> rfl
         . intro k hk
           unfold jM
           simp only [dlt hk,cond_true,ai hk,Option.bind_some]
           rw [fY _ _,Option.bind_some]
         . simp [jM]
     . intro k hk
       unfold jN
       simp only [dlt hk,cond_true,ai hk,Option.bind_some,ap hk (by omega:B.length≤9223372036854775807)]
       generalize B[k]=b
       show cond (aB n b) _ _=_
       cases aB n b <;> rfl
     . simp [jN]
theorem cq {n:Int} {t:List St} (h:rck n t=0):t.length≤16∧rin n t=false:=by
 unfold rck at h
 by_cases q:16 < t.length
 . rw [if_pos q] at h; cases h
 . rw [if_neg q] at h
   cases hr:rin n t with
   | true=>rw [hr] at h; cases h
   | false=>exact ⟨by omega,rfl⟩
theorem ri {s:Sg} (h:chk s=0):0≤s.1∧s.1≤16∧s.2.1.length≤16∧s.2.2.1.length≤16∧(∀ b∈s.2.1,aB s.1 b=false)∧(∀ t∈s.2.2.1,t.length≤16∧rin s.1 t=false)∧s.2.2.2.length≤16∧rin s.1 s.2.2.2=false:=by
 unfold chk at h
 by_cases h0:s.1 < 0
 . rw [if_pos h0] at h; cases h
 . rw [if_neg h0] at h
   by_cases h1:16 < s.1∨16 < s.2.1.length∨16 < s.2.2.1.length
   . rw [if_pos h1] at h; cases h
   . rw [if_neg h1] at h
     cases hb:s.2.1.any (aB s.1) with
     | true=>rw [hb] at h; cases h
     | false =>
       rw [hb] at h
       simp only [Bool.false_eq_true,if_false] at h
       unfold lc at h
       cases hf:s.2.2.1.findIdx? (fun t=>!decide (rck s.1 t=0)) with
       | some k =>
         rw [hf] at h
         obtain ⟨hk,h2,_⟩:=List.findIdx?_eq_some_iff_getElem.1 hf
         have:s.2.2.1.getD k []=s.2.2.1[k]:=by simp [List.getD,hk]
         simp only [this] at h
         simp [h] at h2
       | none =>
         rw [hf] at h
         have hz:=List.findIdx?_eq_none_iff.1 hf
         refine ⟨by omega,by omega,by omega,by omega,fun b hb2=>?_,fun t ht=>cq (by simpa using hz t ht),(cq h).1,(cq h).2⟩
         have:=List.any_eq_false.1 hb b hb2
         simpa using this
theorem kS (names:List Int) (xs ys:List St):shp xs (ys.map (sbs names))=shp xs ys:=by
 unfold shp; rw [List.map_map]; rfl
theorem rK (names:List Int) (xs ys:List St):shp (xs.map (sbs names)) ys=shp xs ys:=by
 rw [dK,kS,dK]
def mis (A C:List (List St)) (k:Nat):Bool:=!shp (C.getD k []) (A.getD k [])
def fl (names:List Int) (A C:List (List St)) (j:Nat):List Nd:=rel 5 (16 * (j:Int)) (C.getD j []) ((A.getD j []).map (sbs names))
def fls (names:List Int) (A C:List (List St)):Nat→List Nd
 | 0=>[]
 | k + 1=>fls names A C k++fl names A C k
theorem gA (names:List Int) (A C:List (List St)) (hc:∀ t∈C,t.length≤20):∀ k,(fls names A C k).length≤40 * k
 | 0=>by simp [fls]
 | k + 1=>by
   have ih:=gA names A C hc k
   have h1:=bW 5 (C.getD k []) ((A.getD k []).map (sbs names)) (16 * (k:Int))
   have h2:(C.getD k []).length≤20:=by
     by_cases h:k < C.length
     . have:C.getD k []=C[k]:=by simp [List.getD,h]
       rw [this]; exact hc _ (List.getElem_mem h)
     . have:C.getD k []=[]:=by simp [List.getD,List.getElem?_eq_none (Nat.not_lt.1 h)]
       rw [this]; simp
   simp only [fls,List.length_append,fl]
   omega
def bds (names:List Int) (B:List (Int×Int)):Nat→List Nd
 | 0=>[]
 | k + 1=>bds names B k++[(names.getD (B.getD k (0,0)).1.toNat 0,names.getD (B.getD k (0,0)).2.toNat 0,4,(k:Int),false)]
theorem gv (names:List Int) (B:List (Int×Int)):∀ k,(bds names B k).length=k
 | 0=>rfl
 | k + 1=>by simp [bds,gv names B k]
def csp (s:Sg) (names:List Int) (C:List (List St)) (D:List St):List Nd×Int :=
 if chk s≠0 then ([],chk s)
 else if ¬ (names.length:Int)=s.1∨¬ C.length=s.2.2.1.length then ([],2)
 else if (List.range s.2.2.1.length).any (mis s.2.2.1 C) then ([],8)
 else if shp D s.2.2.2 then (bds names s.2.1 s.2.1.length++fls names s.2.2.1 C s.2.2.1.length++rel 6 0 (s.2.2.2.map (sbs names)) D,0) else ([],8)
theorem pW {names:List Int} {n:Int} {B:List (Int×Int)} {body:(List Nd×Int)→Option ((List Nd×Int)⊕List Nd)} (hB:B.length≤16) (hn:(names.length:Int)=n) (hb:∀ b∈B,aB n b=false)
   (hgo:∀ (l:List Nd) (k:Nat) (h:k < B.length),body (l,(k:Int))=((aa names B[k].1).bind fun x=>(aa names B[k].2).bind fun y=>(app l [(x,y,4,(k:Int),false)]).bind fun z=>some (.inl (z,IntKind.wrap .i64 ((k:Int) + 1))))) (he:∀ l,body (l,(B.length:Int))=some (.inr l)) :
   loop body ([],0)=some (bds names B B.length):=by
 refine bz (body:=body) (fun k=>(bds names B k,(k:Int))) B.length ?_ (he _)
 intro k hk
 have h1:=hb B[k] (List.getElem_mem hk)
 have e:B.getD k (0,0)=B[k]:=by simp [List.getD,hk]
 unfold aB at h1
 simp at h1
 rw [hgo _ k hk,kX (by omega) (by omega),Option.bind_some,kX (by omega) (by omega),Option.bind_some,aD (by simp [gv]; omega),Option.bind_some,ap hk (by omega)]
 simp only [bds,e]
theorem jb {names:List Int} {n:Int} {t:List St} (hn:(names.length:Int)=n) (h:rin n t=false):rin names.length t=false:=by rw [hn]; exact h
theorem vp (s:Sg) (names:List Int) (C:List (List St)) (D:List St) (hr:s.2.2.2.length≤20) (ha:∀ t∈s.2.2.1,t.length≤20) (hC:∀ t∈C,t.length≤20) (hD:D.length≤20) :
   iK s names C D=some (csp s names C D):=by
 have hck:=pT s (by omega) (fun t ht=>by have:=ha t ht; omega)
 unfold iK mN csp
 rw [show cg (s.1,s.2.1,s.2.2.1,s.2.2.2)=some (chk s) from hck]
 obtain ⟨n,B,A,R⟩:=s
 dsimp only at *
 by_cases h0:chk (n,B,A,R)=0
 . obtain ⟨n0, n1, hB, hA, hb, hat, hR, hrin⟩ := ri h0
   dsimp only at n0 n1 hB hA hb hat hR hrin
   simp only [h0,Option.bind_some,decide_true,Bool.not_true,cond_false,ne_eq,not_true_eq_false,if_false]
   by_cases h1:¬ (names.length:Int)=n∨¬ C.length=A.length
   . have:((!decide ((((names.length:Nat):Int))=n))||(!decide ((((C.length:Nat):Int))=(((A.length:Nat):Int)))))=true:=by simp; omega
     rw [this,if_pos h1]; rfl
   . have:((!decide ((((names.length:Nat):Int))=n))||(!decide ((((C.length:Nat):Int))=(((A.length:Nat):Int)))))=false:=by simp; omega
     rw [this,if_neg h1,cond_false]
     have hn:(names.length:Int)=n:=by omega
     have hl:C.length=A.length:=by omega
     rw [eZ (body:=jL (n,B,A,R) C) (List.range A.length) (mis A C) (.inr 8) (.inl ()) ?_ ?_]
     . cases hm:(List.range A.length).any (mis A C) with
       | true=>rfl
       | false =>
         simp only [Bool.false_eq_true,if_false,Option.bind_some]
         rw [eT D R (by omega)]
         cases hs:shp D R with
         | false=>rfl
         | true =>
           simp only [Option.bind_some,Bool.not_true,cond_false,decide_true,if_true]
           rw [pW (body:=jX (n,B,A,R) names) hB hn hb ?_ ?_]
           . simp only [Option.bind_some]
             have hfl:=bz (body:=iC (n,B,A,R) names C) (fun k=>(bds names B B.length++fls names A C k,(k:Int))) A.length (b:=bds names B B.length++fls names A C A.length) ?_ ?_
             . have hfl':loop (iC (n,B,A,R) names C) (bds names B B.length,0)=some (bds names B B.length++fls names A C A.length):=by
                 have e0:(bds names B B.length,(0:Int))=(bds names B B.length++fls names A C 0,((0:Nat):Int)):=by simp [fls]
                 rw [e0]; exact hfl
               have q1:=gA names A C hC A.length
               have q2:=gv names B B.length
               have q3:=bW 6 (R.map (sbs names)) D 0
               rw [List.length_map] at q3
               rw [hfl',Option.bind_some,pP R names (by omega),jb hn hrin]
               simp only [Bool.false_eq_true,if_false,Option.bind_some]
               rw [kp _ _ _ _ (by simp; omega) (by omega) (by omega),rK,dK,hs]
               simp only [if_true,Option.bind_some]
               rw [aD (by simp only [List.length_append]; omega)]
               rfl
             . intro k hk
               have hkC:k < C.length:=by omega
               have ht:=hat A[k] (List.getElem_mem hk)
               have hc:=hC C[k] (List.getElem_mem hkC)
               have e1:A.getD k []=A[k]:=by simp [List.getD,hk]
               have e2:C.getD k []=C[k]:=by simp [List.getD,hkC]
               have hsh:shp C[k] A[k]=true:=by
                 have:=List.any_eq_false.1 hm k (List.mem_range.2 hk)
                 unfold mis at this
                 rw [e1,e2] at this
                 simpa using this
               have q1:=gA names A C hC k
               have q2:=gv names B B.length
               have q3:=bW 5 C[k] (A[k].map (sbs names)) (16 * (k:Int))
               unfold iC
               simp only [dlt hk,cond_true,ai hk,Option.bind_some]
               rw [pP _ names (by omega),jb hn ht.2]
               simp only [Bool.false_eq_true,if_false,Option.bind_some,ai hkC]
               rw [w64 (x:=16 * (k:Int)) (by omega) (by omega),kp _ _ _ _ (by omega) (by omega) (by omega),kS,hsh]
               simp only [if_true,Option.bind_some]
               rw [aD (by simp only [List.length_append]; omega),Option.bind_some,ap hk (by omega)]
               simp only [fls,fl,e1,e2,List.append_assoc]
             . simp [iC]
           . intro l k hk
             unfold jX
             simp only [dlt hk,cond_true,ai hk,Option.bind_some]
           . intro l; simp [jX]
     . intro k hk
       simp only [List.length_range] at hk
       have hkC:k < C.length:=by omega
       have e1:A.getD k []=A[k]:=by simp [List.getD,hk]
       have e2:C.getD k []=C[k]:=by simp [List.getD,hkC]
       have hc:=hC C[k] (List.getElem_mem hkC)
       unfold jL
       simp only [dlt hk,cond_true,ai hk,ai hkC,Option.bind_some,List.getElem_range,mis,e1,e2,ap hk (by omega:A.length≤9223372036854775807)]
       rw [eT _ _ (by omega),Option.bind_some]
       cases shp C[k] A[k] <;> rfl
     . simp [jL]
 . simp [h0]
theorem vy (s:Sg) (names:List Int) (C:List (List St)) (D:List St) (hr:s.2.2.2.length≤20) (ha:∀ t∈s.2.2.1,t.length≤20) (hC:∀ t∈C,t.length≤20) (hD:D.length≤20) :
   iE s names C D=some (csp s names C D):=by
 unfold iE csp
 rw [show dE (s.1,s.2.1,s.2.2.1,s.2.2.2)=some (chk s) from mW s]
 obtain ⟨n,B,A,R⟩:=s
 dsimp only at *
 by_cases h0:chk (n,B,A,R)=0
 . obtain ⟨n0,n1,hB,hA,hb,hat,hR,hrin⟩:=ri h0
   dsimp only at n0 n1 hB hA hb hat hR hrin
   simp only [h0,Option.bind_some,decide_true,Bool.not_true,cond_false,ne_eq,not_true_eq_false,if_false]
   by_cases h1:¬ (names.length:Int)=n∨¬ C.length=A.length
   . have:((!decide ((((names.length:Nat):Int))=n))||(!decide ((((C.length:Nat):Int))=(((A.length:Nat):Int)))))=true:=by simp; omega
     rw [this,if_pos h1]; rfl
   . have:((!decide ((((names.length:Nat):Int))=n))||(!decide ((((C.length:Nat):Int))=(((A.length:Nat):Int)))))=false:=by simp; omega
     rw [this,if_neg h1,cond_false]
     have hn:(names.length:Int)=n:=by omega
     have hl:C.length=A.length:=by omega
     rw [pW (body:=jR (n,B,A,R) names) hB hn hb ?_ ?_]
     . simp only [Option.bind_some]
       have q2:=gv names B B.length
       have hfl:=eY (body:=iq (n,B,A,R) names C) (fun k=>mis A C k=true) (fun k=>(bds names B B.length++fls names A C k,(k:Int))) A.length (fun _ => .inr ([],8)) (.inl (bds names B B.length++fls names A C A.length)) ?_ ?_ ?_
       . have e0:(bds names B B.length,(0:Int))=(bds names B B.length++fls names A C 0,((0:Nat):Int)):=by simp [fls]
         rw [e0]
         rcases hfl with ⟨k,k1,k2,_,k3⟩ | ⟨k1,k3⟩
         . have:(List.range A.length).any (mis A C)=true:=List.any_eq_true.2 ⟨k,List.mem_range.2 k1,k2⟩
           rw [k3,this]; rfl
         . have:(List.range A.length).any (mis A C)=false:=by
             rw [List.any_eq_false]; intro k hk; exact k1 k (List.mem_range.1 hk)
           rw [k3,this]
           have q1:=gA names A C hC A.length
           have q3:=bW 6 (R.map (sbs names)) D 0
           rw [List.length_map] at q3
           simp only [Option.bind_some,Bool.false_eq_true,if_false]
           rw [m6 R names (by omega),jb hn hrin]
           simp only [Bool.false_eq_true,if_false,Option.bind_some]
           rw [eV _ _ _ _ (by simp; omega) (by omega) (by omega),rK,dK]
           cases hs:shp D R with
           | false=>rfl
           | true =>
             simp only [if_true,Option.bind_some,decide_true,Bool.not_true,cond_false]
             rw [aD (by simp only [List.length_append]; omega)]
             rfl
       . intro k hk hp
         have hkC:k < C.length:=by omega
         have ht:=hat A[k] (List.getElem_mem hk)
         have hc:=hC C[k] (List.getElem_mem hkC)
         have e1:A.getD k []=A[k]:=by simp [List.getD,hk]
         have e2:C.getD k []=C[k]:=by simp [List.getD,hkC]
         have hsh:shp C[k] A[k]=true:=by
           unfold mis at hp
           rw [e1,e2] at hp
           simpa using hp
         have q1:=gA names A C hC k
         have q3:=bW 5 C[k] (A[k].map (sbs names)) (16 * (k:Int))
         unfold iq
         simp only [dlt hk,cond_true,ai hk,Option.bind_some]
         rw [m6 _ names (by omega),jb hn ht.2]
         simp only [Bool.false_eq_true,if_false,Option.bind_some,ai hkC]
         rw [w64 (x:=16 * (k:Int)) (by omega) (by omega),eV _ _ _ _ (by omega) (by omega) (by omega),kS,hsh]
         simp only [if_true,Option.bind_some,decide_true,Bool.not_true,cond_false]
         rw [aD (by simp only [List.length_append]; omega),Option.bind_some,ap hk (by omega)]
         simp only [fls,fl,e1,e2,List.append_assoc]
       . intro k hk hp
         have hkC:k < C.length:=by omega
         have ht:=hat A[k] (List.getElem_mem hk)
         have hc:=hC C[k] (List.getElem_mem hkC)
         have e1:A.getD k []=A[k]:=by simp [List.getD,hk]
         have e2:C.getD k []=C[k]:=by simp [List.getD,hkC]
         have hsh:shp C[k] A[k]=false:=by
           unfold mis at hp
           rw [e1,e2] at hp
           simpa using hp
         unfold iq
         simp only [dlt hk,cond_true,ai hk,Option.bind_some]
         rw [m6 _ names (by omega),jb hn ht.2]
         simp only [Bool.false_eq_true,if_false,Option.bind_some,ai hkC]
         rw [w64 (x:=16 * (k:Int)) (by omega) (by omega),eV _ _ _ _ (by omega) (by omega) (by omega),kS,hsh]
         rfl
       . simp [iq]
     . intro l k hk
       unfold jR
       simp only [dlt hk,cond_true,ai hk,Option.bind_some]
     . intro l; simp [jR]
 . simp [h0]
theorem yJ (s:Sg) (names:List Int) (C:List (List St)) (D:List St) (hs:s.2.1.length≤20∧s.2.2.1.length≤20∧s.2.2.2.length≤20) (hC:∀ t∈C,t.length≤20):(csp s names C D).1.length≤4000:=by
 have q1:=gA names s.2.2.1 C hC s.2.2.1.length
 have q2:=gv names s.2.1 s.2.1.length
 have q3:=bW 6 (s.2.2.2.map (sbs names)) D 0
 rw [List.length_map] at q3
 unfold csp
 split
 . simp
 . split
   . simp
   . split
     . simp
     . split
       . simp only [List.length_append]; omega
       . simp
abbrev Stm:=Int×Int×Int×Int×Bool
def bH (k:Int):Bool:=(((decide (k=1))||(decide (k=2)))||(decide (k=3)))||(decide (k=5))
def bF (k:Int):Bool:=(decide (1≤k))&&(decide (k≤4))
def bE (k:Int):Bool:=(decide (k=2))||(decide (k=3))
def fOk (x:Stm):Bool:=decide (0≤x.1)&&decide (x.1≤5)&&(bH x.1||decide (x.2.1=0))&&(bF x.1||decide (x.2.2.1=0))&&(bE x.1||(decide (x.2.2.2.1=0)&&!x.2.2.2.2))
theorem six {k:Int} (h:decide (0≤k)&&decide (k≤5)):k=0∨k=1∨k=2∨k=3∨k=4∨k=5:=by simp at h; omega
theorem u9 (k:Int):jP k=some (if decide (0≤k)&&decide (k≤5) then (bH k,bF k,bE k,true) else (false,false,false,false)):=by
 by_cases h:(decide (0≤k)&&decide (k≤5))=true
 . rcases six h with rfl | rfl | rfl | rfl | rfl | rfl <;> rfl
 . rw [if_neg h]
   have h':k < 0∨5 < k:=by simp at h; omega
   have e (j:Int) (h0:0≤j) (h5:j≤5):decide (k=j)=false:=by simp; omega
   unfold jP
   simp only [e 0 (by omega) (by omega),e 1 (by omega) (by omega),e 2 (by omega) (by omega),e 3 (by omega) (by omega),e 4 (by omega) (by omega),e 5 (by omega) (by omega),cond_false,Option.bind_some]
theorem ko (x:Stm):eQ x=some (fOk x):=by
 obtain ⟨k,d,s,r,m⟩:=x
 have h1:iF k=some (bH k):=rfl
 have h2:iH k=some (bF k):=rfl
 have h3:iy k=some (bE k):=rfl
 unfold eQ fOk
 simp only [h1,h2,h3,Option.bind_some]
 cases (decide (0≤k)&&decide (k≤5)) <;> simp
 cases (bH k||decide (d=0)) <;> simp
 cases (bF k||decide (s=0)) <;> simp
theorem yG (x:Stm):j7 x=some (if fOk x then (bH x.1,bF x.1,bE x.1,0) else (false,false,false,3)):=by
 obtain ⟨k,d,s,r,m⟩:=x
 unfold j7
 rw [u9]
 by_cases h:(decide (0≤k)&&decide (k≤5))=true
 . simp only [h,if_true,Option.bind_some,Bool.not_true,cond_false]
   have ho:kd (k,d,s,r,m) (bH k,bF k,bE k)=some (k,if bH k then d else 0,if bF k then s else 0,if bE k then r else 0,if bE k then m else false):=by
     unfold kd
     cases bH k <;> cases bF k <;> cases bE k <;> rfl
   rw [ho,Option.bind_some]
   unfold fOk
   simp only [h,Bool.true_and]
   cases bH k <;> cases bF k <;> cases bE k <;> simp
   all_goals (by_cases q1:d=0 <;> by_cases q2:s=0 <;> by_cases q3:r=0 <;> cases m <;> simp [q1,q2,q3])
 . have h':(decide (0≤k)&&decide (k≤5))=false:=by simpa using h
   unfold fOk
   simp [h']
def loc (xb:List (List St)) (d:Int):Bool:=decide (0≤d)&&decide (d < ((xb.length:Nat):Int))
theorem yD (xb:List (List St)) (d:Int):(decide (d < 0)||decide (((xb.length:Nat):Int)≤d)) = !loc xb d:=by
 unfold loc
 by_cases h1:d < 0 <;> by_cases h2:((xb.length:Nat):Int)≤d <;> simp [h1,h2] <;> omega
theorem gL {xb:List (List St)} {d:Int} (h:loc xb d=true) (hb:∀ t∈xb,t.length≤20):∃ t:List St,aa xb d=some t∧t.length≤20:=by
 unfold loc at h
 simp at h
 exact ⟨_,mn h.1 h.2,hb _ (List.getElem_mem _)⟩
def Gd (R:Int) (n:Nd):Prop:=(0≤n.1∧n.1 < R)∧(0≤n.2.1∧n.2.1 < R)∧(1≤n.2.2.1∧n.2.2.1≤7)∧(0≤n.2.2.2.1∧n.2.2.2.1≤1000000)
theorem cw {R:Int} {t:List St} (h:rin R t=false) {x:St} (hx:x∈t):0≤x.1∧x.1 < R:=by
 have:=List.any_eq_false.1 h x hx
 simp at this; omega
theorem fu {R:Int} {t:List St} (h:∀ x∈t,0≤x.1∧x.1 < R):rin R t=false:=by
 unfold rin
 rw [List.any_eq_false]
 intro x hx
 have:=h x hx
 simp; omega
theorem fg {R az:Int} (hk:1≤az∧az≤7):∀ (xs ys:List St) (f:Int),0≤f→f + (xs.length:Int)≤1000000→rin R xs=false→rin R ys=false→∀ n∈rel az f xs ys,Gd R n
 | x :: xs,y :: ys,f,h0,h1,hx,hy,n,hn=>by
   have a1:=cw hx (x:=x) (by simp)
   have a2:=cw hy (x:=y) (by simp)
   simp only [List.length_cons] at h1
   simp only [rel,List.mem_append] at hn
   rcases hn with hn | hn
   . unfold hP at hn
     rcases List.mem_cons.1 hn with rfl | hn
     . exact ⟨a1,a2,hk,h0,by show f≤_; omega⟩
     . split at hn
       . rcases List.mem_cons.1 hn with rfl | hn
         . exact ⟨a2,a1,hk,h0,by show f≤_; omega⟩
         . simp at hn
       . simp at hn
   . exact fg hk xs ys (f + 1) (by omega) (by omega) (fu fun z hz=>cw hx (by simp [hz])) (fu fun z hz=>cw hy (by simp [hz])) n hn
 | [],_,_,_,_,_,_,n,hn=>by simp [rel] at hn
 | _ :: _,[],_,_,_,_,_,n,hn=>by simp [rel] at hn
theorem xN {R r:Int} {m:Bool} {xa xb:List St} (hr:0≤r∧r < R) (hl:xa.length≤30) (hx:rin R xa=false) (hy:rin R xb=false):∀ n∈(lo r m xa xb).1,Gd R n:=by
 intro n hn
 unfold lo at hn
 split at hn
 . rename_i hs
   have:=oa hs
   cases xb with
   | nil=>simp at this
   | cons y ys =>
     rcases List.mem_cons.1 hn with rfl | hn
     . exact ⟨hr,cw hy (x:=y) (by simp),by simp,by simp⟩
     . exact fg (by decide) xa _ 1 (by omega) (by omega) hx (fu fun z hz=>cw hy (List.mem_of_mem_drop hz)) n hn
 . simp at hn
theorem yE {R r:Int} {m:Bool} {xa xb:List St} (hr:0≤r∧r < R) (hl:xa.length≤30) (hx:rin R xa=false) (hy:rin R xb=false):∀ n∈(ag r m xa xb).1,Gd R n:=by
 intro n hn
 unfold ag at hn
 split at hn
 . split at hn
   . simp at hn
   . rename_i x xs y ys _
     simp only [List.length_cons] at hl
     rcases List.mem_cons.1 hn with rfl | hn
     . exact ⟨cw hx (by simp),hr,by simp,by simp⟩
     . rcases List.mem_cons.1 hn with rfl | hn
       . exact ⟨hr,cw hy (by simp),by simp,by simp⟩
       . exact fg (by decide) xs ys 1 (by omega) (by omega) (fu fun z hz=>cw hx (by simp [hz])) (fu fun z hz=>cw hy (by simp [hz])) n hn
 . simp at hn
theorem gf {α:Type} {l:List α} {i:Int} {x:α} (h:aa l i=some x):x∈l:=List.mem_of_getElem? (ci h).2.1
theorem mV (x:Stm) (xb:List (List St)) (xc:Int) (hb:∀ t∈xb,t.length≤20):∃ l e,cd x xb xc=some (l,e)∧a8 x xb xc=some (l,e)∧l.length≤1000∧((∀ t∈xb,rin xc t=false)→∀ n∈l,Gd xc n):=by
 obtain ⟨k,d,s,r,m⟩:=x
 unfold cd a8
 have g1:iF k=some (bH k):=rfl
 have g2:iH k=some (bF k):=rfl
 have g3:iy k=some (bE k):=rfl
 have g4 (d:Int):jJ d xb=some (loc xb d):=rfl
 simp only [yG,ko,Option.bind_some,g1,g2,g3,g4,yD]
 cases hf:fOk (k,d,s,r,m) with
 | false=>exact ⟨[],3,rfl,rfl,by simp,by simp⟩
 | true =>
   have hk:k=0∨k=1∨k=2∨k=3∨k=4∨k=5:=by
     unfold fOk at hf
     simp only [Bool.and_eq_true] at hf
     exact six (by simpa using hf.1.1.1)
   have bad:∃ l e,(some (([]:List Nd),(7:Int)):Option (List Nd×Int))=some (l,e)∧(some (([]:List Nd),(7:Int)):Option (List Nd×Int))=some (l,e)∧l.length≤1000∧((∀ t∈xb,rin xc t=false)→∀ n∈l,Gd xc n):=⟨[],7,rfl,rfl,by simp,by simp⟩
   have good:∃ l e,(some (([]:List Nd),(0:Int)):Option (List Nd×Int))=some (l,e)∧(some (([]:List Nd),(0:Int)):Option (List Nd×Int))=some (l,e)∧l.length≤1000∧((∀ t∈xb,rin xc t=false)→∀ n∈l,Gd xc n):=⟨[],0,rfl,rfl,by simp,by simp⟩
   rcases hk with rfl | rfl | rfl | rfl | rfl | rfl
   . simpa [bH,bF,bE] using good
   . have e1:bH 1=true:=rfl
     have e2:bF 1=true:=rfl
     have e3:bE 1=false:=rfl
     cases h1:loc xb d with
     | false=>simpa [e1,e2,e3,h1] using bad
     | true =>
       cases h2:loc xb s with
       | false=>simpa [e1,e2,e3,h1,h2] using bad
       | true =>
         obtain ⟨t1,a1,b1⟩:=gL h1 hb
         obtain ⟨t2,a2,b2⟩:=gL h2 hb
         simp [e1,e2,e3,h1,h2,a1,a2]
         rw [kp _ _ _ _ (by omega) (by omega) (by omega),eV _ _ _ _ (by omega) (by omega) (by omega)]
         have hr:=bW 1 t2 t1 0
         by_cases q:shp t2 t1=true
         . exact ⟨rel 1 0 t2 t1,0,by simp [q],by simp [q],by omega,fun hg=>by simpa using fg (az:=1) (by decide) t2 t1 0 (by omega) (by omega) (hg _ (gf a2)) (hg _ (gf a1))⟩
         . exact ⟨[],8,by simp [q],by simp [q],by simp,by simp⟩
   all_goals try
     (have e1:bH 4=false:=rfl
      have e2:bF 4=true:=rfl
      have e3:bE 4=false:=rfl
      cases h2:loc xb s with
      | false=>simpa [e1,e2,e3,h2] using bad
      | true=>simpa [e1,e2,e3,h2] using good)
   all_goals try
     (have e1:bH 5=true:=rfl
      have e2:bF 5=false:=rfl
      have e3:bE 5=false:=rfl
      cases h2:loc xb d with
      | false=>simpa [e1,e2,e3,h2] using bad
      | true=>simpa [e1,e2,e3,h2] using good)
   . have e1:bH 2=true:=rfl
     have e2:bF 2=true:=rfl
     have e3:bE 2=true:=rfl
     cases h1:loc xb d with
     | false=>simpa [e1,e2,e3,h1] using bad
     | true =>
       cases h2:loc xb s with
       | false=>simpa [e1,e2,e3,h1,h2] using bad
       | true =>
         cases h3:(decide (r < 0)||decide (xc≤r)) with
         | true=>simpa [e1,e2,e3,h1,h2,h3] using bad
         | false =>
           obtain ⟨t1,a1,b1⟩:=gL h1 hb
           obtain ⟨t2,a2,b2⟩:=gL h2 hb
           have hq:=wR r m t2 t1 (by omega)
           refine ⟨(lo r m t2 t1).1,(lo r m t2 t1).2,?_,?_,by omega,fun hg=>xN (by simp at h3; omega) (by omega) (hg _ (gf a2)) (hg _ (gf a1))⟩
           . simp [e1,e2,e3,h1,h2,h3,a1,a2,vg t2 t1 r m (by omega)]
           . simp [e1,e2,e3,h1,h2,h3,a1,a2,vH t2 t1 r m (by omega)]
   . have e1:bH 3=true:=rfl
     have e2:bF 3=true:=rfl
     have e3:bE 3=true:=rfl
     cases h1:loc xb d with
     | false=>simpa [e1,e2,e3,h1] using bad
     | true =>
       cases h2:loc xb s with
       | false=>simpa [e1,e2,e3,h1,h2] using bad
       | true =>
         cases h3:(decide (r < 0)||decide (xc≤r)) with
         | true=>simpa [e1,e2,e3,h1,h2,h3] using bad
         | false =>
           obtain ⟨t1,a1,b1⟩:=gL h1 hb
           obtain ⟨t2,a2,b2⟩:=gL h2 hb
           have hq:=wQ r m t2 t1 (by omega)
           refine ⟨(ag r m t2 t1).1,(ag r m t2 t1).2,?_,?_,by omega,fun hg=>yE (by simp at h3; omega) (by omega) (hg _ (gf a2)) (hg _ (gf a1))⟩
           . simp [e1,e2,e3,h1,h2,h3,a1,a2,va t2 t1 r m (by omega)]
           . simp [e1,e2,e3,h1,h2,h3,a1,a2,u5 t2 t1 r m (by omega)]
abbrev Tm:=Int×Int×Int×List Int×List Int×List Int
def gJ (x:Tm):Bool:=((!decide (x.2.1=0))||(!decide (x.2.2.1=0)))||(decide (0 < x.2.2.2.2.2.length))
def ly (x:Tm):Bool :=
 if x.1=1 then decide (x.2.2.2.1.length=1)&&decide (x.2.2.2.2.1.length=0)&&!gJ x
 else if x.1=2 then decide (0 < x.2.2.2.1.length)&&!gJ x
 else if x.1=3 then decide (x.2.2.2.1.length=0)&&decide (x.2.2.2.2.1.length=0)&&!gJ x
 else if x.1=4 then decide (x.2.2.2.1.length=1) else false
def bD (x:Tm):Int:=if ly x=true then if 16 < x.2.2.2.1.length∨16 < x.2.2.2.2.1.length∨16 < x.2.2.2.2.2.length then 6 else 0 else 3
theorem bnd (a b:Bool):(cond a (some b) (some false):Option Bool)=some (a&&b):=by cases a <;> rfl
theorem dn1 (n:Nat):decide ((n:Int)=1)=decide (n=1):=by by_cases h:n=1 <;> simp [h] <;> omega
theorem dn0 (n:Nat):decide ((n:Int)=0)=decide (n=0):=by by_cases h:n=0 <;> simp [h] <;> omega
theorem dp0 (n:Nat):decide (0 < (n:Int))=decide (0 < n):=by by_cases h:0 < n <;> simp [h] <;> omega
theorem d16 (n:Nat):decide (16 < (n:Int))=decide (16 < n):=by by_cases h:16 < n <;> simp [h] <;> omega
theorem q9 (x:Tm):fW x=some (bD x):=by
 obtain ⟨k,g,d,tos,args,ps⟩:=x
 have hc:fV (k,g,d,tos,args,ps)=some (gJ (k,g,d,tos,args,ps)):=by unfold fV gJ; simp only [dp0]
 unfold fW bD
 have hr:∀ b:Bool,(cond (!b) (some 3) (cond (((decide (16 < ((tos.length:Nat):Int)))||(decide (16 < ((args.length:Nat):Int))))||(decide (16 < ((ps.length:Nat):Int)))) (some 6) (some 0)):Option Int)=some (if b=true then if 16 < tos.length∨16 < args.length∨16 < ps.length then 6 else 0 else 3):=by
   intro b
   cases b with
   | false=>rfl
   | true =>
     simp only [d16,Bool.not_true,cond_false,if_true]
     by_cases h1:16 < tos.length <;> by_cases h2:16 < args.length <;> by_cases h3:16 < ps.length <;> simp [h1,h2,h3]
 dsimp only at *
 have hm:∀ (m:Option Bool) (b:Bool),m=some b→(m.bind fun t194=>cond (!t194) (some 3) (cond (((decide (16 < ((tos.length:Nat):Int)))||(decide (16 < ((args.length:Nat):Int))))||(decide (16 < ((ps.length:Nat):Int)))) (some 6) (some 0)):Option Int)=some (if b=true then if 16 < tos.length∨16 < args.length∨16 < ps.length then 6 else 0 else 3):=by
   rintro _ b rfl; exact hr b
 refine hm _ _ ?_
 simp only [hc,Option.bind_some,dn1,dn0,dp0]
 unfold ly
 dsimp only
 by_cases k1:k=1
 . simp [k1,bnd,Bool.and_assoc]
 . by_cases k2:k=2
   . simp [k2,bnd,Bool.and_assoc]
   . by_cases k3:k=3
     . simp [k3,bnd,Bool.and_assoc]
     . by_cases k4:k=4
       . simp [k4]
       . simp [k1,k2,k3,k4]
theorem qt {x:Tm} (h:bD x=0):ly x=true∧x.2.2.2.1.length≤16∧x.2.2.2.2.1.length≤16∧x.2.2.2.2.2.length≤16:=by
 unfold bD at h
 split at h
 . split at h
   . cases h
   . rename_i q; exact ⟨by assumption,by omega,by omega,by omega⟩
 . cases h
theorem wr (xa:List Int) (n:Int) (hn:xa.length≤1073741824):cA xa n=some (!xa.any (fun x=>decide (x < 0)||decide (n≤x))):=by
 unfold cA
 rw [eZ (body:=jK xa n) xa (fun x=>decide (x < 0)||decide (n≤x)) (.inr false) (.inl ()) ?_ ?_]
 . cases xa.any (fun x=>decide (x < 0)||decide (n≤x)) <;> rfl
 . intro k hk
   unfold jK
   by_cases q:xa[k] < 0 <;> by_cases q2:n≤xa[k] <;> simp [hk,ai hk,ap hk (by omega:xa.length≤9223372036854775807),q,q2]
 . simp [jK]
theorem kh (x:Tm):dF x=some (bD x):=by
 obtain ⟨k,g,d,tos,args,ps⟩:=x
 unfold dF bD ly gJ
 dsimp only
 simp only [dn1,dn0,d16,dp0]
 have hps:decide (0 < ps.length) = !decide (ps.length=0):=by by_cases h:ps.length=0 <;> simp [h] <;> omega
 have hto:decide (0 < tos.length) = !decide (tos.length=0):=by by_cases h:tos.length=0 <;> simp [h] <;> omega
 rw [hps,hto]
 have last:(cond (((decide (16 < tos.length))||(decide (16 < args.length)))||(decide (16 < ps.length))) (some 6) (some 0):Option Int)=some (if 16 < tos.length∨16 < args.length∨16 < ps.length then 6 else 0):=by
   by_cases h1:16 < tos.length <;> by_cases h2:16 < args.length <;> by_cases h3:16 < ps.length <;> simp [h1,h2,h3]
 rw [last]
 generalize (if 16 < tos.length∨16 < args.length∨16 < ps.length then (6:Int) else 0)=z
 generalize decide (tos.length=1)=t1
 generalize decide (tos.length=0)=t0
 generalize decide (args.length=0)=a0
 generalize decide (ps.length=0)=p0
 generalize decide (g=0)=g0
 generalize decide (d=0)=d0
 by_cases k1:k=1
 . subst k1; cases t1 <;> cases t0 <;> cases a0 <;> cases p0 <;> cases g0 <;> cases d0 <;> simp
 . by_cases k2:k=2
   . subst k2; cases t1 <;> cases t0 <;> cases a0 <;> cases p0 <;> cases g0 <;> cases d0 <;> simp
   . by_cases k3:k=3
     . subst k3; cases t1 <;> cases t0 <;> cases a0 <;> cases p0 <;> cases g0 <;> cases d0 <;> simp
     . by_cases k4:k=4
       . subst k4; cases t1 <;> cases t0 <;> cases a0 <;> cases p0 <;> cases g0 <;> cases d0 <;> simp
       . have:(decide (k < 1)||decide (4 < k))=true:=by simp; omega
         simp [this,k1,k2,k3,k4]
theorem uc {xa:List (List St)} {body:Int→Option (Int⊕(Unit⊕Bool))} (hn:xa.length≤1000) (hb:∀ i,body i=cond (decide (i < (((xa.length:Nat):Int)))) ((aa xa i).bind fun x=>(eR x 20).bind fun t=>cond (!t) (some (.inr ((.inr (false))))) (some (.inl (IntKind.wrap .i64 (i + 1))))) (some (.inr ((.inl ()))))) :
   loop body 0=some (if xa.any (fun t=>!decide (t.length≤20)) then (Sum.inr false:Unit⊕Bool) else .inl ()):=by
 refine eZ (β:=Unit⊕Bool) xa (fun t=>!decide (t.length≤20)) (.inr false) (.inl ()) ?_ ?_
 . intro k hk
   rw [hb]
   simp only [dlt hk,cond_true,ai hk,Option.bind_some,ap hk (by omega:xa.length≤9223372036854775807),oo]
   by_cases q:xa[k].length≤20
   . have:decide (((xa[k].length:Nat):Int)≤20)=true:=by simp; omega
     simp [this,q]
   . have:decide (((xa[k].length:Nat):Int)≤20)=false:=by simp; omega
     simp [this,q]
 . rw [hb]; simp
theorem rX {xa:List (List St)} (h:xa.any (fun t=>!decide (t.length≤20))=false):∀ t∈xa,t.length≤20:=by
 intro t ht
 have:=List.any_eq_false.1 h t ht
 simpa using this
theorem th (s:Sg):dH s=some false∨(dH s=some true∧s.2.1.length≤20∧s.2.2.1.length≤20∧s.2.2.2.length≤20∧∀ t∈s.2.2.1,t.length≤20):=by
 unfold dH
 by_cases h:20 < s.2.1.length∨20 < s.2.2.1.length
 . have:((decide (20 < (((s.2.1.length:Nat):Int))))||(decide (20 < (((s.2.2.1.length:Nat):Int)))))=true:=by simp; omega
   rw [this]; exact .inl rfl
 . have:((decide (20 < (((s.2.1.length:Nat):Int))))||(decide (20 < (((s.2.2.1.length:Nat):Int)))))=false:=by simp; omega
   rw [this,cond_false,oo]
   by_cases q:s.2.2.2.length≤20
   . have e:decide (((s.2.2.2.length:Nat):Int)≤20)=true:=by simp; omega
     simp only [Option.bind_some,e,Bool.not_true,cond_false]
     rw [uc (body:=pB s) (xa:=s.2.2.1) (by omega) (fun i=>rfl)]
     cases hf:s.2.2.1.any (fun t=>!decide (t.length≤20)) with
     | true=>exact .inl rfl
     | false=>exact .inr ⟨rfl,by omega,by omega,q,rX hf⟩
   . have e:decide (((s.2.2.2.length:Nat):Int)≤20)=false:=by simp; omega
     simp only [Option.bind_some,e]; exact .inl rfl
def bad (n:Int) (xa:List Int):Bool:=xa.any (fun x=>decide (x < 0)||decide (n≤x))
theorem m5 (xa:List Int) (n:Int) (hn:xa.length≤1000):fL xa n=some (bad n xa):=by
 unfold fL mD
 rw [aL (body:=jF xa n) xa (fun x=>decide (x < 0)||decide (n≤x)) (fun k => .inr (k:Int)) (.inl ()) ?_ ?_]
 . rcases qb xa (fun x=>decide (x < 0)||decide (n≤x)) with ⟨k,h1,h2⟩ | ⟨h1,h2⟩
   . rw [h1]; unfold bad; simp [h2]
   . rw [h1]; unfold bad; simp [h2]
 . intro k hk
   unfold jF fM
   simp only [dlt hk,cond_true,ai hk,Option.bind_some,ap hk (by omega:xa.length≤9223372036854775807)]
   cases (decide (xa[k] < 0)||decide (n≤xa[k])) <;> rfl
 . simp [jF]
theorem iG (xa:List Int) (n:Int) (hn:xa.length≤1000):cA xa n=some (!bad n xa):=wr xa n (by omega)
abbrev Ar:=Int×Int×List (List St)×List St×List Sg
theorem wg {x:Tm} {a:Ar} (hx:x.2.2.2.2.1.length≤20) (hb:bad (a.2.2.1.length:Int) x.2.2.2.2.1=false) (hL:∀ t∈a.2.2.1,t.length≤20) :
   ∃ C:List (List St),loop (fS x a) ([],0)=some C∧(∀ t∈C,t.length≤20)∧∀ t∈C,t∈a.2.2.1:=by
 have hin (k:Nat) (hk:k < x.2.2.2.2.1.length):0≤x.2.2.2.2.1[k]∧x.2.2.2.2.1[k] < (a.2.2.1.length:Int):=by
   have:=List.any_eq_false.1 hb _ (List.getElem_mem hk)
   simp at this; omega
 have hl:=bz (body:=fS x a) (fun k:Nat=>((x.2.2.2.2.1.take k).map (fun i=>a.2.2.1.getD i.toNat []),(k:Int))) x.2.2.2.2.1.length (b:=x.2.2.2.2.1.map (fun i=>a.2.2.1.getD i.toNat [])) ?_ ?_
 . have hm:∀ t∈x.2.2.2.2.1.map (fun i=>a.2.2.1.getD i.toNat []),t∈a.2.2.1:=by
     intro t ht
     obtain ⟨i,hi,rfl⟩:=List.mem_map.1 ht
     obtain ⟨k,hk,rfl⟩:=List.getElem_of_mem hi
     have h2:=hin k hk
     have:x.2.2.2.2.1[k].toNat < a.2.2.1.length:=by omega
     have e:a.2.2.1.getD x.2.2.2.2.1[k].toNat []=a.2.2.1[x.2.2.2.2.1[k].toNat]:=by simp [List.getD,this]
     rw [e]; exact List.getElem_mem _
   refine ⟨_,hl,fun t ht=>?_,hm⟩
   obtain ⟨i,hi,rfl⟩:=List.mem_map.1 ht
   obtain ⟨k,hk,rfl⟩:=List.getElem_of_mem hi
   have h2:=hin k hk
   have:x.2.2.2.2.1[k].toNat < a.2.2.1.length:=by omega
   have e:a.2.2.1.getD x.2.2.2.2.1[k].toNat []=a.2.2.1[x.2.2.2.2.1[k].toNat]:=by simp [List.getD,this]
   rw [e]; exact hL _ (List.getElem_mem _)
 . intro k hk
   have h2:=hin k hk
   have h3:x.2.2.2.2.1[k].toNat < a.2.2.1.length:=by omega
   have e:a.2.2.1.getD x.2.2.2.2.1[k].toNat []=a.2.2.1[x.2.2.2.2.1[k].toNat]:=by simp [List.getD,h3]
   unfold fS
   simp only [dlt hk,cond_true,ai hk,Option.bind_some]
   rw [mn h2.1 h2.2,Option.bind_some,aD (by simp; omega),Option.bind_some,ap hk (by omega),f7 hk,List.map_append]
   simp only [List.map_cons,List.map_nil,e]
 . simp [fS]
theorem ni {R:Int} {names:List Int} (hR:0 < R) (hn:bad R names=false) (i:Nat):0≤names.getD i 0∧names.getD i 0 < R:=by
 by_cases q:i < names.length
 . have e:names.getD i 0=names[i]:=by simp [List.getD,q]
   rw [e]
   have:=List.any_eq_false.1 hn _ (List.getElem_mem q)
   simp at this; omega
 . have e:names.getD i 0=0:=by simp [List.getD,List.getElem?_eq_none (Nat.not_lt.1 q)]
   rw [e]; omega
theorem qW {R:Int} {names:List Int} (hR:0 < R) (hn:bad R names=false) {t:List St}:rin R (t.map (sbs names))=false:=by
 refine fu fun x hx=>?_
 obtain ⟨y,_,rfl⟩:=List.mem_map.1 hx
 exact ni hR hn _
theorem xy {R:Int} {s:Sg} {names:List Int} {C:List (List St)} {D:List St} (hR:0 < R) (hn:bad R names=false) (hC:∀ t∈C,t.length≤20∧rin R t=false) (hD:rin R D=false) (hs:s.2.1.length≤20∧s.2.2.1.length≤20∧s.2.2.2.length≤20):∀ n∈(csp s names C D).1,Gd R n:=by
 intro n h
 unfold csp at h
 split at h
 . simp at h
 split at h
 . simp at h
 split at h
 . simp at h
 split at h
 . have hb : ∀ k, k ≤ 20 → ∀ n ∈ bds names s.2.1 k, Gd R n := by
     intro k
     induction k with
     | zero=>intro _ n hn; simp [bds] at hn
     | succ k ih =>
       intro hk n hn'
       simp only [bds,List.mem_append,List.mem_singleton] at hn'
       rcases hn' with hn' | rfl
       . exact ih (by omega) n hn'
       . exact ⟨ni hR hn _,ni hR hn _,by simp,by show (0:Int)≤(k:Int); omega,by show (k:Int)≤_; omega⟩
   have hf : ∀ k, k ≤ 20 → ∀ n ∈ fls names s.2.2.1 C k, Gd R n := by
     intro k
     induction k with
     | zero=>intro _ n hn; simp [fls] at hn
     | succ k ih =>
       intro hk n hn'
       simp only [fls,List.mem_append] at hn'
       rcases hn' with hn' | hn'
       . exact ih (by omega) n hn'
       . unfold fl at hn'
         have hc:(C.getD k []).length≤20∧rin R (C.getD k [])=false:=by
           by_cases q:k < C.length
           . have e:C.getD k []=C[k]:=by simp [List.getD,q]
             rw [e]; exact hC _ (List.getElem_mem q)
           . have e:C.getD k []=[]:=by simp [List.getD,List.getElem?_eq_none (Nat.not_lt.1 q)]
             rw [e]; exact ⟨by simp,rfl⟩
         exact fg (by decide) _ _ _ (by omega) (by omega) hc.2 (qW hR hn) n hn'
   rcases List.mem_append.1 h with h | h
   . rcases List.mem_append.1 h with h | h
     . exact hb _ hs.1 n h
     . exact hf _ hs.2.1 n h
   . exact fg (by decide) _ _ 0 (by omega) (by simp; omega) (qW hR hn) hD n h
 . simp at h
theorem nY (x:Tm) (a:Ar) (l2:x.2.2.2.1.length≤20) (l3:x.2.2.2.2.1.length≤20) (l4:x.2.2.2.2.2.length≤20) (hR:a.2.2.2.1.length≤20) (hL:∀ t∈a.2.2.1,t.length≤20) (hS:∀ s∈a.2.2.2.2,s.2.1.length≤20∧s.2.2.1.length≤20∧s.2.2.2.length≤20∧∀ t∈s.2.2.1,t.length≤20) :
   ∃ l e,bV x a=some (l,e)∧bj x a=some (l,e)∧l.length≤4000∧((0 < a.2.1∧(∀ t∈a.2.2.1,rin a.2.1 t=false)∧rin a.2.1 a.2.2.2.1=false)→∀ n∈l,Gd a.2.1 n):=by
 have same:px x a=fS x a:=rfl
 unfold bV bj
 rw [show fW (x.1,x.2.1,x.2.2.1,x.2.2.2.1,x.2.2.2.2.1,x.2.2.2.2.2)=some (bD x) from q9 x,show dF (x.1,x.2.1,x.2.2.1,x.2.2.2.1,x.2.2.2.2.1,x.2.2.2.2.2)=some (bD x) from kh x,same]
 have hw:jV (x.1,x.2.1,x.2.2.1,x.2.2.2.1,x.2.2.2.2.1,x.2.2.2.2.2) (a.1,a.2.1,a.2.2.1,a.2.2.2.1,a.2.2.2.2)=some (!(bad a.1 x.2.2.2.1||bad (a.2.2.1.length:Int) x.2.2.2.2.1||bad a.2.1 x.2.2.2.2.2||(decide (x.1=4)&&(bad (a.2.2.1.length:Int) [x.2.2.1]||bad (a.2.2.2.2.length:Int) [x.2.1])))):=by
   unfold jV fT fM
   simp only [Option.bind_some,m5 x.2.2.2.1 _ (by omega:x.2.2.2.1.length≤1000),m5 x.2.2.2.2.1 _ (by omega:x.2.2.2.2.1.length≤1000),m5 x.2.2.2.2.2 _ (by omega:x.2.2.2.2.2.length≤1000)]
   have e (n i:Int):bad n [i]=(decide (i < 0)||decide (n≤i)):=by simp [bad]
   rw [e,e]
   cases bad a.1 x.2.2.2.1 <;> cases bad (a.2.2.1.length:Int) x.2.2.2.2.1 <;> cases bad a.2.1 x.2.2.2.2.2 <;> cases decide (x.1=4) <;> cases (decide (x.2.2.1 < 0)||decide ((a.2.2.1.length:Int)≤x.2.2.1)) <;> cases (decide (x.2.1 < 0)||decide ((a.2.2.2.2.length:Int)≤x.2.1)) <;> rfl
 rw [hw]
 by_cases hf:bD x=0
 . have o1 (i n:Int):cA [i] n=some (!bad n [i]):=iG [i] n (by simp)
   simp only [hf,Option.bind_some,decide_true,Bool.not_true,cond_false,iG x.2.2.2.1 _ (by omega:x.2.2.2.1.length≤1000),iG x.2.2.2.2.1 _ (by omega:x.2.2.2.2.1.length≤1000),iG x.2.2.2.2.2 _ (by omega:x.2.2.2.2.2.length≤1000),o1,Bool.not_not]
   have seven:∃ l e,(some (([]:List Nd),(7:Int)):Option (List Nd×Int))=some (l,e)∧(some (([]:List Nd),(7:Int)):Option (List Nd×Int))=some (l,e)∧l.length≤4000∧((0 < a.2.1∧(∀ t∈a.2.2.1,rin a.2.1 t=false)∧rin a.2.1 a.2.2.2.1=false)→∀ n∈l,Gd a.2.1 n):=⟨[],7,rfl,rfl,by simp,by simp⟩
   cases b1:bad a.1 x.2.2.2.1 with
   | true=>exact seven
   | false =>
     cases b2:bad (a.2.2.1.length:Int) x.2.2.2.2.1 with
     | true=>exact seven
     | false =>
       cases b3:bad a.2.1 x.2.2.2.2.2 with
       | true=>exact seven
       | false =>
         by_cases k4:x.1=4
         . have n3:¬ x.1=3:=by omega
           rw [decide_eq_true k4,decide_eq_false n3]
           cases b4:bad (a.2.2.1.length:Int) [x.2.2.1] with
           | true=>exact seven
           | false =>
             cases b5:bad (a.2.2.2.2.length:Int) [x.2.1] with
             | true=>exact seven
             | false =>
               obtain ⟨C,c1,c2,c3⟩:=wg l3 b2 hL
               simp [bad] at b4 b5
               simp only [Bool.or_self,Bool.and_false,Bool.not_false,Bool.not_true,cond_false,cond_true,Option.bind_some,c1,Bool.false_and,Bool.true_and]
               rw [mn b5.1 b5.2,mn b4.1 b4.2]
               have hs:=hS _ (List.getElem_mem (l:=a.2.2.2.2) (n:=x.2.1.toNat) (by omega))
               have ht:=hL _ (List.getElem_mem (l:=a.2.2.1) (n:=x.2.2.1.toNat) (by omega))
               have hDm:=List.getElem_mem (l:=a.2.2.1) (n:=x.2.2.1.toNat) (by omega)
               simp only [Option.bind_some]
               generalize a.2.2.2.2[x.2.1.toNat]=S at hs ⊢
               generalize a.2.2.1[x.2.2.1.toNat]=D at ht hDm ⊢
               rw [show iK (S.1,S.2.1,S.2.2.1,S.2.2.2) x.2.2.2.2.2 C D=_ from vp S _ C D hs.2.2.1 hs.2.2.2 c2 ht,show iE (S.1,S.2.1,S.2.2.1,S.2.2.2) x.2.2.2.2.2 C D=_ from vy S _ C D hs.2.2.1 hs.2.2.2 c2 ht]
               have hn:=yJ S x.2.2.2.2.2 C D ⟨hs.1,hs.2.1,hs.2.2.1⟩ c2
               exact ⟨(csp S x.2.2.2.2.2 C D).1,(csp S x.2.2.2.2.2 C D).2,rfl,rfl,hn,fun hg=>xy hg.1 b3 (fun t ht=>⟨c2 t ht,hg.2.1 t (c3 t ht)⟩) (hg.2.1 _ hDm) ⟨hs.1,hs.2.1,hs.2.2.1⟩⟩
         . rw [decide_eq_false k4]
           by_cases k3:x.1=3
           . rw [decide_eq_true k3]
             cases hz:a.2.2.1 with
             | nil=>exact ⟨[],14,by simp,by simp,by simp,by simp⟩
             | cons t ts =>
               have ht:=hL t (by rw [hz]; simp)
               have hl0:decide ((((t :: ts).length:Nat):Int)=0)=false:=decide_eq_false (by simp; omega)
               simp only [hl0,Bool.or_self,Bool.and_false,Bool.false_and,Bool.not_false,Bool.not_true,cond_false,cond_true,Option.bind_some,show aa (t :: ts) 0=some t from rfl]
               rw [kp _ _ _ _ (by omega) (by omega) (by omega),eV _ _ _ _ (by omega) (by omega) (by omega)]
               have hr:=bW 7 t a.2.2.2.1 0
               by_cases q:shp t a.2.2.2.1=true
               . exact ⟨rel 7 0 t a.2.2.2.1,0,by simp [q],by simp [q],by omega,fun hg=>fg (by decide) _ _ 0 (by omega) (by omega) (hg.2.1 t (by simp)) hg.2.2⟩
               . exact ⟨[],8,by simp [q],by simp [q],by simp,by simp⟩
           . rw [decide_eq_false k3]
             exact ⟨[],0,rfl,rfl,by simp,by simp⟩
 . exact ⟨[],bD x,by simp [hf],by simp [hf],by simp,by simp⟩
abbrev Az:Tp := .cons (.int .i64) (.cons (.sl (.cons (.int .i64) (.one (.int .i64)))) (.cons (.sl (.one (.sl (.cons (.int .i64) (.one .bool))))) (.one (.one (.sl (.cons (.int .i64) (.one .bool)))))))
abbrev Ak:Tp := .cons (.int .i64) (.cons (.int .i64) (.cons (.int .i64) (.cons (.sl (.int .i64)) (.cons (.sl (.int .i64)) (.one (.sl (.int .i64)))))))
abbrev oe:Tp := .cons (.int .i64) (.cons (.int .i64) (.cons (.sl (.cons (.int .i64) (.one (.int .i64)))) (.cons (.sl (.one (.sl (.cons (.int .i64) (.one .bool))))) (.cons (.one (.sl (.cons (.int .i64) (.one .bool)))) (.cons (.sl Az) (.one (.sl (.cons (.sl (.cons (.int .i64) (.cons (.int .i64) (.cons (.int .i64) (.cons (.int .i64) (.one .bool)))))) (.one Ak)))))))))
abbrev Blk:=List Stm×Tm
abbrev Bo:=Int×Int×List (Int×Int)×List (List St)×List St×List Sg×List Blk
def stm (l:List Blk):Nat:=(l.map (fun x=>x.1.length)).sum
structure Few (b:Bo):Prop where
 bounds:b.2.2.1.length≤20
 locals:b.2.2.2.1.length≤10
 loc:∀ t∈b.2.2.2.1,t.length≤20
 ret:b.2.2.2.2.1.length≤20
 sigs:b.2.2.2.2.2.1.length≤4
 sig:∀ s∈b.2.2.2.2.2.1,s.2.1.length≤20∧s.2.2.1.length≤20∧s.2.2.2.length≤20∧∀ t∈s.2.2.1,t.length≤20
 blocks:b.2.2.2.2.2.2.length≤8
 term:∀ x∈b.2.2.2.2.2.2,x.2.2.2.2.1.length≤20∧x.2.2.2.2.2.1.length≤20∧x.2.2.2.2.2.2.length≤20
 many:stm b.2.2.2.2.2.2≤24
structure Sm (b:Bo):Prop where
 bounds:b.2.2.1.length≤65536
 locals:b.2.2.2.1.length≤65536
 loc:∀ t∈b.2.2.2.1,t.length≤20
 ret:b.2.2.2.2.1.length≤20
 sigs:b.2.2.2.2.2.1.length≤65536
 sig:∀ s∈b.2.2.2.2.2.1,s.2.1.length≤20∧s.2.2.1.length≤20∧s.2.2.2.length≤20∧∀ t∈s.2.2.1,t.length≤20
 blocks:b.2.2.2.2.2.2.length≤65536
 term:∀ x∈b.2.2.2.2.2.2,x.2.2.2.2.1.length≤20∧x.2.2.2.2.2.1.length≤20∧x.2.2.2.2.2.2.length≤20
 many:stm b.2.2.2.2.2.2≤65536
theorem Few.sm {b:Bo} (h:Few b):Sm b:=⟨Nat.le_trans h.bounds (by omega),Nat.le_trans h.locals (by omega),h.loc,h.ret,Nat.le_trans h.sigs (by omega),h.sig,Nat.le_trans h.blocks (by omega),h.term,Nat.le_trans h.many (by omega)⟩
theorem sj {α:Type} (f:α→Nat):∀ (l:List α) (x:α),x∈l→f x≤(l.map f).sum
 | [],x,h=>by cases h
 | y :: l,x,h=>by
   rcases List.mem_cons.1 h with rfl | h
   . simp
   . have:=sj f l x h; simp; omega
theorem kJ {α:Type} (f:α→Nat) (l:List α) (k:Nat):((l.take k).map f).sum≤(l.map f).sum:=by
 have:l.map f=(l.take k).map f++(l.drop k).map f:=by rw [← List.map_append,List.take_append_drop]
 rw [this,List.sum_append]; omega
theorem Sm.stmts {b:Bo} (h:Sm b) {x:Blk} (hx:x∈b.2.2.2.2.2.2):x.1.length≤65536:=by
 have:=sj (fun x:Blk=>x.1.length) _ x hx
 have:=h.many; unfold stm at this; omega
theorem iU {X:List Blk} {k:Nat} (hk:k < X.length):stm (X.take (k + 1))=stm (X.take k) + X[k].1.length:=by
 unfold stm; rw [f7 hk,List.map_append,List.sum_append]; simp
theorem xx {b:Bo} (h:Tp.Fit oe b):∀ x∈b.2.2.2.2.2.2,x.1.length≤140737488351232:=by
 obtain ⟨_,_,_,_,_,_,_,h2⟩:=h
 exact fun x hx=>(h2 x hx).1.1
theorem zm (b : Bo) (hb : ∀ x ∈ b.2.2.2.2.2.2, x.1.length ≤ 140737488351232) : eN b = some false ∨ (eN b = some true ∧ Few b) := by
 obtain ⟨u,n,B,L,R,S,X⟩:=b
 unfold eN
 dsimp only at *
 have e1:((((decide (20 < (((B.length:Nat):Int))))||(decide (10 < (((L.length:Nat):Int)))))||(decide (4 < (((S.length:Nat):Int)))))||(decide (8 < (((X.length:Nat):Int)))))=decide (20 < B.length∨10 < L.length∨4 < S.length∨8 < X.length):=by
   by_cases h1:20 < B.length <;> by_cases h2:10 < L.length <;> by_cases h3:4 < S.length <;> by_cases h4:8 < X.length <;> simp [h1,h2,h3,h4] <;> omega
 rw [e1]
 by_cases h0:20 < B.length∨10 < L.length∨4 < S.length∨8 < X.length
 . rw [decide_eq_true h0]; exact .inl rfl
 . rw [decide_eq_false h0,cond_false,oo]
   by_cases q:R.length≤20
   . have e:decide (((R.length:Nat):Int)≤20)=true:=by simp; omega
     simp only [Option.bind_some,e,Bool.not_true,cond_false]
     rw [uc (body:=pw (u,n,B,L,R,S,X)) (xa:=L) (by omega) (fun i=>rfl)]
     cases hf:L.any (fun t=>!decide (t.length≤20)) with
     | true=>exact .inl rfl
     | false =>
       simp only [Bool.false_eq_true,if_false,Option.bind_some]
       have hS:∃ t,loop (fQ (u,n,B,L,R,S,X)) 0=some t∧(t = .inr false∨(t = .inl ()∧∀ s∈S,s.2.1.length≤20∧s.2.2.1.length≤20∧s.2.2.2.length≤20∧∀ t∈s.2.2.1,t.length≤20)):=by
         have hl:=eY (body:=fQ (u,n,B,L,R,S,X)) (fun k=>∃ h:k < S.length,dH S[k]=some false) (fun k:Nat=>(k:Int)) S.length (fun _ => .inr false) (.inl ()) ?_ ?_ ?_
         . rcases hl with ⟨k,_,_,_,h4⟩ | ⟨h1,h2⟩
           . exact ⟨_,h4,.inl rfl⟩
           . refine ⟨_,h2,.inr ⟨rfl,fun s hs=>?_⟩⟩
             obtain ⟨k,hk,rfl⟩:=List.getElem_of_mem hs
             rcases th S[k] with h | ⟨h,f1,f2,f3,f4⟩
             . exact absurd ⟨hk,h⟩ (h1 k hk)
             . exact ⟨f1,f2,f3,f4⟩
         . intro k hk hp
           unfold fQ
           rcases th S[k] with h | ⟨h,_⟩
           . exact absurd ⟨hk,h⟩ hp
           . simp only [dlt hk,cond_true,ai hk,Option.bind_some,show dH (S[k].1,S[k].2.1,S[k].2.2.1,S[k].2.2.2)=_ from h,ap hk (by omega:S.length≤9223372036854775807)]
             rfl
         . rintro k hk ⟨_,hp⟩
           unfold fQ
           simp only [dlt hk,cond_true,ai hk,Option.bind_some,show dH (S[k].1,S[k].2.1,S[k].2.2.1,S[k].2.2.2)=_ from hp]
           rfl
         . simp [fQ]
       obtain ⟨t,ht,hS⟩:=hS
       rw [ht]
       rcases hS with rfl | ⟨rfl,hS⟩
       . exact .inl rfl
       . simp only [Option.bind_some]
         have hX:=eY (body:=eD (u,n,B,L,R,S,X)) (fun k=>∃ h:k < X.length,(((decide (20 < ((((X[k]).2.2.2.2.1.length:Nat):Int))))||(decide (20 < ((((X[k]).2.2.2.2.2.1.length:Nat):Int)))))||(decide (20 < ((((X[k]).2.2.2.2.2.2.length:Nat):Int)))))=true) (fun k:Nat=>(((stm (X.take k):Nat):Int),(k:Int))) X.length (fun _ => .inr false) (.inl ((stm X:Nat):Int)) ?_ ?_ ?_
         . rcases hX with ⟨k,_,_,_,h4⟩ | ⟨h1,h2⟩
           . have h4':loop (eD (u,n,B,L,R,S,X)) (0,0)=some (.inr false):=by simpa [stm] using h4
             rw [h4']; exact .inl rfl
           . have h2':loop (eD (u,n,B,L,R,S,X)) (0,0)=some (.inl ((stm X:Nat):Int)):=by simpa [stm] using h2
             rw [h2']
             by_cases hm:stm X≤24
             . refine .inr ⟨by simp; omega,⟨by dsimp only; omega,by dsimp only; omega,rX hf,q,by dsimp only; omega,hS,by dsimp only; omega,fun x hx=>?_,hm⟩⟩
               obtain ⟨k,hk,rfl⟩:=List.getElem_of_mem hx
               have hn:=h1 k hk
               dsimp only at hk hn
               have hn2:(((decide (20 < ((((X[k]).2.2.2.2.1.length:Nat):Int))))||(decide (20 < ((((X[k]).2.2.2.2.2.1.length:Nat):Int)))))||(decide (20 < ((((X[k]).2.2.2.2.2.2.length:Nat):Int)))))=false:=by
                 cases hc:(((decide (20 < ((((X[k]).2.2.2.2.1.length:Nat):Int))))||(decide (20 < ((((X[k]).2.2.2.2.2.1.length:Nat):Int)))))||(decide (20 < ((((X[k]).2.2.2.2.2.2.length:Nat):Int))))) with
                 | false=>rfl
                 | true=>exact absurd ⟨hk,hc⟩ hn
               simp at hn2
               dsimp only
               omega
             . refine .inl ?_
               simp; omega
         . intro k hk hp
           have hn2:(((decide (20 < ((((X[k]).2.2.2.2.1.length:Nat):Int))))||(decide (20 < ((((X[k]).2.2.2.2.2.1.length:Nat):Int)))))||(decide (20 < ((((X[k]).2.2.2.2.2.2.length:Nat):Int)))))=false:=by
             cases hc:(((decide (20 < ((((X[k]).2.2.2.2.1.length:Nat):Int))))||(decide (20 < ((((X[k]).2.2.2.2.2.1.length:Nat):Int)))))||(decide (20 < ((((X[k]).2.2.2.2.2.2.length:Nat):Int))))) with
             | false=>rfl
             | true=>exact absurd ⟨hk,hc⟩ hp
           have a1:=hb X[k] (List.getElem_mem hk)
           have a2:stm (X.take k)≤k * 140737488351232:=by
             unfold stm
             have:∀ q:List Blk,(∀ x∈q,x∈X)→(q.map (fun x=>x.1.length)).sum≤q.length * 140737488351232:=by
               intro q
               induction q with
               | nil=>intro _; simp
               | cons x q ih =>
                 intro hq
                 have:=ih (fun y hy=>hq y (by simp [hy]))
                 have:=hb x (hq x (by simp))
                 simp only [List.map_cons,List.sum_cons,List.length_cons,Nat.succ_mul]; omega
             have h3:=this (X.take k) (fun x hx=>List.mem_of_mem_take hx)
             rw [List.length_take,Nat.min_eq_left (by omega)] at h3
             exact h3
           have a3:k≤8:=by omega
           have a4:k * 140737488351232≤8 * 140737488351232:=Nat.mul_le_mul_right _ a3
           unfold eD
           simp only [dlt hk,cond_true,ai hk,Option.bind_some,hn2,cond_false,ap hk (by omega:X.length≤9223372036854775807)]
           rw [w64 (by omega) (by omega),iU hk]
           simp
         . rintro k hk ⟨_,hp⟩
           unfold eD
           simp only [dlt hk,cond_true,ai hk,Option.bind_some,hp]
         . unfold eD
           simp
   . have e:decide (((R.length:Nat):Int)≤20)=false:=by simp; omega
     simp only [Option.bind_some,e]; exact .inl rfl
section
abbrev Flt:=Int×Int×Int×Int
def sE (L:List (List St)) (R:Int) (x:Stm):Int:=((a8 x L R).getD ([],0)).2
def tE (a:Ar) (x:Tm):Int:=((bj x a).getD ([],0)).2
def ay (b:Bo):Ar:=(((b.2.2.2.2.2.2.length:Nat):Int),b.2.1,b.2.2.2.1,b.2.2.2.2.1,b.2.2.2.2.2.1)
def bC (b:Bo):Flt:=if b.1 < 1∨b.2.1 < b.1 then (7,0,0,0) else if 65536 < b.2.1 then (6,0,0,0) else (0,0,0,0)
def cv (b:Bo):Flt:=match b.2.2.1.findIdx? (aB b.1) with | some k=>(7,1,(k:Int),0) | none=>(0,0,0,0)
def bL (b:Bo):Flt:=if b.2.2.2.1=[] then (14,2,0,0) else match b.2.2.2.1.findIdx? (fun t=>!decide (rck b.2.1 t=0)) with | some k=>(rck b.2.1 (b.2.2.2.1.getD k []),2,(k:Int),0) | none=>(0,0,0,0)
def aZ (b:Bo):Flt:=if rck b.1 b.2.2.2.2.1=0 then if shp b.2.2.2.2.1 (b.2.2.2.1.getD 0 []) then (0,3,0,0) else (8,3,0,0) else (rck b.1 b.2.2.2.2.1,3,0,0)
def ca (b:Bo):Flt:=match b.2.2.2.2.2.1.findIdx? (fun s=>!decide (chk s=0)) with | some k=>(chk (b.2.2.2.2.2.1.getD k (0,[],[],[])),4,(k:Int),0) | none=>(0,0,0,0)
def cT (b:Bo):Flt:=if b.2.2.2.2.2.2=[] then (14,5,0,0) else (0,0,0,0)
def aE (b:Bo) (x:Blk):Option (Int×Int×Int) :=
 match x.1.findIdx? (fun s=>!decide (sE b.2.2.2.1 b.2.1 s=0)) with
 | some j=>some (sE b.2.2.2.1 b.2.1 (x.1.getD j (0,0,0,0,false)),6,(j:Int))
 | none=>if tE (ay b) x.2=0 then none else some (tE (ay b) x.2,7,0)
def bK (k:Nat) (o:Option (Int×Int×Int)):Flt:=match o with | some (e,p,j)=>(e,p,(k:Int),j) | none=>(0,0,0,0)
def aH (b:Bo):Flt:=match b.2.2.2.2.2.2.findIdx? (fun x=>(aE b x).isSome) with | some k=>bK k (aE b (b.2.2.2.2.2.2.getD k ([],0,0,0,[],[],[]))) | none=>(0,0,0,0)
def or0 (a b:Flt):Flt:=if a.1=0 then b else a
def vck (b:Bo):Flt:=or0 (bC b) (or0 (cv b) (or0 (bL b) (or0 (aZ b) (or0 (ca b) (or0 (cT b) (aH b))))))
theorem qa {t:List St} (n:Int) (h:t.length≤20):cB t n=some (rck n t):=kg t n (by omega)
section
variable {b:Bo} (h:Sm b)
include h
theorem tq {x:Stm}:∃ l,cd x b.2.2.2.1 b.2.1=some (l,sE b.2.2.2.1 b.2.1 x)∧a8 x b.2.2.2.1 b.2.1=some (l,sE b.2.2.2.1 b.2.1 x):=by
 obtain ⟨l,e,h1,h2,_⟩:=mV x b.2.2.2.1 b.2.1 h.loc
 have:sE b.2.2.2.1 b.2.1 x=e:=by unfold sE; rw [h2]; rfl
 exact ⟨l,by rw [h1,this],by rw [h2,this]⟩
theorem tJ {x:Blk} (hx:x∈b.2.2.2.2.2.2):∃ l,bV x.2 (ay b)=some (l,tE (ay b) x.2)∧bj x.2 (ay b)=some (l,tE (ay b) x.2):=by
 obtain ⟨a1,a2,a3⟩:=h.term x hx
 obtain ⟨l,e,h1,h2,_⟩:=nY x.2 (ay b) a1 a2 a3 h.ret h.loc h.sig
 have:tE (ay b) x.2=e:=by unfold tE; rw [h2]; rfl
 exact ⟨l,by rw [h1,this],by rw [h2,this]⟩
theorem sgl {s:Sg} (hs:s∈b.2.2.2.2.2.1):cg s=some (chk s):=by
 obtain ⟨a1,a2,a3,a4⟩:=h.sig s hs
 exact pT s (by omega) (fun t ht=>by have:=a4 t ht; omega)
theorem vA:eP b=some (or0 (bC b) (cv b)):=by
 have h1:=h.bounds
 obtain ⟨u,n,B,L,R,S,X⟩:=b
 unfold eP bC cv or0
 dsimp only at *
 by_cases q:u < 1∨n < u
 . have:(decide (u < 1)||decide (n < u))=true:=by simpa using q
   rw [this,if_pos q]; rfl
 . have:(decide (u < 1)||decide (n < u))=false:=by simpa using q
   rw [this,if_neg q,cond_false]
   by_cases q2:65536 < n
   . rw [decide_eq_true q2,if_pos q2]; rfl
   . rw [decide_eq_false q2,if_neg q2,cond_false,decide_eq_false (by omega),cond_false,aL (body:=eG (u,n,B,L,R,S,X)) B (aB u) (fun k=>(.inr (7,1,(k:Int),0):Unit⊕Flt)) (.inl ()) ?_ ?_]
     . cases B.findIdx? (aB u) <;> rfl
     . intro k hk
       unfold eG
       simp only [dlt hk,cond_true,ai hk,Option.bind_some,ap hk (by omega:B.length≤9223372036854775807)]
       show cond (aB u B[k]) _ _=_
       cases aB u B[k] <;> rfl
     . simp [eG]
theorem uI:eO b=some (or0 (bL b) (or0 (aZ b) (ca b))):=by
 have h1:=h.locals
 have h2:=h.sigs
 have h3:=h.ret
 have h4:=h.loc
 obtain ⟨u,n,B,L,R,S,X⟩:=b
 unfold eO bL aZ ca
 dsimp only at *
 by_cases q:L=[]
 . subst q; rfl
 . have q' : ¬ ((L.length : Nat) : Int) = 0 := fun hc => q (List.length_eq_zero_iff.1 (by omega))
   rw [if_neg q,decide_eq_false q',cond_false,decide_eq_false (by omega),cond_false,aL (body:=eB (u,n,B,L,R,S,X)) L (fun t=>!decide (rck n t=0)) (fun k=>(.inr (rck n (L.getD k []),2,(k:Int),0):Unit⊕Flt)) (.inl ()) ?_ ?_]
   . cases hf:L.findIdx? (fun t=>!decide (rck n t=0)) with
     | some k =>
       obtain ⟨hk,h5,_⟩:=List.findIdx?_eq_some_iff_getElem.1 hf
       have e:L.getD k []=L[k]:=by simp [List.getD,hk]
       have:¬ rck n L[k]=0:=by simpa using h5
       simp only [or0,e,if_neg this]; rfl
     | none =>
       have hp:0 < L.length:=List.length_pos_iff.2 q
       have e0:L.getD 0 []=L[0]:=by simp [List.getD,hp]
       simp only [Option.bind_some,fY]
       by_cases q2:rck u R=0
       . have g0:aa L 0=some L[0]:=ai (k:=0) hp
         simp only [q2,decide_true,Bool.not_true,cond_false,g0,Option.bind_some,e0]
         rw [iM _ _ (by have:=h4 L[0] (List.getElem_mem hp); omega),dK,Option.bind_some]
         cases hs:shp R L[0] with
         | false=>rfl
         | true =>
           simp only [Bool.not_true,cond_false]
           rw [decide_eq_false (by omega),cond_false,aL (body:=eC (u,n,B,L,R,S,X)) S (fun s=>!decide (chk s=0)) (fun k=>(.inr (chk (S.getD k (0,[],[],[])),4,(k:Int),0):Unit⊕Flt)) (.inl ()) ?_ ?_]
           . cases S.findIdx? (fun s=>!decide (chk s=0)) <;> rfl
           . intro k hk
             unfold eC
             have e:S.getD k (0,[],[],[])=S[k]:=by simp [List.getD,hk]
             simp only [dlt hk,cond_true,ai hk,Option.bind_some,ap hk (by omega:S.length≤9223372036854775807),e,show dE (S[k].1,S[k].2.1,S[k].2.2.1,S[k].2.2.2)=_ from mW S[k]]
             cases (!decide (chk S[k]=0)) <;> rfl
           . simp [eC]
       . simp [q2,or0]
   . intro k hk
     unfold eB
     have e:L.getD k []=L[k]:=by simp [List.getD,hk]
     simp only [dlt hk,cond_true,ai hk,Option.bind_some,ap hk (by omega:L.length≤9223372036854775807),e,fY]
     cases (!decide (rck n L[k]=0)) <;> rfl
   . simp [eB]
theorem uB:cY b=some (or0 (cT b) (aH b)):=by
 have h1:=h.blocks
 have h2:=h.many
 have hst:=fun x (hx:x∈b.2.2.2.2.2.2)=>h.stmts hx
 have hT:=fun x (hx:x∈b.2.2.2.2.2.2)=>tJ h hx
 have hS:=fun x=>tq h (x:=x)
 unfold cY cT aH
 by_cases q:b.2.2.2.2.2.2=[]
 . rw [if_pos q,q]; rfl
 . have q' : ¬ ((b.2.2.2.2.2.2.length : Nat) : Int) = 0 := fun hc => q (List.length_eq_zero_iff.1 (by omega))
   rw [if_neg q,decide_eq_false q',cond_false,decide_eq_false (by omega),cond_false]
   have hl1:=bz (body:=fO b) (fun k:Nat=>(((stm (b.2.2.2.2.2.2.take k):Nat):Int),(k:Int))) b.2.2.2.2.2.2.length (b := .inl ()) ?_ ?_
   . have hl1':loop (fO b) (0,0)=some (.inl ()):=by simpa [stm] using hl1
     rw [hl1',Option.bind_some]
     dsimp only
     rw [aL (body:=ep b) b.2.2.2.2.2.2 (fun x=>(aE b x).isSome) (fun k=>(.inr (bK k (aE b (b.2.2.2.2.2.2.getD k ([],0,0,0,[],[],[])))):Unit⊕Flt)) (.inl ()) ?_ ?_]
     . cases b.2.2.2.2.2.2.findIdx? (fun x=>(aE b x).isSome) <;> rfl
     . intro k hk
       unfold ep
       have e:b.2.2.2.2.2.2.getD k ([],0,0,0,[],[],[])=b.2.2.2.2.2.2[k]:=by simp [List.getD,hk]
       obtain ⟨l,_,hT'⟩:=hT _ (List.getElem_mem hk)
       have hst':=hst _ (List.getElem_mem hk)
       simp only [dlt hk,cond_true,ai hk,Option.bind_some,ap hk (by omega:b.2.2.2.2.2.2.length≤9223372036854775807),e]
       generalize b.2.2.2.2.2.2[k]=x at *
       rw [aL (body:=eo b k x) x.1 (fun s=>!decide (sE b.2.2.2.1 b.2.1 s=0)) (fun j=>(.inr (.inr (.inr (sE b.2.2.2.1 b.2.1 (x.1.getD j (0,0,0,0,false)),6,(k:Int),(j:Int)))):Unit⊕(Int⊕(Unit⊕Flt)))) (.inl ()) ?_ ?_]
       . unfold aE
         cases hf:x.1.findIdx? (fun s=>!decide (sE b.2.2.2.1 b.2.1 s=0)) with
         | some j=>rfl
         | none =>
           simp only [Option.bind_some]
           rw [show bj (x.2.1,x.2.2.1,x.2.2.2.1,x.2.2.2.2.1,x.2.2.2.2.2.1,x.2.2.2.2.2.2) (((b.2.2.2.2.2.2.length:Nat):Int),b.2.1,b.2.2.2.1,b.2.2.2.2.1,b.2.2.2.2.2.1)=_ from hT',Option.bind_some]
           by_cases q3:tE (ay b) x.2=0
           . simp [q3]
           . simp [q3,bK]
       . intro j hj
         obtain ⟨l,_,hS'⟩:=hS x.1[j]
         have e2:x.1.getD j (0,0,0,0,false)=x.1[j]:=by simp [List.getD,hj]
         unfold eo
         simp only [dlt hj,cond_true,ai hj,Option.bind_some,ap hj (by omega:x.1.length≤9223372036854775807),e2,show a8 (x.1[j].1,x.1[j].2.1,x.1[j].2.2.1,x.1[j].2.2.2.1,x.1[j].2.2.2.2) b.2.2.2.1 b.2.1=_ from hS']
         cases (!decide (sE b.2.2.2.1 b.2.1 x.1[j]=0)) <;> rfl
       . simp [eo]
     . simp [ep]
   . intro k hk
     have a1:=iU hk
     have a2:=kJ (fun x:Blk=>x.1.length) b.2.2.2.2.2.2 (k + 1)
     have a3:stm (b.2.2.2.2.2.2.take (k + 1))≤stm b.2.2.2.2.2.2:=a2
     unfold fO
     simp only [dlt hk,cond_true,ai hk,Option.bind_some,ap hk (by omega:b.2.2.2.2.2.2.length≤9223372036854775807)]
     rw [w64 (by omega) (by omega),decide_eq_false (by omega),cond_false,a1]
     simp
   . unfold fO
     simp
theorem uT:da b=some (vck b):=by
 unfold da vck
 rw [show eP b=_ from vA h,show eO b=_ from uI h,show cY b=_ from uB h]
 generalize bC b=v1
 generalize cv b=v2
 generalize bL b=v3
 generalize aZ b=v4
 generalize ca b=v5
 generalize or0 (cT b) (aH b)=v6
 simp only [Option.bind_some]
 have key:∀ a c:Flt,(cond (!decide ((or0 a c).1=0)) (some ((or0 a c).1,(or0 a c).2.1,(or0 a c).2.2.1,(or0 a c).2.2.2)) none:Option Flt)=(cond (!decide ((or0 a c).1=0)) (some (or0 a c)) none):=fun a c=>rfl
 unfold or0
 by_cases q1:v1.1=0 <;> by_cases q2:v2.1=0 <;> by_cases q3:v3.1=0 <;> by_cases q4:v4.1=0 <;> by_cases q5:v5.1=0 <;> simp [q1,q2,q3,q4,q5]
end
end
section
theorem qg {b:Bo}:(aH b).1=0→aH b=(0,0,0,0):=by
 unfold aH
 cases hf:b.2.2.2.2.2.2.findIdx? (fun x=>(aE b x).isSome) with
 | none=>intro _; rfl
 | some k =>
   obtain ⟨hk,h5,_⟩:=List.findIdx?_eq_some_iff_getElem.1 hf
   have e:b.2.2.2.2.2.2.getD k ([],0,0,0,[],[],[])=b.2.2.2.2.2.2[k]:=by simp [List.getD,hk]
   simp only [e]
   intro hz
   exfalso
   generalize b.2.2.2.2.2.2[k]=x at *
   unfold aE at hz h5
   cases hg:x.1.findIdx? (fun s=>!decide (sE b.2.2.2.1 b.2.1 s=0)) with
   | some j =>
     obtain ⟨hj,h6,_⟩:=List.findIdx?_eq_some_iff_getElem.1 hg
     have e2:x.1.getD j (0,0,0,0,false)=x.1[j]:=by simp [List.getD,hj]
     rw [hg] at hz
     simp only [bK,e2] at hz
     simp [hz] at h6
   | none =>
     rw [hg] at hz h5
     by_cases q:tE (ay b) x.2=0
     . simp [q] at h5
     . simp [q,bK] at hz
section
variable {b:Bo} (h:Sm b)
include h
theorem vr:ew b=some (cv b):=by
 have h1:=h.bounds
 unfold ew cv
 rw [decide_eq_false (by omega),cond_false,aL (body:=ed b) b.2.2.1 (aB b.1) (fun k=>(.inr (7,1,(k:Int),0):Unit⊕Flt)) (.inl ()) ?_ ?_]
 . cases b.2.2.1.findIdx? (aB b.1) <;> rfl
 . intro k hk
   unfold ed ic aW
   simp only [dlt hk,cond_true,ai hk,Option.bind_some,ap hk (by omega:b.2.2.1.length≤9223372036854775807)]
   generalize b.2.2.1[k]=x
   obtain ⟨x1,x2⟩:=x
   have e (x:Int):(!((decide (0≤x))&&(decide (x < b.1))))=(decide (x < 0)||decide (b.1≤x)):=by
     by_cases p:x < 0 <;> by_cases q:b.1≤x <;> simp [p,q] <;> omega
   simp only [e,aB]
   by_cases p1:x1 < 0 <;> by_cases p2:b.1≤x1 <;> by_cases p3:x2 < 0 <;> by_cases p4:b.1≤x2 <;> simp [p1,p2,p3,p4]
 . simp [ed]
theorem ya:eA b=some (bL b):=by
 have h1:=h.locals
 have h4:=h.loc
 unfold eA bL
 by_cases q:b.2.2.2.1=[]
 . rw [if_pos q,q]; rfl
 . have q':¬ ((b.2.2.2.1.length:Nat):Int)=0:=fun hc=>q (List.length_eq_zero_iff.1 (by omega))
   rw [if_neg q,decide_eq_false q',cond_false,decide_eq_false (by omega),cond_false,aL (body:=d9 b) b.2.2.2.1 (fun t=>!decide (rck b.2.1 t=0)) (fun k=>(.inr (rck b.2.1 (b.2.2.2.1.getD k []),2,(k:Int),0):Unit⊕Flt)) (.inl ()) ?_ ?_]
   . cases b.2.2.2.1.findIdx? (fun t=>!decide (rck b.2.1 t=0)) <;> rfl
   . intro k hk
     unfold d9 aW
     have e:b.2.2.2.1.getD k []=b.2.2.2.1[k]:=by simp [List.getD,hk]
     simp only [dlt hk,cond_true,ai hk,Option.bind_some,ap hk (by omega:b.2.2.2.1.length≤9223372036854775807),e,qa _ (h4 _ (List.getElem_mem hk))]
     cases (!decide (rck b.2.1 b.2.2.2.1[k]=0)) <;> rfl
   . simp [d9]
theorem xJ (hL:b.2.2.2.1≠[]):cZ b=some (aZ b):=by
 have h3:=h.ret
 unfold cZ aZ
 have hp:0 < b.2.2.2.1.length:=List.length_pos_iff.2 hL
 have e0:b.2.2.2.1.getD 0 []=b.2.2.2.1[0]:=by simp [List.getD,hp]
 have g0:aa b.2.2.2.1 0=some b.2.2.2.1[0]:=ai (k:=0) hp
 rw [qa _ h3,Option.bind_some,g0,Option.bind_some,eT _ _ (by omega),e0,Option.bind_some]
 by_cases q:rck b.1 b.2.2.2.2.1=0
 . rw [if_pos q,q]
   cases shp b.2.2.2.2.1 b.2.2.2.1[0] <;> rfl
 . rw [if_neg q,decide_eq_false q]; rfl
theorem xZ:eF b=some (ca b):=by
 have h1:=h.sigs
 have hs:=fun s (hs:s∈b.2.2.2.2.2.1)=>sgl h hs
 unfold eF ca
 rw [decide_eq_false (by omega),cond_false,aL (body:=ej b) b.2.2.2.2.2.1 (fun s=>!decide (chk s=0)) (fun k=>(.inr (chk (b.2.2.2.2.2.1.getD k (0,[],[],[])),4,(k:Int),0):Unit⊕Flt)) (.inl ()) ?_ ?_]
 . cases b.2.2.2.2.2.1.findIdx? (fun s=>!decide (chk s=0)) <;> rfl
 . intro k hk
   unfold ej aW
   have e:b.2.2.2.2.2.1.getD k (0,[],[],[])=b.2.2.2.2.2.1[k]:=by simp [List.getD,hk]
   have hs':=hs _ (List.getElem_mem hk)
   simp only [dlt hk,cond_true,ai hk,Option.bind_some,ap hk (by omega:b.2.2.2.2.2.1.length≤9223372036854775807),e,show cg (b.2.2.2.2.2.1[k].1,b.2.2.2.2.2.1[k].2.1,b.2.2.2.2.2.1[k].2.2.1,b.2.2.2.2.2.1[k].2.2.2)=_ from hs']
   cases (!decide (chk b.2.2.2.2.2.1[k]=0)) <;> rfl
 . simp [ej]
theorem yd:er b=some (cT b):=by
 have h1:=h.blocks
 have h2:=h.many
 unfold er cT
 by_cases q:b.2.2.2.2.2.2=[]
 . rw [if_pos q,q]; rfl
 . have q':¬ ((b.2.2.2.2.2.2.length:Nat):Int)=0:=fun hc=>q (List.length_eq_zero_iff.1 (by omega))
   rw [if_neg q,decide_eq_false q',cond_false,decide_eq_false (by omega),cond_false]
   have hl1:=bz (body:=fN b) (fun k:Nat=>(((stm (b.2.2.2.2.2.2.take k):Nat):Int),(k:Int))) b.2.2.2.2.2.2.length (b := .inl ()) ?_ ?_
   . have hl1':loop (fN b) (0,0)=some (.inl ()):=by simpa [stm] using hl1
     rw [hl1']; rfl
   . intro k hk
     have a1:=iU hk
     have a2:=kJ (fun x:Blk=>x.1.length) b.2.2.2.2.2.2 (k + 1)
     have a3:stm (b.2.2.2.2.2.2.take (k + 1))≤stm b.2.2.2.2.2.2:=a2
     unfold fN aW
     simp only [dlt hk,cond_true,ai hk,Option.bind_some,ap hk (by omega:b.2.2.2.2.2.2.length≤9223372036854775807)]
     rw [w64 (by omega) (by omega),decide_eq_false (by omega),cond_false,a1]
     simp
   . unfold fN
     simp
theorem xo:cX b=some (aH b):=by
 have h1:=h.blocks
 have hst:=fun x (hx:x∈b.2.2.2.2.2.2)=>h.stmts hx
 have hT:=fun x (hx:x∈b.2.2.2.2.2.2)=>tJ h hx
 have hS:=fun x=>tq h (x:=x)
 unfold cX aH
 rw [aL (body:=ek b) b.2.2.2.2.2.2 (fun x=>(aE b x).isSome) (fun k=>(.inr (bK k (aE b (b.2.2.2.2.2.2.getD k ([],0,0,0,[],[],[])))):Unit⊕Flt)) (.inl ()) ?_ ?_]
 . cases b.2.2.2.2.2.2.findIdx? (fun x=>(aE b x).isSome) <;> rfl
 . intro k hk
   unfold ek
   have e:b.2.2.2.2.2.2.getD k ([],0,0,0,[],[],[])=b.2.2.2.2.2.2[k]:=by simp [List.getD,hk]
   obtain ⟨l,hT',_⟩:=hT _ (List.getElem_mem hk)
   have hst':=hst _ (List.getElem_mem hk)
   simp only [dlt hk,cond_true,ai hk,Option.bind_some,ap hk (by omega:b.2.2.2.2.2.2.length≤9223372036854775807),e]
   generalize b.2.2.2.2.2.2[k]=x at *
   rw [aL (body:=eh b k x) x.1 (fun s=>!decide (sE b.2.2.2.1 b.2.1 s=0)) (fun j=>(.inr (.inr (.inr (sE b.2.2.2.1 b.2.1 (x.1.getD j (0,0,0,0,false)),6,(k:Int),(j:Int)))):Unit⊕(Int⊕(Unit⊕Flt)))) (.inl ()) ?_ ?_]
   . unfold aE
     cases hf:x.1.findIdx? (fun s=>!decide (sE b.2.2.2.1 b.2.1 s=0)) with
     | some j=>rfl
     | none =>
       simp only [Option.bind_some]
       unfold aW jZ
       rw [Option.bind_some,show bV (x.2.1,x.2.2.1,x.2.2.2.1,x.2.2.2.2.1,x.2.2.2.2.2.1,x.2.2.2.2.2.2) (((b.2.2.2.2.2.2.length:Nat):Int),b.2.1,b.2.2.2.1,b.2.2.2.2.1,b.2.2.2.2.2.1)=_ from hT',Option.bind_some]
       by_cases q3:tE (ay b) x.2=0
       . simp [q3]
       . simp [q3,bK]
   . intro j hj
     obtain ⟨l,hS',_⟩:=hS x.1[j]
     have e2:x.1.getD j (0,0,0,0,false)=x.1[j]:=by simp [List.getD,hj]
     unfold eh aW j4
     simp only [dlt hj,cond_true,ai hj,Option.bind_some,ap hj (by omega:x.1.length≤9223372036854775807),e2,show cd (x.1[j].1,x.1[j].2.1,x.1[j].2.2.1,x.1[j].2.2.2.1,x.1[j].2.2.2.2) b.2.2.2.1 b.2.1=_ from hS']
     cases (!decide (sE b.2.2.2.1 b.2.1 x.1[j]=0)) <;> rfl
   . simp [eh]
 . simp [ek]
theorem pG:dD b=some (vck b):=by
 unfold dD vck aW
 have hh:eE b=some (bC b):=by
   unfold eE bC
   by_cases q:b.1 < 1∨b.2.1 < b.1
   . have:(decide (b.1 < 1)||decide (b.2.1 < b.1))=true:=by simpa using q
     rw [this,if_pos q]; rfl
   . have:(decide (b.1 < 1)||decide (b.2.1 < b.1))=false:=by simpa using q
     rw [this,if_neg q,cond_false]
     by_cases q2:65536 < b.2.1
     . rw [decide_eq_true q2,if_pos q2]; rfl
     . rw [decide_eq_false q2,if_neg q2]; rfl
 rw [Option.bind_some,show eE b=_ from hh,show ew b=_ from vr h,show eA b=_ from ya h,
   show eF b=_ from xZ h,show er b=_ from yd h,show cX b=_ from xo h]
 have hret:(bL b).1=0→cZ b=some (aZ b):=by
   intro hz
   refine xJ h (fun hc=>?_)
   unfold bL at hz
   rw [if_pos hc] at hz; cases hz
 have hz6:(aH b).1=0→aH b=(0,0,0,0):=qg
 generalize bC b=v1
 generalize cv b=v2
 generalize bL b=v3 at *
 generalize aZ b=v4 at *
 generalize ca b=v5
 generalize cT b=v6
 generalize aH b=v7 at *
 unfold or0
 by_cases q1:v1.1=0 <;> by_cases q2:v2.1=0 <;> by_cases q3:v3.1=0 <;> by_cases q4:v4.1=0 <;> by_cases q5:v5.1=0 <;> by_cases q6:v6.1=0 <;> by_cases q7:v7.1=0 <;> simp_all
end
end
theorem tc (L:List (List St)) (R:Int):sE L R (0,0,0,0,false)=0:=by
 unfold sE
 have:a8 (0,0,0,0,false) L R=some ([],0):=by
   unfold a8
   rw [show eQ ((0:Int),0,0,0,false)=_ from ko (0,0,0,0,false)]
   rfl
 rw [this]; rfl
def bg (X:List Blk) (k:Nat):Nat:=stm (X.take k) + k
theorem cG {X:List Blk} {k:Nat} (hk:k < X.length):bg X (k + 1)=bg X k + X[k].1.length + 1:=by
 unfold bg; rw [iU hk]; omega
theorem gq (X:List Blk) {i j:Nat} (h:i≤j) (hj:j≤X.length):bg X i≤bg X j:=by
 induction j with
 | zero => have : i = 0 := by omega
           subst this; exact Nat.le_refl _
 | succ j ih =>
   by_cases q:i=j + 1
   . subst q; exact Nat.le_refl _
   . have:=ih (by omega) (by omega)
     rw [cG (by omega)]; omega
def bgs (X:List Blk):List Int:=(List.range X.length).map fun k=>((bg X k:Nat):Int)
theorem sr (X:List Blk):(bgs X).length=X.length:=by simp [bgs]
theorem rU (X:List Blk) {k:Nat} (hk:k < X.length):aa (bgs X) (k:Int)=some ((bg X k:Nat):Int):=by
 rw [ai (by rw [sr]; exact hk)]; simp [bgs]
def js (i n:Nat):List (Int×Int×Bool):=(List.range (n + 1)).map fun (k:Nat)=>((i:Int),(k:Int),decide (k=n))
def bY (X:List Blk):Nat→List (Int×Int×Bool)
 | 0=>[]
 | i + 1=>bY X i++js i (X.getD i ([],0,0,0,[],[],[])).1.length
theorem gz {α:Type} {l:List α} {k:Nat} {d:α} (hk:k < l.length):l.getD k d=l[k]:=by simp [List.getD,hk]
theorem kD (X:List Blk):∀ i,i≤X.length→(bY X i).length=bg X i
 | 0,_=>by simp [bY,bg,stm]
 | i + 1,h=>by
   have ih:=kD X i (by omega)
   rw [cG (by omega)]
   simp only [bY,List.length_append,ih,js,List.length_map,List.length_range,gz (show i < X.length by omega)]; omega
theorem qU (X:List Blk):∀ i,i≤X.length→∀ j k,j < i→(hj:j < X.length)→k≤X[j].1.length→(bY X i)[bg X j + k]? = some ((j:Int),(k:Int),decide (k=X[j].1.length))
 | 0,_,j,k,h,_,_=>by omega
 | i + 1,h,j,k,hji,hj,hk=>by
   have hl:=kD X i (by omega)
   unfold bY
   by_cases q:j=i
   . subst q
     rw [List.getElem?_append_right (by omega),hl,Nat.add_sub_cancel_left,gz hj]
     unfold js
     rw [List.getElem?_map,List.getElem?_range (by omega)]; rfl
   . have h1:=gq X (i:=j + 1) (j:=i) (by omega) (by omega)
     rw [cG hj] at h1
     rw [List.getElem?_append_left (by omega)]
     exact qU X i (by omega) j k (by omega) hj hk
abbrev cP (X:List Blk):List (Int×Int×Bool):=bY X X.length
theorem nv (X:List Blk):(cP X).length=bg X X.length:=kD X _ (Nat.le_refl _)
theorem rQ (X:List Blk) {j k:Nat} (hj:j < X.length) (hk:k≤X[j].1.length):(cP X)[bg X j + k]? = some ((j:Int),(k:Int),decide (k=X[j].1.length)):=qU X _ (Nat.le_refl _) j k hj hj hk
theorem gM (X:List Blk):∀ i,i≤X.length→∀ n,n < bg X i→∃ j k,∃ hj:j < X.length,k≤X[j].1.length∧n=bg X j + k∧j < i
 | 0,_,n,h=>by simp [bg,stm] at h
 | i + 1,h,n,hn=>by
   rw [cG (show i < X.length by omega)] at hn
   by_cases q:n < bg X i
   . obtain ⟨j,k,hj,h1,h2,h3⟩:=gM X i (by omega) n q
     exact ⟨j,k,hj,h1,h2,by omega⟩
   . exact ⟨i,n - bg X i,by omega,by omega,by omega,by omega⟩
theorem iV {b:Bo} (h:Sm b) {k:Nat} (hk:k≤b.2.2.2.2.2.2.length):bg b.2.2.2.2.2.2 k≤131072:=by
 have a2:=kJ (fun x:Blk=>x.1.length) b.2.2.2.2.2.2 k
 have a3:stm (b.2.2.2.2.2.2.take k)≤stm b.2.2.2.2.2.2:=a2
 have:=h.many
 have:=h.blocks
 unfold bg; omega
def xs (b:Bo):List Blk:=if (vck b).1=0 then b.2.2.2.2.2.2 else []
theorem iT {b:Bo} (h:Sm b) {k:Nat} (hk:k≤(xs b).length):bg (xs b) k≤131072∧(xs b).length≤65536:=by
 unfold xs at *
 split
 . rename_i q; rw [if_pos q] at hk; exact ⟨iV h hk,h.blocks⟩
 . rename_i q; rw [if_neg q] at hk
   obtain rfl:k=0:=by simpa using hk
   simp [bg,stm]
theorem uX {b:Bo} (h:Sm b):db b=some (some (bgs (xs b),((bg (xs b) (xs b).length:Nat):Int))):=by
 unfold db ki
 rw [show dD b=_ from pG h]
 simp only [Option.bind_some]
 unfold xs
 by_cases q:(vck b).1=0
 . have h1:=h.blocks
   rw [decide_eq_true q,Bool.not_true,cond_false,if_pos q]
   have hl:=bz (body:=iu b) (fun k:Nat=>((k:Int),(List.range k).map (fun i=>((bg b.2.2.2.2.2.2 i:Nat):Int)),((bg b.2.2.2.2.2.2 k:Nat):Int))) b.2.2.2.2.2.2.length (b:=(bgs b.2.2.2.2.2.2,((bg b.2.2.2.2.2.2 b.2.2.2.2.2.2.length:Nat):Int))) ?_ ?_
   . have hl':loop (iu b) (0,[],0)=some (bgs b.2.2.2.2.2.2,((bg b.2.2.2.2.2.2 b.2.2.2.2.2.2.length:Nat):Int)):=by simpa [bg,stm] using hl
     rw [hl']; rfl
   . intro k hk
     have a1:=iV h (k:=k) (by omega)
     have a2:=iV h (k:=k + 1) (by omega)
     have a3:=cG hk
     unfold iu
     simp only [dlt hk,cond_true,ai hk,Option.bind_some]
     rw [aD (by simp; omega),Option.bind_some,ap hk (by omega),w64 (x:=((b.2.2.2.2.2.2[k].1.length:Nat):Int) + 1) (by omega) (by omega),w64 (by omega) (by omega),a3,List.range_succ,List.map_append]
     simp only [Option.some.injEq,Sum.inl.injEq,Prod.mk.injEq,true_and,List.map_cons,List.map_nil]
     omega
   . unfold iu
     simp [bgs]
 . rw [decide_eq_false q,if_neg q]; rfl
theorem wj {b:Bo} (h:Sm b):dG b=some (cP (xs b)):=by
 unfold dG dI
 rw [show da b=_ from uT h]
 simp only [Option.bind_some]
 unfold xs
 by_cases q:(vck b).1=0
 . have h1:=h.blocks
   rw [decide_eq_true q,Bool.not_true,cond_false,if_pos q]
   have hl:=bz (body:=iz b) (fun k:Nat=>(bY b.2.2.2.2.2.2 k,(k:Int))) b.2.2.2.2.2.2.length (b:=cP b.2.2.2.2.2.2) ?_ ?_
   . rw [show loop (iz b) ([],0)=_ from hl]; rfl
   . intro k hk
     have a1:=iV h (k:=k) (by omega)
     have a2:=iV h (k:=k + 1) (by omega)
     have a3:=cG hk
     have a4:=kD b.2.2.2.2.2.2 k (by omega)
     unfold iz
     simp only [dlt hk,cond_true,ai hk,Option.bind_some]
     have hin:=bz (body:=iv (k:Int) b.2.2.2.2.2.2[k]) (fun j:Nat=>(bY b.2.2.2.2.2.2 k++(List.range j).map (fun (i:Nat)=>((k:Int),(i:Int),decide (i=b.2.2.2.2.2.2[k].1.length))),(j:Int))) (b.2.2.2.2.2.2[k].1.length + 1) (b:=bY b.2.2.2.2.2.2 k++js k b.2.2.2.2.2.2[k].1.length) ?_ ?_
     . have hin':loop (iv (k:Int) b.2.2.2.2.2.2[k]) (bY b.2.2.2.2.2.2 k,0)=some (bY b.2.2.2.2.2.2 k++js k b.2.2.2.2.2.2[k].1.length):=by simpa using hin
       rw [hin',Option.bind_some,ap hk (by omega)]
       simp only [bY,gz hk]
     . intro j hj
       unfold iv
       dsimp only
       rw [decide_eq_true (by omega),cond_true,aD (by simp; omega),Option.bind_some,w64 (by omega) (by omega),List.range_succ,List.map_append]
       have e:decide ((j:Int)=((b.2.2.2.2.2.2[k].1.length:Nat):Int))=decide (j=b.2.2.2.2.2.2[k].1.length):=by
         by_cases c:j=b.2.2.2.2.2.2[k].1.length <;> simp [c] <;> omega
       rw [e]
       simp
     . unfold iv
       dsimp only
       rw [decide_eq_false (by omega)]
       rfl
   . unfold iz
     simp
 . rw [decide_eq_false q,if_neg q]; rfl
theorem ze {a c:Nat} (h:a + c≤1000000):IntKind.wrap .i64 (Int.fdiv (IntKind.wrap .u64 (IntKind.wrap .i64 ((a:Int) + (c:Int)))) (2 ^ (min (Int.toNat 1) (IntKind.bits .u64))))=(((a + c) / 2:Nat):Int):=by
 have e1:IntKind.wrap .i64 ((a:Int) + (c:Int))=((a + c:Nat):Int):=by rw [w64 (by omega) (by omega)]; omega
 have e2:IntKind.wrap .u64 ((a + c:Nat):Int)=((a + c:Nat):Int):=by
   show ((a + c:Nat):Int) % 2 ^ 64=_
   omega
 have e3:(2:Int) ^ (min (Int.toNat 1) (IntKind.bits .u64))=2:=by decide
 rw [e1,e2,e3,Int.fdiv_eq_ediv_of_nonneg _ (by omega),w64 (by omega) (by omega)]
 omega
theorem wk {X:List Blk} (hX:X.length≤400000) {t:Int} {j k:Nat} (hj:j < X.length) (hk:k≤X[j].1.length) {n:Nat} (hn:n=bg X j + k) :
   jG ((X.length:Nat):Int) (some (bgs X,t)) (n:Int)=some ((j + 1:Nat):Int):=by
 unfold jG
 have pr:∀ i,i < X.length→(n < bg X i↔j < i):=by
   intro i hi
   constructor
   . intro h
     by_cases q:j < i
     . exact q
     . have:=gq X (i:=i) (j:=j) (by omega) (by omega); omega
   . intro h
     have h1:=gq X (i:=j + 1) (j:=i) h (by omega)
     rw [cG hj] at h1; omega
 have key:=xv (body:=mE (some (bgs X,t)) (n:Int)) (fun s:Int×Int=>∃ a c:Nat,s=((a:Int),(c:Int))∧a≤j + 1∧j + 1≤c∧c≤X.length) (fun s=>(s.2 - s.1).toNat) (Q:=fun r=>r=((j + 1:Nat):Int)) ?_ (s:=(0,((X.length:Nat):Int))) ⟨0,X.length,rfl,by omega,by omega,by omega⟩
 . obtain ⟨r,h1,h2⟩:=key
   rw [h1,h2]; rfl
 . rintro _ ⟨a,c,rfl,h1,h2,h3⟩
   unfold mE mG
   dsimp only
   by_cases q:a < c
   . have hm:(a + c) / 2 < X.length:=by omega
     simp only [dlt q,cond_true,ze (show a + c≤1000000 by omega),Option.bind_some,rU X hm]
     by_cases q2:j < (a + c) / 2
     . have:=(pr _ hm).2 q2
       rw [decide_eq_true (by omega),Bool.not_true,cond_false]
       refine .inl ⟨_,rfl,⟨a,(a + c) / 2,rfl,h1,by omega,by omega⟩,by dsimp only; omega⟩
     . have:¬ n < bg X ((a + c) / 2):=fun hc=>q2 ((pr _ hm).1 hc)
       rw [decide_eq_false (by omega),Bool.not_false,cond_true,w64 (by omega) (by omega)]
       refine .inl ⟨_,rfl,⟨(a + c) / 2 + 1,c,rfl,by omega,h2,h3⟩,by dsimp only; omega⟩
   . rw [decide_eq_false (by omega),cond_false]
     exact .inr ⟨_,rfl,by omega⟩
theorem zw {X:List Blk} (hX:X.length≤400000) (hb:bg X X.length≤1000000) {j k:Nat} (hj:j < X.length) (hk:k≤X[j].1.length) :
   fP (some (bgs X,((bg X X.length:Nat):Int))) ((bg X j + k:Nat):Int)=some ((j:Int),(k:Int),true):=by
 have h1:=gq X (i:=j + 1) (j:=X.length) hj (Nat.le_refl _)
 rw [cG hj] at h1
 unfold fP dC
 rw [decide_eq_false (by omega),cond_false]
 simp only [Option.isNone_some,cond_false,Option.bind_some]
 rw [decide_eq_false (by omega),cond_false,sr,wk hX hj hk rfl,Option.bind_some,w64 (by omega) (by omega),show ((j + 1:Nat):Int) - 1=(j:Int) by omega,rU X hj,Option.bind_some,w64 (by omega) (by omega)]
 simp only [Option.some.injEq,Prod.mk.injEq,true_and,and_true]
 omega
theorem yj {X:List Blk} {n:Int} (h:n < 0∨((bg X X.length:Nat):Int)≤n):fP (some (bgs X,((bg X X.length:Nat):Int))) n=some (0,0,false):=by
 unfold fP dC
 by_cases q:n < 0
 . rw [decide_eq_true q]; rfl
 . rw [decide_eq_false q,cond_false]
   simp only [Option.isNone_some,cond_false,Option.bind_some]
   rw [decide_eq_true (by omega)]; rfl
section
namespace Nu
set_option linter.unusedVariables false
set_option linter.unnecessarySimpa false
set_option linter.unusedSimpArgs false
def ch (d:Nat):UInt8:=UInt8.ofNat (48 + d)
def dec (n:Nat):List UInt8:=if h:n < 10 then [ch n] else dec (n / 10)++[ch (n % 10)]
termination_by n
theorem lw {n:Nat} (h:n < 10):dec n=[ch n]:=by rw [dec,dif_pos h]
theorem sK {n:Nat} (h:¬ n < 10):dec n=dec (n / 10)++[ch (n % 10)]:=by rw [dec,dif_neg h]
def bq (n:Int):List UInt8:=if n < 0 then [] else dec n.toNat
def zr (c:UInt8):Bool:=decide (48≤c.toNat)&&decide (c.toNat≤57)
def dig (c:UInt8):Nat:=c.toNat - 48
def val (s:List UInt8):Nat:=s.foldl (fun a c=>a * 10 + dig c) 0
def zp (s:List UInt8):Bool:=s.all zr&&(decide (s.length=1)||(decide (1 < s.length)&&!decide (s.head? = some 48)))
def gV (s:List UInt8) (most:Int):Int×Int:=if zp s=true then (if most < (val s:Int) then (0,5) else ((val s:Int),0)) else (0,3)
theorem xK:∀ (k n:Nat),n < 10 ^ (k + 1)→(dec n).length≤k + 1:=by
 intro k
 induction k with
 | zero=>intro n h; rw [lw (by simpa using h)]; simp
 | succ k ih =>
   intro n h
   by_cases hn:n < 10
   . rw [lw hn]; simp
   . rw [sK hn,List.length_append]
     have:=ih (n / 10) (by rw [Nat.pow_succ] at h; omega)
     simp; omega
theorem cD {n:Int} (h:n≤9223372036854775807):(bq n).length≤19:=by
 unfold bq; split
 . simp
 . exact xK 18 _ (by omega)
def hd (b:UInt8):List (List UInt8)→List (List UInt8)
 | p :: ps=>(b :: p) :: ps
 | []=>[[b]]
def td (c:UInt8):List UInt8→List (List UInt8)
 | []=>[[]]
 | b :: l=>if b=c then [] :: td c l else hd b (td c l)
def dw (c:UInt8):List (List UInt8)→List UInt8
 | []=>[]
 | p :: ps=>p++ps.flatMap (c :: ·)
theorem vo (c:UInt8) (p q:List UInt8) (ps:List (List UInt8)):dw c (p :: q :: ps)=p++c :: dw c (q :: ps):=by simp [dw]
theorem ne (c:UInt8):∀ (l:List (List UInt8)),Lib.join l [c]=dw c l
 | []=>by simp [Lib.join,dw]
 | [p]=>by simp [Lib.join,dw,List.intercalate]
 | p :: q :: ps=>by
   have ih:=ne c (q :: ps)
   rw [vo,← ih]
   simp [Lib.join,List.intercalate]
end Nu
end
section
open Go.RowKit Nu
theorem oG {d:Nat} (h:d < 10):IntKind.wrap .u8 (IntKind.wrap .i64 (48 + (d:Int)))=((48 + d:Nat):Int):=by
 rw [w64 (by omega) (by omega)]
 have e:IntKind.wrap .u8 (48 + (d:Int))=(48 + (d:Int)) % 256:=IntKind.wrap_u8' _
 rw [e,Int.emod_eq_of_lt (by omega) (by omega)]; omega
theorem wy:∀ (k n a:Nat) (l:List Int),n < 10 ^ (k + 1)→n≤9223372036854775807→k < a→a≤20→l.length=20→loop ik ((n:Int),l,(a:Int))=some (dec n++bh (l.drop a)):=by
 intro k
 induction k with
 | zero =>
   intro n a l hn hb ha ha2 hl
   have h10:n < 10:=by simpa using hn
   have e0:IntKind.wrap .i64 ((a:Int) - 1)=((a - 1:Nat):Int):=by rw [w64 (by omega) (by omega)]; omega
   have e1:Int.tmod (n:Int) 10=(n:Int):=by rw [Int.tmod_eq_emod_of_nonneg (by omega)]; omega
   have e2:Int.tdiv (n:Int) 10=0:=by rw [Int.tdiv_eq_ediv_of_nonneg (by omega)]; omega
   refine gl ?_
   unfold ik
   have hs:subL (l.set (a - 1) ((48 + n:Nat):Int)) ((a - 1:Nat):Int) (((20:Nat):Int))=some (((48 + n:Nat):Int) :: l.drop a):=by
     rw [nO (by omega) (by omega) (by rw [List.length_set,hl]; omega)]
     simp only [Int.toNat_natCast]
     rw [List.take_of_length_le (by rw [List.length_set,hl]; omega),List.drop_eq_getElem_cons (by rw [List.length_set]; omega),List.getElem_set_self,List.drop_set_of_lt (by omega),show a - 1 + 1=a by omega]
   simp only [e0,ai (show a - 1 < l.length by omega),Option.bind_some,e1,oG h10,e2,Int.toNat_natCast,show IntKind.wrap .i64 0=0 from rfl,decide_true,cond_true,hs]
   rw [lw h10]
   simp only [bh,List.map_cons,Int.toNat_natCast]; rfl
 | succ k ih =>
   intro n a l hn hb ha ha2 hl
   by_cases h10:n < 10
   . have e0:IntKind.wrap .i64 ((a:Int) - 1)=((a - 1:Nat):Int):=by rw [w64 (by omega) (by omega)]; omega
     have e1:Int.tmod (n:Int) 10=(n:Int):=by rw [Int.tmod_eq_emod_of_nonneg (by omega)]; omega
     have e2:Int.tdiv (n:Int) 10=0:=by rw [Int.tdiv_eq_ediv_of_nonneg (by omega)]; omega
     refine gl ?_
     unfold ik
     have hs:subL (l.set (a - 1) ((48 + n:Nat):Int)) ((a - 1:Nat):Int) (((20:Nat):Int))=some (((48 + n:Nat):Int) :: l.drop a):=by
       rw [nO (by omega) (by omega) (by rw [List.length_set,hl]; omega)]
       simp only [Int.toNat_natCast]
       rw [List.take_of_length_le (by rw [List.length_set,hl]; omega),List.drop_eq_getElem_cons (by rw [List.length_set]; omega),List.getElem_set_self,List.drop_set_of_lt (by omega),show a - 1 + 1=a by omega]
     simp only [e0,ai (show a - 1 < l.length by omega),Option.bind_some,e1,oG h10,e2,Int.toNat_natCast,show IntKind.wrap .i64 0=0 from rfl,decide_true,cond_true,hs]
     rw [lw h10]
     simp only [bh,List.map_cons,Int.toNat_natCast]; rfl
   . have e0:IntKind.wrap .i64 ((a:Int) - 1)=((a - 1:Nat):Int):=by rw [w64 (by omega) (by omega)]; omega
     have e1:Int.tmod (n:Int) 10=((n % 10:Nat):Int):=by rw [Int.tmod_eq_emod_of_nonneg (by omega)]; omega
     have e2:IntKind.wrap .i64 (Int.tdiv (n:Int) 10)=((n / 10:Nat):Int):=by rw [Int.tdiv_eq_ediv_of_nonneg (by omega),w64 (by omega) (by omega)]; omega
     have e3:decide (((n / 10:Nat):Int)=0)=false:=by simp; omega
     rw [nj (s':=(((n / 10:Nat):Int),l.set (a - 1) ((48 + n % 10:Nat):Int),((a - 1:Nat):Int))),ih (n / 10) (a - 1) _ (by rw [Nat.pow_succ] at hn; omega) (by omega) (by omega) (by omega) (by rw [List.length_set,hl])]
     . rw [sK h10,List.drop_eq_getElem_cons (by rw [List.length_set]; omega),List.getElem_set_self,List.drop_set_of_lt (by omega),show a - 1 + 1=a by omega]
       simp only [bh,List.map_cons,Int.toNat_natCast,List.append_assoc]; rfl
     . unfold ik
       simp only [e0,ai (show a - 1 < l.length by omega),Option.bind_some,e1,oG (show n % 10 < 10 by omega),e2,e3,Int.toNat_natCast,cond_false]
theorem iW (n:Int) (h:n≤9223372036854775807):cz n=some (bq n):=by
 unfold cz bq
 by_cases h0:n < 0
 . simp [h0]
 . obtain ⟨m,rfl⟩:=Int.eq_ofNat_of_zero_le (show 0≤n by omega)
   rw [if_neg h0,decide_eq_false h0,cond_false]
   have:=wy 18 m 20 [0,0,0,0,0,0,0,0,0,0,0,0,0,0,0,0,0,0,0,0] (by omega) (by omega) (by omega) (by omega) rfl
   rw [show ((20:Nat):Int)=20 from rfl] at this
   rw [this]
   simp [bh]
def pair (b:Int×Int):List UInt8:=if b.1 < 0∨b.2 < 0 then [] else bq b.1++58 :: bq b.2
theorem wD (b:Int×Int) (h1:b.1≤9223372036854775807) (h2:b.2≤9223372036854775807):jT b=some (pair b):=by
 unfold jT pair
 by_cases h:b.1 < 0∨b.2 < 0
 . rw [if_pos h]
   have:(decide (b.1 < 0)||decide (b.2 < 0))=true:=by simpa using h
   rw [this]; rfl
 . rw [if_neg h]
   have:(decide (b.1 < 0)||decide (b.2 < 0))=false:=by simp; omega
   have l1:=cD h1; have l2:=cD h2
   rw [this,cond_false,iW _ h1,iW _ h2]
   simp only [Option.bind_some]
   rw [aD (by simp; omega)]
   simp only [Option.bind_some]
   rw [aD (by simp; omega)]
   simp
end
section
open Go.RowKit Nu
def two (a b:List UInt8) (most:Int):Int×Int×Int :=
 if (gV a most).2≠0 then (0,0,(gV a most).2) else if (gV b most).2≠0 then (0,0,(gV b most).2) else ((gV a most).1,(gV b most).1,0)
end
section
open Go.RowKit Nu
abbrev Pv:=Int×Int×Int×Int×Bool
abbrev Eg:=Int×Int×Pv
def nm (k:Int):List UInt8:=if k=1 then [102,108,111,119] else if k=2 then [108,111,97,110] else if k=3 then [98,97,115,101] else if k=4 then [110,101,101,100] else if k=5 then [112,97,115,115] else if k=6 then [103,105,118,101] else if k=7 then [111,117,116] else [63]
theorem yP {k:Int} (h1:1≤k) (h7:k≤7):k=1∨k=2∨k=3∨k=4∨k=5∨k=6∨k=7:=by omega
theorem wH {k:Int} (h:¬ (1≤k∧k≤7)):nm k=[63]:=by
 unfold nm
 rw [if_neg (by omega),if_neg (by omega),if_neg (by omega),if_neg (by omega),if_neg (by omega),if_neg (by omega),if_neg (by omega)]
theorem tg (k:Int):(nm k).length≤4:=by
 by_cases h:1≤k∧k≤7
 . rcases yP h.1 h.2 with e | e | e | e | e | e | e <;> subst e <;> decide
 . rw [wH h]; decide
def zq (s:List UInt8):Option Int:=(List.range 7).findSome? fun k:Nat=>if nm ((k:Int) + 1)=s then some ((k:Int) + 1) else none
def az (s:List UInt8):Int:=(zq s).getD 0
theorem vb (k:Int):j9 k=some (nm k):=by
 unfold j9 nm
 by_cases h1:k=1; · simp [h1]
 by_cases h2:k=2; · simp [h2]
 by_cases h3:k=3; · simp [h3]
 by_cases h4:k=4; · simp [h4]
 by_cases h5:k=5; · simp [h5]
 by_cases h6:k=6; · simp [h6]
 by_cases h7:k=7; · simp [h7]
 simp [h1,h2,h3,h4,h5,h6,h7]
def right (f:Pv):Bool:=((decide (0≤f.1)&&decide (0≤f.2.1))&&decide (0≤f.2.2.2.1))&&(decide (1≤f.2.2.1)&&decide (f.2.2.1≤7))
theorem pM (f:Pv):fU f=some (right f):=by
 unfold fU mQ right
 cases (decide (0≤f.1)&&decide (0≤f.2.1))&&decide (0≤f.2.2.2.1) <;> simp
def bk:List UInt8:=[98,97,99,107]
def du (f:Pv):List (List UInt8):=[bq f.1++46 :: bq f.2.1,nm f.2.2.1,bq f.2.2.2.1]++(if f.2.2.2.2=true then [bk] else [])
def fE (f:Pv):List UInt8:=if right f=true then dw 32 (du f) else [63]
structure POk (f:Pv):Prop where
 a:f.1≤9223372036854775807
 b:f.2.1≤9223372036854775807
 c:f.2.2.2.1≤9223372036854775807
theorem qz {f:Pv} (h:POk f):(dw 32 (du f)).length≤80:=by
 have a:=cD h.a; have b:=cD h.b; have c:=cD h.c; have d:=tg f.2.2.1
 unfold du
 cases f.2.2.2.2 <;> simp [dw,bk] <;> omega
theorem vX {f:Pv} (h:POk f):(fE f).length≤80:=by
 unfold fE; split
 . exact qz h
 . simp
theorem vc (f:Pv) (h:POk f):j8 f=some (fE f):=by
 have a:=cD h.a; have b:=cD h.b; have c:=cD h.c; have d:=tg f.2.2.1
 have wl:=qz h
 unfold j8
 rw [pM]
 unfold fE
 cases hr:right f with
 | false =>
   rfl
 | true =>
   simp only [Option.bind_some,Bool.not_true,cond_false,if_true]
   rw [iW _ h.a,iW _ h.b,iW _ h.c,vb]
   simp only [Option.bind_some]
   rw [aD (by simp; omega)]
   simp only [Option.bind_some]
   rw [aD (by simp; omega)]
   simp only [Option.bind_some,List.append_assoc,List.singleton_append]
   cases hb:f.2.2.2.2 with
   | false =>
     have e:du f=[bq f.1++46 :: bq f.2.1,nm f.2.2.1,bq f.2.2.2.1]:=by unfold du; rw [hb]; rfl
     rw [e] at wl ⊢
     simp only [cond_false]
     unfold fx
     rw [ne,if_pos ⟨by omega,by simp⟩]; rfl
   | true =>
     have e:du f=[bq f.1++46 :: bq f.2.1,nm f.2.2.1,bq f.2.2.2.1,bk]:=by unfold du; rw [hb]; rfl
     rw [e] at wl ⊢
     simp only [cond_true]
     rw [aD (by simp)]
     simp only [Option.bind_some,List.cons_append,List.nil_append]
     unfold fx
     have e2:([98,97,99,107]:List UInt8)=bk:=rfl
     rw [e2,ne,if_pos ⟨by omega,by simp⟩]; rfl
def cK (e:Int×Int×Pv):List UInt8:=pair (e.1,e.2.1)++[32,97,116,32]++fE e.2.2
theorem xD {b:Int×Int} (h1:b.1≤9223372036854775807) (h2:b.2≤9223372036854775807):(pair b).length≤40:=by
 unfold pair; split
 . simp
 . have a:=cD h1; have c:=cD h2; simp; omega
structure EOk (e:Int×Int×Pv):Prop where
 a:e.1≤9223372036854775807
 b:e.2.1≤9223372036854775807
 p:POk e.2.2
theorem u7 (e:Int×Int×Pv) (h:EOk e):iI e=some (cK e):=by
 have l1:=xD (b:=(e.1,e.2.1)) h.a h.b
 have l2:=vX h.p
 unfold iI cK
 rw [wD _ h.a h.b,vc _ ⟨h.p.a,h.p.b,h.p.c⟩]
 simp only [Option.bind_some]
 rw [aD (by simp; omega)]
 simp only [Option.bind_some]
 rw [aD (by simp; omega)]
 rfl
end
section
open Go.RowKit Nu
instance dPv4:DecidableEq (Int×Bool):=instDecidableEqProd
instance dPv3:DecidableEq (Int×Int×Bool):=instDecidableEqProd
instance dPv2:DecidableEq (Int×Int×Int×Bool):=instDecidableEqProd
instance dPv:DecidableEq Pv:=(instDecidableEqProd:DecidableEq (Int×Int×Int×Int×Bool))
instance dEg1:DecidableEq (Int×Pv):=instDecidableEqProd
instance dEg:DecidableEq Eg:=(instDecidableEqProd:DecidableEq (Int×Int×Pv))
theorem kB {a b:Flt} (h:(or0 a b).1=0):a.1=0∧b.1=0:=by
 unfold or0 at h; split at h
 . rename_i q; exact ⟨q,h⟩
 . rename_i q; exact absurd h q
theorem rM {b:Bo} (h:(vck b).1=0):1≤b.1∧b.1≤b.2.1∧b.2.1≤65536∧(∀ t∈b.2.2.2.1,rin b.2.1 t=false)∧rin b.1 b.2.2.2.2.1=false:=by
 unfold vck at h
 obtain ⟨h1,h⟩:=kB h
 obtain ⟨h2,h⟩:=kB h
 obtain ⟨h3,h⟩:=kB h
 obtain ⟨h4,h⟩:=kB h
 have a1:¬ (b.1 < 1∨b.2.1 < b.1):=fun q=>by unfold bC at h1; rw [if_pos q] at h1; simp at h1
 have a2:¬ 65536 < b.2.1:=fun q=>by unfold bC at h1; rw [if_neg a1,if_pos q] at h1; simp at h1
 have a3:∀ t∈b.2.2.2.1,rck b.2.1 t=0:=by
   unfold bL at h3
   split at h3
   . simp at h3
   . cases hq:b.2.2.2.1.findIdx? (fun t=>!decide (rck b.2.1 t=0)) with
     | none =>
       intro t ht
       have:=List.findIdx?_eq_none_iff.1 hq t ht
       simpa using this
     | some k =>
       rw [hq] at h3
       obtain ⟨hk,hc,_⟩:=List.findIdx?_eq_some_iff_getElem.1 hq
       have e:b.2.2.2.1.getD k []=b.2.2.2.1[k]:=by simp [List.getD,hk]
       simp only [e] at h3
       simp [h3] at hc
 have a4:rck b.1 b.2.2.2.2.1=0:=by
   unfold aZ at h4
   by_cases q:rck b.1 b.2.2.2.2.1=0
   . exact q
   . rw [if_neg q] at h4; exact absurd h4 q
 exact ⟨by omega,by omega,by omega,fun t ht=>(cq (a3 t ht)).2,(cq a4).2⟩
theorem y9 {m n:Int} {t:List St} (h:rin m t=false) (hl:m≤n):rin n t=false:=fu fun x hx=>by have:=cw h hx; omega
def nds (b:Bo) (x:Blk) (k:Nat):List Nd :=
 if h:k < x.1.length then ((a8 x.1[k] b.2.2.2.1 b.2.1).getD ([],0)).1 else ((bj x.2 (ay b)).getD ([],0)).1
theorem nr {b:Bo} (h:Sm b) {x:Blk} {k:Nat} (hk:k < x.1.length):∃ e,cd x.1[k] b.2.2.2.1 b.2.1=some (nds b x k,e)∧a8 x.1[k] b.2.2.2.1 b.2.1=some (nds b x k,e)∧(nds b x k).length≤1000∧((∀ t∈b.2.2.2.1,rin b.2.1 t=false)→∀ n∈nds b x k,Gd b.2.1 n):=by
 obtain ⟨l,e,h1,h2,h3,h4⟩:=mV x.1[k] b.2.2.2.1 b.2.1 h.loc
 have:nds b x k=l:=by unfold nds; rw [dif_pos hk,h2]; rfl
 rw [this]; exact ⟨e,h1,h2,h3,h4⟩
theorem nC {b:Bo} (h:Sm b) {x:Blk} (hx:x∈b.2.2.2.2.2.2) {k:Nat} (hk:¬ k < x.1.length):∃ e,bV x.2 (ay b)=some (nds b x k,e)∧bj x.2 (ay b)=some (nds b x k,e)∧(nds b x k).length≤4000∧((0 < b.2.1∧(∀ t∈b.2.2.2.1,rin b.2.1 t=false)∧rin b.2.1 b.2.2.2.2.1=false)→∀ n∈nds b x k,Gd b.2.1 n):=by
 obtain ⟨a1,a2,a3⟩:=h.term x hx
 obtain ⟨l,e,h1,h2,h3,h4⟩:=nY x.2 (ay b) a1 a2 a3 h.ret h.loc h.sig
 have:nds b x k=l:=by unfold nds; rw [dif_neg hk,h2]; rfl
 rw [this]; exact ⟨e,h1,h2,h3,h4⟩
def jr (j k:Int) (n:Nd):Eg:=(n.1,n.2.1,(j,k,n.2.2.1,n.2.2.2.1,n.2.2.2.2))
def egs (b:Bo) (x:Blk) (j k:Nat):List Eg:=(nds b x k).map (jr j k)
theorem lh {b:Bo} {j:Nat} (hj:j < (xs b).length):(vck b).1=0∧∃ hj':j < b.2.2.2.2.2.2.length,(xs b)[j]=b.2.2.2.2.2.2[j]:=by
 have h:(vck b).1=0:=by
   by_cases q:(vck b).1=0
   . exact q
   . have:xs b=[]:=by unfold xs; rw [if_neg q]
     rw [this] at hj; simp at hj
 have e:xs b=b.2.2.2.2.2.2:=by unfold xs; rw [if_pos h]
 exact ⟨h,by rw [← e]; exact hj,by simp only [e]⟩
theorem gx {b:Bo} (h:Sm b) {j k:Nat} (hj:j < (xs b).length):(egs b (xs b)[j] j k).length≤4000∧(∀ e∈egs b (xs b)[j] j k,0≤e.1∧e.1 < b.2.1∧0≤e.2.1∧e.2.1 < b.2.1∧e.2.2.1=(j:Int)∧e.2.2.2.1=(k:Int)∧1≤e.2.2.2.2.1∧e.2.2.2.2.1≤7∧0≤e.2.2.2.2.2.1∧e.2.2.2.2.2.1≤1000000):=by
 obtain ⟨hv,hj',he⟩:=lh hj
 obtain ⟨v1,v2,v3,v4,v5⟩:=rM hv
 rw [he]
 have hm:=List.getElem_mem hj'
 generalize b.2.2.2.2.2.2[j]=x at hm ⊢
 have key:(nds b x k).length≤4000∧∀ n∈nds b x k,Gd b.2.1 n:=by
   by_cases hk:k < x.1.length
   . obtain ⟨e,_,_,h3,h4⟩:=nr h hk
     exact ⟨by omega,h4 v4⟩
   . obtain ⟨e,_,_,h3,h4⟩:=nC h hm hk
     exact ⟨h3,h4 ⟨by omega,v4,y9 v5 v2⟩⟩
 refine ⟨by unfold egs; simpa using key.1,fun e he=>?_⟩
 obtain ⟨n,hn,rfl⟩:=List.mem_map.1 he
 obtain ⟨g1,g2,g3,g4⟩:=key.2 n hn
 exact ⟨g1.1,g1.2,g2.1,g2.2,rfl,rfl,g3.1,g3.2,g4.1,g4.2⟩
def egN (b:Bo) (n:Nat):List Eg:=match (cP (xs b))[n]? with | some p=>egs b ((xs b).getD p.1.toNat ([],0,0,0,[],[],[])) p.1.toNat p.2.1.toNat | none=>[]
def egF (b:Bo):Nat→List Eg
 | 0=>[]
 | n + 1=>egF b n++egN b n
theorem dq {b:Bo} {j k:Nat} (hj:j < (xs b).length) (hk:k≤(xs b)[j].1.length):egN b (bg (xs b) j + k)=egs b (xs b)[j] j k:=by
 unfold egN
 rw [rQ (xs b) hj hk]
 simp only [Int.toNat_natCast]
 rw [gz hj]
theorem nI {b:Bo} (h:Sm b) (n:Nat):(egN b n).length≤4000∧∀ e∈egN b n,0≤e.1∧e.1 < b.2.1∧0≤e.2.1∧e.2.1 < b.2.1∧0≤e.2.2.1∧e.2.2.1≤1000000∧0≤e.2.2.2.1∧e.2.2.2.1≤1000000∧1≤e.2.2.2.2.1∧e.2.2.2.2.1≤7∧0≤e.2.2.2.2.2.1∧e.2.2.2.2.2.1≤1000000∧b.2.1≤65536:=by
 by_cases hn:n < bg (xs b) (xs b).length
 . obtain ⟨j,k,hj,hk,rfl,_⟩:=gM (xs b) (xs b).length (Nat.le_refl _) n hn
   rw [dq hj hk]
   have h1:=gx h (k:=k) hj
   obtain ⟨b1,b2⟩:=iT h (Nat.le_refl _)
   have b3:=gq (xs b) (i:=j + 1) (j:=(xs b).length) hj (Nat.le_refl _)
   rw [cG hj] at b3
   refine ⟨h1.1,fun e he=>?_⟩
   obtain ⟨c1,c2,c3,c4,c5,c6,c7,c8,c9,c10⟩:=h1.2 e he
   obtain ⟨_,_,v3,_⟩:=rM (lh hj).1
   exact ⟨c1,c2,c3,c4,by omega,by omega,by omega,by omega,c7,c8,c9,c10,v3⟩
 . have:(cP (xs b))[n]? = none:=List.getElem?_eq_none (by rw [nv]; omega)
   have e:egN b n=[]:=by unfold egN; rw [this]
   rw [e]; simp
theorem gg {b:Bo} (h:Sm b):∀ n,(egF b n).length≤n * 4000∧∀ e∈egF b n,0≤e.1∧e.1 < b.2.1∧0≤e.2.1∧e.2.1 < b.2.1∧0≤e.2.2.1∧e.2.2.1≤1000000∧0≤e.2.2.2.1∧e.2.2.2.1≤1000000∧1≤e.2.2.2.2.1∧e.2.2.2.2.1≤7∧0≤e.2.2.2.2.2.1∧e.2.2.2.2.2.1≤1000000∧b.2.1≤65536
 | 0=>by simp [egF]
 | n + 1=>by
   obtain ⟨a1,a2⟩:=gg h n
   obtain ⟨b1,b2⟩:=nI h n
   refine ⟨by simp only [egF,List.length_append]; omega,fun e he=>?_⟩
   rcases List.mem_append.1 he with he | he
   . exact a2 e he
   . exact b2 e he
def egA (b:Bo):List Eg:=egF b (bg (xs b) (xs b).length)
theorem nS {b:Bo} (h:Sm b):(egA b).length≤524288000:=by
 have:=(gg h (bg (xs b) (xs b).length)).1
 have:=(iT h (Nat.le_refl _)).1
 unfold egA; omega
theorem zi {b:Bo} (h:Sm b):∀ e∈egA b,EOk e:=fun e he=>by
 obtain ⟨c1,c2,c3,c4,c5,c6,c7,c8,c9,c10,c11,c12,c13⟩:=(gg h _).2 e he
 exact ⟨by omega,by omega,⟨by omega,by omega,by omega⟩⟩
theorem uH {b:Bo} (h:Sm b) (P:Option (List Int×Int)) {j k:Nat} (hj:j < (xs b).length) (hk:k≤(xs b)[j].1.length):ij (b,P) (j:Int) (k:Int)=some (nds b (xs b)[j] k):=by
 obtain ⟨hv,hj',he⟩:=lh hj
 rw [he] at hk ⊢
 have hm:=List.getElem_mem hj'
 unfold ij
 simp only [ai hj',Option.bind_some]
 generalize b.2.2.2.2.2.2[j]=x at hk hm ⊢
 by_cases q:k < x.1.length
 . obtain ⟨e,h1,_⟩:=nr h q
   simp only [dlt q,cond_true,ai q,Option.bind_some,show cd (x.1[k].1,x.1[k].2.1,x.1[k].2.2.1,x.1[k].2.2.2.1,x.1[k].2.2.2.2) b.2.2.2.1 b.2.1=_ from h1]
 . obtain ⟨e,h1,_⟩:=nC h hm q
   simp only [dge q,cond_false,show bV (x.2.1,x.2.2.1,x.2.2.2.1,x.2.2.2.2.1,x.2.2.2.2.2.1,x.2.2.2.2.2.2) (((b.2.2.2.2.2.2.length:Nat):Int),b.2.1,b.2.2.2.1,b.2.2.2.2.1,b.2.2.2.2.2.1)=_ from h1,Option.bind_some]
theorem uQ (j k:Nat) (l:List Nd) (hl:l.length≤1000000):loop (mJ (j:Int) (k:Int) l) ([],0)=some (l.map (jr j k)):=by
 have:=kE l (jr j k) [] (by simp; omega) (body:=mJ (j:Int) (k:Int) l) (fun c i=>rfl)
 simpa using this
theorem vn {b:Bo} (h:Sm b) (n:Nat):ir (b,some (bgs (xs b),((bg (xs b) (xs b).length:Nat):Int))) (n:Int)=some (egN b n):=by
 obtain ⟨b1,b2⟩:=iT h (Nat.le_refl _)
 unfold ir
 by_cases hn:n < bg (xs b) (xs b).length
 . obtain ⟨j,k,hj,hk,rfl,_⟩:=gM (xs b) (xs b).length (Nat.le_refl _) n hn
   have hl:=(gx h (k:=k) hj).1
   unfold egs at hl
   rw [List.length_map] at hl
   rw [dq hj hk]
   simp only [zw (by omega) (by omega) hj hk,Option.bind_some,Bool.not_true,cond_false,show ∀ P,ij (b,P) (j:Int) (k:Int)=_ from fun P=>uH h P hj hk,uQ j k _ (Nat.le_trans hl (by omega))]
   rfl
 . have e:egN b n=[]:=by
     have:(cP (xs b))[n]? = none:=List.getElem?_eq_none (by rw [nv]; omega)
     unfold egN; rw [this]
   rw [e]
   simp only [yj (X:=xs b) (n:=(n:Int)) (.inr (by omega)),Option.bind_some,Bool.not_false,cond_true]
theorem xB {b:Bo} (h:Sm b) {body:(List Eg×Int)→Option ((List Eg×Int)⊕List Eg)} (hb:∀ l i,body (l,i)=cond (decide (i < ((bg (xs b) (xs b).length:Nat):Int))) ((ir (b,some (bgs (xs b),((bg (xs b) (xs b).length:Nat):Int))) i).bind fun x=>(app l x).bind fun z=>some (.inl (z,IntKind.wrap .i64 (i + 1)))) (some (.inr l))):loop body ([],0)=some (egA b):=by
 obtain ⟨b1,b2⟩:=iT h (Nat.le_refl _)
 refine bz (body:=body) (fun k:Nat=>(egF b k,(k:Int))) (bg (xs b) (xs b).length) ?_ ?_
 . intro k hk
   have l1:=(gg h k).1
   have l2:=(nI h k).1
   rw [hb,dlt hk,cond_true,vn h,Option.bind_some,aD (by omega),Option.bind_some,ap hk (by omega)]
   rfl
 . rw [hb,dge (by omega),cond_false]; rfl
theorem kv {b:Bo} (h:Sm b):bU b=some (egA b):=by
 unfold bU
 rw [show db b=_ from uX h]
 have e1:dC (some (bgs (xs b),((bg (xs b) (xs b).length:Nat):Int)))=some ((bg (xs b) (xs b).length:Nat):Int):=rfl
 simp only [Option.bind_some,rE,e1]
 rw [xB h (body:=pz (some (bgs (xs b),((bg (xs b) (xs b).length:Nat):Int))) b.1 b.2.1 b.2.2.1 b.2.2.2.1 b.2.2.2.2.1 b.2.2.2.2.2.1 b.2.2.2.2.2.2 ((bg (xs b) (xs b).length:Nat):Int)) (fun l i=>rfl)]
 rfl
theorem vB {b:Bo} (h:Sm b) {j k:Nat} (hj:j < (xs b).length) (hk:k≤(xs b)[j].1.length):iL b ((j:Int),(k:Int),decide (k=(xs b)[j].1.length))=some (egs b (xs b)[j] j k):=by
 have hl:=(gx h (k:=k) hj).1
 obtain ⟨hv,hj',he⟩:=lh hj
 rw [he] at hk hl ⊢
 have hm:=List.getElem_mem hj'
 unfold iL
 simp only [ai hj',Option.bind_some]
 generalize b.2.2.2.2.2.2[j]=x at hk hm hl ⊢
 have hloop:∀ (p:Int×Int×Bool) (l:List Nd),l.length≤4000→loop (jY p l) ([],0)=some (l.map (jr p.1 p.2.1)):=by
   intro p l hl
   have:=kE l (jr p.1 p.2.1) [] (by simp; omega) (body:=jY p l) (fun c i=>by
     unfold jY
     dsimp only
     cases hg:aa l i with
     | none=>cases decide (i < ((l.length:Nat):Int)) <;> rfl
     | some y=>rfl)
   simpa using this
 unfold egs at hl
 rw [List.length_map] at hl
 by_cases q:k=x.1.length
 . obtain ⟨e,_,h1,_⟩:=nC h hm (k:=k) (by omega)
   simp only [q,decide_true,cond_true]
   simp only [← q]
   simp only [show bj (x.2.1,x.2.2.1,x.2.2.2.1,x.2.2.2.2.1,x.2.2.2.2.2.1,x.2.2.2.2.2.2) (((b.2.2.2.2.2.2.length:Nat):Int),b.2.1,b.2.2.2.1,b.2.2.2.2.1,b.2.2.2.2.2.1)=_ from h1,Option.bind_some,hloop _ _ hl]
   rfl
 . have q':k < x.1.length:=by omega
   obtain ⟨e,_,h1,_⟩:=nr h q'
   simp only [q,decide_false,cond_false,ai q',Option.bind_some,show a8 (x.1[k].1,x.1[k].2.1,x.1[k].2.2.1,x.1[k].2.2.2.1,x.1[k].2.2.2.2) b.2.2.2.1 b.2.1=_ from h1,hloop _ _ hl]
   rfl
theorem vl {b:Bo} (h:Sm b):dJ b=some (egA b):=by
 obtain ⟨b1,b2⟩:=iT h (Nat.le_refl _)
 have hl:=nv (xs b)
 unfold dJ
 rw [show dG b=_ from wj h,Option.bind_some]
 have key:=bz (body:=iB b (cP (xs b))) (fun k:Nat=>(egF b k,(k:Int))) (bg (xs b) (xs b).length) (b:=egA b) ?_ ?_
 . have key':loop (iB b (cP (xs b))) ([],0)=some (egA b):=key
   rw [key']; rfl
 . intro n hn
   have l1:=(gg h n).1
   have l2:=(nI h n).1
   obtain ⟨j,k,hj,hk,rfl,_⟩:=gM (xs b) (xs b).length (Nat.le_refl _) n hn
   have hg:=rQ (xs b) hj hk
   have hn':bg (xs b) j + k < (cP (xs b)).length:=by omega
   rw [List.getElem?_eq_getElem hn'] at hg
   have hg':=Option.some.inj hg
   unfold iB
   simp only [dlt hn',cond_true,ai hn',Option.bind_some,hg',show iL b ((j:Int),(k:Int),decide (k=(xs b)[j].1.length))=_ from vB h hj hk]
   rw [dq hj hk] at l2
   rw [aD (by omega),Option.bind_some,ap hn (by omega)]
   show some (Sum.inl (egF b (bg (xs b) j + k)++_,_))=some (Sum.inl (egF b (bg (xs b) j + k)++egN b (bg (xs b) j + k),_))
   rw [dq hj hk]
 . unfold iB
   simp only [hl,dge (show ¬ bg (xs b) (xs b).length < bg (xs b) (xs b).length by omega),cond_false]
   rfl
theorem uW (l:List Eg) (hl:l.length≤1000000000) (h:∀ e∈l,EOk e):j5 l=some (l.map cK):=by
 unfold j5
 have key:=bz (body:=ip l) (fun k:Nat=>((l.take k).map cK,(k:Int))) l.length (b:=l.map cK) ?_ ?_
 . have key':loop (ip l) ([],0)=some (l.map cK):=key
   rw [key']; rfl
 . intro k hk
   unfold ip
   have he:=u7 l[k] (h _ (List.getElem_mem hk))
   simp only [dlt hk,cond_true,ai hk,Option.bind_some,show iI (l[k].1,l[k].2.1,(l[k].2.2.1,l[k].2.2.2.1,l[k].2.2.2.2.1,l[k].2.2.2.2.2.1,l[k].2.2.2.2.2.2))=_ from he]
   rw [aD (by simp; omega),Option.bind_some,ap hk (by omega),f7 hk,List.map_append]; rfl
 . unfold ip
   simp only [dge (show ¬ l.length < l.length by omega),cond_false,List.take_length]
theorem vZ (xa xb:List Eg) (hn:xa.length≤1000000000):j6 xa xb=some (decide (xa=xb)):=by
 unfold j6
 by_cases hl:xa.length=xb.length
 . rw [pa hl,cond_false,qk (body:=jQ xa xb) xa xb (.inr false) (.inl ()) hl ?_ ?_]
   . by_cases h:xa=xb <;> simp [h]
   . intro k h; unfold jQ
     have h2:k < xb.length:=by omega
     simp only [dlt h,cond_true,ai h,ai h2,Option.bind_some,ap h (by omega)]
     generalize xa[k]=x; generalize xb[k]=y
     obtain ⟨x1,x2,x3,x4,x5,x6,x7⟩:=x; obtain ⟨y1,y2,y3,y4,y5,y6,y7⟩:=y
     by_cases q:(x1,x2,x3,x4,x5,x6,x7)=(y1,y2,y3,y4,y5,y6,y7)
     . rw [if_pos q]
       simp only [Prod.mk.injEq] at q
       obtain ⟨rfl,rfl,rfl,rfl,rfl,rfl,rfl⟩:=q
       simp
     . rw [if_neg q]
       simp only [Prod.mk.injEq] at q
       have:(decide (x1=y1)&&(decide (x2=y2)&&(decide (x3=y3)&&(decide (x4=y4)&&(decide (x5=y5)&&(decide (x6=y6)&&(x7 == y7)))))))=false:=by
         rw [Bool.eq_false_iff]; intro hc; apply q
         simpa [Bool.and_eq_true,decide_eq_true_eq,beq_iff_eq] using hc
       rw [this]; rfl
   . simp [jQ]
 . rw [lP hl,cond_true]
   have:¬ xa=xb:=fun h=>hl (by rw [h])
   simp [this]
end
set_option maxRecDepth 20000
section
open Go.RowKit Nu
abbrev b27:Bo:=(1,3,[],[[(1,false)],[(2,false)]],[(0,false)],[],[([(1,0,1,0,false)],(3,0,0,[],[],[]))])
theorem o9:Sm b27:=⟨by decide,by decide,by decide,by decide,by decide,by decide,by decide,by decide,by decide⟩
theorem tW:a8 (1,0,1,0,false) b27.2.2.2.1 b27.2.1=some ([(2,1,1,0,false)],0):=by
 unfold a8
 rw [show eQ ((1:Int),0,1,0,false)=_ from ko (1,0,1,0,false)]
 have e:cb [(2,false)] [(1,false)] 1 0=some ([(2,1,1,0,false)],0):=by
   rw [eV _ _ _ _ (by decide) (by decide) (by decide)]; rfl
 show ((cb [(2,false)] [(1,false)] 1 0).bind _)=_
 rw [e]; rfl
theorem tP:bj (3,0,0,[],[],[]) (ay b27)=some ([(1,0,7,0,false)],0):=by
 unfold bj
 rw [show dF ((3:Int),0,0,[],[],[])=_ from kh (3,0,0,[],[],[])]
 simp only [iG _ _ (show ([]:List Int).length≤1000 by simp)]
 have e:cb [(1,false)] [(0,false)] 7 0=some ([(1,0,7,0,false)],0):=by
   rw [eV _ _ _ _ (by decide) (by decide) (by decide)]; rfl
 show ((cb [(1,false)] [(0,false)] 7 0).bind _)=_
 rw [e]; rfl
theorem zo:(vck b27).1=0:=by
 have hs:sE b27.2.2.2.1 b27.2.1 (1,0,1,0,false)=0:=by unfold sE; rw [tW]; rfl
 have hr:tE (ay b27) (3,0,0,[],[],[])=0:=by unfold tE; rw [tP]; rfl
 have hc:aH b27=(0,0,0,0):=by
   have h1:aE b27 ([(1,0,1,0,false)],(3,0,0,[],[],[]))=none:=by
     unfold aE
     simp only [List.findIdx?_cons,hs,hr]
     rfl
   unfold aH
   simp only [List.findIdx?_cons,h1]
   rfl
 unfold vck
 rw [hc]; rfl
theorem oV:xs b27=b27.2.2.2.2.2.2:=by unfold xs; rw [if_pos zo]
theorem zu:egA b27=[(2,1,(0,0,1,0,false)),(1,0,(0,1,7,0,false))]:=by
 unfold egA
 have h2:bg (xs b27) (xs b27).length=2:=by rw [oV]; decide
 rw [h2]
 have hx:(xs b27).length=1:=by rw [oV]; rfl
 have e0:(xs b27)[0]'(by omega)=([(1,0,1,0,false)],(3,0,0,[],[],[])):=by simp only [oV]; rfl
 have bg0:bg (xs b27) 0=0:=rfl
 have a0:=dq (b:=b27) (j:=0) (k:=0) (by omega) (by omega)
 have a1:=dq (b:=b27) (j:=0) (k:=1) (by omega) (by rw [e0]; decide)
 rw [bg0,e0] at a0 a1
 have n0:nds b27 ([(1,0,1,0,false)],(3,0,0,[],[],[])) 0=[(2,1,1,0,false)]:=by
   unfold nds
   rw [dif_pos (by decide)]
   show ((a8 (1,0,1,0,false) b27.2.2.2.1 b27.2.1).getD ([],0)).1=_
   rw [tW]; rfl
 have n1:nds b27 ([(1,0,1,0,false)],(3,0,0,[],[],[])) 1=[(1,0,7,0,false)]:=by
   unfold nds
   rw [dif_neg (by decide),tP]; rfl
 unfold egs at a0 a1
 rw [n0] at a0; rw [n1] at a1
 show ([]++egN b27 0)++egN b27 1=_
 rw [show egN b27 0=_ from a0,show egN b27 1=_ from a1]; rfl
theorem kO:eK=some true:=by
 unfold eK
 have t0:bq 0=[48]:=by decide +kernel
 have t1:bq 1=[49]:=by decide +kernel
 have t2:bq 2=[50]:=by decide +kernel
 have p1:cK (2,1,(0,0,1,0,false))=[50,58,49,32,97,116,32,48,46,48,32,102,108,111,119,32,48]:=by
   unfold cK pair fE du; simp only [t0,t1,t2]; decide +kernel
 have p2:cK (1,0,(0,1,7,0,false))=[49,58,48,32,97,116,32,48,46,49,32,111,117,116,32,48]:=by
   unfold cK pair fE du; simp only [t0,t1,t2]; decide +kernel
 rw [show bU (1,3,[],[[(1,false)],[(2,false)]],[(0,false)],[],[([(1,0,1,0,false)],(3,0,0,[],[],[]))])=_ from kv o9,Option.bind_some,uW _ (by have:=nS o9; omega) (zi o9),zu]
 simp only [Option.bind_some,List.map_cons,List.map_nil,p1,p2]
 rfl
end
section
def bG (X:List Blk):List (Nat×Tm):=X.map (fun x=>(x.1.length,x.2))
theorem wB {X Y:List Blk} (h:bG X=bG Y):X.length=Y.length:=by
 have:=congrArg List.length h
 simpa [bG] using this
theorem r9 {X Y:List Blk} (h:bG X=bG Y) (k:Nat):bg X k=bg Y k:=by
 have e:∀ X:List Blk,bg X k=(((bG X).take k).map (·.1)).sum + k:=fun X=>by
   unfold bg stm bG
   rw [← List.map_take,List.map_map]; rfl
 rw [e,e,h]
theorem xA {X Y:List Blk} (h:bG X=bG Y):bg X X.length=bg Y Y.length:=by rw [r9 h,wB h]
def swS (X:List Blk) (i a:Nat) (s:Stm):List Blk:=X.set i ((X.getD i (([],0,0,0,[],[],[]):Blk)).1.set a s,(X.getD i (([],0,0,0,[],[],[]):Blk)).2)
section
variable {X:List Blk} {i a:Nat} {s:Stm}
theorem fj:(swS X i a s).length=X.length:=by simp [swS]
theorem nX {j:Nat} (hj:j < X.length) (hj':j < (swS X i a s).length):(swS X i a s)[j]=if i=j then (X[j].1.set a s,X[j].2) else X[j]:=by
 simp only [swS,List.getElem_set]
 by_cases q:i=j
 . subst q; rw [if_pos rfl,if_pos rfl,gz hj]
 . rw [if_neg q,if_neg q]
theorem nF:bG X=bG (swS X i a s):=by
 apply List.ext_getElem (by simp [bG,swS])
 intro j h1 h2
 have hj:j < X.length:=by simpa [bG] using h1
 have hj':j < (swS X i a s).length:=by rw [fj]; exact hj
 simp only [bG,List.getElem_map]
 rw [nX hj hj']
 by_cases q:i=j
 . rw [if_pos q]; simp
 . rw [if_neg q]
theorem sF {x:Blk} (h:x∈swS X i a s):x∈X∨∃ (hi:i < X.length),x=(X[i].1.set a s,X[i].2):=by
 obtain ⟨j,hj',rfl⟩:=List.getElem_of_mem h
 have hj:j < X.length:=by rw [fj] at hj'; exact hj'
 rw [nX hj hj']
 by_cases q:i=j
 . subst q; right; exact ⟨hj,by rw [if_pos rfl]⟩
 . left; rw [if_neg q]; exact List.getElem_mem hj
end
theorem gT {a b:Flt} (h:(or0 a b).1=0):a.1=0∧b.1=0:=by
 unfold or0 at h
 split at h
 . rename_i q; exact ⟨q,h⟩
 . rename_i q; exact absurd h q
theorem wJ {b:Bo} (h:(vck b).1=0):∀ x∈b.2.2.2.2.2.2,(∀ s∈x.1,sE b.2.2.2.1 b.2.1 s=0)∧tE (ay b) x.2=0:=by
 unfold vck at h
 have hc:=(gT (gT (gT (gT (gT (gT h).2).2).2).2).2).2
 unfold aH at hc
 cases hq:b.2.2.2.2.2.2.findIdx? (fun x=>(aE b x).isSome) with
 | none =>
   intro x hx
   have:=List.findIdx?_eq_none_iff.1 hq x hx
   unfold aE at this
   split at this
   . simp at this
   . rename_i hs
     refine ⟨fun s hm=>?_,?_⟩
     . have:=List.findIdx?_eq_none_iff.1 hs s hm
       simpa using this
     . by_cases q:tE (ay b) x.2=0
       . exact q
       . rw [if_neg q] at this; simp at this
 | some k =>
   exfalso
   rw [hq] at hc
   obtain ⟨hk,hcc,_⟩:=List.findIdx?_eq_some_iff_getElem.1 hq
   have e:b.2.2.2.2.2.2.getD k ([],0,0,0,[],[],[])=b.2.2.2.2.2.2[k]:=by simp [List.getD,hk]
   simp only [e] at hc
   unfold aE at hcc hc
   split at hcc
   . rename_i j hj
     rw [hj] at hc
     obtain ⟨hj1,hj2,_⟩:=List.findIdx?_eq_some_iff_getElem.1 hj
     have e2:b.2.2.2.2.2.2[k].1.getD j (0,0,0,0,false)=b.2.2.2.2.2.2[k].1[j]:=by simp [List.getD,hj1]
     simp only [e2,bK] at hc
     simp [hc] at hj2
   . rename_i hj
     rw [hj] at hc
     by_cases q:tE (ay b) b.2.2.2.2.2.2[k].2=0
     . rw [if_pos q] at hcc; simp at hcc
     . rw [if_neg q] at hc; simp only [bK] at hc; exact q hc
def swB (b:Bo) (i a:Nat) (s:Stm):Bo:=(b.1,b.2.1,b.2.2.1,b.2.2.2.1,b.2.2.2.2.1,b.2.2.2.2.2.1,swS b.2.2.2.2.2.2 i a s)
theorem dQ {a b:Flt}:(or0 a b).1=0↔a.1=0∧b.1=0:=by
 unfold or0
 by_cases q:a.1=0
 . simp [q]
 . simp [q]
theorem sn {b:Bo}:(vck b).1=0↔((bC b).1=0∧(cv b).1=0∧(bL b).1=0∧(aZ b).1=0∧(ca b).1=0∧(cT b).1=0)∧∀ x∈b.2.2.2.2.2.2,(∀ s∈x.1,sE b.2.2.2.1 b.2.1 s=0)∧tE (ay b) x.2=0:=by
 constructor
 . intro h
   refine ⟨?_,wJ h⟩
   unfold vck at h
   simp only [dQ] at h
   exact ⟨h.1,h.2.1,h.2.2.1,h.2.2.2.1,h.2.2.2.2.1,h.2.2.2.2.2.1⟩
 . rintro ⟨⟨h1,h2,h3,h4,h5,h6⟩,h7⟩
   unfold vck
   simp only [dQ]
   refine ⟨h1,h2,h3,h4,h5,h6,?_⟩
   unfold aH
   have:b.2.2.2.2.2.2.findIdx? (fun x=>(aE b x).isSome)=none:=List.findIdx?_eq_none_iff.2 fun x hx=>by
     obtain ⟨g1,g2⟩:=h7 x hx
     unfold aE
     rw [List.findIdx?_eq_none_iff.2 (fun s hs=>by rw [g1 s hs]; rfl)]
     simp [g2]
   rw [this]
theorem tI {b:Bo} {i a:Nat} {s:Stm} (hs:sE b.2.2.2.1 b.2.1 s=0) (h:(vck b).1=0):(vck (swB b i a s)).1=0:=by
 obtain ⟨⟨h1,h2,h3,h4,h5,h6⟩,h7⟩:=sn.1 h
 have hlen:(swS b.2.2.2.2.2.2 i a s).length=b.2.2.2.2.2.2.length:=fj
 have hne:b.2.2.2.2.2.2≠[]:=fun e=>by unfold cT at h6; rw [if_pos e] at h6; simp at h6
 refine sn.2 ⟨⟨h1,h2,h3,h4,h5,?_⟩,fun x hx=>?_⟩
 . have:swS b.2.2.2.2.2.2 i a s≠[]:=fun e=>hne (List.length_eq_zero_iff.1 (by rw [← hlen,e]; rfl))
   unfold cT
   rw [if_neg (show ¬ (swB b i a s).2.2.2.2.2.2=[] from this)]
 . have har:ay (swB b i a s)=ay b:=by unfold ay swB; dsimp only; rw [hlen]
   rw [har]
   rcases sF (show x∈swS b.2.2.2.2.2.2 i a s from hx) with hx | ⟨hi,rfl⟩
   . exact h7 x hx
   . obtain ⟨g1,g2⟩:=h7 _ (List.getElem_mem hi)
     refine ⟨fun t ht=>?_,g2⟩
     rcases List.mem_or_eq_of_mem_set ht with ht | rfl
     . exact g1 t ht
     . exact hs
theorem Sm.sw {b:Bo} (h:Sm b) (i a:Nat) (s:Stm):Sm (swB b i a s) where
 bounds:=h.bounds
 locals:=h.locals
 loc:=h.loc
 ret:=h.ret
 sigs:=h.sigs
 sig:=h.sig
 blocks:=by show (swS b.2.2.2.2.2.2 i a s).length≤65536; rw [fj]; exact h.blocks
 term:=fun x hx=>by
   rcases sF (show x∈swS b.2.2.2.2.2.2 i a s from hx) with hx | ⟨hi,rfl⟩
   . exact h.term x hx
   . have:=h.term _ (List.getElem_mem hi); exact this
 many:=by
   have e:stm (swS b.2.2.2.2.2.2 i a s)=stm b.2.2.2.2.2.2:=by
     have e:∀ X:List Blk,stm X=((bG X).map (·.1)).sum:=fun X=>by
       unfold stm bG
       rw [List.map_map]; rfl
     rw [e,e,← nF]
   show stm (swS b.2.2.2.2.2.2 i a s)≤65536
   rw [e]; exact h.many
end
theorem kz (t:List St) (n:Int):cB t n=some (rck n t):=by
 by_cases h:16 < t.length
 . unfold cB rck
   rw [decide_eq_true (by omega),if_pos h]; rfl
 . exact kg t n (by omega)
theorem wn (s:Sg):cg s=some (chk s):=by
 obtain ⟨n,B,A,R⟩:=s
 unfold cg chk
 dsimp only at *
 by_cases h0:n < 0
 . rw [decide_eq_true h0,if_pos h0]; rfl
 . rw [decide_eq_false h0,if_neg h0,cond_false,nP]
   by_cases h1:16 < n∨16 < B.length∨16 < A.length
   . rw [decide_eq_true h1,if_pos h1]; rfl
   . rw [decide_eq_false h1,if_neg h1,cond_false]
     rw [eZ (body:=eI (n,B,A,R)) B (aB n) (.inr 7) (.inl ()) ?_ ?_]
     . cases hb:B.any (aB n) with
       | true=>rfl
       | false =>
         simp only [Bool.false_eq_true,if_false,Option.bind_some]
         rw [oD (body:=eH (n,B,A,R)) (n:=n) (A:=A) (by omega) ?_ ?_]
         . rw [kz R n]
           simp only [Option.bind_some]
           cases lc n A <;> rfl
         . intro k hk
           unfold eH
           simp only [dlt hk,cond_true,ai hk,Option.bind_some]
           rw [kz,Option.bind_some]
         . simp [eH]
     . intro k hk
       unfold eI ie
       simp only [dlt hk,cond_true,ai hk,Option.bind_some,ap hk (by omega:B.length≤9223372036854775807)]
       generalize B[k]=b
       obtain ⟨b1,b2⟩:=b
       have e (x:Int):(!((decide (0≤x))&&(decide (x < n))))=(decide (x < 0)||decide (n≤x)):=by
         by_cases p:x < 0 <;> by_cases q:n≤x <;> simp [p,q] <;> omega
       simp only [e,aB]
       by_cases p1:b1 < 0 <;> by_cases p2:n≤b1 <;> by_cases p3:b2 < 0 <;> by_cases p4:n≤b2 <;> simp [p1,p2,p3,p4]
     . simp [eI]
theorem vO {s:Sg} (h:chk s=0):s.2.1.length≤20∧s.2.2.1.length≤20∧s.2.2.2.length≤20∧∀ t∈s.2.2.1,t.length≤20:=by
 unfold chk at h
 by_cases h0:s.1 < 0
 . rw [if_pos h0] at h; cases h
 . rw [if_neg h0] at h
   by_cases h1:16 < s.1∨16 < s.2.1.length∨16 < s.2.2.1.length
   . rw [if_pos h1] at h; cases h
   . rw [if_neg h1] at h
     cases hb:s.2.1.any (aB s.1) with
     | true=>rw [hb] at h; simp at h
     | false =>
       rw [hb] at h
       simp only [Bool.false_eq_true,if_false] at h
       unfold lc at h
       cases hf:s.2.2.1.findIdx? (fun t=>!decide (rck s.1 t=0)) with
       | some k =>
         exfalso
         obtain ⟨hk,h5,_⟩:=List.findIdx?_eq_some_iff_getElem.1 hf
         have e:s.2.2.1.getD k []=s.2.2.1[k]:=by simp [List.getD,hk]
         rw [hf] at h
         simp only [e] at h
         simp [h] at h5
       | none =>
         rw [hf] at h
         have hr:=(cq h).1
         refine ⟨by omega,by omega,by omega,fun t ht=>?_⟩
         have:=List.findIdx?_eq_none_iff.1 hf t ht
         have:=(cq (by simpa using this)).1
         omega
theorem xu (x:Tm) (a:Ar) (hR:a.2.2.2.1.length≤20) (hL:∀ t∈a.2.2.1,t.length≤20) (hS:∀ s∈a.2.2.2.2,s.2.1.length≤20∧s.2.2.1.length≤20∧s.2.2.2.length≤20∧∀ t∈s.2.2.1,t.length≤20) :
   ∃ l e,bV x a=some (l,e)∧bj x a=some (l,e):=by
 by_cases hf:bD x=0
 . obtain ⟨_,l2,l3,l4⟩:=qt hf
   obtain ⟨l,e,h1,h2,_⟩:=nY x a (by omega) (by omega) (by omega) hR hL hS
   exact ⟨l,e,h1,h2⟩
 . refine ⟨[],bD x,?_,?_⟩
   . unfold bV
     rw [show fW (x.1,x.2.1,x.2.2.1,x.2.2.2.1,x.2.2.2.2.1,x.2.2.2.2.2)=some (bD x) from q9 x,Option.bind_some,decide_eq_false hf]; rfl
   . unfold bj
     rw [show dF (x.1,x.2.1,x.2.2.1,x.2.2.2.1,x.2.2.2.2.1,x.2.2.2.2.2)=some (bD x) from kh x,Option.bind_some,decide_eq_false hf]; rfl
def lB (b:Bo):Flt:=if 65536 < b.2.2.1.length then (6,1,0,0) else cv b
def lL (b:Bo):Flt:=if b.2.2.2.1=[] then (14,2,0,0) else if 65536 < b.2.2.2.1.length then (6,2,0,0) else bL b
def lS (b:Bo):Flt:=if 65536 < b.2.2.2.2.2.1.length then (6,4,0,0) else ca b
def lkR (X:List Blk):Unit⊕Flt:=((List.range X.length).findSome? (fun k=>if 65536 < stm (X.take (k + 1)) then some (.inr (6,5,(k:Int),0):Unit⊕Flt) else none)).getD (.inl ())
def lK (b:Bo):Flt:=if b.2.2.2.2.2.2=[] then (14,5,0,0) else if 65536 < b.2.2.2.2.2.2.length then (6,5,0,0) else match lkR b.2.2.2.2.2.2 with | .inr f=>f | .inl ()=>(0,0,0,0)
theorem rT {X:List Blk} {f:Flt} (h:lkR X = .inr f):f.1=6:=by
 unfold lkR at h
 cases hf:(List.range X.length).findSome? (fun k=>if 65536 < stm (X.take (k + 1)) then some (.inr (6,5,(k:Int),0):Unit⊕Flt) else none) with
 | none=>rw [hf] at h; cases h
 | some v =>
   rw [hf] at h
   simp only [Option.getD_some] at h
   subst h
   obtain ⟨k,_,hk⟩:=List.exists_of_findSome?_eq_some hf
   by_cases q:65536 < stm (X.take (k + 1))
   . rw [if_pos q] at hk; cases hk; rfl
   . rw [if_neg q] at hk; cases hk
theorem kV {b:Bo} (h:(lL b).1=0):b.2.2.2.1≠[]∧b.2.2.2.1.length≤65536∧∀ t∈b.2.2.2.1,t.length≤20:=by
 unfold lL at h
 by_cases q:b.2.2.2.1=[]
 . rw [if_pos q] at h; cases h
 . rw [if_neg q] at h
   by_cases q2:65536 < b.2.2.2.1.length
   . rw [if_pos q2] at h; cases h
   . rw [if_neg q2] at h
     refine ⟨q,by omega,fun t ht=>?_⟩
     unfold bL at h
     rw [if_neg q] at h
     cases hf:b.2.2.2.1.findIdx? (fun t=>!decide (rck b.2.1 t=0)) with
     | some k =>
       exfalso
       obtain ⟨hk,h5,_⟩:=List.findIdx?_eq_some_iff_getElem.1 hf
       have e:b.2.2.2.1.getD k []=b.2.2.2.1[k]:=by simp [List.getD,hk]
       rw [hf] at h
       simp only [e] at h
       simp [h] at h5
     | none =>
       have:=List.findIdx?_eq_none_iff.1 hf t ht
       have:=(cq (by simpa using this)).1
       omega
theorem nc {b:Bo} (h:(aZ b).1=0):b.2.2.2.2.1.length≤20:=by
 unfold aZ at h
 by_cases q:rck b.1 b.2.2.2.2.1=0
 . have:=(cq q).1; omega
 . rw [if_neg q] at h; exact absurd h q
theorem nV {b:Bo} (h:(lS b).1=0):∀ s∈b.2.2.2.2.2.1,s.2.1.length≤20∧s.2.2.1.length≤20∧s.2.2.2.length≤20∧∀ t∈s.2.2.1,t.length≤20:=by
 unfold lS at h
 by_cases q2:65536 < b.2.2.2.2.2.1.length
 . rw [if_pos q2] at h; cases h
 . rw [if_neg q2] at h
   intro s hs
   unfold ca at h
   cases hf:b.2.2.2.2.2.1.findIdx? (fun s=>!decide (chk s=0)) with
   | some k =>
     exfalso
     obtain ⟨hk,h5,_⟩:=List.findIdx?_eq_some_iff_getElem.1 hf
     have e:b.2.2.2.2.2.1.getD k (0,[],[],[])=b.2.2.2.2.2.1[k]:=by simp [List.getD,hk]
     rw [hf] at h
     simp only [e] at h
     simp [h] at h5
   | none =>
     have:=List.findIdx?_eq_none_iff.1 hf s hs
     exact vO (by simpa using this)
theorem vx (b:Bo):ew b=some (lB b):=by
 unfold ew lB
 by_cases h1:65536 < b.2.2.1.length
 . rw [decide_eq_true (by omega),cond_true,if_pos h1]
 . unfold cv
   rw [if_neg h1,decide_eq_false (by omega),cond_false,aL (body:=ed b) b.2.2.1 (aB b.1) (fun k=>(.inr (7,1,(k:Int),0):Unit⊕Flt)) (.inl ()) ?_ ?_]
   . cases b.2.2.1.findIdx? (aB b.1) <;> rfl
   . intro k hk
     unfold ed ic aW
     simp only [dlt hk,cond_true,ai hk,Option.bind_some,ap hk (by omega:b.2.2.1.length≤9223372036854775807)]
     generalize b.2.2.1[k]=x
     obtain ⟨x1,x2⟩:=x
     have e (x:Int):(!((decide (0≤x))&&(decide (x < b.1))))=(decide (x < 0)||decide (b.1≤x)):=by
       by_cases p:x < 0 <;> by_cases q:b.1≤x <;> simp [p,q] <;> omega
     simp only [e,aB]
     by_cases p1:x1 < 0 <;> by_cases p2:b.1≤x1 <;> by_cases p3:x2 < 0 <;> by_cases p4:b.1≤x2 <;> simp [p1,p2,p3,p4]
   . simp [ed]
theorem yr (b:Bo):eA b=some (lL b):=by
 unfold eA lL
 by_cases q:b.2.2.2.1=[]
 . rw [if_pos q,q]; rfl
 . have q':¬ ((b.2.2.2.1.length:Nat):Int)=0:=fun hc=>q (List.length_eq_zero_iff.1 (by omega))
   rw [if_neg q,decide_eq_false q',cond_false]
   by_cases h1:65536 < b.2.2.2.1.length
   . rw [decide_eq_true (by omega),cond_true,if_pos h1]
   . unfold bL
     rw [if_neg h1,if_neg q,decide_eq_false (by omega),cond_false,aL (body:=d9 b) b.2.2.2.1 (fun t=>!decide (rck b.2.1 t=0)) (fun k=>(.inr (rck b.2.1 (b.2.2.2.1.getD k []),2,(k:Int),0):Unit⊕Flt)) (.inl ()) ?_ ?_]
     . cases b.2.2.2.1.findIdx? (fun t=>!decide (rck b.2.1 t=0)) <;> rfl
     . intro k hk
       unfold d9 aW
       have e:b.2.2.2.1.getD k []=b.2.2.2.1[k]:=by simp [List.getD,hk]
       simp only [dlt hk,cond_true,ai hk,Option.bind_some,ap hk (by omega:b.2.2.2.1.length≤9223372036854775807),e,kz]
       cases (!decide (rck b.2.1 b.2.2.2.1[k]=0)) <;> rfl
     . simp [d9]
theorem xV {b:Bo} (hL:b.2.2.2.1≠[]):cZ b=some (aZ b):=by
 unfold cZ aZ
 have hp:0 < b.2.2.2.1.length:=List.length_pos_iff.2 hL
 have e0:b.2.2.2.1.getD 0 []=b.2.2.2.1[0]:=by simp [List.getD,hp]
 have g0:aa b.2.2.2.1 0=some b.2.2.2.1[0]:=ai (k:=0) hp
 rw [kz,Option.bind_some,g0,Option.bind_some]
 by_cases q:rck b.1 b.2.2.2.2.1=0
 . have:=(cq q).1
   rw [eT _ _ (by omega),e0,Option.bind_some,if_pos q,q]
   cases shp b.2.2.2.2.1 b.2.2.2.1[0] <;> rfl
 . rw [if_neg q,decide_eq_false q]; rfl
theorem yp (b:Bo):eF b=some (lS b):=by
 unfold eF lS
 by_cases h1:65536 < b.2.2.2.2.2.1.length
 . rw [decide_eq_true (by omega),cond_true,if_pos h1]
 . unfold ca
   rw [if_neg h1,decide_eq_false (by omega),cond_false,aL (body:=ej b) b.2.2.2.2.2.1 (fun s=>!decide (chk s=0)) (fun k=>(.inr (chk (b.2.2.2.2.2.1.getD k (0,[],[],[])),4,(k:Int),0):Unit⊕Flt)) (.inl ()) ?_ ?_]
   . cases b.2.2.2.2.2.1.findIdx? (fun s=>!decide (chk s=0)) <;> rfl
   . intro k hk
     unfold ej aW
     have e:b.2.2.2.2.2.1.getD k (0,[],[],[])=b.2.2.2.2.2.1[k]:=by simp [List.getD,hk]
     simp only [dlt hk,cond_true,ai hk,Option.bind_some,ap hk (by omega:b.2.2.2.2.2.1.length≤9223372036854775807),e,show cg (b.2.2.2.2.2.1[k].1,b.2.2.2.2.2.1[k].2.1,b.2.2.2.2.2.1[k].2.2.1,b.2.2.2.2.2.1[k].2.2.2)=_ from wn _]
     cases (!decide (chk b.2.2.2.2.2.1[k]=0)) <;> rfl
   . simp [ej]
section
theorem qI {X:List Blk} (hx:∀ x∈X,x.1.length≤140737488351232) (k:Nat):stm (X.take k)≤X.length * 140737488351232:=by
 have key:∀ l:List Blk,(∀ x∈l,x.1.length≤140737488351232)→stm l≤l.length * 140737488351232:=by
   intro l
   induction l with
   | nil=>intro _; simp [stm]
   | cons x l ih =>
     intro h
     have h1:=ih (fun y hy=>h y (List.mem_cons_of_mem _ hy))
     have h2:=h x (List.mem_cons_self ..)
     unfold stm at *
     simp only [List.map_cons,List.sum_cons,List.length_cons,Nat.succ_mul]
     omega
 have h1:=key X hx
 have h2:=kJ (fun x:Blk=>x.1.length) X k
 unfold stm at *
 omega
section
variable {b:Bo} (hx:∀ x∈b.2.2.2.2.2.2,x.1.length≤140737488351232)
include hx
theorem rD {body:(Int×Int)→Option ((Int×Int)⊕(Unit⊕Flt))} (hX:b.2.2.2.2.2.2.length≤65536)
   (hb:∀ i k,body (i,k)=cond (decide (k < ((b.2.2.2.2.2.2.length:Nat):Int))) ((aa b.2.2.2.2.2.2 k).bind fun x=>cond (decide (65536 < (IntKind.wrap .i64 (i + ((x.1.length:Nat):Int))))) (some (.inr (.inr (6,5,k,0)))) (some (.inl (IntKind.wrap .i64 (i + ((x.1.length:Nat):Int)),IntKind.wrap .i64 (k + 1))))) (some (.inr (.inl ())))) :
   loop body (0,0)=some (lkR b.2.2.2.2.2.2):=by
 have h:=wx (body:=body) b.2.2.2.2.2.2.length (fun k:Nat=>(((stm (b.2.2.2.2.2.2.take k):Nat):Int),(k:Int))) (fun k=>if 65536 < stm (b.2.2.2.2.2.2.take (k + 1)) then some (.inr (6,5,(k:Int),0):Unit⊕Flt) else none) (.inl ()) ?_ ?_
 . unfold lkR
   rw [← h]; simp [stm]
 . intro k hk
   have a1:=iU hk
   have a2:=qI hx k
   have a3:=qI hx (k + 1)
   have a4:b.2.2.2.2.2.2.length * 140737488351232≤65536 * 140737488351232:=Nat.mul_le_mul_right _ hX
   rw [hb]
   simp only [dlt hk,cond_true,ai hk,Option.bind_some,ap hk (by omega:b.2.2.2.2.2.2.length≤9223372036854775807)]
   have e:IntKind.wrap .i64 (((stm (b.2.2.2.2.2.2.take k):Nat):Int) + ((b.2.2.2.2.2.2[k].1.length:Nat):Int))=((stm (b.2.2.2.2.2.2.take (k + 1)):Nat):Int):=by
     rw [w64 (by omega) (by omega),a1]; omega
   rw [e]
   by_cases q:65536 < stm (b.2.2.2.2.2.2.take (k + 1))
   . rw [decide_eq_true (by omega),if_pos q]; rfl
   . rw [decide_eq_false (by omega),if_neg q]; rfl
 . rw [hb]; simp
theorem yx:er b=some (lK b):=by
 unfold er lK
 by_cases q:b.2.2.2.2.2.2=[]
 . rw [if_pos q,q]; rfl
 . have q':¬ ((b.2.2.2.2.2.2.length:Nat):Int)=0:=fun hc=>q (List.length_eq_zero_iff.1 (by omega))
   rw [if_neg q,decide_eq_false q',cond_false]
   by_cases h1:65536 < b.2.2.2.2.2.2.length
   . rw [decide_eq_true (by omega),cond_true,if_pos h1]
   . rw [if_neg h1,decide_eq_false (by omega),cond_false,rD (body:=fN b) hx (by omega) (fun i k=>rfl)]
     cases lkR b.2.2.2.2.2.2 <;> rfl
theorem xf:eP b=some (or0 (bC b) (lB b)):=by
 obtain ⟨u,n,B,L,R,S,X⟩:=b
 unfold eP bC lB cv or0
 dsimp only at *
 by_cases q:u < 1∨n < u
 . have:(decide (u < 1)||decide (n < u))=true:=by simpa using q
   rw [this,if_pos q]; rfl
 . have:(decide (u < 1)||decide (n < u))=false:=by simpa using q
   rw [this,if_neg q,cond_false]
   by_cases q2:65536 < n
   . rw [decide_eq_true q2,if_pos q2]; rfl
   . rw [decide_eq_false q2,if_neg q2,cond_false]
     by_cases q3:65536 < B.length
     . rw [decide_eq_true (by omega),if_pos q3]; rfl
     . rw [decide_eq_false (by omega),if_neg q3,cond_false,aL (body:=eG (u,n,B,L,R,S,X)) B (aB u) (fun k=>(.inr (7,1,(k:Int),0):Unit⊕Flt)) (.inl ()) ?_ ?_]
       . cases B.findIdx? (aB u) <;> rfl
       . intro k hk
         unfold eG
         simp only [dlt hk,cond_true,ai hk,Option.bind_some,ap hk (by omega:B.length≤9223372036854775807)]
         show cond (aB u B[k]) _ _=_
         cases aB u B[k] <;> rfl
       . simp [eG]
omit hx in
theorem wb:eO b=some (or0 (lL b) (or0 (aZ b) (lS b))):=by
 obtain ⟨u,n,B,L,R,S,X⟩:=b
 unfold eO lL bL aZ lS ca
 dsimp only at *
 by_cases q:L=[]
 . subst q; rfl
 . have q' : ¬ ((L.length : Nat) : Int) = 0 := fun hc => q (List.length_eq_zero_iff.1 (by omega))
   rw [if_neg q,decide_eq_false q',cond_false]
   by_cases g1:65536 < L.length
   . rw [decide_eq_true (by omega),cond_true,if_pos g1]; rfl
   . rw [if_neg g1,if_neg q,decide_eq_false (by omega),cond_false,aL (body:=eB (u,n,B,L,R,S,X)) L (fun t=>!decide (rck n t=0)) (fun k=>(.inr (rck n (L.getD k []),2,(k:Int),0):Unit⊕Flt)) (.inl ()) ?_ ?_]
     . cases hf:L.findIdx? (fun t=>!decide (rck n t=0)) with
       | some k =>
         obtain ⟨hk,h5,_⟩:=List.findIdx?_eq_some_iff_getElem.1 hf
         have e:L.getD k []=L[k]:=by simp [List.getD,hk]
         have:¬ rck n L[k]=0:=by simpa using h5
         simp only [or0,e,if_neg this]; rfl
       | none =>
         have hp:0 < L.length:=List.length_pos_iff.2 q
         have e0:L.getD 0 []=L[0]:=by simp [List.getD,hp]
         have hL0:L[0].length≤16:=by
           have:=List.findIdx?_eq_none_iff.1 hf L[0] (List.getElem_mem hp)
           exact (cq (by simpa using this)).1
         simp only [Option.bind_some,fY]
         by_cases q2:rck u R=0
         . have g0:aa L 0=some L[0]:=ai (k:=0) hp
           simp only [q2,decide_true,Bool.not_true,cond_false,g0,Option.bind_some,e0]
           rw [iM _ _ (by omega),dK,Option.bind_some]
           cases hs:shp R L[0] with
           | false=>rfl
           | true =>
             simp only [Bool.not_true,cond_false]
             by_cases g2:65536 < S.length
             . rw [decide_eq_true (by omega),if_pos g2]; rfl
             . rw [decide_eq_false (by omega),if_neg g2,cond_false,aL (body:=eC (u,n,B,L,R,S,X)) S (fun s=>!decide (chk s=0)) (fun k=>(.inr (chk (S.getD k (0,[],[],[])),4,(k:Int),0):Unit⊕Flt)) (.inl ()) ?_ ?_]
               . cases S.findIdx? (fun s=>!decide (chk s=0)) <;> rfl
               . intro k hk
                 unfold eC
                 have e:S.getD k (0,[],[],[])=S[k]:=by simp [List.getD,hk]
                 simp only [dlt hk,cond_true,ai hk,Option.bind_some,ap hk (by omega:S.length≤9223372036854775807),e,show dE (S[k].1,S[k].2.1,S[k].2.2.1,S[k].2.2.2)=_ from mW S[k]]
                 cases (!decide (chk S[k]=0)) <;> rfl
               . simp [eC]
         . simp [q2,or0]
     . intro k hk
       unfold eB
       have e:L.getD k []=L[k]:=by simp [List.getD,hk]
       simp only [dlt hk,cond_true,ai hk,Option.bind_some,ap hk (by omega:L.length≤9223372036854775807),e,fY]
       cases (!decide (rck n L[k]=0)) <;> rfl
     . simp [eB]
variable (hL:∀ t∈b.2.2.2.1,t.length≤20) (hR:b.2.2.2.2.1.length≤20) (hS:∀ s∈b.2.2.2.2.2.1,s.2.1.length≤20∧s.2.2.1.length≤20∧s.2.2.2.length≤20∧∀ t∈s.2.2.1,t.length≤20)
include hL hR hS
omit hx hR hS in
theorem tm {x:Stm}:∃ l,cd x b.2.2.2.1 b.2.1=some (l,sE b.2.2.2.1 b.2.1 x)∧a8 x b.2.2.2.1 b.2.1=some (l,sE b.2.2.2.1 b.2.1 x):=by
 obtain ⟨l,e,h1,h2,_⟩:=mV x b.2.2.2.1 b.2.1 hL
 have:sE b.2.2.2.1 b.2.1 x=e:=by unfold sE; rw [h2]; rfl
 exact ⟨l,by rw [h1,this],by rw [h2,this]⟩
omit hx in
theorem tF {x:Tm}:∃ l,bV x (ay b)=some (l,tE (ay b) x)∧bj x (ay b)=some (l,tE (ay b) x):=by
 obtain ⟨l,e,h1,h2⟩:=xu x (ay b) hR hL hS
 have:tE (ay b) x=e:=by unfold tE; rw [h2]; rfl
 exact ⟨l,by rw [h1,this],by rw [h2,this]⟩
theorem xq (hX:b.2.2.2.2.2.2.length≤65536):cX b=some (aH b):=by
 unfold cX aH
 rw [aL (body:=ek b) b.2.2.2.2.2.2 (fun x=>(aE b x).isSome) (fun k=>(.inr (bK k (aE b (b.2.2.2.2.2.2.getD k ([],0,0,0,[],[],[])))):Unit⊕Flt)) (.inl ()) ?_ ?_]
 . cases b.2.2.2.2.2.2.findIdx? (fun x=>(aE b x).isSome) <;> rfl
 . intro k hk
   unfold ek
   have e:b.2.2.2.2.2.2.getD k ([],0,0,0,[],[],[])=b.2.2.2.2.2.2[k]:=by simp [List.getD,hk]
   have hst':=hx _ (List.getElem_mem hk)
   simp only [dlt hk,cond_true,ai hk,Option.bind_some,ap hk (by omega:b.2.2.2.2.2.2.length≤9223372036854775807),e]
   generalize b.2.2.2.2.2.2[k]=x at *
   obtain ⟨l,hT',_⟩:=tF hL hR hS (x:=x.2)
   rw [aL (body:=eh b k x) x.1 (fun s=>!decide (sE b.2.2.2.1 b.2.1 s=0)) (fun j=>(.inr (.inr (.inr (sE b.2.2.2.1 b.2.1 (x.1.getD j (0,0,0,0,false)),6,(k:Int),(j:Int)))):Unit⊕(Int⊕(Unit⊕Flt)))) (.inl ()) ?_ ?_]
   . unfold aE
     cases hf:x.1.findIdx? (fun s=>!decide (sE b.2.2.2.1 b.2.1 s=0)) with
     | some j=>rfl
     | none =>
       simp only [Option.bind_some]
       unfold aW jZ
       rw [Option.bind_some,show bV (x.2.1,x.2.2.1,x.2.2.2.1,x.2.2.2.2.1,x.2.2.2.2.2.1,x.2.2.2.2.2.2) (((b.2.2.2.2.2.2.length:Nat):Int),b.2.1,b.2.2.2.1,b.2.2.2.2.1,b.2.2.2.2.2.1)=_ from hT',Option.bind_some]
       by_cases q3:tE (ay b) x.2=0
       . simp [q3]
       . simp [q3,bK]
   . intro j hj
     obtain ⟨l,hS',_⟩:=tm (b:=b) hL (x:=x.1[j])
     have e2:x.1.getD j (0,0,0,0,false)=x.1[j]:=by simp [List.getD,hj]
     unfold eh aW j4
     simp only [dlt hj,cond_true,ai hj,Option.bind_some,ap hj (by omega:x.1.length≤9223372036854775807),e2,show cd (x.1[j].1,x.1[j].2.1,x.1[j].2.2.1,x.1[j].2.2.2.1,x.1[j].2.2.2.2) b.2.2.2.1 b.2.1=_ from hS']
     cases (!decide (sE b.2.2.2.1 b.2.1 x.1[j]=0)) <;> rfl
   . simp [eh]
 . simp [ek]
theorem vf:cY b=some (or0 (lK b) (aH b)):=by
 unfold cY lK aH
 by_cases q:b.2.2.2.2.2.2=[]
 . rw [if_pos q,q]; rfl
 . have q' : ¬ ((b.2.2.2.2.2.2.length : Nat) : Int) = 0 := fun hc => q (List.length_eq_zero_iff.1 (by omega))
   rw [if_neg q,decide_eq_false q',cond_false]
   by_cases h1:65536 < b.2.2.2.2.2.2.length
   . rw [decide_eq_true (by omega),cond_true,if_pos h1]; rfl
   . rw [if_neg h1,decide_eq_false (by omega),cond_false,rD (body:=fO b) hx (by omega) (fun i k=>rfl)]
     cases hk6:lkR b.2.2.2.2.2.2 with
     | inr f =>
       have:=rT hk6
       simp only [Option.bind_some,or0]
       rw [if_neg (by omega)]
     | inl u =>
     rw [Option.bind_some]
     dsimp only
     rw [aL (body:=ep b) b.2.2.2.2.2.2 (fun x=>(aE b x).isSome) (fun k=>(.inr (bK k (aE b (b.2.2.2.2.2.2.getD k ([],0,0,0,[],[],[])))):Unit⊕Flt)) (.inl ()) ?_ ?_]
     . cases b.2.2.2.2.2.2.findIdx? (fun x=>(aE b x).isSome) <;> rfl
     . intro k hk
       unfold ep
       have e:b.2.2.2.2.2.2.getD k ([],0,0,0,[],[],[])=b.2.2.2.2.2.2[k]:=by simp [List.getD,hk]
       have hst':=hx _ (List.getElem_mem hk)
       simp only [dlt hk,cond_true,ai hk,Option.bind_some,ap hk (by omega:b.2.2.2.2.2.2.length≤9223372036854775807),e]
       generalize b.2.2.2.2.2.2[k]=x at *
       obtain ⟨l,_,hT'⟩:=tF hL hR hS (x:=x.2)
       rw [aL (body:=eo b k x) x.1 (fun s=>!decide (sE b.2.2.2.1 b.2.1 s=0)) (fun j=>(.inr (.inr (.inr (sE b.2.2.2.1 b.2.1 (x.1.getD j (0,0,0,0,false)),6,(k:Int),(j:Int)))):Unit⊕(Int⊕(Unit⊕Flt)))) (.inl ()) ?_ ?_]
       . unfold aE
         cases hf:x.1.findIdx? (fun s=>!decide (sE b.2.2.2.1 b.2.1 s=0)) with
         | some j=>rfl
         | none =>
           simp only [Option.bind_some]
           rw [show bj (x.2.1,x.2.2.1,x.2.2.2.1,x.2.2.2.2.1,x.2.2.2.2.2.1,x.2.2.2.2.2.2) (((b.2.2.2.2.2.2.length:Nat):Int),b.2.1,b.2.2.2.1,b.2.2.2.2.1,b.2.2.2.2.2.1)=_ from hT',Option.bind_some]
           by_cases q3:tE (ay b) x.2=0
           . simp [q3]
           . simp [q3,bK]
       . intro j hj
         obtain ⟨l,_,hS'⟩:=tm (b:=b) hL (x:=x.1[j])
         have e2:x.1.getD j (0,0,0,0,false)=x.1[j]:=by simp [List.getD,hj]
         unfold eo
         simp only [dlt hj,cond_true,ai hj,Option.bind_some,ap hj (by omega:x.1.length≤9223372036854775807),e2,show a8 (x.1[j].1,x.1[j].2.1,x.1[j].2.2.1,x.1[j].2.2.2.1,x.1[j].2.2.2.2) b.2.2.2.1 b.2.1=_ from hS']
         cases (!decide (sE b.2.2.2.1 b.2.1 x.1[j]=0)) <;> rfl
       . simp [eo]
     . simp [ep]
end
def lck (b:Bo):Flt:=or0 (bC b) (or0 (lB b) (or0 (lL b) (or0 (aZ b) (or0 (lS b) (or0 (lK b) (aH b))))))
theorem xl (b:Bo):eE b=some (bC b):=by
 unfold eE bC
 by_cases q:b.1 < 1∨b.2.1 < b.1
 . have:(decide (b.1 < 1)||decide (b.2.1 < b.1))=true:=by simpa using q
   rw [this,if_pos q]; rfl
 . have:(decide (b.1 < 1)||decide (b.2.1 < b.1))=false:=by simpa using q
   rw [this,if_neg q,cond_false]
   by_cases q2:65536 < b.2.1
   . rw [decide_eq_true q2,if_pos q2]; rfl
   . rw [decide_eq_false q2,if_neg q2]; rfl
theorem se {b:Bo} (h:(lK b).1=0):b.2.2.2.2.2.2.length≤65536:=by
 unfold lK at h
 by_cases q:b.2.2.2.2.2.2=[]
 . rw [q]; simp
 . rw [if_neg q] at h
   by_cases q2:65536 < b.2.2.2.2.2.2.length
   . rw [if_pos q2] at h; cases h
   . omega
theorem kA {b:Bo} (hx:∀ x∈b.2.2.2.2.2.2,x.1.length≤140737488351232):dD b=some (lck b)∧da b=some (lck b):=by
 have eb:b=b:=rfl
 have h1:=xl b
 have h2:=vx b
 have h3:=yr b
 have h4:(lL b).1=0→cZ b=some (aZ b):=fun h=>xV (kV h).1
 have h5:=yp b
 have h6:=yx hx
 have h7:(lL b).1=0→(aZ b).1=0→(lS b).1=0→(lK b).1=0→cX b=some (aH b):=fun a1 a2 a3 a4=>xq hx (kV a1).2.2 (nc a2) (nV a3) (se a4)
 have r1:=xf hx
 have r2:=wb (b:=b)
 have r3:(lL b).1=0→(aZ b).1=0→(lS b).1=0→cY b=some (or0 (lK b) (aH b)):=fun a1 a2 a3=>vf hx (kV a1).2.2 (nc a2) (nV a3)
 have hz6:(aH b).1=0→aH b=(0,0,0,0):=qg
 unfold dD da aW lck
 simp only [eb,Option.bind_some,h1,h2,h3,h5,h6,r1,r2]
 generalize bC b=v1 at *
 generalize lB b=v2 at *
 generalize lL b=v3 at *
 generalize aZ b=v4 at *
 generalize lS b=v5 at *
 generalize lK b=v6 at *
 generalize aH b=v7 at *
 generalize cZ b=o1 at *
 generalize cX b=o2 at *
 generalize cY b=o3 at *
 unfold or0 at *
 by_cases q1:v1.1=0 <;> by_cases q2:v2.1=0 <;> by_cases q3:v3.1=0 <;> by_cases q4:v4.1=0 <;> by_cases q5:v5.1=0 <;> by_cases q6:v6.1=0 <;> by_cases q7:v7.1=0 <;> simp_all
end
section
theorem vu {b:Bo} (hc:(aH b).1=0):∀ x∈b.2.2.2.2.2.2,tE (ay b) x.2=0:=by
 unfold aH at hc
 cases hq:b.2.2.2.2.2.2.findIdx? (fun x=>(aE b x).isSome) with
 | none =>
   intro x hx
   have:=List.findIdx?_eq_none_iff.1 hq x hx
   unfold aE at this
   split at this
   . simp at this
   . by_cases q:tE (ay b) x.2=0
     . exact q
     . rw [if_neg q] at this; simp at this
 | some k =>
   exfalso
   rw [hq] at hc
   obtain ⟨hk,hcc,_⟩:=List.findIdx?_eq_some_iff_getElem.1 hq
   have e:b.2.2.2.2.2.2.getD k ([],0,0,0,[],[],[])=b.2.2.2.2.2.2[k]:=by simp [List.getD,hk]
   simp only [e] at hc
   unfold aE at hcc hc
   split at hcc
   . rename_i j hj
     rw [hj] at hc
     obtain ⟨hj1,hj2,_⟩:=List.findIdx?_eq_some_iff_getElem.1 hj
     have e2:b.2.2.2.2.2.2[k].1.getD j (0,0,0,0,false)=b.2.2.2.2.2.2[k].1[j]:=by simp [List.getD,hj1]
     simp only [e2,bK] at hc
     simp [hc] at hj2
   . rename_i hj
     rw [hj] at hc
     by_cases q:tE (ay b) b.2.2.2.2.2.2[k].2=0
     . rw [if_pos q] at hcc; simp at hcc
     . rw [if_neg q] at hc; simp only [bK] at hc; exact q hc
theorem yH {a:Ar} {x:Tm} (h:tE a x=0):bD x=0:=by
 by_cases q:bD x=0
 . exact q
 . exfalso
   unfold tE bj at h
   rw [show dF (x.1,x.2.1,x.2.2.1,x.2.2.2.1,x.2.2.2.2.1,x.2.2.2.2.2)=_ from kh x] at h
   simp only [Option.bind_some,decide_eq_false q,Bool.not_false,cond_true] at h
   exact q h
theorem xW {b:Bo} (h:(lK b).1=0):stm b.2.2.2.2.2.2≤65536:=by
 unfold lK at h
 by_cases q:b.2.2.2.2.2.2=[]
 . rw [q]; simp [stm]
 . rw [if_neg q] at h
   by_cases q2:65536 < b.2.2.2.2.2.2.length
   . rw [if_pos q2] at h; cases h
   . rw [if_neg q2] at h
     cases hl:lkR b.2.2.2.2.2.2 with
     | inr f=>rw [hl] at h; rw [rT hl] at h; cases h
     | inl u =>
       unfold lkR at hl
       cases hf:(List.range b.2.2.2.2.2.2.length).findSome? (fun k=>if 65536 < stm (b.2.2.2.2.2.2.take (k + 1)) then some (.inr (6,5,(k:Int),0):Unit⊕Flt) else none) with
       | some v =>
         exfalso
         rw [hf] at hl
         simp only [Option.getD_some] at hl
         subst hl
         obtain ⟨l1,k,l2,_,hk,_⟩:=List.findSome?_eq_some_iff.1 hf
         split at hk <;> cases hk
       | none =>
         have hp:0 < b.2.2.2.2.2.2.length:=List.length_pos_iff.2 q
         have:=List.findSome?_eq_none_iff.1 hf (b.2.2.2.2.2.2.length - 1) (List.mem_range.2 (by omega))
         rw [show b.2.2.2.2.2.2.length - 1 + 1=b.2.2.2.2.2.2.length by omega,List.take_length] at this
         by_cases q3:65536 < stm b.2.2.2.2.2.2
         . rw [if_pos q3] at this; cases this
         . omega
theorem yZ {b:Bo} (h:(lck b).1=0):Sm b:=by
 unfold lck at h
 obtain ⟨_,h⟩:=dQ.1 h
 obtain ⟨h2,h⟩:=dQ.1 h
 obtain ⟨h3,h⟩:=dQ.1 h
 obtain ⟨h4,h⟩:=dQ.1 h
 obtain ⟨h5,h⟩:=dQ.1 h
 obtain ⟨h6,h7⟩:=dQ.1 h
 obtain ⟨_,l2,l3⟩:=kV h3
 have hs:=nV h5
 refine ⟨?_,l2,l3,nc h4,?_,hs,se h6,fun x hx=>?_,xW h6⟩
 . unfold lB at h2
   by_cases q:65536 < b.2.2.1.length
   . rw [if_pos q] at h2; cases h2
   . omega
 . unfold lS at h5
   by_cases q:65536 < b.2.2.2.2.2.1.length
   . rw [if_pos q] at h5; cases h5
   . omega
 . obtain ⟨_,a,b,c⟩:=qt (yH (vu h7 x hx))
   exact ⟨by omega,by omega,by omega⟩
section
variable {b:Bo} (hx:∀ x∈b.2.2.2.2.2.2,x.1.length≤140737488351232)
include hx
theorem yk (h:Sm b):lck b=vck b:=by
 have h1:=(kA hx).1
 rw [pG h] at h1
 exact (Option.some.inj h1).symm
theorem uV (h:(lck b).1≠0):db b=some (some ([],0)):=by
 unfold db ki
 rw [show dD b=_ from (kA hx).1]
 simp only [Option.bind_some,decide_eq_false h]; rfl
theorem vE (h:(lck b).1≠0):dG b=some []:=by
 unfold dG dI
 rw [show da b=_ from (kA hx).2]
 simp only [Option.bind_some,decide_eq_false h]; rfl
theorem vU:dI b=some (decide ((lck b).1=0)):=by
 unfold dI
 rw [show da b=_ from (kA hx).2]; rfl
end
end
theorem wN {b:Bo} (hx:∀ x∈b.2.2.2.2.2.2,x.1.length≤140737488351232):∃ l m,bU b=some l∧dJ b=some m∧l.length=m.length:=by
 by_cases q:(lck b).1=0
 . have h:=yZ q
   exact ⟨_,_,kv h,vl h,rfl⟩
 . refine ⟨[],[],?_,?_,rfl⟩
   . unfold bU
     rw [show db b=_ from uV hx q]
     have e1:dC (some ([],0))=some 0:=rfl
     simp only [Option.bind_some,rE,e1]
     rw [gl (b:=([]:List Eg)) rfl]; rfl
   . unfold dJ
     rw [show dG b=_ from vE hx q,Option.bind_some,gl (b:=([]:List Eg)) rfl]; rfl
def plc (X:List Blk) (e:Eg) (n:Nat):Prop:=∃ (j k:Nat) (hj:j < X.length),k≤X[j].1.length∧n=bg X j + k∧e.2.2.1=(j:Int)∧e.2.2.2.1=(k:Int)
theorem sR {X:List Blk} {e f:Eg} {m n:Nat} (h:plc X e m) (g:plc X f n) (hm:m≤n):e.2.2.1 < f.2.2.1∨(e.2.2.1=f.2.2.1∧e.2.2.2.1≤f.2.2.2.1):=by
 obtain ⟨j,k,hj,hk,rfl,e1,e2⟩:=h
 obtain ⟨j',k',hj',hk',rfl,f1,f2⟩:=g
 rw [e1,e2,f1,f2]
 rcases Nat.lt_trichotomy j j' with h | h | h
 . exact .inl (by omega)
 . subst h; exact .inr ⟨rfl,by omega⟩
 . exfalso
   have h1:=gq X (i:=j' + 1) (j:=j) h (by omega)
   rw [cG hj'] at h1
   omega
theorem iZ {b:Bo} (h:Sm b) {n:Nat} (hn:n < bg (xs b) (xs b).length):∀ e∈egN b n,plc (xs b) e n:=by
 obtain ⟨j,k,hj,hk,rfl,_⟩:=gM (xs b) (xs b).length (Nat.le_refl _) n hn
 intro e he
 rw [dq hj hk] at he
 obtain ⟨_,_,_,_,c5,c6,_⟩:=(gx h (k:=k) hj).2 e he
 exact ⟨j,k,hj,hk,rfl,c5,c6⟩
theorem nZ {b:Bo} (h:Sm b):∀ n,n≤bg (xs b) (xs b).length→∀ e∈egF b n,∃ m,m < n∧plc (xs b) e m
 | 0,_,e,he=>by simp [egF] at he
 | n + 1,hn,e,he=>by
   rcases List.mem_append.1 he with he | he
   . obtain ⟨m,h1,h2⟩:=nZ h n (by omega) e he
     exact ⟨m,by omega,h2⟩
   . exact ⟨n,by omega,iZ h (by omega) e he⟩
def lU (e f:Eg):Prop:=e.2.2.1 < f.2.2.1∨(e.2.2.1=f.2.2.1∧e.2.2.2.1≤f.2.2.2.1)
theorem rH {b:Bo} (h:Sm b):∀ n,n≤bg (xs b) (xs b).length→(egF b n).Pairwise lU
 | 0,_=>by simp [egF]
 | n + 1,hn=>by
   show (egF b n++egN b n).Pairwise lU
   refine List.pairwise_append.2 ⟨rH h n (by omega),?_,fun e he f hf=>?_⟩
   . exact List.pairwise_of_forall_mem_list fun e he f hf=>sR (iZ h (by omega) e he) (iZ h (by omega) f hf) (Nat.le_refl _)
   . obtain ⟨m,h1,h2⟩:=nZ h n (by omega) e he
     exact sR h2 (iZ h (by omega) f hf) (by omega)
abbrev aK:Stm:=(0,0,0,0,false)
def oth (i a:Int) (e:Eg):Bool:=!decide (e.2.2.1=i)||!decide (e.2.2.2.1=a)
theorem yc (b:Bo) {x:Blk} {k:Nat} (hk:k < x.1.length) (h:x.1[k]=aK):nds b x k=[]:=by
 unfold nds
 rw [dif_pos hk,h]
 have:a8 aK b.2.2.2.1 b.2.1=some ([],0):=by
   unfold a8
   rw [show eQ ((0:Int),0,0,0,false)=_ from ko (0,0,0,0,false)]
   rfl
 rw [this]; rfl
theorem sV {b:Bo} (h:Sm b) (hv:(vck b).1=0) {i a:Nat} (hi:i < b.2.2.2.2.2.2.length) (ha:a < b.2.2.2.2.2.2[i].1.length):∀ n,n≤bg (xs b) (xs b).length→egF (swB b i a aK) n=(egF b n).filter (oth i a)
 | 0,_=>rfl
 | n + 1,hn=>by
   show egF (swB b i a aK) n++egN (swB b i a aK) n=(egF b n++egN b n).filter (oth i a)
   rw [List.filter_append,sV h hv hi ha n (by omega)]
   congr 1
   have hv':=tI (i:=i) (a:=a) (tc b.2.2.2.1 b.2.1) hv
   have x1:xs b=b.2.2.2.2.2.2:=by unfold xs; rw [if_pos hv]
   have x2:xs (swB b i a aK)=swS b.2.2.2.2.2.2 i a aK:=by unfold xs; rw [if_pos hv']; rfl
   obtain ⟨j,k,hj,hk,e,_⟩:=gM (xs b) (xs b).length (Nat.le_refl _) n (by omega)
   have hp:=iZ h (n:=n) (by omega)
   have hj1:j < b.2.2.2.2.2.2.length:=by rw [← x1]; exact hj
   have hj2:j < (xs (swB b i a aK)).length:=by rw [x2,fj]; exact hj1
   have ex1:(xs b)[j]=b.2.2.2.2.2.2[j]:=by simp only [x1]
   have ex2:(xs (swB b i a aK))[j]=if i=j then (b.2.2.2.2.2.2[j].1.set a aK,b.2.2.2.2.2.2[j].2) else b.2.2.2.2.2.2[j]:=by
     rw [← nX (X:=b.2.2.2.2.2.2) (i:=i) (a:=a) (s:=aK) hj1 (by rw [fj]; exact hj1)]
     simp only [x2]
   have hlen:(xs (swB b i a aK))[j].1.length=(xs b)[j].1.length:=by
     rw [ex2,ex1]; split
     . rw [List.length_set]
     . rfl
   have ebg:bg (xs (swB b i a aK)) j=bg (xs b) j:=by rw [x1,x2]; exact (r9 nF j).symm
   have en:n=bg (xs (swB b i a aK)) j + k:=by rw [ebg]; exact e
   have e1:egN b n=egs b (xs b)[j] j k:=by rw [e]; exact dq hj hk
   have e2:egN (swB b i a aK) n=egs (swB b i a aK) (xs (swB b i a aK))[j] j k:=by rw [en]; exact dq hj2 (by rw [hlen]; exact hk)
   have har:ay (swB b i a aK)=ay b:=by unfold ay swB; dsimp only; rw [fj]
   rw [e2]
   by_cases q:i=j∧a=k
   . obtain ⟨rfl,rfl⟩:=q
     have:(egN b n).filter (oth i a)=[]:=by
       rw [List.filter_eq_nil_iff]
       intro f hf
       rw [e1] at hf
       obtain ⟨_,_,_,_,c5,c6,_⟩:=(gx h (k:=a) hj).2 f hf
       unfold oth; rw [c5,c6]; simp
     rw [this,ex2,if_pos rfl]
     unfold egs
     rw [yc (swB b i a aK) (x:=(b.2.2.2.2.2.2[i].1.set a aK,b.2.2.2.2.2.2[i].2)) (k:=a) (by simpa using ha) (by simp)]; rfl
   . have:(egN b n).filter (oth i a)=egN b n:=by
       rw [List.filter_eq_self]
       intro f hf
       rw [e1] at hf
       obtain ⟨_,_,_,_,c5,c6,_⟩:=(gx h (k:=k) hj).2 f hf
       unfold oth; rw [c5,c6]
       rw [Bool.or_eq_true,Bool.not_eq_true',Bool.not_eq_true',decide_eq_false_iff_not,decide_eq_false_iff_not]
       by_cases c:j=i
       . exact .inr fun c2=>q ⟨c.symm,by omega⟩
       . exact .inl fun c2=>c (by omega)
     rw [this,e1]
     unfold egs
     congr 1
     rw [ex1,ex2]
     by_cases c:i=j
     . subst c
       rw [if_pos rfl]
       have hak:a≠k:=fun hak=>q ⟨rfl,hak⟩
       unfold nds
       by_cases hk2:k < b.2.2.2.2.2.2[i].1.length
       . rw [dif_pos (by simpa using hk2),dif_pos hk2,List.getElem_set_ne hak]; rfl
       . rw [dif_neg (by simpa using hk2),dif_neg hk2,har]
     . rw [if_neg c]
       unfold nds
       split
       . rfl
       . rw [har]
theorem yS {b:Bo} (h:Sm b) (hv:(vck b).1=0) {i a:Nat} (hi:i < b.2.2.2.2.2.2.length) (ha:a < b.2.2.2.2.2.2[i].1.length):egA (swB b i a aK)=(egA b).filter (oth i a):=by
 have hv':=tI (i:=i) (a:=a) (tc b.2.2.2.1 b.2.1) hv
 have x1:xs b=b.2.2.2.2.2.2:=by unfold xs; rw [if_pos hv]
 have x2:xs (swB b i a aK)=swS b.2.2.2.2.2.2 i a aK:=by unfold xs; rw [if_pos hv']; rfl
 have hN:bg (xs (swB b i a aK)) (xs (swB b i a aK)).length=bg (xs b) (xs b).length:=by rw [x1,x2]; exact (xA nF).symm
 unfold egA
 rw [hN]; exact sV h hv hi ha _ (Nat.le_refl _)
theorem xT {b:Bo} (h:Sm b) (hv:(vck b).1=0) (xb xc:Int):loop (ig b xb xc (egA b)) ([],0)=some (.inl ((egA b).filter (oth xb xc))):=by
 have hl:=nS h
 have x1:xs b=b.2.2.2.2.2.2:=by unfold xs; rw [if_pos hv]
 have hr:=rH h _ (Nat.le_refl (bg (xs b) (xs b).length))
 have hg:=(gg h (bg (xs b) (xs b).length)).2
 have hp:=nZ h _ (Nat.le_refl (bg (xs b) (xs b).length))
 change (egA b).Pairwise lU at hr
 change ∀ e∈egA b,_ at hg
 change ∀ e∈egA b,_ at hp
 generalize egA b=A at *
 refine qu (body:=ig b xb xc A) A (fun k=>(A.take k).filter (oth xb xc)) (Sum.inl (A.filter (oth xb xc))) (fun k hk=>?_) ?_
 . have hm:=List.getElem_mem hk
   obtain ⟨g1,g2,g3,g4,g5,g6,g7,g8,g9,g10,g11,g12,g13⟩:=hg _ hm
   obtain ⟨n,_,j,q,hj,hq,_,e5,e6⟩:=hp _ hm
   have hfl:((A.take k).filter (oth xb xc)).length≤k:=Nat.le_trans (List.length_filter_le _ _) (by rw [List.length_take]; omega)
   have hj1:j < b.2.2.2.2.2.2.length:=by rw [← x1]; exact hj
   have ex1:(xs b)[j]=b.2.2.2.2.2.2[j]:=by simp only [x1]
   rw [ex1] at hq
   have hrt:right A[k].2.2=true:=by
     unfold right
     simp only [Bool.and_eq_true,decide_eq_true_eq]
     exact ⟨⟨⟨g5,g7⟩,g11⟩,g9,g10⟩
   have hgb:aa b.2.2.2.2.2.2 A[k].2.2.1=some b.2.2.2.2.2.2[j]:=by rw [e5]; exact ai hj1
   have take1:=f7 hk
   -- what is laid to the others
   have last:(cond ((!decide (A[k].2.2.1=xb))||(!decide (A[k].2.2.2.1=xc))) ((aa A (k:Int)).bind fun x=>(app ((A.take k).filter (oth xb xc)) ([(x.1,x.2.1,(x.2.2.1,x.2.2.2.1,x.2.2.2.2.1,x.2.2.2.2.2.1,x.2.2.2.2.2.2))]:List Eg)).bind fun z=>some (.inl (z,IntKind.wrap .i64 ((k:Int) + 1)))) (some (.inl ((A.take k).filter (oth xb xc),IntKind.wrap .i64 ((k:Int) + 1)))):Option ((List Eg×Int)⊕(List Eg⊕Bool)))=some (.inl ((A.take (k + 1)).filter (oth xb xc),((k + 1:Nat):Int))):=by
     rw [ap hk (by omega),take1,List.filter_append]
     cases ho:oth xb xc A[k] with
     | true =>
       rw [show ((!decide (A[k].2.2.1=xb))||(!decide (A[k].2.2.2.1=xc)))=true from ho,cond_true,ai hk,Option.bind_some,aD (by simp; omega)]
       simp [ho]
     | false =>
       rw [show ((!decide (A[k].2.2.1=xb))||(!decide (A[k].2.2.2.1=xc)))=false from ho,cond_false]
       simp [ho]
   unfold ig
   simp only [dlt hk,cond_true,ai hk,Option.bind_some]
   rw [show fU (A[k].2.2.1,A[k].2.2.2.1,A[k].2.2.2.2.1,A[k].2.2.2.2.2.1,A[k].2.2.2.2.2.2)=_ from pM A[k].2.2,hrt]
   simp only [Option.bind_some,Bool.not_true,cond_false]
   rw [decide_eq_false (show ¬ A[k].1 < 0 by omega),decide_eq_false (show ¬ b.2.1≤A[k].1 by omega),decide_eq_false (show ¬ A[k].2.1 < 0 by omega),decide_eq_false (show ¬ b.2.1≤A[k].2.1 by omega)]
   simp only [cond_false]
   rw [decide_eq_false (show ¬ ((b.2.2.2.2.2.2.length:Nat):Int)≤A[k].2.2.1 by omega),cond_false,hgb,Option.bind_some,decide_eq_false (show ¬ ((b.2.2.2.2.2.2[j].1.length:Nat):Int) < A[k].2.2.2.1 by omega),cond_false]
   rw [ai hk] at last
   simp only [Option.bind_some] at last
   by_cases k0:0 < k
   . have hk1:k - 1 < A.length:=by omega
     have hkk:((k:Int) - 1)=((k - 1:Nat):Int):=by omega
     have hrise:=List.pairwise_iff_getElem.1 hr (k - 1) k hk1 hk (by omega)
     unfold lU at hrise
     rw [decide_eq_true (show (0:Int) < (k:Int) by omega),cond_true,w64 (by omega) (by omega),hkk,ai hk1]
     simp only [Option.bind_some]
     rw [decide_eq_false (show ¬ A[k].2.2.1 < A[k - 1].2.2.1 by omega),cond_false]
     by_cases c:A[k - 1].2.2.1=A[k].2.2.1
     . rw [decide_eq_true c,cond_true,decide_eq_false (show ¬ A[k].2.2.2.1 < A[k - 1].2.2.2.1 by omega),cond_false]
       exact last
     . rw [decide_eq_false c,cond_false]
       exact last
   . rw [decide_eq_false (show ¬ (0:Int) < (k:Int) by omega),cond_false]
     exact last
 . unfold ig
   dsimp only
   rw [dge (by omega),cond_false,List.take_length]
theorem uP (xa:Bo) (xb:Int) (xc:Int) (k0:Tp.Ok oe xa) (k1:Tp.Ok (.int .i64) xb) (k2:Tp.Ok (.int .i64) xc) (q0:Tp.Fit oe xa) (q1:Tp.Fit (.int .i64) xb) (q2:Tp.Fit (.int .i64) xc):mK xa xb xc=some true:=by
 have hx:=xx q0
 have big:((bU xa).bind fun l4339=>(dJ xa).bind fun l4349=>cond (decide ((((l4339.length:Nat):Int))=(((l4349.length:Nat):Int)))) ((eK).bind fun t4360=>some (t4360)) (some (false)))=some true:=by
   obtain ⟨l,m,h1,h2,h3⟩:=wN hx
   rw [show bU xa=_ from h1,Option.bind_some,show dJ xa=_ from h2,Option.bind_some,h3,decide_eq_true rfl,cond_true,kO]; rfl
 unfold mK
 rcases zm xa hx with h | ⟨h,hf⟩
 . rw [show eN xa=some false from h]
   simp only [Option.bind_some,Bool.not_false,cond_true]
   exact big
 . rw [show eN xa=some true from h,show dI xa=_ from vU hx]
   simp only [Option.bind_some,Bool.not_true,cond_false]
   by_cases q:(lck xa).1=0
   . rw [decide_eq_true q,Bool.not_true,cond_false]
     have hs:=hf.sm
     have hv:(vck xa).1=0:=by rw [← yk hx hs]; exact q
     have hbk:=hf.blocks
     rw [show bU xa=_ from kv hs,Option.bind_some,xT hs hv xb xc]
     simp only [Option.bind_some]
     by_cases c1:(xb < 0∨((xa.2.2.2.2.2.2.length:Nat):Int)≤xb)∨xc < 0
     . have:(((decide (xb < 0))||(decide ((((xa.2.2.2.2.2.2.length:Nat):Int))≤xb)))||(decide (xc < 0)))=true:=by
         simp only [Bool.or_eq_true,decide_eq_true_eq]; exact c1
       rw [this]
       simp only [cond_true,Option.bind_some,kO]
     . have e1:(((decide (xb < 0))||(decide ((((xa.2.2.2.2.2.2.length:Nat):Int))≤xb)))||(decide (xc < 0)))=false:=by
         rw [← Bool.not_eq_true]; simp only [Bool.or_eq_true,decide_eq_true_eq]; exact c1
       rw [e1]
       simp only [not_or] at c1
       obtain ⟨i,rfl⟩:=Int.eq_ofNat_of_zero_le (a:=xb) (by omega)
       obtain ⟨a,rfl⟩:=Int.eq_ofNat_of_zero_le (a:=xc) (by omega)
       have hi:i < xa.2.2.2.2.2.2.length:=by omega
       have hst:=hs.stmts (List.getElem_mem hi)
       simp only [cond_false,ai hi,Option.bind_some]
       by_cases c2:a < xa.2.2.2.2.2.2[i].1.length
       . rw [decide_eq_false (show ¬ ((xa.2.2.2.2.2.2[i].1.length:Nat):Int)≤(a:Int) by omega)]
         simp only [cond_false]
         rw [aD (by simp; omega)]
         simp only [Option.bind_some,List.nil_append,ai hi]
         rw [aD (by simp; omega)]
         simp only [Option.bind_some,List.nil_append,show ∀ z:Int,hU z z=some () from fun z=>by unfold hU; simp,ai c2,Int.toNat_natCast]
         have e2:(xa.1,xa.2.1,xa.2.2.1,xa.2.2.2.1,xa.2.2.2.2.1,xa.2.2.2.2.2.1,xa.2.2.2.2.2.2.set i (xa.2.2.2.2.2.2[i].1.set a (0,0,0,0,false),(xa.2.2.2.2.2.2[i].2.1,xa.2.2.2.2.2.2[i].2.2.1,xa.2.2.2.2.2.2[i].2.2.2.1,xa.2.2.2.2.2.2[i].2.2.2.2.1,xa.2.2.2.2.2.2[i].2.2.2.2.2.1,xa.2.2.2.2.2.2[i].2.2.2.2.2.2)))=swB xa i a aK:=by
           unfold swB swS
           rw [gz hi]
         rw [e2,kv (hs.sw i a aK),Option.bind_some,yS hs hv hi c2,vZ _ _ (Nat.le_trans (List.length_filter_le _ _) (Nat.le_trans (nS hs) (by omega))),Option.bind_some,decide_eq_true rfl,cond_true,kO]; rfl
       . rw [decide_eq_true (show ((xa.2.2.2.2.2.2[i].1.length:Nat):Int)≤(a:Int) by omega)]
         simp only [cond_true,kO,Option.bind_some]
   . rw [decide_eq_false q,Bool.not_false,cond_true]
     exact big
theorem uJ {H:Type} (enc:TypeId×Value→H) (W:World) (base:Nat) {v0 v1 v2:Value} {d0 d1 d2:DataW H} {p0 p1 p2:List MemPlace}
   (h0:DataW.Trod enc Tryz.prog W 0 (fun _=>true) true 30 v0 d0 p0) (h1:DataW.Trod enc Tryz.prog W 0 (fun _=>true) true 3 v1 d1 p1) (h2:DataW.Trod enc Tryz.prog W 0 (fun _=>true) true 3 v2 d2 p2)
   (o0:Value.okWide Tryz.prog W .any base 30 v0) (o1:Value.okWide Tryz.prog W .any base 3 v1) (o2:Value.okWide Tryz.prog W .any base 3 v2)
   (w0:(d0.weights Tryz.prog 30).all (·≤reachBytes)=true)
   (w1:(d1.weights Tryz.prog 3).all (·≤reachBytes)=true)
   (w2:(d2.weights Tryz.prog 3).all (·≤reachBytes)=true) :
   Calls Tryz.prog 4 #[v0,v1,v2] W fun e W'=>e = .returned (.bool true)∧Below W.heap.size W W':=by
 obtain ⟨xa,i0,k0⟩:=Tp.arg (.cons (.int .i64) (.cons (.int .i64) (.cons (.sl (.cons (.int .i64) (.one (.int .i64)))) (.cons (.sl (.one (.sl (.cons (.int .i64) (.one .bool))))) (.cons (.one (.sl (.cons (.int .i64) (.one .bool)))) (.cons (.sl (.cons (.int .i64) (.cons (.sl (.cons (.int .i64) (.one (.int .i64)))) (.cons (.sl (.one (.sl (.cons (.int .i64) (.one .bool))))) (.one (.one (.sl (.cons (.int .i64) (.one .bool))))))))) (.one (.sl (.cons (.sl (.cons (.int .i64) (.cons (.int .i64) (.cons (.int .i64) (.cons (.int .i64) (.one .bool)))))) (.one (.cons (.int .i64) (.cons (.int .i64) (.cons (.int .i64) (.cons (.sl (.int .i64)) (.cons (.sl (.int .i64)) (.one (.sl (.int .i64)))))))))))))))))) (by kernel_rfl) o0 h0
 have q0:=Tp.argFit (.cons (.int .i64) (.cons (.int .i64) (.cons (.sl (.cons (.int .i64) (.one (.int .i64)))) (.cons (.sl (.one (.sl (.cons (.int .i64) (.one .bool))))) (.cons (.one (.sl (.cons (.int .i64) (.one .bool)))) (.cons (.sl (.cons (.int .i64) (.cons (.sl (.cons (.int .i64) (.one (.int .i64)))) (.cons (.sl (.one (.sl (.cons (.int .i64) (.one .bool))))) (.one (.one (.sl (.cons (.int .i64) (.one .bool))))))))) (.one (.sl (.cons (.sl (.cons (.int .i64) (.cons (.int .i64) (.cons (.int .i64) (.cons (.int .i64) (.one .bool)))))) (.one (.cons (.int .i64) (.cons (.int .i64) (.cons (.int .i64) (.cons (.sl (.int .i64)) (.cons (.sl (.int .i64)) (.one (.sl (.int .i64)))))))))))))))))) (r := .any) (b:=base) (by kernel_rfl) (by kernel_rfl) h0 i0 w0
 obtain ⟨xb,i1,k1⟩:=Tp.arg (.int .i64) (by kernel_rfl) o1 h1
 have q1:=Tp.argFit (.int .i64) (r := .any) (b:=base) (by kernel_rfl) (by kernel_rfl) h1 i1 w1
 obtain ⟨xc,i2,k2⟩:=Tp.arg (.int .i64) (by kernel_rfl) o2 h2
 have q2:=Tp.argFit (.int .i64) (r := .any) (b:=base) (by kernel_rfl) (by kernel_rfl) h2 i2 w2
 exact zx (s:=py) (x:=(xa,xb,xc)) (args:=[v0,v1,v2]) uu (uP xa xb xc k0 k1 k2 q0 q1 q2) trivial rfl rfl ⟨_,_,rfl,lj _ i0,_,_,rfl,lj _ i1,_,_,rfl,lj _ i2,rfl⟩
end
end Go.Proofs.YtelekeapfgfknaaGreat
namespace Go.Proofs.YtelekeapfgfknaaGreat.consRiseFrame
set_option maxRecDepth 40000
open Go.ChangeShapes Go.WideShapes Go.ChangeAt Go.RowKit
theorem own:ownKnob Tryz.prog.godebug=none:=by kernel_rfl
theorem wU (H:Type) (enc:TypeId×Value→H) (W:World) (base:Nat) (args:Array Value) (ds gs:List (DataW H)) (before:List MemPlace)
    (hval:∀ (j:Nat) t v,Tryz.f4.params[j]? = some t→args[j]? = some v→Value.okWide Tryz.prog W .any base t v)
    (hW:DataW.Whole enc Tryz.prog Tryz.f4.params.toList Rows.consRiseSpec.vars false W args.toList ds gs before) (vt:List TypeId) (hwt:(DataW.weightsEach Tryz.prog (Tryz.f4.params.toList++vt) (ds++gs)).all (·≤reachBytes)=true) :
    Calls Tryz.prog 4 args W fun e W'=>∃ v,e = .returned v∧Rows.consRiseSpec.post enc Tryz.prog Tryz.f4 false true false false W args v W':=by
  have hW':=hW
  obtain ⟨p,q,hA0,hV,rfl,hfz,hnd⟩:=hW
  have hA:DataW.TrodAll enc Tryz.prog W 0 (fun _=>true) true Tryz.f4.params.toList args.toList ds p:=hA0
  rw [Tryz.params4] at hA hval hwt
  obtain ⟨v0,vs0,d0,ds0,p0,q0,hargs,rfl,rfl,h0,r0⟩:=trodAll_cons hA
  obtain ⟨v1,vs1,d1,ds1,p1,q1,rfl,rfl,rfl,h1,r1⟩:=trodAll_cons r0
  obtain ⟨v2,vs2,d2,ds2,p2,q2,rfl,rfl,rfl,h2,r2⟩:=trodAll_cons r1
  obtain ⟨rfl,rfl,rfl⟩:=trodAll_nil r2
  obtain rfl:args = #[v0,v1,v2]:=by cases args; simp_all
  refine (uJ enc W base h0 h1 h2 (hval 0 _ v0 rfl rfl) (hval 1 _ v1 rfl rfl) (hval 2 _ v2 rfl rfl) (fD _ _ hwt 0 _ _ rfl rfl) (fD _ _ hwt 1 _ _ rfl rfl) (fD _ _ hwt 2 _ _ rfl rfl)).mono fun e W' ⟨he,hb⟩=>?_
  subst he
  exact ⟨_,rfl,xg (tb:=_) rfl hW' rfl rfl (by kernel_rfl) (by kernel_rfl) (of_decide_eq_true (by kernel_rfl)) hb⟩
noncomputable def lI (os:Os):World:=World.holding Tryz.prog os ⟨#[],#[],[]⟩
theorem tM (os:Os) {H:Type} (enc:TypeId×Value→H):∃ x,DataW.whole enc Tryz.prog ((lI os).forCall (fun _ _=>0) ⟨#[],#[.agg #[.int .i64 0,.int .i64 0,.slice none 0 0,.slice none 0 0,.slice none 0 0,.slice none 0 0,.slice none 0 0],.int .i64 0,.int .i64 0],[]⟩).memory Tryz.f4.params.toList Rows.consRiseSpec.vars false (#[.agg #[.int .i64 0,.int .i64 0,.slice none 0 0,.slice none 0 0,.slice none 0 0,.slice none 0 0,.slice none 0 0],.int .i64 0,.int .i64 0]:Array Value).toList 8=some x :=
  Option.isSome_iff_exists.1 (by kernel_rfl)
set_option maxRecDepth 100000 in
theorem yX (os:Os) (started:os.Started) (H:Type) (enc:TypeId×Value→H) (F:Stop.Interp) :
    ReturnsInHanded {} Tryz.checked os 4 .any ((OpenSpec.ofChange Rows.consRiseSpec).preRow enc Tryz.prog Tryz.f4 Rows.consRiseRow.domain false Rows.consRiseRow.laid) (((OpenSpec.ofChange Rows.consRiseSpec).at F).post enc Tryz.prog Tryz.f4 false true false false):=by
  obtain ⟨x,hx⟩:=tM os enc
  refine returnsInHanded_of_row (C:=Tryz.checked) (s:=OpenSpec.ofChange Rows.consRiseSpec) own started (by kernel_rfl) Tryz.func4
    (witness_row_at (enc:=enc) (C:=Tryz.checked) false (lI os) #[.agg #[.int .i64 0,.int .i64 0,.slice none 0 0,.slice none 0 0,.slice none 0 0,.slice none 0 0,.slice none 0 0],.int .i64 0,.int .i64 0] rfl (by kernel_rfl) (by kernel_rfl) (by kernel_rfl)
      (OpenSpec.preRow_of_cond 8 hx (by kernel_rfl) (fun k hk=>by cases hk) (by kernel_rfl) (laidMet_of_run' 8 (by kernel_rfl) (by kernel_rfl)))) ?_
  intro W base args ds gs before hval hW _ _ hwt hL _ _
  exact wU H enc W base args ds gs before hval hW _ hwt
theorem proved:Rows.ConsRiseSaid :=
  OpenClaim.holds_of_cond 4 Tryz.f4 rfl rfl rfl rfl rfl rfl rfl ⟨rfl,rfl,rfl,rfl,rfl⟩ rfl rfl rfl rfl rfl (by kernel_rfl) Tryz.func4 (by kernel_rfl)
    (of_decide_eq_true (by kernel_rfl)) (by unfold Func.isWrapper; first | (rw [if_pos (by decide +kernel)]; kernel_rfl) | (rw [if_neg (by decide +kernel)]; exact ⟨rfl,rfl⟩))
    (fun os started H enc _ F=>by rw [OpenClaim.pre_eq_preRow]; exact yX os started H enc F)
end Go.Proofs.YtelekeapfgfknaaGreat.consRiseFrame

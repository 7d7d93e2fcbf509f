/- A part of the proof: what lies ahead of the law. Nothing is claimed here. -/
import Derived.Test.YtaajcbeoafhmaaaGreatDoorZ5
import Derived.Lib.RowBridge
namespace Go.Proofs.YtaajcbeoafhmaaaGreatDoor
set_option linter.unusedVariables false
set_option linter.unnecessarySimpa false
set_option linter.unusedSimpArgs false
open Go.RowKit
abbrev Sg:=Int×List (Int×Int)×List (List St)×List St
def bad1 (n:Int) (b:Int×Int):Bool:=(((decide (b.1 < 0))||(decide (n≤b.1)))||(decide (b.2 < 0)))||(decide (n≤b.2))
def lc (n:Int) (A:List (List St)):Unit⊕Int:=match A.findIdx? (fun t=>!decide (rck n t=0)) with | some k => .inr (rck n (A.getD k [])) | none => .inl ()
def chk (s:Sg):Int :=
 if s.1 < 0 then 7 else if 16 < s.1∨16 < s.2.1.length∨16 < s.2.2.1.length then 6 else if s.2.1.any (bad1 s.1) then 7
 else match lc s.1 s.2.2.1 with | .inr e=>e | .inl ()=>rck s.1 s.2.2.2
theorem three16 (a:Int) (b c:Nat):(((decide (16 < a))||(decide (16 < ((b:Nat):Int))))||(decide (16 < ((c:Nat):Int))))=decide (16 < a∨16 < b∨16 < c):=by
 by_cases h1:16 < a <;> by_cases h2:16 < b <;> by_cases h3:16 < c <;> simp [h1,h2,h3] <;> omega
theorem argsl {n:Int} {A:List (List St)} {body:Int→Option (Int⊕(Unit⊕Int))} (hn:A.length≤1000) (hb:∀ (k:Nat) (h:k < A.length),body (k:Int)=cond (!decide (rck n A[k]=0)) (some (.inr (.inr (rck n A[k])))) (some (.inl (IntKind.wrap .i64 ((k:Int) + 1))))) (he:body (A.length:Int)=some (.inr (.inl ()))):loop body 0=some (lc n A):=by
 rw [loop_search A (fun t=>!decide (rck n t=0)) (fun k => .inr (rck n (A.getD k []))) (.inl ()) ?_ he]
 · rfl
 · intro k hk
   rw [hb k hk,w64s hk (by omega:A.length≤9223372036854775807)]
   have:A.getD k []=A[k]:=by simp [List.getD,hk]
   rw [this]
   cases (!decide (rck n A[k]=0)) <;> rfl
theorem sigCheck_eq (s:Sg) (hr:s.2.2.2.length≤1000) (ha:∀ t∈s.2.2.1,t.length≤1000):fn_sig_Check s=some (chk s):=by
 obtain ⟨n,B,A,R⟩:=s
 unfold fn_sig_Check chk
 dsimp only at *
 by_cases h0:n < 0
 · rw [decide_eq_true h0,if_pos h0]; rfl
 · rw [decide_eq_false h0,if_neg h0,cond_false,three16]
   by_cases h1:16 < n∨16 < B.length∨16 < A.length
   · rw [decide_eq_true h1,if_pos h1]; rfl
   · rw [decide_eq_false h1,if_neg h1,cond_false]
     rw [loop_some (body:=fn_sig_Check_l1 (n,B,A,R)) B (bad1 n) (.inr 7) (.inl ()) ?_ ?_]
     · cases hb:B.any (bad1 n) with
       | true=>rfl
       | false =>
         simp only [Bool.false_eq_true,if_false,Option.bind_some]
         rw [argsl (body:=fn_sig_Check_l2 (n,B,A,R)) (n:=n) (A:=A) (by omega) ?_ ?_]
         · rw [rowCheck_eq R n (by omega)]
           simp only [Option.bind_some]
           cases lc n A <;> rfl
         · intro k hk
           unfold fn_sig_Check_l2
           have:=ha A[k] (List.getElem_mem hk)
           simp only [dlt hk,cond_true,getN hk,Option.bind_some]
           rw [rowCheck_eq _ _ (by omega),Option.bind_some]
         · simp [fn_sig_Check_l2]
     · intro k hk
       unfold fn_sig_Check_l1 fn_sig_Check_1_ip0_ikkk
       simp only [dlt hk,cond_true,getN hk,Option.bind_some,w64s hk (by omega:B.length≤9223372036854775807)]
       generalize B[k]=b
       obtain ⟨b1,b2⟩:=b
       have e (x:Int):(!((decide (0≤x))&&(decide (x < n))))=(decide (x < 0)||decide (n≤x)):=by
         by_cases p:x < 0 <;> by_cases q:n≤x <;> simp [p,q] <;> omega
       simp only [e,bad1]
       by_cases p1:b1 < 0 <;> by_cases p2:n≤b1 <;> by_cases p3:b2 < 0 <;> by_cases p4:n≤b2 <;> simp [p1,p2,p3,p4]
     · simp [fn_sig_Check_l1]
theorem refSCheck_eq (s:Sg):fn_ref17_Check s=some (chk s):=by
 obtain ⟨n,B,A,R⟩:=s
 unfold fn_ref17_Check chk
 dsimp only at *
 by_cases h0:n < 0
 · rw [decide_eq_true h0,if_pos h0]; rfl
 · rw [decide_eq_false h0,if_neg h0,cond_false,three16]
   by_cases h1:16 < n∨16 < B.length∨16 < A.length
   · rw [decide_eq_true h1,if_pos h1]; rfl
   · rw [decide_eq_false h1,if_neg h1,cond_false]
     rw [loop_some (body:=fn_ref17_Check_l1 (n,B,A,R)) B (bad1 n) (.inr 7) (.inl ()) ?_ ?_]
     · cases hb:B.any (bad1 n) with
       | true=>rfl
       | false =>
         simp only [Bool.false_eq_true,if_false,Option.bind_some]
         rw [argsl (body:=fn_ref17_Check_l2 (n,B,A,R)) (n:=n) (A:=A) (by omega) ?_ ?_]
         · rw [refCheck_eq R n]
           simp only [Option.bind_some]
           cases lc n A <;> rfl
         · intro k hk
           unfold fn_ref17_Check_l2
           simp only [dlt hk,cond_true,getN hk,Option.bind_some]
           rw [refCheck_eq _ _,Option.bind_some]
         · simp [fn_ref17_Check_l2]
     · intro k hk
       unfold fn_ref17_Check_l1
       simp only [dlt hk,cond_true,getN hk,Option.bind_some,w64s hk (by omega:B.length≤9223372036854775807)]
       generalize B[k]=b
       show cond (bad1 n b) _ _=_
       cases bad1 n b <;> rfl
     · simp [fn_ref17_Check_l1]
theorem rck_zero {n:Int} {t:List St} (h:rck n t=0):t.length≤16∧rin n t=false:=by
 unfold rck at h
 by_cases q:16 < t.length
 · rw [if_pos q] at h; cases h
 · rw [if_neg q] at h
   cases hr:rin n t with
   | true=>rw [hr] at h; cases h
   | false=>exact ⟨by omega,rfl⟩
theorem chk_zero {s:Sg} (h:chk s=0):0≤s.1∧s.1≤16∧s.2.1.length≤16∧s.2.2.1.length≤16∧(∀ b∈s.2.1,bad1 s.1 b=false)∧(∀ t∈s.2.2.1,t.length≤16∧rin s.1 t=false)∧s.2.2.2.length≤16∧rin s.1 s.2.2.2=false:=by
 unfold chk at h
 by_cases h0:s.1 < 0
 · rw [if_pos h0] at h; cases h
 · rw [if_neg h0] at h
   by_cases h1:16 < s.1∨16 < s.2.1.length∨16 < s.2.2.1.length
   · rw [if_pos h1] at h; cases h
   · rw [if_neg h1] at h
     cases hb:s.2.1.any (bad1 s.1) with
     | true=>rw [hb] at h; cases h
     | false =>
       rw [hb] at h
       simp only [Bool.false_eq_true,if_false] at h
       unfold lc at h
       cases hf:s.2.2.1.findIdx? (fun t=>!decide (rck s.1 t=0)) with
       | some k =>
         rw [hf] at h
         obtain ⟨hk,h2,_⟩:=List.findIdx?_eq_some_iff_getElem.1 hf
         have:s.2.2.1.getD k []=s.2.2.1[k]:=by simp [List.getD,hk]
         simp only [this] at h
         simp [h] at h2
       | none =>
         rw [hf] at h
         have hz:=List.findIdx?_eq_none_iff.1 hf
         refine ⟨by omega,by omega,by omega,by omega,fun b hb2=>?_,fun t ht=>rck_zero (by simpa using hz t ht),(rck_zero h).1,(rck_zero h).2⟩
         have:=List.any_eq_false.1 hb b hb2
         simpa using this
theorem shp_sbs (names:List Int) (xs ys:List St):shp xs (ys.map (sbs names))=shp xs ys:=by
 unfold shp; rw [List.map_map]; rfl
theorem shp_sbs2 (names:List Int) (xs ys:List St):shp (xs.map (sbs names)) ys=shp xs ys:=by
 rw [shp_comm,shp_sbs,shp_comm]
def mis (A C:List (List St)) (k:Nat):Bool:=!shp (C.getD k []) (A.getD k [])
def fl (names:List Int) (A C:List (List St)) (j:Nat):List Nd:=rel 5 (16 * (j:Int)) (C.getD j []) ((A.getD j []).map (sbs names))
def fls (names:List Int) (A C:List (List St)):Nat→List Nd
 | 0=>[]
 | k + 1=>fls names A C k++fl names A C k
theorem fls_len (names:List Int) (A C:List (List St)) (hc:∀ t∈C,t.length≤20):∀ k,(fls names A C k).length≤40 * k
 | 0=>by simp [fls]
 | k + 1=>by
   have ih:=fls_len names A C hc k
   have h1:=rel_len 5 (C.getD k []) ((A.getD k []).map (sbs names)) (16 * (k:Int))
   have h2:(C.getD k []).length≤20:=by
     by_cases h:k < C.length
     · have:C.getD k []=C[k]:=by simp [List.getD,h]
       rw [this]; exact hc _ (List.getElem_mem h)
     · have:C.getD k []=[]:=by simp [List.getD,List.getElem?_eq_none (Nat.not_lt.1 h)]
       rw [this]; simp
   simp only [fls,List.length_append,fl]
   omega
def bds (names:List Int) (B:List (Int×Int)):Nat→List Nd
 | 0=>[]
 | k + 1=>bds names B k++[(names.getD (B.getD k (0,0)).1.toNat 0,names.getD (B.getD k (0,0)).2.toNat 0,4,(k:Int),false)]
theorem bds_len (names:List Int) (B:List (Int×Int)):∀ k,(bds names B k).length=k
 | 0=>rfl
 | k + 1=>by simp [bds,bds_len names B k]
def csp (s:Sg) (names:List Int) (C:List (List St)) (D:List St):List Nd×Int :=
 if chk s≠0 then ([],chk s)
 else if ¬ (names.length:Int)=s.1∨¬ C.length=s.2.2.1.length then ([],2)
 else if (List.range s.2.2.1.length).any (mis s.2.2.1 C) then ([],8)
 else if shp D s.2.2.2 then (bds names s.2.1 s.2.1.length++fls names s.2.2.1 C s.2.2.1.length++rel 6 0 (s.2.2.2.map (sbs names)) D,0) else ([],8)
theorem bounds_loop {names:List Int} {n:Int} {B:List (Int×Int)} {body:(List Nd×Int)→Option ((List Nd×Int)⊕List Nd)} (hB:B.length≤16) (hn:(names.length:Int)=n) (hb:∀ b∈B,bad1 n b=false)
   (hgo:∀ (l:List Nd) (k:Nat) (h:k < B.length),body (l,(k:Int))=((getI names B[k].1).bind fun x=>(getI names B[k].2).bind fun y=>(app l [(x,y,4,(k:Int),false)]).bind fun z=>some (.inl (z,IntKind.wrap .i64 ((k:Int) + 1))))) (he:∀ l,body (l,(B.length:Int))=some (.inr l)) :
   loop body ([],0)=some (bds names B B.length):=by
 refine loop_nat (body:=body) (fun k=>(bds names B k,(k:Int))) B.length ?_ (he _)
 intro k hk
 have h1:=hb B[k] (List.getElem_mem hk)
 have e:B.getD k (0,0)=B[k]:=by simp [List.getD,hk]
 unfold bad1 at h1
 simp at h1
 rw [hgo _ k hk,getI_in (by omega) (by omega),Option.bind_some,getI_in (by omega) (by omega),Option.bind_some,app_eq (by simp [bds_len]; omega),Option.bind_some,w64s hk (by omega)]
 simp only [bds,e]
theorem rin_len {names:List Int} {n:Int} {t:List St} (hn:(names.length:Int)=n) (h:rin n t=false):rin names.length t=false:=by rw [hn]; exact h
theorem sigCall_eq (s:Sg) (names:List Int) (C:List (List St)) (D:List St) (hr:s.2.2.2.length≤20) (ha:∀ t∈s.2.2.1,t.length≤20) (hC:∀ t∈C,t.length≤20) (hD:D.length≤20) :
   fn_sig_Call s names C D=some (csp s names C D):=by
 have hck:=sigCheck_eq s (by omega) (fun t ht=>by have:=ha t ht; omega)
 unfold fn_sig_Call fn_sig_callable csp
 rw [show fn_sig_Check (s.1,s.2.1,s.2.2.1,s.2.2.2)=some (chk s) from hck]
 obtain ⟨n,B,A,R⟩:=s
 dsimp only at *
 by_cases h0:chk (n,B,A,R)=0
 · obtain ⟨n0, n1, hB, hA, hb, hat, hR, hrin⟩ := chk_zero h0
   dsimp only at n0 n1 hB hA hb hat hR hrin
   simp only [h0,Option.bind_some,decide_true,Bool.not_true,cond_false,ne_eq,not_true_eq_false,if_false]
   by_cases h1:¬ (names.length:Int)=n∨¬ C.length=A.length
   · have:((!decide ((((names.length:Nat):Int))=n))||(!decide ((((C.length:Nat):Int))=(((A.length:Nat):Int)))))=true:=by simp; omega
     rw [this,if_pos h1]; rfl
   · have:((!decide ((((names.length:Nat):Int))=n))||(!decide ((((C.length:Nat):Int))=(((A.length:Nat):Int)))))=false:=by simp; omega
     rw [this,if_neg h1,cond_false]
     have hn:(names.length:Int)=n:=by omega
     have hl:C.length=A.length:=by omega
     rw [loop_some (body:=fn_sig_callable_l1 (n,B,A,R) C) (List.range A.length) (mis A C) (.inr 8) (.inl ()) ?_ ?_]
     · cases hm:(List.range A.length).any (mis A C) with
       | true=>rfl
       | false =>
         simp only [Bool.false_eq_true,if_false,Option.bind_some]
         rw [rowShape_eq D R (by omega)]
         cases hs:shp D R with
         | false=>rfl
         | true =>
           simp only [Option.bind_some,Bool.not_true,cond_false,decide_true,if_true]
           rw [bounds_loop (body:=fn_sig_Call_l1 (n,B,A,R) names) hB hn hb ?_ ?_]
           · simp only [Option.bind_some]
             have hfl:=loop_nat (body:=fn_sig_Call_l2 (n,B,A,R) names C) (fun k=>(bds names B B.length++fls names A C k,(k:Int))) A.length (b:=bds names B B.length++fls names A C A.length) ?_ ?_
             · have hfl':loop (fn_sig_Call_l2 (n,B,A,R) names C) (bds names B B.length,0)=some (bds names B B.length++fls names A C A.length):=by
                 have e0:(bds names B B.length,(0:Int))=(bds names B B.length++fls names A C 0,((0:Nat):Int)):=by simp [fls]
                 rw [e0]; exact hfl
               have q1:=fls_len names A C hC A.length
               have q2:=bds_len names B B.length
               have q3:=rel_len 6 (R.map (sbs names)) D 0
               rw [List.length_map] at q3
               rw [hfl',Option.bind_some,rowSubst_eq R names (by omega),rin_len hn hrin]
               simp only [Bool.false_eq_true,if_false,Option.bind_some]
               rw [relFlow_eq _ _ _ _ (by simp; omega) (by omega) (by omega),shp_sbs2,shp_comm,hs]
               simp only [if_true,Option.bind_some]
               rw [app_eq (by simp only [List.length_append]; omega)]
               rfl
             · intro k hk
               have hkC:k < C.length:=by omega
               have ht:=hat A[k] (List.getElem_mem hk)
               have hc:=hC C[k] (List.getElem_mem hkC)
               have e1:A.getD k []=A[k]:=by simp [List.getD,hk]
               have e2:C.getD k []=C[k]:=by simp [List.getD,hkC]
               have hsh:shp C[k] A[k]=true:=by
                 have:=List.any_eq_false.1 hm k (List.mem_range.2 hk)
                 unfold mis at this
                 rw [e1,e2] at this
                 simpa using this
               have q1:=fls_len names A C hC k
               have q2:=bds_len names B B.length
               have q3:=rel_len 5 C[k] (A[k].map (sbs names)) (16 * (k:Int))
               unfold fn_sig_Call_l2
               simp only [dlt hk,cond_true,getN hk,Option.bind_some]
               rw [rowSubst_eq _ names (by omega),rin_len hn ht.2]
               simp only [Bool.false_eq_true,if_false,Option.bind_some,getN hkC]
               rw [w64 (x:=16 * (k:Int)) (by omega) (by omega),relFlow_eq _ _ _ _ (by omega) (by omega) (by omega),shp_sbs,hsh]
               simp only [if_true,Option.bind_some]
               rw [app_eq (by simp only [List.length_append]; omega),Option.bind_some,w64s hk (by omega)]
               simp only [fls,fl,e1,e2,List.append_assoc]
             · simp [fn_sig_Call_l2]
           · intro l k hk
             unfold fn_sig_Call_l1
             simp only [dlt hk,cond_true,getN hk,Option.bind_some]
           · intro l; simp [fn_sig_Call_l1]
     · intro k hk
       simp only [List.length_range] at hk
       have hkC:k < C.length:=by omega
       have e1:A.getD k []=A[k]:=by simp [List.getD,hk]
       have e2:C.getD k []=C[k]:=by simp [List.getD,hkC]
       have hc:=hC C[k] (List.getElem_mem hkC)
       unfold fn_sig_callable_l1
       simp only [dlt hk,cond_true,getN hk,getN hkC,Option.bind_some,List.getElem_range,mis,e1,e2,w64s hk (by omega:A.length≤9223372036854775807)]
       rw [rowShape_eq _ _ (by omega),Option.bind_some]
       cases shp C[k] A[k] <;> rfl
     · simp [fn_sig_callable_l1]
 · simp [h0]
theorem refCall_eq (s:Sg) (names:List Int) (C:List (List St)) (D:List St) (hr:s.2.2.2.length≤20) (ha:∀ t∈s.2.2.1,t.length≤20) (hC:∀ t∈C,t.length≤20) (hD:D.length≤20) :
   fn_ref17_Call s names C D=some (csp s names C D):=by
 unfold fn_ref17_Call csp
 rw [show fn_ref17_Check (s.1,s.2.1,s.2.2.1,s.2.2.2)=some (chk s) from refSCheck_eq s]
 obtain ⟨n,B,A,R⟩:=s
 dsimp only at *
 by_cases h0:chk (n,B,A,R)=0
 · obtain ⟨n0,n1,hB,hA,hb,hat,hR,hrin⟩:=chk_zero h0
   dsimp only at n0 n1 hB hA hb hat hR hrin
   simp only [h0,Option.bind_some,decide_true,Bool.not_true,cond_false,ne_eq,not_true_eq_false,if_false]
   by_cases h1:¬ (names.length:Int)=n∨¬ C.length=A.length
   · have:((!decide ((((names.length:Nat):Int))=n))||(!decide ((((C.length:Nat):Int))=(((A.length:Nat):Int)))))=true:=by simp; omega
     rw [this,if_pos h1]; rfl
   · have:((!decide ((((names.length:Nat):Int))=n))||(!decide ((((C.length:Nat):Int))=(((A.length:Nat):Int)))))=false:=by simp; omega
     rw [this,if_neg h1,cond_false]
     have hn:(names.length:Int)=n:=by omega
     have hl:C.length=A.length:=by omega
     rw [bounds_loop (body:=fn_ref17_Call_l1 (n,B,A,R) names) hB hn hb ?_ ?_]
     · simp only [Option.bind_some]
       have q2:=bds_len names B B.length
       have hfl:=loop_find (body:=fn_ref17_Call_l2 (n,B,A,R) names C) (fun k=>mis A C k=true) (fun k=>(bds names B B.length++fls names A C k,(k:Int))) A.length (fun _ => .inr ([],8)) (.inl (bds names B B.length++fls names A C A.length)) ?_ ?_ ?_
       · have e0:(bds names B B.length,(0:Int))=(bds names B B.length++fls names A C 0,((0:Nat):Int)):=by simp [fls]
         rw [e0]
         rcases hfl with ⟨k,k1,k2,_,k3⟩ | ⟨k1,k3⟩
         · have:(List.range A.length).any (mis A C)=true:=List.any_eq_true.2 ⟨k,List.mem_range.2 k1,k2⟩
           rw [k3,this]; rfl
         · have:(List.range A.length).any (mis A C)=false:=by
             rw [List.any_eq_false]; intro k hk; exact k1 k (List.mem_range.1 hk)
           rw [k3,this]
           have q1:=fls_len names A C hC A.length
           have q3:=rel_len 6 (R.map (sbs names)) D 0
           rw [List.length_map] at q3
           simp only [Option.bind_some,Bool.false_eq_true,if_false]
           rw [refSubst_eq R names (by omega),rin_len hn hrin]
           simp only [Bool.false_eq_true,if_false,Option.bind_some]
           rw [refFlow_eq _ _ _ _ (by simp; omega) (by omega) (by omega),shp_sbs2,shp_comm]
           cases hs:shp D R with
           | false=>rfl
           | true =>
             simp only [if_true,Option.bind_some,decide_true,Bool.not_true,cond_false]
             rw [app_eq (by simp only [List.length_append]; omega)]
             rfl
       · intro k hk hp
         have hkC:k < C.length:=by omega
         have ht:=hat A[k] (List.getElem_mem hk)
         have hc:=hC C[k] (List.getElem_mem hkC)
         have e1:A.getD k []=A[k]:=by simp [List.getD,hk]
         have e2:C.getD k []=C[k]:=by simp [List.getD,hkC]
         have hsh:shp C[k] A[k]=true:=by
           unfold mis at hp
           rw [e1,e2] at hp
           simpa using hp
         have q1:=fls_len names A C hC k
         have q3:=rel_len 5 C[k] (A[k].map (sbs names)) (16 * (k:Int))
         unfold fn_ref17_Call_l2
         simp only [dlt hk,cond_true,getN hk,Option.bind_some]
         rw [refSubst_eq _ names (by omega),rin_len hn ht.2]
         simp only [Bool.false_eq_true,if_false,Option.bind_some,getN hkC]
         rw [w64 (x:=16 * (k:Int)) (by omega) (by omega),refFlow_eq _ _ _ _ (by omega) (by omega) (by omega),shp_sbs,hsh]
         simp only [if_true,Option.bind_some,decide_true,Bool.not_true,cond_false]
         rw [app_eq (by simp only [List.length_append]; omega),Option.bind_some,w64s hk (by omega)]
         simp only [fls,fl,e1,e2,List.append_assoc]
       · intro k hk hp
         have hkC:k < C.length:=by omega
         have ht:=hat A[k] (List.getElem_mem hk)
         have hc:=hC C[k] (List.getElem_mem hkC)
         have e1:A.getD k []=A[k]:=by simp [List.getD,hk]
         have e2:C.getD k []=C[k]:=by simp [List.getD,hkC]
         have hsh:shp C[k] A[k]=false:=by
           unfold mis at hp
           rw [e1,e2] at hp
           simpa using hp
         unfold fn_ref17_Call_l2
         simp only [dlt hk,cond_true,getN hk,Option.bind_some]
         rw [refSubst_eq _ names (by omega),rin_len hn ht.2]
         simp only [Bool.false_eq_true,if_false,Option.bind_some,getN hkC]
         rw [w64 (x:=16 * (k:Int)) (by omega) (by omega),refFlow_eq _ _ _ _ (by omega) (by omega) (by omega),shp_sbs,hsh]
         rfl
       · simp [fn_ref17_Call_l2]
     · intro l k hk
       unfold fn_ref17_Call_l1
       simp only [dlt hk,cond_true,getN hk,Option.bind_some]
     · intro l; simp [fn_ref17_Call_l1]
 · simp [h0]
theorem csp_len (s:Sg) (names:List Int) (C:List (List St)) (D:List St) (hs:s.2.1.length≤20∧s.2.2.1.length≤20∧s.2.2.2.length≤20) (hC:∀ t∈C,t.length≤20):(csp s names C D).1.length≤1000000:=by
 have q1:=fls_len names s.2.2.1 C hC s.2.2.1.length
 have q2:=bds_len names s.2.1 s.2.1.length
 have q3:=rel_len 6 (s.2.2.2.map (sbs names)) D 0
 rw [List.length_map] at q3
 unfold csp
 split
 · simp
 · split
   · simp
   · split
     · simp
     · split
       · simp only [List.length_append]; omega
       · simp
abbrev Stm:=Int×Int×Int×Int×Bool
def sDst (k:Int):Bool:=(((decide (k=1))||(decide (k=2)))||(decide (k=3)))||(decide (k=5))
def sSrc (k:Int):Bool:=(decide (1≤k))&&(decide (k≤4))
def sReg (k:Int):Bool:=(decide (k=2))||(decide (k=3))
def fOk (x:Stm):Bool:=decide (0≤x.1)&&decide (x.1≤5)&&(sDst x.1||decide (x.2.1=0))&&(sSrc x.1||decide (x.2.2.1=0))&&(sReg x.1||(decide (x.2.2.2.1=0)&&!x.2.2.2.2))
theorem six {k:Int} (h:decide (0≤k)&&decide (k≤5)):k=0∨k=1∨k=2∨k=3∨k=4∨k=5:=by simp at h; omega
theorem fieldsOf_eq (k:Int):fn_stmt_fieldsOf k=some (if decide (0≤k)&&decide (k≤5) then (sDst k,sSrc k,sReg k,true) else (false,false,false,false)):=by
 by_cases h:(decide (0≤k)&&decide (k≤5))=true
 · rcases six h with rfl | rfl | rfl | rfl | rfl | rfl <;> rfl
 · rw [if_neg h]
   have h':k < 0∨5 < k:=by simp at h; omega
   have e (j:Int) (h0:0≤j) (h5:j≤5):decide (k=j)=false:=by simp; omega
   unfold fn_stmt_fieldsOf
   simp only [e 0 (by omega) (by omega),e 1 (by omega) (by omega),e 2 (by omega) (by omega),e 3 (by omega) (by omega),e 4 (by omega) (by omega),e 5 (by omega) (by omega),cond_false,Option.bind_some]
theorem refForm_eq (x:Stm):fn_ref18_Form x=some (fOk x):=by
 obtain ⟨k,d,s,r,m⟩:=x
 have h1:fn_ref18_Dst k=some (sDst k):=rfl
 have h2:fn_ref18_Src k=some (sSrc k):=rfl
 have h3:fn_ref18_Region k=some (sReg k):=rfl
 unfold fn_ref18_Form fOk
 simp only [h1,h2,h3,Option.bind_some]
 cases (decide (0≤k)&&decide (k≤5)) <;> simp
 cases (sDst k||decide (d=0)) <;> simp
 cases (sSrc k||decide (s=0)) <;> simp
theorem form_eq (x:Stm):fn_stmt_form x=some (if fOk x then (sDst x.1,sSrc x.1,sReg x.1,0) else (false,false,false,3)):=by
 obtain ⟨k,d,s,r,m⟩:=x
 unfold fn_stmt_form
 rw [fieldsOf_eq]
 by_cases h:(decide (0≤k)&&decide (k≤5))=true
 · simp only [h,if_true,Option.bind_some,Bool.not_true,cond_false]
   have ho:fn_stmt_own (k,d,s,r,m) (sDst k,sSrc k,sReg k)=some (k,if sDst k then d else 0,if sSrc k then s else 0,if sReg k then r else 0,if sReg k then m else false):=by
     unfold fn_stmt_own
     cases sDst k <;> cases sSrc k <;> cases sReg k <;> rfl
   rw [ho,Option.bind_some]
   unfold fOk
   simp only [h,Bool.true_and]
   cases sDst k <;> cases sSrc k <;> cases sReg k <;> simp
   all_goals (by_cases q1:d=0 <;> by_cases q2:s=0 <;> by_cases q3:r=0 <;> cases m <;> simp [q1,q2,q3])
 · have h':(decide (0≤k)&&decide (k≤5))=false:=by simpa using h
   unfold fOk
   simp [h']
def loc (xb:List (List St)) (d:Int):Bool:=decide (0≤d)&&decide (d < ((xb.length:Nat):Int))
theorem loc_ref (xb:List (List St)) (d:Int):(decide (d < 0)||decide (((xb.length:Nat):Int)≤d)) = !loc xb d:=by
 unfold loc
 by_cases h1:d < 0 <;> by_cases h2:((xb.length:Nat):Int)≤d <;> simp [h1,h2] <;> omega
theorem getLoc {xb:List (List St)} {d:Int} (h:loc xb d=true) (hb:∀ t∈xb,t.length≤20):∃ t:List St,getI xb d=some t∧t.length≤20:=by
 unfold loc at h
 simp at h
 exact ⟨_,getZ h.1 h.2,hb _ (List.getElem_mem _)⟩
def Gd (R:Int) (n:Nd):Prop:=(0≤n.1∧n.1 < R)∧(0≤n.2.1∧n.2.1 < R)∧(1≤n.2.2.1∧n.2.2.1≤7)∧(0≤n.2.2.2.1∧n.2.2.2.1≤1000000)
theorem rin_mem {R:Int} {t:List St} (h:rin R t=false) {x:St} (hx:x∈t):0≤x.1∧x.1 < R:=by
 have:=List.any_eq_false.1 h x hx
 simp at this; omega
theorem rin_of {R:Int} {t:List St} (h:∀ x∈t,0≤x.1∧x.1 < R):rin R t=false:=by
 unfold rin
 rw [List.any_eq_false]
 intro x hx
 have:=h x hx
 simp; omega
theorem rel_good {R kind:Int} (hk:1≤kind∧kind≤7):∀ (xs ys:List St) (f:Int),0≤f→f + (xs.length:Int)≤1000000→rin R xs=false→rin R ys=false→∀ n∈rel kind f xs ys,Gd R n
 | x :: xs,y :: ys,f,h0,h1,hx,hy,n,hn=>by
   have a1:=rin_mem hx (x:=x) (by simp)
   have a2:=rin_mem hy (x:=y) (by simp)
   simp only [List.length_cons] at h1
   simp only [rel,List.mem_append] at hn
   rcases hn with hn | hn
   · unfold rel1 at hn
     rcases List.mem_cons.1 hn with rfl | hn
     · exact ⟨a1,a2,hk,h0,by show f≤_; omega⟩
     · split at hn
       · rcases List.mem_cons.1 hn with rfl | hn
         · exact ⟨a2,a1,hk,h0,by show f≤_; omega⟩
         · simp at hn
       · simp at hn
   · exact rel_good hk xs ys (f + 1) (by omega) (by omega) (rin_of fun z hz=>rin_mem hx (by simp [hz])) (rin_of fun z hz=>rin_mem hy (by simp [hz])) n hn
 | [],_,_,_,_,_,_,n,hn=>by simp [rel] at hn
 | _ :: _,[],_,_,_,_,_,n,hn=>by simp [rel] at hn
theorem lo_good {R r:Int} {m:Bool} {xa xb:List St} (hr:0≤r∧r < R) (hl:xa.length≤30) (hx:rin R xa=false) (hy:rin R xb=false):∀ n∈(lo r m xa xb).1,Gd R n:=by
 intro n hn
 unfold lo at hn
 split at hn
 · rename_i hs
   have:=lo_len hs
   cases xb with
   | nil=>simp at this
   | cons y ys =>
     rcases List.mem_cons.1 hn with rfl | hn
     · exact ⟨hr,rin_mem hy (x:=y) (by simp),by simp,by simp⟩
     · exact rel_good (by decide) xa _ 1 (by omega) (by omega) hx (rin_of fun z hz=>rin_mem hy (List.mem_of_mem_drop hz)) n hn
 · simp at hn
theorem ag_good {R r:Int} {m:Bool} {xa xb:List St} (hr:0≤r∧r < R) (hl:xa.length≤30) (hx:rin R xa=false) (hy:rin R xb=false):∀ n∈(ag r m xa xb).1,Gd R n:=by
 intro n hn
 unfold ag at hn
 split at hn
 · split at hn
   · simp at hn
   · rename_i x xs y ys _
     simp only [List.length_cons] at hl
     rcases List.mem_cons.1 hn with rfl | hn
     · exact ⟨rin_mem hx (by simp),hr,by simp,by simp⟩
     · rcases List.mem_cons.1 hn with rfl | hn
       · exact ⟨hr,rin_mem hy (by simp),by simp,by simp⟩
       · exact rel_good (by decide) xs ys 1 (by omega) (by omega) (rin_of fun z hz=>rin_mem hx (by simp [hz])) (rin_of fun z hz=>rin_mem hy (by simp [hz])) n hn
 · simp at hn
theorem getI_mem {α:Type} {l:List α} {i:Int} {x:α} (h:getI l i=some x):x∈l:=List.mem_of_getElem? (getI_some h).2.1
theorem stmtNeeds_eq (x:Stm) (xb:List (List St)) (xc:Int) (hb:∀ t∈xb,t.length≤20):∃ l e,fn_stmt_Needs x xb xc=some (l,e)∧fn_ref18_Needs x xb xc=some (l,e)∧l.length≤1000∧((∀ t∈xb,rin xc t=false)→∀ n∈l,Gd xc n):=by
 obtain ⟨k,d,s,r,m⟩:=x
 unfold fn_stmt_Needs fn_ref18_Needs
 have g1:fn_ref18_Dst k=some (sDst k):=rfl
 have g2:fn_ref18_Src k=some (sSrc k):=rfl
 have g3:fn_ref18_Region k=some (sReg k):=rfl
 have g4 (d:Int):fn_stmt_Needs_1_ip0_k d xb=some (loc xb d):=rfl
 simp only [form_eq,refForm_eq,Option.bind_some,g1,g2,g3,g4,loc_ref]
 cases hf:fOk (k,d,s,r,m) with
 | false=>exact ⟨[],3,rfl,rfl,by simp,by simp⟩
 | true =>
   have hk:k=0∨k=1∨k=2∨k=3∨k=4∨k=5:=by
     unfold fOk at hf
     simp only [Bool.and_eq_true] at hf
     exact six (by simpa using hf.1.1.1)
   have bad:∃ l e,(some (([]:List Nd),(7:Int)):Option (List Nd×Int))=some (l,e)∧(some (([]:List Nd),(7:Int)):Option (List Nd×Int))=some (l,e)∧l.length≤1000∧((∀ t∈xb,rin xc t=false)→∀ n∈l,Gd xc n):=⟨[],7,rfl,rfl,by simp,by simp⟩
   have good:∃ l e,(some (([]:List Nd),(0:Int)):Option (List Nd×Int))=some (l,e)∧(some (([]:List Nd),(0:Int)):Option (List Nd×Int))=some (l,e)∧l.length≤1000∧((∀ t∈xb,rin xc t=false)→∀ n∈l,Gd xc n):=⟨[],0,rfl,rfl,by simp,by simp⟩
   rcases hk with rfl | rfl | rfl | rfl | rfl | rfl
   · simpa [sDst,sSrc,sReg] using good
   · have e1:sDst 1=true:=rfl
     have e2:sSrc 1=true:=rfl
     have e3:sReg 1=false:=rfl
     cases h1:loc xb d with
     | false=>simpa [e1,e2,e3,h1] using bad
     | true =>
       cases h2:loc xb s with
       | false=>simpa [e1,e2,e3,h1,h2] using bad
       | true =>
         obtain ⟨t1,a1,b1⟩:=getLoc h1 hb
         obtain ⟨t2,a2,b2⟩:=getLoc h2 hb
         simp [e1,e2,e3,h1,h2,a1,a2]
         rw [relFlow_eq _ _ _ _ (by omega) (by omega) (by omega),refFlow_eq _ _ _ _ (by omega) (by omega) (by omega)]
         have hr:=rel_len 1 t2 t1 0
         by_cases q:shp t2 t1=true
         · exact ⟨rel 1 0 t2 t1,0,by simp [q],by simp [q],by omega,fun hg=>by simpa using rel_good (kind:=1) (by decide) t2 t1 0 (by omega) (by omega) (hg _ (getI_mem a2)) (hg _ (getI_mem a1))⟩
         · exact ⟨[],8,by simp [q],by simp [q],by simp,by simp⟩
   all_goals try
     (have e1:sDst 4=false:=rfl
      have e2:sSrc 4=true:=rfl
      have e3:sReg 4=false:=rfl
      cases h2:loc xb s with
      | false=>simpa [e1,e2,e3,h2] using bad
      | true=>simpa [e1,e2,e3,h2] using good)
   all_goals try
     (have e1:sDst 5=true:=rfl
      have e2:sSrc 5=false:=rfl
      have e3:sReg 5=false:=rfl
      cases h2:loc xb d with
      | false=>simpa [e1,e2,e3,h2] using bad
      | true=>simpa [e1,e2,e3,h2] using good)
   · have e1:sDst 2=true:=rfl
     have e2:sSrc 2=true:=rfl
     have e3:sReg 2=true:=rfl
     cases h1:loc xb d with
     | false=>simpa [e1,e2,e3,h1] using bad
     | true =>
       cases h2:loc xb s with
       | false=>simpa [e1,e2,e3,h1,h2] using bad
       | true =>
         cases h3:(decide (r < 0)||decide (xc≤r)) with
         | true=>simpa [e1,e2,e3,h1,h2,h3] using bad
         | false =>
           obtain ⟨t1,a1,b1⟩:=getLoc h1 hb
           obtain ⟨t2,a2,b2⟩:=getLoc h2 hb
           have hq:=lo_bound r m t2 t1 (by omega)
           refine ⟨(lo r m t2 t1).1,(lo r m t2 t1).2,?_,?_,by omega,fun hg=>lo_good (by simp at h3; omega) (by omega) (hg _ (getI_mem a2)) (hg _ (getI_mem a1))⟩
           · simp [e1,e2,e3,h1,h2,h3,a1,a2,relLoan_eq t2 t1 r m (by omega)]
           · simp [e1,e2,e3,h1,h2,h3,a1,a2,refLoan_eq t2 t1 r m (by omega)]
   · have e1:sDst 3=true:=rfl
     have e2:sSrc 3=true:=rfl
     have e3:sReg 3=true:=rfl
     cases h1:loc xb d with
     | false=>simpa [e1,e2,e3,h1] using bad
     | true =>
       cases h2:loc xb s with
       | false=>simpa [e1,e2,e3,h1,h2] using bad
       | true =>
         cases h3:(decide (r < 0)||decide (xc≤r)) with
         | true=>simpa [e1,e2,e3,h1,h2,h3] using bad
         | false =>
           obtain ⟨t1,a1,b1⟩:=getLoc h1 hb
           obtain ⟨t2,a2,b2⟩:=getLoc h2 hb
           have hq:=ag_bound r m t2 t1 (by omega)
           refine ⟨(ag r m t2 t1).1,(ag r m t2 t1).2,?_,?_,by omega,fun hg=>ag_good (by simp at h3; omega) (by omega) (hg _ (getI_mem a2)) (hg _ (getI_mem a1))⟩
           · simp [e1,e2,e3,h1,h2,h3,a1,a2,relAgain_eq t2 t1 r m (by omega)]
           · simp [e1,e2,e3,h1,h2,h3,a1,a2,refAgain_eq t2 t1 r m (by omega)]
abbrev Tm:=Int×Int×Int×List Int×List Int×List Int
def tCalls (x:Tm):Bool:=((!decide (x.2.1=0))||(!decide (x.2.2.1=0)))||(decide (0 < x.2.2.2.2.2.length))
def tRight (x:Tm):Bool :=
 if x.1=1 then decide (x.2.2.2.1.length=1)&&decide (x.2.2.2.2.1.length=0)&&!tCalls x
 else if x.1=2 then decide (0 < x.2.2.2.1.length)&&!tCalls x
 else if x.1=3 then decide (x.2.2.2.1.length=0)&&decide (x.2.2.2.2.1.length=0)&&!tCalls x
 else if x.1=4 then decide (x.2.2.2.1.length=1) else false
def tForm (x:Tm):Int:=if tRight x=true then if 16 < x.2.2.2.1.length∨16 < x.2.2.2.2.1.length∨16 < x.2.2.2.2.2.length then 6 else 0 else 3
theorem bnd (a b:Bool):(cond a (some b) (some false):Option Bool)=some (a&&b):=by cases a <;> rfl
theorem dn1 (n:Nat):decide ((n:Int)=1)=decide (n=1):=by by_cases h:n=1 <;> simp [h] <;> omega
theorem dn0 (n:Nat):decide ((n:Int)=0)=decide (n=0):=by by_cases h:n=0 <;> simp [h] <;> omega
theorem dp0 (n:Nat):decide (0 < (n:Int))=decide (0 < n):=by by_cases h:0 < n <;> simp [h] <;> omega
theorem d16 (n:Nat):decide (16 < (n:Int))=decide (16 < n):=by by_cases h:16 < n <;> simp [h] <;> omega
theorem tForm_eq (x:Tm):fn_term_form x=some (tForm x):=by
 obtain ⟨k,g,d,to,args,ps⟩:=x
 have hc:fn_term_calls (k,g,d,to,args,ps)=some (tCalls (k,g,d,to,args,ps)):=by unfold fn_term_calls tCalls; simp only [dp0]
 unfold fn_term_form tForm
 have hr:∀ b:Bool,(cond (!b) (some 3) (cond (((decide (16 < ((to.length:Nat):Int)))||(decide (16 < ((args.length:Nat):Int))))||(decide (16 < ((ps.length:Nat):Int)))) (some 6) (some 0)):Option Int)=some (if b=true then if 16 < to.length∨16 < args.length∨16 < ps.length then 6 else 0 else 3):=by
   intro b
   cases b with
   | false=>rfl
   | true =>
     simp only [d16,Bool.not_true,cond_false,if_true]
     by_cases h1:16 < to.length <;> by_cases h2:16 < args.length <;> by_cases h3:16 < ps.length <;> simp [h1,h2,h3]
 dsimp only at *
 have hm:∀ (m:Option Bool) (b:Bool),m=some b→(m.bind fun t194=>cond (!t194) (some 3) (cond (((decide (16 < ((to.length:Nat):Int)))||(decide (16 < ((args.length:Nat):Int))))||(decide (16 < ((ps.length:Nat):Int)))) (some 6) (some 0)):Option Int)=some (if b=true then if 16 < to.length∨16 < args.length∨16 < ps.length then 6 else 0 else 3):=by
   rintro _ b rfl; exact hr b
 refine hm _ _ ?_
 simp only [hc,Option.bind_some,dn1,dn0,dp0]
 unfold tRight
 dsimp only
 by_cases k1:k=1
 · simp [k1,bnd,Bool.and_assoc]
 · by_cases k2:k=2
   · simp [k2,bnd,Bool.and_assoc]
   · by_cases k3:k=3
     · simp [k3,bnd,Bool.and_assoc]
     · by_cases k4:k=4
       · simp [k4]
       · simp [k1,k2,k3,k4]
theorem tForm_zero {x:Tm} (h:tForm x=0):tRight x=true∧x.2.2.2.1.length≤16∧x.2.2.2.2.1.length≤16∧x.2.2.2.2.2.length≤16:=by
 unfold tForm at h
 split at h
 · split at h
   · cases h
   · rename_i q; exact ⟨by assumption,by omega,by omega,by omega⟩
 · cases h
theorem within_eq (xa:List Int) (n:Int) (hn:xa.length≤1073741824):fn_ref19_within xa n=some (!xa.any (fun x=>decide (x < 0)||decide (n≤x))):=by
 unfold fn_ref19_within
 rw [loop_some (body:=fn_ref19_within_l1 xa n) xa (fun x=>decide (x < 0)||decide (n≤x)) (.inr false) (.inl ()) ?_ ?_]
 · cases xa.any (fun x=>decide (x < 0)||decide (n≤x)) <;> rfl
 · intro k hk
   unfold fn_ref19_within_l1
   by_cases q:xa[k] < 0 <;> by_cases q2:n≤xa[k] <;> simp [hk,getN hk,w64s hk (by omega:xa.length≤9223372036854775807),q,q2]
 · simp [fn_ref19_within_l1]
theorem refTForm_eq (x:Tm):fn_ref19_Form x=some (tForm x):=by
 obtain ⟨k,g,d,to,args,ps⟩:=x
 unfold fn_ref19_Form tForm tRight tCalls
 dsimp only
 simp only [dn1,dn0,d16,dp0]
 have hps:decide (0 < ps.length) = !decide (ps.length=0):=by by_cases h:ps.length=0 <;> simp [h] <;> omega
 have hto:decide (0 < to.length) = !decide (to.length=0):=by by_cases h:to.length=0 <;> simp [h] <;> omega
 rw [hps,hto]
 have last:(cond (((decide (16 < to.length))||(decide (16 < args.length)))||(decide (16 < ps.length))) (some 6) (some 0):Option Int)=some (if 16 < to.length∨16 < args.length∨16 < ps.length then 6 else 0):=by
   by_cases h1:16 < to.length <;> by_cases h2:16 < args.length <;> by_cases h3:16 < ps.length <;> simp [h1,h2,h3]
 rw [last]
 generalize (if 16 < to.length∨16 < args.length∨16 < ps.length then (6:Int) else 0)=z
 generalize decide (to.length=1)=t1
 generalize decide (to.length=0)=t0
 generalize decide (args.length=0)=a0
 generalize decide (ps.length=0)=p0
 generalize decide (g=0)=g0
 generalize decide (d=0)=d0
 by_cases k1:k=1
 · subst k1; cases t1 <;> cases t0 <;> cases a0 <;> cases p0 <;> cases g0 <;> cases d0 <;> simp
 · by_cases k2:k=2
   · subst k2; cases t1 <;> cases t0 <;> cases a0 <;> cases p0 <;> cases g0 <;> cases d0 <;> simp
   · by_cases k3:k=3
     · subst k3; cases t1 <;> cases t0 <;> cases a0 <;> cases p0 <;> cases g0 <;> cases d0 <;> simp
     · by_cases k4:k=4
       · subst k4; cases t1 <;> cases t0 <;> cases a0 <;> cases p0 <;> cases g0 <;> cases d0 <;> simp
       · have:(decide (k < 1)||decide (4 < k))=true:=by simp; omega
         simp [this,k1,k2,k3,k4]
theorem fewl {xa:List (List St)} {body:Int→Option (Int⊕(Unit⊕Bool))} (hn:xa.length≤1000) (hb:∀ i,body i=cond (decide (i < (((xa.length:Nat):Int)))) ((getI xa i).bind fun x=>(fn_ref15_Few x 20).bind fun t=>cond (!t) (some (.inr ((.inr (false))))) (some (.inl (IntKind.wrap .i64 (i + 1))))) (some (.inr ((.inl ()))))) :
   loop body 0=some (if xa.any (fun t=>!decide (t.length≤20)) then (Sum.inr false:Unit⊕Bool) else .inl ()):=by
 refine loop_some (β:=Unit⊕Bool) xa (fun t=>!decide (t.length≤20)) (.inr false) (.inl ()) ?_ ?_
 · intro k hk
   rw [hb]
   simp only [dlt hk,cond_true,getN hk,Option.bind_some,w64s hk (by omega:xa.length≤9223372036854775807),Few_eq]
   by_cases q:xa[k].length≤20
   · have:decide (((xa[k].length:Nat):Int)≤20)=true:=by simp; omega
     simp [this,q]
   · have:decide (((xa[k].length:Nat):Int)≤20)=false:=by simp; omega
     simp [this,q]
 · rw [hb]; simp
theorem few_mem {xa:List (List St)} (h:xa.any (fun t=>!decide (t.length≤20))=false):∀ t∈xa,t.length≤20:=by
 intro t ht
 have:=List.any_eq_false.1 h t ht
 simpa using this
theorem few17 (s:Sg):fn_ref17_Few s=some false∨(fn_ref17_Few s=some true∧s.2.1.length≤20∧s.2.2.1.length≤20∧s.2.2.2.length≤20∧∀ t∈s.2.2.1,t.length≤20):=by
 unfold fn_ref17_Few
 by_cases h:20 < s.2.1.length∨20 < s.2.2.1.length
 · have:((decide (20 < (((s.2.1.length:Nat):Int))))||(decide (20 < (((s.2.2.1.length:Nat):Int)))))=true:=by simp; omega
   rw [this]; exact .inl rfl
 · have:((decide (20 < (((s.2.1.length:Nat):Int))))||(decide (20 < (((s.2.2.1.length:Nat):Int)))))=false:=by simp; omega
   rw [this,cond_false,Few_eq]
   by_cases q:s.2.2.2.length≤20
   · have e:decide (((s.2.2.2.length:Nat):Int)≤20)=true:=by simp; omega
     simp only [Option.bind_some,e,Bool.not_true,cond_false]
     rw [fewl (body:=fn_ref17_Few_l1 s) (xa:=s.2.2.1) (by omega) (fun i=>rfl)]
     cases hf:s.2.2.1.any (fun t=>!decide (t.length≤20)) with
     | true=>exact .inl rfl
     | false=>exact .inr ⟨rfl,by omega,by omega,q,few_mem hf⟩
   · have e:decide (((s.2.2.2.length:Nat):Int)≤20)=false:=by simp; omega
     simp only [Option.bind_some,e]; exact .inl rfl
def bad (n:Int) (xa:List Int):Bool:=xa.any (fun x=>decide (x < 0)||decide (n≤x))
theorem contains_eq (xa:List Int) (n:Int) (hn:xa.length≤1000):fn_slices_ContainsFunc_int_int_k_term_beyond_1_p0_i xa n=some (bad n xa):=by
 unfold fn_slices_ContainsFunc_int_int_k_term_beyond_1_p0_i fn_slices_IndexFunc_int_int_k_term_beyond_1_p0_i
 rw [loop_search (body:=fn_slices_IndexFunc_int_int_k_term_beyond_1_p0_i_l1 xa n) xa (fun x=>decide (x < 0)||decide (n≤x)) (fun k => .inr (k:Int)) (.inl ()) ?_ ?_]
 · rcases find_cases xa (fun x=>decide (x < 0)||decide (n≤x)) with ⟨k,h1,h2⟩ | ⟨h1,h2⟩
   · rw [h1]; unfold bad; simp [h2]
   · rw [h1]; unfold bad; simp [h2]
 · intro k hk
   unfold fn_slices_IndexFunc_int_int_k_term_beyond_1_p0_i_l1 fn_term_beyond_1_ip0_i
   simp only [dlt hk,cond_true,getN hk,Option.bind_some,w64s hk (by omega:xa.length≤9223372036854775807)]
   cases (decide (xa[k] < 0)||decide (n≤xa[k])) <;> rfl
 · simp [fn_slices_IndexFunc_int_int_k_term_beyond_1_p0_i_l1]
theorem refWithin_eq (xa:List Int) (n:Int) (hn:xa.length≤1000):fn_ref19_within xa n=some (!bad n xa):=within_eq xa n (by omega)
abbrev Ar:=Int×Int×List (List St)×List St×List Sg
theorem args_loop {x:Tm} {a:Ar} (hx:x.2.2.2.2.1.length≤20) (hb:bad (a.2.2.1.length:Int) x.2.2.2.2.1=false) (hL:∀ t∈a.2.2.1,t.length≤20) :
   ∃ C:List (List St),loop (fn_term_Needs_l1 x a) ([],0)=some C∧(∀ t∈C,t.length≤20)∧∀ t∈C,t∈a.2.2.1:=by
 have hin (k:Nat) (hk:k < x.2.2.2.2.1.length):0≤x.2.2.2.2.1[k]∧x.2.2.2.2.1[k] < (a.2.2.1.length:Int):=by
   have:=List.any_eq_false.1 hb _ (List.getElem_mem hk)
   simp at this; omega
 have hl:=loop_nat (body:=fn_term_Needs_l1 x a) (fun k:Nat=>((x.2.2.2.2.1.take k).map (fun i=>a.2.2.1.getD i.toNat []),(k:Int))) x.2.2.2.2.1.length (b:=x.2.2.2.2.1.map (fun i=>a.2.2.1.getD i.toNat [])) ?_ ?_
 · have hm:∀ t∈x.2.2.2.2.1.map (fun i=>a.2.2.1.getD i.toNat []),t∈a.2.2.1:=by
     intro t ht
     obtain ⟨i,hi,rfl⟩:=List.mem_map.1 ht
     obtain ⟨k,hk,rfl⟩:=List.getElem_of_mem hi
     have h2:=hin k hk
     have:x.2.2.2.2.1[k].toNat < a.2.2.1.length:=by omega
     have e:a.2.2.1.getD x.2.2.2.2.1[k].toNat []=a.2.2.1[x.2.2.2.2.1[k].toNat]:=by simp [List.getD,this]
     rw [e]; exact List.getElem_mem _
   refine ⟨_,hl,fun t ht=>?_,hm⟩
   obtain ⟨i,hi,rfl⟩:=List.mem_map.1 ht
   obtain ⟨k,hk,rfl⟩:=List.getElem_of_mem hi
   have h2:=hin k hk
   have:x.2.2.2.2.1[k].toNat < a.2.2.1.length:=by omega
   have e:a.2.2.1.getD x.2.2.2.2.1[k].toNat []=a.2.2.1[x.2.2.2.2.1[k].toNat]:=by simp [List.getD,this]
   rw [e]; exact hL _ (List.getElem_mem _)
 · intro k hk
   have h2:=hin k hk
   have h3:x.2.2.2.2.1[k].toNat < a.2.2.1.length:=by omega
   have e:a.2.2.1.getD x.2.2.2.2.1[k].toNat []=a.2.2.1[x.2.2.2.2.1[k].toNat]:=by simp [List.getD,h3]
   unfold fn_term_Needs_l1
   simp only [dlt hk,cond_true,getN hk,Option.bind_some]
   rw [getZ h2.1 h2.2,Option.bind_some,app_eq (by simp; omega),Option.bind_some,w64s hk (by omega),take_snoc hk,List.map_append]
   simp only [List.map_cons,List.map_nil,e]
 · simp [fn_term_Needs_l1]
theorem getD_good {R:Int} {names:List Int} (hR:0 < R) (hn:bad R names=false) (i:Nat):0≤names.getD i 0∧names.getD i 0 < R:=by
 by_cases q:i < names.length
 · have e:names.getD i 0=names[i]:=by simp [List.getD,q]
   rw [e]
   have:=List.any_eq_false.1 hn _ (List.getElem_mem q)
   simp at this; omega
 · have e:names.getD i 0=0:=by simp [List.getD,List.getElem?_eq_none (Nat.not_lt.1 q)]
   rw [e]; omega
theorem sbs_good {R:Int} {names:List Int} (hR:0 < R) (hn:bad R names=false) {t:List St}:rin R (t.map (sbs names))=false:=by
 refine rin_of fun x hx=>?_
 obtain ⟨y,_,rfl⟩:=List.mem_map.1 hx
 exact getD_good hR hn _
theorem csp_good {R:Int} {s:Sg} {names:List Int} {C:List (List St)} {D:List St} (hR:0 < R) (hn:bad R names=false) (hC:∀ t∈C,t.length≤20∧rin R t=false) (hD:rin R D=false) (hs:s.2.1.length≤20∧s.2.2.1.length≤20∧s.2.2.2.length≤20):∀ n∈(csp s names C D).1,Gd R n:=by
 intro n h
 unfold csp at h
 split at h
 · simp at h
 split at h
 · simp at h
 split at h
 · simp at h
 split at h
 · have hb : ∀ k, k ≤ 20 → ∀ n ∈ bds names s.2.1 k, Gd R n := by
     intro k
     induction k with
     | zero=>intro _ n hn; simp [bds] at hn
     | succ k ih =>
       intro hk n hn'
       simp only [bds,List.mem_append,List.mem_singleton] at hn'
       rcases hn' with hn' | rfl
       · exact ih (by omega) n hn'
       · exact ⟨getD_good hR hn _,getD_good hR hn _,by simp,by show (0:Int)≤(k:Int); omega,by show (k:Int)≤_; omega⟩
   have hf : ∀ k, k ≤ 20 → ∀ n ∈ fls names s.2.2.1 C k, Gd R n := by
     intro k
     induction k with
     | zero=>intro _ n hn; simp [fls] at hn
     | succ k ih =>
       intro hk n hn'
       simp only [fls,List.mem_append] at hn'
       rcases hn' with hn' | hn'
       · exact ih (by omega) n hn'
       · unfold fl at hn'
         have hc:(C.getD k []).length≤20∧rin R (C.getD k [])=false:=by
           by_cases q:k < C.length
           · have e:C.getD k []=C[k]:=by simp [List.getD,q]
             rw [e]; exact hC _ (List.getElem_mem q)
           · have e:C.getD k []=[]:=by simp [List.getD,List.getElem?_eq_none (Nat.not_lt.1 q)]
             rw [e]; exact ⟨by simp,rfl⟩
         exact rel_good (by decide) _ _ _ (by omega) (by omega) hc.2 (sbs_good hR hn) n hn'
   rcases List.mem_append.1 h with h | h
   · rcases List.mem_append.1 h with h | h
     · exact hb _ hs.1 n h
     · exact hf _ hs.2.1 n h
   · exact rel_good (by decide) _ _ 0 (by omega) (by simp; omega) (sbs_good hR hn) hD n h
 · simp at h
theorem needs19 (x:Tm) (a:Ar) (l2:x.2.2.2.1.length≤20) (l3:x.2.2.2.2.1.length≤20) (l4:x.2.2.2.2.2.length≤20) (hR:a.2.2.2.1.length≤20) (hL:∀ t∈a.2.2.1,t.length≤20) (hS:∀ s∈a.2.2.2.2,s.2.1.length≤20∧s.2.2.1.length≤20∧s.2.2.2.length≤20∧∀ t∈s.2.2.1,t.length≤20) :
   ∃ l e,fn_term_Needs x a=some (l,e)∧fn_ref19_Needs x a=some (l,e)∧l.length≤1000000∧((0 < a.2.1∧(∀ t∈a.2.2.1,rin a.2.1 t=false)∧rin a.2.1 a.2.2.2.1=false)→∀ n∈l,Gd a.2.1 n):=by
 have same:fn_ref19_Needs_l1 x a=fn_term_Needs_l1 x a:=rfl
 unfold fn_term_Needs fn_ref19_Needs
 rw [show fn_term_form (x.1,x.2.1,x.2.2.1,x.2.2.2.1,x.2.2.2.2.1,x.2.2.2.2.2)=some (tForm x) from tForm_eq x,show fn_ref19_Form (x.1,x.2.1,x.2.2.1,x.2.2.2.1,x.2.2.2.2.1,x.2.2.2.2.2)=some (tForm x) from refTForm_eq x,same]
 have hw:fn_term_within (x.1,x.2.1,x.2.2.1,x.2.2.2.1,x.2.2.2.2.1,x.2.2.2.2.2) (a.1,a.2.1,a.2.2.1,a.2.2.2.1,a.2.2.2.2)=some (!(bad a.1 x.2.2.2.1||bad (a.2.2.1.length:Int) x.2.2.2.2.1||bad a.2.1 x.2.2.2.2.2||(decide (x.1=4)&&(bad (a.2.2.1.length:Int) [x.2.2.1]||bad (a.2.2.2.2.length:Int) [x.2.1])))):=by
   unfold fn_term_within fn_term_beyond fn_term_beyond_1_ip0_i
   simp only [Option.bind_some,contains_eq x.2.2.2.1 _ (by omega:x.2.2.2.1.length≤1000),contains_eq x.2.2.2.2.1 _ (by omega:x.2.2.2.2.1.length≤1000),contains_eq x.2.2.2.2.2 _ (by omega:x.2.2.2.2.2.length≤1000)]
   have e (n i:Int):bad n [i]=(decide (i < 0)||decide (n≤i)):=by simp [bad]
   rw [e,e]
   cases bad a.1 x.2.2.2.1 <;> cases bad (a.2.2.1.length:Int) x.2.2.2.2.1 <;> cases bad a.2.1 x.2.2.2.2.2 <;> cases decide (x.1=4) <;> cases (decide (x.2.2.1 < 0)||decide ((a.2.2.1.length:Int)≤x.2.2.1)) <;> cases (decide (x.2.1 < 0)||decide ((a.2.2.2.2.length:Int)≤x.2.1)) <;> rfl
 rw [hw]
 by_cases hf:tForm x=0
 · have o1 (i n:Int):fn_ref19_within [i] n=some (!bad n [i]):=refWithin_eq [i] n (by simp)
   simp only [hf,Option.bind_some,decide_true,Bool.not_true,cond_false,refWithin_eq x.2.2.2.1 _ (by omega:x.2.2.2.1.length≤1000),refWithin_eq x.2.2.2.2.1 _ (by omega:x.2.2.2.2.1.length≤1000),refWithin_eq x.2.2.2.2.2 _ (by omega:x.2.2.2.2.2.length≤1000),o1,Bool.not_not]
   have seven:∃ l e,(some (([]:List Nd),(7:Int)):Option (List Nd×Int))=some (l,e)∧(some (([]:List Nd),(7:Int)):Option (List Nd×Int))=some (l,e)∧l.length≤1000000∧((0 < a.2.1∧(∀ t∈a.2.2.1,rin a.2.1 t=false)∧rin a.2.1 a.2.2.2.1=false)→∀ n∈l,Gd a.2.1 n):=⟨[],7,rfl,rfl,by simp,by simp⟩
   cases b1:bad a.1 x.2.2.2.1 with
   | true=>exact seven
   | false =>
     cases b2:bad (a.2.2.1.length:Int) x.2.2.2.2.1 with
     | true=>exact seven
     | false =>
       cases b3:bad a.2.1 x.2.2.2.2.2 with
       | true=>exact seven
       | false =>
         by_cases k4:x.1=4
         · have n3:¬ x.1=3:=by omega
           rw [decide_eq_true k4,decide_eq_false n3]
           cases b4:bad (a.2.2.1.length:Int) [x.2.2.1] with
           | true=>exact seven
           | false =>
             cases b5:bad (a.2.2.2.2.length:Int) [x.2.1] with
             | true=>exact seven
             | false =>
               obtain ⟨C,c1,c2,c3⟩:=args_loop l3 b2 hL
               simp [bad] at b4 b5
               simp only [Bool.or_self,Bool.and_false,Bool.not_false,Bool.not_true,cond_false,cond_true,Option.bind_some,c1,Bool.false_and,Bool.true_and]
               rw [getZ b5.1 b5.2,getZ b4.1 b4.2]
               have hs:=hS _ (List.getElem_mem (l:=a.2.2.2.2) (n:=x.2.1.toNat) (by omega))
               have ht:=hL _ (List.getElem_mem (l:=a.2.2.1) (n:=x.2.2.1.toNat) (by omega))
               have hDm:=List.getElem_mem (l:=a.2.2.1) (n:=x.2.2.1.toNat) (by omega)
               simp only [Option.bind_some]
               generalize a.2.2.2.2[x.2.1.toNat]=S at hs ⊢
               generalize a.2.2.1[x.2.2.1.toNat]=D at ht hDm ⊢
               rw [show fn_sig_Call (S.1,S.2.1,S.2.2.1,S.2.2.2) x.2.2.2.2.2 C D=_ from sigCall_eq S _ C D hs.2.2.1 hs.2.2.2 c2 ht,show fn_ref17_Call (S.1,S.2.1,S.2.2.1,S.2.2.2) x.2.2.2.2.2 C D=_ from refCall_eq S _ C D hs.2.2.1 hs.2.2.2 c2 ht]
               have hn:=csp_len S x.2.2.2.2.2 C D ⟨hs.1,hs.2.1,hs.2.2.1⟩ c2
               exact ⟨(csp S x.2.2.2.2.2 C D).1,(csp S x.2.2.2.2.2 C D).2,rfl,rfl,hn,fun hg=>csp_good hg.1 b3 (fun t ht=>⟨c2 t ht,hg.2.1 t (c3 t ht)⟩) (hg.2.1 _ hDm) ⟨hs.1,hs.2.1,hs.2.2.1⟩⟩
         · rw [decide_eq_false k4]
           by_cases k3:x.1=3
           · rw [decide_eq_true k3]
             cases hz:a.2.2.1 with
             | nil=>exact ⟨[],14,by simp,by simp,by simp,by simp⟩
             | cons t ts =>
               have ht:=hL t (by rw [hz]; simp)
               have hl0:decide ((((t :: ts).length:Nat):Int)=0)=false:=decide_eq_false (by simp; omega)
               simp only [hl0,Bool.or_self,Bool.and_false,Bool.false_and,Bool.not_false,Bool.not_true,cond_false,cond_true,Option.bind_some,show getI (t :: ts) 0=some t from rfl]
               rw [relFlow_eq _ _ _ _ (by omega) (by omega) (by omega),refFlow_eq _ _ _ _ (by omega) (by omega) (by omega)]
               have hr:=rel_len 7 t a.2.2.2.1 0
               by_cases q:shp t a.2.2.2.1=true
               · exact ⟨rel 7 0 t a.2.2.2.1,0,by simp [q],by simp [q],by omega,fun hg=>rel_good (by decide) _ _ 0 (by omega) (by omega) (hg.2.1 t (by simp)) hg.2.2⟩
               · exact ⟨[],8,by simp [q],by simp [q],by simp,by simp⟩
           · rw [decide_eq_false k3]
             exact ⟨[],0,rfl,rfl,by simp,by simp⟩
 · exact ⟨[],tForm x,by simp [hf],by simp [hf],by simp,by simp⟩
abbrev tySg:Tp := .cons (.int .i64) (.cons (.sl (.cons (.int .i64) (.one (.int .i64)))) (.cons (.sl (.one (.sl (.cons (.int .i64) (.one .bool))))) (.one (.one (.sl (.cons (.int .i64) (.one .bool)))))))
abbrev tyTm:Tp := .cons (.int .i64) (.cons (.int .i64) (.cons (.int .i64) (.cons (.sl (.int .i64)) (.cons (.sl (.int .i64)) (.one (.sl (.int .i64)))))))
abbrev tyBody:Tp := .cons (.int .i64) (.cons (.int .i64) (.cons (.sl (.cons (.int .i64) (.one (.int .i64)))) (.cons (.sl (.one (.sl (.cons (.int .i64) (.one .bool))))) (.cons (.one (.sl (.cons (.int .i64) (.one .bool)))) (.cons (.sl tySg) (.one (.sl (.cons (.sl (.cons (.int .i64) (.cons (.int .i64) (.cons (.int .i64) (.cons (.int .i64) (.one .bool)))))) (.one tyTm)))))))))
abbrev Blk:=List Stm×Tm
abbrev Bo:=Int×Int×List (Int×Int)×List (List St)×List St×List Sg×List Blk
def stm (l:List Blk):Nat:=(l.map (fun x=>x.1.length)).sum
structure Sm (b:Bo):Prop where
 bounds:b.2.2.1.length≤20
 locals:b.2.2.2.1.length≤10
 loc:∀ t∈b.2.2.2.1,t.length≤20
 ret:b.2.2.2.2.1.length≤20
 sigs:b.2.2.2.2.2.1.length≤4
 sig:∀ s∈b.2.2.2.2.2.1,s.2.1.length≤20∧s.2.2.1.length≤20∧s.2.2.2.length≤20∧∀ t∈s.2.2.1,t.length≤20
 blocks:b.2.2.2.2.2.2.length≤8
 term:∀ x∈b.2.2.2.2.2.2,x.2.2.2.2.1.length≤20∧x.2.2.2.2.2.1.length≤20∧x.2.2.2.2.2.2.length≤20
 many:stm b.2.2.2.2.2.2≤24
theorem sum_mem {α:Type} (f:α→Nat):∀ (l:List α) (x:α),x∈l→f x≤(l.map f).sum
 | [],x,h=>by cases h
 | y :: l,x,h=>by
   rcases List.mem_cons.1 h with rfl | h
   · simp
   · have:=sum_mem f l x h; simp; omega
theorem sum_take {α:Type} (f:α→Nat) (l:List α) (k:Nat):((l.take k).map f).sum≤(l.map f).sum:=by
 have:l.map f=(l.take k).map f++(l.drop k).map f:=by rw [← List.map_append,List.take_append_drop]
 rw [this,List.sum_append]; omega
theorem Sm.stmts {b:Bo} (h:Sm b) {x:Blk} (hx:x∈b.2.2.2.2.2.2):x.1.length≤24:=by
 have:=sum_mem (fun x:Blk=>x.1.length) _ x hx
 have:=h.many; unfold stm at this; omega
theorem stm_snoc {X:List Blk} {k:Nat} (hk:k < X.length):stm (X.take (k + 1))=stm (X.take k) + X[k].1.length:=by
 unfold stm; rw [take_snoc hk,List.map_append,List.sum_append]; simp
theorem fit_body {b:Bo} (h:Tp.Fit tyBody b):∀ x∈b.2.2.2.2.2.2,x.1.length≤140737488351232:=by
 obtain ⟨_,_,_,_,_,_,_,h2⟩:=h
 exact fun x hx=>(h2 x hx).1.1
theorem small20 (b:Bo) (hb:∀ x∈b.2.2.2.2.2.2,x.1.length≤140737488351232):fn_ref20_Small b=some false∨(fn_ref20_Small b=some true∧Sm b):=by
 obtain ⟨u,n,B,L,R,S,X⟩:=b
 unfold fn_ref20_Small
 dsimp only at *
 have e1:((((decide (20 < (((B.length:Nat):Int))))||(decide (10 < (((L.length:Nat):Int)))))||(decide (4 < (((S.length:Nat):Int)))))||(decide (8 < (((X.length:Nat):Int)))))=decide (20 < B.length∨10 < L.length∨4 < S.length∨8 < X.length):=by
   by_cases h1:20 < B.length <;> by_cases h2:10 < L.length <;> by_cases h3:4 < S.length <;> by_cases h4:8 < X.length <;> simp [h1,h2,h3,h4] <;> omega
 rw [e1]
 by_cases h0:20 < B.length∨10 < L.length∨4 < S.length∨8 < X.length
 · rw [decide_eq_true h0]; exact .inl rfl
 · rw [decide_eq_false h0,cond_false,Few_eq]
   by_cases q:R.length≤20
   · have e:decide (((R.length:Nat):Int)≤20)=true:=by simp; omega
     simp only [Option.bind_some,e,Bool.not_true,cond_false]
     rw [fewl (body:=fn_ref20_Small_l1 (u,n,B,L,R,S,X)) (xa:=L) (by omega) (fun i=>rfl)]
     cases hf:L.any (fun t=>!decide (t.length≤20)) with
     | true=>exact .inl rfl
     | false =>
       simp only [Bool.false_eq_true,if_false,Option.bind_some]
       have hS:∃ t,loop (fn_ref20_Small_l2 (u,n,B,L,R,S,X)) 0=some t∧(t = .inr false∨(t = .inl ()∧∀ s∈S,s.2.1.length≤20∧s.2.2.1.length≤20∧s.2.2.2.length≤20∧∀ t∈s.2.2.1,t.length≤20)):=by
         have hl:=loop_find (body:=fn_ref20_Small_l2 (u,n,B,L,R,S,X)) (fun k=>∃ h:k < S.length,fn_ref17_Few S[k]=some false) (fun k:Nat=>(k:Int)) S.length (fun _ => .inr false) (.inl ()) ?_ ?_ ?_
         · rcases hl with ⟨k,_,_,_,h4⟩ | ⟨h1,h2⟩
           · exact ⟨_,h4,.inl rfl⟩
           · refine ⟨_,h2,.inr ⟨rfl,fun s hs=>?_⟩⟩
             obtain ⟨k,hk,rfl⟩:=List.getElem_of_mem hs
             rcases few17 S[k] with h | ⟨h,f1,f2,f3,f4⟩
             · exact absurd ⟨hk,h⟩ (h1 k hk)
             · exact ⟨f1,f2,f3,f4⟩
         · intro k hk hp
           unfold fn_ref20_Small_l2
           rcases few17 S[k] with h | ⟨h,_⟩
           · exact absurd ⟨hk,h⟩ hp
           · simp only [dlt hk,cond_true,getN hk,Option.bind_some,show fn_ref17_Few (S[k].1,S[k].2.1,S[k].2.2.1,S[k].2.2.2)=_ from h,w64s hk (by omega:S.length≤9223372036854775807)]
             rfl
         · rintro k hk ⟨_,hp⟩
           unfold fn_ref20_Small_l2
           simp only [dlt hk,cond_true,getN hk,Option.bind_some,show fn_ref17_Few (S[k].1,S[k].2.1,S[k].2.2.1,S[k].2.2.2)=_ from hp]
           rfl
         · simp [fn_ref20_Small_l2]
       obtain ⟨t,ht,hS⟩:=hS
       rw [ht]
       rcases hS with rfl | ⟨rfl,hS⟩
       · exact .inl rfl
       · simp only [Option.bind_some]
         have hX:=loop_find (body:=fn_ref20_Small_l3 (u,n,B,L,R,S,X)) (fun k=>∃ h:k < X.length,(((decide (20 < ((((X[k]).2.2.2.2.1.length:Nat):Int))))||(decide (20 < ((((X[k]).2.2.2.2.2.1.length:Nat):Int)))))||(decide (20 < ((((X[k]).2.2.2.2.2.2.length:Nat):Int)))))=true) (fun k:Nat=>(((stm (X.take k):Nat):Int),(k:Int))) X.length (fun _ => .inr false) (.inl ((stm X:Nat):Int)) ?_ ?_ ?_
         · rcases hX with ⟨k,_,_,_,h4⟩ | ⟨h1,h2⟩
           · have h4':loop (fn_ref20_Small_l3 (u,n,B,L,R,S,X)) (0,0)=some (.inr false):=by simpa [stm] using h4
             rw [h4']; exact .inl rfl
           · have h2':loop (fn_ref20_Small_l3 (u,n,B,L,R,S,X)) (0,0)=some (.inl ((stm X:Nat):Int)):=by simpa [stm] using h2
             rw [h2']
             by_cases hm:stm X≤24
             · refine .inr ⟨by simp; omega,⟨by dsimp only; omega,by dsimp only; omega,few_mem hf,q,by dsimp only; omega,hS,by dsimp only; omega,fun x hx=>?_,hm⟩⟩
               obtain ⟨k,hk,rfl⟩:=List.getElem_of_mem hx
               have hn:=h1 k hk
               dsimp only at hk hn
               have hn2:(((decide (20 < ((((X[k]).2.2.2.2.1.length:Nat):Int))))||(decide (20 < ((((X[k]).2.2.2.2.2.1.length:Nat):Int)))))||(decide (20 < ((((X[k]).2.2.2.2.2.2.length:Nat):Int)))))=false:=by
                 cases hc:(((decide (20 < ((((X[k]).2.2.2.2.1.length:Nat):Int))))||(decide (20 < ((((X[k]).2.2.2.2.2.1.length:Nat):Int)))))||(decide (20 < ((((X[k]).2.2.2.2.2.2.length:Nat):Int))))) with
                 | false=>rfl
                 | true=>exact absurd ⟨hk,hc⟩ hn
               simp at hn2
               dsimp only
               omega
             · refine .inl ?_
               simp; omega
         · intro k hk hp
           have hn2:(((decide (20 < ((((X[k]).2.2.2.2.1.length:Nat):Int))))||(decide (20 < ((((X[k]).2.2.2.2.2.1.length:Nat):Int)))))||(decide (20 < ((((X[k]).2.2.2.2.2.2.length:Nat):Int)))))=false:=by
             cases hc:(((decide (20 < ((((X[k]).2.2.2.2.1.length:Nat):Int))))||(decide (20 < ((((X[k]).2.2.2.2.2.1.length:Nat):Int)))))||(decide (20 < ((((X[k]).2.2.2.2.2.2.length:Nat):Int))))) with
             | false=>rfl
             | true=>exact absurd ⟨hk,hc⟩ hp
           have a1:=hb X[k] (List.getElem_mem hk)
           have a2:stm (X.take k)≤k * 140737488351232:=by
             unfold stm
             have:∀ q:List Blk,(∀ x∈q,x∈X)→(q.map (fun x=>x.1.length)).sum≤q.length * 140737488351232:=by
               intro q
               induction q with
               | nil=>intro _; simp
               | cons x q ih =>
                 intro hq
                 have:=ih (fun y hy=>hq y (by simp [hy]))
                 have:=hb x (hq x (by simp))
                 simp only [List.map_cons,List.sum_cons,List.length_cons,Nat.succ_mul]; omega
             have h3:=this (X.take k) (fun x hx=>List.mem_of_mem_take hx)
             rw [List.length_take,Nat.min_eq_left (by omega)] at h3
             exact h3
           have a3:k≤8:=by omega
           have a4:k * 140737488351232≤8 * 140737488351232:=Nat.mul_le_mul_right _ a3
           unfold fn_ref20_Small_l3
           simp only [dlt hk,cond_true,getN hk,Option.bind_some,hn2,cond_false,w64s hk (by omega:X.length≤9223372036854775807)]
           rw [w64 (by omega) (by omega),stm_snoc hk]
           simp
         · rintro k hk ⟨_,hp⟩
           unfold fn_ref20_Small_l3
           simp only [dlt hk,cond_true,getN hk,Option.bind_some,hp]
         · unfold fn_ref20_Small_l3
           simp
   · have e:decide (((R.length:Nat):Int)≤20)=false:=by simp; omega
     simp only [Option.bind_some,e]; exact .inl rfl
section
abbrev Flt:=Int×Int×Int×Int
noncomputable def sE (L:List (List St)) (R:Int) (x:Stm):Int:=((fn_ref18_Needs x L R).getD ([],0)).2
noncomputable def tE (a:Ar) (x:Tm):Int:=((fn_ref19_Needs x a).getD ([],0)).2
def arOf (b:Bo):Ar:=(((b.2.2.2.2.2.2.length:Nat):Int),b.2.1,b.2.2.2.1,b.2.2.2.2.1,b.2.2.2.2.2.1)
def vHead (b:Bo):Flt:=if b.1 < 1∨b.2.1 < b.1 then (7,0,0,0) else if 65536 < b.2.1 then (6,0,0,0) else (0,0,0,0)
def vBounds (b:Bo):Flt:=match b.2.2.1.findIdx? (bad1 b.1) with | some k=>(7,1,(k:Int),0) | none=>(0,0,0,0)
def vLoc (b:Bo):Flt:=if b.2.2.2.1=[] then (14,2,0,0) else match b.2.2.2.1.findIdx? (fun t=>!decide (rck b.2.1 t=0)) with | some k=>(rck b.2.1 (b.2.2.2.1.getD k []),2,(k:Int),0) | none=>(0,0,0,0)
def vRet (b:Bo):Flt:=if rck b.1 b.2.2.2.2.1=0 then if shp b.2.2.2.2.1 (b.2.2.2.1.getD 0 []) then (0,3,0,0) else (8,3,0,0) else (rck b.1 b.2.2.2.2.1,3,0,0)
def vSig (b:Bo):Flt:=match b.2.2.2.2.2.1.findIdx? (fun s=>!decide (chk s=0)) with | some k=>(chk (b.2.2.2.2.2.1.getD k (0,[],[],[])),4,(k:Int),0) | none=>(0,0,0,0)
def vBlk (b:Bo):Flt:=if b.2.2.2.2.2.2=[] then (14,5,0,0) else (0,0,0,0)
noncomputable def blkE (b:Bo) (x:Blk):Option (Int×Int×Int) :=
 match x.1.findIdx? (fun s=>!decide (sE b.2.2.2.1 b.2.1 s=0)) with
 | some j=>some (sE b.2.2.2.1 b.2.1 (x.1.getD j (0,0,0,0,false)),6,(j:Int))
 | none=>if tE (arOf b) x.2=0 then none else some (tE (arOf b) x.2,7,0)
def fltOf (k:Nat) (o:Option (Int×Int×Int)):Flt:=match o with | some (e,p,j)=>(e,p,(k:Int),j) | none=>(0,0,0,0)
noncomputable def vCode (b:Bo):Flt:=match b.2.2.2.2.2.2.findIdx? (fun x=>(blkE b x).isSome) with | some k=>fltOf k (blkE b (b.2.2.2.2.2.2.getD k ([],0,0,0,[],[],[]))) | none=>(0,0,0,0)
def or0 (a b:Flt):Flt:=if a.1=0 then b else a
noncomputable def vck (b:Bo):Flt:=or0 (vHead b) (or0 (vBounds b) (or0 (vLoc b) (or0 (vRet b) (or0 (vSig b) (or0 (vBlk b) (vCode b))))))
theorem rowCheck20 {t:List St} (n:Int) (h:t.length≤20):fn_row_Check t n=some (rck n t):=rowCheck_eq t n (by omega)
section
variable {b:Bo} (h:Sm b)
include h
theorem stmtE {x:Stm}:∃ l,fn_stmt_Needs x b.2.2.2.1 b.2.1=some (l,sE b.2.2.2.1 b.2.1 x)∧fn_ref18_Needs x b.2.2.2.1 b.2.1=some (l,sE b.2.2.2.1 b.2.1 x):=by
 obtain ⟨l,e,h1,h2,_⟩:=stmtNeeds_eq x b.2.2.2.1 b.2.1 h.loc
 have:sE b.2.2.2.1 b.2.1 x=e:=by unfold sE; rw [h2]; rfl
 exact ⟨l,by rw [h1,this],by rw [h2,this]⟩
theorem termE {x:Blk} (hx:x∈b.2.2.2.2.2.2):∃ l,fn_term_Needs x.2 (arOf b)=some (l,tE (arOf b) x.2)∧fn_ref19_Needs x.2 (arOf b)=some (l,tE (arOf b) x.2):=by
 obtain ⟨a1,a2,a3⟩:=h.term x hx
 obtain ⟨l,e,h1,h2,_⟩:=needs19 x.2 (arOf b) a1 a2 a3 h.ret h.loc h.sig
 have:tE (arOf b) x.2=e:=by unfold tE; rw [h2]; rfl
 exact ⟨l,by rw [h1,this],by rw [h2,this]⟩
theorem sgl {s:Sg} (hs:s∈b.2.2.2.2.2.1):fn_sig_Check s=some (chk s):=by
 obtain ⟨a1,a2,a3,a4⟩:=h.sig s hs
 exact sigCheck_eq s (by omega) (fun t ht=>by have:=a4 t ht; omega)
theorem refHead_eq:fn_ref21_head b=some (or0 (vHead b) (vBounds b)):=by
 have h1:=h.bounds
 obtain ⟨u,n,B,L,R,S,X⟩:=b
 unfold fn_ref21_head vHead vBounds or0
 dsimp only at *
 by_cases q:u < 1∨n < u
 · have:(decide (u < 1)||decide (n < u))=true:=by simpa using q
   rw [this,if_pos q]; rfl
 · have:(decide (u < 1)||decide (n < u))=false:=by simpa using q
   rw [this,if_neg q,cond_false]
   by_cases q2:65536 < n
   · rw [decide_eq_true q2,if_pos q2]; rfl
   · rw [decide_eq_false q2,if_neg q2,cond_false,decide_eq_false (by omega),cond_false,loop_search (body:=fn_ref21_head_l1 (u,n,B,L,R,S,X)) B (bad1 u) (fun k=>(.inr (7,1,(k:Int),0):Unit⊕Flt)) (.inl ()) ?_ ?_]
     · cases B.findIdx? (bad1 u) <;> rfl
     · intro k hk
       unfold fn_ref21_head_l1
       simp only [dlt hk,cond_true,getN hk,Option.bind_some,w64s hk (by omega:B.length≤9223372036854775807)]
       show cond (bad1 u B[k]) _ _=_
       cases bad1 u B[k] <;> rfl
     · simp [fn_ref21_head_l1]
theorem refTypes21_eq:fn_ref21_types b=some (or0 (vLoc b) (or0 (vRet b) (vSig b))):=by
 have h1:=h.locals
 have h2:=h.sigs
 have h3:=h.ret
 have h4:=h.loc
 obtain ⟨u,n,B,L,R,S,X⟩:=b
 unfold fn_ref21_types vLoc vRet vSig
 dsimp only at *
 by_cases q:L=[]
 · subst q; rfl
 · have q' : ¬ ((L.length : Nat) : Int) = 0 := fun hc => q (List.length_eq_zero_iff.1 (by omega))
   rw [if_neg q,decide_eq_false q',cond_false,decide_eq_false (by omega),cond_false,loop_search (body:=fn_ref21_types_l1 (u,n,B,L,R,S,X)) L (fun t=>!decide (rck n t=0)) (fun k=>(.inr (rck n (L.getD k []),2,(k:Int),0):Unit⊕Flt)) (.inl ()) ?_ ?_]
   · cases hf:L.findIdx? (fun t=>!decide (rck n t=0)) with
     | some k =>
       obtain ⟨hk,h5,_⟩:=List.findIdx?_eq_some_iff_getElem.1 hf
       have e:L.getD k []=L[k]:=by simp [List.getD,hk]
       have:¬ rck n L[k]=0:=by simpa using h5
       simp only [or0,e,if_neg this]; rfl
     | none =>
       have hp:0 < L.length:=List.length_pos_iff.2 q
       have e0:L.getD 0 []=L[0]:=by simp [List.getD,hp]
       simp only [Option.bind_some,refCheck_eq]
       by_cases q2:rck u R=0
       · have g0:getI L 0=some L[0]:=getN (k:=0) hp
         simp only [q2,decide_true,Bool.not_true,cond_false,g0,Option.bind_some,e0]
         rw [refShape_eq _ _ (by have:=h4 L[0] (List.getElem_mem hp); omega),shp_comm,Option.bind_some]
         cases hs:shp R L[0] with
         | false=>rfl
         | true =>
           simp only [Bool.not_true,cond_false]
           rw [decide_eq_false (by omega),cond_false,loop_search (body:=fn_ref21_types_l2 (u,n,B,L,R,S,X)) S (fun s=>!decide (chk s=0)) (fun k=>(.inr (chk (S.getD k (0,[],[],[])),4,(k:Int),0):Unit⊕Flt)) (.inl ()) ?_ ?_]
           · cases S.findIdx? (fun s=>!decide (chk s=0)) <;> rfl
           · intro k hk
             unfold fn_ref21_types_l2
             have e:S.getD k (0,[],[],[])=S[k]:=by simp [List.getD,hk]
             simp only [dlt hk,cond_true,getN hk,Option.bind_some,w64s hk (by omega:S.length≤9223372036854775807),e,show fn_ref17_Check (S[k].1,S[k].2.1,S[k].2.2.1,S[k].2.2.2)=_ from refSCheck_eq S[k]]
             cases (!decide (chk S[k]=0)) <;> rfl
           · simp [fn_ref21_types_l2]
       · simp [q2,or0]
   · intro k hk
     unfold fn_ref21_types_l1
     have e:L.getD k []=L[k]:=by simp [List.getD,hk]
     simp only [dlt hk,cond_true,getN hk,Option.bind_some,w64s hk (by omega:L.length≤9223372036854775807),e,refCheck_eq]
     cases (!decide (rck n L[k]=0)) <;> rfl
   · simp [fn_ref21_types_l1]
theorem refBlocks21_eq:fn_ref21_blocks b=some (or0 (vBlk b) (vCode b)):=by
 have h1:=h.blocks
 have h2:=h.many
 have hst:=fun x (hx:x∈b.2.2.2.2.2.2)=>h.stmts hx
 have hT:=fun x (hx:x∈b.2.2.2.2.2.2)=>termE h hx
 have hS:=fun x=>stmtE h (x:=x)
 unfold fn_ref21_blocks vBlk vCode
 by_cases q:b.2.2.2.2.2.2=[]
 · rw [if_pos q,q]; rfl
 · have q' : ¬ ((b.2.2.2.2.2.2.length : Nat) : Int) = 0 := fun hc => q (List.length_eq_zero_iff.1 (by omega))
   rw [if_neg q,decide_eq_false q',cond_false,decide_eq_false (by omega),cond_false]
   have hl1:=loop_nat (body:=fn_ref21_blocks_l1 b) (fun k:Nat=>(((stm (b.2.2.2.2.2.2.take k):Nat):Int),(k:Int))) b.2.2.2.2.2.2.length (b := .inl ()) ?_ ?_
   · have hl1':loop (fn_ref21_blocks_l1 b) (0,0)=some (.inl ()):=by simpa [stm] using hl1
     rw [hl1',Option.bind_some]
     dsimp only
     rw [loop_search (body:=fn_ref21_blocks_l3 b) b.2.2.2.2.2.2 (fun x=>(blkE b x).isSome) (fun k=>(.inr (fltOf k (blkE b (b.2.2.2.2.2.2.getD k ([],0,0,0,[],[],[])))):Unit⊕Flt)) (.inl ()) ?_ ?_]
     · cases b.2.2.2.2.2.2.findIdx? (fun x=>(blkE b x).isSome) <;> rfl
     · intro k hk
       unfold fn_ref21_blocks_l3
       have e:b.2.2.2.2.2.2.getD k ([],0,0,0,[],[],[])=b.2.2.2.2.2.2[k]:=by simp [List.getD,hk]
       obtain ⟨l,_,hT'⟩:=hT _ (List.getElem_mem hk)
       have hst':=hst _ (List.getElem_mem hk)
       simp only [dlt hk,cond_true,getN hk,Option.bind_some,w64s hk (by omega:b.2.2.2.2.2.2.length≤9223372036854775807),e]
       generalize b.2.2.2.2.2.2[k]=x at *
       rw [loop_search (body:=fn_ref21_blocks_l2 b k x) x.1 (fun s=>!decide (sE b.2.2.2.1 b.2.1 s=0)) (fun j=>(.inr (.inr (.inr (sE b.2.2.2.1 b.2.1 (x.1.getD j (0,0,0,0,false)),6,(k:Int),(j:Int)))):Unit⊕(Int⊕(Unit⊕Flt)))) (.inl ()) ?_ ?_]
       · unfold blkE
         cases hf:x.1.findIdx? (fun s=>!decide (sE b.2.2.2.1 b.2.1 s=0)) with
         | some j=>rfl
         | none =>
           simp only [Option.bind_some]
           rw [show fn_ref19_Needs (x.2.1,x.2.2.1,x.2.2.2.1,x.2.2.2.2.1,x.2.2.2.2.2.1,x.2.2.2.2.2.2) (((b.2.2.2.2.2.2.length:Nat):Int),b.2.1,b.2.2.2.1,b.2.2.2.2.1,b.2.2.2.2.2.1)=_ from hT',Option.bind_some]
           by_cases q3:tE (arOf b) x.2=0
           · simp [q3]
           · simp [q3,fltOf]
       · intro j hj
         obtain ⟨l,_,hS'⟩:=hS x.1[j]
         have e2:x.1.getD j (0,0,0,0,false)=x.1[j]:=by simp [List.getD,hj]
         unfold fn_ref21_blocks_l2
         simp only [dlt hj,cond_true,getN hj,Option.bind_some,w64s hj (by omega:x.1.length≤9223372036854775807),e2,show fn_ref18_Needs (x.1[j].1,x.1[j].2.1,x.1[j].2.2.1,x.1[j].2.2.2.1,x.1[j].2.2.2.2) b.2.2.2.1 b.2.1=_ from hS']
         cases (!decide (sE b.2.2.2.1 b.2.1 x.1[j]=0)) <;> rfl
       · simp [fn_ref21_blocks_l2]
     · simp [fn_ref21_blocks_l3]
   · intro k hk
     have a1:=stm_snoc hk
     have a2:=sum_take (fun x:Blk=>x.1.length) b.2.2.2.2.2.2 (k + 1)
     have a3:stm (b.2.2.2.2.2.2.take (k + 1))≤stm b.2.2.2.2.2.2:=a2
     unfold fn_ref21_blocks_l1
     simp only [dlt hk,cond_true,getN hk,Option.bind_some,w64s hk (by omega:b.2.2.2.2.2.2.length≤9223372036854775807)]
     rw [w64 (by omega) (by omega),decide_eq_false (by omega),cond_false,a1]
     simp
   · unfold fn_ref21_blocks_l1
     simp
theorem refVCheck_eq:fn_ref21_Check b=some (vck b):=by
 unfold fn_ref21_Check vck
 rw [show fn_ref21_head b=_ from refHead_eq h,show fn_ref21_types b=_ from refTypes21_eq h,show fn_ref21_blocks b=_ from refBlocks21_eq h]
 generalize vHead b=v1
 generalize vBounds b=v2
 generalize vLoc b=v3
 generalize vRet b=v4
 generalize vSig b=v5
 generalize or0 (vBlk b) (vCode b)=v6
 simp only [Option.bind_some]
 have key:∀ a c:Flt,(cond (!decide ((or0 a c).1=0)) (some ((or0 a c).1,(or0 a c).2.1,(or0 a c).2.2.1,(or0 a c).2.2.2)) none:Option Flt)=(cond (!decide ((or0 a c).1=0)) (some (or0 a c)) none):=fun a c=>rfl
 unfold or0
 by_cases q1:v1.1=0 <;> by_cases q2:v2.1=0 <;> by_cases q3:v3.1=0 <;> by_cases q4:v4.1=0 <;> by_cases q5:v5.1=0 <;> simp [q1,q2,q3,q4,q5]
end
end
section
theorem vCode_zero {b:Bo}:(vCode b).1=0→vCode b=(0,0,0,0):=by
 unfold vCode
 cases hf:b.2.2.2.2.2.2.findIdx? (fun x=>(blkE b x).isSome) with
 | none=>intro _; rfl
 | some k =>
   obtain ⟨hk,h5,_⟩:=List.findIdx?_eq_some_iff_getElem.1 hf
   have e:b.2.2.2.2.2.2.getD k ([],0,0,0,[],[],[])=b.2.2.2.2.2.2[k]:=by simp [List.getD,hk]
   simp only [e]
   intro hz
   exfalso
   generalize b.2.2.2.2.2.2[k]=x at *
   unfold blkE at hz h5
   cases hg:x.1.findIdx? (fun s=>!decide (sE b.2.2.2.1 b.2.1 s=0)) with
   | some j =>
     obtain ⟨hj,h6,_⟩:=List.findIdx?_eq_some_iff_getElem.1 hg
     have e2:x.1.getD j (0,0,0,0,false)=x.1[j]:=by simp [List.getD,hj]
     rw [hg] at hz
     simp only [fltOf,e2] at hz
     simp [hz] at h6
   | none =>
     rw [hg] at hz h5
     by_cases q:tE (arOf b) x.2=0
     · simp [q] at h5
     · simp [q,fltOf] at hz
section
variable {b:Bo} (h:Sm b)
include h
theorem vBounds_eq:fn_valid_bounds_az b=some (vBounds b):=by
 have h1:=h.bounds
 unfold fn_valid_bounds_az vBounds
 rw [decide_eq_false (by omega),cond_false,loop_search (body:=fn_valid_bounds_az_l1 b) b.2.2.1 (bad1 b.1) (fun k=>(.inr (7,1,(k:Int),0):Unit⊕Flt)) (.inl ()) ?_ ?_]
 · cases b.2.2.1.findIdx? (bad1 b.1) <;> rfl
 · intro k hk
   unfold fn_valid_bounds_az_l1 fn_valid_bounds_1_ip0_iikkkkk fn_tick_Counter_Add_zii
   simp only [dlt hk,cond_true,getN hk,Option.bind_some,w64s hk (by omega:b.2.2.1.length≤9223372036854775807)]
   generalize b.2.2.1[k]=x
   obtain ⟨x1,x2⟩:=x
   have e (x:Int):(!((decide (0≤x))&&(decide (x < b.1))))=(decide (x < 0)||decide (b.1≤x)):=by
     by_cases p:x < 0 <;> by_cases q:b.1≤x <;> simp [p,q] <;> omega
   simp only [e,bad1]
   by_cases p1:x1 < 0 <;> by_cases p2:b.1≤x1 <;> by_cases p3:x2 < 0 <;> by_cases p4:b.1≤x2 <;> simp [p1,p2,p3,p4]
 · simp [fn_valid_bounds_az_l1]
theorem vLoc_eq:fn_valid_locals_az b=some (vLoc b):=by
 have h1:=h.locals
 have h4:=h.loc
 unfold fn_valid_locals_az vLoc
 by_cases q:b.2.2.2.1=[]
 · rw [if_pos q,q]; rfl
 · have q':¬ ((b.2.2.2.1.length:Nat):Int)=0:=fun hc=>q (List.length_eq_zero_iff.1 (by omega))
   rw [if_neg q,decide_eq_false q',cond_false,decide_eq_false (by omega),cond_false,loop_search (body:=fn_valid_locals_az_l1 b) b.2.2.2.1 (fun t=>!decide (rck b.2.1 t=0)) (fun k=>(.inr (rck b.2.1 (b.2.2.2.1.getD k []),2,(k:Int),0):Unit⊕Flt)) (.inl ()) ?_ ?_]
   · cases b.2.2.2.1.findIdx? (fun t=>!decide (rck b.2.1 t=0)) <;> rfl
   · intro k hk
     unfold fn_valid_locals_az_l1 fn_tick_Counter_Add_zii
     have e:b.2.2.2.1.getD k []=b.2.2.2.1[k]:=by simp [List.getD,hk]
     simp only [dlt hk,cond_true,getN hk,Option.bind_some,w64s hk (by omega:b.2.2.2.1.length≤9223372036854775807),e,rowCheck20 _ (h4 _ (List.getElem_mem hk))]
     cases (!decide (rck b.2.1 b.2.2.2.1[k]=0)) <;> rfl
   · simp [fn_valid_locals_az_l1]
theorem vRet_eq (hL:b.2.2.2.1≠[]):fn_valid_ret_az b=some (vRet b):=by
 have h3:=h.ret
 unfold fn_valid_ret_az vRet
 have hp:0 < b.2.2.2.1.length:=List.length_pos_iff.2 hL
 have e0:b.2.2.2.1.getD 0 []=b.2.2.2.1[0]:=by simp [List.getD,hp]
 have g0:getI b.2.2.2.1 0=some b.2.2.2.1[0]:=getN (k:=0) hp
 rw [rowCheck20 _ h3,Option.bind_some,g0,Option.bind_some,rowShape_eq _ _ (by omega),e0,Option.bind_some]
 by_cases q:rck b.1 b.2.2.2.2.1=0
 · rw [if_pos q,q]
   cases shp b.2.2.2.2.1 b.2.2.2.1[0] <;> rfl
 · rw [if_neg q,decide_eq_false q]; rfl
theorem vSig_eq:fn_valid_sigs_az b=some (vSig b):=by
 have h1:=h.sigs
 have hs:=fun s (hs:s∈b.2.2.2.2.2.1)=>sgl h hs
 unfold fn_valid_sigs_az vSig
 rw [decide_eq_false (by omega),cond_false,loop_search (body:=fn_valid_sigs_az_l1 b) b.2.2.2.2.2.1 (fun s=>!decide (chk s=0)) (fun k=>(.inr (chk (b.2.2.2.2.2.1.getD k (0,[],[],[])),4,(k:Int),0):Unit⊕Flt)) (.inl ()) ?_ ?_]
 · cases b.2.2.2.2.2.1.findIdx? (fun s=>!decide (chk s=0)) <;> rfl
 · intro k hk
   unfold fn_valid_sigs_az_l1 fn_tick_Counter_Add_zii
   have e:b.2.2.2.2.2.1.getD k (0,[],[],[])=b.2.2.2.2.2.1[k]:=by simp [List.getD,hk]
   have hs':=hs _ (List.getElem_mem hk)
   simp only [dlt hk,cond_true,getN hk,Option.bind_some,w64s hk (by omega:b.2.2.2.2.2.1.length≤9223372036854775807),e,show fn_sig_Check (b.2.2.2.2.2.1[k].1,b.2.2.2.2.2.1[k].2.1,b.2.2.2.2.2.1[k].2.2.1,b.2.2.2.2.2.1[k].2.2.2)=_ from hs']
   cases (!decide (chk b.2.2.2.2.2.1[k]=0)) <;> rfl
 · simp [fn_valid_sigs_az_l1]
theorem vBlk_eq:fn_valid_blocks_az b=some (vBlk b):=by
 have h1:=h.blocks
 have h2:=h.many
 unfold fn_valid_blocks_az vBlk
 by_cases q:b.2.2.2.2.2.2=[]
 · rw [if_pos q,q]; rfl
 · have q':¬ ((b.2.2.2.2.2.2.length:Nat):Int)=0:=fun hc=>q (List.length_eq_zero_iff.1 (by omega))
   rw [if_neg q,decide_eq_false q',cond_false,decide_eq_false (by omega),cond_false]
   have hl1:=loop_nat (body:=fn_valid_blocks_az_l1 b) (fun k:Nat=>(((stm (b.2.2.2.2.2.2.take k):Nat):Int),(k:Int))) b.2.2.2.2.2.2.length (b := .inl ()) ?_ ?_
   · have hl1':loop (fn_valid_blocks_az_l1 b) (0,0)=some (.inl ()):=by simpa [stm] using hl1
     rw [hl1']; rfl
   · intro k hk
     have a1:=stm_snoc hk
     have a2:=sum_take (fun x:Blk=>x.1.length) b.2.2.2.2.2.2 (k + 1)
     have a3:stm (b.2.2.2.2.2.2.take (k + 1))≤stm b.2.2.2.2.2.2:=a2
     unfold fn_valid_blocks_az_l1 fn_tick_Counter_Add_zii
     simp only [dlt hk,cond_true,getN hk,Option.bind_some,w64s hk (by omega:b.2.2.2.2.2.2.length≤9223372036854775807)]
     rw [w64 (by omega) (by omega),decide_eq_false (by omega),cond_false,a1]
     simp
   · unfold fn_valid_blocks_az_l1
     simp
theorem vCode_eq:fn_valid_code_az b=some (vCode b):=by
 have h1:=h.blocks
 have hst:=fun x (hx:x∈b.2.2.2.2.2.2)=>h.stmts hx
 have hT:=fun x (hx:x∈b.2.2.2.2.2.2)=>termE h hx
 have hS:=fun x=>stmtE h (x:=x)
 unfold fn_valid_code_az vCode
 rw [loop_search (body:=fn_valid_code_az_l2 b) b.2.2.2.2.2.2 (fun x=>(blkE b x).isSome) (fun k=>(.inr (fltOf k (blkE b (b.2.2.2.2.2.2.getD k ([],0,0,0,[],[],[])))):Unit⊕Flt)) (.inl ()) ?_ ?_]
 · cases b.2.2.2.2.2.2.findIdx? (fun x=>(blkE b x).isSome) <;> rfl
 · intro k hk
   unfold fn_valid_code_az_l2
   have e:b.2.2.2.2.2.2.getD k ([],0,0,0,[],[],[])=b.2.2.2.2.2.2[k]:=by simp [List.getD,hk]
   obtain ⟨l,hT',_⟩:=hT _ (List.getElem_mem hk)
   have hst':=hst _ (List.getElem_mem hk)
   simp only [dlt hk,cond_true,getN hk,Option.bind_some,w64s hk (by omega:b.2.2.2.2.2.2.length≤9223372036854775807),e]
   generalize b.2.2.2.2.2.2[k]=x at *
   rw [loop_search (body:=fn_valid_code_az_l1 b k x) x.1 (fun s=>!decide (sE b.2.2.2.1 b.2.1 s=0)) (fun j=>(.inr (.inr (.inr (sE b.2.2.2.1 b.2.1 (x.1.getD j (0,0,0,0,false)),6,(k:Int),(j:Int)))):Unit⊕(Int⊕(Unit⊕Flt)))) (.inl ()) ?_ ?_]
   · unfold blkE
     cases hf:x.1.findIdx? (fun s=>!decide (sE b.2.2.2.1 b.2.1 s=0)) with
     | some j=>rfl
     | none =>
       simp only [Option.bind_some]
       unfold fn_tick_Counter_Add_zii fn_term_Check
       rw [Option.bind_some,show fn_term_Needs (x.2.1,x.2.2.1,x.2.2.2.1,x.2.2.2.2.1,x.2.2.2.2.2.1,x.2.2.2.2.2.2) (((b.2.2.2.2.2.2.length:Nat):Int),b.2.1,b.2.2.2.1,b.2.2.2.2.1,b.2.2.2.2.2.1)=_ from hT',Option.bind_some]
       by_cases q3:tE (arOf b) x.2=0
       · simp [q3]
       · simp [q3,fltOf]
   · intro j hj
     obtain ⟨l,hS',_⟩:=hS x.1[j]
     have e2:x.1.getD j (0,0,0,0,false)=x.1[j]:=by simp [List.getD,hj]
     unfold fn_valid_code_az_l1 fn_tick_Counter_Add_zii fn_stmt_Check
     simp only [dlt hj,cond_true,getN hj,Option.bind_some,w64s hj (by omega:x.1.length≤9223372036854775807),e2,show fn_stmt_Needs (x.1[j].1,x.1[j].2.1,x.1[j].2.2.1,x.1[j].2.2.2.1,x.1[j].2.2.2.2) b.2.2.2.1 b.2.1=_ from hS']
     cases (!decide (sE b.2.2.2.1 b.2.1 x.1[j]=0)) <;> rfl
   · simp [fn_valid_code_az_l1]
 · simp [fn_valid_code_az_l2]
theorem validCheck_eq:fn_valid_Check_az b=some (vck b):=by
 unfold fn_valid_Check_az vck fn_tick_Counter_Add_zii
 have hh:fn_valid_head_az b=some (vHead b):=by
   unfold fn_valid_head_az vHead
   by_cases q:b.1 < 1∨b.2.1 < b.1
   · have:(decide (b.1 < 1)||decide (b.2.1 < b.1))=true:=by simpa using q
     rw [this,if_pos q]; rfl
   · have:(decide (b.1 < 1)||decide (b.2.1 < b.1))=false:=by simpa using q
     rw [this,if_neg q,cond_false]
     by_cases q2:65536 < b.2.1
     · rw [decide_eq_true q2,if_pos q2]; rfl
     · rw [decide_eq_false q2,if_neg q2]; rfl
 rw [Option.bind_some,show fn_valid_head_az b=_ from hh,show fn_valid_bounds_az b=_ from vBounds_eq h,show fn_valid_locals_az b=_ from vLoc_eq h,
   show fn_valid_sigs_az b=_ from vSig_eq h,show fn_valid_blocks_az b=_ from vBlk_eq h,show fn_valid_code_az b=_ from vCode_eq h]
 have hret:(vLoc b).1=0→fn_valid_ret_az b=some (vRet b):=by
   intro hz
   refine vRet_eq h (fun hc=>?_)
   unfold vLoc at hz
   rw [if_pos hc] at hz; cases hz
 have hz6:(vCode b).1=0→vCode b=(0,0,0,0):=vCode_zero
 generalize vHead b=v1
 generalize vBounds b=v2
 generalize vLoc b=v3 at *
 generalize vRet b=v4 at *
 generalize vSig b=v5
 generalize vBlk b=v6
 generalize vCode b=v7 at *
 unfold or0
 by_cases q1:v1.1=0 <;> by_cases q2:v2.1=0 <;> by_cases q3:v3.1=0 <;> by_cases q4:v4.1=0 <;> by_cases q5:v5.1=0 <;> by_cases q6:v6.1=0 <;> by_cases q7:v7.1=0 <;> simp_all
end
end
theorem tE_ret {a:Ar} {t:List St} {L:List (List St)} (h:a.2.2.1=t :: L) (hs:shp t a.2.2.2.1=true) (ht:t.length≤20):tE a (3,0,0,[],[],[])=0:=by
 unfold tE
 have:∃ l,fn_ref19_Needs (3,0,0,[],[],[]) a=some (l,0):=by
   unfold fn_ref19_Needs
   rw [show fn_ref19_Form ((3:Int),0,0,[],[],[])=_ from refTForm_eq (3,0,0,[],[],[])]
   simp only [refWithin_eq _ _ (show ([]:List Int).length≤1000 by simp)]
   have h0:getI a.2.2.1 0=some t:=by rw [h]; rfl
   have h1:¬ ((a.2.2.1.length:Nat):Int)=0:=by rw [h]; simp; omega
   have h2:¬ a.2.2.1=[]:=by rw [h]; simp
   rw [h0]
   simp only [Option.bind_some]
   rw [refFlow_eq t a.2.2.2.1 7 0 (by omega) (by decide) (by decide),hs]
   refine ⟨rel 7 0 t a.2.2.2.1,?_⟩
   have e1:tForm (3,0,0,[],[],[])=0:=by decide
   have e2:∀ n,bad n []=false:=fun n=>rfl
   simp [e1,e2,h1,h2]
 obtain ⟨l,hl⟩:=this
 rw [hl]; rfl
def bg (X:List Blk) (k:Nat):Nat:=stm (X.take k) + k
theorem bg_succ {X:List Blk} {k:Nat} (hk:k < X.length):bg X (k + 1)=bg X k + X[k].1.length + 1:=by
 unfold bg; rw [stm_snoc hk]; omega
theorem bg_mono (X:List Blk) {i j:Nat} (h:i≤j) (hj:j≤X.length):bg X i≤bg X j:=by
 induction j with
 | zero => have : i = 0 := by omega
           subst this; exact Nat.le_refl _
 | succ j ih =>
   by_cases q:i=j + 1
   · subst q; exact Nat.le_refl _
   · have:=ih (by omega) (by omega)
     rw [bg_succ (by omega)]; omega
theorem bg_lt (X:List Blk) {i j:Nat} (h:i < j) (hj:j≤X.length):bg X i < bg X j:=by
 have h1:=bg_mono X (i:=i + 1) (j:=j) h hj
 have h2:=bg_succ (X:=X) (k:=i) (by omega)
 omega
def bgs (X:List Blk):List Int:=(List.range X.length).map fun k=>((bg X k:Nat):Int)
theorem bgs_len (X:List Blk):(bgs X).length=X.length:=by simp [bgs]
theorem bgs_get (X:List Blk) {k:Nat} (hk:k < X.length):getI (bgs X) (k:Int)=some ((bg X k:Nat):Int):=by
 rw [getN (by rw [bgs_len]; exact hk)]; simp [bgs]
def prow (i n:Nat):List (Int×Int×Bool):=(List.range (n + 1)).map fun (k:Nat)=>((i:Int),(k:Int),decide (k=n))
def allN (X:List Blk):Nat→List (Int×Int×Bool)
 | 0=>[]
 | i + 1=>allN X i++prow i (X.getD i ([],0,0,0,[],[],[])).1.length
theorem getD_eq {α:Type} {l:List α} {k:Nat} {d:α} (hk:k < l.length):l.getD k d=l[k]:=by simp [List.getD,hk]
theorem allN_len (X:List Blk):∀ i,i≤X.length→(allN X i).length=bg X i
 | 0,_=>by simp [allN,bg,stm]
 | i + 1,h=>by
   have ih:=allN_len X i (by omega)
   rw [bg_succ (by omega)]
   simp only [allN,List.length_append,ih,prow,List.length_map,List.length_range,getD_eq (show i < X.length by omega)]; omega
theorem allN_get (X:List Blk):∀ i,i≤X.length→∀ j k,j < i→(hj:j < X.length)→k≤X[j].1.length→(allN X i)[bg X j + k]? = some ((j:Int),(k:Int),decide (k=X[j].1.length))
 | 0,_,j,k,h,_,_=>by omega
 | i + 1,h,j,k,hji,hj,hk=>by
   have hl:=allN_len X i (by omega)
   unfold allN
   by_cases q:j=i
   · subst q
     rw [List.getElem?_append_right (by omega),hl,Nat.add_sub_cancel_left,getD_eq hj]
     unfold prow
     rw [List.getElem?_map,List.getElem?_range (by omega)]; rfl
   · have h1:=bg_mono X (i:=j + 1) (j:=i) (by omega) (by omega)
     rw [bg_succ hj] at h1
     rw [List.getElem?_append_left (by omega)]
     exact allN_get X i (by omega) j k (by omega) hj hk
abbrev alls (X:List Blk):List (Int×Int×Bool):=allN X X.length
theorem alls_len (X:List Blk):(alls X).length=bg X X.length:=allN_len X _ (Nat.le_refl _)
theorem alls_get (X:List Blk) {j k:Nat} (hj:j < X.length) (hk:k≤X[j].1.length):(alls X)[bg X j + k]? = some ((j:Int),(k:Int),decide (k=X[j].1.length)):=allN_get X _ (Nat.le_refl _) j k hj hj hk
theorem locate (X:List Blk):∀ i,i≤X.length→∀ n,n < bg X i→∃ j k,∃ hj:j < X.length,k≤X[j].1.length∧n=bg X j + k∧j < i
 | 0,_,n,h=>by simp [bg,stm] at h
 | i + 1,h,n,hn=>by
   rw [bg_succ (show i < X.length by omega)] at hn
   by_cases q:n < bg X i
   · obtain ⟨j,k,hj,h1,h2,h3⟩:=locate X i (by omega) n q
     exact ⟨j,k,hj,h1,h2,by omega⟩
   · exact ⟨i,n - bg X i,by omega,by omega,by omega,by omega⟩
theorem bg_bound {b:Bo} (h:Sm b) {k:Nat} (hk:k≤b.2.2.2.2.2.2.length):bg b.2.2.2.2.2.2 k≤32:=by
 have a2:=sum_take (fun x:Blk=>x.1.length) b.2.2.2.2.2.2 k
 have a3:stm (b.2.2.2.2.2.2.take k)≤stm b.2.2.2.2.2.2:=a2
 have:=h.many
 have:=h.blocks
 unfold bg; omega
noncomputable def xs (b:Bo):List Blk:=if (vck b).1=0 then b.2.2.2.2.2.2 else []
theorem xs_bound {b:Bo} (h:Sm b) {k:Nat} (hk:k≤(xs b).length):bg (xs b) k≤32∧(xs b).length≤8:=by
 unfold xs at *
 split
 · rename_i q; rw [if_pos q] at hk; exact ⟨bg_bound h hk,h.blocks⟩
 · rename_i q; rw [if_neg q] at hk
   obtain rfl:k=0:=by simpa using hk
   simp [bg,stm]
theorem pointNew_eq {b:Bo} (h:Sm b):fn_point_New b=some (some (bgs (xs b),((bg (xs b) (xs b).length:Nat):Int))):=by
 unfold fn_point_New fn_valid_OK
 rw [show fn_valid_Check_az b=_ from validCheck_eq h]
 simp only [Option.bind_some]
 unfold xs
 by_cases q:(vck b).1=0
 · have h1:=h.blocks
   rw [decide_eq_true q,Bool.not_true,cond_false,if_pos q]
   have hl:=loop_nat (body:=fn_point_New_l1 b) (fun k:Nat=>((k:Int),(List.range k).map (fun i=>((bg b.2.2.2.2.2.2 i:Nat):Int)),((bg b.2.2.2.2.2.2 k:Nat):Int))) b.2.2.2.2.2.2.length (b:=(bgs b.2.2.2.2.2.2,((bg b.2.2.2.2.2.2 b.2.2.2.2.2.2.length:Nat):Int))) ?_ ?_
   · have hl':loop (fn_point_New_l1 b) (0,[],0)=some (bgs b.2.2.2.2.2.2,((bg b.2.2.2.2.2.2 b.2.2.2.2.2.2.length:Nat):Int)):=by simpa [bg,stm] using hl
     rw [hl']; rfl
   · intro k hk
     have a1:=bg_bound h (k:=k) (by omega)
     have a2:=bg_bound h (k:=k + 1) (by omega)
     have a3:=bg_succ hk
     unfold fn_point_New_l1
     simp only [dlt hk,cond_true,getN hk,Option.bind_some]
     rw [app_eq (by simp; omega),Option.bind_some,w64s hk (by omega),w64 (x:=((b.2.2.2.2.2.2[k].1.length:Nat):Int) + 1) (by omega) (by omega),w64 (by omega) (by omega),a3,List.range_succ,List.map_append]
     simp only [Option.some.injEq,Sum.inl.injEq,Prod.mk.injEq,true_and,List.map_cons,List.map_nil]
     omega
   · unfold fn_point_New_l1
     simp [bgs]
 · rw [decide_eq_false q,if_neg q]; rfl
theorem refAll_eq {b:Bo} (h:Sm b):fn_ref22_All b=some (alls (xs b)):=by
 unfold fn_ref22_All fn_ref21_OK
 rw [show fn_ref21_Check b=_ from refVCheck_eq h]
 simp only [Option.bind_some]
 unfold xs
 by_cases q:(vck b).1=0
 · have h1:=h.blocks
   rw [decide_eq_true q,Bool.not_true,cond_false,if_pos q]
   have hl:=loop_nat (body:=fn_ref22_All_l2 b) (fun k:Nat=>(allN b.2.2.2.2.2.2 k,(k:Int))) b.2.2.2.2.2.2.length (b:=alls b.2.2.2.2.2.2) ?_ ?_
   · rw [show loop (fn_ref22_All_l2 b) ([],0)=_ from hl]; rfl
   · intro k hk
     have a1:=bg_bound h (k:=k) (by omega)
     have a2:=bg_bound h (k:=k + 1) (by omega)
     have a3:=bg_succ hk
     have a4:=allN_len b.2.2.2.2.2.2 k (by omega)
     unfold fn_ref22_All_l2
     simp only [dlt hk,cond_true,getN hk,Option.bind_some]
     have hin:=loop_nat (body:=fn_ref22_All_l1 (k:Int) b.2.2.2.2.2.2[k]) (fun j:Nat=>(allN b.2.2.2.2.2.2 k++(List.range j).map (fun (i:Nat)=>((k:Int),(i:Int),decide (i=b.2.2.2.2.2.2[k].1.length))),(j:Int))) (b.2.2.2.2.2.2[k].1.length + 1) (b:=allN b.2.2.2.2.2.2 k++prow k b.2.2.2.2.2.2[k].1.length) ?_ ?_
     · have hin':loop (fn_ref22_All_l1 (k:Int) b.2.2.2.2.2.2[k]) (allN b.2.2.2.2.2.2 k,0)=some (allN b.2.2.2.2.2.2 k++prow k b.2.2.2.2.2.2[k].1.length):=by simpa using hin
       rw [hin',Option.bind_some,w64s hk (by omega)]
       simp only [allN,getD_eq hk]
     · intro j hj
       unfold fn_ref22_All_l1
       dsimp only
       rw [decide_eq_true (by omega),cond_true,app_eq (by simp; omega),Option.bind_some,w64 (by omega) (by omega),List.range_succ,List.map_append]
       have e:decide ((j:Int)=((b.2.2.2.2.2.2[k].1.length:Nat):Int))=decide (j=b.2.2.2.2.2.2[k].1.length):=by
         by_cases c:j=b.2.2.2.2.2.2[k].1.length <;> simp [c] <;> omega
       rw [e]
       simp
     · unfold fn_ref22_All_l1
       dsimp only
       rw [decide_eq_false (by omega)]
       rfl
   · unfold fn_ref22_All_l2
     simp
 · rw [decide_eq_false q,if_neg q]; rfl
theorem mid_eq {a c:Nat} (h:a + c≤1000000):IntKind.wrap .i64 (Int.fdiv (IntKind.wrap .u64 (IntKind.wrap .i64 ((a:Int) + (c:Int)))) (2 ^ (min (Int.toNat 1) (IntKind.bits .u64))))=(((a + c) / 2:Nat):Int):=by
 have e1:IntKind.wrap .i64 ((a:Int) + (c:Int))=((a + c:Nat):Int):=by rw [w64 (by omega) (by omega)]; omega
 have e2:IntKind.wrap .u64 ((a + c:Nat):Int)=((a + c:Nat):Int):=by
   show ((a + c:Nat):Int) % 2 ^ 64=_
   omega
 have e3:(2:Int) ^ (min (Int.toNat 1) (IntKind.bits .u64))=2:=by decide
 rw [e1,e2,e3,Int.fdiv_eq_ediv_of_nonneg _ (by omega),w64 (by omega) (by omega)]
 omega
theorem search_eq {X:List Blk} (hX:X.length≤1000) {t:Int} {j k:Nat} (hj:j < X.length) (hk:k≤X[j].1.length) {n:Nat} (hn:n=bg X j + k) :
   fn_sort_Search_i_point_Points_At_1_p0p1_kp_i ((X.length:Nat):Int) (some (bgs X,t)) (n:Int)=some ((j + 1:Nat):Int):=by
 unfold fn_sort_Search_i_point_Points_At_1_p0p1_kp_i
 have pr:∀ i,i < X.length→(n < bg X i↔j < i):=by
   intro i hi
   constructor
   · intro h
     by_cases q:j < i
     · exact q
     · have:=bg_mono X (i:=i) (j:=j) (by omega) (by omega); omega
   · intro h
     have h1:=bg_mono X (i:=j + 1) (j:=i) h (by omega)
     rw [bg_succ hj] at h1; omega
 have key:=loop_inv (body:=fn_sort_Search_i_point_Points_At_1_p0p1_kp_i_l1 (some (bgs X,t)) (n:Int)) (fun s:Int×Int=>∃ a c:Nat,s=((a:Int),(c:Int))∧a≤j + 1∧j + 1≤c∧c≤X.length) (fun s=>(s.2 - s.1).toNat) (Q:=fun r=>r=((j + 1:Nat):Int)) ?_ (s:=(0,((X.length:Nat):Int))) ⟨0,X.length,rfl,by omega,by omega,by omega⟩
 · obtain ⟨r,h1,h2⟩:=key
   rw [h1,h2]; rfl
 · rintro _ ⟨a,c,rfl,h1,h2,h3⟩
   unfold fn_sort_Search_i_point_Points_At_1_p0p1_kp_i_l1 fn_point_Points_At_1_ip0p1_kp_i
   dsimp only
   by_cases q:a < c
   · have hm:(a + c) / 2 < X.length:=by omega
     simp only [dlt q,cond_true,mid_eq (show a + c≤1000000 by omega),Option.bind_some,bgs_get X hm]
     by_cases q2:j < (a + c) / 2
     · have:=(pr _ hm).2 q2
       rw [decide_eq_true (by omega),Bool.not_true,cond_false]
       refine .inl ⟨_,rfl,⟨a,(a + c) / 2,rfl,h1,by omega,by omega⟩,by dsimp only; omega⟩
     · have:¬ n < bg X ((a + c) / 2):=fun hc=>q2 ((pr _ hm).1 hc)
       rw [decide_eq_false (by omega),Bool.not_false,cond_true,w64 (by omega) (by omega)]
       refine .inl ⟨_,rfl,⟨(a + c) / 2 + 1,c,rfl,by omega,h2,h3⟩,by dsimp only; omega⟩
   · rw [decide_eq_false (by omega),cond_false]
     exact .inr ⟨_,rfl,by omega⟩
theorem at_eq {X:List Blk} (hX:X.length≤1000) (hb:bg X X.length≤100000) {j k:Nat} (hj:j < X.length) (hk:k≤X[j].1.length) :
   fn_point_Points_At (some (bgs X,((bg X X.length:Nat):Int))) ((bg X j + k:Nat):Int)=some ((j:Int),(k:Int),true):=by
 have h1:=bg_mono X (i:=j + 1) (j:=X.length) hj (Nat.le_refl _)
 rw [bg_succ hj] at h1
 unfold fn_point_Points_At fn_point_Points_Len
 rw [decide_eq_false (by omega),cond_false]
 simp only [Option.isNone_some,cond_false,Option.bind_some]
 rw [decide_eq_false (by omega),cond_false,bgs_len,search_eq hX hj hk rfl,Option.bind_some,w64 (by omega) (by omega),show ((j + 1:Nat):Int) - 1=(j:Int) by omega,bgs_get X hj,Option.bind_some,w64 (by omega) (by omega)]
 simp only [Option.some.injEq,Prod.mk.injEq,true_and,and_true]
 omega
theorem end_eq {X:List Blk} (hX:X.length≤1000) {j:Nat} (hj:j < X.length):fn_point_Points_end (some (bgs X,((bg X X.length:Nat):Int))) (j:Int)=some ((bg X (j + 1):Nat):Int):=by
 unfold fn_point_Points_end
 rw [Option.bind_some,w64 (by omega) (by omega)]
 dsimp only
 rw [bgs_len]
 by_cases q:j + 1 < X.length
 · rw [decide_eq_true (by omega),cond_true,show (j:Int) + 1=((j + 1:Nat):Int) by omega,bgs_get X q]; rfl
 · have:j + 1=X.length:=by omega
   rw [decide_eq_false (by omega),cond_false,this]
theorem ends_eq {X:List Blk} (hX:X.length≤1000) (hb:bg X X.length≤100000) {j k:Nat} (hj:j < X.length) (hk:k≤X[j].1.length) :
   fn_point_Points_Ends (some (bgs X,((bg X X.length:Nat):Int))) ((bg X j + k:Nat):Int)=some (decide (k=X[j].1.length)):=by
 have h1:=bg_mono X (i:=j + 1) (j:=X.length) hj (Nat.le_refl _)
 have h2:=bg_succ hj
 unfold fn_point_Points_Ends
 rw [at_eq hX hb hj hk]
 simp only [Option.bind_some,cond_true,end_eq hX hj,w64 (x:=((bg X j + k:Nat):Int) + 1) (by omega) (by omega)]
 congr 1
 by_cases c:k=X[j].1.length
 · rw [decide_eq_true c,decide_eq_true (by omega)]
 · rw [decide_eq_false c,decide_eq_false (by omega)]
theorem refOf_eq {X:List Blk} (hb:bg X X.length≤100000) {j k:Nat} (hj:j < X.length) (hk:k≤X[j].1.length):fn_ref22_Of (alls X) (j:Int) (k:Int)=some (((bg X j + k:Nat):Int),true):=by
 have h1:=bg_mono X (i:=j + 1) (j:=X.length) hj (Nat.le_refl _)
 have h2:=bg_succ hj
 have hl:=alls_len X
 unfold fn_ref22_Of
 have key:=loop_find (body:=fn_ref22_Of_l1 (alls X) (j:Int) (k:Int)) (fun n=>n=bg X j + k) (fun n:Nat=>(n:Int)) (alls X).length (fun n => .inr ((n:Int),true)) (.inl ()) ?_ ?_ ?_
 · rcases key with ⟨n,_,rfl,_,h4⟩ | ⟨h3,_⟩
   · rw [show (0:Int)=((0:Nat):Int) from rfl,h4]; rfl
   · exact absurd rfl (h3 (bg X j + k) (by omega))
 · intro n hn hp
   obtain ⟨i,m,hi,hm,rfl,_⟩:=locate X X.length (Nat.le_refl _) n (by omega)
   have hg:=alls_get X hi hm
   rw [List.getElem?_eq_getElem hn] at hg
   unfold fn_ref22_Of_l1
   simp only [dlt hn,cond_true,getN hn,Option.bind_some,Option.some.inj hg,w64s hn (by omega:(alls X).length≤9223372036854775807)]
   by_cases c1:i=j
   · subst c1
     have c2:¬ m=k:=fun e=>hp (by rw [e])
     have:¬ (m:Int)=(k:Int):=by omega
     simp [this]
   · have:¬ (i:Int)=(j:Int):=by omega
     simp [this]
 · rintro n hn rfl
   have hg:=alls_get X hj hk
   rw [List.getElem?_eq_getElem hn] at hg
   unfold fn_ref22_Of_l1
   simp only [dlt hn,cond_true,getN hn,Option.bind_some,Option.some.inj hg]
   simp
 · unfold fn_ref22_Of_l1; simp
theorem strict_eq:∀ {xs ys:List Int},xs.Pairwise (· < ·)→ys.Pairwise (· < ·)→(∀ a,a∈xs↔a∈ys)→xs=ys
 | [],[],_,_,_=>rfl
 | [],y :: ys,_,_,h=>by have:=(h y).2 (by simp); simp at this
 | x :: xs,[],_,_,h=>by have:=(h x).1 (by simp); simp at this
 | x :: xs,y :: ys,hx,hy,h=>by
   obtain ⟨hx1,hx2⟩:=List.pairwise_cons.1 hx
   obtain ⟨hy1,hy2⟩:=List.pairwise_cons.1 hy
   have e:x=y:=by
     have h1:=(h x).1 (by simp)
     have h2:=(h y).2 (by simp)
     rcases List.mem_cons.1 h1 with h1 | h1
     · exact h1
     · rcases List.mem_cons.1 h2 with h2 | h2
       · exact h2.symm
       · have:=hy1 x h1; have:=hx1 y h2; omega
   subst e
   rw [strict_eq hx2 hy2 (fun a=>?_)]
   constructor
   · intro ha
     rcases List.mem_cons.1 ((h a).1 (by simp [ha])) with e | e
     · subst e; have:=hx1 a ha; omega
     · exact e
   · intro ha
     rcases List.mem_cons.1 ((h a).2 (by simp [ha])) with e | e
     · subst e; have:=hy1 a ha; omega
     · exact e
theorem compactUpTo_sorted {zs:List Int} (hs:zs.Pairwise (·≤·)):∀ m,m≤zs.length→(Lib.compactUpTo zs.toArray m).Pairwise (· < ·)∧∀ a,a∈Lib.compactUpTo zs.toArray m↔a∈zs.take m
 | 0,_=>by simp [Lib.compactUpTo]
 | m + 1,h=>by
   obtain ⟨h1,h2⟩:=compactUpTo_sorted hs m (by omega)
   have hm:m < zs.length:=by omega
   have e:zs.toArray[m]! = zs[m]:=by simp [getElem!_pos,hm]
   rw [Lib.compactUpTo_succ,e]
   have htk:zs.take (m + 1)=zs.take m++[zs[m]]:=List.take_succ_eq_append_getElem hm
   have hle:∀ a∈zs.take m,a≤zs[m]:=by
     intro a ha
     have:=hs.sublist (List.take_sublist (m + 1) zs)
     rw [htk] at this
     exact (List.pairwise_append.1 this).2.2 a ha _ (by simp)
   rw [htk]
   cases hk:Lib.keeps zs.toArray m with
   | false =>
     simp only [Bool.false_eq_true,if_false,List.append_nil]
     refine ⟨h1,fun a=>?_⟩
     rw [h2,List.mem_append]
     have hm0:m≠0:=by rintro rfl; simp [Lib.keeps] at hk
     have he:zs.toArray[m]! = zs.toArray[m - 1]!:=by
       simp [Lib.keeps,hm0] at hk; simpa using hk
     have hp:m - 1 < zs.length:=by omega
     have e2:zs.toArray[m - 1]! = zs[m - 1]:=by simp [getElem!_pos,hp]
     rw [e,e2] at he
     constructor
     · exact .inl
     · rintro (h | h)
       · exact h
       · simp at h; rw [h,he]
         exact List.mem_take_iff_getElem.2 ⟨m - 1,by omega,rfl⟩
   | true =>
     simp only [if_true]
     refine ⟨List.pairwise_append.2 ⟨h1,by simp,fun a ha b hb=>?_⟩,fun a=>by rw [List.mem_append,List.mem_append,h2]⟩
     simp at hb; subst hb
     have ha':=(h2 a).1 ha
     have hle':=hle a ha'
     rcases Int.lt_or_eq_of_le hle' with h | h
     · exact h
     · exfalso
       obtain ⟨j,hj,rfl⟩:=List.mem_take_iff_getElem.1 ha'
       have hm0:m≠0:=by omega
       have hp:m - 1 < zs.length:=by omega
       have e2:zs.toArray[m - 1]! = zs[m - 1]:=by simp [getElem!_pos,hp]
       simp only [Lib.keeps,e,e2] at hk
       simp [hm0] at hk
       have a1:zs[j]≤zs[m - 1]:=by
         rcases Nat.lt_or_ge j (m - 1) with q | q
         · exact List.pairwise_iff_getElem.1 hs j (m - 1) _ _ q
         · have:j=m - 1:=by omega
           subst this; exact Int.le_refl _
       have a2:zs[m - 1]≤zs[m]:=List.pairwise_iff_getElem.1 hs (m - 1) m _ _ (by omega)
       omega
theorem compact_sorted {zs:List Int} (hs:zs.Pairwise (·≤·)):(Lib.compact zs).Pairwise (· < ·)∧∀ a,a∈Lib.compact zs↔a∈zs:=by
 have:=compactUpTo_sorted hs zs.length (Nat.le_refl _)
 rw [List.take_length] at this
 exact this
section
theorem getI_map {α:Type} {m j:Nat} {f:Nat→α} (h:j < m):getI ((List.range m).map f) (j:Int)=some (f j):=by
 rw [getN (by simpa using h)]; simp
theorem set_map {α:Type} {m j:Nat} {f:Nat→α} {y:α}:((List.range m).map f).set j y=(List.range m).map (fun v=>if v=j then y else f v):=by
 apply List.ext_getElem
 · simp
 · intro i h1 h2
   simp only [List.getElem_set,List.getElem_map,List.getElem_range]
   by_cases h:j=i
   · subst h; simp
   · simp [h,Ne.symm h]
theorem map_congr_range {α:Type} {m:Nat} {f g:Nat→α} (h:∀ v,v < m→f v=g v):(List.range m).map f=(List.range m).map g:=List.map_congr_left fun v hv=>h v (List.mem_range.1 hv)
theorem replicate_map {α:Type} (m:Nat) (z:α):List.replicate m z=(List.range m).map (fun _=>z):=by
 apply List.ext_getElem <;> simp
def cnt (ks:List Nat) (v:Nat):Nat:=ks.countP (fun x=>decide (x=v))
def ltc (ks:List Nat) (v:Nat):Nat:=ks.countP (fun x=>decide (x < v))
theorem ltc_zero (ks:List Nat):ltc ks 0=0:=by simp [ltc]
theorem ltc_succ (ks:List Nat) (v:Nat):ltc ks (v + 1)=ltc ks v + cnt ks v:=by
 unfold ltc cnt
 induction ks with
 | nil=>rfl
 | cons x ks ih =>
   rw [List.countP_cons,List.countP_cons,List.countP_cons,ih]
   by_cases h:x < v
   · simp [h,show x < v + 1 by omega,show ¬ x=v by omega]; omega
   · by_cases h2:x=v
     · simp [h2]; omega
     · simp [h,h2,show ¬ x < v + 1 by omega]
theorem ltc_mono (ks:List Nat) {v w:Nat} (h:v≤w):ltc ks v≤ltc ks w:=by
 unfold ltc; apply List.countP_mono_left; intro x _; simp; omega
theorem ltc_le (ks:List Nat) (v:Nat):ltc ks v≤ks.length:=List.countP_le_length
theorem cnt_le (ks:List Nat) (v:Nat):cnt ks v≤ks.length:=List.countP_le_length
theorem cnt_take {ks:List Nat} {k:Nat} (h:k < ks.length) (v:Nat):cnt (ks.take (k + 1)) v=cnt (ks.take k) v + (if ks[k]=v then 1 else 0):=by
 unfold cnt; rw [take_snoc h,List.countP_append]; simp [List.countP_cons]
theorem cnt_take_le (ks:List Nat) (k v:Nat):cnt (ks.take k) v≤cnt ks v:=by
 unfold cnt
 conv=>rhs; rw [← List.take_append_drop k ks,List.countP_append]
 omega
theorem cnt_take_lt {ks:List Nat} {k:Nat} (h:k < ks.length):cnt (ks.take k) ks[k] < cnt ks ks[k]:=by
 have:=cnt_take_le ks (k + 1) ks[k]
 rw [cnt_take h] at this
 simp at this; omega
def pos (ks:List Nat) (i:Nat):Nat:=ltc ks (ks.getD i 0) + cnt (ks.take i) (ks.getD i 0)
theorem pos_lt {ks:List Nat} {i:Nat} (h:i < ks.length):pos ks i < ltc ks (ks[i] + 1):=by
 have:=cnt_take_lt h
 unfold pos; rw [ltc_succ]
 simp [h]; omega
theorem pos_ge {ks:List Nat} {i:Nat} (h:i < ks.length):ltc ks ks[i]≤pos ks i:=by unfold pos; simp [h]
theorem pos_lt_len {ks:List Nat} {i:Nat} (h:i < ks.length):pos ks i < ks.length:=Nat.lt_of_lt_of_le (pos_lt h) (ltc_le _ _)
theorem pos_inj {ks:List Nat} {i j:Nat} (hi:i < j) (hj:j < ks.length):pos ks i≠pos ks j:=by
 have hi':i < ks.length:=by omega
 rcases Nat.lt_trichotomy ks[i] ks[j] with h | h | h
 · have:=pos_lt hi'; have:=pos_ge hj; have:=ltc_mono ks (v:=ks[i] + 1) (w:=ks[j]) (by omega); omega
 · have h1:=cnt_take hi' ks[j]
   have h2:cnt (ks.take (i + 1)) ks[j]≤cnt (ks.take j) ks[j]:=by
     have:=cnt_take_le (ks.take j) (i + 1) ks[j]
     rw [List.take_take,Nat.min_eq_left (by omega)] at this; exact this
   unfold pos; simp [hi',hj,h] at h1 ⊢; omega
 · have:=pos_lt hj; have:=pos_ge hi'; have:=ltc_mono ks (v:=ks[j] + 1) (w:=ks[i]) (by omega); omega
def occ (ks:List Nat) (v:Nat):List Nat:=(List.range ks.length).filter (fun i=>decide (ks.getD i 0=v))
theorem occ_upto (ks:List Nat) (v:Nat):∀ k,k≤ks.length→((List.range k).filter (fun i=>decide (ks.getD i 0=v))).length=cnt (ks.take k) v∧∀ (r i:Nat),((List.range k).filter (fun i=>decide (ks.getD i 0=v)))[r]? = some i→∃ hi:i < ks.length,ks[i]=v∧cnt (ks.take i) v=r
 | 0,_=>by simp [cnt]
 | k + 1,hk=>by
   obtain ⟨h1,h2⟩:=occ_upto ks v k (by omega)
   have hkl:k < ks.length:=by omega
   have e:(List.range (k + 1)).filter (fun i=>decide (ks.getD i 0=v))=(List.range k).filter (fun i=>decide (ks.getD i 0=v))++(if ks[k]=v then [k] else []):=by
     rw [List.range_succ,List.filter_append]
     by_cases h:ks[k]=v <;> simp [hkl,h]
   rw [e,cnt_take hkl]
   generalize hF:(List.range k).filter (fun i=>decide (ks.getD i 0=v))=F at h1 h2
   by_cases h:ks[k]=v
   · simp only [h,if_true]
     refine ⟨by simp [h1],fun r i hr=>?_⟩
     by_cases hr2:r < F.length
     · rw [List.getElem?_append_left hr2] at hr; exact h2 r i hr
     · rw [List.getElem?_append_right (by omega)] at hr
       have hr3:r - F.length=0:=by
         have:=(List.getElem?_eq_some_iff.1 hr).1
         simp at this; omega
       rw [hr3] at hr
       simp at hr
       subst hr
       exact ⟨hkl,h,by omega⟩
   · simp only [h,if_false,List.append_nil,Nat.add_zero]
     exact ⟨h1,h2⟩
theorem occ_len (ks:List Nat) (v:Nat):(occ ks v).length=cnt ks v:=by have:=(occ_upto ks v ks.length (Nat.le_refl _)).1; rw [List.take_length] at this; exact this
theorem occ_get (ks:List Nat) (v r:Nat) (h:r < (occ ks v).length):∃ (hi:(occ ks v)[r] < ks.length),ks[(occ ks v)[r]]=v∧cnt (ks.take (occ ks v)[r]) v=r:=(occ_upto ks v ks.length (Nat.le_refl _)).2 r _ (List.getElem?_eq_getElem h)
theorem occ_mem {ks:List Nat} {v i:Nat}:i∈occ ks v↔∃ h:i < ks.length,ks[i]=v:=by
 unfold occ
 simp only [List.mem_filter,List.mem_range,decide_eq_true_eq]
 constructor
 · rintro ⟨h1,h2⟩; exact ⟨h1,by simpa [h1] using h2⟩
 · rintro ⟨h1,h2⟩; exact ⟨h1,by simpa [h1] using h2⟩
def av (ks:List Nat) (k p:Nat):Nat:=((List.range k).find? (fun i=>decide (pos ks i=p))).getD 0
theorem av_pos {ks:List Nat} {k i:Nat} (hk:k≤ks.length) (hi:i < k):av ks k (pos ks i)=i:=by
 unfold av
 cases h:(List.range k).find? (fun j=>decide (pos ks j=pos ks i)) with
 | none =>
   rw [List.find?_eq_none] at h
   exact absurd (by simp) (h i (List.mem_range.2 hi))
 | some j =>
   have h1:=List.find?_some h
   have h2:=List.mem_range.1 (List.mem_of_find?_eq_some h)
   simp at h1
   rcases Nat.lt_trichotomy i j with q | q | q
   · exact absurd h1.symm (pos_inj q (by omega))
   · exact q.symm
   · exact absurd h1 (pos_inj q (by omega))
theorem av_succ {ks:List Nat} {k:Nat} (hk:k < ks.length) (p:Nat):av ks (k + 1) p=if p=pos ks k then k else av ks k p:=by
 by_cases h:p=pos ks k
 · rw [if_pos h,h,av_pos (by omega) (by omega)]
 · rw [if_neg h]
   unfold av
   rw [List.range_succ,List.find?_append]
   simp [Ne.symm h]
theorem av_sub (ks:List Nat) (v:Nat):((((List.range ks.length).map (fun p=>(av ks ks.length p:Int))).take (ltc ks (v + 1))).drop (ltc ks v))=(occ ks v).map (fun i:Nat=>(i:Int)):=by
 apply List.ext_getElem
 · have h1:=ltc_succ ks v
   have h2:=ltc_le ks (v + 1)
   rw [List.length_drop,List.length_take,List.length_map,List.length_map,occ_len,List.length_range]; omega
 · intro r h1 h2
   have hr:r < (occ ks v).length:=by simpa using h2
   obtain ⟨hi,h3,h4⟩:=occ_get ks v r hr
   simp only [List.getElem_drop,List.getElem_take,List.getElem_map,List.getElem_range]
   have:pos ks (occ ks v)[r]=ltc ks v + r:=by
     have e:ks.getD (occ ks v)[r] 0=v:=by simp [hi,h3]
     unfold pos; rw [e,h4]
   rw [← this,av_pos (Nat.le_refl _) hi]
section
variable {α:Type} (key:α→Int) (n:Int) (xb:List α)
def ix1:(Int×(List Int))→Option ((Int×(List Int))⊕(List Int)):=fun ((i,l):(Int×(List Int)))=>cond (decide (i < (((xb.length:Nat):Int)))) ((getI xb i).bind fun x=>(getI l (IntKind.wrap .i64 (key x + 1))).bind fun a=>(getI l (IntKind.wrap .i64 (key x + 1))).bind fun b=>(some (l.set (IntKind.wrap .i64 (key x + 1)).toNat (IntKind.wrap .i64 (a + 1)))).bind fun z=>some (.inl ((IntKind.wrap .i64 (i + 1),z)))) (some (.inr (l)))
def ix2:(Int×(List Int))→Option ((Int×(List Int))⊕(List Int)):=fun ((i,l):(Int×(List Int)))=>cond (decide (i < n)) ((getI l (IntKind.wrap .i64 (i + 1))).bind fun a=>(getI l i).bind fun b=>(getI l (IntKind.wrap .i64 (i + 1))).bind fun c=>(some (l.set (IntKind.wrap .i64 (i + 1)).toNat (IntKind.wrap .i64 (a + b)))).bind fun z=>some (.inl ((IntKind.wrap .i64 (i + 1),z)))) (some (.inr (l)))
def ix3:((List Int)×Int×(List Int))→Option (((List Int)×Int×(List Int))⊕(List Int)):=fun ((l,i,m):((List Int)×Int×(List Int)))=>cond (decide (i < (((xb.length:Nat):Int)))) ((getI xb i).bind fun x=>(getI l (key x)).bind fun a=>(getI m a).bind fun b=>(some (m.set a.toNat i)).bind fun z=>(getI l (key x)).bind fun c=>(getI l (key x)).bind fun d=>(some (l.set (key x).toNat (IntKind.wrap .i64 (c + 1)))).bind fun y=>some (.inl ((y,IntKind.wrap .i64 (i + 1),z)))) (some (.inr (m)))
variable {key n xb} {ks:List Nat}
theorem key_at (hk:xb.map key=ks.map (fun k:Nat=>(k:Int))) {i:Nat} (h:i < xb.length):∃ h2:i < ks.length,key xb[i]=(ks[i]:Int):=by
 have hl:xb.length=ks.length:=by simpa using congrArg List.length hk
 refine ⟨by omega,?_⟩
 have h1:(xb.map key)[i]'(by simpa using h)=(ks.map (fun k:Nat=>(k:Int)))[i]'(by simp; omega):=by simp only [hk]
 simpa using h1
theorem ix1_eq {N:Nat} (hk:xb.map key=ks.map (fun k:Nat=>(k:Int))) (hN:∀ x∈ks,x < N) (hb:ks.length≤1073741824) (hNb:N≤1073741824):loop (ix1 key xb) (0,List.replicate (N + 1) 0)=some ((List.range (N + 1)).map (fun v=>((if v=0 then 0 else cnt ks (v - 1):Nat):Int))):=by
 have hl:xb.length=ks.length:=by simpa using congrArg List.length hk
 have h:=loop_nat (body:=ix1 key xb) (fun k:Nat=>((k:Int),(List.range (N + 1)).map (fun v=>((if v=0 then 0 else cnt (ks.take k) (v - 1):Nat):Int)))) xb.length (b:=(List.range (N + 1)).map (fun v=>((if v=0 then 0 else cnt ks (v - 1):Nat):Int))) ?_ ?_
 · rw [replicate_map]; simpa [cnt] using h
 · intro k hk2
   obtain ⟨hk3,hk4⟩:=key_at hk hk2
   have hlt:=hN _ (List.getElem_mem hk3)
   have hw:IntKind.wrap .i64 (key xb[k] + 1)=((ks[k] + 1:Nat):Int):=by rw [hk4,w64 (by omega) (by omega)]; omega
   have hc:=cnt_le (ks.take k) ks[k]
   simp only [List.length_take] at hc
   unfold ix1
   simp only [dlt hk2,cond_true,getN hk2,Option.bind_some,hw,getI_map (show ks[k] + 1 < N + 1 by omega),Int.toNat_natCast,set_map,w64s hk2 (by omega:xb.length≤9223372036854775807)]
   congr 3
   refine map_congr_range (fun v hv=>?_)
   rw [cnt_take hk3]
   simp only [Nat.add_one_ne_zero,if_false,Nat.add_sub_cancel]
   by_cases h1:v=ks[k] + 1
   · subst h1; simp only [if_true,Nat.add_one_ne_zero,if_false,Nat.add_sub_cancel]; rw [w64 (by omega) (by omega)]; omega
   · rw [if_neg h1]
     by_cases h2:v=0
     · simp [h2]
     · simp [h2,show ¬ ks[k]=v - 1 by omega]
 · unfold ix1
   simp only [hl,Int.lt_irrefl,decide_false,cond_false,List.take_length]
theorem ix2_eq {N:Nat} (hb:ks.length≤1073741824) (hNb:N≤1073741824):loop (ix2 (N:Int)) (0,(List.range (N + 1)).map (fun v=>((if v=0 then 0 else cnt ks (v - 1):Nat):Int)))=some ((List.range (N + 1)).map (fun v=>(ltc ks v:Int))):=by
 have h:=loop_nat (body:=ix2 (N:Int)) (fun j:Nat=>((j:Int),(List.range (N + 1)).map (fun v=>((if v≤j then ltc ks v else cnt ks (v - 1):Nat):Int)))) N (b:=(List.range (N + 1)).map (fun v=>(ltc ks v:Int))) ?_ ?_
 · have e:(List.range (N + 1)).map (fun v=>((if v≤0 then ltc ks v else cnt ks (v - 1):Nat):Int))=(List.range (N + 1)).map (fun v=>((if v=0 then 0 else cnt ks (v - 1):Nat):Int)):=by
     refine map_congr_range (fun v hv=>?_)
     by_cases h1:v=0
     · simp [h1,ltc_zero]
     · simp [h1]
   simp only [e] at h
   exact h
 · intro j hj
   have hs:=ltc_succ ks j
   have hle:=ltc_le ks (j + 1)
   unfold ix2
   simp only [dlt hj,cond_true,w64s hj (by omega:N≤9223372036854775807),getI_map (show j + 1 < N + 1 by omega),getI_map (show j < N + 1 by omega),Option.bind_some,Int.toNat_natCast,set_map]
   congr 3
   refine map_congr_range (fun v hv=>?_)
   simp only [show ¬ (j + 1≤j) by omega,if_false,Nat.le_refl,if_true,Nat.add_sub_cancel]
   by_cases h1:v=j + 1
   · subst h1; simp only [if_true,Nat.le_refl]; rw [w64 (by omega) (by omega)]; omega
   · rw [if_neg h1]
     by_cases h2:v≤j
     · simp [h2,show v≤j + 1 by omega]
     · simp [h2,show ¬ v≤j + 1 by omega]
 · unfold ix2
   simp only [Int.lt_irrefl,decide_false,cond_false]
   congr 2
   refine map_congr_range (fun v hv=>?_)
   simp [show v≤N by omega]
theorem ix3_eq {N:Nat} (hk:xb.map key=ks.map (fun k:Nat=>(k:Int))) (hN:∀ x∈ks,x < N) (hb:ks.length≤1073741824) (hNb:N≤1073741824):loop (ix3 key xb) ((List.range (N + 1)).map (fun v=>(ltc ks v:Int)),0,List.replicate xb.length 0)=some ((List.range ks.length).map (fun p=>(av ks ks.length p:Int))):=by
 have hl:xb.length=ks.length:=by simpa using congrArg List.length hk
 have h:=loop_nat (body:=ix3 key xb) (fun k:Nat=>((List.range (N + 1)).map (fun v=>((ltc ks v + cnt (ks.take k) v:Nat):Int)),(k:Int),(List.range ks.length).map (fun p=>(av ks k p:Int)))) xb.length (b:=(List.range ks.length).map (fun p=>(av ks ks.length p:Int))) ?_ ?_
 · rw [hl,replicate_map]; simpa [cnt,av] using h
 · intro k hk2
   obtain ⟨hk3,hk4⟩:=key_at hk hk2
   have hlt:=hN _ (List.getElem_mem hk3)
   have hp:ltc ks ks[k] + cnt (ks.take k) ks[k]=pos ks k:=by unfold pos; simp [hk3]
   have hpl:=pos_lt_len hk3
   unfold ix3
   simp only [dlt hk2,cond_true,getN hk2,Option.bind_some,hk4,getI_map (show ks[k] < N + 1 by omega),hp,getI_map hpl,Int.toNat_natCast,set_map,w64s hk2 (by omega:xb.length≤9223372036854775807)]
   congr 3
   · refine map_congr_range (fun v hv=>?_)
     rw [cnt_take hk3]
     by_cases h1:v=ks[k]
     · subst h1; simp only [if_true]; rw [w64 (by omega) (by omega)]; omega
     · rw [if_neg h1,if_neg (Ne.symm h1)]; simp
   · congr 1
     refine map_congr_range (fun p hp2=>?_)
     rw [av_succ hk3]
     split <;> rfl
 · unfold ix3
   simp only [hl,Int.lt_irrefl,decide_false,cond_false]
end
abbrev Gr:=Int×(List (Int×Int))×((List Int)×(List Int))×((List Int)×(List Int))
abbrev ArG:=List (Nat×Nat)
def ai (E:ArG):List (Int×Int):=E.map (fun e=>((e.1:Int),(e.2:Int)))
def ixs (N:Nat) (ks:List Nat):List Int×List Int:=((List.range (N + 1)).map (fun v=>(ltc ks v:Int)),(List.range ks.length).map (fun p=>(av ks ks.length p:Int)))
def mkG (N:Nat) (E:ArG):Gr:=((N:Int),ai E,ixs N (E.map (·.1)),ixs N (E.map (·.2)))
def inN (N:Nat) (E:ArG):Prop:=∀ e∈E,e.1 < N∧e.2 < N
theorem ai_len (E:ArG):(ai E).length=E.length:=by simp [ai]
theorem clone_eq {α:Type} (xa:List α) (hn:xa.length≤1073741824):nilb xa (some ([]:List α)) ((app ([]:List α) xa).bind fun z=>some z)=some xa:=by
 rw [nilb_eq]
 · rw [app_eq (by simpa using hn)]; simp
 · rintro rfl; rw [app_eq (by simp)]; rfl
theorem indexed1_eq {N:Nat} {E:ArG} (h:inN N E) (hn:N≤1048576) (he:E.length≤67108864):fn_graph_indexed_ik_graph_New_1 (N:Int) (ai E)=some (ixs N (E.map (·.1))):=by
 have hk:(ai E).map (fun x:Int×Int=>x.1)=(E.map (·.1)).map (fun k:Nat=>(k:Int)):=by simp [ai]
 have hN:∀ x∈E.map (·.1),x < N:=by intro x hx; obtain ⟨e,he,rfl⟩:=List.mem_map.1 hx; exact (h e he).1
 have hw:IntKind.wrap .i64 ((N:Int) + 1)=((N + 1:Nat):Int):=by rw [w64 (by omega) (by omega)]; omega
 have h1:=ix1_eq (key:=fun x:Int×Int=>x.1) (N:=N) hk hN (by simp; omega) (by omega)
 have h2:=ix2_eq (ks:=E.map (·.1)) (N:=N) (by simp; omega) (by omega)
 have h3:=ix3_eq (key:=fun x:Int×Int=>x.1) (N:=N) hk hN (by simp; omega) (by omega)
 have hl:(ai E).length≤1073741824:=by rw [ai_len]; omega
 unfold fn_graph_indexed_ik_graph_New_1
 have hm1:(mk ((N + 1:Nat):Int) ((N + 1:Nat):Int) (0:Int):Option (List Int))=some (List.replicate (N + 1) 0):=mkN (by omega)
 have hm2:(mk (((ai E).length:Nat):Int) (((ai E).length:Nat):Int) (0:Int):Option (List Int))=some (List.replicate (ai E).length 0):=mkN hl
 rw [hw]
 simp only [hm1,hm2,Option.bind_some,agr_self]
 show (loop (ix1 (fun x:Int×Int=>x.1) (ai E)) (0,_)).bind _=_
 rw [h1,Option.bind_some]
 show (loop (ix2 (N:Int)) (0,_)).bind _=_
 rw [h2,Option.bind_some]
 have hc:∀ l:List Int,l.length≤1073741824→fn_slices_Clone_int_int l=some l:=fun l hl=>clone_eq l hl
 rw [hc _ (by simp; omega),Option.bind_some]
 show (loop (ix3 (fun x:Int×Int=>x.1) (ai E)) (_,0,_)).bind _=_
 rw [h3]; rfl
theorem indexed2_eq {N:Nat} {E:ArG} (h:inN N E) (hn:N≤1048576) (he:E.length≤67108864):fn_graph_indexed_ik_graph_New_2 (N:Int) (ai E)=some (ixs N (E.map (·.2))):=by
 have hk:(ai E).map (fun x:Int×Int=>x.2)=(E.map (·.2)).map (fun k:Nat=>(k:Int)):=by simp [ai]
 have hN:∀ x∈E.map (·.2),x < N:=by intro x hx; obtain ⟨e,he,rfl⟩:=List.mem_map.1 hx; exact (h e he).2
 have hw:IntKind.wrap .i64 ((N:Int) + 1)=((N + 1:Nat):Int):=by rw [w64 (by omega) (by omega)]; omega
 have h1:=ix1_eq (key:=fun x:Int×Int=>x.2) (N:=N) hk hN (by simp; omega) (by omega)
 have h2:=ix2_eq (ks:=E.map (·.2)) (N:=N) (by simp; omega) (by omega)
 have h3:=ix3_eq (key:=fun x:Int×Int=>x.2) (N:=N) hk hN (by simp; omega) (by omega)
 have hl:(ai E).length≤1073741824:=by rw [ai_len]; omega
 unfold fn_graph_indexed_ik_graph_New_2
 have hm1:(mk ((N + 1:Nat):Int) ((N + 1:Nat):Int) (0:Int):Option (List Int))=some (List.replicate (N + 1) 0):=mkN (by omega)
 have hm2:(mk (((ai E).length:Nat):Int) (((ai E).length:Nat):Int) (0:Int):Option (List Int))=some (List.replicate (ai E).length 0):=mkN hl
 rw [hw]
 simp only [hm1,hm2,Option.bind_some,agr_self]
 show (loop (ix1 (fun x:Int×Int=>x.2) (ai E)) (0,_)).bind _=_
 rw [h1,Option.bind_some]
 show (loop (ix2 (N:Int)) (0,_)).bind _=_
 rw [h2,Option.bind_some]
 have hc:∀ l:List Int,l.length≤1073741824→fn_slices_Clone_int_int l=some l:=fun l hl=>clone_eq l hl
 rw [hc _ (by simp; omega),Option.bind_some]
 show (loop (ix3 (fun x:Int×Int=>x.2) (ai E)) (_,0,_)).bind _=_
 rw [h3]; rfl
def outA (n:Int) (a:Int×Int):Bool:=(((decide (a.1 < 0))||(decide (n≤a.1)))||(decide (a.2 < 0)))||(decide (n≤a.2))
theorem newLoop (n:Int) (xb:List (Int×Int)) (hb:xb.length≤1073741824):loop (fn_graph_New_l1 n xb) 0=some (if xb.any (outA n) then .inr (none,7) else .inl ()):=by
 refine loop_some xb (outA n) _ _ (fun k h=>?_) ?_
 · unfold fn_graph_New_l1
   simp only [dlt h,cond_true,getN h,Option.bind_some,w64s h (by omega:xb.length≤9223372036854775807)]
   show cond (outA n xb[k]) _ _=_
   cases outA n xb[k] <;> rfl
 · simp [fn_graph_New_l1]
theorem New_ok {N:Nat} {E:ArG} (h:inN N E) (hn:N≤1048576) (he:E.length≤67108864):fn_graph_New (N:Int) (ai E)=some (some (mkG N E),0):=by
 unfold fn_graph_New
 have h1:decide ((N:Int) < 0)=false:=decide_eq_false (by omega)
 have h2:(decide ((1048576:Int) < (N:Int))||decide ((67108864:Int) < (((ai E).length:Nat):Int)))=false:=by rw [ai_len]; simp; omega
 have h3:(ai E).any (outA (N:Int))=false:=by
   rw [List.any_eq_false]
   intro a ha
   obtain ⟨e,he,rfl⟩:=List.mem_map.1 ha
   have:=h e he
   simp [outA]; omega
 rw [h1,cond_false,h2,cond_false,newLoop _ _ (by rw [ai_len]; omega),h3]
 simp only [Bool.false_eq_true,if_false,Option.bind_some]
 have hc:fn_slices_Clone_graph_Arc_graph_Arc (ai E)=some (ai E):=clone_eq _ (by rw [ai_len]; omega)
 rw [hc,Option.bind_some,indexed1_eq h hn he,Option.bind_some,indexed2_eq h hn he]
 rfl
theorem occ_bound (ks:List Nat) (v:Nat):(occ ks v).length≤ks.length:=by rw [occ_len]; exact cnt_le ks v
theorem index_of_eq {N:Nat} {ks:List Nat} (hn:N≤1048576) (he:ks.length≤67108864) {v:Nat} (hv:v < N):fn_graph_index_of (ixs N ks) (v:Int)=some ((occ ks v).map (fun i:Nat=>(i:Int))):=by
 unfold fn_graph_index_of ixs
 have h1:=ltc_le ks (v + 1)
 have h2:=ltc_mono ks (v:=v) (w:=v + 1) (by omega)
 simp only [getI_map (show v < N + 1 by omega),Option.bind_some,w64s hv (by omega:N≤9223372036854775807),getI_map (show v + 1 < N + 1 by omega)]
 rw [subL_eq (by omega) (by omega) (by simp; omega)]
 simp only [Int.toNat_natCast,Option.bind_some,av_sub]
theorem Nodes_eq (N:Nat) (E:ArG):fn_graph_Graph_Nodes (some (mkG N E))=some (N:Int):=rfl
theorem Arcs_eq (N:Nat) (E:ArG):fn_graph_Graph_Arcs (some (mkG N E))=some (E.length:Int):=by
 show some ((((ai E).length:Nat):Int))=_
 rw [ai_len]
theorem isNode_eq (N:Nat) (E:ArG) (v:Int):fn_graph_Graph_isNode (some (mkG N E)) v=some (decide (0≤v)&&decide (v < (N:Int))):=by
 unfold fn_graph_Graph_isNode
 rw [Nodes_eq]
 cases decide (0≤v) <;> simp
theorem isNode_of {N:Nat} {E:ArG} {v:Nat} (h:v < N):fn_graph_Graph_isNode (some (mkG N E)) (v:Int)=some true:=by
 rw [isNode_eq]; simp [h]
theorem In_of {N:Nat} {E:ArG} (hn:N≤1048576) (he:E.length≤67108864) {v:Nat} (h:v < N):fn_graph_Graph_In (some (mkG N E)) (v:Int)=some ((occ (E.map (·.2)) v).map (fun i:Nat=>(i:Int))):=by
 unfold fn_graph_Graph_In
 rw [isNode_of h]
 have:=index_of_eq (ks:=E.map (·.2)) hn (by simp; omega) h
 have hb:=occ_bound (E.map (·.2)) v
 simp only [Bool.not_true,cond_false,Option.bind_some,mkG]
 rw [this,Option.bind_some]
 have hc:∀ l:List Int,l.length≤1073741824→fn_slices_Clone_int_int l=some l:=fun l hl=>clone_eq l hl
 rw [hc _ (by simp at hb ⊢; omega)]; rfl
def nxt (E:ArG) (v:Nat):List Nat:=(occ (E.map (·.1)) v).map (fun i=>(E.getD i (0,0)).2)
theorem occ_arc {E:ArG} {v i:Nat} (h:i∈occ (E.map (·.1)) v):∃ h:i < E.length,E[i].1=v:=by
 obtain ⟨h1,h2⟩:=occ_mem.1 h
 exact ⟨by simpa using h1,by simpa using h2⟩
theorem nxt_mem {E:ArG} {v u:Nat}:u∈nxt E v↔(v,u)∈E:=by
 unfold nxt
 constructor
 · intro h
   obtain ⟨i,hi,rfl⟩:=List.mem_map.1 h
   obtain ⟨h1,h2⟩:=occ_arc hi
   have:E.getD i (0,0)=E[i]:=by simp [h1]
   rw [this]
   have e:(v,E[i].2)=E[i]:=by rw [← h2]
   rw [e]; exact List.getElem_mem h1
 · intro h
   obtain ⟨i,hi,he⟩:=List.getElem_of_mem h
   refine List.mem_map.2 ⟨i,occ_mem.2 ⟨by simpa using hi,by simp [he]⟩,by simp [hi,he]⟩
def tn (E:ArG):ArG:=E.map (fun e=>(e.2,e.1))
theorem tn_len (E:ArG):(tn E).length=E.length:=by simp [tn]
theorem tn_mem {E:ArG} {a b:Nat}:(a,b)∈tn E↔(b,a)∈E:=by
 unfold tn
 constructor
 · intro h; obtain ⟨e,he,h2⟩:=List.mem_map.1 h; cases h2; exact he
 · intro h; exact List.mem_map.2 ⟨_,h,rfl⟩
inductive Rch (E:ArG):Nat→Nat→Prop
 | refl (v:Nat):Rch E v v
 | step {v w u:Nat} (h:Rch E v w) (e:(w,u)∈E):Rch E v u
theorem Rch.trans {E:ArG} {a b c:Nat} (h:Rch E a b) (k:Rch E b c):Rch E a c:=by
 induction k with
 | refl=>exact h
 | step _ e ih=>exact ih.step e
theorem Rch.mono {E F:ArG} (hf:∀ e∈E,e∈F) {a b:Nat} (h:Rch E a b):Rch F a b:=by
 induction h with
 | refl=>exact .refl _
 | step _ e ih=>exact ih.step (hf _ e)
theorem Rch.lt {N:Nat} {E:ArG} (hE:inN N E) {a b:Nat} (h:Rch E a b) (ha:a < N):b < N:=by
 cases h with
 | refl=>exact ha
 | step _ e=>exact (hE _ e).2
theorem nodup_le {A:List Nat}:∀ {L:List Nat},L.Nodup→(∀ x∈L,x∈A)→L.length≤A.length:=by
 intro L
 induction L generalizing A with
 | nil=>intro _ _; simp
 | cons x L ih =>
   intro hd hs
   have hx:=hs x (by simp)
   rw [List.nodup_cons] at hd
   have:=ih (A:=A.erase x) hd.2 (fun y hy=>by
     have hne:y≠x:=fun e=>hd.1 (e ▸ hy)
     exact (List.mem_erase_of_ne hne).2 (hs y (by simp [hy])))
   rw [List.length_erase_of_mem hx] at this
   have:0 < A.length:=List.length_pos_of_mem hx
   simp; omega
theorem nodup_lt {L:List Nat} {N:Nat} (hd:L.Nodup) (h:∀ x∈L,x < N):L.length≤N:=by
 have:=nodup_le (A:=List.range N) hd (fun x hx=>List.mem_range.2 (h x hx))
 simpa using this
def li (L:List Nat):List Int:=L.map (fun i:Nat=>(i:Int))
theorem li_len (L:List Nat):(li L).length=L.length:=by simp [li]
theorem getI_li {L:List Nat} {k:Nat} (h:k < L.length):getI (li L) (k:Int)=some ((L[k]:Nat):Int):=by rw [getN (by rw [li_len]; exact h)]; simp [li]
theorem getI_ai {E:ArG} {k:Nat} (h:k < E.length):getI (ai E) (k:Int)=some (((E[k].1:Nat):Int),((E[k].2:Nat):Int)):=by rw [getN (by rw [ai_len]; exact h)]; simp [ai]
open Classical in
noncomputable def rl (N:Nat) (E:ArG) (v:Nat):List Nat:=(List.range N).filter (fun w=>decide (Rch E v w))
theorem range_strict (N:Nat) (p:Nat→Bool):(li ((List.range N).filter p)).Pairwise (· < ·):=by
 unfold li
 rw [List.pairwise_map]
 refine List.Pairwise.imp (R:=fun a b:Nat=>a < b) (fun h=>by omega) ?_
 exact List.pairwise_lt_range.filter p
end
theorem same01_eq (xa xb:List Int) (hn:xa.length≤1073741824):fn_ref01_Same xa xb=some (decide (xa=xb)):=by
 unfold fn_ref01_Same
 by_cases hl:xa.length=xb.length
 · rw [dlen hl,cond_false,loop_alike (body:=fn_ref01_Same_l1 xa xb) xa xb (.inr false) (.inl ()) hl ?_ ?_]
   · by_cases h:xa=xb <;> simp [h]
   · intro k h; unfold fn_ref01_Same_l1
     have h2:k < xb.length:=by omega
     by_cases q:xa[k]=xb[k] <;> simp [getN h,getN h2,h,q,w64s h (by omega)]
   · simp [fn_ref01_Same_l1]
 · rw [dlen' hl,cond_true]
   have:¬ xa=xb:=fun h=>hl (by rw [h])
   simp [this]
theorem Arc_of {N:Nat} {E:ArG} {i:Int}:fn_graph_Graph_Arc (some (mkG N E)) i=some (if h:0≤i∧i < (E.length:Int) then (((E[i.toNat]'(by omega)).1:Int),((E[i.toNat]'(by omega)).2:Int),true) else (0,0,false)):=by
 unfold fn_graph_Graph_Arc
 rw [Arcs_eq]
 by_cases h0:i < 0
 · simp [h0,show ¬ (0≤i∧i < (E.length:Int)) by omega]
 · by_cases h1:(E.length:Int)≤i
   · simp [h0,h1,show ¬ (0≤i∧i < (E.length:Int)) by omega]
   · have h2:0≤i∧i < (E.length:Int):=by omega
     obtain ⟨k,rfl⟩:=Int.eq_ofNat_of_zero_le h2.1
     have hk:k < E.length:=by omega
     simp only [h0,h1,decide_false,cond_false,Option.bind_some,mkG,getI_ai hk]
     simp [hk]
inductive Thr (E:ArG):List Nat→List Nat→List Nat→List Nat→List Nat→Prop
 | nil {o m:List Nat}:Thr E o m [] o m
 | skip {o m r o' m':List Nat} {u:Nat}:u∈m→Thr E o m r o' m'→Thr E o m (u :: r) o' m'
 | step {o m r o1 m1 o' m':List Nat} {u:Nat}:u∉m→Thr E o (m++[u]) (nxt E u) o1 m1→Thr E (o1++[u]) m1 r o' m'→Thr E o m (u :: r) o' m'
theorem Thr.grow {E:ArG} {o m r o' m':List Nat} (h:Thr E o m r o' m'):∃ D O,m'=m++D∧o'=o++O∧O.Perm D∧(∀ x∈r,x∈m'):=by
 induction h with
 | nil=>exact ⟨[],[],by simp,by simp,.refl _,by simp⟩
 | skip hu h ih =>
   obtain ⟨D,O,rfl,rfl,hp,hr⟩:=ih
   exact ⟨D,O,rfl,rfl,hp,fun x hx=>by
     rcases List.mem_cons.1 hx with rfl | hx
     · exact List.mem_append_left _ hu
     · exact hr x hx⟩
 | step hu h1 h2 ih1 ih2 =>
   obtain ⟨D1,O1,rfl,rfl,hp1,hr1⟩:=ih1
   obtain ⟨D2,O2,rfl,rfl,hp2,hr2⟩:=ih2
   rename_i o m r u
   refine ⟨u :: D1++D2,O1++[u]++O2,by simp,by simp,?_,fun x hx=>?_⟩
   · refine List.Perm.append ?_ hp2
     refine (List.perm_append_comm (l₁:=O1) (l₂:=[u])).trans ?_
     exact hp1.cons u
   · rcases List.mem_cons.1 hx with rfl | hx
     · simp
     · exact hr2 x hx
theorem Thr.inv {E:ArG} {N:Nat} (hE:inN N E) {o m r o' m':List Nat} (h:Thr E o m r o' m'):m.Nodup→(∀ x∈m,x < N)→(∀ x∈r,x < N)→m'.Nodup∧∀ x∈m',x < N:=by
 induction h with
 | nil=>exact fun a b _=>⟨a,b⟩
 | skip hu h ih=>exact fun a b c=>ih a b (fun x hx=>c x (List.mem_cons_of_mem _ hx))
 | step hu h1 h2 ih1 ih2 =>
   intro a b c
   rename_i o m r o1 m1 o' m' u
   have hun:u < N:=c u (List.mem_cons_self ..)
   have hd:(m++[u]).Nodup:=by
     rw [List.nodup_append]; refine ⟨a,by simp,?_⟩
     intro x hx y hy; simp at hy; subst hy; intro e; subst e; exact hu hx
   have hl:∀ x∈m++[u],x < N:=fun x hx=>by
     rcases List.mem_append.1 hx with q | q
     · exact b x q
     · simp at q; omega
   obtain ⟨a1,b1⟩:=ih1 hd hl (fun x hx=>(hE _ (nxt_mem.1 hx)).2)
   exact ih2 a1 b1 (fun x hx=>c x (List.mem_cons_of_mem _ hx))
theorem Thr.ex {E:ArG} {N:Nat} (hE:inN N E):∀ (k:Nat) (r o m:List Nat),N - m.length≤k→m.Nodup→(∀ x∈m,x < N)→(∀ x∈r,x < N)→∃ o' m',Thr E o m r o' m':=by
 intro k
 induction k with
 | zero =>
   intro r
   induction r with
   | nil=>intro o m _ _ _ _; exact ⟨o,m,.nil⟩
   | cons u r ih =>
     intro o m hk hd hl hr
     by_cases hu:u∈m
     · obtain ⟨o',m',h⟩:=ih o m hk hd hl (fun x hx=>hr x (List.mem_cons_of_mem _ hx))
       exact ⟨o',m',.skip hu h⟩
     · exfalso
       have hd1:(m++[u]).Nodup:=by
         rw [List.nodup_append]; refine ⟨hd,by simp,?_⟩
         intro x hx y hy; simp at hy; subst hy; intro e; subst e; exact hu hx
       have:=nodup_lt (N:=N) hd1 (fun x hx=>by
         rcases List.mem_append.1 hx with q | q
         · exact hl x q
         · simp at q; subst q; exact hr _ (List.mem_cons_self ..))
       simp at this; omega
 | succ k ihk =>
   intro r
   induction r with
   | nil=>intro o m _ _ _ _; exact ⟨o,m,.nil⟩
   | cons u r ih =>
     intro o m hk hd hl hr
     by_cases hu:u∈m
     · obtain ⟨o',m',h⟩:=ih o m hk hd hl (fun x hx=>hr x (List.mem_cons_of_mem _ hx))
       exact ⟨o',m',.skip hu h⟩
     · have hd1:(m++[u]).Nodup:=by
         rw [List.nodup_append]; refine ⟨hd,by simp,?_⟩
         intro x hx y hy; simp at hy; subst hy; intro e; subst e; exact hu hx
       have hl1:∀ x∈m++[u],x < N:=fun x hx=>by
         rcases List.mem_append.1 hx with q | q
         · exact hl x q
         · simp at q; subst q; exact hr _ (List.mem_cons_self ..)
       have hn1:∀ x∈nxt E u,x < N:=fun x hx=>(hE _ (nxt_mem.1 hx)).2
       obtain ⟨o1,m1,h1⟩:=ihk (nxt E u) o (m++[u]) (by simp; omega) hd1 hl1 hn1
       obtain ⟨D,O,rfl,rfl,_,_⟩:=h1.grow
       obtain ⟨a1,b1⟩:=h1.inv hE hd1 hl1 hn1
       obtain ⟨o',m',h2⟩:=ihk r ((o++O)++[u]) (m++[u]++D) (by simp; omega) a1 b1 (fun x hx=>hr x (List.mem_cons_of_mem _ hx))
       exact ⟨o',m',.step hu h1 h2⟩
def OkO (E:ArG) (o:List Nat):Prop:=∀ A x B,o=A++x :: B→∀ y,(x,y)∈E→y∈A∨Rch E y x
theorem OkO.snoc {E:ArG} {o:List Nat} {u:Nat} (h:OkO E o) (hu:∀ y,(u,y)∈E→y∈o∨Rch E y u):OkO E (o++[u]):=by
 intro A x B e y hy
 rcases List.eq_nil_or_concat B with rfl | ⟨B',z,rfl⟩
 · obtain ⟨e1,e2⟩:=List.append_inj' e rfl
   simp at e2; subst e1; subst e2; exact hu y hy
 · have e':o++[u]=(A++x :: B')++[z]:=by rw [e]; simp
   obtain ⟨e1,e2⟩:=List.append_inj' e' rfl
   exact h A x B' e1 y hy
theorem Thr.ok {E:ArG} {o m r o' m':List Nat} (h:Thr E o m r o' m'):(∀ g∈m,g∉o→∀ x∈r,Rch E g x)→OkO E o→OkO E o'∧∀ g∈m',g∉o'→g∈m∧g∉o:=by
 induction h with
 | nil=>exact fun _ h=>⟨h,fun g a b=>⟨a,b⟩⟩
 | skip hu h ih=>exact fun a b=>ih (fun g hg ho x hx=>a g hg ho x (List.mem_cons_of_mem _ hx)) b
 | step hu h1 h2 ih1 ih2 =>
   intro a b
   rename_i o m r o1 m1 o' m' u
   obtain ⟨k1,g1⟩:=ih1 (fun g hg ho x hx=>by
     have hux:(u,x)∈E:=nxt_mem.1 hx
     rcases List.mem_append.1 hg with q | q
     · exact (a g q ho u (List.mem_cons_self ..)).step hux
     · simp at q; subst q; exact (Rch.refl _).step hux) b
   obtain ⟨_,_,_,_,_,hall⟩:=h1.grow
   have k2:OkO E (o1++[u]):=k1.snoc (fun y hy=>by
     by_cases q:y∈o1
     · exact .inl q
     · refine .inr ?_
       obtain ⟨c1,c2⟩:=g1 y (hall y (nxt_mem.2 hy)) q
       rcases List.mem_append.1 c1 with q2 | q2
       · exact a y q2 c2 u (List.mem_cons_self ..)
       · simp at q2; subst q2; exact .refl _)
   have g2:∀ g∈m1,g∉o1++[u]→g∈m∧g∉o:=fun g hg ho=>by
     have n1:g∉o1:=fun q=>ho (List.mem_append_left _ q)
     have n2:g≠u:=fun q=>ho (by simp [q])
     obtain ⟨c1,c2⟩:=g1 g hg n1
     rcases List.mem_append.1 c1 with q | q
     · exact ⟨q,c2⟩
     · simp at q; exact absurd q n2
   obtain ⟨k3,g3⟩:=ih2 (fun g hg ho x hx=>by
     obtain ⟨c1,c2⟩:=g2 g hg ho
     exact a g c1 c2 x (List.mem_cons_of_mem _ hx)) k2
   exact ⟨k3,fun g hg ho=>by obtain ⟨c1,c2⟩:=g3 g hg ho; exact g2 g c1 c2⟩
theorem Thr.all {E:ArG} {N:Nat} (hE:inN N E):∃ o m,Thr E [] [] (List.range N) o m∧o.Perm (List.range N)∧OkO E o:=by
 obtain ⟨o,m,h⟩:=Thr.ex hE N (List.range N) [] [] (by simp) (by simp) (by simp) (fun x hx=>List.mem_range.1 hx)
 obtain ⟨D,O,e1,e2,hp,hr⟩:=h.grow
 simp only [List.nil_append] at e1 e2; subst e1; subst e2
 obtain ⟨hd,hl⟩:=h.inv hE (by simp) (by simp) (fun x hx=>List.mem_range.1 hx)
 refine ⟨o,m,h,hp.trans ?_,(h.ok (by simp) (fun A x B e=>by simp at e)).1⟩
 refine (List.perm_ext_iff_of_nodup hd List.nodup_range).2 (fun x=>⟨fun hx=>List.mem_range.2 (hl x hx),fun hx=>hr x hx⟩)
set_option maxRecDepth 20000
section
abbrev Pts:=Option (List Int×Int)
abbrev flG (P:Pts) (N:Nat) (E:ArG):Option (Pts×Option Gr):=some (P,some (mkG N E))
section
variable {P:Pts} {N:Nat} {E:ArG}
end
end
abbrev nobk:Blk:=([],0,0,0,[],[],[])
def gs (X:List Blk) (j k m:Nat):Bool:=if k=(X.getD j nobk).1.length then (X.getD j nobk).2.2.2.2.1.any (fun t=>decide (bg X t.toNat=m)) else decide (m=bg X j + k + 1)
def nxp (X:List Blk) (n:Nat):List Nat:=(List.range (bg X X.length)).filter (gs X ((alls X).getD n (0,0,false)).1.toNat ((alls X).getD n (0,0,false)).2.1.toNat)
def arcN (X:List Blk):Nat→ArG
 | 0=>[]
 | n + 1=>arcN X n++(nxp X n).map (fun m=>(n,m))
theorem nxp_at {X:List Blk} {j k:Nat} (hj:j < X.length) (hk:k≤X[j].1.length):nxp X (bg X j + k)=(List.range (bg X X.length)).filter (gs X j k):=by
 have h:=alls_get X hj hk
 unfold nxp
 rw [List.getD_eq_getElem?_getD,h]; rfl
theorem nxp_lt {X:List Blk} {n m:Nat} (h:m∈nxp X n):m < bg X X.length:=by
 unfold nxp at h; exact List.mem_range.1 (List.mem_filter.1 h).1
theorem nxp_len (X:List Blk) (n:Nat):(nxp X n).length≤bg X X.length:=by
 unfold nxp; exact Nat.le_trans (List.length_filter_le _ _) (by simp)
theorem arcN_len (X:List Blk):∀ n,(arcN X n).length≤n * bg X X.length
 | 0=>by simp [arcN]
 | n + 1=>by
   have:=arcN_len X n
   have:=nxp_len X n
   simp only [arcN,List.length_append,List.length_map,Nat.succ_mul]; omega
theorem arcN_in (X:List Blk):∀ n,n≤bg X X.length→inN (bg X X.length) (arcN X n)
 | 0,_=>by intro e he; simp [arcN] at he
 | n + 1,hn=>by
   intro e he
   simp only [arcN,List.mem_append,List.mem_map] at he
   rcases he with q | ⟨m,hm,rfl⟩
   · exact arcN_in X n (by omega) e q
   · exact ⟨by show n < _; omega,nxp_lt hm⟩
theorem filter_one:∀ (N p:Nat),p < N→(List.range N).filter (fun m=>decide (m=p))=[p]
 | 0,p,h=>by omega
 | N + 1,p,h=>by
   rw [List.range_succ,List.filter_append]
   by_cases q:p=N
   · subst q
     have:(List.range p).filter (fun m=>decide (m=p))=[]:=by
       rw [List.filter_eq_nil_iff]; intro x hx; have:=List.mem_range.1 hx; simp; omega
     rw [this]; simp
   · rw [filter_one N p (by omega)]
     have:¬ N=p:=fun e=>q e.symm
     simp [this]
structure Tos (X:List Blk):Prop where
 few:X.length≤8
 pts:bg X X.length≤32
 len:∀ x∈X,x.2.2.2.2.1.length≤20
 good:∀ x∈X,∀ t∈x.2.2.2.2.1,0≤t∧t < (X.length:Int)
theorem vor0_zero {a b:Flt} (h:(or0 a b).1=0):a.1=0∧b.1=0:=by
 unfold or0 at h; split at h
 · rename_i q; exact ⟨q,h⟩
 · rename_i q; exact absurd h q
theorem vck_code {b:Bo} (h:(vck b).1=0):(vCode b).1=0:=by
 unfold vck at h
 obtain ⟨_,h⟩:=vor0_zero h
 obtain ⟨_,h⟩:=vor0_zero h
 obtain ⟨_,h⟩:=vor0_zero h
 obtain ⟨_,h⟩:=vor0_zero h
 obtain ⟨_,h⟩:=vor0_zero h
 exact (vor0_zero h).2
theorem vck_term {b:Bo} (h:(vck b).1=0):∀ x∈b.2.2.2.2.2.2,tE (arOf b) x.2=0:=by
 have hc:=vck_code h
 unfold vCode at hc
 cases hq:b.2.2.2.2.2.2.findIdx? (fun x=>(blkE b x).isSome) with
 | none =>
   intro x hx
   have:=List.findIdx?_eq_none_iff.1 hq x hx
   unfold blkE at this
   split at this
   · simp at this
   · by_cases q:tE (arOf b) x.2=0
     · exact q
     · rw [if_neg q] at this; simp at this
 | some k =>
   exfalso
   rw [hq] at hc
   obtain ⟨hk,hcc,_⟩:=List.findIdx?_eq_some_iff_getElem.1 hq
   have e:b.2.2.2.2.2.2.getD k ([],0,0,0,[],[],[])=b.2.2.2.2.2.2[k]:=by simp [List.getD,hk]
   simp only [e] at hc
   unfold blkE at hcc hc
   split at hcc
   · rename_i j hj
     rw [hj] at hc
     obtain ⟨hj1,hj2,_⟩:=List.findIdx?_eq_some_iff_getElem.1 hj
     have e2:b.2.2.2.2.2.2[k].1.getD j (0,0,0,0,false)=b.2.2.2.2.2.2[k].1[j]:=by simp [List.getD,hj1]
     simp only [e2,fltOf] at hc
     simp [hc] at hj2
   · rename_i hj
     rw [hj] at hc
     by_cases q:tE (arOf b) b.2.2.2.2.2.2[k].2=0
     · rw [if_pos q] at hcc; simp at hcc
     · rw [if_neg q] at hc; simp only [fltOf] at hc; exact q hc
theorem tE_to {a:Ar} {x:Tm} (h:tE a x=0) (hl:x.2.2.2.1.length≤20) (hl2:x.2.2.2.2.1.length≤20) (hl3:x.2.2.2.2.2.length≤20):bad a.1 x.2.2.2.1=false:=by
 cases q:bad a.1 x.2.2.2.1 with
 | false=>rfl
 | true =>
   exfalso
   unfold tE fn_ref19_Needs at h
   rw [show fn_ref19_Form (x.1,x.2.1,x.2.2.1,x.2.2.2.1,x.2.2.2.2.1,x.2.2.2.2.2)=_ from refTForm_eq x] at h
   simp only [Option.bind_some] at h
   by_cases q2:tForm x=0
   · rw [decide_eq_true q2,Bool.not_true,cond_false,refWithin_eq _ _ (by omega),q] at h
     simp at h
   · rw [decide_eq_false q2,Bool.not_false,cond_true] at h
     exact q2 h
theorem xs_eq {b:Bo} {j:Nat} (hj:j < (xs b).length):(vck b).1=0∧xs b=b.2.2.2.2.2.2:=by
 by_cases q:(vck b).1=0
 · exact ⟨q,by unfold xs; rw [if_pos q]⟩
 · unfold xs at hj; rw [if_neg q] at hj; simp at hj
theorem xs_tos {b:Bo} (h:Sm b):Tos (xs b):=by
 obtain ⟨h1,h2⟩:=xs_bound h (Nat.le_refl _)
 refine ⟨h2,h1,fun x hx=>?_,fun x hx t ht=>?_⟩
 · obtain ⟨j,hj,rfl⟩:=List.getElem_of_mem hx
   obtain ⟨_,e⟩:=xs_eq hj
   exact (h.term _ (by rw [← e]; exact List.getElem_mem hj)).1
 · obtain ⟨j,hj,rfl⟩:=List.getElem_of_mem hx
   obtain ⟨hv,e⟩:=xs_eq hj
   have hm:(xs b)[j]∈b.2.2.2.2.2.2:=by rw [← e]; exact List.getElem_mem hj
   obtain ⟨a1,a2,a3⟩:=h.term _ hm
   have hb:=tE_to (vck_term hv _ hm) a1 a2 a3
   unfold bad at hb
   rw [List.any_eq_false] at hb
   have:=hb t ht
   rw [e]
   unfold arOf at this
   simp at this
   omega
theorem blk_get {X:List Blk} {j:Nat} (hj:j < X.length):X.getD j nobk=X[j]:=by simp [List.getD,hj]
theorem heads_eq {X:List Blk} (hT:Tos X) {j:Nat} (hj:j < X.length):fn_flow_heads X[j].2 (bgs X)=some (li ((List.range (bg X X.length)).filter (gs X j X[j].1.length))):=by
 have hm:X[j]∈X:=List.getElem_mem hj
 have hlen:=hT.len _ hm
 have hg:=hT.good _ hm
 have hfew:=hT.few
 have hlp:=loop_carry (body:=fn_flow_heads_l1 X[j].2 (bgs X)) X[j].2.2.2.2.1 (fun k=>(X[j].2.2.2.2.1.take k).map (fun t:Int=>((bg X t.toNat:Nat):Int))) (X[j].2.2.2.2.1.map (fun t:Int=>((bg X t.toNat:Nat):Int))) ?_ ?_
 · unfold fn_flow_heads
   simp only [List.take_zero,List.map_nil] at hlp
   rw [hlp,Option.bind_some]
   unfold srt
   rw [if_pos (by simp; omega)]
   simp only [Option.bind_some]
   unfold cmpt
   simp only [Option.bind_some]
   congr 1
   have hs:=List.pairwise_mergeSort (le:=fun x y:Int=>decide (x≤y)) (fun a b c h1 h2=>by simp at *; omega) (fun a b=>by simp; omega) (X[j].2.2.2.2.1.map (fun t:Int=>((bg X t.toNat:Nat):Int)))
   obtain ⟨c1,c2⟩:=compact_sorted (hs.imp (fun h=>by simpa using h))
   refine strict_eq c1 (range_strict _ _) (fun a=>?_)
   rw [c2,List.mem_mergeSort]
   unfold li
   simp only [List.mem_map,List.mem_filter,List.mem_range]
   constructor
   · rintro ⟨t,ht,rfl⟩
     obtain ⟨t0,t1⟩:=hg t ht
     refine ⟨bg X t.toNat,⟨bg_lt X (by omega) (Nat.le_refl _),?_⟩,rfl⟩
     unfold gs
     rw [blk_get hj,if_pos rfl]
     exact List.any_eq_true.2 ⟨t,ht,by simp⟩
   · rintro ⟨m,⟨_,hg2⟩,rfl⟩
     unfold gs at hg2
     rw [blk_get hj,if_pos rfl] at hg2
     obtain ⟨t,ht,e⟩:=List.any_eq_true.1 hg2
     exact ⟨t,ht,by simp at e; rw [e]⟩
 · intro k hk
   obtain ⟨t0,t1⟩:=hg _ (List.getElem_mem hk)
   have e:getI (bgs X) X[j].2.2.2.2.1[k]=some ((bg X (X[j].2.2.2.2.1[k]).toNat:Nat):Int):=by
     have:=bgs_get X (k:=(X[j].2.2.2.2.1[k]).toNat) (by omega)
     rwa [Int.toNat_of_nonneg t0] at this
   unfold fn_flow_heads_l1
   simp only [dlt hk,cond_true,getN hk,Option.bind_some,e]
   rw [app_eq (by simp; omega),Option.bind_some,w64s hk (by omega),take_snoc hk,List.map_append]; rfl
 · unfold fn_flow_heads_l1
   simp only [dge (show ¬ X[j].2.2.2.2.1.length < X[j].2.2.2.2.1.length by omega),cond_false,List.take_length]
abbrev ptsOf (X:List Blk):Pts:=some (bgs X,((bg X X.length:Nat):Int))
abbrev arcs (X:List Blk):ArG:=arcN X (bg X X.length)
theorem arcs_bound {X:List Blk} (hT:Tos X) {n:Nat} (hn:n≤bg X X.length):(arcN X n).length≤1024:=by
 have h1:=arcN_len X n
 have h2:=hT.pts
 have:n * bg X X.length≤32 * 32:=Nat.mul_le_mul (by omega) h2
 omega
theorem ai_snoc (E:ArG) (n:Nat) (H:List Nat):ai (E++H.map (fun m=>(n,m)))=ai E++(li H).map (fun x=>((n:Int),x)):=by
 simp [ai,li,Function.comp_def]
theorem arcN_at {X:List Blk} {j k:Nat} (hj:j < X.length) (hk:k≤X[j].1.length):arcN X (bg X j + k + 1)=arcN X (bg X j + k)++((List.range (bg X X.length)).filter (gs X j k)).map (fun m=>(bg X j + k,m)):=by
 simp only [arcN,nxp_at hj hk]
theorem gs_mid {X:List Blk} {j k:Nat} (hj:j < X.length) (hk:k < X[j].1.length):(List.range (bg X X.length)).filter (gs X j k)=[bg X j + k + 1]:=by
 have h1:=bg_succ hj
 have h2:=bg_mono X (i:=j + 1) (j:=X.length) hj (Nat.le_refl _)
 have:gs X j k=fun m=>decide (m=bg X j + k + 1):=by
   funext m; unfold gs; rw [blk_get hj,if_neg (by omega)]
 rw [this,filter_one _ _ (by omega)]
theorem new_inner {n:Nat} {H:List Nat} {E:ArG} (hl:E.length + H.length≤1000000):loop (fn_flow_New_l1 (n:Int) (li H)) (ai E,0)=some (ai (E++H.map (fun m=>(n,m)))):=by
 have:=loop_map (li H) (fun x:Int=>((n:Int),x)) (ai E) (by rw [ai_len,li_len]; omega) (body:=fn_flow_New_l1 (n:Int) (li H)) (fun c i=>by
   unfold fn_flow_New_l1
   cases hg:getI (li H) i with
   | none=>simp [hg]
   | some x=>simp [hg])
 rw [this,ai_snoc]
theorem begins_eq {X:List Blk} (h:X.length≤1000):fn_point_Points_Begins (ptsOf X)=some (bgs X):=by
 have hc:∀ l:List Int,l.length≤1073741824→fn_slices_Clone_int_int l=some l:=fun l hl=>clone_eq l hl
 unfold fn_point_Points_Begins ptsOf
 simp only [Option.isNone_some,cond_false,Option.bind_some]
 rw [hc _ (by rw [bgs_len]; omega)]; rfl
theorem flowNew_eq {b:Bo} (h:Sm b):fn_flow_New b=some (flG (ptsOf (xs b)) (bg (xs b) (xs b).length) (arcs (xs b))):=by
 have hT:=xs_tos h
 have h32:=hT.pts
 have h8:=hT.few
 unfold fn_flow_New
 rw [show fn_point_New b=_ from pointNew_eq h]
 have e1:fn_point_Points_Len (ptsOf (xs b))=some ((bg (xs b) (xs b).length:Nat):Int):=rfl
 simp only [Option.bind_some,begins_eq (show (xs b).length≤1000 by omega),e1]
 have hl:=loop_nat (body:=fn_flow_New_l2 b (ptsOf (xs b)) (bgs (xs b)) ((bg (xs b) (xs b).length:Nat):Int)) (fun n:Nat=>(ai (arcN (xs b) n),(n:Int))) (bg (xs b) (xs b).length) (b:=ai (arcs (xs b))) ?_ ?_
 · rw [show loop (fn_flow_New_l2 b (ptsOf (xs b)) (bgs (xs b)) ((bg (xs b) (xs b).length:Nat):Int)) ([],0)=_ from hl]
   simp only [Option.bind_some]
   have hin:=arcN_in (xs b) _ (Nat.le_refl _)
   have hb:=arcs_bound hT (Nat.le_refl _)
   rw [show fn_graph_New ((bg (xs b) (xs b).length:Nat):Int) (ai (arcs (xs b)))=_ from New_ok (N:=bg (xs b) (xs b).length) (E:=arcs (xs b)) hin (by omega) (Nat.le_trans hb (by decide))]; rfl
 · intro n hn
   obtain ⟨j,k,hj,hk,rfl,_⟩:=locate (xs b) (xs b).length (Nat.le_refl _) n hn
   obtain ⟨hv,ex⟩:=xs_eq hj
   have hb:=arcs_bound hT (Nat.le_of_lt hn)
   have hat:=at_eq (X:=xs b) (by omega) (by omega) hj hk
   have hen:=ends_eq (X:=xs b) (by omega) (by omega) hj hk
   have hfl:((List.range (bg (xs b) (xs b).length)).filter (gs (xs b) j k)).length≤32:=Nat.le_trans (List.length_filter_le _ _) (by simp; omega)
   have hin:=new_inner (n:=bg (xs b) j + k) (H:=(List.range (bg (xs b) (xs b).length)).filter (gs (xs b) j k)) (E:=arcN (xs b) (bg (xs b) j + k)) (by omega)
   rw [← arcN_at hj hk] at hin
   unfold fn_flow_New_l2
   simp only [dlt hn,cond_true,hat,hen,Option.bind_some]
   by_cases q:k=(xs b)[j].1.length
   · have hgb:getI b.2.2.2.2.2.2 (j:Int)=some (xs b)[j]:=by rw [← ex]; exact getN hj
     have hh:=heads_eq hT hj
     rw [← q] at hh
     simp only [decide_eq_true q,cond_true,hgb,Option.bind_some]
     rw [show fn_flow_heads ((xs b)[j].2.1,(xs b)[j].2.2.1,(xs b)[j].2.2.2.1,(xs b)[j].2.2.2.2.1,(xs b)[j].2.2.2.2.2.1,(xs b)[j].2.2.2.2.2.2) (bgs (xs b))=_ from hh]
     simp only [Option.bind_some,hin,w64s hn (by omega)]
   · have hkl:k < (xs b)[j].1.length:=by omega
     rw [gs_mid hj hkl] at hin
     simp only [decide_eq_false q,cond_false,Option.bind_some,w64s hn (by omega)]
     rw [show ([((bg (xs b) j + k + 1:Nat):Int)]:List Int)=li [bg (xs b) j + k + 1] from rfl,hin]; rfl
 · unfold fn_flow_New_l2
   simp only [dge (show ¬ bg (xs b) (xs b).length < bg (xs b) (xs b).length by omega),cond_false]
theorem goes_eq {b:Bo} (h:Sm b) {j k m:Nat} (hj:j < (xs b).length) (hk:k≤(xs b)[j].1.length):fn_ref23_Goes b (alls (xs b)) ((bg (xs b) j + k:Nat):Int) (m:Int)=some (gs (xs b) j k m):=by
 have hT:=xs_tos h
 have h32:=hT.pts
 obtain ⟨hv,ex⟩:=xs_eq hj
 have hg:getI (alls (xs b)) ((bg (xs b) j + k:Nat):Int)=some ((j:Int),(k:Int),decide (k=(xs b)[j].1.length)):=by
   have:=alls_get (xs b) hj hk
   unfold getI; rw [if_pos (by omega),Int.toNat_natCast,this]
 have h1:=bg_succ hj
 have h2:=bg_mono (xs b) (i:=j + 1) (j:=(xs b).length) hj (Nat.le_refl _)
 have hgb:getI b.2.2.2.2.2.2 (j:Int)=some (xs b)[j]:=by rw [← ex]; exact getN hj
 unfold fn_ref23_Goes
 simp only [hg,Option.bind_some]
 unfold gs
 rw [blk_get hj]
 by_cases q:k=(xs b)[j].1.length
 · simp only [decide_eq_true q,Bool.not_true,cond_false,hgb,Option.bind_some]
   rw [if_pos q]
   have hm:(xs b)[j]∈xs b:=List.getElem_mem hj
   have hlen:=hT.len _ hm
   have hgd:=hT.good _ hm
   rw [loop_some (xs b)[j].2.2.2.2.1 (fun t=>decide (bg (xs b) t.toNat=m)) (.inr true) (.inl ()) ?_ ?_]
   · cases ((xs b)[j].2.2.2.2.1).any (fun t=>decide (bg (xs b) t.toNat=m)) <;> rfl
   · intro i hi
     obtain ⟨t0,t1⟩:=hgd _ (List.getElem_mem hi)
     have e:fn_ref22_Of (alls (xs b)) (xs b)[j].2.2.2.2.1[i] 0=some (((bg (xs b) ((xs b)[j].2.2.2.2.1[i]).toNat:Nat):Int),true):=by
       have:=refOf_eq (X:=xs b) (by omega) (j:=((xs b)[j].2.2.2.2.1[i]).toNat) (k:=0) (by omega) (by omega)
       rwa [Int.toNat_of_nonneg t0] at this
     unfold fn_ref23_Goes_l1
     simp only [dlt hi,cond_true,getN hi,Option.bind_some,e,Bool.true_and,w64s hi (by omega:(xs b)[j].2.2.2.2.1.length≤9223372036854775807)]
     by_cases c:bg (xs b) ((xs b)[j].2.2.2.2.1[i]).toNat=m
     · simp [c]
     · have c':¬ ((bg (xs b) ((xs b)[j].2.2.2.2.1[i]).toNat:Nat):Int)=(m:Int):=by omega
       simp [c,c']
   · unfold fn_ref23_Goes_l1
     simp
 · simp only [decide_eq_false q,Bool.not_false,cond_true]
   rw [if_neg q,w64 (by omega) (by omega)]
   congr 1
   by_cases c:m=bg (xs b) j + k + 1
   · rw [decide_eq_true c,decide_eq_true (by omega)]
   · rw [decide_eq_false c,decide_eq_false (by omega)]
theorem refArcs23_eq {b:Bo} (h:Sm b):fn_ref23_Arcs b=some (ai (arcs (xs b))):=by
 have hT:=xs_tos h
 have h32:=hT.pts
 have hal:=alls_len (xs b)
 unfold fn_ref23_Arcs
 rw [show fn_ref22_All b=_ from refAll_eq h]
 simp only [Option.bind_some]
 have hl:=loop_nat (body:=fn_ref23_Arcs_l2 b (alls (xs b))) (fun n:Nat=>(ai (arcN (xs b) n),(n:Int))) (bg (xs b) (xs b).length) (b:=ai (arcs (xs b))) ?_ ?_
 · rw [show loop (fn_ref23_Arcs_l2 b (alls (xs b))) ([],0)=_ from hl]; rfl
 · intro n hn
   obtain ⟨j,k,hj,hk,rfl,_⟩:=locate (xs b) (xs b).length (Nat.le_refl _) n hn
   have hb:=arcs_bound hT (Nat.le_of_lt hn)
   have hin:=loop_nat (body:=fn_ref23_Arcs_l1 b (alls (xs b)) ((bg (xs b) j + k:Nat):Int)) (fun i:Nat=>(ai (arcN (xs b) (bg (xs b) j + k)++((List.range i).filter (gs (xs b) j k)).map (fun m=>(bg (xs b) j + k,m))),(i:Int))) (bg (xs b) (xs b).length) (b:=ai (arcN (xs b) (bg (xs b) j + k + 1))) ?_ ?_
   · unfold fn_ref23_Arcs_l2
     simp only [hal,dlt hn,cond_true]
     have hin':loop (fn_ref23_Arcs_l1 b (alls (xs b)) ((bg (xs b) j + k:Nat):Int)) (ai (arcN (xs b) (bg (xs b) j + k)),0)=some (ai (arcN (xs b) (bg (xs b) j + k + 1))):=by simpa using hin
     rw [hin',Option.bind_some,w64s hn (by omega)]
   · intro i hi
     have hfl:((List.range i).filter (gs (xs b) j k)).length≤32:=Nat.le_trans (List.length_filter_le _ _) (by simp; omega)
     unfold fn_ref23_Arcs_l1
     simp only [hal,dlt hi,cond_true,show fn_ref23_Goes b (alls (xs b)) ((bg (xs b) j + k:Nat):Int) (i:Int)=_ from goes_eq h hj hk,Option.bind_some,w64s hi (by omega:bg (xs b) (xs b).length≤9223372036854775807)]
     rw [List.range_succ,List.filter_append]
     cases hgi:gs (xs b) j k i with
     | true =>
       rw [cond_true,app_eq (by rw [ai_len]; simp; omega),Option.bind_some]
       have e:[i].filter (gs (xs b) j k)=[i]:=by simp [hgi]
       rw [e]
       simp [ai]
     | false =>
       have e:[i].filter (gs (xs b) j k)=[]:=by simp [hgi]
       rw [e,List.append_nil]; rfl
   · unfold fn_ref23_Arcs_l1
     simp only [hal,dge (show ¬ bg (xs b) (xs b).length < bg (xs b) (xs b).length by omega),cond_false,arcN_at hj hk]
 · unfold fn_ref23_Arcs_l2
   simp only [hal,dge (show ¬ bg (xs b) (xs b).length < bg (xs b) (xs b).length by omega),cond_false]
section
section
variable {P:Pts} {N:Nat} {E:ArG}
theorem tn_fst (E:ArG):(tn E).map (·.1)=E.map (·.2):=by simp [tn]
theorem flBack_of (hn:N≤1048576) (he:E.length≤67108864) {v:Nat} (h:v < N):fn_flow_Flow_Back (flG P N E) (v:Int)=some (li (nxt (tn E) v)):=by
 unfold fn_flow_Flow_Back fn_flow_Flow_ways
 simp only [Option.isNone_some,cond_false,Option.bind_some]
 rw [In_of hn he h,Option.bind_some]
 have hb:=occ_bound (E.map (·.2)) v
 simp at hb
 generalize hO:occ (E.map (·.2)) v=O at hb ⊢
 have hO2:∀ i∈O,i < E.length:=fun i hi=>by
   rw [← hO] at hi
   obtain ⟨h1,_⟩:=occ_mem.1 hi
   simpa using h1
 have hx:nxt (tn E) v=O.map (fun i=>(E.getD i (0,0)).1):=by
   unfold nxt; rw [tn_fst,hO]
   refine List.map_congr_left (fun i hi=>?_)
   have:=hO2 i hi
   simp [tn,this]
 rw [hx]
 have hl:=loop_nat (body:=fn_flow_Flow_Back_l1 (flG P N E) (O.map (fun i:Nat=>(i:Int)))) (fun k:Nat=>((O.take k).map (fun i=>(((E.getD i (0,0)).1:Nat):Int))++(O.drop k).map (fun i:Nat=>(i:Int)),(k:Int))) O.length (b:=(O.map (fun i=>(((E.getD i (0,0)).1:Nat):Int)))) ?_ ?_
 · simp only [List.take_zero,List.map_nil,List.nil_append,List.drop_zero] at hl
   rw [show ((0:Int))=((0:Nat):Int) from rfl,hl]
   simp [li]
 · intro k hk
   have hk':k < (O.map (fun i:Nat=>(i:Int))).length:=by simpa using hk
   have hi:=hO2 _ (List.getElem_mem hk)
   have hlen:((O.take k).map (fun i=>(((E.getD i (0,0)).1:Nat):Int))).length=k:=by simp; omega
   have g1:getI ((O.take k).map (fun i=>(((E.getD i (0,0)).1:Nat):Int))++(O.drop k).map (fun i:Nat=>(i:Int))) (k:Int)=some ((O[k]:Nat):Int):=by
     rw [getN (by simp; omega),List.getElem_append_right (by omega)]
     simp only [List.getElem_map,List.getElem_drop,hlen,Nat.sub_self,Nat.add_zero]
   have g2:fn_graph_Graph_Arc (some (mkG N E)) ((O[k]:Nat):Int)=some (((E[O[k]].1:Nat):Int),((E[O[k]].2:Nat):Int),true):=by
     rw [Arc_of,dif_pos ⟨by omega,by omega⟩]
     simp
   unfold fn_flow_Flow_Back_l1
   simp only [dlt hk',cond_true,g1,Option.bind_some,g2,Int.toNat_natCast,w64s hk' (by simp; omega)]
   congr 3
   rw [take_snoc hk,List.map_append,List.drop_eq_getElem_cons hk,List.map_cons,List.set_append_right _ _ (by omega),hlen,Nat.sub_self,List.set_cons_zero,List.append_assoc]
   simp [hi]
 · simp [fn_flow_Flow_Back_l1]
end
end
section
theorem gmap {α:Type} {m j:Nat} {f:Nat→α} (h:j < m):getI ((List.range m).map f) (j:Int)=some (f j):=by
 rw [getN (by simpa using h)]; simp
theorem smap {α:Type} {m j:Nat} {f:Nat→α} {y:α}:((List.range m).map f).set j y=(List.range m).map (fun v=>if v=j then y else f v):=by
 apply List.ext_getElem
 · simp
 · intro i h1 h2
   simp only [List.getElem_set,List.getElem_map,List.getElem_range]
   by_cases q:j=i
   · subst q; simp
   · rw [if_neg q,if_neg (fun e=>q e.symm)]
theorem cmap {α:Type} {m:Nat} {f g:Nat→α} (h:∀ v,v < m→f v=g v):(List.range m).map f=(List.range m).map g:=List.map_congr_left fun v hv=>h v (List.mem_range.1 hv)
theorem rmap {α:Type} (m:Nat) (z:α):List.replicate m z=(List.range m).map (fun _=>z):=by
 apply List.ext_getElem <;> simp
theorem chk_self (a:Int):chkI a a=some ():=by unfold chkI; simp
abbrev Tc:=List Int×List Int
def srtd (l:List Int):List Int:=l.mergeSort fun x y=>decide (x≤y)
theorem srt_eq {l:List Int} (h:l.length≤1073741824):srt l=some (srtd l):=by unfold srt; rw [if_pos h]; rfl
def cp (l:List Int):List Int:=Lib.compact (srtd l)
theorem srtd_le (l:List Int):(srtd l).Pairwise (·≤·):=by
 have:=List.pairwise_mergeSort (le:=fun x y:Int=>decide (x≤y)) (fun a b c h1 h2=>by simp at *; omega) (fun a b=>by simp; omega) l
 exact this.imp (fun h=>by simpa using h)
theorem cp_lt (l:List Int):(cp l).Pairwise (· < ·):=(compact_sorted (srtd_le l)).1
theorem cp_mem (l:List Int) (a:Int):a∈cp l↔a∈l:=by
 rw [cp,(compact_sorted (srtd_le l)).2 a]; unfold srtd; exact List.mem_mergeSort
theorem cp_len (l:List Int):(cp l).length≤l.length:=by
 have:=Lib.compact_length_le (srtd l)
 unfold srtd at this
 rw [List.length_mergeSort] at this
 exact this
theorem cp_nd (l:List Int):(cp l).Nodup:=(cp_lt l).imp (fun h=>by omega)
def sT (s:Stm):Tc:=(if sSrc s.1 then [s.2.2.1] else [],if sDst s.1 then [s.2.1] else [])
def tT (x:Tm):Tc:=if x.1=2 then (x.2.2.2.2.1,[]) else if x.1=4 then (x.2.2.2.2.1,[x.2.2.1]) else if x.1=3 then ([0],[]) else ([],[])
def cpT (t:Tc):Tc:=(cp t.1,t.2)
def rowP (x:Blk):List Tc:=x.1.map (fun s=>cpT (sT s))++[cpT (tT x.2)]
theorem rowP_len (x:Blk):(rowP x).length=x.1.length + 1:=by simp [rowP]
def ptsN (X:List Blk):Nat→List Tc
 | 0=>[]
 | i + 1=>ptsN X i++rowP (X.getD i ([],0,0,0,[],[],[]))
theorem ptsN_len (X:List Blk):∀ i,i≤X.length→(ptsN X i).length=bg X i
 | 0,_=>by simp [ptsN,bg,stm]
 | i + 1,h=>by
   have ih:=ptsN_len X i (by omega)
   rw [bg_succ (by omega)]
   simp only [ptsN,List.length_append,ih,rowP_len,getD_eq (show i < X.length by omega)]; omega
theorem ptsN_get (X:List Blk):∀ i,i≤X.length→∀ j k,j < i→(hj:j < X.length)→k≤X[j].1.length→(ptsN X i)[bg X j + k]? = (rowP X[j])[k]?
 | 0,_,j,k,h,_,_=>by omega
 | i + 1,h,j,k,hji,hj,hk=>by
   have hl:=ptsN_len X i (by omega)
   unfold ptsN
   by_cases q:j=i
   · subst q
     rw [List.getElem?_append_right (by omega),hl,Nat.add_sub_cancel_left,getD_eq hj]
   · have h1:=bg_mono X (i:=j + 1) (j:=i) (by omega) (by omega)
     rw [bg_succ hj] at h1
     rw [List.getElem?_append_left (by omega)]
     exact ptsN_get X i (by omega) j k (by omega) hj hk
abbrev pts (X:List Blk):List Tc:=ptsN X X.length
theorem pts_len (X:List Blk):(pts X).length=bg X X.length:=ptsN_len X _ (Nat.le_refl _)
theorem rowP_stm {x:Blk} {k:Nat} (h:k < x.1.length):(rowP x)[k]? = some (cpT (sT x.1[k])):=by
 unfold rowP; rw [List.getElem?_append_left (by simpa using h)]; simp [h]
theorem rowP_end {x:Blk}:(rowP x)[x.1.length]? = some (cpT (tT x.2)):=by
 unfold rowP; rw [List.getElem?_append_right (by simp)]; simp
def rdr (P:List Tc) (l:Nat):List Int:=((List.range P.length).filter (fun n=>decide ((l:Int)∈(P.getD n ([],[])).1))).map (fun n:Nat=>(n:Int))
def wtr (P:List Tc) (l:Nat):List Int:=((List.range P.length).filter (fun n=>decide ((l:Int)∈(P.getD n ([],[])).2))).map (fun n:Nat=>(n:Int))
def lcs (N:Nat) (P:List Tc):List Tc:=(List.range N).map fun l=>(rdr P l,wtr P l)
theorem who_snoc (P:List Tc) (t:Tc) (p:Tc→Bool):((List.range (P++[t]).length).filter (fun n=>p ((P++[t]).getD n ([],[])))).map (fun n:Nat=>(n:Int)) =
   ((List.range P.length).filter (fun n=>p (P.getD n ([],[])))).map (fun n:Nat=>(n:Int))++if p t then [(P.length:Int)] else []:=by
 rw [List.length_append,List.length_singleton,List.range_succ,List.filter_append,List.map_append]
 congr 1
 · congr 1
   refine List.filter_congr (fun n hn=>?_)
   have hn:n < P.length:=List.mem_range.1 hn
   rw [getD_eq (by simp; omega),getD_eq hn,List.getElem_append_left hn]
 · have:(P++[t]).getD P.length ([],[])=t:=by simp [List.getD]
   simp only [List.filter_cons,List.filter_nil,this]
   cases p t <;> rfl
theorem rdr_snoc (P:List Tc) (t:Tc) (l:Nat):rdr (P++[t]) l=rdr P l++if (l:Int)∈t.1 then [(P.length:Int)] else []:=by
 have:=who_snoc P t (fun u=>decide ((l:Int)∈u.1))
 unfold rdr; rw [this]; simp
theorem wtr_snoc (P:List Tc) (t:Tc) (l:Nat):wtr (P++[t]) l=wtr P l++if (l:Int)∈t.2 then [(P.length:Int)] else []:=by
 have:=who_snoc P t (fun u=>decide ((l:Int)∈u.2))
 unfold wtr; rw [this]; simp
theorem rdr_len (P:List Tc) (l:Nat):(rdr P l).length≤P.length:=by
 unfold rdr; rw [List.length_map]
 exact Nat.le_trans (List.length_filter_le ..) (by simp)
theorem wtr_len (P:List Tc) (l:Nat):(wtr P l).length≤P.length:=by
 unfold wtr; rw [List.length_map]
 exact Nat.le_trans (List.length_filter_le ..) (by simp)
theorem cloneT (l:List Int) (h:l.length≤1000000):fn_slices_Clone_int_int l=some l:=by
 unfold fn_slices_Clone_int_int
 rw [app_eq (by simp; omega),nilb_eq (fun e=>by subst e; rfl)]
 simp
theorem byStmt_eq (s:Stm):fn_touch_byStmt (s.1,s.2.1,s.2.2.1,s.2.2.2.1,s.2.2.2.2)=some (sT s):=by
 unfold fn_touch_byStmt sT sSrc sDst
 by_cases h1:s.1=1
 · simp [h1]
 · by_cases h2:s.1=2
   · simp [h2]
   · by_cases h3:s.1=3
     · simp [h3]
     · by_cases h4:s.1=4
       · simp [h4]
       · by_cases h5:s.1=5
         · simp [h5]
         · have:¬ (1≤s.1∧s.1≤4):=by omega
           simp [h1,h2,h3,h4,h5,this]
theorem byTerm_eq (x:Tm) (h:x.2.2.2.2.1.length≤1000):fn_touch_byTerm (x.1,x.2.1,x.2.2.1,x.2.2.2.1,x.2.2.2.2.1,x.2.2.2.2.2)=some (tT x):=by
 unfold fn_touch_byTerm tT
 have hc:=cloneT x.2.2.2.2.1 (by omega)
 simp only [hc,Option.bind_some,agr_self]
 by_cases h1:x.1=2
 · simp [h1]
 · by_cases h2:x.1=4
   · simp [h2]
   · by_cases h3:x.1=3
     · simp [h3]
     · simp [h1,h2,h3]
section
variable {N:Nat} {P:List Tc}
def inLT (N:Nat) (l:List Int):Prop:=∀ a∈l,0≤a∧a < (N:Int)
theorem add_r {q:List Int} (hq:inLT N q) (hn:q.Nodup) (hql:q.length≤1000) (f:Nat→Tc) (hf:∀ l,l < N→(f l).1.length≤1000000) :
   loop (fn_touch_Touches_add_p0arr_rod_l1 P q) (0,(List.range N).map f)=some ((List.range N).map fun (l:Nat)=>if (l:Int)∈q then ((f l).1++[(P.length:Int)],(f l).2) else f l):=by
 have h:=loop_nat (body:=fn_touch_Touches_add_p0arr_rod_l1 P q) (fun k:Nat=>((k:Int),(List.range N).map fun (l:Nat)=>if (l:Int)∈q.take k then ((f l).1++[(P.length:Int)],(f l).2) else f l)) q.length (b:=(List.range N).map fun (l:Nat)=>if (l:Int)∈q then ((f l).1++[(P.length:Int)],(f l).2) else f l) ?_ ?_
 · simpa using h
 · intro k hk
   obtain ⟨h1,h2⟩:=hq _ (List.getElem_mem hk)
   obtain ⟨m,hm⟩:=Int.eq_ofNat_of_zero_le h1
   have hmN:m < N:=by rw [hm] at h2; exact Int.ofNat_lt.1 h2
   have hnot:¬ ((m:Nat):Int)∈q.take k:=by
     intro hmem
     obtain ⟨i,hi,e⟩:=List.getElem_of_mem hmem
     simp at hi
     rw [List.getElem_take] at e
     exact List.pairwise_iff_getElem.1 hn i k (by omega) hk (by omega) (e.trans hm.symm)
   have hg:getI ((List.range N).map fun (l:Nat)=>if (l:Int)∈q.take k then ((f l).1++[(P.length:Int)],(f l).2) else f l) ((m:Nat):Int)=some (f m):=by
     rw [gmap hmN,if_neg hnot]
   have hfl:=hf m hmN
   unfold fn_touch_Touches_add_p0arr_rod_l1
   simp only [dlt hk,cond_true,getN hk,Option.bind_some,hm,hg,chk_self]
   rw [app_eq (by simp; omega)]
   simp only [Option.bind_some,w64s hk (by omega:q.length≤9223372036854775807),Int.toNat_natCast,Option.some.injEq,Sum.inl.injEq,Prod.mk.injEq,true_and]
   rw [smap]
   refine cmap (fun v hv=>?_)
   rw [take_snoc hk,hm]
   by_cases e:v=m
   · subst e; simp
   · have:¬ (v:Int)=(m:Int):=by omega
     simp [e,this]
 · unfold fn_touch_Touches_add_p0arr_rod_l1
   simp
theorem add_w {q:List Int} (hq:inLT N q) (hn:q.Nodup) (hql:q.length≤1000) (f:Nat→Tc) (hf:∀ l,l < N→(f l).2.length≤1000000) :
   loop (fn_touch_Touches_add_p0arr_rod_l2 q P) (0,(List.range N).map f)=some ((List.range N).map fun (l:Nat)=>if (l:Int)∈q then ((f l).1,(f l).2++[(P.length:Int)]) else f l):=by
 have h:=loop_nat (body:=fn_touch_Touches_add_p0arr_rod_l2 q P) (fun k:Nat=>((k:Int),(List.range N).map fun (l:Nat)=>if (l:Int)∈q.take k then ((f l).1,(f l).2++[(P.length:Int)]) else f l)) q.length (b:=(List.range N).map fun (l:Nat)=>if (l:Int)∈q then ((f l).1,(f l).2++[(P.length:Int)]) else f l) ?_ ?_
 · simpa using h
 · intro k hk
   obtain ⟨h1,h2⟩:=hq _ (List.getElem_mem hk)
   obtain ⟨m,hm⟩:=Int.eq_ofNat_of_zero_le h1
   have hmN:m < N:=by rw [hm] at h2; exact Int.ofNat_lt.1 h2
   have hnot:¬ ((m:Nat):Int)∈q.take k:=by
     intro hmem
     obtain ⟨i,hi,e⟩:=List.getElem_of_mem hmem
     simp at hi
     rw [List.getElem_take] at e
     exact List.pairwise_iff_getElem.1 hn i k (by omega) hk (by omega) (e.trans hm.symm)
   have hg:getI ((List.range N).map fun (l:Nat)=>if (l:Int)∈q.take k then ((f l).1,(f l).2++[(P.length:Int)]) else f l) ((m:Nat):Int)=some (f m):=by
     rw [gmap hmN,if_neg hnot]
   have hfl:=hf m hmN
   unfold fn_touch_Touches_add_p0arr_rod_l2
   simp only [dlt hk,cond_true,getN hk,Option.bind_some,hm,hg,chk_self]
   rw [app_eq (by simp; omega)]
   simp only [Option.bind_some,w64s hk (by omega:q.length≤9223372036854775807),Int.toNat_natCast,Option.some.injEq,Sum.inl.injEq,Prod.mk.injEq,true_and]
   rw [smap]
   refine cmap (fun v hv=>?_)
   rw [take_snoc hk,hm]
   by_cases e:v=m
   · subst e; simp
   · have:¬ (v:Int)=(m:Int):=by omega
     simp [e,this]
 · unfold fn_touch_Touches_add_p0arr_rod_l2
   simp
structure Tg (N:Nat) (t:Tc):Prop where
 r:inLT N t.1
 w:inLT N t.2
 rl:t.1.length≤1000
 wl:t.2.length≤1
theorem add_eq {t:Tc} (h:Tg N t) (hP:P.length≤100000):fn_touch_Touches_add_p0arr_rod t.1 t.2 P (lcs N P)=some (P++[cpT t],lcs N (P++[cpT t])):=by
 have hc:=cp_len t.1
 have hrl:=h.rl
 have hwl:=h.wl
 have hq:inLT N (cp t.1):=fun a ha=>h.r a ((cp_mem _ _).1 ha)
 have hwn:t.2.Nodup:=by
   cases hw:t.2 with
   | nil=>simp
   | cons a l =>
     rw [hw] at hwl
     have:l=[]:=by cases l with
       | nil=>rfl
       | cons b l=>simp at hwl
     simp [this]
 unfold fn_touch_Touches_add_p0arr_rod
 rw [srt_eq (by omega),Option.bind_some,show cmpt (srtd t.1)=some (cp t.1) from rfl,Option.bind_some,app_eq (by simp; omega),Option.bind_some]
 unfold lcs
 rw [add_r hq (cp_nd _) (by omega) _ (fun l hl=>by have:=rdr_len P l; dsimp only; omega),Option.bind_some,
   add_w h.w hwn (by omega) _ (fun l hl=>by have:=wtr_len P l; dsimp only; split <;> (dsimp only; omega)),Option.bind_some]
 simp only [Option.some.injEq,Prod.mk.injEq]
 refine ⟨rfl,cmap (fun l hl=>?_)⟩
 rw [rdr_snoc,wtr_snoc]
 show _=(rdr P l++(if (l:Int)∈cp t.1 then _ else _),wtr P l++(if (l:Int)∈t.2 then _ else _))
 by_cases c1:(l:Int)∈cp t.1 <;> by_cases c2:(l:Int)∈t.2 <;> simp [c1,c2]
end
theorem sE_in {L:List (List St)} {R:Int} {x:Stm} (h:sE L R x=0):fOk x=true∧(sDst x.1=true→loc L x.2.1=true)∧(sSrc x.1=true→loc L x.2.2.1=true):=by
 unfold sE fn_ref18_Needs at h
 have g1:fn_ref18_Dst x.1=some (sDst x.1):=rfl
 have g2:fn_ref18_Src x.1=some (sSrc x.1):=rfl
 rw [show fn_ref18_Form (x.1,x.2.1,x.2.2.1,x.2.2.2.1,x.2.2.2.2)=_ from refForm_eq x] at h
 simp only [Option.bind_some,g1,g2,loc_ref] at h
 cases hf:fOk x with
 | false=>rw [hf] at h; simp at h
 | true =>
   rw [hf] at h
   simp only [Bool.not_true,cond_false] at h
   cases c1:(sDst x.1&&!loc L x.2.1) with
   | true=>rw [c1] at h; simp at h
   | false =>
     rw [c1] at h
     simp only [cond_false,Option.bind_some] at h
     cases c2:(sSrc x.1&&!loc L x.2.2.1) with
     | true=>rw [c2] at h; simp at h
     | false =>
       refine ⟨rfl,fun e=>?_,fun e=>?_⟩
       · rw [e] at c1; simpa using c1
       · rw [e] at c2; simpa using c2
theorem tE_in {a:Ar} {x:Tm} (h:tE a x=0) (hl:x.2.2.2.1.length≤20) (hl2:x.2.2.2.2.1.length≤20) (hl3:x.2.2.2.2.2.length≤20) :
   tForm x=0∧bad (a.2.2.1.length:Int) x.2.2.2.2.1=false∧(x.1=4→bad (a.2.2.1.length:Int) [x.2.2.1]=false)∧(x.1=3→¬ a.2.2.1.length=0):=by
 unfold tE fn_ref19_Needs at h
 rw [show fn_ref19_Form (x.1,x.2.1,x.2.2.1,x.2.2.2.1,x.2.2.2.2.1,x.2.2.2.2.2)=_ from refTForm_eq x] at h
 simp only [Option.bind_some,refWithin_eq x.2.2.2.1 _ (by omega),refWithin_eq x.2.2.2.2.1 _ (by omega),refWithin_eq x.2.2.2.2.2 _ (by omega),refWithin_eq [x.2.2.1] _ (by simp),refWithin_eq [x.2.1] _ (by simp),Bool.not_not] at h
 by_cases q2:tForm x=0
 · rw [decide_eq_true q2,Bool.not_true,cond_false] at h
   cases c1:bad a.1 x.2.2.2.1 with
   | true=>rw [c1] at h; simp at h
   | false =>
     rw [c1] at h
     simp only [cond_false,Option.bind_some] at h
     cases c2:bad (a.2.2.1.length:Int) x.2.2.2.2.1 with
     | true=>rw [c2] at h; simp at h
     | false =>
       rw [c2] at h
       simp only [cond_false,Option.bind_some] at h
       cases c3:bad a.2.1 x.2.2.2.2.2 with
       | true=>rw [c3] at h; simp at h
       | false =>
         rw [c3] at h
         simp only [cond_false,Option.bind_some] at h
         refine ⟨q2,rfl,fun e=>?_,fun e=>?_⟩
         · cases c4:bad (a.2.2.1.length:Int) [x.2.2.1] with
           | false=>rfl
           | true=>rw [c4] at h; simp [e] at h
         · intro e0
           rw [e,e0] at h
           simp at h
 · rw [decide_eq_false q2,Bool.not_false,cond_true] at h
   exact absurd h q2
theorem vor0z {a b:Flt} (h:(or0 a b).1=0):a.1=0∧b.1=0:=by
 unfold or0 at h
 split at h
 · rename_i q; exact ⟨q,h⟩
 · rename_i q; exact absurd h q
theorem vck_all {b:Bo} (h:(vck b).1=0):∀ x∈b.2.2.2.2.2.2,(∀ s∈x.1,sE b.2.2.2.1 b.2.1 s=0)∧tE (arOf b) x.2=0:=by
 unfold vck at h
 have hc:=(vor0z (vor0z (vor0z (vor0z (vor0z (vor0z h).2).2).2).2).2).2
 unfold vCode at hc
 cases hq:b.2.2.2.2.2.2.findIdx? (fun x=>(blkE b x).isSome) with
 | none =>
   intro x hx
   have:=List.findIdx?_eq_none_iff.1 hq x hx
   unfold blkE at this
   split at this
   · simp at this
   · rename_i hs
     refine ⟨fun s hm=>?_,?_⟩
     · have:=List.findIdx?_eq_none_iff.1 hs s hm
       simpa using this
     · by_cases q:tE (arOf b) x.2=0
       · exact q
       · rw [if_neg q] at this; simp at this
 | some k =>
   exfalso
   rw [hq] at hc
   obtain ⟨hk,hcc,_⟩:=List.findIdx?_eq_some_iff_getElem.1 hq
   have e:b.2.2.2.2.2.2.getD k ([],0,0,0,[],[],[])=b.2.2.2.2.2.2[k]:=by simp [List.getD,hk]
   simp only [e] at hc
   unfold blkE at hcc hc
   split at hcc
   · rename_i j hj
     rw [hj] at hc
     obtain ⟨hj1,hj2,_⟩:=List.findIdx?_eq_some_iff_getElem.1 hj
     have e2:b.2.2.2.2.2.2[k].1.getD j (0,0,0,0,false)=b.2.2.2.2.2.2[k].1[j]:=by simp [List.getD,hj1]
     simp only [e2,fltOf] at hc
     simp [hc] at hj2
   · rename_i hj
     rw [hj] at hc
     by_cases q:tE (arOf b) b.2.2.2.2.2.2[k].2=0
     · rw [if_pos q] at hcc; simp at hcc
     · rw [if_neg q] at hc; simp only [fltOf] at hc; exact q hc
theorem bad_in {n:Nat} {l:List Int} (h:bad (n:Int) l=false):inLT n l:=by
 intro a ha
 unfold bad at h
 rw [List.any_eq_false] at h
 have:=h a ha
 simp at this
 omega
structure Vb (N:Nat) (X:List Blk):Prop where
 st:∀ x∈X,∀ s∈x.1,Tg N (sT s)
 tm:∀ x∈X,Tg N (tT x.2)
 fm:∀ x∈X,tForm x.2=0
 ar:∀ x∈X,x.2.2.2.2.2.1.length≤20
 pos:X≠[]→0 < N
theorem vb_of {b:Bo} (h:Sm b):Vb b.2.2.2.1.length (xs b):=by
 unfold xs
 by_cases q:(vck b).1=0
 · rw [if_pos q]
   have ha:=vck_all q
   refine ⟨fun x hx s hs=>?_,fun x hx=>?_,fun x hx=>?_,fun x hx=>(h.term x hx).2.1,fun _=>?_⟩
   · obtain ⟨h1,h2,h3⟩:=sE_in ((ha x hx).1 s hs)
     refine ⟨fun a m=>?_,fun a m=>?_,?_,?_⟩
     · unfold sT at m; dsimp only at m
       by_cases c:sSrc s.1=true
       · rw [if_pos c] at m; simp at m; subst m
         have:=h3 c; unfold loc at this; simp at this; omega
       · rw [if_neg c] at m; simp at m
     · unfold sT at m; dsimp only at m
       by_cases c:sDst s.1=true
       · rw [if_pos c] at m; simp at m; subst m
         have:=h2 c; unfold loc at this; simp at this; omega
       · rw [if_neg c] at m; simp at m
     · unfold sT; dsimp only; split <;> simp
     · unfold sT; dsimp only; split <;> simp
   · obtain ⟨a1,a2,a3⟩:=h.term x hx
     obtain ⟨h1,h2,h3,h4⟩:=tE_in (ha x hx).2 a1 a2 a3
     unfold tT
     by_cases c1:x.2.1=2
     · rw [if_pos c1]; exact ⟨bad_in h2,fun a m=>by simp at m,by dsimp only; omega,by simp⟩
     · rw [if_neg c1]
       by_cases c2:x.2.1=4
       · rw [if_pos c2]; exact ⟨bad_in h2,bad_in (h3 c2),by dsimp only; omega,by simp⟩
       · rw [if_neg c2]
         by_cases c3:x.2.1=3
         · rw [if_pos c3]
           have:=h4 c3
           refine ⟨fun a m=>?_,fun a m=>by simp at m,by simp,by simp⟩
           simp at m; subst m
           unfold arOf at this; dsimp only at this
           omega
         · rw [if_neg c3]; exact ⟨fun a m=>by simp at m,fun a m=>by simp at m,by simp,by simp⟩
   · obtain ⟨a1,a2,a3⟩:=h.term x hx
     exact (tE_in (ha x hx).2 a1 a2 a3).1
   · unfold vck at q
     have hl:=(vor0z (vor0z (vor0z q).2).2).1
     unfold vLoc at hl
     by_cases c:b.2.2.2.1=[]
     · rw [if_pos c] at hl; simp at hl
     · exact List.length_pos_iff.2 c
 · rw [if_neg q]
   exact ⟨fun x hx=>(by cases hx),fun x hx=>(by cases hx),fun x hx=>(by cases hx),fun x hx=>(by cases hx),fun e=>absurd rfl e⟩
theorem new_l1 {N:Nat} {x:Blk} {P:List Tc} (hx:∀ s∈x.1,Tg N (sT s)) (hl:x.1.length≤1000) (hP:P.length≤10000) :
   loop (fn_touch_New_l1 x) (0,P,lcs N P)=some (P++x.1.map (fun s=>cpT (sT s)),lcs N (P++x.1.map (fun s=>cpT (sT s)))):=by
 have h:=loop_nat (body:=fn_touch_New_l1 x) (fun k:Nat=>((k:Int),P++(x.1.take k).map (fun s=>cpT (sT s)),lcs N (P++(x.1.take k).map (fun s=>cpT (sT s))))) x.1.length (b:=(P++x.1.map (fun s=>cpT (sT s)),lcs N (P++x.1.map (fun s=>cpT (sT s))))) ?_ ?_
 · simpa using h
 · intro k hk
   unfold fn_touch_New_l1
   simp only [dlt hk,cond_true,getN hk,Option.bind_some,byStmt_eq]
   rw [show fn_touch_Touches_add_p0arr_rod (sT x.1[k]).1 (sT x.1[k]).2 _ _=_ from add_eq (hx _ (List.getElem_mem hk)) (by simp; omega),Option.bind_some]
   simp only [w64s hk (by omega:x.1.length≤9223372036854775807),take_snoc hk,List.map_append,List.map_cons,List.map_nil,List.append_assoc]
 · unfold fn_touch_New_l1
   simp
theorem touchNew_eq {b:Bo} (h:Sm b):fn_touch_New b=some (some (pts (xs b),if bg (xs b) (xs b).length=0 then [] else lcs b.2.2.2.1.length (pts (xs b)))):=by
 obtain ⟨hb,hX8⟩:=xs_bound h (Nat.le_refl _)
 have hv:=vb_of h
 have hNL:=h.locals
 have hxs:bg (xs b) (xs b).length≠0→xs b=b.2.2.2.2.2.2:=by
   unfold xs; split
   · intro _; rfl
   · intro hc; exact absurd (by simp [bg,stm]) hc
 have hbs:=h
 unfold fn_touch_New
 rw [show fn_point_New b=_ from pointNew_eq h,Option.bind_some,show fn_point_Points_Len (some (bgs (xs b),((bg (xs b) (xs b).length:Nat):Int)))=some ((bg (xs b) (xs b).length:Nat):Int) from rfl,Option.bind_some]
 by_cases q:bg (xs b) (xs b).length=0
 · rw [if_pos q,q]
   have:pts (xs b)=[]:=by
     have:=pts_len (xs b); rw [q] at this; exact List.length_eq_zero_iff.1 this
   rw [this]; rfl
 · rw [if_neg q,decide_eq_false (by omega),cond_false,mkN (by omega),Option.bind_some]
   have hX:=hxs q
   have hl0:List.replicate b.2.2.2.1.length (([],[]):Tc)=lcs b.2.2.2.1.length []:=by rw [rmap]; rfl
   rw [hl0]
   have hL:=loop_nat (body:=fn_touch_New_l2 b) (fun k:Nat=>((k:Int),ptsN (xs b) k,lcs b.2.2.2.1.length (ptsN (xs b) k))) (xs b).length (b:=(pts (xs b),lcs b.2.2.2.1.length (pts (xs b)))) ?_ ?_
   · rw [show loop (fn_touch_New_l2 b) (0,[],lcs b.2.2.2.1.length [])=_ from hL]; rfl
   · intro k hk
     have hk2:k < b.2.2.2.2.2.2.length:=by rw [← hX]; exact hk
     have hget:getI b.2.2.2.2.2.2 (k:Int)=some (xs b)[k]:=by rw [getN hk2]; simp only [hX]
     have hm:(xs b)[k]∈xs b:=List.getElem_mem hk
     have a0:=ptsN_len (xs b) k (by omega)
     have a1:=bg_mono (xs b) (i:=k + 1) (j:=(xs b).length) hk (Nat.le_refl _)
     rw [bg_succ hk] at a1
     have a2:=hv.ar _ hm
     unfold fn_touch_New_l2
     simp only [dlt hk2,cond_true,hget,Option.bind_some]
     rw [new_l1 (hv.st _ hm) (by omega) (by omega),Option.bind_some]
     dsimp only
     rw [byTerm_eq (xs b)[k].2 (by omega),Option.bind_some,add_eq (hv.tm _ hm) (by simp; omega),Option.bind_some,w64s hk (by omega)]
     simp only [ptsN,rowP,getD_eq hk,List.append_assoc]
   · unfold fn_touch_New_l2
     dsimp only
     rw [dge (by rw [← hX]; omega),cond_false]
end
section
section
variable {P:List Tc} {C:List Tc}
theorem tLen:fn_touch_Touches_Len (some (P,C))=some ((P.length:Nat):Int):=rfl
end
theorem cp_one (a:Int):cp [a]=[a]:=by
 refine strict_eq (cp_lt _) (by simp) (fun x=>?_)
 rw [cp_mem]
end
theorem ofInt_nat (x:Nat):BitVec.ofInt 64 (x:Int)=BitVec.ofNat 64 x:=by simp
theorem wrapU (x:Nat) (h:x < 18446744073709551616):IntKind.wrap .u64 (x:Int)=(x:Int):=by
 rw [IntKind.wrap_u64]
 omega
theorem pow_lt64 {k:Nat} (hk:k < 64):2 ^ k < 18446744073709551616:=Nat.pow_lt_pow_right (by decide) hk
theorem one_pow {k:Nat} (hk:k < 64):IntKind.wrap .u64 (1 * 2 ^ (min k (IntKind.bits .u64)))=((2 ^ k:Nat):Int):=by
 have h1:min k (IntKind.bits .u64)=k:=Nat.min_eq_left (Nat.le_of_lt hk)
 rw [h1,Int.one_mul]
 have:=wrapU (2 ^ k) (pow_lt64 hk)
 rw [← this]
 congr 1
theorem andU (x y:Nat) (hx:x < 18446744073709551616) (hy:y < 18446744073709551616):IntKind.wrap .u64 ((BitVec.ofInt (IntKind.bits .u64) (x:Int) &&& BitVec.ofInt (IntKind.bits .u64) (y:Int)).toNat:Int)=((x &&& y:Nat):Int):=by
 show IntKind.wrap .u64 ((BitVec.ofInt 64 (x:Int) &&& BitVec.ofInt 64 (y:Int)).toNat:Int)=_
 rw [ofInt_nat,ofInt_nat,BitVec.toNat_and,BitVec.toNat_ofNat,BitVec.toNat_ofNat,Nat.mod_eq_of_lt hx,Nat.mod_eq_of_lt hy]
 exact wrapU _ (Nat.and_lt_two_pow (n:=64) _ hy)
theorem orU (x y:Nat) (hx:x < 18446744073709551616) (hy:y < 18446744073709551616):IntKind.wrap .u64 ((BitVec.ofInt (IntKind.bits .u64) (x:Int) ||| BitVec.ofInt (IntKind.bits .u64) (y:Int)).toNat:Int)=((x ||| y:Nat):Int):=by
 show IntKind.wrap .u64 ((BitVec.ofInt 64 (x:Int) ||| BitVec.ofInt 64 (y:Int)).toNat:Int)=_
 rw [ofInt_nat,ofInt_nat,BitVec.toNat_or,BitVec.toNat_ofNat,BitVec.toNat_ofNat,Nat.mod_eq_of_lt hx,Nat.mod_eq_of_lt hy]
 exact wrapU _ (Nat.or_lt_two_pow (n:=64) hx hy)
theorem and_bit (x k:Nat):(x &&& 2 ^ k=0)↔x.testBit k=false:=by
 constructor
 · intro h
   have:=congrArg (fun n=>n.testBit k) h
   simpa [Nat.testBit_and,Nat.testBit_two_pow_self] using this
 · intro h
   apply Nat.eq_of_testBit_eq
   intro i
   rw [Nat.testBit_and,Nat.testBit_two_pow,Nat.zero_testBit]
   by_cases hi:k=i
   · subst hi; simp [h]
   · simp [hi]
theorem or_bit (x k i:Nat):(x ||| 2 ^ k).testBit i=(x.testBit i||decide (k=i)):=by
 rw [Nat.testBit_or,Nat.testBit_two_pow]
def Wd (w:Int):Prop:=0≤w∧w < 18446744073709551616
def mem (l:List Int) (i:Nat):Bool:=match l[i / 64]? with | some w=>w.toNat.testBit (i % 64) | none=>false
structure Ds (n:Nat) (l:List Int):Prop where
 hn:n≤1048576
 len:l.length=(n + 63) / 64
 wd:∀ w∈l,Wd w
 top:∀ i,n≤i→mem l i=false
theorem mayHave_some {n:Nat} {l:List Int} (i:Int):fn_dense_Set_mayHave (some ((n:Int),l)) i=some (decide (0≤i∧i < n)):=by
 unfold fn_dense_Set_mayHave
 rw [show fn_dense_Set_Size (some ((n:Int),l))=some (n:Int) from rfl]
 by_cases h:0≤i
 · simp [h]
 · simp [h]
theorem Ds.word {n:Nat} {l:List Int} (h:Ds n l) {k:Nat} (hk:k < n):∃ x:Nat,l[k / 64]? = some (x:Int)∧x < 18446744073709551616:=by
 have hl:k / 64 < l.length:=by rw [h.len]; omega
 refine ⟨(l[k / 64]).toNat,?_,?_⟩
 · rw [List.getElem?_eq_getElem hl,Int.toNat_of_nonneg (h.wd _ (List.getElem_mem hl)).1]
 · have:=h.wd _ (List.getElem_mem hl)
   unfold Wd at this
   omega
theorem mem_of {l:List Int} {k x:Nat} (h:l[k / 64]? = some (x:Int)):mem l k=x.testBit (k % 64):=by
 unfold mem
 rw [h]
 simp
theorem Has_some {n:Nat} {l:List Int} (h:Ds n l) (i:Int):fn_dense_Set_Has (some ((n:Int),l)) i=some (decide (0≤i∧i < n)&&mem l i.toNat):=by
 unfold fn_dense_Set_Has
 rw [mayHave_some]
 by_cases hi:0≤i∧i < n
 · obtain ⟨k,rfl⟩:=Int.eq_ofNat_of_zero_le hi.1
   have hk:k < n:=by omega
   have hn:=h.hn
   obtain ⟨x,hx,hx2⟩:=h.word hk
   have e1:IntKind.wrap .i64 (Int.tdiv (k:Int) 64)=((k / 64:Nat):Int):=by
     rw [show Int.tdiv (k:Int) 64=((k / 64:Nat):Int) from rfl]
     exact w64 (by omega) (by omega)
   have e2:Int.tmod (k:Int) 64=((k % 64:Nat):Int):=rfl
   have g:getI l ((k / 64:Nat):Int)=some (x:Int):=by
     unfold getI
     rw [if_pos (Int.natCast_nonneg _),Int.toNat_natCast]
     exact hx
   have hd:decide (0≤(k:Int)∧(k:Int) < n)=true:=by simpa using hk
   rw [hd,e1,e2]
   simp only [Option.bind_some,cond_true,g,ge0_eq (Int.natCast_nonneg _),Int.toNat_natCast,Bool.true_and]
   have E:IntKind.wrap .u64 ((BitVec.ofInt (IntKind.bits .u64) (x:Int) &&& BitVec.ofInt (IntKind.bits .u64) (IntKind.wrap .u64 (1 * 2 ^ (min (k % 64) (IntKind.bits .u64))))).toNat:Int)=((x &&& 2 ^ (k % 64):Nat):Int):=by
     rw [one_pow (Nat.mod_lt k (by decide))]
     exact andU x _ hx2 (pow_lt64 (Nat.mod_lt k (by decide)))
   simp only [E,mem_of hx]
   have hb:=and_bit x (k % 64)
   cases ht:x.testBit (k % 64) with
   | false=>simp [hb.2 ht]
   | true =>
     have:¬ (x &&& 2 ^ (k % 64)=0):=fun e=>by rw [hb.1 e] at ht; cases ht
     have h2:¬ (((x &&& 2 ^ (k % 64):Nat):Int)=0):=by omega
     rw [decide_eq_false h2]
     rfl
 · rw [decide_eq_false hi]
   rfl
theorem memW_set {l:List Int} {q x y:Nat} (hq:l[q]? = some (x:Int)) (j:Nat):mem (l.set q (y:Int)) j=if j / 64=q then y.testBit (j % 64) else mem l j:=by
 unfold mem
 rw [List.getElem?_set]
 have hlt:q < l.length:=(List.getElem?_eq_some_iff.1 hq).1
 by_cases hj:j / 64=q
 · rw [if_pos hj.symm,if_pos hj,← hj] 
   simp [hj,hlt]
 · rw [if_neg (fun e=>hj e.symm),if_neg hj]
theorem Add_some {n:Nat} {l:List Int} (h:Ds n l) (i:Int):∃ l',fn_dense_Set_Add_p0i_ir i n l=some (decide (0≤i∧i < n)&&!mem l i.toNat,l')∧Ds n l'∧∀ j,mem l' j=(mem l j||decide ((0≤i∧i < n)∧i.toNat=j)):=by
 unfold fn_dense_Set_Add_p0i_ir
 rw [mayHave_some,Has_some h]
 by_cases hi:0≤i∧i < n
 · rw [decide_eq_true hi]
   cases hm:mem l i.toNat with
   | true=>exact ⟨l,rfl,h,fun j=>by
       by_cases hj:i.toNat=j
       · subst hj; simp [hm]
       · simp [hj]⟩
   | false =>
     obtain ⟨k,rfl⟩:=Int.eq_ofNat_of_zero_le hi.1
     have hk:k < n:=by omega
     have hn:=h.hn
     obtain ⟨x,hx,hx2⟩:=h.word hk
     have e1:IntKind.wrap .i64 (Int.tdiv (k:Int) 64)=((k / 64:Nat):Int):=by
       rw [show Int.tdiv (k:Int) 64=((k / 64:Nat):Int) from rfl]
       exact w64 (by omega) (by omega)
     have e2:Int.tmod (k:Int) 64=((k % 64:Nat):Int):=rfl
     have g:getI l ((k / 64:Nat):Int)=some (x:Int):=by
       unfold getI
       rw [if_pos (Int.natCast_nonneg _),Int.toNat_natCast]
       exact hx
     have E:IntKind.wrap .u64 ((BitVec.ofInt (IntKind.bits .u64) (x:Int) ||| BitVec.ofInt (IntKind.bits .u64) (IntKind.wrap .u64 (1 * 2 ^ (min (k % 64) (IntKind.bits .u64))))).toNat:Int)=((x ||| 2 ^ (k % 64):Nat):Int):=by
       rw [one_pow (Nat.mod_lt k (by decide))]
       exact orU x _ hx2 (pow_lt64 (Nat.mod_lt k (by decide)))
     have hlt:k / 64 < l.length:=(List.getElem?_eq_some_iff.1 hx).1
     have hmem:∀ j,mem (l.set (k / 64) ((x ||| 2 ^ (k % 64):Nat):Int)) j=(mem l j||decide (((0:Int)≤(k:Int)∧(k:Int) < n)∧k=j)):=fun j=>by
       rw [memW_set hx]
       by_cases hj:j / 64=k / 64
       · rw [if_pos hj,or_bit,mem_of (by rw [hj]; exact hx)]
         have:(k % 64=j % 64)↔k=j:=by omega
         simp [this,hk]
       · rw [if_neg hj]
         have:¬ k=j:=fun e=>hj (by rw [e])
         simp [this]
     refine ⟨l.set (k / 64) ((x ||| 2 ^ (k % 64):Nat):Int),?_,⟨hn,by rw [List.length_set]; exact h.len,fun w hw=>?_,fun j hj=>?_⟩,hmem⟩
     · rw [e1,e2]
       simp only [Option.bind_some,cond_true,cond_false,g,ge0_eq (Int.natCast_nonneg _),Int.toNat_natCast,Bool.true_and,Bool.not_true,Bool.not_false,E]
     · rcases List.mem_or_eq_of_mem_set hw with hw | rfl
       · exact h.wd w hw
       · have:=Nat.or_lt_two_pow (n:=64) hx2 (pow_lt64 (Nat.mod_lt k (by decide)))
         unfold Wd
         omega
     · rw [hmem,h.top j hj]
       have:¬ k=j:=by omega
       simp [this]
 · rw [decide_eq_false hi]
   exact ⟨l,rfl,h,fun j=>by simp [hi]⟩
theorem from_bit (x r j:Nat):(x / 2 ^ r * 2 ^ r).testBit j=(decide (r≤j)&&x.testBit j):=by
 rw [Nat.testBit_mul_two_pow]
 by_cases h:r≤j
 · rw [Nat.testBit_div_two_pow,Nat.sub_add_cancel h]
 · simp [h]
theorem from_word (x r:Nat) (hx:x < 18446744073709551616) (hr:r < 64):IntKind.wrap .u64 ((Int.fdiv (x:Int) (2 ^ (min r (IntKind.bits .u64)))) * 2 ^ (min r (IntKind.bits .u64)))=((x / 2 ^ r * 2 ^ r:Nat):Int):=by
 have h1:min r (IntKind.bits .u64)=r:=Nat.min_eq_left (Nat.le_of_lt hr)
 have hp:((2:Int) ^ r)=((2 ^ r:Nat):Int):=by simp
 have h2:Int.fdiv (x:Int) ((2 ^ r:Nat):Int)=((x / 2 ^ r:Nat):Int):=by
   rw [Int.fdiv_eq_ediv_of_nonneg _ (Int.natCast_nonneg _)]
   rfl
 rw [h1,hp,h2,← Int.natCast_mul]
 exact wrapU _ (Nat.lt_of_le_of_lt (Nat.div_mul_le_self x (2 ^ r)) hx)
theorem ctz_bit {x:Nat} (h0:x≠0) (h:x < 18446744073709551616):Lib.ctz 64 x < 64∧x.testBit (Lib.ctz 64 x)=true∧∀ j,j < Lib.ctz 64 x→x.testBit j=false:=by
 have h':x < 2 ^ 64:=h
 obtain ⟨m,hm,hk⟩:=Lib.ctzFrom_spec 64 x (by omega) h'
 have e:Lib.ctz 64 x=Lib.ctzFrom 64 x:=by simp [Lib.ctz,h0]
 rw [e]
 clear e
 revert hm hk
 generalize Lib.ctzFrom 64 x=c
 intro hm hk
 refine ⟨hk,?_,fun j hj=>?_⟩
 · rw [hm,Nat.mul_comm,Nat.testBit_mul_two_pow]
   simp
 · rw [hm,Nat.mul_comm,Nat.testBit_mul_two_pow]
   simp [Nat.not_le.2 hj]
theorem Next_loop {n:Int} {l:List Int} (hw:∀ w∈l,Wd w) (hlen:l.length≤20000):∀ (d a w:Nat),a + 1 + d=l.length→w < 18446744073709551616 →
   ∃ r,loop (fn_dense_Set_Next_l1 (n,l)) ((a:Int),(w:Int))=some r∧((r = .inr (-1)∧w=0∧∀ q,a < q→q < l.length→l[q]? = some 0) ∨
     ∃ b v:Nat,r = .inl ((b:Int),(v:Int))∧v≠0∧v < 18446744073709551616∧a≤b∧b < l.length∧((b=a∧v=w)∨(a < b∧w=0∧l[b]? = some (v:Int)))∧∀ q,a < q→q < b→l[q]? = some 0):=by
 intro d
 induction d with
 | zero =>
   intro a w ha hx
   by_cases h0:w=0
   · subst h0
     refine ⟨.inr (-1),loop_end ?_,.inl ⟨rfl,rfl,fun q h1 h2=>by omega⟩⟩
     have e:IntKind.wrap .i64 ((a:Int) + 1)=((l.length:Nat):Int):=by rw [w64 (by omega) (by omega)]; omega
     unfold fn_dense_Set_Next_l1
     simp [e]
   · refine ⟨.inl ((a:Int),(w:Int)),loop_end ?_,.inr ⟨a,w,rfl,h0,hx,Nat.le_refl a,by omega,.inl ⟨rfl,rfl⟩,fun q h1 h2=>by omega⟩⟩
     have h1:¬ ((w:Int)=0):=by omega
     unfold fn_dense_Set_Next_l1
     simp [h1,h0]
 | succ d ih =>
   intro a w ha hx
   by_cases h0:w=0
   · subst h0
     have hlt:a + 1 < l.length:=by omega
     have hwd:=hw _ (List.getElem_mem hlt)
     obtain ⟨x,hxe⟩:∃ x:Nat,l[a + 1]=(x:Int):=⟨l[a + 1].toNat,(Int.toNat_of_nonneg hwd.1).symm⟩
     have hx2:x < 18446744073709551616:=by have:=hwd.2; rw [hxe] at this; omega
     have hq:l[a + 1]? = some (x:Int):=by rw [List.getElem?_eq_getElem hlt,hxe]
     obtain ⟨r,h1,h2⟩:=ih (a + 1) x (by omega) hx2
     have e:IntKind.wrap .i64 ((a:Int) + 1)=((a + 1:Nat):Int):=by rw [w64 (by omega) (by omega)]; rfl
     have hne:¬ (((a + 1:Nat):Int)=((l.length:Nat):Int)):=by omega
     have hg:getI l ((a + 1:Nat):Int)=some (x:Int):=by
       unfold getI
       rw [if_pos (Int.natCast_nonneg _),Int.toNat_natCast]
       exact hq
     refine ⟨r,(loop_next (s':=(((a + 1:Nat):Int),(x:Int))) ?_).trans h1,?_⟩
     · unfold fn_dense_Set_Next_l1
       simp only [e,hg,Option.bind_some,decide_eq_false hne,cond_false]
       rfl
     · rcases h2 with ⟨h3,h4,h5⟩ | ⟨b,v,h3,h4,h5,h6,h7,h8,h9⟩
       · refine .inl ⟨h3,rfl,fun q g1 g2=>?_⟩
         by_cases hqa:q=a + 1
         · subst hqa; rw [hq,h4]; rfl
         · exact h5 q (by omega) g2
       · refine .inr ⟨b,v,h3,h4,h5,by omega,h7,.inr ?_,fun q g1 g2=>?_⟩
         · rcases h8 with ⟨rfl,rfl⟩ | ⟨g1,g2,g3⟩
           · exact ⟨by omega,rfl,hq⟩
           · exact ⟨by omega,rfl,g3⟩
         · by_cases hqa:q=a + 1
           · subst hqa
             rcases h8 with ⟨rfl,rfl⟩ | ⟨k1,k2,k3⟩
             · omega
             · rw [hq,k2]; rfl
           · exact h9 q (by omega) g2
   · refine ⟨.inl ((a:Int),(w:Int)),loop_end ?_,.inr ⟨a,w,rfl,h0,hx,Nat.le_refl a,by omega,.inl ⟨rfl,rfl⟩,fun q h1 h2=>by omega⟩⟩
     have h1:¬ ((w:Int)=0):=by omega
     unfold fn_dense_Set_Next_l1
     simp [h1,h0]
theorem mem_zero {l:List Int} {j:Nat} (h:∀ w,l[j / 64]? = some w→w=0):mem l j=false:=by
 unfold mem
 cases hl:l[j / 64]? with
 | none=>rfl
 | some w=>rw [h w hl]; simp
theorem Next_some {n:Nat} {l:List Int} (h:Ds n l) (i:Int):∃ r,fn_dense_Set_Next (some ((n:Int),l)) i=some r∧((r = -1∧∀ j:Nat,i≤(j:Int)→mem l j=false) ∨
   ∃ k:Nat,r=(k:Int)∧i≤(k:Int)∧mem l k=true∧∀ j:Nat,i≤(j:Int)→j < k→mem l j=false):=by
 obtain ⟨c,hc⟩:∃ c:Nat,(if i < 0 then 0 else i)=(c:Int):=⟨(if i < 0 then 0 else i).toNat,by split <;> omega⟩
 have hci:∀ j:Nat,i≤(j:Int)↔c≤j:=fun j=>by split at hc <;> omega
 have hn:=h.hn
 have hl:=h.len
 unfold fn_dense_Set_Next
 simp only [hc,mayHave_some,Option.bind_some]
 by_cases hk:c < n
 · have hd : decide (0 ≤ (c : Int) ∧ (c : Int) < n) = true := by simpa using hk
   obtain ⟨x,hx,hx2⟩:=h.word hk
   have e1:IntKind.wrap .i64 (Int.tdiv (c:Int) 64)=((c / 64:Nat):Int):=by
     rw [show Int.tdiv (c:Int) 64=((c / 64:Nat):Int) from rfl]
     exact w64 (by omega) (by omega)
   have e2:Int.tmod (c:Int) 64=((c % 64:Nat):Int):=rfl
   have g:getI l ((c / 64:Nat):Int)=some (x:Int):=by
     unfold getI
     rw [if_pos (Int.natCast_nonneg _),Int.toNat_natCast]
     exact hx
   have hr:c % 64 < 64:=Nat.mod_lt c (by decide)
   have hw2:x / 2 ^ (c % 64) * 2 ^ (c % 64) < 18446744073709551616:=Nat.lt_of_le_of_lt (Nat.div_mul_le_self x _) hx2
   obtain ⟨r,hlp,hcase⟩:=Next_loop (n:=(n:Int)) h.wd (by omega) (l.length - 1 - c / 64) (c / 64) _ (by omega) hw2
   simp only [hd,Bool.not_true,cond_false,e1,e2,g,Option.bind_some,ge0_eq (Int.natCast_nonneg _),Int.toNat_natCast,from_word x _ hx2 hr,hlp]
   rcases hcase with ⟨rfl,h4,h5⟩ | ⟨b,v,rfl,h4,h5,h6,h7,h8,h9⟩
   · refine ⟨-1,rfl,.inl ⟨rfl,fun j hj=>?_⟩⟩
     have hj:=(hci j).1 hj
     by_cases hja:j / 64=c / 64
     · rw [mem_of (by rw [hja]; exact hx)]
       have:=from_bit x (c % 64) (j % 64)
       rw [h4,Nat.zero_testBit] at this
       have hle:c % 64≤j % 64:=by omega
       simpa [hle] using this.symm
     · refine mem_zero (fun w hw=>?_)
       have hlt:=(List.getElem?_eq_some_iff.1 hw).1
       rw [h5 (j / 64) (by omega) hlt] at hw
       exact (Option.some.inj hw).symm
   · obtain ⟨t1,t2,t3⟩:=ctz_bit h4 h5
     have ht:tzF (v:Int)=some ((Lib.ctz 64 v:Nat):Int):=by
       unfold tzF
       rw [if_pos ⟨Int.natCast_nonneg _,by omega⟩,Int.toNat_natCast]
     have e3:IntKind.wrap .i64 (IntKind.wrap .i64 ((b:Int) * 64) + ((Lib.ctz 64 v:Nat):Int))=((b * 64 + Lib.ctz 64 v:Nat):Int):=by
       rw [w64 (x:=(b:Int) * 64) (by omega) (by omega),w64 (by omega) (by omega)]
       omega
     refine ⟨((b * 64 + Lib.ctz 64 v:Nat):Int),by simp only [ht,Option.bind_some,e3],.inr ⟨_,rfl,?_⟩⟩
     generalize Lib.ctz 64 v=z at t1 t2 t3
     have d1:(b * 64 + z) / 64=b:=by omega
     have d2:(b * 64 + z) % 64=z:=by omega
     rcases h8 with ⟨rfl,rfl⟩ | ⟨g1,g2,g3⟩
     · rw [from_bit,Bool.and_eq_true] at t2
       have hz:c % 64≤z:=by simpa using t2.1
       refine ⟨(hci _).2 (by omega),?_,fun j hj hjk=>?_⟩
       · rw [mem_of (x:=x) (by rw [d1]; exact hx),d2]
         exact t2.2
       · have hj:=(hci j).1 hj
         have:=t3 (j % 64) (by omega)
         rw [from_bit] at this
         rw [mem_of (by rw [show j / 64=c / 64 by omega]; exact hx)]
         have hle:c % 64≤j % 64:=by omega
         simpa [hle] using this
     · refine ⟨(hci _).2 (by omega),?_,fun j hj hjk=>?_⟩
       · rw [mem_of (x:=v) (by rw [d1]; exact g3),d2]
         exact t2
       · have hj:=(hci j).1 hj
         by_cases hja:j / 64=c / 64
         · rw [mem_of (by rw [hja]; exact hx)]
           have:=from_bit x (c % 64) (j % 64)
           rw [g2,Nat.zero_testBit] at this
           have hle:c % 64≤j % 64:=by omega
           simpa [hle] using this.symm
         · by_cases hjb:j / 64=b
           · rw [mem_of (by rw [hjb]; exact g3)]
             exact t3 _ (by omega)
           · exact mem_zero (fun w hw=>by
               rw [h9 (j / 64) (by omega) (by omega)] at hw
               exact (Option.some.inj hw).symm)
 · have hd:decide (0≤(c:Int)∧(c:Int) < n)=false:=by simpa using hk
   simp only [hd,Bool.not_false,cond_true]
   exact ⟨-1,rfl,.inl ⟨rfl,fun j hj=>h.top j (by have:=(hci j).1 hj; omega)⟩⟩
theorem mem_rep (m j:Nat):mem (List.replicate m 0) j=false:=mem_zero (fun w hw=>by
 rw [List.getElem?_replicate] at hw
 split at hw
 · exact (Option.some.inj hw).symm
 · cases hw)
theorem Ds_new {n:Nat} (h:n≤1048576):Ds n (List.replicate ((n + 63) / 64) 0) :=
 ⟨h,List.length_replicate,fun w hw=>by
   obtain ⟨_,rfl⟩:=List.mem_replicate.1 hw
   exact ⟨Int.le_refl _,by decide⟩,fun j _=>mem_rep _ j⟩
theorem New_some (n:Int):fn_dense_New n=if n < 0 then some (.inl 2) else if 1048576 < n then some (.inl 5) else some (.inr (0,n,List.replicate ((n.toNat + 63) / 64) 0)):=by
 unfold fn_dense_New
 by_cases h1:n < 0
 · simp [h1]
 · by_cases h2:1048576 < n
   · simp [h1,h2]
   · obtain ⟨k,rfl⟩:=Int.eq_ofNat_of_zero_le (by omega:0≤n)
     have e:IntKind.wrap .i64 (Int.tdiv (IntKind.wrap .i64 (IntKind.wrap .i64 ((k:Int) + 64) - 1)) 64)=(((k + 63) / 64:Nat):Int):=by
       rw [w64 (x:=(k:Int) + 64) (by omega) (by omega),w64 (x:=(k:Int) + 64 - 1) (by omega) (by omega),show (k:Int) + 64 - 1=((k + 63:Nat):Int) by omega]
       rw [show Int.tdiv ((k + 63:Nat):Int) 64=(((k + 63) / 64:Nat):Int) from rfl]
       exact w64 (by omega) (by omega)
     rw [e]
     have hm:(mk ((((k + 63) / 64:Nat):Int)) ((((k + 63) / 64:Nat):Int)) (0:Int))=some (List.replicate ((k + 63) / 64) 0):=by
       unfold mk
       rw [if_pos (by constructor <;> omega),Int.toNat_natCast]
     rw [hm]
     simp [h1,h2]
def mems (n:Nat) (l:List Int):List Nat:=(List.range n).filter (mem l)
def liN (L:List Nat):List Int:=L.map Int.ofNat
theorem filter_gap {p:Nat→Bool} {c:Nat}:∀ (d:Nat),(∀ j,c≤j→j < c + d→p j=false)→(List.range (c + d)).filter p=(List.range c).filter p
 | 0,_=>rfl
 | d + 1,h=>by
   rw [← Nat.add_assoc,List.range_succ,List.filter_append,filter_gap d (fun j h1 h2=>h j h1 (by omega))]
   simp [h (c + d) (by omega) (by omega)]
theorem filter_len (p:Nat→Bool) (c:Nat):((List.range c).filter p).length≤c:=by
 have:=List.length_filter_le p (List.range c)
 simpa using this
theorem gather {n:Nat} {l:List Int} (h:Ds n l) {body:Int×List Int→Option ((Int×List Int)⊕List Int)}
   (hb:∀ (c:List Int) (k:Nat),mem l k=true→body ((k:Int),c)=(app c [(k:Int)]).bind fun z=>(fn_dense_Set_Next (some ((n:Int),l)) ((k:Int) + 1)).bind fun i=>some (.inl (i,z))) (he:∀ c,body (-1,c)=some (.inr c)) :
   ∃ r,fn_dense_Set_Next (some ((n:Int),l)) 0=some r∧loop body (r,[])=some (liN (mems n l)):=by
 have hn:=h.hn
 have lt_of:∀ k,mem l k=true→k < n:=fun k hk=>by
   rcases Nat.lt_or_ge k n with h1 | h1
   · exact h1
   · rw [h.top k h1] at hk; cases hk
 have key:∀ (r:Int) (acc:List Int),(∃ c:Nat,c≤n∧acc=liN ((List.range c).filter (mem l))∧((r = -1∧∀ j:Nat,(c:Int)≤(j:Int)→mem l j=false)∨∃ k:Nat,r=(k:Int)∧(c:Int)≤(k:Int)∧mem l k=true∧∀ j:Nat,(c:Int)≤(j:Int)→j < k→mem l j=false)) →
     loop body (r,acc)=some (liN (mems n l)):=by
   intro r acc hI
   refine loop_val (fun s=>∃ c:Nat,c≤n∧s.2=liN ((List.range c).filter (mem l))∧((s.1 = -1∧∀ j:Nat,(c:Int)≤(j:Int)→mem l j=false)∨∃ k:Nat,s.1=(k:Int)∧(c:Int)≤(k:Int)∧mem l k=true∧∀ j:Nat,(c:Int)≤(j:Int)→j < k→mem l j=false)) (fun s=>if s.1 < 0 then 0 else n + 1 - s.1.toNat) ?_ (s:=(r,acc)) hI
   rintro ⟨r,acc⟩ ⟨c,hcn,rfl,hr⟩
   rcases hr with ⟨rfl,h2⟩ | ⟨k,rfl,h2,h3,h4⟩
   · right
     have e:mems n l=(List.range c).filter (mem l):=by
       unfold mems
       have:=filter_gap (p:=mem l) (c:=c) (n - c) (fun j h1 _=>h2 j (by omega))
       rw [show c + (n - c)=n by omega] at this
       exact this
     rw [e]
     exact he _
   · left
     have hk:=lt_of k h3
     obtain ⟨r',g1,g2⟩:=Next_some h (((k + 1:Nat):Int))
     have e1:(k:Int) + 1=((k + 1:Nat):Int):=rfl
     have e2:(List.range (k + 1)).filter (mem l)=(List.range c).filter (mem l)++[k]:=by
       have:=filter_gap (p:=mem l) (c:=c) (k - c) (fun j h5 h6=>h4 j (by omega) (by omega))
       rw [show c + (k - c)=k by omega] at this
       rw [List.range_succ,List.filter_append,this]
       simp [h3]
     have e3:app (liN ((List.range c).filter (mem l))) [(k:Int)]=some (liN ((List.range (k + 1)).filter (mem l))):=by
       have:=filter_len (mem l) c
       unfold app
       rw [if_pos (by simp [liN]; omega),e2]
       simp [liN]
     refine ⟨(r',liN ((List.range (k + 1)).filter (mem l))),?_,⟨k + 1,by omega,rfl,g2⟩,?_⟩
     · rw [hb _ k h3]
       simp only [e3,e1,g1,Option.bind_some]
     · show (if r' < 0 then 0 else n + 1 - r'.toNat) < (if (k:Int) < 0 then 0 else n + 1 - (k:Int).toNat)
       rw [if_neg (by omega:¬ (k:Int) < 0),Int.toNat_natCast]
       rcases g2 with ⟨rfl,_⟩ | ⟨k',rfl,k1,k2,_⟩
       · simp; omega
       · rw [if_neg (by omega:¬ (k':Int) < 0),Int.toNat_natCast]
         have:=lt_of k' k2
         omega
 obtain ⟨r,g1,g2⟩:=Next_some h 0
 exact ⟨r,g1,key r [] ⟨0,Nat.zero_le n,rfl,g2⟩⟩
theorem Has_nat {n:Nat} {l:List Int} (h:Ds n l) (k:Nat):fn_dense_Set_Has (some ((n:Int),l)) (k:Int)=some (mem l k):=by
 rw [Has_some h,Int.toNat_natCast]
 cases hm:mem l k with
 | false=>simp
 | true =>
   have:k < n:=by
     rcases Nat.lt_or_ge k n with h1 | h1
     · exact h1
     · rw [h.top k h1] at hm; cases hm
   simp [this]
def pc:Nat→Nat→Nat
 | 0,_=>0
 | n + 1,x=>(x % 2) + pc n (x / 2)
theorem land_split (a b y M:Nat) (ha:a < 256) (hb:b < 256):(a + 256 * y) &&& (b + 256 * M)=(a &&& b) + 256 * (y &&& M):=by
 have h1:a &&& b < 256:=Nat.and_lt_two_pow (n:=8) a hb
 apply Nat.eq_of_testBit_eq
 intro i
 have e:∀ (u v:Nat),u < 256→(u + 256 * v).testBit i=if i < 8 then u.testBit i else v.testBit (i - 8):=fun u v hu=>by
   rw [Nat.add_comm,show 256 * v=2 ^ 8 * v from rfl,Nat.testBit_two_pow_mul_add v (show u < 2 ^ 8 from hu)]
 rw [Nat.testBit_and,e a y ha,e b M hb,e _ _ h1]
 split <;> simp [Nat.testBit_and]
theorem eachByte (P:Nat→Bool) (h:(List.range 256).all P=true) {a:Nat} (ha:a < 256):P a=true:=List.all_eq_true.1 h a (List.mem_range.2 ha)
def s1 (M x:Nat):Nat:=((x / 2) &&& M) + (x &&& M)
def s2 (M x:Nat):Nat:=((x / 4) &&& M) + (x &&& M)
def s3 (M x:Nat):Nat:=(x / 16 + x) &&& M
theorem s1_split (a y M:Nat) (ha:a < 256):s1 (85 + 256 * M) (a + 256 * y)=s1 85 a + 256 * s1 M y:=by
 unfold s1
 have h2:(a + 256 * y) / 2=(a / 2 + 128 * (y % 2)) + 256 * (y / 2):=by omega
 have h3:(a / 2 + 128 * (y % 2)) &&& 85=(a / 2) &&& 85:=by
   have h4:y % 2=0∨y % 2=1:=by omega
   rcases h4 with h4 | h4
   · rw [h4]; rfl
   · rw [h4]
     have:=eachByte (fun a=>decide (((a / 2 + 128 * 1) &&& 85)=((a / 2) &&& 85))) (by decide +kernel) ha
     exact of_decide_eq_true this
 rw [land_split a 85 y M ha (by decide),h2,land_split _ 85 _ M (by omega) (by decide),h3]
 omega
theorem s1_low {a:Nat} (ha:a < 256):s1 85 a < 256:=by
 have:=eachByte (fun a=>decide (s1 85 a < 256)) (by decide +kernel) ha
 exact of_decide_eq_true this
theorem s2_split (a y M:Nat) (ha:a < 256):s2 (51 + 256 * M) (a + 256 * y)=s2 51 a + 256 * s2 M y:=by
 unfold s2
 have h2:(a + 256 * y) / 4=(a / 4 + 64 * (y % 4)) + 256 * (y / 4):=by omega
 have h3:(a / 4 + 64 * (y % 4)) &&& 51=(a / 4) &&& 51:=by
   have h4:y % 4=0∨y % 4=1∨y % 4=2∨y % 4=3:=by omega
   have:=eachByte (fun a=>decide (((a / 4 + 64 * 1) &&& 51)=((a / 4) &&& 51)∧((a / 4 + 64 * 2) &&& 51)=((a / 4) &&& 51)∧((a / 4 + 64 * 3) &&& 51)=((a / 4) &&& 51))) (by decide +kernel) ha
   have:=of_decide_eq_true this
   rcases h4 with h4 | h4 | h4 | h4 <;> rw [h4]
   · rfl
   · exact this.1
   · exact this.2.1
   · exact this.2.2
 rw [land_split a 51 y M ha (by decide),h2,land_split _ 51 _ M (by omega) (by decide),h3]
 omega
theorem byte_pc {a:Nat} (ha:a < 256):((s2 51 (s1 85 a)) / 16 + (s2 51 (s1 85 a)) % 16)=pc 8 a∧(s2 51 (s1 85 a)) % 16≤4∧(s2 51 (s1 85 a)) / 16≤4∧s2 51 (s1 85 a) < 256∧pc 8 a≤8:=by
 have:=eachByte (fun a=>decide (((s2 51 (s1 85 a)) / 16 + (s2 51 (s1 85 a)) % 16)=pc 8 a∧(s2 51 (s1 85 a)) % 16≤4∧(s2 51 (s1 85 a)) / 16≤4∧s2 51 (s1 85 a) < 256∧pc 8 a≤8)) (by decide +kernel) ha
 exact of_decide_eq_true this
theorem s3_split (a y M:Nat) (ha:a < 256) (h1:a % 16≤4) (h2:a / 16≤4) (h3:y % 16≤4):s3 (15 + 256 * M) (a + 256 * y)=(a / 16 + a % 16) + 256 * s3 M y:=by
 unfold s3
 have e:(a + 256 * y) / 16 + (a + 256 * y)=(a / 16 + a % 16 + 16 * (a / 16 + y % 16)) + 256 * (y / 16 + y):=by omega
 rw [e,land_split _ 15 _ M (by omega) (by decide)]
 have:(a / 16 + a % 16 + 16 * (a / 16 + y % 16)) &&& 15=a / 16 + a % 16:=by
   rw [show (15:Nat)=2 ^ 4 - 1 from rfl,Nat.and_two_pow_sub_one_eq_mod]
   omega
 rw [this]
theorem pc_add:∀ (n m x:Nat),pc (n + m) x=pc n x + pc m (x / 2 ^ n)
 | 0,m,x=>by simp [pc]
 | n + 1,m,x=>by
   rw [show n + 1 + m=(n + m) + 1 by omega,show pc ((n + m) + 1) x=x % 2 + pc (n + m) (x / 2) from rfl,show pc (n + 1) x=x % 2 + pc n (x / 2) from rfl]
   rw [pc_add n m,Nat.div_div_eq_div_mul,Nat.pow_succ,Nat.mul_comm 2]
   omega
theorem pc_mod (a y:Nat) (ha:a < 256):pc 8 (a + 256 * y)=pc 8 a:=by
 unfold pc pc pc pc pc pc pc pc pc
 omega
def masks:Nat→Nat→Nat
 | _,0=>0
 | b,n + 1=>b + 256 * masks b n
def pcs:Nat→Nat→Nat
 | 0,_=>0
 | n + 1,x=>pc 8 (x % 256) + 256 * pcs n (x / 256)
theorem three (n:Nat):∀ x,x < 256 ^ n→s3 (masks 15 n) (s2 (masks 51 n) (s1 (masks 85 n) x))=pcs n x∧(s2 (masks 51 n) (s1 (masks 85 n) x)) % 16≤4:=by
 induction n with
 | zero => intro x hx; have : x = 0 := by simp at hx; omega
           subst this; decide
 | succ n ih =>
   intro x hx
   have hx2:x / 256 < 256 ^ n:=by
     rw [Nat.pow_succ] at hx
     exact Nat.div_lt_of_lt_mul (by rw [Nat.mul_comm]; exact hx)
   obtain ⟨i1,i2⟩:=ih _ hx2
   have ha:x % 256 < 256:=Nat.mod_lt _ (by decide)
   obtain ⟨b1,b2,b3,b4,b5⟩:=byte_pc ha
   have e:x=x % 256 + 256 * (x / 256):=by omega
   unfold masks
   have e1:s1 (85 + 256 * masks 85 n) x=s1 85 (x % 256) + 256 * s1 (masks 85 n) (x / 256):=by
     conv=>lhs; rw [e]
     exact s1_split _ _ _ ha
   rw [e1,s2_split _ _ _ (s1_low ha),s3_split _ _ _ b4 b2 b3 i2,i1,b1]
   refine ⟨rfl,?_⟩
   omega
theorem three64 (x:Nat) (hx:x < 18446744073709551616):s3 1085102592571150095 (s2 3689348814741910323 (s1 6148914691236517205 x))=pcs 8 x :=
 (three 8 x hx).1
theorem last4 (x:Nat):∃ p0 p1 p2 p3 p4 p5 p6 p7:Nat,pcs 8 x=p0 + 256 * (p1 + 256 * (p2 + 256 * (p3 + 256 * (p4 + 256 * (p5 + 256 * (p6 + 256 * (p7 + 256 * 0)))))))∧pc 64 x=p0 + p1 + p2 + p3 + p4 + p5 + p6 + p7∧p0≤8∧p1≤8∧p2≤8∧p3≤8∧p4≤8∧p5≤8∧p6≤8∧p7≤8:=by
 have h:∀ y,pc 8 (y % 256)≤8:=fun y=>(byte_pc (Nat.mod_lt y (by decide))).2.2.2.2
 have g:∀ m y,pc (8 + m) y=pc 8 (y % 256) + pc m (y / 256):=fun m y=>by
   rw [pc_add 8 m]
   congr 1
   conv=>lhs; rw [show y=y % 256 + 256 * (y / 256) by omega]
   exact pc_mod _ _ (Nat.mod_lt _ (by decide))
 refine ⟨_,_,_,_,_,_,_,_,rfl,?_,h _,h _,h _,h _,h _,h _,h _,h _⟩
 rw [show (64:Nat)=8 + (8 + (8 + (8 + (8 + (8 + (8 + (8 + 0))))))) from rfl,g,g,g,g,g,g,g,g]
 simp only [pc]
 omega
theorem dv {k L R x:Nat} (hk:0 < k) (h:x=L + k * R) (hL:L < k):x / k=R:=by
 rw [h,Nat.add_mul_div_left _ _ hk,Nat.div_eq_of_lt hL,Nat.zero_add]
theorem sum4 {y z u v s:Nat} {p0 p1 p2 p3 p4 p5 p6 p7:Nat} (hy:y=p0 + 256 * (p1 + 256 * (p2 + 256 * (p3 + 256 * (p4 + 256 * (p5 + 256 * (p6 + 256 * (p7 + 256 * 0)))))))) (hs:s=p0 + p1 + p2 + p3 + p4 + p5 + p6 + p7) (h0:p0≤8) (h1:p1≤8) (h2:p2≤8) (h3:p3≤8) (h4:p4≤8) (h5:p5≤8) (h6:p6≤8) (h7:p7≤8)
   (hz:z=y + y / 256) (hu:u=z + z / 65536) (hv:v=u + u / 4294967296):v % 128=s∧v < 9223372036854775808:=by
 have e1:y / 256=p1 + 256 * (p2 + 256 * (p3 + 256 * (p4 + 256 * (p5 + 256 * (p6 + 256 * p7))))):=dv (L:=p0) (by decide) (by rw [hy]; rfl) (by omega)
 rw [e1,hy] at hz
 have e2:z / 65536=(p2 + p3) + 256 * ((p3 + p4) + 256 * ((p4 + p5) + 256 * ((p5 + p6) + 256 * ((p6 + p7) + 256 * p7)))):=dv (L:=(p0 + p1) + 256 * (p1 + p2)) (by decide) (by rw [hz]; clear hz hu hv hy e1; omega) (by clear hz hu hv hy e1; omega)
 rw [e2,hz] at hu
 clear e1 e2 hz hy
 have e3:u / 4294967296=(p4 + p5 + p6 + p7) + 256 * ((p5 + p6 + p7) + 256 * ((p6 + p7) + 256 * p7)):=dv (L:=(p0 + p1 + p2 + p3) + 256 * ((p1 + p2 + p3 + p4) + 256 * ((p2 + p3 + p4 + p5) + 256 * (p3 + p4 + p5 + p6)))) (by decide) (by rw [hu]; clear hu hv; omega) (by clear hu hv; omega)
 rw [e3,hu] at hv
 clear e3 hu
 refine ⟨?_,by omega⟩
 have:v=s + 128 * (2 * ((p1+p2+p3+p4 + (p5+p6+p7)) + 256 * ((p2+p3+p4+p5 + (p6+p7)) + 256 * ((p3+p4+p5+p6 + p7) + 256 * ((p4+p5+p6+p7) + 256 * ((p5+p6+p7) + 256 * ((p6+p7) + 256 * p7))))))):=by rw [hv,hs]; clear hv hs; omega
 rw [this,Nat.add_mul_mod_self_left]
 exact Nat.mod_eq_of_lt (by omega)

def ocA (x m:Int):Int:=IntKind.wrap .u64 ((BitVec.ofInt (IntKind.bits .u64) x &&& BitVec.ofInt (IntKind.bits .u64) m).toNat:Int)
def ocS (x:Int) (k:Nat):Int:=Int.fdiv x (2 ^ (min k (IntKind.bits .u64)))
def oc1 (x:Int):Int:=IntKind.wrap .u64 (ocA (ocS x 1) 6148914691236517205 + ocA x 6148914691236517205)
def oc2 (x:Int):Int:=IntKind.wrap .u64 (ocA (ocS x 2) 3689348814741910323 + ocA x 3689348814741910323)
def oc3 (x:Int):Int:=ocA (IntKind.wrap .u64 (ocS x 4 + x)) 1085102592571150095
def oc4 (x:Int):Int:=IntKind.wrap .u64 (x + ocS x 8)
def oc5 (x:Int):Int:=IntKind.wrap .u64 (x + ocS x 16)
def oc6 (x:Int):Int:=IntKind.wrap .u64 (x + ocS x 32)
theorem Ones_form (x:Int):fn_math_bits_OnesCount64 x=some (IntKind.wrap .i64 ((BitVec.ofInt (IntKind.bits .i64) (IntKind.wrap .i64 (oc6 (oc5 (oc4 (oc3 (oc2 (oc1 x))))))) &&& BitVec.ofInt (IntKind.bits .i64) 127).toNat:Int)):=rfl
theorem ocA_eq (x m:Nat) (M:Int) (hM:M=(m:Int)) (hx:x < 18446744073709551616) (hm:m < 18446744073709551616):ocA (x:Int) M=((x &&& m:Nat):Int):=by
 rw [hM]
 exact andU x m hx hm
theorem ocS_eq (x k:Nat) (hk:k < 64):ocS (x:Int) k=((x / 2 ^ k:Nat):Int):=by
 unfold ocS
 have h1:min k (IntKind.bits .u64)=k:=Nat.min_eq_left (Nat.le_of_lt hk)
 have hp:((2:Int) ^ k)=((2 ^ k:Nat):Int):=by simp
 rw [h1,hp,Int.fdiv_eq_ediv_of_nonneg _ (Int.natCast_nonneg _)]
 rfl
theorem and_le (x m:Nat):x &&& m≤m:=Nat.and_le_right
theorem oc1_eq (x:Nat) (hx:x < 18446744073709551616):oc1 (x:Int)=((s1 6148914691236517205 x:Nat):Int):=by
 unfold oc1 s1
 rw [ocS_eq x 1 (by decide),ocA_eq (x / 2 ^ 1) 6148914691236517205 6148914691236517205 rfl (by omega) (by decide),ocA_eq x 6148914691236517205 6148914691236517205 rfl hx (by decide),← Int.natCast_add]
 have b1:=and_le (x / 2 ^ 1) 6148914691236517205
 have b2:=and_le x 6148914691236517205
 exact wrapU _ (by omega)
theorem oc2_eq (x:Nat) (hx:x < 18446744073709551616):oc2 (x:Int)=((s2 3689348814741910323 x:Nat):Int):=by
 unfold oc2 s2
 rw [ocS_eq x 2 (by decide),ocA_eq (x / 2 ^ 2) 3689348814741910323 3689348814741910323 rfl (by omega) (by decide),ocA_eq x 3689348814741910323 3689348814741910323 rfl hx (by decide),← Int.natCast_add]
 have b1:=and_le (x / 2 ^ 2) 3689348814741910323
 have b2:=and_le x 3689348814741910323
 exact wrapU _ (by omega)
theorem oc3_eq (z:Nat) (hz:z≤7378697629483820646):oc3 (z:Int)=((s3 1085102592571150095 z:Nat):Int):=by
 unfold oc3 s3
 rw [ocS_eq z 4 (by decide),← Int.natCast_add,wrapU _ (by omega),ocA_eq _ 1085102592571150095 1085102592571150095 rfl (by omega) (by decide)]
theorem s1_lt (x:Nat):s1 6148914691236517205 x < 18446744073709551616:=by
 have b1:=and_le (x / 2) 6148914691236517205
 have b2:=and_le x 6148914691236517205
 unfold s1; omega
theorem s2_lt (x:Nat):s2 3689348814741910323 x≤7378697629483820646:=by
 have b1:=and_le (x / 4) 3689348814741910323
 have b2:=and_le x 3689348814741910323
 unfold s2; omega
theorem oc4_eq (w:Nat) (h:w + w / 256 < 18446744073709551616):oc4 (w:Int)=((w + w / 256:Nat):Int):=by
 unfold oc4
 rw [ocS_eq w 8 (by decide),← Int.natCast_add]
 exact wrapU _ h
theorem oc5_eq (w:Nat) (h:w + w / 65536 < 18446744073709551616):oc5 (w:Int)=((w + w / 65536:Nat):Int):=by
 unfold oc5
 rw [ocS_eq w 16 (by decide),← Int.natCast_add]
 exact wrapU _ h
theorem oc6_eq (w:Nat) (h:w + w / 4294967296 < 18446744073709551616):oc6 (w:Int)=((w + w / 4294967296:Nat):Int):=by
 unfold oc6
 rw [ocS_eq w 32 (by decide),← Int.natCast_add]
 exact wrapU _ h
theorem oc7_eq (v:Nat) (h:v < 9223372036854775808):IntKind.wrap .i64 ((BitVec.ofInt (IntKind.bits .i64) (IntKind.wrap .i64 (v:Int)) &&& BitVec.ofInt (IntKind.bits .i64) 127).toNat:Int)=((v % 128:Nat):Int):=by
 rw [w64 (x:=(v:Int)) (by omega) (by omega)]
 show IntKind.wrap .i64 ((BitVec.ofInt 64 (v:Int) &&& BitVec.ofInt 64 ((127:Nat):Int)).toNat:Int)=_
 rw [ofInt_nat,ofInt_nat,BitVec.toNat_and,BitVec.toNat_ofNat,BitVec.toNat_ofNat,Nat.mod_eq_of_lt (by omega),Nat.mod_eq_of_lt (by decide),show (127:Nat)=2 ^ 7 - 1 from rfl,Nat.and_two_pow_sub_one_eq_mod]
 exact w64 (by omega) (by omega)
theorem Ones_sum (w s:Nat) (h:∃ p0 p1 p2 p3 p4 p5 p6 p7:Nat,w=p0 + 256 * (p1 + 256 * (p2 + 256 * (p3 + 256 * (p4 + 256 * (p5 + 256 * (p6 + 256 * (p7 + 256 * 0)))))))∧s=p0 + p1 + p2 + p3 + p4 + p5 + p6 + p7∧p0≤8∧p1≤8∧p2≤8∧p3≤8∧p4≤8∧p5≤8∧p6≤8∧p7≤8) :
   IntKind.wrap .i64 ((BitVec.ofInt (IntKind.bits .i64) (IntKind.wrap .i64 (oc6 (oc5 (oc4 (w:Int))))) &&& BitVec.ofInt (IntKind.bits .i64) 127).toNat:Int)=((s:Nat):Int):=by
 obtain ⟨p0,p1,p2,p3,p4,p5,p6,p7,q,qs,c0,c1,c2,c3,c4,c5,c6,c7⟩:=h
 obtain ⟨r1,r2⟩:=sum4 q qs c0 c1 c2 c3 c4 c5 c6 c7 rfl rfl rfl
 clear q qs c0 c1 c2 c3 c4 c5 c6 c7
 generalize h1:w + w / 256=w1 at *
 generalize h2:w1 + w1 / 65536=w2 at *
 generalize h3:w2 + w2 / 4294967296=w3 at *
 rw [oc4_eq w (by omega),h1,oc5_eq w1 (by omega),h2,oc6_eq w2 (by omega),h3,oc7_eq w3 r2,r1]
theorem Ones_eq (x:Nat) (hx:x < 18446744073709551616):fn_math_bits_OnesCount64 (x:Int)=some ((pc 64 x:Nat):Int):=by
 rw [Ones_form,oc1_eq x hx,oc2_eq _ (s1_lt x),oc3_eq _ (s2_lt _),three64 x hx]
 exact congrArg some (Ones_sum _ _ (last4 x))
theorem pc_filter:∀ (n x:Nat),pc n x=((List.range n).filter (fun i=>x.testBit i)).length
 | 0,_=>rfl
 | n + 1,x=>by
   have e:(fun i=>x.testBit i) ∘ Nat.succ=fun i=>(x / 2).testBit i:=funext fun i=>by
     show x.testBit (i + 1)=_
     rw [Nat.testBit_succ]
   rw [show pc (n + 1) x=x % 2 + pc n (x / 2) from rfl,pc_filter n (x / 2),List.range_succ_eq_map,List.filter_cons,List.filter_map,e]
   have h0:x.testBit 0=decide (x % 2=1):=Nat.testBit_zero x
   rw [h0]
   by_cases h:x % 2=1
   · rw [if_pos (decide_eq_true h),List.length_cons,List.length_map,h]
     omega
   · rw [if_neg (by simpa using h),List.length_map]
     omega
def wsum (l:List Int):Nat:=(l.map fun w=>pc 64 w.toNat).sum
theorem mem_cons (w:Int) (l:List Int) (i:Nat):mem (w :: l) i=if i < 64 then w.toNat.testBit i else mem l (i - 64):=by
 unfold mem
 by_cases h:i < 64
 · rw [if_pos h,Nat.div_eq_of_lt h,Nat.mod_eq_of_lt h]
   rfl
 · rw [if_neg h,show i / 64=(i - 64) / 64 + 1 by omega,show i % 64=(i - 64) % 64 by omega]
   rfl
theorem wsum_eq:∀ l:List Int,((List.range (64 * l.length)).filter (mem l)).length=wsum l
 | []=>rfl
 | w :: l=>by
   rw [show 64 * (w :: l).length=64 + 64 * l.length by simp; omega,List.range_add,List.filter_append,List.length_append,List.filter_map,List.length_map]
   have e1:(List.range 64).filter (mem (w :: l))=(List.range 64).filter (fun i=>w.toNat.testBit i):=List.filter_congr fun i hi=>by
     rw [mem_cons,if_pos (List.mem_range.1 hi)]
   have e2:(mem (w :: l)) ∘ (64 + ·)=mem l:=funext fun i=>by
     show mem (w :: l) (64 + i)=_
     rw [mem_cons,if_neg (by omega),Nat.add_sub_cancel_left]
   rw [e1,e2,wsum_eq l,← pc_filter]
   simp [wsum]
theorem mems_len {n:Nat} {l:List Int} (h:Ds n l):(mems n l).length=wsum l:=by
 have hl:=h.len
 rw [← wsum_eq]
 have:=filter_gap (p:=mem l) (c:=n) (64 * l.length - n) (fun j h1 _=>h.top j h1)
 rw [show n + (64 * l.length - n)=64 * l.length by omega] at this
 rw [this]
 rfl
theorem pc_le (n x:Nat):pc n x≤n:=by
 rw [pc_filter]; exact filter_len _ _
theorem wsum_snoc {l:List Int} {k:Nat} (hk:k < l.length):wsum (l.take (k + 1))=wsum (l.take k) + pc 64 (l[k]).toNat:=by
 unfold wsum
 rw [take_snoc hk,List.map_append,List.sum_append]
 simp
theorem Count_some {n:Nat} {l:List Int} (h:Ds n l):fn_dense_Set_Count (some ((n:Int),l))=some (((mems n l).length:Nat):Int):=by
 have hn:=h.hn
 have hl:=h.len
 have hb:∀ k,k≤l.length→wsum (l.take k)≤64 * k:=fun k=>by
   induction k with
   | zero=>intro _; simp [wsum]
   | succ k ih =>
     intro hk
     have:=ih (by omega)
     have h2:=pc_le 64 (l[k]).toNat
     rw [wsum_snoc (by omega:k < l.length)]
     omega
 unfold fn_dense_Set_Count
 have hlp:loop (fn_dense_Set_Count_l1 ((n:Int),l)) ((0:Int),(0:Int))=some ((wsum l:Nat):Int):=by
   have:=loop_nat (body:=fn_dense_Set_Count_l1 ((n:Int),l)) (fun k:Nat=>(((wsum (l.take k):Nat):Int),(k:Int))) l.length (b:=((wsum l:Nat):Int)) ?_ ?_
   · exact this
   · intro k hk
     unfold fn_dense_Set_Count_l1
     have hw:=h.wd _ (List.getElem_mem hk)
     unfold Wd at hw
     obtain ⟨x,hx⟩:=Int.eq_ofNat_of_zero_le hw.1
     have ho:=Ones_eq x (by omega)
     rw [← hx] at ho
     have hp:l[k].toNat=x:=by omega
     have h1:=hb k (by omega)
     have h2:=hb (k + 1) (by omega)
     have e:wsum (l.take (k + 1))=wsum (l.take k) + pc 64 x:=by
       rw [wsum_snoc hk,hp]
     simp only [dlt hk,cond_true,getN hk,ho,Option.bind_some]
     rw [w64s hk (by omega),e,w64 (by omega) (by omega),← Int.natCast_add]
   · unfold fn_dense_Set_Count_l1
     simp
 simp only [Option.isNone_some,cond_false,Option.bind_some]
 rw [hlp,mems_len h]
 rfl
section
structure Qr {α:Type} (ring:List α) (f m:Int) (l:List α):Prop where
 m_:m=((l.length:Nat):Int)
 f0:0≤f
 fl:(ring=[]∧f=0)∨f < ((ring.length:Nat):Int)
 le:l.length≤ring.length
 sz:ring.length≤1000000
 at_:∀ i x,l[i]? = some x→ring[(f.toNat + i) % ring.length]? = some x
theorem Qr.nil {α:Type}:Qr ([]:List α) 0 0 []:=⟨rfl,Int.le_refl 0,.inl ⟨rfl,rfl⟩,Nat.le_refl _,by simp,fun i x h=>by simp at h⟩
section
variable {α β:Type} {ring:List α} {f m:Int} {l:List α}
theorem cpy_front (z:α) (a:List α) (k:Nat) (h:a.length≤k):cpy (List.replicate k z) 0 (a.take k)=a++List.replicate (k - a.length) z:=by
 unfold cpy
 rw [List.take_of_length_le h]
 simp
theorem grow_eval (z:α) (h0:0≤f) (h1:f≤((ring.length:Nat):Int)) (hs:ring.length≤1000000) (K:List α→Option β) :
   (mk (IntKind.wrap .i64 ((IntKind.wrap .i64 (2 * (((ring.length:Nat):Int)))) + 1)) (IntKind.wrap .i64 ((IntKind.wrap .i64 (2 * (((ring.length:Nat):Int)))) + 1)) z:Option (List α)).bind (fun z15=>(subL ring f (((ring.length:Nat):Int))).bind fun _=>(some (cpy z15 ((0:Int).toNat) ((List.drop (f:Int).toNat (List.take (((ring.length:Nat):Int):Int).toNat ring)).take (z15.length - (0:Int).toNat)))).bind fun z20=>(subL z20 (((min (List.drop (f:Int).toNat (List.take (((ring.length:Nat):Int):Int).toNat ring)).length (z15.length - (0:Int).toNat):Nat):Int)) (((z15.length:Nat):Int))).bind fun _=>(subL ring 0 f).bind fun _=>(some (cpy z20 ((((min (List.drop (f:Int).toNat (List.take (((ring.length:Nat):Int):Int).toNat ring)).length (z15.length - (0:Int).toNat):Nat):Int):Int).toNat) ((List.drop (0:Int).toNat (List.take (f:Int).toNat ring)).take (((((z15.length:Nat):Int):Int).toNat) - (((min (List.drop (f:Int).toNat (List.take (((ring.length:Nat):Int):Int).toNat ring)).length (z15.length - (0:Int).toNat):Nat):Int):Int).toNat)))).bind fun z22=>K z22)
     = K (ring.drop f.toNat++(ring.take f.toNat++List.replicate (ring.length + 1) z)):=by
 have w1:IntKind.wrap .i64 (2 * (((ring.length:Nat):Int)))=2 * ((ring.length:Nat):Int):=w64 (by omega) (by omega)
 have w2:IntKind.wrap .i64 (2 * ((ring.length:Nat):Int) + 1)=((2 * ring.length + 1:Nat):Int):=by rw [w64 (by omega) (by omega)]; omega
 obtain ⟨k,rfl⟩:=Int.eq_ofNat_of_zero_le h0
 have hk:k≤ring.length:=by omega
 have hmk:mk ((2 * ring.length + 1:Nat):Int) ((2 * ring.length + 1:Nat):Int) z=some (List.replicate (2 * ring.length + 1) z):=by
   unfold mk
   rw [if_pos ⟨by omega,Int.le_refl _,by omega⟩,Int.toNat_natCast]
 rw [w1,w2,hmk]
 simp only [Option.bind_some,Int.toNat_natCast,Int.toNat_zero,List.take_length,Nat.sub_zero,List.length_replicate,List.drop_zero,List.length_drop]
 have hmin:min (ring.length - k) (2 * ring.length + 1)=ring.length - k:=by omega
 rw [hmin,subL_eq (by omega) (by omega) (by omega)]
 simp only [Option.bind_some]
 have hl:(ring.drop k).length≤2 * ring.length + 1:=by rw [List.length_drop]; omega
 rw [cpy_front z (ring.drop k) _ hl,subL_eq (by omega) (by omega) (by simp; omega),subL_eq (by omega) (by omega) (by omega)]
 simp only [Option.bind_some,Int.toNat_natCast]
 congr 1
 unfold cpy
 have hd:(ring.drop k).length=ring.length - k:=List.length_drop
 have ht:(ring.take k).length=k:=by rw [List.length_take]; omega
 rw [List.take_of_length_le (l:=ring.take k) (by rw [ht]; omega),ht,List.take_append_of_le_length (by rw [hd]; exact Nat.le_refl _),List.take_of_length_le (l:=ring.drop k) (by rw [hd]; exact Nat.le_refl _),List.drop_append,List.drop_of_length_le (l:=ring.drop k) (by rw [hd]; omega),hd,List.nil_append,List.drop_replicate]
 congr 3
 omega
theorem Qr.grow (z:α) (h:Qr ring f m l) (he:m=((ring.length:Nat):Int)) (hl:l.length≤10000):Qr (ring.drop f.toNat++(ring.take f.toNat++List.replicate (ring.length + 1) z)) 0 m l∧l.length < (ring.drop f.toNat++(ring.take f.toNat++List.replicate (ring.length + 1) z)).length:=by
 have hn:l.length=ring.length:=by have:=h.m_; omega
 have hf:f.toNat≤ring.length:=by rcases h.fl with ⟨h1,h2⟩ | h1 <;> omega
 have hlen:(ring.drop f.toNat++(ring.take f.toNat++List.replicate (ring.length + 1) z)).length=2 * ring.length + 1:=by simp; omega
 refine ⟨⟨h.m_,Int.le_refl 0,.inr (by rw [hlen]; omega),by rw [hlen]; omega,by rw [hlen]; omega,fun i x hx=>?_⟩,by rw [hlen]; omega⟩
 have hi:i < l.length:=(List.getElem?_eq_some_iff.1 hx).1
 have h1:=h.at_ i x hx
 rw [hlen,Int.toNat_zero,Nat.zero_add,Nat.mod_eq_of_lt (by omega)]
 by_cases hc:f.toNat + i < ring.length
 · rw [Nat.mod_eq_of_lt hc] at h1
   rw [List.getElem?_append_left (by rw [List.length_drop]; omega),List.getElem?_drop]
   exact h1
 · rw [Nat.mod_eq_sub_mod (by omega),Nat.mod_eq_of_lt (by omega)] at h1
   rw [List.getElem?_append_right (by rw [List.length_drop]; omega),List.length_drop,List.getElem?_append_left (by rw [List.length_take]; omega),List.getElem?_take,if_pos (by omega)]
   rw [← h1]
   congr 1
   omega
theorem tmod_nat (a b:Nat):Int.tmod (a:Int) (b:Int)=((a % b:Nat):Int):=rfl
theorem Qr.push (x:α) (h:Qr ring f m l) (hl:l.length < ring.length):Int.tmod (IntKind.wrap .i64 (f + m)) ((ring.length:Nat):Int)=(((f.toNat + l.length) % ring.length:Nat):Int)∧(f.toNat + l.length) % ring.length < ring.length∧IntKind.wrap .i64 (m + 1)=((l.length + 1:Nat):Int)∧Qr (ring.set ((f.toNat + l.length) % ring.length) x) f ((l.length + 1:Nat):Int) (l++[x]):=by
 have hm:=h.m_
 have hf:=h.f0
 have hs:=h.sz
 have hfl:f < ((ring.length:Nat):Int):=by rcases h.fl with ⟨h1,_⟩ | h1; (subst h1; simp at hl); exact h1
 have hp:0 < ring.length:=by omega
 have hlt:=Nat.mod_lt (f.toNat + l.length) hp
 refine ⟨?_,hlt,?_,⟨by simp,hf,.inr (by rw [List.length_set]; exact hfl),by rw [List.length_set]; simp; omega,by rw [List.length_set]; exact hs,fun i y hy=>?_⟩⟩
 · rw [hm,w64 (by omega) (by omega)]
   obtain ⟨k,rfl⟩:=Int.eq_ofNat_of_zero_le hf
   rw [← Int.natCast_add]
   exact tmod_nat _ _
 · rw [hm,w64 (by omega) (by omega)]; omega
 · rw [List.length_set,List.getElem?_set]
   rcases Nat.lt_trichotomy i l.length with hi | hi | hi
   · rw [List.getElem?_append_left hi] at hy
     have hne:¬ (f.toNat + l.length) % ring.length=(f.toNat + i) % ring.length:=fun e=>by
       have hf':f.toNat < ring.length:=by omega
       by_cases c1:f.toNat + l.length < ring.length
       · rw [Nat.mod_eq_of_lt c1,Nat.mod_eq_of_lt (by omega)] at e; omega
       · rw [Nat.mod_eq_sub_mod (by omega),Nat.mod_eq_of_lt (by omega)] at e
         by_cases c2:f.toNat + i < ring.length
         · rw [Nat.mod_eq_of_lt c2] at e; omega
         · rw [Nat.mod_eq_sub_mod (by omega),Nat.mod_eq_of_lt (by omega)] at e; omega
     rw [if_neg hne]
     exact h.at_ i y hy
   · subst hi
     rw [List.getElem?_append_right (Nat.le_refl _),Nat.sub_self] at hy
     rw [if_pos rfl,if_pos hlt]
     simpa using hy
   · rw [List.getElem?_eq_none (by simp; omega)] at hy; cases hy
theorem Qr.pop (z x:α) {l':List α} (h:Qr ring f m (x :: l')):m≠0∧getI ring f=some x∧nz ((ring.length:Nat):Int)=some ()∧IntKind.wrap .i64 (m - 1)=((l'.length:Nat):Int)∧Qr (ring.set f.toNat z) (Int.tmod (IntKind.wrap .i64 (f + 1)) ((ring.length:Nat):Int)) ((l'.length:Nat):Int) l':=by
 have hm:=h.m_
 have hf:=h.f0
 have hs:=h.sz
 have hle:=h.le
 simp only [List.length_cons] at hm hle
 have hfl:f < ((ring.length:Nat):Int):=by rcases h.fl with ⟨h1,_⟩ | h1; (subst h1; simp at hle); exact h1
 have h0:=h.at_ 0 x rfl
 rw [Nat.add_zero,Nat.mod_eq_of_lt (by omega)] at h0
 have hmod:Int.tmod (IntKind.wrap .i64 (f + 1)) ((ring.length:Nat):Int)=(((f.toNat + 1) % ring.length:Nat):Int):=by
   rw [w64 (by omega) (by omega)]
   obtain ⟨k,rfl⟩:=Int.eq_ofNat_of_zero_le hf
   exact tmod_nat (k + 1) _
 refine ⟨by omega,by unfold getI; rw [if_pos hf]; exact h0,nz_eq (by omega),by rw [w64 (by omega) (by omega)]; omega,?_⟩
 rw [hmod]
 have hlt:=Nat.mod_lt (f.toNat + 1) (show 0 < ring.length by omega)
 refine ⟨rfl,by omega,.inr (by rw [List.length_set]; omega),by rw [List.length_set]; omega,by rw [List.length_set]; exact hs,fun i y hy=>?_⟩
 have hi:i < l'.length:=(List.getElem?_eq_some_iff.1 hy).1
 have h1:=h.at_ (i + 1) y (by simpa using hy)
 rw [List.length_set,Int.toNat_natCast,List.getElem?_set]
 have e1:((f.toNat + 1) % ring.length + i) % ring.length=(f.toNat + (i + 1)) % ring.length:=by
   rw [Nat.mod_add_mod]; congr 1; omega
 rw [e1]
 have hne:¬ f.toNat=(f.toNat + (i + 1)) % ring.length:=fun e=>by
   by_cases c:f.toNat + (i + 1) < ring.length
   · rw [Nat.mod_eq_of_lt c] at e; omega
   · rw [Nat.mod_eq_sub_mod (by omega),Nat.mod_eq_of_lt (by omega)] at e; omega
 rw [if_neg hne]
 exact h1
end
end
section
section
variable {ring:List (Int)} {f m:Int} {l:List (Int)}
end
section
variable {ring:List (Int)} {f m:Int} {l:List (Int)}
theorem grow_intW {w:(Option (List ((Int)×Int)))} (h0:0≤f) (h1:f≤((ring.length:Nat):Int)) (hs:ring.length≤1000000):fn_stack_Queue_int_grow_p0_riiod ring f m w=some (ring.drop f.toNat++(ring.take f.toNat++List.replicate (ring.length + 1) 0),w):=by
 unfold fn_stack_Queue_int_grow_p0_riiod
 exact grow_eval 0 h0 h1 hs (fun z=>some (z,w))
theorem push1_intW {w:(Option (List ((Int)×Int)))} (xb:List (Int)) (i:Nat) (hi:i < xb.length) (hx:xb.length≤10000) (h:Qr ring f m l) (hl:l.length≤10000):∃ r f',fn_stack_Queue_int_Push_p0k_riiod_l1 xb ((i:Int),ring,f,m,w)=some (.inl (((i + 1:Nat):Int),r,f',((l.length + 1:Nat):Int),w))∧Qr r f' ((l.length + 1:Nat):Int) (l++[xb[i]]):=by
 have hf:=h.f0
 have hfl:f≤((ring.length:Nat):Int):=by rcases h.fl with ⟨h1,h2⟩ | h1 <;> omega
 have hle:=h.le
 have hm:=h.m_
 by_cases hc:m=((ring.length:Nat):Int)
 · obtain ⟨hq,hq2⟩:=Qr.grow 0 h hc hl
   have hg:=grow_intW (w:=w) (m:=m) hf hfl h.sz
   generalize (ring.drop f.toNat++(ring.take f.toNat++List.replicate (ring.length + 1) 0))=r at hq hq2 hg
   obtain ⟨p1,p2,p3,p4⟩:=hq.push xb[i] hq2
   rw [Int.zero_add] at p1
   refine ⟨_,0,?_,p4⟩
   unfold fn_stack_Queue_int_Push_p0k_riiod_l1
   simp only [dlt hi,cond_true,getN hi,Option.bind_some,hc,decide_true]
   rw [← hc,hg]
   simp only [Option.bind_some,Int.zero_add]
   rw [nz_eq (by omega)]
   simp only [Option.bind_some,p1,getN p2,Int.toNat_natCast,p3,w64s hi (by omega)]
 · have hq2:l.length < ring.length:=by omega
   obtain ⟨p1,p2,p3,p4⟩:=h.push xb[i] hq2
   refine ⟨_,f,?_,p4⟩
   unfold fn_stack_Queue_int_Push_p0k_riiod_l1
   simp only [dlt hi,cond_true,getN hi,Option.bind_some,hc,decide_false,cond_false]
   rw [nz_eq (by omega)]
   simp only [Option.bind_some,p1,getN p2,Int.toNat_natCast,p3,w64s hi (by omega)]
theorem push_intW {w:(Option (List ((Int)×Int)))} (xb:List (Int)) (h:Qr ring f m l) (hl:l.length + xb.length≤10000):∃ r f',fn_stack_Queue_int_Push_p0k_riiod xb ring f m w=some (r,f',((l.length + xb.length:Nat):Int),w)∧Qr r f' ((l.length + xb.length:Nat):Int) (l++xb):=by
 obtain ⟨b,h1,h2⟩:=loop_inv (body:=fn_stack_Queue_int_Push_p0k_riiod_l1 xb) (fun s=>∃ k:Nat,k≤xb.length∧s.1=(k:Int)∧s.2.2.2.1=((l.length + k:Nat):Int)∧Qr s.2.1 s.2.2.1 s.2.2.2.1 (l++xb.take k)∧w=s.2.2.2.2) (fun s=>xb.length - s.1.toNat) (Q:=fun b=>∃ r f',b=(r,f',((l.length + xb.length:Nat):Int),w)∧Qr r f' ((l.length + xb.length:Nat):Int) (l++xb)) (fun s hs=>by
   obtain ⟨i,r,f',m',w'⟩:=s
   obtain ⟨k,hk,e1,e2,hq,hw⟩:=hs
   dsimp only at e1 e2 hq hw
   subst e1 hw
   by_cases hc:k < xb.length
   · obtain ⟨r2,f2,g1,g2⟩:=push1_intW (w:=w) xb k hc (by omega) hq (by simp; omega)
     refine .inl ⟨_,g1,⟨k + 1,hc,rfl,by simp; omega,?_,rfl⟩,by dsimp only; rw [Int.toNat_natCast,Int.toNat_natCast]; omega⟩
     have e3:l++xb.take (k + 1)=(l++xb.take k)++[xb[k]]:=by rw [take_snoc hc,List.append_assoc]
     dsimp only
     rw [e3]
     exact g2
   · obtain rfl:k=xb.length:=by omega
     refine .inr ⟨(r,f',m',w),?_,r,f',by rw [e2],?_⟩
     · unfold fn_stack_Queue_int_Push_p0k_riiod_l1
       simp only [dge hc,cond_false]
     · rw [← e2]; simpa using hq) (s:=(0,ring,f,m,w)) ⟨0,Nat.zero_le _,rfl,by simpa using h.m_,by simpa using h,rfl⟩
 obtain ⟨r,f',rfl,hq⟩:=h2
 refine ⟨r,f',?_,hq⟩
 unfold fn_stack_Queue_int_Push_p0k_riiod
 rw [h1]
 rfl
theorem popC_intW {w:(Option (List ((Int)×Int)))} {x:Int} (h:Qr ring f m (x :: l)):∃ r f',fn_stack_Queue_int_Pop_p0_riiod ring f m w=some (x,true,r,f',((l.length:Nat):Int),w)∧Qr r f' ((l.length:Nat):Int) l:=by
 obtain ⟨h1,h2,h3,h4,h5⟩:=h.pop 0 x
 refine ⟨_,_,?_,h5⟩
 unfold fn_stack_Queue_int_Pop_p0_riiod fn_stack_Queue_int_Len_p0_riiod
 simp only [Option.bind_some,h1,decide_false,cond_false,h2,h3,h4]
end
section
variable {ring:List (List UInt8)} {f m:Int} {l:List (List UInt8)}
end
section
variable {ring:List (List UInt8)} {f m:Int} {l:List (List UInt8)}
end
end
section
section
variable {α:Type} [DecidableEq α]
theorem markB_eq (k:α) (x:Option (List (α×Int))):markB k x = !decide (mget k (x.getD []) > 0):=by cases x <;> rfl
theorem markL_eq (k:α) (x:Option (List (α×Int))):markL k x=if mget k (x.getD []) > 0 then x.getD [] else mset k (wrap64 (mget k (x.getD []) + 1)) (x.getD []):=by cases x <;> rfl
structure Wr (ring:List α) (f m:Int) (w:Option (List (α×Int))) (l:List α):Prop where
 q:Qr ring f m l
 nd:l.Nodup
 ks:((w.getD []).map (·.1)).Nodup
 c:∀ k,mget k (w.getD [])=if k∈l then 1 else 0
theorem Wr.nil:Wr ([]:List α) 0 0 none []:=⟨Qr.nil,List.nodup_nil,List.nodup_nil,fun k=>rfl⟩
end
section
variable {ring:List (Int)} {f m:Int} {l:List (Int)} {w:Option (List ((Int)×Int))}
theorem wpush_int (k:Int) (h:Wr ring f m w l) (hl:l.length≤9000):∃ r f' w',fn_stack_Work_int_Push_p0i_riiod k ring f m w=some (!decide (k∈l),r,f',(((if k∈l then l else l++[k]).length:Nat):Int),w')∧Wr r f' (((if k∈l then l else l++[k]).length:Nat):Int) w' (if k∈l then l else l++[k]):=by
 have hc:=h.c k
 unfold fn_stack_Work_int_Push_p0i_riiod markF_int
 rw [markB_eq,markL_eq]
 by_cases hk:k∈l
 · rw [if_pos hk] at hc
   have hm:=h.q.m_
   simp only [hc,if_pos hk,hk,decide_true,Bool.not_true,Option.bind_some,show (1:Int) > 0 by omega,if_true,Bool.not_false,cond_true]
   rw [hm]
   exact ⟨_,_,_,rfl,⟨hm ▸ h.q,h.nd,by simpa using h.ks,by simpa using h.c⟩⟩
 · rw [if_neg hk] at hc
   have h0:¬ ((0:Int) > 0):=by omega
   have h1:wrap64 (0 + 1)=1:=IntWalk.wrap64_in (0 + 1) (by decide)
   obtain ⟨r,f',g1,g2⟩:=push_intW (w:=some (mset k 1 (w.getD []))) [k] h.q (by simp; omega)
   simp only [hc,if_neg hk,hk,decide_false,Bool.not_false,Option.bind_some,h0,h1,if_false,Bool.not_true,cond_false]
   rw [g1]
   refine ⟨r,f',some (mset k 1 (w.getD [])),?_,⟨?_,?_,?_,fun k'=>?_⟩⟩
   · simp
   · simpa using g2
   · exact List.nodup_append.2 ⟨h.nd,by simp,fun a ha b hb e=>by simp at hb; subst hb; subst e; exact hk ha⟩
   · exact nodup_set k 1 _ h.ks
   · show mget k' (mset k 1 (w.getD []))=_
     rw [mget_set,h.c k']
     by_cases h2:k'=k <;> simp [h2]
theorem wpopC_int {x:Int} (h:Wr ring f m w (x :: l)):∃ r f' w',fn_stack_Work_int_Pop_p0_riiod ring f m w=some (x,true,r,f',((l.length:Nat):Int),w')∧Wr r f' ((l.length:Nat):Int) w' l:=by
 obtain ⟨r,f',g1,g2⟩:=popC_intW (w:=w) h.q
 refine ⟨r,f',w.map (mdel x),?_,⟨g2,(List.nodup_cons.1 h.nd).2,?_,fun k=>?_⟩⟩
 · unfold fn_stack_Work_int_Pop_p0_riiod
   rw [g1]
   rfl
 · cases w with
   | none=>exact List.nodup_nil
   | some w=>exact (nodup_del x w h.ks).1
 · have hx:=(List.nodup_cons.1 h.nd).1
   have hc:=h.c k
   cases w with
   | none =>
     have hx0:=h.c x
     rw [if_pos (by simp)] at hx0
     exact absurd (show (0:Int)=1 from hx0) (by decide)
   | some w =>
     show mget k (mdel x w)=_
     have hc:mget k w=_:=hc
     rw [mget_del x k w h.ks,hc]
     by_cases h2:k=x
     · subst h2; simp [hx]
     · simp [h2]
theorem wlen_int (h:Wr ring f m w l):fn_stack_Work_int_Len_p0_riiod ring f m w=some (((l.length:Nat):Int),ring,w):=by
 unfold fn_stack_Work_int_Len_p0_riiod fn_stack_Queue_int_Len_p0_riiod
 rw [h.q.m_]; rfl
end
section
variable {ring:List (List UInt8)} {f m:Int} {l:List (List UInt8)} {w:Option (List ((List UInt8)×Int))}
end
end
section
abbrev Sw:=Option (Int×List Int)
theorem mem_lt {n:Nat} {l:List Int} (h:Ds n l) {k:Nat} (hk:mem l k=true):k < n:=by
 rcases Nat.lt_or_ge k n with h1 | h1
 · exact h1
 · rw [h.top k h1] at hk; cases hk
theorem List_kn {n:Nat} {l:List Int} (h:Ds n l):fn_dense_Set_List (some ((n:Int),l))=some (liN (mems n l)):=by
 have hn:=h.hn
 obtain ⟨r,g1,g2⟩:=gather h (body:=fn_dense_Set_List_l1 (some ((n:Int),l))) (fun c k hk=>by
   have:=mem_lt h hk
   unfold fn_dense_Set_List_l1
   dsimp only
   rw [show decide (0≤(k:Int))=true by simp,cond_true,w64 (by omega) (by omega)]) (fun c=>rfl)
 unfold fn_dense_Set_List
 rw [show fn_dense_Set_All (some ((n:Int),l))=some () from rfl,Option.bind_some,g1,Option.bind_some,g2]; rfl
theorem mk_nat {α:Type} (n:Nat) (z:α) (h:n≤1073741824):mk (n:Int) (n:Int) z=some (List.replicate n z):=by
 unfold mk
 rw [if_pos ⟨by omega,Int.le_refl _,by omega⟩,Int.toNat_natCast]
section
variable {P:Pts} {N:Nat} {E:ArG}
abbrev bks (N:Nat) (E:ArG):List (List Int):=(List.range N).map fun v=>li (nxt (tn E) v)
theorem backs_eq (hn:N≤1048576) (he:E.length≤67108864):fn_live_backs (flG P N E) (N:Int)=some (bks N E):=by
 unfold fn_live_backs
 rw [mk_nat N ([]:List Int) (by omega),Option.bind_some]
 have hl:=loop_nat (body:=fn_live_backs_l1 (flG P N E) (List.replicate N [])) (fun k:Nat=>((List.range N).map (fun v=>if v < k then li (nxt (tn E) v) else []),(k:Int))) N (b:=bks N E) ?_ ?_
 · have e:(List.replicate N ([]:List Int))=(List.range N).map (fun v=>if v < 0 then li (nxt (tn E) v) else []):=by
     rw [rmap]; exact cmap fun v _=>by simp
   rw [show ((List.replicate N ([]:List Int)),(0:Int))=((List.range N).map (fun v=>if v < 0 then li (nxt (tn E) v) else []),((0:Nat):Int)) by rw [← e]; rfl,hl]; rfl
 · intro k hk
   unfold fn_live_backs_l1
   simp only [List.length_replicate,dlt hk,cond_true,flBack_of hn he hk,Option.bind_some,gmap hk,Int.toNat_natCast,smap,w64s hk (by omega:N≤9223372036854775807)]
   congr 3
   refine cmap fun v _=>?_
   by_cases h1:v=k
   · subst h1; simp
   · have:v < k + 1↔v < k:=by omega
     simp [h1,this]
 · unfold fn_live_backs_l1
   simp only [List.length_replicate,dge (show ¬ N < N by omega),cond_false]
   congr 2
   exact cmap fun v hv=>by simp [hv]
end
section
variable {N:Nat} {E:ArG}
theorem stops_eq (hN:N≤1000) {Wn:List Nat} (hl:Wn.length≤1000000) {l0:List Int} (h0:Ds N l0) (hz:∀ j,mem l0 j=false) (hw:∀ n∈Wn,n < N) :
   ∃ l',loop (fn_live_spread_l8 (li Wn) (N:Int)) (0,l0)=some l'∧Ds N l'∧∀ j,mem l' j=decide (j∈Wn):=by
 obtain ⟨b,h1,h2⟩:=loop_inv (body:=fn_live_spread_l8 (li Wn) (N:Int)) (fun s=>∃ k:Nat,k≤Wn.length∧s.1=(k:Int)∧Ds N s.2∧∀ j,mem s.2 j=decide (j∈Wn.take k)) (fun s=>Wn.length - s.1.toNat) (Q:=fun b=>Ds N b∧∀ j,mem b j=decide (j∈Wn)) (fun s hs=>by
   obtain ⟨i,l⟩:=s
   obtain ⟨k,hk,rfl,hd,hm⟩:=hs
   dsimp only at hd hm ⊢
   by_cases hc:k < Wn.length
   · obtain ⟨l',g1,g2,g3⟩:=Add_some hd ((Wn[k]:Nat):Int)
     refine .inl ⟨(((k + 1:Nat):Int),l'),?_,⟨k + 1,hc,rfl,g2,fun j=>?_⟩,by dsimp only; omega⟩
     · unfold fn_live_spread_l8
       simp only [li_len,dlt hc,cond_true,getI_li hc,Option.bind_some,g1,w64s hc (by omega:Wn.length≤9223372036854775807)]
     · have:=hw _ (List.getElem_mem hc)
       rw [g3,hm,take_snoc hc,Int.toNat_natCast]
       rw [Bool.eq_iff_iff]
       simp only [Bool.or_eq_true,decide_eq_true_eq,List.mem_append,List.mem_singleton]
       constructor
       · rintro (h | ⟨_,h⟩)
         · exact .inl h
         · exact .inr h.symm
       · rintro (h | h)
         · exact .inl h
         · exact .inr ⟨⟨by omega,by omega⟩,h.symm⟩
   · obtain rfl:k=Wn.length:=by omega
     refine .inr ⟨l,?_,hd,fun j=>by rw [hm,List.take_length]⟩
     unfold fn_live_spread_l8
     simp only [li_len,dge hc,cond_false]) (s:=(0,l0)) ⟨0,Nat.zero_le _,rfl,h0,fun j=>by simp [hz]⟩
 exact ⟨b,h1,h2⟩
theorem li_mem {L:List Nat} {n:Nat}:(n:Int)∈li L↔n∈L:=by
 unfold li
 rw [List.mem_map]
 constructor
 · rintro ⟨a,h,e⟩
   have:a=n:=by exact_mod_cast e
   exact this ▸ h
 · exact fun h=>⟨n,h,rfl⟩
theorem nodup_snoc {L:List Nat} {k:Nat} (h:L.Nodup) (hk:k < L.length):L[k]∉L.take k:=by
 have h2:(L.take (k + 1)).Nodup:=h.sublist (List.take_sublist _ _)
 rw [take_snoc hk,List.nodup_append] at h2
 exact fun hm=>h2.2.2 _ hm _ (List.mem_singleton.2 rfl) rfl
theorem wnew_int {ring:List Int} {f m:Int} {l:List Int} {w:Option (List (Int×Int))} {k:Nat} {L:List Nat} (h:Wr ring f m w (li L)) (hk:k∉L) (hl:L.length≤9000) :
   ∃ r f' m' w',fn_stack_Work_int_Push_p0i_riiod (k:Int) ring f m w=some (true,r,f',m',w')∧Wr r f' m' w' (li (L++[k])):=by
 obtain ⟨r,f',w',g1,g2⟩:=wpush_int (k:Int) h (by rw [li_len]; exact hl)
 have hn:¬ ((k:Int)∈li L):=fun h=>hk (li_mem.1 h)
 rw [if_neg hn] at g1 g2
 rw [show decide ((k:Int)∈li L)=false from decide_eq_false hn] at g1
 have e:li (L++[k])=li L++[(k:Int)]:=by simp [li]
 exact ⟨r,f',_,w',g1,by rw [e]; exact g2⟩
theorem read_eq (hN:N≤1000) {Rn:List Nat} (hR:Rn.Nodup) {l0:List Int} (h0:Ds N l0) (hz:∀ j,mem l0 j=false) (hr:∀ n∈Rn,n < N) :
   ∃ l' r f m w,loop (fn_live_spread_l12 (li Rn) (N:Int)) (0,l0,[],0,0,none)=some (l',r,f,m,w)∧Ds N l'∧(∀ j,mem l' j=decide (j∈Rn))∧Wr r f m w (li Rn):=by
 have hl:Rn.length≤N:=nodup_lt hR hr
 obtain ⟨b,h1,h2⟩:=loop_inv (body:=fn_live_spread_l12 (li Rn) (N:Int)) (fun s=>∃ k:Nat,k≤Rn.length∧s.1=(k:Int)∧Ds N s.2.1∧(∀ j,mem s.2.1 j=decide (j∈Rn.take k))∧Wr s.2.2.1 s.2.2.2.1 s.2.2.2.2.1 s.2.2.2.2.2 (li (Rn.take k))) (fun s=>Rn.length - s.1.toNat) (Q:=fun b=>Ds N b.1∧(∀ j,mem b.1 j=decide (j∈Rn))∧Wr b.2.1 b.2.2.1 b.2.2.2.1 b.2.2.2.2 (li Rn)) (fun s hs=>by
   obtain ⟨i,l,ring,f,m,w⟩:=s
   obtain ⟨k,hk,rfl,hd,hm,hw⟩:=hs
   dsimp only at hd hm hw ⊢
   by_cases hc:k < Rn.length
   · obtain ⟨l',g1,g2,g3⟩:=Add_some hd ((Rn[k]:Nat):Int)
     obtain ⟨r',f',m',w',g4,g5⟩:=wnew_int (l:=[]) hw (nodup_snoc hR hc) (by rw [List.length_take]; omega)
     refine .inl ⟨(((k + 1:Nat):Int),l',r',f',m',w'),?_,⟨k + 1,hc,rfl,g2,fun j=>?_,by rw [take_snoc hc]; exact g5⟩,by dsimp only; omega⟩
     · unfold fn_live_spread_l12
       simp only [li_len,dlt hc,cond_true,getI_li hc,Option.bind_some,g1,g4,w64s hc (by omega:Rn.length≤9223372036854775807)]
     · have:=hr _ (List.getElem_mem hc)
       dsimp only
       rw [g3,hm,take_snoc hc,Int.toNat_natCast]
       rw [Bool.eq_iff_iff]
       simp only [Bool.or_eq_true,decide_eq_true_eq,List.mem_append,List.mem_singleton]
       constructor
       · rintro (h | ⟨_,h⟩)
         · exact .inl h
         · exact .inr h.symm
       · rintro (h | h)
         · exact .inl h
         · exact .inr ⟨⟨by omega,by omega⟩,h.symm⟩
   · obtain rfl:k=Rn.length:=by omega
     refine .inr ⟨(l,ring,f,m,w),?_,hd,fun j=>by rw [hm,List.take_length],by rw [List.take_length] at hw; exact hw⟩
     unfold fn_live_spread_l12
     simp only [li_len,dge hc,cond_false]) (s:=(0,l0,[],0,0,none)) ⟨0,Nat.zero_le _,rfl,h0,fun j=>by simp [hz],Wr.nil⟩
 obtain ⟨l',r,f,m,w⟩:=b
 exact ⟨l',r,f,m,w,h1,h2⟩
theorem stW_neg {W:Nat→Bool} {s:(Nat→Bool)×List Nat} {u:Nat} (h:¬ (s.1 u=false∧W u=false)):stW W s u=s:=if_neg h
theorem stW_pos {W:Nat→Bool} {s:(Nat→Bool)×List Nat} {u:Nat} (h:s.1 u=false∧W u=false):stW W s u=(ins1 s.1 u,s.2++[u]):=if_pos h
theorem spread_in {R W:Nat→Bool} (hE:inN N E) (hN:N≤1000) {St:List Int} (hS:Ds N St) (hW:∀ j,mem St j=W j) {A:List Nat} {v:Nat} (hA:∀ u∈A,(u,v)∈E) (hAl:A.length≤1000000)
   (hv:Lv E N R W v) {V:Nat→Bool} {Q:List Nat} (hV:∀ n,V n=true→Lv E N R W n) (hQ:∀ n∈Q,V n=true) (hQd:Q.Nodup) {fd ring:List Int} {f m:Int} {w:Option (List (Int×Int))}
   (hd:Ds N fd) (hm:∀ j,mem fd j=V j) (hw:Wr ring f m w (li Q)) :
   ∃ fd' r' f' m' w',loop (fn_live_spread_l13 (N:Int) St (N:Int) (li A)) (0,fd,ring,f,m,w)=some (fd',r',f',m',w')∧Ds N fd'∧(∀ j,mem fd' j=(A.foldl (stW W) (V,Q)).1 j)∧Wr r' f' m' w' (li (A.foldl (stW W) (V,Q)).2):=by
 have hF:∀ k,k≤A.length→(∀ n∈((A.take k).foldl (stW W) (V,Q)).2,((A.take k).foldl (stW W) (V,Q)).1 n=true)∧((A.take k).foldl (stW W) (V,Q)).2.length≤N:=fun k hk=>by
   obtain ⟨_,i2,i3,i4,_⟩:=stW_spec hE hv (A.take k) V Q (fun u hu=>hA u (List.mem_of_mem_take hu)) hV hQ hQd
   exact ⟨i3,nodup_lt i4 (fun x hx=>Lv.lt hE (i2 x (i3 x hx)))⟩
 obtain ⟨b,h1,h2⟩:=loop_inv (body:=fn_live_spread_l13 (N:Int) St (N:Int) (li A)) (fun s=>∃ k:Nat,k≤A.length∧s.1=(k:Int)∧Ds N s.2.1∧(∀ j,mem s.2.1 j=((A.take k).foldl (stW W) (V,Q)).1 j)∧Wr s.2.2.1 s.2.2.2.1 s.2.2.2.2.1 s.2.2.2.2.2 (li ((A.take k).foldl (stW W) (V,Q)).2)) (fun s=>A.length - s.1.toNat) (Q:=fun b=>Ds N b.1∧(∀ j,mem b.1 j=(A.foldl (stW W) (V,Q)).1 j)∧Wr b.2.1 b.2.2.1 b.2.2.2.1 b.2.2.2.2 (li (A.foldl (stW W) (V,Q)).2)) (fun s hs=>by
   obtain ⟨i,l,ring,f,m,w⟩:=s
   obtain ⟨k,hk,rfl,hd,hm,hw⟩:=hs
   dsimp only at hd hm hw ⊢
   by_cases hc:k < A.length
   · have hu:=hA _ (List.getElem_mem hc)
     have huN:=(hE _ hu).1
     dsimp only at huN
     obtain ⟨hq,hql⟩:=hF k hk
     have eF:(A.take (k + 1)).foldl (stW W) (V,Q)=stW W ((A.take k).foldl (stW W) (V,Q)) A[k]:=by rw [take_snoc hc,List.foldl_append]; rfl
     have hHas:fn_dense_Set_Has (some ((N:Int),St)) ((A[k]:Nat):Int)=some (W A[k]):=by rw [Has_nat hS,hW]
     have hw1:IntKind.wrap .i64 ((k:Int) + 1)=((k + 1:Nat):Int):=w64s hc (by omega)
     obtain ⟨l',g1,g2,g3⟩:=Add_some hd ((A[k]:Nat):Int)
     rw [hm,Int.toNat_natCast,show decide ((0:Int)≤((A[k]:Nat):Int)∧((A[k]:Nat):Int) < (N:Int))=true from decide_eq_true ⟨by omega,by omega⟩,Bool.true_and] at g1
     left
     cases hWk:W A[k] with
     | true =>
       refine ⟨(((k + 1:Nat):Int),l,ring,f,m,w),?_,⟨k + 1,hc,rfl,hd,?_,?_⟩,by dsimp only; omega⟩
       · unfold fn_live_spread_l13
         simp only [li_len,dlt hc,cond_true,getI_li hc,Option.bind_some,hHas,hWk,Bool.not_true,cond_false,hw1]
       · rw [eF,stW_neg (by simp [hWk])]; exact hm
       · rw [eF,stW_neg (by simp [hWk])]; exact hw
     | false =>
       cases hVk:((A.take k).foldl (stW W) (V,Q)).1 A[k] with
       | true =>
         rw [hVk] at g1
         refine ⟨(((k + 1:Nat):Int),l',ring,f,m,w),?_,⟨k + 1,hc,rfl,g2,?_,?_⟩,by dsimp only; omega⟩
         · unfold fn_live_spread_l13
           simp only [li_len,dlt hc,cond_true,getI_li hc,Option.bind_some,hHas,hWk,Bool.not_false,g1,Bool.not_true,cond_false,hw1]
         · intro j
           rw [eF,stW_neg (by simp [hVk])]
           dsimp only
           rw [g3,hm,Int.toNat_natCast]
           by_cases e:A[k]=j
           · subst e; rw [hVk]; rfl
           · simp [e]
         · rw [eF,stW_neg (by simp [hVk])]; exact hw
       | false =>
         rw [hVk] at g1
         have hnq:A[k]∉((A.take k).foldl (stW W) (V,Q)).2:=fun h=>by rw [hq _ h] at hVk; cases hVk
         obtain ⟨r',f',m',w',g4,g5⟩:=wnew_int (l:=[]) hw hnq (by omega)
         refine ⟨(((k + 1:Nat):Int),l',r',f',m',w'),?_,⟨k + 1,hc,rfl,g2,?_,?_⟩,by dsimp only; omega⟩
         · unfold fn_live_spread_l13
           simp only [li_len,dlt hc,cond_true,getI_li hc,Option.bind_some,hHas,hWk,Bool.not_false,g1,g4,hw1]
         · intro j
           rw [eF,stW_pos ⟨hVk,hWk⟩]
           dsimp only [ins1]
           rw [g3,hm,Int.toNat_natCast]
           congr 1
           rw [decide_eq_decide]
           exact ⟨fun h=>h.2.symm,fun h=>⟨⟨by omega,by omega⟩,h.symm⟩⟩
         · rw [eF,stW_pos ⟨hVk,hWk⟩]; exact g5
   · obtain rfl:k=A.length:=by omega
     rw [List.take_length] at hm hw
     refine .inr ⟨(l,ring,f,m,w),?_,hd,hm,hw⟩
     unfold fn_live_spread_l13
     simp only [li_len,dge hc,cond_false]) (s:=(0,fd,ring,f,m,w)) ⟨0,Nat.zero_le _,rfl,hd,hm,hw⟩
 obtain ⟨l',r,f,m,w⟩:=b
 exact ⟨l',r,f,m,w,h1,h2⟩
end
section
variable {N:Nat} {E:ArG}
abbrev fb (L:List Nat):Nat→Bool:=fun n=>decide (n∈L)
theorem spread_eq (hE:inN N E) (hN:N≤1000) (hEl:E.length≤1000000) {Rn Wn:List Nat} (hR:Rn.Nodup) (hr:∀ n∈Rn,n < N) (hw:∀ n∈Wn,n < N) (hwl:Wn.length≤1000000) :
   ∃ l',fn_live_spread (bks N E) (li Rn) (li Wn)=some (.inr ((N:Int),l'))∧Ds N l'∧∀ n,mem l' n=true↔Lv E N (fb Rn) (fb Wn) n:=by
 have hz:=mem_rep ((N + 63) / 64)
 have hD:=Ds_new (n:=N) (by omega)
 obtain ⟨St,s1,s2,s3⟩:=stops_eq hN hwl hD hz hw
 obtain ⟨F0,r0,f0,m0,w0,t1,t2,t3,t4⟩:=read_eq hN hR hD hz hr
 have hNew:fn_dense_New (((bks N E).length:Nat):Int)=some (.inr (0,(N:Int),List.replicate ((N + 63) / 64) 0)):=by
   rw [show (bks N E).length=N by simp,New_some,if_neg (by omega),if_neg (by omega)]; rfl
 have hV0:∀ n,mem F0 n=true→Lv E N (fb Rn) (fb Wn) n:=fun n hn=>by
   rw [t3,decide_eq_true_eq] at hn
   exact .rd (hr n hn) (decide_eq_true hn)
 obtain ⟨b,h1,h2⟩:=loop_inv (body:=fn_live_spread_l14 (bks N E) (N:Int) St (N:Int)) (fun s=>∃ Q:List Nat,Ds N s.1∧Wr s.2.1 s.2.2.1 s.2.2.2.1 s.2.2.2.2 (li Q)∧(∀ n,mem s.1 n=true→Lv E N (fb Rn) (fb Wn) n)∧(∀ n∈Q,mem s.1 n=true)∧Q.Nodup∧(∀ v,mem s.1 v=true→v∈Q∨Done E (fb Wn) (mem s.1) v)∧∀ n∈Rn,mem s.1 n=true)
   (fun s=>2 * cz N (mem s.1) + s.2.2.2.1.toNat) (Q:=fun b=>Ds N b∧∀ n,mem b n=true↔Lv E N (fb Rn) (fb Wn) n) (fun s hs=>by
   obtain ⟨fd,ring,f,m,w⟩:=s
   obtain ⟨Q,hd,hq,hV,hQ,hQd,hC,hRn⟩:=hs
   dsimp only at hd hq hV hQ hC hRn ⊢
   have hlen:=wlen_int hq
   have hm:=hq.q.m_
   cases Q with
   | nil =>
     refine .inr ⟨fd,?_,hd,fun n=>⟨hV n,fun h=>Lv.least (V:=mem fd) (fun n _ hn=>hRn n (by simpa using hn)) (fun a ha hc=>?_) h⟩⟩
     · unfold fn_live_spread_l14
       simp only [hlen,Option.bind_some,show (li ([]:List Nat)).length=0 from rfl,show decide ((0:Int) < ((0:Nat):Int))=false from rfl,cond_false]
     · rcases hC _ hc.2.1 with h1 | h1
       · cases h1
       · have:=h1 a.1 ha hc.2.2
         rw [hc.1] at this; cases this
   | cons v Q =>
     have hvV:=hQ v (List.mem_cons_self ..)
     have hvN:=mem_lt hd hvV
     have hLv:=hV v hvV
     have hli:li (v :: Q)=(v:Int) :: li Q:=rfl
     rw [hli] at hq
     obtain ⟨r1,f1,w1,p1,p2⟩:=wpopC_int hq
     have hA:∀ u∈nxt (tn E) v,(u,v)∈E:=fun u hu=>by rw [nxt_mem,tn_mem] at hu; exact hu
     have hAl:(nxt (tn E) v).length≤1000000:=by
       unfold nxt; rw [List.length_map]
       have:=occ_bound ((tn E).map (·.1)) v
       rw [List.length_map,tn_len] at this; omega
     have hQd':=(List.nodup_cons.1 hQd)
     have hQ':∀ n∈Q,mem fd n=true:=fun n hn=>hQ n (List.mem_cons_of_mem _ hn)
     obtain ⟨fd',r',f',m',w',g1,g2,g3,g4⟩:=spread_in (R:=fb Rn) (W:=fb Wn) hE hN s2 s3 hA hAl hLv hV hQ' hQd'.2 hd (fun _=>rfl) p2
     obtain ⟨i1,i2,i3,i4,i5,i6,i7,i8⟩:=stW_spec (R:=fb Rn) hE hLv (nxt (tn E) v) (mem fd) Q hA hV hQ' hQd'.2
     have e3:mem fd'=((nxt (tn E) v).foldl (stW (fb Wn)) (mem fd,Q)).1:=funext g3
     rw [← e3] at i1 i2 i3 i5 i7 i8
     refine .inl ⟨(fd',r',f',m',w'),?_,⟨((nxt (tn E) v).foldl (stW (fb Wn)) (mem fd,Q)).2,g2,g4,i2,i3,i4,fun u hu=>?_,fun n hn=>i1 n (hRn n hn)⟩,?_⟩
     · have hgt:decide ((0:Int) < (((li (v :: Q)).length:Nat):Int))=true:=by rw [hli]; simp
       have hb:getI (bks N E) (v:Int)=some (li (nxt (tn E) v)):=gmap hvN
       rw [hli] at hlen hgt
       unfold fn_live_spread_l14
       simp only [hlen,Option.bind_some,hgt,cond_true,p1,hb,g1]
     · rcases i5 u hu with h | h
       · rcases hC u h with h | h
         · rcases List.mem_cons.1 h with rfl | h
           · exact .inr (fun x hx hwx=>i7 x (nxt_mem.2 (tn_mem.2 hx)) hwx)
           · exact .inl (i6 u h)
         · exact .inr (fun x hx hwx=>i1 x (h x hx hwx))
       · exact .inl h
     · have hm':=g4.q.m_
       dsimp only
       rw [hm',hm,hli,li_len,Int.toNat_natCast,Int.toNat_natCast,List.length_cons,li_len]
       omega) (s:=(F0,r0,f0,m0,w0)) ⟨Rn,t2,t4,hV0,fun n hn=>by rw [t3]; exact decide_eq_true hn,hR,fun v hv => .inl (by rw [t3,decide_eq_true_eq] at hv; exact hv),fun n hn=>by rw [t3]; exact decide_eq_true hn⟩
 refine ⟨b,?_,h2⟩
 unfold fn_live_spread
 rw [hNew]
 simp only [Option.bind_some,s1,t1,h1]
end
end
section
noncomputable abbrev NB (b:Bo):Nat:=bg (xs b) (xs b).length
def rN (P:List Tc) (l:Nat):List Nat:=(List.range P.length).filter (fun n=>decide ((l:Int)∈(P.getD n ([],[])).1))
def wN (P:List Tc) (l:Nat):List Nat:=(List.range P.length).filter (fun n=>decide ((l:Int)∈(P.getD n ([],[])).2))
theorem rN_mem {P:List Tc} {l n:Nat} (hn:n < P.length):n∈rN P l↔(l:Int)∈P[n].1:=by
 unfold rN
 rw [List.mem_filter,List.mem_range,getD_eq hn,decide_eq_true_eq]
 exact ⟨fun h=>h.2,fun h=>⟨hn,h⟩⟩
theorem wN_mem {P:List Tc} {l n:Nat} (hn:n < P.length):n∈wN P l↔(l:Int)∈P[n].2:=by
 unfold wN
 rw [List.mem_filter,List.mem_range,getD_eq hn,decide_eq_true_eq]
 exact ⟨fun h=>h.2,fun h=>⟨hn,h⟩⟩
theorem rN_nd (P:List Tc) (l:Nat):(rN P l).Nodup:=List.nodup_range.filter _
theorem rN_lt {P:List Tc} {l n:Nat} (h:n∈rN P l):n < P.length:=List.mem_range.1 (List.mem_filter.1 h).1
theorem wN_lt {P:List Tc} {l n:Nat} (h:n∈wN P l):n < P.length:=List.mem_range.1 (List.mem_filter.1 h).1
theorem wN_len (P:List Tc) (l:Nat):(wN P l).length≤P.length:=by
 have:=List.length_filter_le (fun n=>decide ((l:Int)∈(P.getD n ([],[])).2)) (List.range P.length)
 simpa [wN] using this
def LvS (b:Bo) (l:Nat):Nat→Prop:=Lv (arcs (xs b)) (NB b) (fb (rN (pts (xs b)) l)) (fb (wN (pts (xs b)) l))
noncomputable def lvB (b:Bo) (l n:Nat):Bool:=@decide (LvS b l n) (Classical.propDecidable _)
theorem lvB_iff {b:Bo} {l n:Nat}:lvB b l n=true↔LvS b l n:=by unfold lvB; exact @decide_eq_true_iff _ (Classical.propDecidable _)
theorem arcs_in (b:Bo):inN (NB b) (arcs (xs b)):=arcN_in (xs b) _ (Nat.le_refl _)
theorem lvB_lt {b:Bo} {l n:Nat} (h:lvB b l n=true):n < NB b:=Lv.lt (arcs_in b) (lvB_iff.1 h)
theorem lv_none {E:List (Nat×Nat)} {N:Nat} {W:Nat→Bool} {n:Nat}:¬ Lv E N (fb []) W n:=fun h=>by
 have:=Lv.least (V:=fun _=>false) (fun n _ hn=>by simp at hn) (fun a ha hc=>by cases hc.2.1) h
 cases this
def SlotOk (b:Bo) (l:Nat) (s:Sw):Prop:=(s=none∧∀ n,¬ LvS b l n)∨∃ w,s=some ((NB b:Int),w)∧Ds (NB b) w∧∀ n,mem w n=true↔LvS b l n
theorem SlotOk.has {b:Bo} {l:Nat} {s:Sw} (h:SlotOk b l s) (p:Int):fn_dense_Set_Has s p=some (decide (0≤p)&&lvB b l p.toNat):=by
 rcases h with ⟨rfl,h⟩ | ⟨w,rfl,hd,h⟩
 · have:lvB b l p.toNat=false:=by
     cases e:lvB b l p.toNat with
     | true=>exact absurd (lvB_iff.1 e) (h _)
     | false=>rfl
   rw [this,Bool.and_false]
   unfold fn_dense_Set_Has fn_dense_Set_mayHave fn_dense_Set_Size
   by_cases q:0≤p
   · simp [q,show ¬ p < 0 by omega]
   · simp [q]
 · rw [Has_some hd]
   congr 1
   have e:mem w p.toNat=lvB b l p.toNat:=by rw [Bool.eq_iff_iff,h,lvB_iff]
   rw [e]
   cases q:lvB b l p.toNat with
   | false=>simp
   | true =>
     have:=lvB_lt q
     rw [Bool.and_true,Bool.and_true,decide_eq_decide]
     constructor
     · exact fun h=>h.1
     · exact fun h=>⟨h,by omega⟩
structure CsOk (b:Bo) (C:List Sw):Prop where
 z:NB b=0→C=[]
 len:0 < NB b→C.length=b.2.2.2.1.length
 ok:∀ l s,C[l]? = some s→SlotOk b l s
theorem touchOf_eq {P:List Tc} {L l:Nat} (hl:l < L) (hP:P.length≤1000):fn_touch_Touches_Of (some (P,lcs L P)) (l:Int)=some (li (rN P l),li (wN P l)):=by
 have hr:=rdr_len P l
 have hw:=wtr_len P l
 have hlen:(lcs L P).length=L:=by simp [lcs]
 have hg:getI (lcs L P) (l:Int)=some (rdr P l,wtr P l):=by
   rw [getN (by rw [hlen]; exact hl)]; simp [lcs]
 unfold fn_touch_Touches_Of
 simp only [Option.isNone_some,Bool.false_or,decide_eq_false (show ¬ ((l:Int) < 0) by omega),cond_false,Option.bind_some,hlen,decide_eq_false (show ¬ ((L:Int)≤(l:Int)) by omega),hg]
 rw [cloneT _ (by omega),cloneT _ (by omega)]
 rfl
theorem liveOf_az {b:Bo} (h:Sm b):∃ C,fn_live_Of_az b=some (some ((NB b:Int),C))∧CsOk b C:=by
 have hb:NB b≤32:=(xs_bound h (Nat.le_refl _)).1
 have hP:(pts (xs b)).length=NB b:=pts_len _
 have hL:=h.locals
 have hE:=arcs_in b
 have hEl:(arcs (xs b)).length≤1024:=arcs_bound (xs_tos h) (Nat.le_refl _)
 unfold fn_live_Of_az
 rw [show fn_touch_New b=_ from touchNew_eq h,Option.bind_some,tLen,Option.bind_some,hP]
 by_cases h0:NB b=0
 · refine ⟨[],?_,⟨fun _=>rfl,fun h=>by omega,fun l s hs=>by simp at hs⟩⟩
   rw [decide_eq_true (show ((NB b:Nat):Int)=0 by omega),cond_true]
 · rw [decide_eq_false (show ¬ ((NB b:Nat):Int)=0 by omega),cond_false,if_neg h0,show fn_flow_New b=_ from flowNew_eq h,mk_nat _ _ (by omega)]
   simp only [Option.bind_some,fn_tick_Counter_Add_zii]
   rw [backs_eq (Nat.le_trans hb (by decide)) (Nat.le_trans hEl (by decide)),Option.bind_some]
   obtain ⟨C,h1,h2⟩:=loop_inv (body:=fn_live_Of_az_l1 (some (pts (xs b),lcs b.2.2.2.1.length (pts (xs b)))) (bks (NB b) (arcs (xs b))) (List.replicate b.2.2.2.1.length none)) (fun s=>∃ k:Nat,k≤b.2.2.2.1.length∧s.1=(k:Int)∧s.2.length=b.2.2.2.1.length∧∀ l x,s.2[l]? = some x→(l < k→SlotOk b l x)∧(k≤l→x=none)) (fun s=>b.2.2.2.1.length - s.1.toNat) (Q:=fun C=>C.length=b.2.2.2.1.length∧∀ l x,C[l]? = some x→SlotOk b l x) (fun s hs=>by
     obtain ⟨i,C⟩:=s
     obtain ⟨k,hk,rfl,hlen,hC⟩:=hs
     dsimp only at hlen hC ⊢
     by_cases hc:k < b.2.2.2.1.length
     · left
       have hkC:k < C.length:=by omega
       have hn:=(hC k C[k] (List.getElem?_eq_getElem hkC)).2 (Nat.le_refl _)
       have hw1:IntKind.wrap .i64 ((k:Int) + 1)=((k + 1:Nat):Int):=w64s hc (by omega)
       have hgo:=touchOf_eq (P:=pts (xs b)) hc (by rw [hP]; exact Nat.le_trans hb (by decide))
       by_cases hr:rN (pts (xs b)) k=[]
       · refine ⟨(((k + 1:Nat):Int),C),?_,⟨k + 1,hc,rfl,hlen,fun l x hx=>⟨fun hl=>?_,fun hl=>(hC l x hx).2 (by omega)⟩⟩,by dsimp only; omega⟩
         · unfold fn_live_Of_az_l1
           simp only [List.length_replicate,dlt hc,cond_true,hgo,Option.bind_some,hr,show (li ([]:List Nat)).length=0 from rfl,show decide ((0:Int) < ((0:Nat):Int))=false from rfl,cond_false,hw1]
         · by_cases e:l=k
           · subst e
             rw [List.getElem?_eq_getElem hkC,hn] at hx
             obtain rfl:=Option.some.inj hx
             refine .inl ⟨rfl,fun n hl=>?_⟩
             unfold LvS at hl
             rw [hr] at hl
             exact lv_none hl
           · exact (hC l x hx).1 (by omega)
       · obtain ⟨w,g1,g2,g3⟩:=spread_eq hE (Nat.le_trans hb (by decide)) (Nat.le_trans hEl (by decide)) (rN_nd (pts (xs b)) k) (fun n hn=>hP ▸ rN_lt hn) (fun n (hn:n∈wN (pts (xs b)) k)=>hP ▸ wN_lt hn) (Nat.le_trans (wN_len (pts (xs b)) k) (by rw [hP]; exact Nat.le_trans hb (by decide)))
         have hpos:decide ((0:Int) < (((li (rN (pts (xs b)) k)).length:Nat):Int))=true:=by
           rw [li_len]
           have:(rN (pts (xs b)) k).length≠0:=fun e=>hr (List.length_eq_zero_iff.1 e)
           exact decide_eq_true (by omega)
         have e1:getI C (k:Int)=some none:=by rw [getN hkC,hn]
         have e2:getI (C.set k (some ((NB b:Int),w))) (k:Int)=some (some ((NB b:Int),w)):=by rw [getN (by simpa using hkC)]; simp
         refine ⟨(((k + 1:Nat):Int),C.set k (some ((NB b:Int),w))),?_,⟨k + 1,hc,rfl,by simpa using hlen,fun l x hx=>⟨fun hl=>?_,fun hl=>?_⟩⟩,by dsimp only; omega⟩
         · unfold fn_live_Of_az_l1
           simp only [List.length_replicate,dlt hc,cond_true,hgo,Option.bind_some,hpos,e1,g1,chk_self,Int.toNat_natCast,e2,Count_some g2,fn_tick_Counter_Add_zii,hw1,List.set_set]
         · by_cases e:l=k
           · subst e
             rw [List.getElem?_set_self hkC] at hx
             obtain rfl:=Option.some.inj hx
             exact .inr ⟨w,rfl,g2,g3⟩
           · rw [List.getElem?_set_ne (fun h=>e h.symm)] at hx
             exact (hC l x hx).1 (by omega)
         · rw [List.getElem?_set_ne (by omega)] at hx
           exact (hC l x hx).2 (by omega)
     · obtain rfl:k=b.2.2.2.1.length:=by omega
       refine .inr ⟨C,?_,hlen,fun l x hx=>(hC l x hx).1 ?_⟩
       · unfold fn_live_Of_az_l1
         simp only [List.length_replicate,dge hc,cond_false]
       · have:=(List.getElem?_eq_some_iff.1 hx).1; omega) (s:=(0,List.replicate b.2.2.2.1.length none)) ⟨0,Nat.zero_le _,rfl,by simp,fun l x hx=>⟨fun h=>by omega,fun _=>by rw [List.getElem?_replicate] at hx; split at hx <;> simp at hx; exact hx.symm⟩⟩
   refine ⟨C,?_,⟨fun h=>absurd h h0,fun _=>h2.1,h2.2⟩⟩
   rw [h1]; rfl
section
variable {b:Bo} {C:List Sw}
theorem liveLen:fn_live_Live_Len (some ((NB b:Int),C))=some ((NB b:Nat):Int):=rfl
theorem liveAt {q:Nat} (hq:q < C.length):fn_live_Live_of (some ((NB b:Int),C)) (q:Int)=some C[q]:=by
 unfold fn_live_Live_of
 simp only [Option.isNone_some,Bool.false_or,decide_eq_false (show ¬ ((q:Int) < 0) by omega),cond_false,Option.bind_some,decide_eq_false (show ¬ ((C.length:Int)≤(q:Int)) by omega),getN hq]
end
end
section
noncomputable def lvN (b:Bo) (l:Nat):List Nat:=(List.range (NB b)).filter (lvB b l)
theorem lvN_len (b:Bo) (l:Nat):(lvN b l).length≤NB b:=filter_len _ _
theorem mems_lv {b:Bo} {l:Nat} {w:List Int} (h:∀ n,mem w n=true↔LvS b l n):mems (NB b) w=lvN b l:=by
 unfold mems lvN
 congr 1
 funext n
 rw [Bool.eq_iff_iff,h,lvB_iff]
theorem lvN_none {b:Bo} {l:Nat} (h:∀ n,¬ LvS b l n):lvN b l=[]:=by
 unfold lvN
 rw [List.filter_eq_nil_iff]
 exact fun n _ hn=>h n (lvB_iff.1 hn)
section
variable {b:Bo} {C:List Sw}
end
end
def pT (x:Blk) (k:Nat):Tc:=match x.1[k]? with | some s=>sT s | none=>tT x.2
theorem pts_at {X:List Blk} {j k:Nat} (hj:j < X.length) (hk:k≤X[j].1.length):(pts X)[bg X j + k]? = some (cpT (pT X[j] k)):=by
 rw [ptsN_get X _ (Nat.le_refl _) j k hj hj hk]
 unfold pT
 by_cases q:k < X[j].1.length
 · rw [rowP_stm q,List.getElem?_eq_getElem q]
 · have:k=X[j].1.length:=by omega
   subst this
   rw [rowP_end,List.getElem?_eq_none (Nat.le_refl _)]
theorem args_end {x:Tm} (h:tForm x=0) (h3:¬ x.1=3) (a:Int):a∈x.2.2.2.2.1↔a∈(tT x).1:=by
 have hr:=(tForm_zero h).1
 unfold tRight at hr
 unfold tT
 by_cases c1:x.1=1
 · rw [if_pos c1] at hr
   have:x.2.2.2.2.1=[]:=by simp at hr; exact hr.1.2
   simp [c1,this]
 · rw [if_neg c1] at hr
   by_cases c2:x.1=2
   · simp [c2]
   · rw [if_neg c2,if_neg h3] at hr
     by_cases c4:x.1=4
     · simp [c4]
     · rw [if_neg c4] at hr; cases hr
theorem sT_r (s:Stm) (l:Int):decide (l∈(sT s).1)=(sSrc s.1&&decide (s.2.2.1=l)):=by
 unfold sT; dsimp only
 by_cases c:sSrc s.1=true
 · rw [if_pos c,c]; simp [eq_comm]
 · rw [if_neg c]; rw [Bool.not_eq_true] at c; rw [c]; simp
theorem sT_w (s:Stm) (l:Int):decide (l∈(sT s).2)=(sDst s.1&&decide (s.2.1=l)):=by
 unfold sT; dsimp only
 by_cases c:sDst s.1=true
 · rw [if_pos c,c]; simp [eq_comm]
 · rw [if_neg c]; rw [Bool.not_eq_true] at c; rw [c]; simp
theorem refReads {b:Bo} {j k:Nat} (hj:j < b.2.2.2.2.2.2.length) (hk:k≤b.2.2.2.2.2.2[j].1.length) (hf:tForm b.2.2.2.2.2.2[j].2=0) (ha:b.2.2.2.2.2.2[j].2.2.2.2.2.1.length≤20) (l:Int) :
   fn_ref24_Reads b ((j:Int),(k:Int),decide (k=b.2.2.2.2.2.2[j].1.length)) l=some (decide (l∈(pT b.2.2.2.2.2.2[j] k).1)):=by
 unfold fn_ref24_Reads pT
 rw [getN hj]
 simp only [Option.bind_some]
 by_cases q:k < b.2.2.2.2.2.2[j].1.length
 · rw [decide_eq_false (show ¬ k=b.2.2.2.2.2.2[j].1.length by omega),Bool.not_false,cond_true,getN q,Option.bind_some,List.getElem?_eq_getElem q]
   dsimp only
   rw [sT_r]; rfl
 · have e:k=b.2.2.2.2.2.2[j].1.length:=by omega
   rw [decide_eq_true e,Bool.not_true,cond_false,List.getElem?_eq_none (by omega)]
   dsimp only
   by_cases c3:b.2.2.2.2.2.2[j].2.1=3
   · rw [decide_eq_true c3,cond_true]
     simp [tT,c3]
   · rw [decide_eq_false c3,cond_false]
     rw [loop_some (body:=fn_ref24_Reads_l1 l b.2.2.2.2.2.2[j]) b.2.2.2.2.2.2[j].2.2.2.2.2.1 (fun a=>decide (a=l)) (.inr true) (.inl ()) ?_ ?_]
     · have hm:=args_end hf c3 l
       by_cases c:l∈b.2.2.2.2.2.2[j].2.2.2.2.2.1
       · have h1:(b.2.2.2.2.2.2[j].2.2.2.2.2.1.any fun a=>decide (a=l))=true:=by
           rw [List.any_eq_true]; exact ⟨l,c,by simp⟩
         rw [h1,if_pos rfl,decide_eq_true (hm.1 c)]; rfl
       · have h1:(b.2.2.2.2.2.2[j].2.2.2.2.2.1.any fun a=>decide (a=l))=false:=by
           rw [List.any_eq_false]; intro a h2 h3; simp at h3; subst h3; exact c h2
         rw [h1,if_neg (by simp),decide_eq_false (fun h=>c (hm.2 h))]; rfl
     · intro i hi
       unfold fn_ref24_Reads_l1
       simp only [dlt hi,cond_true,getN hi,Option.bind_some,w64s hi (by omega:b.2.2.2.2.2.2[j].2.2.2.2.2.1.length≤9223372036854775807)]
       by_cases c:b.2.2.2.2.2.2[j].2.2.2.2.2.1[i]=l <;> simp [c]
     · unfold fn_ref24_Reads_l1
       simp
theorem refWrites {b:Bo} {j k:Nat} (hj:j < b.2.2.2.2.2.2.length) (hk:k≤b.2.2.2.2.2.2[j].1.length) (l:Int) :
   fn_ref24_Writes b ((j:Int),(k:Int),decide (k=b.2.2.2.2.2.2[j].1.length)) l=some (decide (l∈(pT b.2.2.2.2.2.2[j] k).2)):=by
 unfold fn_ref24_Writes pT
 rw [getN hj]
 simp only [Option.bind_some]
 by_cases q:k < b.2.2.2.2.2.2[j].1.length
 · rw [decide_eq_false (show ¬ k=b.2.2.2.2.2.2[j].1.length by omega),Bool.not_false,cond_true,getN q,Option.bind_some,List.getElem?_eq_getElem q]
   dsimp only
   rw [sT_w]; rfl
 · have e:k=b.2.2.2.2.2.2[j].1.length:=by omega
   rw [decide_eq_true e,Bool.not_true,cond_false,List.getElem?_eq_none (by omega)]
   simp only [tT]
   by_cases c4:b.2.2.2.2.2.2[j].2.1=4
   · have:¬ b.2.2.2.2.2.2[j].2.1=2:=by omega
     simp [c4,eq_comm]
   · by_cases c2:b.2.2.2.2.2.2[j].2.1=2
     · simp [c2]
     · by_cases c3:b.2.2.2.2.2.2[j].2.1=3 <;> simp [c4,c2,c3]
theorem refPts {b:Bo} (h:Sm b) (l:Nat):fn_ref25_Points b (l:Int)=some (vec (NB b) (lvB b l)):=by
 have hb:NB b≤32:=(xs_bound h (Nat.le_refl _)).1
 have hP:(pts (xs b)).length=NB b:=pts_len _
 have hE:=arcs_in b
 have hEl:(arcs (xs b)).length≤1024:=arcs_bound (xs_tos h) (Nat.le_refl _)
 have hv:=vb_of h
 have hal:=alls_len (xs b)
 -- reads and writes at a point
 have key:∀ n,n < NB b→∃ p,getI (alls (xs b)) (n:Int)=some p∧fn_ref24_Reads b p (l:Int)=some (fb (rN (pts (xs b)) l) n)∧fn_ref24_Writes b p (l:Int)=some (fb (wN (pts (xs b)) l) n):=fun n hn=>by
   obtain ⟨j,k,hj,hk,rfl,_⟩:=locate (xs b) (xs b).length (Nat.le_refl _) n hn
   have hpt:=pts_at hj hk
   have hg:=alls_get (xs b) hj hk
   have ex:=(xs_eq hj).2
   have hm:(xs b)[j]∈xs b:=List.getElem_mem hj
   have f1:=hv.fm _ hm
   have f2:=hv.ar _ hm
   have hj2:j < b.2.2.2.2.2.2.length:=by rw [← ex]; exact hj
   have hx:(xs b)[j]=b.2.2.2.2.2.2[j]:=by simp only [ex]
   rw [hx] at hk hg hpt f1 f2
   have hnp:bg (xs b) j + k < (pts (xs b)).length:=by rw [hP]; exact hn
   have hPe:(pts (xs b))[bg (xs b) j + k]=cpT (pT b.2.2.2.2.2.2[j] k):=by
     rw [List.getElem?_eq_getElem hnp] at hpt
     exact Option.some.inj hpt
   refine ⟨((j:Int),(k:Int),decide (k=b.2.2.2.2.2.2[j].1.length)),?_,?_,?_⟩
   · rw [getN (by rw [hal]; exact hn)]
     rw [List.getElem?_eq_getElem (by rw [hal]; exact hn)] at hg
     exact hg
   · rw [refReads hj2 hk f1 f2]
     congr 1
     rw [decide_eq_decide,rN_mem hnp,hPe]
     exact (cp_mem _ _).symm
   · rw [refWrites hj2 hk]
     congr 1
     rw [decide_eq_decide,wN_mem hnp,hPe]; rfl
 generalize hR:fb (rN (pts (xs b)) l)=R at key
 generalize hW:fb (wN (pts (xs b)) l)=W at key
 have hLv:∀ n,LvS b l n↔Lv (arcs (xs b)) (NB b) R W n:=fun n=>by unfold LvS; rw [hR,hW]
 unfold fn_ref25_Points
 rw [show fn_ref22_All b=_ from refAll_eq h,Option.bind_some,show fn_ref23_Arcs b=_ from refArcs23_eq h,Option.bind_some]
 have hl1:=loop_nat (body:=fn_ref25_Points_l1 b (l:Int) (alls (xs b))) (fun n:Nat=>((vec n R),(n:Int))) (NB b) (b:=vec (NB b) R) (fun n hn=>by
     obtain ⟨p,g1,g2,_⟩:=key n hn
     have hvl:=vec_len n R
     have hvs:vec (n + 1) R=vec n R++[if R n=true then 1 else 0]:=by unfold vec; rw [List.range_succ,List.map_append]; rfl
     unfold fn_ref25_Points_l1
     dsimp only
     rw [show decide ((n:Int) < (((alls (xs b)).length:Nat):Int))=true from decide_eq_true (by rw [hal]; exact_mod_cast hn),cond_true,g1,Option.bind_some,show fn_ref24_Reads b (p.1,p.2.1,p.2.2) (l:Int)=_ from g2,Option.bind_some,hvs]
     cases R n with
     | true=>rw [cond_true,app_eq (by simp; omega)]; simp only [Option.bind_some,w64s hn (by omega)]; rfl
     | false=>rw [cond_false,app_eq (by simp; omega)]; simp only [Option.bind_some,w64s hn (by omega)]; rfl) (by
     unfold fn_ref25_Points_l1
     dsimp only
     rw [show decide (((NB b:Nat):Int) < (((alls (xs b)).length:Nat):Int))=false from decide_eq_false (by rw [hal]; exact Int.lt_irrefl _),cond_false])
 rw [show loop (fn_ref25_Points_l1 b (l:Int) (alls (xs b))) ([],0)=_ from hl1,Option.bind_some]
 -- one round over the arcs
 have hl2:∀ (V:Nat→Bool) (m:Bool),loop (fn_ref25_Points_l2 b (l:Int) (alls (xs b)) (ai (arcs (xs b)))) (vec (NB b) V,m,0)=some (vec (NB b) ((arcs (xs b)).foldl (stA W) (V,m)).1,((arcs (xs b)).foldl (stA W) (V,m)).2):=fun V m=>by
   have hh := loop_nat (body := fn_ref25_Points_l2 b (l : Int) (alls (xs b)) (ai (arcs (xs b)))) (fun i : Nat => (vec (NB b) (((arcs (xs b)).take i).foldl (stA W) (V, m)).1, (((arcs (xs b)).take i).foldl (stA W) (V, m)).2, (i : Int))) (arcs (xs b)).length (b := (vec (NB b) ((arcs (xs b)).foldl (stA W) (V, m)).1, ((arcs (xs b)).foldl (stA W) (V, m)).2)) (fun i hi => by
       obtain ⟨h1,h2⟩:=hE _ (List.getElem_mem hi)
       obtain ⟨p,g1,_,g3⟩:=key _ h1
       have eF:((arcs (xs b)).take (i + 1)).foldl (stA W) (V,m)=stA W (((arcs (xs b)).take i).foldl (stA W) (V,m)) (arcs (xs b))[i]:=by rw [take_snoc hi,List.foldl_append]; rfl
       rw [eF]
       generalize ((arcs (xs b)).take i).foldl (stA W) (V,m)=F
       unfold fn_ref25_Points_l2
       dsimp only
       rw [show decide ((i:Int) < (((ai (arcs (xs b))).length:Nat):Int))=true from decide_eq_true (by rw [ai_len]; exact_mod_cast hi),cond_true,getI_ai hi,Option.bind_some]
       dsimp only
       rw [vec_get h1,Option.bind_some,w64s hi (by omega)]
       cases c1:F.1 (arcs (xs b))[i].1 with
       | true =>
         have e:stA W F (arcs (xs b))[i]=F:=if_neg (fun h=>by rw [c1] at h; cases h.1)
         rw [e]
         simp
       | false =>
         rw [if_neg (by simp),decide_eq_true rfl,cond_true,Option.bind_some,vec_get h2]
         simp only [Option.bind_some]
         cases c2:F.1 (arcs (xs b))[i].2 with
         | false =>
           have e:stA W F (arcs (xs b))[i]=F:=if_neg (fun h=>by rw [c2] at h; cases h.2.1)
           rw [e]
           simp
         | true =>
           rw [if_pos rfl,decide_eq_true rfl,cond_true,g1,Option.bind_some,show fn_ref24_Writes b (p.1,p.2.1,p.2.2) (l:Int)=_ from g3]
           cases c3:W (arcs (xs b))[i].1 with
           | true =>
             have e:stA W F (arcs (xs b))[i]=F:=if_neg (fun h=>by rw [c3] at h; cases h.2.2)
             rw [e]
             simp
           | false =>
             have e:stA W F (arcs (xs b))[i]=(ins1 F.1 (arcs (xs b))[i].1,true):=if_pos ⟨c1,c2,c3⟩
             rw [e]
             simp [vec_set h1]) (by
       unfold fn_ref25_Points_l2
       dsimp only
       rw [show decide ((((arcs (xs b)).length:Nat):Int) < (((ai (arcs (xs b))).length:Nat):Int))=false from decide_eq_false (by rw [ai_len]; exact Int.lt_irrefl _),cond_false,List.take_length])
   exact hh
 -- round by round
 obtain ⟨r,h1,h2⟩:=loop_inv (body:=fn_ref25_Points_l3 b (l:Int) (alls (xs b)) (ai (arcs (xs b)))) (fun s=>∃ V:Nat→Bool,s.1=vec (NB b) V∧(∀ n,V n=true→Lv (arcs (xs b)) (NB b) R W n)∧(∀ n,n < NB b→R n=true→V n=true)∧(s.2=false→∀ a∈arcs (xs b),¬ (V a.1=false∧V a.2=true∧W a.1=false)))
   (fun s=>2 * (s.1.filter (fun x=>decide (x=0))).length + if s.2=true then 1 else 0) (Q:=fun r=>∃ V:Nat→Bool,r=vec (NB b) V∧∀ n,V n=true↔Lv (arcs (xs b)) (NB b) R W n) (fun s hs=>by
   obtain ⟨v,m⟩:=s
   obtain ⟨V,rfl,i1,i2,i3⟩:=hs
   dsimp only at i3 ⊢
   have hcz:∀ V:Nat→Bool,((vec (NB b) V).filter (fun x=>decide (x=0))).length=cz (NB b) V:=fun V=>by
     unfold vec cz
     rw [List.filter_map,List.length_map]
     congr 2
     funext n
     show decide ((if V n=true then (1:Int) else 0)=0) = !V n
     cases V n <;> rfl
   cases m with
   | true =>
     obtain ⟨j1,j2,j3,j4,j5⟩:=stA_spec (R:=R) (W:=W) hE (arcs (xs b)) V false (fun a ha=>ha)
     refine .inl ⟨(vec (NB b) ((arcs (xs b)).foldl (stA W) (V,false)).1,((arcs (xs b)).foldl (stA W) (V,false)).2),?_,⟨_,rfl,j2 i1,fun n hn hr=>j1 n (i2 n hn hr),fun hm=>?_⟩,?_⟩
     · unfold fn_ref25_Points_l3
       simp only [cond_true,hl2,Option.bind_some]
     · obtain ⟨_,e,f⟩:=j3 hm
       rw [e]; exact f
     · dsimp only
       rw [hcz,hcz]
       cases hm:((arcs (xs b)).foldl (stA W) (V,false)).2 with
       | true =>
         rcases j5 hm with h | h
         · cases h
         · simp; omega
       | false=>simp; omega
   | false =>
     refine .inr ⟨vec (NB b) V,rfl,V,rfl,fun n=>⟨i1 n,fun h=>Lv.least i2 (i3 rfl) h⟩⟩) (s:=(vec (NB b) (fun n=>decide (n < NB b)&&R n),true)) ⟨_,rfl,fun n hn=>by
     rw [Bool.and_eq_true,decide_eq_true_eq] at hn
     exact .rd hn.1 hn.2,fun n hn hr=>by rw [decide_eq_true hn,hr]; rfl,fun h=>by cases h⟩
 have e0:vec (NB b) R=vec (NB b) (fun n=>decide (n < NB b)&&R n):=by
   unfold vec
   exact cmap fun n hn=>by
     have e:(decide (n < NB b)&&R n)=R n:=by rw [decide_eq_true hn,Bool.true_and]
     simp only [e]
 rw [e0,h1]
 obtain ⟨V,rfl,hV⟩:=h2
 rw [Option.bind_some]
 congr 1
 unfold vec
 refine cmap fun n _=>?_
 have:V n=lvB b l n:=by rw [Bool.eq_iff_iff,hV,lvB_iff,hLv]
 rw [this]
section
section
variable {b:Bo} {C:List Sw}
theorem List_nil:fn_dense_Set_List none=some []:=by
 unfold fn_dense_Set_List
 have h1:fn_dense_Set_Next none 0=some (-1):=rfl
 rw [show fn_dense_Set_All none=some () from rfl,Option.bind_some,h1,Option.bind_some,loop_end (b:=([]:List Int)) rfl]; rfl
theorem livePoints (hC:CsOk b C) {k:Nat} (hk:k < C.length):fn_live_Live_Points (some ((NB b:Int),C)) (k:Int)=some (li (lvN b k)):=by
 unfold fn_live_Live_Points
 rw [liveAt hk,Option.bind_some]
 rcases hC.ok k _ (List.getElem?_eq_getElem hk) with ⟨e,h⟩ | ⟨w,e,hd,h⟩
 · rw [e,List_nil,lvN_none h]; rfl
 · rw [e,List_kn hd,mems_lv h]; rfl
end
theorem refAll25 {b:Bo} (h:Sm b):fn_ref25_All b=some ((List.range b.2.2.2.1.length).map fun k=>vec (NB b) (lvB b k)):=by
 have hL:=h.locals
 unfold fn_ref25_All
 have hl:=loop_nat (body:=fn_ref25_All_l1 b) (fun n:Nat=>((List.range n).map (fun k=>vec (NB b) (lvB b k)),(n:Int))) b.2.2.2.1.length (b:=(List.range b.2.2.2.1.length).map fun k=>vec (NB b) (lvB b k)) (fun n hn=>by
     unfold fn_ref25_All_l1
     dsimp only
     rw [dlt hn,cond_true,show fn_ref25_Points b (n:Int)=_ from refPts h n,Option.bind_some,app_eq (by simp; omega),Option.bind_some,w64s hn (by omega),List.range_succ,List.map_append]
     rfl) (by
     unfold fn_ref25_All_l1
     dsimp only
     rw [dge (Nat.lt_irrefl _),cond_false])
 rw [show loop (fn_ref25_All_l1 b) ([],0)=_ from hl]; rfl
end
end Go.Proofs.YtaajcbeoafhmaaaGreatDoor

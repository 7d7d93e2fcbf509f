/- A part of the proof: what lies ahead of the law. Nothing is claimed here. -/
import Derived.Test.YtaajcbeoafhmaaaGreatDoorZ6
namespace Go.Proofs.YtaajcbeoafhmaaaGreatDoor
noncomputable section
set_option linter.unusedVariables false
open Go.RowKit
section
theorem ic {α:Type} {m j:Nat} {f:Nat→α} (h:j < m):aa ((List.range m).map f) (j:Int)=some (f j):=by
 rw [ah (by simpa using h)]; simp
theorem uN {α:Type} {m j:Nat} {f:Nat→α} {y:α}:((List.range m).map f).set j y=(List.range m).map (fun v=>if v=j then y else f v):=by
 apply List.ext_getElem
 . simp
 . intro i h1 h2
   simp only [List.getElem_set,List.getElem_map,List.getElem_range]
   by_cases h:j=i
   . subst h; simp
   . simp [h,Ne.symm h]
theorem ja {α:Type} {m:Nat} {f g:Nat→α} (h:∀ v,v < m→f v=g v):(List.range m).map f=(List.range m).map g:=List.map_congr_left fun v hv=>h v (List.mem_range.1 hv)
theorem wT {α:Type} (m:Nat) (z:α):List.replicate m z=(List.range m).map (fun _=>z):=by
 apply List.ext_getElem <;> simp
def cnt (ks:List Nat) (v:Nat):Nat:=ks.countP (fun x=>decide (x=v))
def ltc (ks:List Nat) (v:Nat):Nat:=ks.countP (fun x=>decide (x < v))
theorem F7 (ks:List Nat):ltc ks 0=0:=by simp [ltc]
theorem uy (ks:List Nat) (v:Nat):ltc ks (v + 1)=ltc ks v + cnt ks v:=by
 unfold ltc cnt
 induction ks with
 | nil=>rfl
 | cons x ks ih =>
   rw [List.countP_cons,List.countP_cons,List.countP_cons,ih]
   by_cases h:x < v
   . simp [h,show x < v + 1 by omega,show ¬ x=v by omega]; omega
   . by_cases h2:x=v
     . simp [h2]; omega
     . simp [h,h2,show ¬ x < v + 1 by omega]
theorem uE (ks:List Nat) {v w:Nat} (h:v≤w):ltc ks v≤ltc ks w:=by
 unfold ltc; apply List.countP_mono_left; intro x _; simp; omega
theorem qJ (ks:List Nat) (v:Nat):ltc ks v≤ks.length:=List.countP_le_length
theorem AI (ks:List Nat) (v:Nat):cnt ks v≤ks.length:=List.countP_le_length
theorem mI {ks:List Nat} {k:Nat} (h:k < ks.length) (v:Nat):cnt (ks.take (k + 1)) v=cnt (ks.take k) v + (if ks[k]=v then 1 else 0):=by
 unfold cnt; rw [aM h,List.countP_append]; simp [List.countP_cons]
theorem w8 (ks:List Nat) (k v:Nat):cnt (ks.take k) v≤cnt ks v:=by
 unfold cnt
 conv=>rhs; rw [← List.take_append_drop k ks,List.countP_append]
 omega
theorem Ea {ks:List Nat} {k:Nat} (h:k < ks.length):cnt (ks.take k) ks[k] < cnt ks ks[k]:=by
 have:=w8 ks (k + 1) ks[k]
 rw [mI h] at this
 simp at this; omega
def pos (ks:List Nat) (i:Nat):Nat:=ltc ks (ks.getD i 0) + cnt (ks.take i) (ks.getD i 0)
theorem vd {ks:List Nat} {i:Nat} (h:i < ks.length):pos ks i < ltc ks (ks[i] + 1):=by
 have:=Ea h
 unfold pos; rw [uy]
 simp [h]; omega
theorem AP {ks:List Nat} {i:Nat} (h:i < ks.length):ltc ks ks[i]≤pos ks i:=by unfold pos; simp [h]
theorem Ek {ks:List Nat} {i:Nat} (h:i < ks.length):pos ks i < ks.length:=Nat.lt_of_lt_of_le (vd h) (qJ _ _)
theorem zF {ks:List Nat} {i j:Nat} (hi:i < j) (hj:j < ks.length):pos ks i≠pos ks j:=by
 have hi':i < ks.length:=by omega
 rcases Nat.lt_trichotomy ks[i] ks[j] with h | h | h
 . have:=vd hi'; have:=AP hj; have:=uE ks (v:=ks[i] + 1) (w:=ks[j]) (by omega); omega
 . have h1:=mI hi' ks[j]
   have h2:cnt (ks.take (i + 1)) ks[j]≤cnt (ks.take j) ks[j]:=by
     have:=w8 (ks.take j) (i + 1) ks[j]
     rw [List.take_take,Nat.min_eq_left (by omega)] at this; exact this
   unfold pos; simp [hi',hj,h] at h1 ⊢; omega
 . have:=vd hj; have:=AP hi'; have:=uE ks (v:=ks[j] + 1) (w:=ks[i]) (by omega); omega
def occ (ks:List Nat) (v:Nat):List Nat:=(List.range ks.length).filter (fun i=>decide (ks.getD i 0=v))
theorem uq (ks:List Nat) (v:Nat):∀ k,k≤ks.length→((List.range k).filter (fun i=>decide (ks.getD i 0=v))).length=cnt (ks.take k) v∧∀ (r i:Nat),((List.range k).filter (fun i=>decide (ks.getD i 0=v)))[r]? = some i→∃ hi:i < ks.length,ks[i]=v∧cnt (ks.take i) v=r
 | 0,_=>by simp [cnt]
 | k + 1,hk=>by
   obtain ⟨h1,h2⟩:=uq ks v k (by omega)
   have hkl:k < ks.length:=by omega
   have e:(List.range (k + 1)).filter (fun i=>decide (ks.getD i 0=v))=(List.range k).filter (fun i=>decide (ks.getD i 0=v))++(if ks[k]=v then [k] else []):=by
     rw [List.range_succ,List.filter_append]
     by_cases h:ks[k]=v <;> simp [hkl,h]
   rw [e,mI hkl]
   generalize hF:(List.range k).filter (fun i=>decide (ks.getD i 0=v))=F at h1 h2
   by_cases h:ks[k]=v
   . simp only [h,if_true]
     refine ⟨by simp [h1],fun r i hr=>?_⟩
     by_cases hr2:r < F.length
     . rw [List.getElem?_append_left hr2] at hr; exact h2 r i hr
     . rw [List.getElem?_append_right (by omega)] at hr
       have hr3:r - F.length=0:=by
         have:=(List.getElem?_eq_some_iff.1 hr).1
         simp at this; omega
       rw [hr3] at hr
       simp at hr
       subst hr
       exact ⟨hkl,h,by omega⟩
   . simp only [h,if_false,List.append_nil,Nat.add_zero]
     exact ⟨h1,h2⟩
theorem Am (ks:List Nat) (v:Nat):(occ ks v).length=cnt ks v:=by have:=(uq ks v ks.length (Nat.le_refl _)).1; rw [List.take_length] at this; exact this
theorem Hh (ks:List Nat) (v r:Nat) (h:r < (occ ks v).length):∃ (hi:(occ ks v)[r] < ks.length),ks[(occ ks v)[r]]=v∧cnt (ks.take (occ ks v)[r]) v=r:=(uq ks v ks.length (Nat.le_refl _)).2 r _ (List.getElem?_eq_getElem h)
theorem uH {ks:List Nat} {v i:Nat}:i∈occ ks v↔∃ h:i < ks.length,ks[i]=v:=by
 unfold occ
 simp only [List.mem_filter,List.mem_range,decide_eq_true_eq]
 constructor
 . rintro ⟨h1,h2⟩; exact ⟨h1,by simpa [h1] using h2⟩
 . rintro ⟨h1,h2⟩; exact ⟨h1,by simpa [h1] using h2⟩
def av (ks:List Nat) (k p:Nat):Nat:=((List.range k).find? (fun i=>decide (pos ks i=p))).getD 0
theorem Ay {ks:List Nat} {k i:Nat} (hk:k≤ks.length) (hi:i < k):av ks k (pos ks i)=i:=by
 unfold av
 cases h:(List.range k).find? (fun j=>decide (pos ks j=pos ks i)) with
 | none =>
   rw [List.find?_eq_none] at h
   exact absurd (by simp) (h i (List.mem_range.2 hi))
 | some j =>
   have h1:=List.find?_some h
   have h2:=List.mem_range.1 (List.mem_of_find?_eq_some h)
   simp at h1
   rcases Nat.lt_trichotomy i j with q | q | q
   . exact absurd h1.symm (zF q (by omega))
   . exact q.symm
   . exact absurd h1 (zF q (by omega))
theorem G8 {ks:List Nat} {k:Nat} (hk:k < ks.length) (p:Nat):av ks (k + 1) p=if p=pos ks k then k else av ks k p:=by
 by_cases h:p=pos ks k
 . rw [if_pos h,h,Ay (by omega) (by omega)]
 . rw [if_neg h]
   unfold av
   rw [List.range_succ,List.find?_append]
   simp [Ne.symm h]
theorem IK (ks:List Nat) (v:Nat):((((List.range ks.length).map (fun p=>(av ks ks.length p:Int))).take (ltc ks (v + 1))).drop (ltc ks v))=(occ ks v).map (fun i:Nat=>(i:Int)):=by
 apply List.ext_getElem
 . have h1:=uy ks v
   have h2:=qJ ks (v + 1)
   rw [List.length_drop,List.length_take,List.length_map,List.length_map,Am,List.length_range]; omega
 . intro r h1 h2
   have hr:r < (occ ks v).length:=by simpa using h2
   obtain ⟨hi,h3,h4⟩:=Hh ks v r hr
   simp only [List.getElem_drop,List.getElem_take,List.getElem_map,List.getElem_range]
   have:pos ks (occ ks v)[r]=ltc ks v + r:=by
     have e:ks.getD (occ ks v)[r] 0=v:=by simp [hi,h3]
     unfold pos; rw [e,h4]
   rw [← this,Ay (Nat.le_refl _) hi]
section
variable {α:Type} (key:α→Int) (n:Int) (xb:List α)
def ix1:(Int×(List Int))→Option ((Int×(List Int))⊕(List Int)):=fun ((i,l):(Int×(List Int)))=>cond (decide (i < (((xb.length:Nat):Int)))) ((aa xb i).bind fun x=>(aa l (IntKind.wrap .i64 (key x + 1))).bind fun a=>(aa l (IntKind.wrap .i64 (key x + 1))).bind fun b=>(some (l.set (IntKind.wrap .i64 (key x + 1)).toNat (IntKind.wrap .i64 (a + 1)))).bind fun z=>some (.inl ((IntKind.wrap .i64 (i + 1),z)))) (some (.inr (l)))
def ix2:(Int×(List Int))→Option ((Int×(List Int))⊕(List Int)):=fun ((i,l):(Int×(List Int)))=>cond (decide (i < n)) ((aa l (IntKind.wrap .i64 (i + 1))).bind fun a=>(aa l i).bind fun b=>(aa l (IntKind.wrap .i64 (i + 1))).bind fun c=>(some (l.set (IntKind.wrap .i64 (i + 1)).toNat (IntKind.wrap .i64 (a + b)))).bind fun z=>some (.inl ((IntKind.wrap .i64 (i + 1),z)))) (some (.inr (l)))
def ix3:((List Int)×Int×(List Int))→Option (((List Int)×Int×(List Int))⊕(List Int)):=fun ((l,i,m):((List Int)×Int×(List Int)))=>cond (decide (i < (((xb.length:Nat):Int)))) ((aa xb i).bind fun x=>(aa l (key x)).bind fun a=>(aa m a).bind fun b=>(some (m.set a.toNat i)).bind fun z=>(aa l (key x)).bind fun c=>(aa l (key x)).bind fun d=>(some (l.set (key x).toNat (IntKind.wrap .i64 (c + 1)))).bind fun y=>some (.inl ((y,IntKind.wrap .i64 (i + 1),z)))) (some (.inr (m)))
variable {key n xb} {ks:List Nat}
theorem A4 (hk:xb.map key=ks.map (fun k:Nat=>(k:Int))) {i:Nat} (h:i < xb.length):∃ h2:i < ks.length,key xb[i]=(ks[i]:Int):=by
 have hl:xb.length=ks.length:=by simpa using congrArg List.length hk
 refine ⟨by omega,?_⟩
 have h1:(xb.map key)[i]'(by simpa using h)=(ks.map (fun k:Nat=>(k:Int)))[i]'(by simp; omega):=by simp only [hk]
 simpa using h1
theorem AD {N:Nat} (hk:xb.map key=ks.map (fun k:Nat=>(k:Int))) (hN:∀ x∈ks,x < N) (hb:ks.length≤1073741824) (hNb:N≤1073741824):loop (ix1 key xb) (0,List.replicate (N + 1) 0)=some ((List.range (N + 1)).map (fun v=>((if v=0 then 0 else cnt ks (v - 1):Nat):Int))):=by
 have hl:xb.length=ks.length:=by simpa using congrArg List.length hk
 have h:=aF (body:=ix1 key xb) (fun k:Nat=>((k:Int),(List.range (N + 1)).map (fun v=>((if v=0 then 0 else cnt (ks.take k) (v - 1):Nat):Int)))) xb.length (b:=(List.range (N + 1)).map (fun v=>((if v=0 then 0 else cnt ks (v - 1):Nat):Int))) ?_ ?_
 . rw [wT]; simpa [cnt] using h
 . intro k hk2
   obtain ⟨hk3,hk4⟩:=A4 hk hk2
   have hlt:=hN _ (List.getElem_mem hk3)
   have hw:IntKind.wrap .i64 (key xb[k] + 1)=((ks[k] + 1:Nat):Int):=by rw [hk4,w64 (by omega) (by omega)]; omega
   have hc:=AI (ks.take k) ks[k]
   simp only [List.length_take] at hc
   unfold ix1
   simp only [dlt hk2,cond_true,ah hk2,Option.bind_some,hw,ic (show ks[k] + 1 < N + 1 by omega),Int.toNat_natCast,uN,aj hk2 (by omega:xb.length≤9223372036854775807)]
   congr 3
   refine ja (fun v hv=>?_)
   rw [mI hk3]
   simp only [Nat.add_one_ne_zero,if_false,Nat.add_sub_cancel]
   by_cases h1:v=ks[k] + 1
   . subst h1; simp only [if_true,Nat.add_one_ne_zero,if_false,Nat.add_sub_cancel]; rw [w64 (by omega) (by omega)]; omega
   . rw [if_neg h1]
     by_cases h2:v=0
     . simp [h2]
     . simp [h2,show ¬ ks[k]=v - 1 by omega]
 . unfold ix1
   simp only [hl,Int.lt_irrefl,decide_false,cond_false,List.take_length]
theorem AO {N:Nat} (hb:ks.length≤1073741824) (hNb:N≤1073741824):loop (ix2 (N:Int)) (0,(List.range (N + 1)).map (fun v=>((if v=0 then 0 else cnt ks (v - 1):Nat):Int)))=some ((List.range (N + 1)).map (fun v=>(ltc ks v:Int))):=by
 have h:=aF (body:=ix2 (N:Int)) (fun j:Nat=>((j:Int),(List.range (N + 1)).map (fun v=>((if v≤j then ltc ks v else cnt ks (v - 1):Nat):Int)))) N (b:=(List.range (N + 1)).map (fun v=>(ltc ks v:Int))) ?_ ?_
 . have e:(List.range (N + 1)).map (fun v=>((if v≤0 then ltc ks v else cnt ks (v - 1):Nat):Int))=(List.range (N + 1)).map (fun v=>((if v=0 then 0 else cnt ks (v - 1):Nat):Int)):=by
     refine ja (fun v hv=>?_)
     by_cases h1:v=0
     . simp [h1,F7]
     . simp [h1]
   simp only [e] at h
   exact h
 . intro j hj
   have hs:=uy ks j
   have hle:=qJ ks (j + 1)
   unfold ix2
   simp only [dlt hj,cond_true,aj hj (by omega:N≤9223372036854775807),ic (show j + 1 < N + 1 by omega),ic (show j < N + 1 by omega),Option.bind_some,Int.toNat_natCast,uN]
   congr 3
   refine ja (fun v hv=>?_)
   simp only [show ¬ (j + 1≤j) by omega,if_false,Nat.le_refl,if_true,Nat.add_sub_cancel]
   by_cases h1:v=j + 1
   . subst h1; simp only [if_true,Nat.le_refl]; rw [w64 (by omega) (by omega)]; omega
   . rw [if_neg h1]
     by_cases h2:v≤j
     . simp [h2,show v≤j + 1 by omega]
     . simp [h2,show ¬ v≤j + 1 by omega]
 . unfold ix2
   simp only [Int.lt_irrefl,decide_false,cond_false]
   congr 2
   refine ja (fun v hv=>?_)
   simp [show v≤N by omega]
theorem AN {N:Nat} (hk:xb.map key=ks.map (fun k:Nat=>(k:Int))) (hN:∀ x∈ks,x < N) (hb:ks.length≤1073741824) (hNb:N≤1073741824):loop (ix3 key xb) ((List.range (N + 1)).map (fun v=>(ltc ks v:Int)),0,List.replicate xb.length 0)=some ((List.range ks.length).map (fun p=>(av ks ks.length p:Int))):=by
 have hl:xb.length=ks.length:=by simpa using congrArg List.length hk
 have h:=aF (body:=ix3 key xb) (fun k:Nat=>((List.range (N + 1)).map (fun v=>((ltc ks v + cnt (ks.take k) v:Nat):Int)),(k:Int),(List.range ks.length).map (fun p=>(av ks k p:Int)))) xb.length (b:=(List.range ks.length).map (fun p=>(av ks ks.length p:Int))) ?_ ?_
 . rw [hl,wT]; simpa [cnt,av] using h
 . intro k hk2
   obtain ⟨hk3,hk4⟩:=A4 hk hk2
   have hlt:=hN _ (List.getElem_mem hk3)
   have hp:ltc ks ks[k] + cnt (ks.take k) ks[k]=pos ks k:=by unfold pos; simp [hk3]
   have hpl:=Ek hk3
   unfold ix3
   simp only [dlt hk2,cond_true,ah hk2,Option.bind_some,hk4,ic (show ks[k] < N + 1 by omega),hp,ic hpl,Int.toNat_natCast,uN,aj hk2 (by omega:xb.length≤9223372036854775807)]
   congr 3
   . refine ja (fun v hv=>?_)
     rw [mI hk3]
     by_cases h1:v=ks[k]
     . subst h1; simp only [if_true]; rw [w64 (by omega) (by omega)]; omega
     . rw [if_neg h1,if_neg (Ne.symm h1)]; simp
   . congr 1
     refine ja (fun p hp2=>?_)
     rw [G8 hk3]
     split <;> rfl
 . unfold ix3
   simp only [hl,Int.lt_irrefl,decide_false,cond_false]
end
abbrev Gr:=Int×(List (Int×Int))×((List Int)×(List Int))×((List Int)×(List Int))
abbrev ArG:=List (Nat×Nat)
def ai (E:ArG):List (Int×Int):=E.map (fun e=>((e.1:Int),(e.2:Int)))
def ixs (N:Nat) (ks:List Nat):List Int×List Int:=((List.range (N + 1)).map (fun v=>(ltc ks v:Int)),(List.range ks.length).map (fun p=>(av ks ks.length p:Int)))
def mkG (N:Nat) (E:ArG):Gr:=((N:Int),ai E,ixs N (E.map (·.1)),ixs N (E.map (·.2)))
def inN (N:Nat) (E:ArG):Prop:=∀ e∈E,e.1 < N∧e.2 < N
theorem dC (E:ArG):(ai E).length=E.length:=by simp [ai]
theorem mK {α:Type} (xa:List α) (hn:xa.length≤1073741824):dK xa (some ([]:List α)) ((app ([]:List α) xa).bind fun z=>some z)=some xa:=by
 rw [uI]
 . rw [aH (by simpa using hn)]; simp
 . rintro rfl; rw [aH (by simp)]; rfl
theorem DY {N:Nat} {E:ArG} (h:inN N E) (hn:N≤1048576) (he:E.length≤67108864):nL (N:Int) (ai E)=some (ixs N (E.map (·.1))):=by
 have hk:(ai E).map (fun x:Int×Int=>x.1)=(E.map (·.1)).map (fun k:Nat=>(k:Int)):=by simp [ai]
 have hN:∀ x∈E.map (·.1),x < N:=by intro x hx; obtain ⟨e,he,rfl⟩:=List.mem_map.1 hx; exact (h e he).1
 have hw:IntKind.wrap .i64 ((N:Int) + 1)=((N + 1:Nat):Int):=by rw [w64 (by omega) (by omega)]; omega
 have h1:=AD (key:=fun x:Int×Int=>x.1) (N:=N) hk hN (by simp; omega) (by omega)
 have h2:=AO (ks:=E.map (·.1)) (N:=N) (by simp; omega) (by omega)
 have h3:=AN (key:=fun x:Int×Int=>x.1) (N:=N) hk hN (by simp; omega) (by omega)
 have hl:(ai E).length≤1073741824:=by rw [dC]; omega
 unfold nL
 have hm1:(mk ((N + 1:Nat):Int) ((N + 1:Nat):Int) (0:Int):Option (List Int))=some (List.replicate (N + 1) 0):=mkN (by omega)
 have hm2:(mk (((ai E).length:Nat):Int) (((ai E).length:Nat):Int) (0:Int):Option (List Int))=some (List.replicate (ai E).length 0):=mkN hl
 rw [hw]
 simp only [hm1,hm2,Option.bind_some,pN]
 show (loop (ix1 (fun x:Int×Int=>x.1) (ai E)) (0,_)).bind _=_
 rw [h1,Option.bind_some]
 show (loop (ix2 (N:Int)) (0,_)).bind _=_
 rw [h2,Option.bind_some]
 have hc:∀ l:List Int,l.length≤1073741824→cg l=some l:=fun l hl=>mK l hl
 rw [hc _ (by simp; omega),Option.bind_some]
 show (loop (ix3 (fun x:Int×Int=>x.1) (ai E)) (_,0,_)).bind _=_
 rw [h3]; rfl
theorem D3 {N:Nat} {E:ArG} (h:inN N E) (hn:N≤1048576) (he:E.length≤67108864):nK (N:Int) (ai E)=some (ixs N (E.map (·.2))):=by
 have hk:(ai E).map (fun x:Int×Int=>x.2)=(E.map (·.2)).map (fun k:Nat=>(k:Int)):=by simp [ai]
 have hN:∀ x∈E.map (·.2),x < N:=by intro x hx; obtain ⟨e,he,rfl⟩:=List.mem_map.1 hx; exact (h e he).2
 have hw:IntKind.wrap .i64 ((N:Int) + 1)=((N + 1:Nat):Int):=by rw [w64 (by omega) (by omega)]; omega
 have h1:=AD (key:=fun x:Int×Int=>x.2) (N:=N) hk hN (by simp; omega) (by omega)
 have h2:=AO (ks:=E.map (·.2)) (N:=N) (by simp; omega) (by omega)
 have h3:=AN (key:=fun x:Int×Int=>x.2) (N:=N) hk hN (by simp; omega) (by omega)
 have hl:(ai E).length≤1073741824:=by rw [dC]; omega
 unfold nK
 have hm1:(mk ((N + 1:Nat):Int) ((N + 1:Nat):Int) (0:Int):Option (List Int))=some (List.replicate (N + 1) 0):=mkN (by omega)
 have hm2:(mk (((ai E).length:Nat):Int) (((ai E).length:Nat):Int) (0:Int):Option (List Int))=some (List.replicate (ai E).length 0):=mkN hl
 rw [hw]
 simp only [hm1,hm2,Option.bind_some,pN]
 show (loop (ix1 (fun x:Int×Int=>x.2) (ai E)) (0,_)).bind _=_
 rw [h1,Option.bind_some]
 show (loop (ix2 (N:Int)) (0,_)).bind _=_
 rw [h2,Option.bind_some]
 have hc:∀ l:List Int,l.length≤1073741824→cg l=some l:=fun l hl=>mK l hl
 rw [hc _ (by simp; omega),Option.bind_some]
 show (loop (ix3 (fun x:Int×Int=>x.2) (ai E)) (_,0,_)).bind _=_
 rw [h3]; rfl
def kw (n:Int) (a:Int×Int):Bool:=(((decide (a.1 < 0))||(decide (n≤a.1)))||(decide (a.2 < 0)))||(decide (n≤a.2))
theorem G3 (n:Int) (xb:List (Int×Int)) (hb:xb.length≤1073741824):loop (oT n xb) 0=some (if xb.any (kw n) then .inr (none,7) else .inl ()):=by
 refine dV xb (kw n) _ _ (fun k h=>?_) ?_
 . unfold oT
   simp only [dlt h,cond_true,ah h,Option.bind_some,aj h (by omega:xb.length≤9223372036854775807)]
   show cond (kw n xb[k]) _ _=_
   cases kw n xb[k] <;> rfl
 . simp [oT]
theorem IQ {N:Nat} {E:ArG} (h:inN N E) (hn:N≤1048576) (he:E.length≤67108864):mj (N:Int) (ai E)=some (some (mkG N E),0):=by
 unfold mj
 have h1:decide ((N:Int) < 0)=false:=decide_eq_false (by omega)
 have h2:(decide ((1048576:Int) < (N:Int))||decide ((67108864:Int) < (((ai E).length:Nat):Int)))=false:=by rw [dC]; simp; omega
 have h3:(ai E).any (kw (N:Int))=false:=by
   rw [List.any_eq_false]
   intro a ha
   obtain ⟨e,he,rfl⟩:=List.mem_map.1 ha
   have:=h e he
   simp [kw]; omega
 rw [h1,cond_false,h2,cond_false,G3 _ _ (by rw [dC]; omega),h3]
 simp only [Bool.false_eq_true,if_false,Option.bind_some]
 have hc:sa (ai E)=some (ai E):=mK _ (by rw [dC]; omega)
 rw [hc,Option.bind_some,DY h hn he,Option.bind_some,D3 h hn he]
 rfl
theorem tR (ks:List Nat) (v:Nat):(occ ks v).length≤ks.length:=by rw [Am]; exact AI ks v
theorem DR {N:Nat} {ks:List Nat} (hn:N≤1048576) (he:ks.length≤67108864) {v:Nat} (hv:v < N):oA (ixs N ks) (v:Int)=some ((occ ks v).map (fun i:Nat=>(i:Int))):=by
 unfold oA ixs
 have h1:=qJ ks (v + 1)
 have h2:=uE ks (v:=v) (w:=v + 1) (by omega)
 simp only [ic (show v < N + 1 by omega),Option.bind_some,aj hv (by omega:N≤9223372036854775807),ic (show v + 1 < N + 1 by omega)]
 rw [jK (by omega) (by omega) (by simp; omega)]
 simp only [Int.toNat_natCast,Option.bind_some,IK]
theorem F8 (N:Nat) (E:ArG):sD (some (mkG N E))=some (N:Int):=rfl
theorem H7 (N:Nat) (E:ArG):sF (some (mkG N E))=some (E.length:Int):=by
 show some ((((ai E).length:Nat):Int))=_
 rw [dC]
theorem Fl (N:Nat) (E:ArG) (v:Int):kO (some (mkG N E)) v=some (decide (0≤v)&&decide (v < (N:Int))):=by
 unfold kO
 rw [F8]
 cases decide (0≤v) <;> simp
theorem Fi {N:Nat} {E:ArG} {v:Nat} (h:v < N):kO (some (mkG N E)) (v:Int)=some true:=by
 rw [Fl]; simp [h]
theorem Jp {N:Nat} {E:ArG} (hn:N≤1048576) (he:E.length≤67108864) {v:Nat} (h:v < N):oB (some (mkG N E)) (v:Int)=some ((occ (E.map (·.2)) v).map (fun i:Nat=>(i:Int))):=by
 unfold oB
 rw [Fi h]
 have:=DR (ks:=E.map (·.2)) hn (by simp; omega) h
 have hb:=tR (E.map (·.2)) v
 simp only [Bool.not_true,cond_false,Option.bind_some,mkG]
 rw [this,Option.bind_some]
 have hc:∀ l:List Int,l.length≤1073741824→cg l=some l:=fun l hl=>mK l hl
 rw [hc _ (by simp at hb ⊢; omega)]; rfl
def nxt (E:ArG) (v:Nat):List Nat:=(occ (E.map (·.1)) v).map (fun i=>(E.getD i (0,0)).2)
theorem HD {E:ArG} {v i:Nat} (h:i∈occ (E.map (·.1)) v):∃ h:i < E.length,E[i].1=v:=by
 obtain ⟨h1,h2⟩:=uH.1 h
 exact ⟨by simpa using h1,by simpa using h2⟩
theorem jL {E:ArG} {v u:Nat}:u∈nxt E v↔(v,u)∈E:=by
 unfold nxt
 constructor
 . intro h
   obtain ⟨i,hi,rfl⟩:=List.mem_map.1 h
   obtain ⟨h1,h2⟩:=HD hi
   have:E.getD i (0,0)=E[i]:=by simp [h1]
   rw [this]
   have e:(v,E[i].2)=E[i]:=by rw [← h2]
   rw [e]; exact List.getElem_mem h1
 . intro h
   obtain ⟨i,hi,he⟩:=List.getElem_of_mem h
   refine List.mem_map.2 ⟨i,uH.2 ⟨by simpa using hi,by simp [he]⟩,by simp [hi,he]⟩
def tn (E:ArG):ArG:=E.map (fun e=>(e.2,e.1))
theorem IP (E:ArG):(tn E).length=E.length:=by simp [tn]
theorem AC {E:ArG} {a b:Nat}:(a,b)∈tn E↔(b,a)∈E:=by
 unfold tn
 constructor
 . intro h; obtain ⟨e,he,h2⟩:=List.mem_map.1 h; cases h2; exact he
 . intro h; exact List.mem_map.2 ⟨_,h,rfl⟩
inductive Rch (E:ArG):Nat→Nat→Prop
 | refl (v:Nat):Rch E v v
 | step {v w u:Nat} (h:Rch E v w) (e:(w,u)∈E):Rch E v u
theorem Rch.trans {E:ArG} {a b c:Nat} (h:Rch E a b) (k:Rch E b c):Rch E a c:=by
 induction k with
 | refl=>exact h
 | step _ e ih=>exact ih.step e
theorem Rch.mono {E F:ArG} (hf:∀ e∈E,e∈F) {a b:Nat} (h:Rch E a b):Rch F a b:=by
 induction h with
 | refl=>exact .refl _
 | step _ e ih=>exact ih.step (hf _ e)
theorem Rch.lt {N:Nat} {E:ArG} (hE:inN N E) {a b:Nat} (h:Rch E a b) (ha:a < N):b < N:=by
 cases h with
 | refl=>exact ha
 | step _ e=>exact (hE _ e).2
theorem GE {A:List Nat}:∀ {L:List Nat},L.Nodup→(∀ x∈L,x∈A)→L.length≤A.length:=by
 intro L
 induction L generalizing A with
 | nil=>intro _ _; simp
 | cons x L ih =>
   intro hd hs
   have hx:=hs x (by simp)
   rw [List.nodup_cons] at hd
   have:=ih (A:=A.erase x) hd.2 (fun y hy=>by
     have hne:y≠x:=fun e=>hd.1 (e ▸ hy)
     exact (List.mem_erase_of_ne hne).2 (hs y (by simp [hy])))
   rw [List.length_erase_of_mem hx] at this
   have:0 < A.length:=List.length_pos_of_mem hx
   simp; omega
theorem uf {L:List Nat} {N:Nat} (hd:L.Nodup) (h:∀ x∈L,x < N):L.length≤N:=by
 have:=GE (A:=List.range N) hd (fun x hx=>List.mem_range.2 (h x hx))
 simpa using this
def li (L:List Nat):List Int:=L.map (fun i:Nat=>(i:Int))
theorem bz (L:List Nat):(li L).length=L.length:=by simp [li]
theorem im {L:List Nat} {k:Nat} (h:k < L.length):aa (li L) (k:Int)=some ((L[k]:Nat):Int):=by rw [ah (by rw [bz]; exact h)]; simp [li]
theorem As {E:ArG} {k:Nat} (h:k < E.length):aa (ai E) (k:Int)=some (((E[k].1:Nat):Int),((E[k].2:Nat):Int)):=by rw [ah (by rw [dC]; exact h)]; simp [ai]
open Classical in
def rl (N:Nat) (E:ArG) (v:Nat):List Nat:=(List.range N).filter (fun w=>decide (Rch E v w))
theorem DK (N:Nat) (p:Nat→Bool):(li ((List.range N).filter p)).Pairwise (· < ·):=by
 unfold li
 rw [List.pairwise_map]
 refine List.Pairwise.imp (R:=fun a b:Nat=>a < b) (fun h=>by omega) ?_
 exact List.pairwise_lt_range.filter p
end
theorem pA (xa xb:List Int) (hn:xa.length≤1073741824):bh xa xb=some (decide (xa=xb)):=by
 unfold bh
 by_cases hl:xa.length=xb.length
 . rw [wc hl,cond_false,xP (body:=oE xa xb) xa xb (.inr false) (.inl ()) hl ?_ ?_]
   . by_cases h:xa=xb <;> simp [h]
   . intro k h; unfold oE
     have h2:k < xb.length:=by omega
     by_cases q:xa[k]=xb[k] <;> simp [ah h,ah h2,h,q,aj h (by omega)]
   . simp [oE]
 . rw [qW hl,cond_true]
   have:¬ xa=xb:=fun h=>hl (by rw [h])
   simp [this]
theorem Io {N:Nat} {E:ArG} {i:Int}:kV (some (mkG N E)) i=some (if h:0≤i∧i < (E.length:Int) then (((E[i.toNat]'(by omega)).1:Int),((E[i.toNat]'(by omega)).2:Int),true) else (0,0,false)):=by
 unfold kV
 rw [H7]
 by_cases h0:i < 0
 . simp [h0,show ¬ (0≤i∧i < (E.length:Int)) by omega]
 . by_cases h1:(E.length:Int)≤i
   . simp [h0,h1,show ¬ (0≤i∧i < (E.length:Int)) by omega]
   . have h2:0≤i∧i < (E.length:Int):=by omega
     obtain ⟨k,rfl⟩:=Int.eq_ofNat_of_zero_le h2.1
     have hk:k < E.length:=by omega
     simp only [h0,h1,decide_false,cond_false,Option.bind_some,mkG,As hk]
     simp [hk]
set_option linter.unnecessarySimpa false
set_option linter.unusedSimpArgs false
inductive Thr (E:ArG):List Nat→List Nat→List Nat→List Nat→List Nat→Prop
 | nil {o m:List Nat}:Thr E o m [] o m
 | skip {o m r o' m':List Nat} {u:Nat}:u∈m→Thr E o m r o' m'→Thr E o m (u :: r) o' m'
 | step {o m r o1 m1 o' m':List Nat} {u:Nat}:u∉m→Thr E o (m++[u]) (nxt E u) o1 m1→Thr E (o1++[u]) m1 r o' m'→Thr E o m (u :: r) o' m'
theorem Thr.grow {E:ArG} {o m r o' m':List Nat} (h:Thr E o m r o' m'):∃ D O,m'=m++D∧o'=o++O∧O.Perm D∧(∀ x∈r,x∈m'):=by
 induction h with
 | nil=>exact ⟨[],[],by simp,by simp,.refl _,by simp⟩
 | skip hu h ih =>
   obtain ⟨D,O,rfl,rfl,hp,hr⟩:=ih
   exact ⟨D,O,rfl,rfl,hp,fun x hx=>by
     rcases List.mem_cons.1 hx with rfl | hx
     . exact List.mem_append_left _ hu
     . exact hr x hx⟩
 | step hu h1 h2 ih1 ih2 =>
   obtain ⟨D1,O1,rfl,rfl,hp1,hr1⟩:=ih1
   obtain ⟨D2,O2,rfl,rfl,hp2,hr2⟩:=ih2
   rename_i o m r u
   refine ⟨u :: D1++D2,O1++[u]++O2,by simp,by simp,?_,fun x hx=>?_⟩
   . refine List.Perm.append ?_ hp2
     refine (List.perm_append_comm (l₁:=O1) (l₂:=[u])).trans ?_
     exact hp1.cons u
   . rcases List.mem_cons.1 hx with rfl | hx
     . simp
     . exact hr2 x hx
theorem Thr.inv {E:ArG} {N:Nat} (hE:inN N E) {o m r o' m':List Nat} (h:Thr E o m r o' m'):m.Nodup→(∀ x∈m,x < N)→(∀ x∈r,x < N)→m'.Nodup∧∀ x∈m',x < N:=by
 induction h with
 | nil=>exact fun a b _=>⟨a,b⟩
 | skip hu h ih=>exact fun a b c=>ih a b (fun x hx=>c x (List.mem_cons_of_mem _ hx))
 | step hu h1 h2 ih1 ih2 =>
   intro a b c
   rename_i o m r o1 m1 o' m' u
   have hun:u < N:=c u (List.mem_cons_self ..)
   have hd:(m++[u]).Nodup:=by
     rw [List.nodup_append]; refine ⟨a,by simp,?_⟩
     intro x hx y hy; simp at hy; subst hy; intro e; subst e; exact hu hx
   have hl:∀ x∈m++[u],x < N:=fun x hx=>by
     rcases List.mem_append.1 hx with q | q
     . exact b x q
     . simp at q; omega
   obtain ⟨a1,b1⟩:=ih1 hd hl (fun x hx=>(hE _ (jL.1 hx)).2)
   exact ih2 a1 b1 (fun x hx=>c x (List.mem_cons_of_mem _ hx))
theorem Thr.ex {E:ArG} {N:Nat} (hE:inN N E):∀ (k:Nat) (r o m:List Nat),N - m.length≤k→m.Nodup→(∀ x∈m,x < N)→(∀ x∈r,x < N)→∃ o' m',Thr E o m r o' m':=by
 intro k
 induction k with
 | zero =>
   intro r
   induction r with
   | nil=>intro o m _ _ _ _; exact ⟨o,m,.nil⟩
   | cons u r ih =>
     intro o m hk hd hl hr
     by_cases hu:u∈m
     . obtain ⟨o',m',h⟩:=ih o m hk hd hl (fun x hx=>hr x (List.mem_cons_of_mem _ hx))
       exact ⟨o',m',.skip hu h⟩
     . exfalso
       have hd1:(m++[u]).Nodup:=by
         rw [List.nodup_append]; refine ⟨hd,by simp,?_⟩
         intro x hx y hy; simp at hy; subst hy; intro e; subst e; exact hu hx
       have:=uf (N:=N) hd1 (fun x hx=>by
         rcases List.mem_append.1 hx with q | q
         . exact hl x q
         . simp at q; subst q; exact hr _ (List.mem_cons_self ..))
       simp at this; omega
 | succ k ihk =>
   intro r
   induction r with
   | nil=>intro o m _ _ _ _; exact ⟨o,m,.nil⟩
   | cons u r ih =>
     intro o m hk hd hl hr
     by_cases hu:u∈m
     . obtain ⟨o',m',h⟩:=ih o m hk hd hl (fun x hx=>hr x (List.mem_cons_of_mem _ hx))
       exact ⟨o',m',.skip hu h⟩
     . have hd1:(m++[u]).Nodup:=by
         rw [List.nodup_append]; refine ⟨hd,by simp,?_⟩
         intro x hx y hy; simp at hy; subst hy; intro e; subst e; exact hu hx
       have hl1:∀ x∈m++[u],x < N:=fun x hx=>by
         rcases List.mem_append.1 hx with q | q
         . exact hl x q
         . simp at q; subst q; exact hr _ (List.mem_cons_self ..)
       have hn1:∀ x∈nxt E u,x < N:=fun x hx=>(hE _ (jL.1 hx)).2
       obtain ⟨o1,m1,h1⟩:=ihk (nxt E u) o (m++[u]) (by simp; omega) hd1 hl1 hn1
       obtain ⟨D,O,rfl,rfl,_,_⟩:=h1.grow
       obtain ⟨a1,b1⟩:=h1.inv hE hd1 hl1 hn1
       obtain ⟨o',m',h2⟩:=ihk r ((o++O)++[u]) (m++[u]++D) (by simp; omega) a1 b1 (fun x hx=>hr x (List.mem_cons_of_mem _ hx))
       exact ⟨o',m',.step hu h1 h2⟩
def OkO (E:ArG) (o:List Nat):Prop:=∀ A x B,o=A++x :: B→∀ y,(x,y)∈E→y∈A∨Rch E y x
theorem OkO.snoc {E:ArG} {o:List Nat} {u:Nat} (h:OkO E o) (hu:∀ y,(u,y)∈E→y∈o∨Rch E y u):OkO E (o++[u]):=by
 intro A x B e y hy
 rcases List.eq_nil_or_concat B with rfl | ⟨B',z,rfl⟩
 . obtain ⟨e1,e2⟩:=List.append_inj' e rfl
   simp at e2; subst e1; subst e2; exact hu y hy
 . have e':o++[u]=(A++x :: B')++[z]:=by rw [e]; simp
   obtain ⟨e1,e2⟩:=List.append_inj' e' rfl
   exact h A x B' e1 y hy
theorem Thr.ok {E:ArG} {o m r o' m':List Nat} (h:Thr E o m r o' m'):(∀ g∈m,g∉o→∀ x∈r,Rch E g x)→OkO E o→OkO E o'∧∀ g∈m',g∉o'→g∈m∧g∉o:=by
 induction h with
 | nil=>exact fun _ h=>⟨h,fun g a b=>⟨a,b⟩⟩
 | skip hu h ih=>exact fun a b=>ih (fun g hg ho x hx=>a g hg ho x (List.mem_cons_of_mem _ hx)) b
 | step hu h1 h2 ih1 ih2 =>
   intro a b
   rename_i o m r o1 m1 o' m' u
   obtain ⟨k1,g1⟩:=ih1 (fun g hg ho x hx=>by
     have hux:(u,x)∈E:=jL.1 hx
     rcases List.mem_append.1 hg with q | q
     . exact (a g q ho u (List.mem_cons_self ..)).step hux
     . simp at q; subst q; exact (Rch.refl _).step hux) b
   obtain ⟨_,_,_,_,_,hall⟩:=h1.grow
   have k2:OkO E (o1++[u]):=k1.snoc (fun y hy=>by
     by_cases q:y∈o1
     . exact .inl q
     . refine .inr ?_
       obtain ⟨c1,c2⟩:=g1 y (hall y (jL.2 hy)) q
       rcases List.mem_append.1 c1 with q2 | q2
       . exact a y q2 c2 u (List.mem_cons_self ..)
       . simp at q2; subst q2; exact .refl _)
   have g2:∀ g∈m1,g∉o1++[u]→g∈m∧g∉o:=fun g hg ho=>by
     have n1:g∉o1:=fun q=>ho (List.mem_append_left _ q)
     have n2:g≠u:=fun q=>ho (by simp [q])
     obtain ⟨c1,c2⟩:=g1 g hg n1
     rcases List.mem_append.1 c1 with q | q
     . exact ⟨q,c2⟩
     . simp at q; exact absurd q n2
   obtain ⟨k3,g3⟩:=ih2 (fun g hg ho x hx=>by
     obtain ⟨c1,c2⟩:=g2 g hg ho
     exact a g c1 c2 x (List.mem_cons_of_mem _ hx)) k2
   exact ⟨k3,fun g hg ho=>by obtain ⟨c1,c2⟩:=g3 g hg ho; exact g2 g c1 c2⟩
theorem Thr.all {E:ArG} {N:Nat} (hE:inN N E):∃ o m,Thr E [] [] (List.range N) o m∧o.Perm (List.range N)∧OkO E o:=by
 obtain ⟨o,m,h⟩:=Thr.ex hE N (List.range N) [] [] (by simp) (by simp) (by simp) (fun x hx=>List.mem_range.1 hx)
 obtain ⟨D,O,e1,e2,hp,hr⟩:=h.grow
 simp only [List.nil_append] at e1 e2; subst e1; subst e2
 obtain ⟨hd,hl⟩:=h.inv hE (by simp) (by simp) (fun x hx=>List.mem_range.1 hx)
 refine ⟨o,m,h,hp.trans ?_,(h.ok (by simp) (fun A x B e=>by simp at e)).1⟩
 refine (List.perm_ext_iff_of_nodup hd List.nodup_range).2 (fun x=>⟨fun hx=>List.mem_range.2 (hl x hx),fun hx=>hr x hx⟩)
set_option maxRecDepth 20000
section
abbrev Pts:=Option (List Int×Int)
abbrev flG (P:Pts) (N:Nat) (E:ArG):Option (Pts×Option Gr):=some (P,some (mkG N E))
section
variable {P:Pts} {N:Nat} {E:ArG}
end
end
abbrev wx:Blk:=([],0,0,0,[],[],[])
def gs (X:List Blk) (j k m:Nat):Bool:=if k=(X.getD j wx).1.length then (X.getD j wx).2.2.2.2.1.any (fun t=>decide (bg X t.toNat=m)) else decide (m=bg X j + k + 1)
def nxp (X:List Blk) (n:Nat):List Nat:=(List.range (bg X X.length)).filter (gs X ((au X).getD n (0,0,false)).1.toNat ((au X).getD n (0,0,false)).2.1.toNat)
def bO (X:List Blk):Nat→ArG
 | 0=>[]
 | n + 1=>bO X n++(nxp X n).map (fun m=>(n,m))
theorem I9 {X:List Blk} {j k:Nat} (hj:j < X.length) (hk:k≤X[j].1.length):nxp X (bg X j + k)=(List.range (bg X X.length)).filter (gs X j k):=by
 have h:=mH X hj hk
 unfold nxp
 rw [List.getD_eq_getElem?_getD,h]; rfl
theorem IG {X:List Blk} {n m:Nat} (h:m∈nxp X n):m < bg X X.length:=by
 unfold nxp at h; exact List.mem_range.1 (List.mem_filter.1 h).1
theorem HB (X:List Blk) (n:Nat):(nxp X n).length≤bg X X.length:=by
 unfold nxp; exact Nat.le_trans (List.length_filter_le _ _) (by simp)
theorem zc (X:List Blk):∀ n,(bO X n).length≤n * bg X X.length
 | 0=>by simp [bO]
 | n + 1=>by
   have:=zc X n
   have:=HB X n
   simp only [bO,List.length_append,List.length_map,Nat.succ_mul]; omega
theorem uR (X:List Blk):∀ n,n≤bg X X.length→inN (bg X X.length) (bO X n)
 | 0,_=>by intro e he; simp [bO] at he
 | n + 1,hn=>by
   intro e he
   simp only [bO,List.mem_append,List.mem_map] at he
   rcases he with q | ⟨m,hm,rfl⟩
   . exact uR X n (by omega) e q
   . exact ⟨by show n < _; omega,IG hm⟩
theorem xN:∀ (N p:Nat),p < N→(List.range N).filter (fun m=>decide (m=p))=[p]
 | 0,p,h=>by omega
 | N + 1,p,h=>by
   rw [List.range_succ,List.filter_append]
   by_cases q:p=N
   . subst q
     have:(List.range p).filter (fun m=>decide (m=p))=[]:=by
       rw [List.filter_eq_nil_iff]; intro x hx; have:=List.mem_range.1 hx; simp; omega
     rw [this]; simp
   . rw [xN N p (by omega)]
     have:¬ N=p:=fun e=>q e.symm
     simp [this]
structure Tos (X:List Blk):Prop where
 few:X.length≤8
 pts:bg X X.length≤32
 len:∀ x∈X,x.2.2.2.2.1.length≤20
 good:∀ x∈X,∀ t∈x.2.2.2.2.1,0≤t∧t < (X.length:Int)
theorem jv {a b:Flt} (h:(or0 a b).1=0):a.1=0∧b.1=0:=by
 unfold or0 at h; split at h
 . rename_i q; exact ⟨q,h⟩
 . rename_i q; exact absurd h q
theorem Gv {b:Bo} (h:(vck b).1=0):(cd b).1=0:=by
 unfold vck at h
 obtain ⟨_,h⟩:=jv h
 obtain ⟨_,h⟩:=jv h
 obtain ⟨_,h⟩:=jv h
 obtain ⟨_,h⟩:=jv h
 obtain ⟨_,h⟩:=jv h
 exact (jv h).2
theorem FR {b:Bo} (h:(vck b).1=0):∀ x∈b.2.2.2.2.2.2,tE (bG b) x.2=0:=by
 have hc:=Gv h
 unfold cd at hc
 cases hq:b.2.2.2.2.2.2.findIdx? (fun x=>(bH b x).isSome) with
 | none =>
   intro x hx
   have:=List.findIdx?_eq_none_iff.1 hq x hx
   unfold bH at this
   split at this
   . simp at this
   . by_cases q:tE (bG b) x.2=0
     . exact q
     . rw [if_neg q] at this; simp at this
 | some k =>
   exfalso
   rw [hq] at hc
   obtain ⟨hk,hcc,_⟩:=List.findIdx?_eq_some_iff_getElem.1 hq
   have e:b.2.2.2.2.2.2.getD k ([],0,0,0,[],[],[])=b.2.2.2.2.2.2[k]:=by simp [List.getD,hk]
   simp only [e] at hc
   unfold bH at hcc hc
   split at hcc
   . rename_i j hj
     rw [hj] at hc
     obtain ⟨hj1,hj2,_⟩:=List.findIdx?_eq_some_iff_getElem.1 hj
     have e2:b.2.2.2.2.2.2[k].1.getD j (0,0,0,0,false)=b.2.2.2.2.2.2[k].1[j]:=by simp [List.getD,hj1]
     simp only [e2,dD] at hc
     simp [hc] at hj2
   . rename_i hj
     rw [hj] at hc
     by_cases q:tE (bG b) b.2.2.2.2.2.2[k].2=0
     . rw [if_pos q] at hcc; simp at hcc
     . rw [if_neg q] at hc; simp only [dD] at hc; exact q hc
theorem JX {a:Ar} {x:Tm} (h:tE a x=0) (hl:x.2.2.2.1.length≤20) (hl2:x.2.2.2.2.1.length≤20) (hl3:x.2.2.2.2.2.length≤20):bad a.1 x.2.2.2.1=false:=by
 cases q:bad a.1 x.2.2.2.1 with
 | false=>rfl
 | true =>
   exfalso
   unfold tE dq at h
   rw [show fw (x.1,x.2.1,x.2.2.1,x.2.2.2.1,x.2.2.2.2.1,x.2.2.2.2.2)=_ from pi x] at h
   simp only [Option.bind_some] at h
   by_cases q2:cb x=0
   . rw [decide_eq_true q2,Bool.not_true,cond_false,dx _ _ (by omega),q] at h
     simp at h
   . rw [decide_eq_false q2,Bool.not_false,cond_true] at h
     exact q2 h
theorem m9 {b:Bo} {j:Nat} (hj:j < (xs b).length):(vck b).1=0∧xs b=b.2.2.2.2.2.2:=by
 by_cases q:(vck b).1=0
 . exact ⟨q,by unfold xs; rw [if_pos q]⟩
 . unfold xs at hj; rw [if_neg q] at hj; simp at hj
theorem jR {b:Bo} (h:Sm b):Tos (xs b):=by
 obtain ⟨h1,h2⟩:=dY h (Nat.le_refl _)
 refine ⟨h2,h1,fun x hx=>?_,fun x hx t ht=>?_⟩
 . obtain ⟨j,hj,rfl⟩:=List.getElem_of_mem hx
   obtain ⟨_,e⟩:=m9 hj
   exact (h.term _ (by rw [← e]; exact List.getElem_mem hj)).1
 . obtain ⟨j,hj,rfl⟩:=List.getElem_of_mem hx
   obtain ⟨hv,e⟩:=m9 hj
   have hm:(xs b)[j]∈b.2.2.2.2.2.2:=by rw [← e]; exact List.getElem_mem hj
   obtain ⟨a1,a2,a3⟩:=h.term _ hm
   have hb:=JX (FR hv _ hm) a1 a2 a3
   unfold bad at hb
   rw [List.any_eq_false] at hb
   have:=hb t ht
   rw [e]
   unfold bG at this
   simp at this
   omega
theorem p9 {X:List Blk} {j:Nat} (hj:j < X.length):X.getD j wx=X[j]:=by simp [List.getD,hj]
theorem FG {X:List Blk} (hT:Tos X) {j:Nat} (hj:j < X.length):lW X[j].2 (bgs X)=some (li ((List.range (bg X X.length)).filter (gs X j X[j].1.length))):=by
 have hm:X[j]∈X:=List.getElem_mem hj
 have hlen:=hT.len _ hm
 have hg:=hT.good _ hm
 have hfew:=hT.few
 have hlp:=xI (body:=oF X[j].2 (bgs X)) X[j].2.2.2.2.1 (fun k=>(X[j].2.2.2.2.1.take k).map (fun t:Int=>((bg X t.toNat:Nat):Int))) (X[j].2.2.2.2.1.map (fun t:Int=>((bg X t.toNat:Nat):Int))) ?_ ?_
 . unfold lW
   simp only [List.take_zero,List.map_nil] at hlp
   rw [hlp,Option.bind_some]
   unfold srt
   rw [if_pos (by simp; omega)]
   simp only [Option.bind_some]
   unfold gv
   simp only [Option.bind_some]
   congr 1
   have hs:=List.pairwise_mergeSort (le:=fun x y:Int=>decide (x≤y)) (fun a b c h1 h2=>by simp at *; omega) (fun a b=>by simp; omega) (X[j].2.2.2.2.1.map (fun t:Int=>((bg X t.toNat:Nat):Int)))
   obtain ⟨c1,c2⟩:=oX (hs.imp (fun h=>by simpa using h))
   refine eJ c1 (DK _ _) (fun a=>?_)
   rw [c2,List.mem_mergeSort]
   unfold li
   simp only [List.mem_map,List.mem_filter,List.mem_range]
   constructor
   . rintro ⟨t,ht,rfl⟩
     obtain ⟨t0,t1⟩:=hg t ht
     refine ⟨bg X t.toNat,⟨Nn X (by omega) (Nat.le_refl _),?_⟩,rfl⟩
     unfold gs
     rw [p9 hj,if_pos rfl]
     exact List.any_eq_true.2 ⟨t,ht,by simp⟩
   . rintro ⟨m,⟨_,hg2⟩,rfl⟩
     unfold gs at hg2
     rw [p9 hj,if_pos rfl] at hg2
     obtain ⟨t,ht,e⟩:=List.any_eq_true.1 hg2
     exact ⟨t,ht,by simp at e; rw [e]⟩
 . intro k hk
   obtain ⟨t0,t1⟩:=hg _ (List.getElem_mem hk)
   have e:aa (bgs X) X[j].2.2.2.2.1[k]=some ((bg X (X[j].2.2.2.2.1[k]).toNat:Nat):Int):=by
     have:=pX X (k:=(X[j].2.2.2.2.1[k]).toNat) (by omega)
     rwa [Int.toNat_of_nonneg t0] at this
   unfold oF
   simp only [dlt hk,cond_true,ah hk,Option.bind_some,e]
   rw [aH (by simp; omega),Option.bind_some,aj hk (by omega),aM hk,List.map_append]; rfl
 . unfold oF
   simp only [dge (show ¬ X[j].2.2.2.2.1.length < X[j].2.2.2.2.1.length by omega),cond_false,List.take_length]
abbrev kb (X:List Blk):Pts:=some (bgs X,((bg X X.length:Nat):Int))
abbrev az (X:List Blk):ArG:=bO X (bg X X.length)
theorem jq {X:List Blk} (hT:Tos X) {n:Nat} (hn:n≤bg X X.length):(bO X n).length≤1024:=by
 have h1:=zc X n
 have h2:=hT.pts
 have:n * bg X X.length≤32 * 32:=Nat.mul_le_mul (by omega) h2
 omega
theorem H4 (E:ArG) (n:Nat) (H:List Nat):ai (E++H.map (fun m=>(n,m)))=ai E++(li H).map (fun x=>((n:Int),x)):=by
 simp [ai,li,Function.comp_def]
theorem zW {X:List Blk} {j k:Nat} (hj:j < X.length) (hk:k≤X[j].1.length):bO X (bg X j + k + 1)=bO X (bg X j + k)++((List.range (bg X X.length)).filter (gs X j k)).map (fun m=>(bg X j + k,m)):=by
 simp only [bO,I9 hj hk]
theorem IF {X:List Blk} {j k:Nat} (hj:j < X.length) (hk:k < X[j].1.length):(List.range (bg X X.length)).filter (gs X j k)=[bg X j + k + 1]:=by
 have h1:=cq hj
 have h2:=dB X (i:=j + 1) (j:=X.length) hj (Nat.le_refl _)
 have:gs X j k=fun m=>decide (m=bg X j + k + 1):=by
   funext m; unfold gs; rw [p9 hj,if_neg (by omega)]
 rw [this,xN _ _ (by omega)]
theorem Fe {n:Nat} {H:List Nat} {E:ArG} (hl:E.length + H.length≤1000000):loop (oV (n:Int) (li H)) (ai E,0)=some (ai (E++H.map (fun m=>(n,m)))):=by
 have:=uC (li H) (fun x:Int=>((n:Int),x)) (ai E) (by rw [dC,bz]; omega) (body:=oV (n:Int) (li H)) (fun c i=>by
   unfold oV
   cases hg:aa (li H) i with
   | none=>simp [hg]
   | some x=>simp [hg])
 rw [this,H4]
theorem EQ {X:List Blk} (h:X.length≤1000):nU (kb X)=some (bgs X):=by
 have hc:∀ l:List Int,l.length≤1073741824→cg l=some l:=fun l hl=>mK l hl
 unfold nU kb
 simp only [Option.isNone_some,cond_false,Option.bind_some]
 rw [hc _ (by rw [qd]; omega)]; rfl
theorem xq {b:Bo} (h:Sm b):gZ b=some (flG (kb (xs b)) (bg (xs b) (xs b).length) (az (xs b))):=by
 have hT:=jR h
 have h32:=hT.pts
 have h8:=hT.few
 unfold gZ
 rw [show dw b=_ from tG h]
 have e1:dp (kb (xs b))=some ((bg (xs b) (xs b).length:Nat):Int):=rfl
 simp only [Option.bind_some,EQ (show (xs b).length≤1000 by omega),e1]
 have hl:=aF (body:=lR b (kb (xs b)) (bgs (xs b)) ((bg (xs b) (xs b).length:Nat):Int)) (fun n:Nat=>(ai (bO (xs b) n),(n:Int))) (bg (xs b) (xs b).length) (b:=ai (az (xs b))) ?_ ?_
 . rw [show loop (lR b (kb (xs b)) (bgs (xs b)) ((bg (xs b) (xs b).length:Nat):Int)) ([],0)=_ from hl]
   simp only [Option.bind_some]
   have hin:=uR (xs b) _ (Nat.le_refl _)
   have hb:=jq hT (Nat.le_refl _)
   rw [show mj ((bg (xs b) (xs b).length:Nat):Int) (ai (az (xs b)))=_ from IQ (N:=bg (xs b) (xs b).length) (E:=az (xs b)) hin (by omega) (Nat.le_trans hb (by decide))]; rfl
 . intro n hn
   obtain ⟨j,k,hj,hk,rfl,_⟩:=m6 (xs b) (xs b).length (Nat.le_refl _) n hn
   obtain ⟨hv,ex⟩:=m9 hj
   have hb:=jq hT (Nat.le_of_lt hn)
   have hat:=Bp (X:=xs b) (by omega) (by omega) hj hk
   have hen:=G9 (X:=xs b) (by omega) (by omega) hj hk
   have hfl:((List.range (bg (xs b) (xs b).length)).filter (gs (xs b) j k)).length≤32:=Nat.le_trans (List.length_filter_le _ _) (by simp; omega)
   have hin:=Fe (n:=bg (xs b) j + k) (H:=(List.range (bg (xs b) (xs b).length)).filter (gs (xs b) j k)) (E:=bO (xs b) (bg (xs b) j + k)) (by omega)
   rw [← zW hj hk] at hin
   unfold lR
   simp only [dlt hn,cond_true,hat,hen,Option.bind_some]
   by_cases q:k=(xs b)[j].1.length
   . have hgb:aa b.2.2.2.2.2.2 (j:Int)=some (xs b)[j]:=by rw [← ex]; exact ah hj
     have hh:=FG hT hj
     rw [← q] at hh
     simp only [decide_eq_true q,cond_true,hgb,Option.bind_some]
     rw [show lW ((xs b)[j].2.1,(xs b)[j].2.2.1,(xs b)[j].2.2.2.1,(xs b)[j].2.2.2.2.1,(xs b)[j].2.2.2.2.2.1,(xs b)[j].2.2.2.2.2.2) (bgs (xs b))=_ from hh]
     simp only [Option.bind_some,hin,aj hn (by omega)]
   . have hkl:k < (xs b)[j].1.length:=by omega
     rw [IF hj hkl] at hin
     simp only [decide_eq_false q,cond_false,Option.bind_some,aj hn (by omega)]
     rw [show ([((bg (xs b) j + k + 1:Nat):Int)]:List Int)=li [bg (xs b) j + k + 1] from rfl,hin]; rfl
 . unfold lR
   simp only [dge (show ¬ bg (xs b) (xs b).length < bg (xs b) (xs b).length by omega),cond_false]
theorem HF {b:Bo} (h:Sm b) {j k m:Nat} (hj:j < (xs b).length) (hk:k≤(xs b)[j].1.length):lX b (au (xs b)) ((bg (xs b) j + k:Nat):Int) (m:Int)=some (gs (xs b) j k m):=by
 have hT:=jR h
 have h32:=hT.pts
 obtain ⟨hv,ex⟩:=m9 hj
 have hg:aa (au (xs b)) ((bg (xs b) j + k:Nat):Int)=some ((j:Int),(k:Int),decide (k=(xs b)[j].1.length)):=by
   have:=mH (xs b) hj hk
   unfold aa; rw [if_pos (by omega),Int.toNat_natCast,this]
 have h1:=cq hj
 have h2:=dB (xs b) (i:=j + 1) (j:=(xs b).length) hj (Nat.le_refl _)
 have hgb:aa b.2.2.2.2.2.2 (j:Int)=some (xs b)[j]:=by rw [← ex]; exact ah hj
 unfold lX
 simp only [hg,Option.bind_some]
 unfold gs
 rw [p9 hj]
 by_cases q:k=(xs b)[j].1.length
 . simp only [decide_eq_true q,Bool.not_true,cond_false,hgb,Option.bind_some]
   rw [if_pos q]
   have hm:(xs b)[j]∈xs b:=List.getElem_mem hj
   have hlen:=hT.len _ hm
   have hgd:=hT.good _ hm
   rw [dV (xs b)[j].2.2.2.2.1 (fun t=>decide (bg (xs b) t.toNat=m)) (.inr true) (.inl ()) ?_ ?_]
   . cases ((xs b)[j].2.2.2.2.1).any (fun t=>decide (bg (xs b) t.toNat=m)) <;> rfl
   . intro i hi
     obtain ⟨t0,t1⟩:=hgd _ (List.getElem_mem hi)
     have e:mn (au (xs b)) (xs b)[j].2.2.2.2.1[i] 0=some (((bg (xs b) ((xs b)[j].2.2.2.2.1[i]).toNat:Nat):Int),true):=by
       have:=GA (X:=xs b) (by omega) (j:=((xs b)[j].2.2.2.2.1[i]).toNat) (k:=0) (by omega) (by omega)
       rwa [Int.toNat_of_nonneg t0] at this
     unfold sO
     simp only [dlt hi,cond_true,ah hi,Option.bind_some,e,Bool.true_and,aj hi (by omega:(xs b)[j].2.2.2.2.1.length≤9223372036854775807)]
     by_cases c:bg (xs b) ((xs b)[j].2.2.2.2.1[i]).toNat=m
     . simp [c]
     . have c':¬ ((bg (xs b) ((xs b)[j].2.2.2.2.1[i]).toNat:Nat):Int)=(m:Int):=by omega
       simp [c,c']
   . unfold sO
     simp
 . simp only [decide_eq_false q,Bool.not_false,cond_true]
   rw [if_neg q,w64 (by omega) (by omega)]
   congr 1
   by_cases c:m=bg (xs b) j + k + 1
   . rw [decide_eq_true c,decide_eq_true (by omega)]
   . rw [decide_eq_false c,decide_eq_false (by omega)]
theorem DN {b:Bo} (h:Sm b):lZ b=some (ai (az (xs b))):=by
 have hT:=jR h
 have h32:=hT.pts
 have hal:=ii (xs b)
 unfold lZ
 rw [show dd b=_ from mA h]
 simp only [Option.bind_some]
 have hl:=aF (body:=lw b (au (xs b))) (fun n:Nat=>(ai (bO (xs b) n),(n:Int))) (bg (xs b) (xs b).length) (b:=ai (az (xs b))) ?_ ?_
 . rw [show loop (lw b (au (xs b))) ([],0)=_ from hl]; rfl
 . intro n hn
   obtain ⟨j,k,hj,hk,rfl,_⟩:=m6 (xs b) (xs b).length (Nat.le_refl _) n hn
   have hb:=jq hT (Nat.le_of_lt hn)
   have hin:=aF (body:=lx b (au (xs b)) ((bg (xs b) j + k:Nat):Int)) (fun i:Nat=>(ai (bO (xs b) (bg (xs b) j + k)++((List.range i).filter (gs (xs b) j k)).map (fun m=>(bg (xs b) j + k,m))),(i:Int))) (bg (xs b) (xs b).length) (b:=ai (bO (xs b) (bg (xs b) j + k + 1))) ?_ ?_
   . unfold lw
     simp only [hal,dlt hn,cond_true]
     have hin':loop (lx b (au (xs b)) ((bg (xs b) j + k:Nat):Int)) (ai (bO (xs b) (bg (xs b) j + k)),0)=some (ai (bO (xs b) (bg (xs b) j + k + 1))):=by simpa using hin
     rw [hin',Option.bind_some,aj hn (by omega)]
   . intro i hi
     have hfl:((List.range i).filter (gs (xs b) j k)).length≤32:=Nat.le_trans (List.length_filter_le _ _) (by simp; omega)
     unfold lx
     simp only [hal,dlt hi,cond_true,show lX b (au (xs b)) ((bg (xs b) j + k:Nat):Int) (i:Int)=_ from HF h hj hk,Option.bind_some,aj hi (by omega:bg (xs b) (xs b).length≤9223372036854775807)]
     rw [List.range_succ,List.filter_append]
     cases hgi:gs (xs b) j k i with
     | true =>
       rw [cond_true,aH (by rw [dC]; simp; omega),Option.bind_some]
       have e:[i].filter (gs (xs b) j k)=[i]:=by simp [hgi]
       rw [e]
       simp [ai]
     | false =>
       have e:[i].filter (gs (xs b) j k)=[]:=by simp [hgi]
       rw [e,List.append_nil]; rfl
   . unfold lx
     simp only [hal,dge (show ¬ bg (xs b) (xs b).length < bg (xs b) (xs b).length by omega),cond_false,zW hj hk]
 . unfold lw
   simp only [hal,dge (show ¬ bg (xs b) (xs b).length < bg (xs b) (xs b).length by omega),cond_false]
section
section
variable {P:Pts} {N:Nat} {E:ArG}
theorem Jb (E:ArG):(tn E).map (·.1)=E.map (·.2):=by simp [tn]
theorem Fs (hn:N≤1048576) (he:E.length≤67108864) {v:Nat} (h:v < N):ox (flG P N E) (v:Int)=some (li (nxt (tn E) v)):=by
 unfold ox sJ
 simp only [Option.isNone_some,cond_false,Option.bind_some]
 rw [Jp hn he h,Option.bind_some]
 have hb:=tR (E.map (·.2)) v
 simp at hb
 generalize hO:occ (E.map (·.2)) v=O at hb ⊢
 have hO2:∀ i∈O,i < E.length:=fun i hi=>by
   rw [← hO] at hi
   obtain ⟨h1,_⟩:=uH.1 hi
   simpa using h1
 have hx:nxt (tn E) v=O.map (fun i=>(E.getD i (0,0)).1):=by
   unfold nxt; rw [Jb,hO]
   refine List.map_congr_left (fun i hi=>?_)
   have:=hO2 i hi
   simp [tn,this]
 rw [hx]
 have hl:=aF (body:=nZ (flG P N E) (O.map (fun i:Nat=>(i:Int)))) (fun k:Nat=>((O.take k).map (fun i=>(((E.getD i (0,0)).1:Nat):Int))++(O.drop k).map (fun i:Nat=>(i:Int)),(k:Int))) O.length (b:=(O.map (fun i=>(((E.getD i (0,0)).1:Nat):Int)))) ?_ ?_
 . simp only [List.take_zero,List.map_nil,List.nil_append,List.drop_zero] at hl
   rw [show ((0:Int))=((0:Nat):Int) from rfl,hl]
   simp [li]
 . intro k hk
   have hk':k < (O.map (fun i:Nat=>(i:Int))).length:=by simpa using hk
   have hi:=hO2 _ (List.getElem_mem hk)
   have hlen:((O.take k).map (fun i=>(((E.getD i (0,0)).1:Nat):Int))).length=k:=by simp; omega
   have g1:aa ((O.take k).map (fun i=>(((E.getD i (0,0)).1:Nat):Int))++(O.drop k).map (fun i:Nat=>(i:Int))) (k:Int)=some ((O[k]:Nat):Int):=by
     rw [ah (by simp; omega),List.getElem_append_right (by omega)]
     simp only [List.getElem_map,List.getElem_drop,hlen,Nat.sub_self,Nat.add_zero]
   have g2:kV (some (mkG N E)) ((O[k]:Nat):Int)=some (((E[O[k]].1:Nat):Int),((E[O[k]].2:Nat):Int),true):=by
     rw [Io,dif_pos ⟨by omega,by omega⟩]
     simp
   unfold nZ
   simp only [dlt hk',cond_true,g1,Option.bind_some,g2,Int.toNat_natCast,aj hk' (by simp; omega)]
   congr 3
   rw [aM hk,List.map_append,List.drop_eq_getElem_cons hk,List.map_cons,List.set_append_right _ _ (by omega),hlen,Nat.sub_self,List.set_cons_zero,List.append_assoc]
   simp [hi]
 . simp [nZ]
end
end
section
theorem kx {α:Type} {m j:Nat} {f:Nat→α} (h:j < m):aa ((List.range m).map f) (j:Int)=some (f j):=by
 rw [ah (by simpa using h)]; simp
theorem wj {α:Type} {m j:Nat} {f:Nat→α} {y:α}:((List.range m).map f).set j y=(List.range m).map (fun v=>if v=j then y else f v):=by
 apply List.ext_getElem
 . simp
 . intro i h1 h2
   simp only [List.getElem_set,List.getElem_map,List.getElem_range]
   by_cases q:j=i
   . subst q; simp
   . rw [if_neg q,if_neg (fun e=>q e.symm)]
theorem gy {α:Type} {m:Nat} {f g:Nat→α} (h:∀ v,v < m→f v=g v):(List.range m).map f=(List.range m).map g:=List.map_congr_left fun v hv=>h v (List.mem_range.1 hv)
theorem Ci {α:Type} (m:Nat) (z:α):List.replicate m z=(List.range m).map (fun _=>z):=by
 apply List.ext_getElem <;> simp
theorem fH (a:Int):ay a a=some ():=by unfold ay; simp
abbrev Tc:=List Int×List Int
def iI (l:List Int):List Int:=l.mergeSort fun x y=>decide (x≤y)
theorem IW {l:List Int} (h:l.length≤1073741824):srt l=some (iI l):=by unfold srt; rw [if_pos h]; rfl
def cp (l:List Int):List Int:=Lib.compact (iI l)
theorem zB (l:List Int):(iI l).Pairwise (·≤·):=by
 have:=List.pairwise_mergeSort (le:=fun x y:Int=>decide (x≤y)) (fun a b c h1 h2=>by simp at *; omega) (fun a b=>by simp; omega) l
 exact this.imp (fun h=>by simpa using h)
theorem BH (l:List Int):(cp l).Pairwise (· < ·):=(oX (zB l)).1
theorem vg (l:List Int) (a:Int):a∈cp l↔a∈l:=by
 rw [cp,(oX (zB l)).2 a]; unfold iI; exact List.mem_mergeSort
theorem IY (l:List Int):(cp l).length≤l.length:=by
 have:=Lib.compact_length_le (iI l)
 unfold iI at this
 rw [List.length_mergeSort] at this
 exact this
theorem Ll (l:List Int):(cp l).Nodup:=(BH l).imp (fun h=>by omega)
def sT (s:Stm):Tc:=(if a8 s.1 then [s.2.2.1] else [],if be s.1 then [s.2.1] else [])
def tT (x:Tm):Tc:=if x.1=2 then (x.2.2.2.2.1,[]) else if x.1=4 then (x.2.2.2.2.1,[x.2.2.1]) else if x.1=3 then ([0],[]) else ([],[])
def cpT (t:Tc):Tc:=(cp t.1,t.2)
def eY (x:Blk):List Tc:=x.1.map (fun s=>cpT (sT s))++[cpT (tT x.2)]
theorem GN (x:Blk):(eY x).length=x.1.length + 1:=by simp [eY]
def ee (X:List Blk):Nat→List Tc
 | 0=>[]
 | i + 1=>ee X i++eY (X.getD i ([],0,0,0,[],[],[]))
theorem pQ (X:List Blk):∀ i,i≤X.length→(ee X i).length=bg X i
 | 0,_=>by simp [ee,bg,stm]
 | i + 1,h=>by
   have ih:=pQ X i (by omega)
   rw [cq (by omega)]
   simp only [ee,List.length_append,ih,GN,d6 (show i < X.length by omega)]; omega
theorem zk (X:List Blk):∀ i,i≤X.length→∀ j k,j < i→(hj:j < X.length)→k≤X[j].1.length→(ee X i)[bg X j + k]? = (eY X[j])[k]?
 | 0,_,j,k,h,_,_=>by omega
 | i + 1,h,j,k,hji,hj,hk=>by
   have hl:=pQ X i (by omega)
   unfold ee
   by_cases q:j=i
   . subst q
     rw [List.getElem?_append_right (by omega),hl,Nat.add_sub_cancel_left,d6 hj]
   . have h1:=dB X (i:=j + 1) (j:=i) (by omega) (by omega)
     rw [cq hj] at h1
     rw [List.getElem?_append_left (by omega)]
     exact zk X i (by omega) j k (by omega) hj hk
abbrev pts (X:List Blk):List Tc:=ee X X.length
theorem qg (X:List Blk):(pts X).length=bg X X.length:=pQ X _ (Nat.le_refl _)
theorem F6 {x:Blk} {k:Nat} (h:k < x.1.length):(eY x)[k]? = some (cpT (sT x.1[k])):=by
 unfold eY; rw [List.getElem?_append_left (by simpa using h)]; simp [h]
theorem F9 {x:Blk}:(eY x)[x.1.length]? = some (cpT (tT x.2)):=by
 unfold eY; rw [List.getElem?_append_right (by simp)]; simp
def rdr (P:List Tc) (l:Nat):List Int:=((List.range P.length).filter (fun n=>decide ((l:Int)∈(P.getD n ([],[])).1))).map (fun n:Nat=>(n:Int))
def wtr (P:List Tc) (l:Nat):List Int:=((List.range P.length).filter (fun n=>decide ((l:Int)∈(P.getD n ([],[])).2))).map (fun n:Nat=>(n:Int))
def lcs (N:Nat) (P:List Tc):List Tc:=(List.range N).map fun l=>(rdr P l,wtr P l)
theorem zq (P:List Tc) (t:Tc) (p:Tc→Bool):((List.range (P++[t]).length).filter (fun n=>p ((P++[t]).getD n ([],[])))).map (fun n:Nat=>(n:Int)) =
   ((List.range P.length).filter (fun n=>p (P.getD n ([],[])))).map (fun n:Nat=>(n:Int))++if p t then [(P.length:Int)] else []:=by
 rw [List.length_append,List.length_singleton,List.range_succ,List.filter_append,List.map_append]
 congr 1
 . congr 1
   refine List.filter_congr (fun n hn=>?_)
   have hn:n < P.length:=List.mem_range.1 hn
   rw [d6 (by simp; omega),d6 hn,List.getElem_append_left hn]
 . have:(P++[t]).getD P.length ([],[])=t:=by simp [List.getD]
   simp only [List.filter_cons,List.filter_nil,this]
   cases p t <;> rfl
theorem F4 (P:List Tc) (t:Tc) (l:Nat):rdr (P++[t]) l=rdr P l++if (l:Int)∈t.1 then [(P.length:Int)] else []:=by
 have:=zq P t (fun u=>decide ((l:Int)∈u.1))
 unfold rdr; rw [this]; simp
theorem Gy (P:List Tc) (t:Tc) (l:Nat):wtr (P++[t]) l=wtr P l++if (l:Int)∈t.2 then [(P.length:Int)] else []:=by
 have:=zq P t (fun u=>decide ((l:Int)∈u.2))
 unfold wtr; rw [this]; simp
theorem zH (P:List Tc) (l:Nat):(rdr P l).length≤P.length:=by
 unfold rdr; rw [List.length_map]
 exact Nat.le_trans (List.length_filter_le ..) (by simp)
theorem Ae (P:List Tc) (l:Nat):(wtr P l).length≤P.length:=by
 unfold wtr; rw [List.length_map]
 exact Nat.le_trans (List.length_filter_le ..) (by simp)
theorem vw (l:List Int) (h:l.length≤1000000):cg l=some l:=by
 unfold cg
 rw [aH (by simp; omega),uI (fun e=>by subst e; rfl)]
 simp
theorem EG (s:Stm):oM (s.1,s.2.1,s.2.2.1,s.2.2.2.1,s.2.2.2.2)=some (sT s):=by
 unfold oM sT a8 be
 by_cases h1:s.1=1
 . simp [h1]
 . by_cases h2:s.1=2
   . simp [h2]
   . by_cases h3:s.1=3
     . simp [h3]
     . by_cases h4:s.1=4
       . simp [h4]
       . by_cases h5:s.1=5
         . simp [h5]
         . have:¬ (1≤s.1∧s.1≤4):=by omega
           simp [h1,h2,h3,h4,h5,this]
theorem Fz (x:Tm) (h:x.2.2.2.2.1.length≤1000):oR (x.1,x.2.1,x.2.2.1,x.2.2.2.1,x.2.2.2.2.1,x.2.2.2.2.2)=some (tT x):=by
 unfold oR tT
 have hc:=vw x.2.2.2.2.1 (by omega)
 simp only [hc,Option.bind_some,pN]
 by_cases h1:x.1=2
 . simp [h1]
 . by_cases h2:x.1=4
   . simp [h2]
   . by_cases h3:x.1=3
     . simp [h3]
     . simp [h1,h2,h3]
section
variable {N:Nat} {P:List Tc}
def kv (N:Nat) (l:List Int):Prop:=∀ a∈l,0≤a∧a < (N:Int)
theorem NR {q:List Int} (hq:kv N q) (hn:q.Nodup) (hql:q.length≤1000) (f:Nat→Tc) (hf:∀ l,l < N→(f l).1.length≤1000000) :
   loop (kD P q) (0,(List.range N).map f)=some ((List.range N).map fun (l:Nat)=>if (l:Int)∈q then ((f l).1++[(P.length:Int)],(f l).2) else f l):=by
 have h:=aF (body:=kD P q) (fun k:Nat=>((k:Int),(List.range N).map fun (l:Nat)=>if (l:Int)∈q.take k then ((f l).1++[(P.length:Int)],(f l).2) else f l)) q.length (b:=(List.range N).map fun (l:Nat)=>if (l:Int)∈q then ((f l).1++[(P.length:Int)],(f l).2) else f l) ?_ ?_
 . simpa using h
 . intro k hk
   obtain ⟨h1,h2⟩:=hq _ (List.getElem_mem hk)
   obtain ⟨m,hm⟩:=Int.eq_ofNat_of_zero_le h1
   have hmN:m < N:=by rw [hm] at h2; exact Int.ofNat_lt.1 h2
   have hnot:¬ ((m:Nat):Int)∈q.take k:=by
     intro hmem
     obtain ⟨i,hi,e⟩:=List.getElem_of_mem hmem
     simp at hi
     rw [List.getElem_take] at e
     exact List.pairwise_iff_getElem.1 hn i k (by omega) hk (by omega) (e.trans hm.symm)
   have hg:aa ((List.range N).map fun (l:Nat)=>if (l:Int)∈q.take k then ((f l).1++[(P.length:Int)],(f l).2) else f l) ((m:Nat):Int)=some (f m):=by
     rw [kx hmN,if_neg hnot]
   have hfl:=hf m hmN
   unfold kD
   simp only [dlt hk,cond_true,ah hk,Option.bind_some,hm,hg,fH]
   rw [aH (by simp; omega)]
   simp only [Option.bind_some,aj hk (by omega:q.length≤9223372036854775807),Int.toNat_natCast,Option.some.injEq,Sum.inl.injEq,Prod.mk.injEq,true_and]
   rw [wj]
   refine gy (fun v hv=>?_)
   rw [aM hk,hm]
   by_cases e:v=m
   . subst e; simp
   . have:¬ (v:Int)=(m:Int):=by omega
     simp [e,this]
 . unfold kD
   simp
theorem M0 {q:List Int} (hq:kv N q) (hn:q.Nodup) (hql:q.length≤1000) (f:Nat→Tc) (hf:∀ l,l < N→(f l).2.length≤1000000) :
   loop (kE q P) (0,(List.range N).map f)=some ((List.range N).map fun (l:Nat)=>if (l:Int)∈q then ((f l).1,(f l).2++[(P.length:Int)]) else f l):=by
 have h:=aF (body:=kE q P) (fun k:Nat=>((k:Int),(List.range N).map fun (l:Nat)=>if (l:Int)∈q.take k then ((f l).1,(f l).2++[(P.length:Int)]) else f l)) q.length (b:=(List.range N).map fun (l:Nat)=>if (l:Int)∈q then ((f l).1,(f l).2++[(P.length:Int)]) else f l) ?_ ?_
 . simpa using h
 . intro k hk
   obtain ⟨h1,h2⟩:=hq _ (List.getElem_mem hk)
   obtain ⟨m,hm⟩:=Int.eq_ofNat_of_zero_le h1
   have hmN:m < N:=by rw [hm] at h2; exact Int.ofNat_lt.1 h2
   have hnot:¬ ((m:Nat):Int)∈q.take k:=by
     intro hmem
     obtain ⟨i,hi,e⟩:=List.getElem_of_mem hmem
     simp at hi
     rw [List.getElem_take] at e
     exact List.pairwise_iff_getElem.1 hn i k (by omega) hk (by omega) (e.trans hm.symm)
   have hg:aa ((List.range N).map fun (l:Nat)=>if (l:Int)∈q.take k then ((f l).1,(f l).2++[(P.length:Int)]) else f l) ((m:Nat):Int)=some (f m):=by
     rw [kx hmN,if_neg hnot]
   have hfl:=hf m hmN
   unfold kE
   simp only [dlt hk,cond_true,ah hk,Option.bind_some,hm,hg,fH]
   rw [aH (by simp; omega)]
   simp only [Option.bind_some,aj hk (by omega:q.length≤9223372036854775807),Int.toNat_natCast,Option.some.injEq,Sum.inl.injEq,Prod.mk.injEq,true_and]
   rw [wj]
   refine gy (fun v hv=>?_)
   rw [aM hk,hm]
   by_cases e:v=m
   . subst e; simp
   . have:¬ (v:Int)=(m:Int):=by omega
     simp [e,this]
 . unfold kE
   simp
structure Tg (N:Nat) (t:Tc):Prop where
 r:kv N t.1
 w:kv N t.2
 rl:t.1.length≤1000
 wl:t.2.length≤1
theorem AM {t:Tc} (h:Tg N t) (hP:P.length≤100000):iP t.1 t.2 P (lcs N P)=some (P++[cpT t],lcs N (P++[cpT t])):=by
 have hc:=IY t.1
 have hrl:=h.rl
 have hwl:=h.wl
 have hq:kv N (cp t.1):=fun a ha=>h.r a ((vg _ _).1 ha)
 have hwn:t.2.Nodup:=by
   cases hw:t.2 with
   | nil=>simp
   | cons a l =>
     rw [hw] at hwl
     have:l=[]:=by cases l with
       | nil=>rfl
       | cons b l=>simp at hwl
     simp [this]
 unfold iP
 rw [IW (by omega),Option.bind_some,show gv (iI t.1)=some (cp t.1) from rfl,Option.bind_some,aH (by simp; omega),Option.bind_some]
 unfold lcs
 rw [NR hq (Ll _) (by omega) _ (fun l hl=>by have:=zH P l; dsimp only; omega),Option.bind_some,
   M0 h.w hwn (by omega) _ (fun l hl=>by have:=Ae P l; dsimp only; split <;> (dsimp only; omega)),Option.bind_some]
 simp only [Option.some.injEq,Prod.mk.injEq]
 refine ⟨rfl,gy (fun l hl=>?_)⟩
 rw [F4,Gy]
 show _=(rdr P l++(if (l:Int)∈cp t.1 then _ else _),wtr P l++(if (l:Int)∈t.2 then _ else _))
 by_cases c1:(l:Int)∈cp t.1 <;> by_cases c2:(l:Int)∈t.2 <;> simp [c1,c2]
end
theorem L5 {L:List (List St)} {R:Int} {x:Stm} (h:sE L R x=0):fOk x=true∧(be x.1=true→loc L x.2.1=true)∧(a8 x.1=true→loc L x.2.2.1=true):=by
 unfold sE fu at h
 have g1:jj x.1=some (be x.1):=rfl
 have g2:jk x.1=some (a8 x.1):=rfl
 rw [show me (x.1,x.2.1,x.2.2.1,x.2.2.2.1,x.2.2.2.2)=_ from xt x] at h
 simp only [Option.bind_some,g1,g2,Aq] at h
 cases hf:fOk x with
 | false=>rw [hf] at h; simp at h
 | true =>
   rw [hf] at h
   simp only [Bool.not_true,cond_false] at h
   cases c1:(be x.1&&!loc L x.2.1) with
   | true=>rw [c1] at h; simp at h
   | false =>
     rw [c1] at h
     simp only [cond_false,Option.bind_some] at h
     cases c2:(a8 x.1&&!loc L x.2.2.1) with
     | true=>rw [c2] at h; simp at h
     | false =>
       refine ⟨rfl,fun e=>?_,fun e=>?_⟩
       . rw [e] at c1; simpa using c1
       . rw [e] at c2; simpa using c2
theorem Bd {a:Ar} {x:Tm} (h:tE a x=0) (hl:x.2.2.2.1.length≤20) (hl2:x.2.2.2.2.1.length≤20) (hl3:x.2.2.2.2.2.length≤20) :
   cb x=0∧bad (a.2.2.1.length:Int) x.2.2.2.2.1=false∧(x.1=4→bad (a.2.2.1.length:Int) [x.2.2.1]=false)∧(x.1=3→¬ a.2.2.1.length=0):=by
 unfold tE dq at h
 rw [show fw (x.1,x.2.1,x.2.2.1,x.2.2.2.1,x.2.2.2.2.1,x.2.2.2.2.2)=_ from pi x] at h
 simp only [Option.bind_some,dx x.2.2.2.1 _ (by omega),dx x.2.2.2.2.1 _ (by omega),dx x.2.2.2.2.2 _ (by omega),dx [x.2.2.1] _ (by simp),dx [x.2.1] _ (by simp),Bool.not_not] at h
 by_cases q2:cb x=0
 . rw [decide_eq_true q2,Bool.not_true,cond_false] at h
   cases c1:bad a.1 x.2.2.2.1 with
   | true=>rw [c1] at h; simp at h
   | false =>
     rw [c1] at h
     simp only [cond_false,Option.bind_some] at h
     cases c2:bad (a.2.2.1.length:Int) x.2.2.2.2.1 with
     | true=>rw [c2] at h; simp at h
     | false =>
       rw [c2] at h
       simp only [cond_false,Option.bind_some] at h
       cases c3:bad a.2.1 x.2.2.2.2.2 with
       | true=>rw [c3] at h; simp at h
       | false =>
         rw [c3] at h
         simp only [cond_false,Option.bind_some] at h
         refine ⟨q2,rfl,fun e=>?_,fun e=>?_⟩
         . cases c4:bad (a.2.2.1.length:Int) [x.2.2.1] with
           | false=>rfl
           | true=>rw [c4] at h; simp [e] at h
         . intro e0
           rw [e,e0] at h
           simp at h
 . rw [decide_eq_false q2,Bool.not_false,cond_true] at h
   exact absurd h q2
theorem cX {a b:Flt} (h:(or0 a b).1=0):a.1=0∧b.1=0:=by
 unfold or0 at h
 split at h
 . rename_i q; exact ⟨q,h⟩
 . rename_i q; exact absurd h q
theorem Hw {b:Bo} (h:(vck b).1=0):∀ x∈b.2.2.2.2.2.2,(∀ s∈x.1,sE b.2.2.2.1 b.2.1 s=0)∧tE (bG b) x.2=0:=by
 unfold vck at h
 have hc:=(cX (cX (cX (cX (cX (cX h).2).2).2).2).2).2
 unfold cd at hc
 cases hq:b.2.2.2.2.2.2.findIdx? (fun x=>(bH b x).isSome) with
 | none =>
   intro x hx
   have:=List.findIdx?_eq_none_iff.1 hq x hx
   unfold bH at this
   split at this
   . simp at this
   . rename_i hs
     refine ⟨fun s hm=>?_,?_⟩
     . have:=List.findIdx?_eq_none_iff.1 hs s hm
       simpa using this
     . by_cases q:tE (bG b) x.2=0
       . exact q
       . rw [if_neg q] at this; simp at this
 | some k =>
   exfalso
   rw [hq] at hc
   obtain ⟨hk,hcc,_⟩:=List.findIdx?_eq_some_iff_getElem.1 hq
   have e:b.2.2.2.2.2.2.getD k ([],0,0,0,[],[],[])=b.2.2.2.2.2.2[k]:=by simp [List.getD,hk]
   simp only [e] at hc
   unfold bH at hcc hc
   split at hcc
   . rename_i j hj
     rw [hj] at hc
     obtain ⟨hj1,hj2,_⟩:=List.findIdx?_eq_some_iff_getElem.1 hj
     have e2:b.2.2.2.2.2.2[k].1.getD j (0,0,0,0,false)=b.2.2.2.2.2.2[k].1[j]:=by simp [List.getD,hj1]
     simp only [e2,dD] at hc
     simp [hc] at hj2
   . rename_i hj
     rw [hj] at hc
     by_cases q:tE (bG b) b.2.2.2.2.2.2[k].2=0
     . rw [if_pos q] at hcc; simp at hcc
     . rw [if_neg q] at hc; simp only [dD] at hc; exact q hc
theorem vh {n:Nat} {l:List Int} (h:bad (n:Int) l=false):kv n l:=by
 intro a ha
 unfold bad at h
 rw [List.any_eq_false] at h
 have:=h a ha
 simp at this
 omega
structure Vb (N:Nat) (X:List Blk):Prop where
 st:∀ x∈X,∀ s∈x.1,Tg N (sT s)
 tm:∀ x∈X,Tg N (tT x.2)
 fm:∀ x∈X,cb x.2=0
 ar:∀ x∈X,x.2.2.2.2.2.1.length≤20
 pos:X≠[]→0 < N
theorem Bb {b:Bo} (h:Sm b):Vb b.2.2.2.1.length (xs b):=by
 unfold xs
 by_cases q:(vck b).1=0
 . rw [if_pos q]
   have ha:=Hw q
   refine ⟨fun x hx s hs=>?_,fun x hx=>?_,fun x hx=>?_,fun x hx=>(h.term x hx).2.1,fun _=>?_⟩
   . obtain ⟨h1,h2,h3⟩:=L5 ((ha x hx).1 s hs)
     refine ⟨fun a m=>?_,fun a m=>?_,?_,?_⟩
     . unfold sT at m; dsimp only at m
       by_cases c:a8 s.1=true
       . rw [if_pos c] at m; simp at m; subst m
         have:=h3 c; unfold loc at this; simp at this; omega
       . rw [if_neg c] at m; simp at m
     . unfold sT at m; dsimp only at m
       by_cases c:be s.1=true
       . rw [if_pos c] at m; simp at m; subst m
         have:=h2 c; unfold loc at this; simp at this; omega
       . rw [if_neg c] at m; simp at m
     . unfold sT; dsimp only; split <;> simp
     . unfold sT; dsimp only; split <;> simp
   . obtain ⟨a1,a2,a3⟩:=h.term x hx
     obtain ⟨h1,h2,h3,h4⟩:=Bd (ha x hx).2 a1 a2 a3
     unfold tT
     by_cases c1:x.2.1=2
     . rw [if_pos c1]; exact ⟨vh h2,fun a m=>by simp at m,by dsimp only; omega,by simp⟩
     . rw [if_neg c1]
       by_cases c2:x.2.1=4
       . rw [if_pos c2]; exact ⟨vh h2,vh (h3 c2),by dsimp only; omega,by simp⟩
       . rw [if_neg c2]
         by_cases c3:x.2.1=3
         . rw [if_pos c3]
           have:=h4 c3
           refine ⟨fun a m=>?_,fun a m=>by simp at m,by simp,by simp⟩
           simp at m; subst m
           unfold bG at this; dsimp only at this
           omega
         . rw [if_neg c3]; exact ⟨fun a m=>by simp at m,fun a m=>by simp at m,by simp,by simp⟩
   . obtain ⟨a1,a2,a3⟩:=h.term x hx
     exact (Bd (ha x hx).2 a1 a2 a3).1
   . unfold vck at q
     have hl:=(cX (cX (cX q).2).2).1
     unfold dL at hl
     by_cases c:b.2.2.2.1=[]
     . rw [if_pos c] at hl; simp at hl
     . exact List.length_pos_iff.2 c
 . rw [if_neg q]
   exact ⟨fun x hx=>(by cases hx),fun x hx=>(by cases hx),fun x hx=>(by cases hx),fun x hx=>(by cases hx),fun e=>absurd rfl e⟩
theorem Il {N:Nat} {x:Blk} {P:List Tc} (hx:∀ s∈x.1,Tg N (sT s)) (hl:x.1.length≤1000) (hP:P.length≤10000) :
   loop (lB x) (0,P,lcs N P)=some (P++x.1.map (fun s=>cpT (sT s)),lcs N (P++x.1.map (fun s=>cpT (sT s)))):=by
 have h:=aF (body:=lB x) (fun k:Nat=>((k:Int),P++(x.1.take k).map (fun s=>cpT (sT s)),lcs N (P++(x.1.take k).map (fun s=>cpT (sT s))))) x.1.length (b:=(P++x.1.map (fun s=>cpT (sT s)),lcs N (P++x.1.map (fun s=>cpT (sT s))))) ?_ ?_
 . simpa using h
 . intro k hk
   unfold lB
   simp only [dlt hk,cond_true,ah hk,Option.bind_some,EG]
   rw [show iP (sT x.1[k]).1 (sT x.1[k]).2 _ _=_ from AM (hx _ (List.getElem_mem hk)) (by simp; omega),Option.bind_some]
   simp only [aj hk (by omega:x.1.length≤9223372036854775807),aM hk,List.map_append,List.map_cons,List.map_nil,List.append_assoc]
 . unfold lB
   simp
theorem xf {b:Bo} (h:Sm b):gT b=some (some (pts (xs b),if bg (xs b) (xs b).length=0 then [] else lcs b.2.2.2.1.length (pts (xs b)))):=by
 obtain ⟨hb,hX8⟩:=dY h (Nat.le_refl _)
 have hv:=Bb h
 have hNL:=h.locals
 have hxs:bg (xs b) (xs b).length≠0→xs b=b.2.2.2.2.2.2:=by
   unfold xs; split
   . intro _; rfl
   . intro hc; exact absurd (by simp [bg,stm]) hc
 have hbs:=h
 unfold gT
 rw [show dw b=_ from tG h,Option.bind_some,show dp (some (bgs (xs b),((bg (xs b) (xs b).length:Nat):Int)))=some ((bg (xs b) (xs b).length:Nat):Int) from rfl,Option.bind_some]
 by_cases q:bg (xs b) (xs b).length=0
 . rw [if_pos q,q]
   have:pts (xs b)=[]:=by
     have:=qg (xs b); rw [q] at this; exact List.length_eq_zero_iff.1 this
   rw [this]; rfl
 . rw [if_neg q,decide_eq_false (by omega),cond_false,mkN (by omega),Option.bind_some]
   have hX:=hxs q
   have hl0:List.replicate b.2.2.2.1.length (([],[]):Tc)=lcs b.2.2.2.1.length []:=by rw [Ci]; rfl
   rw [hl0]
   have hL:=aF (body:=lC b) (fun k:Nat=>((k:Int),ee (xs b) k,lcs b.2.2.2.1.length (ee (xs b) k))) (xs b).length (b:=(pts (xs b),lcs b.2.2.2.1.length (pts (xs b)))) ?_ ?_
   . rw [show loop (lC b) (0,[],lcs b.2.2.2.1.length [])=_ from hL]; rfl
   . intro k hk
     have hk2:k < b.2.2.2.2.2.2.length:=by rw [← hX]; exact hk
     have hget:aa b.2.2.2.2.2.2 (k:Int)=some (xs b)[k]:=by rw [ah hk2]; simp only [hX]
     have hm:(xs b)[k]∈xs b:=List.getElem_mem hk
     have a0:=pQ (xs b) k (by omega)
     have a1:=dB (xs b) (i:=k + 1) (j:=(xs b).length) hk (Nat.le_refl _)
     rw [cq hk] at a1
     have a2:=hv.ar _ hm
     unfold lC
     simp only [dlt hk2,cond_true,hget,Option.bind_some]
     rw [Il (hv.st _ hm) (by omega) (by omega),Option.bind_some]
     dsimp only
     rw [Fz (xs b)[k].2 (by omega),Option.bind_some,AM (hv.tm _ hm) (by simp; omega),Option.bind_some,aj hk (by omega)]
     simp only [ee,eY,d6 hk,List.append_assoc]
   . unfold lC
     dsimp only
     rw [dge (by rw [← hX]; omega),cond_false]
end
section
section
variable {P:List Tc} {C:List Tc}
theorem B1:n5 (some (P,C))=some ((P.length:Nat):Int):=rfl
end
theorem IC (a:Int):cp [a]=[a]:=by
 refine eJ (BH _) (by simp) (fun x=>?_)
 rw [vg]
end
theorem fE (x:Nat):BitVec.ofInt 64 (x:Int)=BitVec.ofNat 64 x:=by simp
theorem dI (x:Nat) (h:x < 18446744073709551616):IntKind.wrap .u64 (x:Int)=(x:Int):=by
 rw [IntKind.wrap_u64]
 omega
theorem pU {k:Nat} (hk:k < 64):2 ^ k < 18446744073709551616:=Nat.pow_lt_pow_right (by decide) hk
theorem zK {k:Nat} (hk:k < 64):IntKind.wrap .u64 (1 * 2 ^ (min k (IntKind.bits .u64)))=((2 ^ k:Nat):Int):=by
 have h1:min k (IntKind.bits .u64)=k:=Nat.min_eq_left (Nat.le_of_lt hk)
 rw [h1,Int.one_mul]
 have:=dI (2 ^ k) (pU hk)
 rw [← this]
 congr 1
theorem Ce (x y:Nat) (hx:x < 18446744073709551616) (hy:y < 18446744073709551616):IntKind.wrap .u64 ((BitVec.ofInt (IntKind.bits .u64) (x:Int) &&& BitVec.ofInt (IntKind.bits .u64) (y:Int)).toNat:Int)=((x &&& y:Nat):Int):=by
 show IntKind.wrap .u64 ((BitVec.ofInt 64 (x:Int) &&& BitVec.ofInt 64 (y:Int)).toNat:Int)=_
 rw [fE,fE,BitVec.toNat_and,BitVec.toNat_ofNat,BitVec.toNat_ofNat,Nat.mod_eq_of_lt hx,Nat.mod_eq_of_lt hy]
 exact dI _ (Nat.and_lt_two_pow (n:=64) _ hy)
theorem orU (x y:Nat) (hx:x < 18446744073709551616) (hy:y < 18446744073709551616):IntKind.wrap .u64 ((BitVec.ofInt (IntKind.bits .u64) (x:Int) ||| BitVec.ofInt (IntKind.bits .u64) (y:Int)).toNat:Int)=((x ||| y:Nat):Int):=by
 show IntKind.wrap .u64 ((BitVec.ofInt 64 (x:Int) ||| BitVec.ofInt 64 (y:Int)).toNat:Int)=_
 rw [fE,fE,BitVec.toNat_or,BitVec.toNat_ofNat,BitVec.toNat_ofNat,Nat.mod_eq_of_lt hx,Nat.mod_eq_of_lt hy]
 exact dI _ (Nat.or_lt_two_pow (n:=64) hx hy)
theorem HQ (x k:Nat):(x &&& 2 ^ k=0)↔x.testBit k=false:=by
 constructor
 . intro h
   have:=congrArg (fun n=>n.testBit k) h
   simpa [Nat.testBit_and,Nat.testBit_two_pow_self] using this
 . intro h
   apply Nat.eq_of_testBit_eq
   intro i
   rw [Nat.testBit_and,Nat.testBit_two_pow,Nat.zero_testBit]
   by_cases hi:k=i
   . subst hi; simp [h]
   . simp [hi]
theorem IE (x k i:Nat):(x ||| 2 ^ k).testBit i=(x.testBit i||decide (k=i)):=by
 rw [Nat.testBit_or,Nat.testBit_two_pow]
def Wd (w:Int):Prop:=0≤w∧w < 18446744073709551616
def mem (l:List Int) (i:Nat):Bool:=match l[i / 64]? with | some w=>w.toNat.testBit (i % 64) | none=>false
structure Ds (n:Nat) (l:List Int):Prop where
 hn:n≤1048576
 len:l.length=(n + 63) / 64
 wd:∀ w∈l,Wd w
 top:∀ i,n≤i→mem l i=false
theorem s9 {n:Nat} {l:List Int} (i:Int):fq (some ((n:Int),l)) i=some (decide (0≤i∧i < n)):=by
 unfold fq
 rw [show ou (some ((n:Int),l))=some (n:Int) from rfl]
 by_cases h:0≤i
 . simp [h]
 . simp [h]
theorem Ds.word {n:Nat} {l:List Int} (h:Ds n l) {k:Nat} (hk:k < n):∃ x:Nat,l[k / 64]? = some (x:Int)∧x < 18446744073709551616:=by
 have hl:k / 64 < l.length:=by rw [h.len]; omega
 refine ⟨(l[k / 64]).toNat,?_,?_⟩
 . rw [List.getElem?_eq_getElem hl,Int.toNat_of_nonneg (h.wd _ (List.getElem_mem hl)).1]
 . have:=h.wd _ (List.getElem_mem hl)
   unfold Wd at this
   omega
theorem d7 {l:List Int} {k x:Nat} (h:l[k / 64]? = some (x:Int)):mem l k=x.testBit (k % 64):=by
 unfold mem
 rw [h]
 simp
theorem pH {n:Nat} {l:List Int} (h:Ds n l) (i:Int):cE (some ((n:Int),l)) i=some (decide (0≤i∧i < n)&&mem l i.toNat):=by
 unfold cE
 rw [s9]
 by_cases hi:0≤i∧i < n
 . obtain ⟨k,rfl⟩:=Int.eq_ofNat_of_zero_le hi.1
   have hk:k < n:=by omega
   have hn:=h.hn
   obtain ⟨x,hx,hx2⟩:=h.word hk
   have e1:IntKind.wrap .i64 (Int.tdiv (k:Int) 64)=((k / 64:Nat):Int):=by
     rw [show Int.tdiv (k:Int) 64=((k / 64:Nat):Int) from rfl]
     exact w64 (by omega) (by omega)
   have e2:Int.tmod (k:Int) 64=((k % 64:Nat):Int):=rfl
   have g:aa l ((k / 64:Nat):Int)=some (x:Int):=by
     unfold aa
     rw [if_pos (Int.natCast_nonneg _),Int.toNat_natCast]
     exact hx
   have hd:decide (0≤(k:Int)∧(k:Int) < n)=true:=by simpa using hk
   rw [hd,e1,e2]
   simp only [Option.bind_some,cond_true,g,vq (Int.natCast_nonneg _),Int.toNat_natCast,Bool.true_and]
   have E:IntKind.wrap .u64 ((BitVec.ofInt (IntKind.bits .u64) (x:Int) &&& BitVec.ofInt (IntKind.bits .u64) (IntKind.wrap .u64 (1 * 2 ^ (min (k % 64) (IntKind.bits .u64))))).toNat:Int)=((x &&& 2 ^ (k % 64):Nat):Int):=by
     rw [zK (Nat.mod_lt k (by decide))]
     exact Ce x _ hx2 (pU (Nat.mod_lt k (by decide)))
   simp only [E,d7 hx]
   have hb:=HQ x (k % 64)
   cases ht:x.testBit (k % 64) with
   | false=>simp [hb.2 ht]
   | true =>
     have:¬ (x &&& 2 ^ (k % 64)=0):=fun e=>by rw [hb.1 e] at ht; cases ht
     have h2:¬ (((x &&& 2 ^ (k % 64):Nat):Int)=0):=by omega
     rw [decide_eq_false h2]
     rfl
 . rw [decide_eq_false hi]
   rfl
theorem yG {l:List Int} {q x y:Nat} (hq:l[q]? = some (x:Int)) (j:Nat):mem (l.set q (y:Int)) j=if j / 64=q then y.testBit (j % 64) else mem l j:=by
 unfold mem
 rw [List.getElem?_set]
 have hlt:q < l.length:=(List.getElem?_eq_some_iff.1 hq).1
 by_cases hj:j / 64=q
 . rw [if_pos hj.symm,if_pos hj,← hj] 
   simp [hj,hlt]
 . rw [if_neg (fun e=>hj e.symm),if_neg hj]
theorem pG {n:Nat} {l:List Int} (h:Ds n l) (i:Int):∃ l',dn i n l=some (decide (0≤i∧i < n)&&!mem l i.toNat,l')∧Ds n l'∧∀ j,mem l' j=(mem l j||decide ((0≤i∧i < n)∧i.toNat=j)):=by
 unfold dn
 rw [s9,pH h]
 by_cases hi:0≤i∧i < n
 . rw [decide_eq_true hi]
   cases hm:mem l i.toNat with
   | true=>exact ⟨l,rfl,h,fun j=>by
       by_cases hj:i.toNat=j
       . subst hj; simp [hm]
       . simp [hj]⟩
   | false =>
     obtain ⟨k,rfl⟩:=Int.eq_ofNat_of_zero_le hi.1
     have hk:k < n:=by omega
     have hn:=h.hn
     obtain ⟨x,hx,hx2⟩:=h.word hk
     have e1:IntKind.wrap .i64 (Int.tdiv (k:Int) 64)=((k / 64:Nat):Int):=by
       rw [show Int.tdiv (k:Int) 64=((k / 64:Nat):Int) from rfl]
       exact w64 (by omega) (by omega)
     have e2:Int.tmod (k:Int) 64=((k % 64:Nat):Int):=rfl
     have g:aa l ((k / 64:Nat):Int)=some (x:Int):=by
       unfold aa
       rw [if_pos (Int.natCast_nonneg _),Int.toNat_natCast]
       exact hx
     have E:IntKind.wrap .u64 ((BitVec.ofInt (IntKind.bits .u64) (x:Int) ||| BitVec.ofInt (IntKind.bits .u64) (IntKind.wrap .u64 (1 * 2 ^ (min (k % 64) (IntKind.bits .u64))))).toNat:Int)=((x ||| 2 ^ (k % 64):Nat):Int):=by
       rw [zK (Nat.mod_lt k (by decide))]
       exact orU x _ hx2 (pU (Nat.mod_lt k (by decide)))
     have hlt:k / 64 < l.length:=(List.getElem?_eq_some_iff.1 hx).1
     have hmem:∀ j,mem (l.set (k / 64) ((x ||| 2 ^ (k % 64):Nat):Int)) j=(mem l j||decide (((0:Int)≤(k:Int)∧(k:Int) < n)∧k=j)):=fun j=>by
       rw [yG hx]
       by_cases hj:j / 64=k / 64
       . rw [if_pos hj,IE,d7 (by rw [hj]; exact hx)]
         have:(k % 64=j % 64)↔k=j:=by omega
         simp [this,hk]
       . rw [if_neg hj]
         have:¬ k=j:=fun e=>hj (by rw [e])
         simp [this]
     refine ⟨l.set (k / 64) ((x ||| 2 ^ (k % 64):Nat):Int),?_,⟨hn,by rw [List.length_set]; exact h.len,fun w hw=>?_,fun j hj=>?_⟩,hmem⟩
     . rw [e1,e2]
       simp only [Option.bind_some,cond_true,cond_false,g,vq (Int.natCast_nonneg _),Int.toNat_natCast,Bool.true_and,Bool.not_true,Bool.not_false,E]
     . rcases List.mem_or_eq_of_mem_set hw with hw | rfl
       . exact h.wd w hw
       . have:=Nat.or_lt_two_pow (n:=64) hx2 (pU (Nat.mod_lt k (by decide)))
         unfold Wd
         omega
     . rw [hmem,h.top j hj]
       have:¬ k=j:=by omega
       simp [this]
 . rw [decide_eq_false hi]
   exact ⟨l,rfl,h,fun j=>by simp [hi]⟩
theorem pJ (x r j:Nat):(x / 2 ^ r * 2 ^ r).testBit j=(decide (r≤j)&&x.testBit j):=by
 rw [Nat.testBit_mul_two_pow]
 by_cases h:r≤j
 . rw [Nat.testBit_div_two_pow,Nat.sub_add_cancel h]
 . simp [h]
theorem Fg (x r:Nat) (hx:x < 18446744073709551616) (hr:r < 64):IntKind.wrap .u64 ((Int.fdiv (x:Int) (2 ^ (min r (IntKind.bits .u64)))) * 2 ^ (min r (IntKind.bits .u64)))=((x / 2 ^ r * 2 ^ r:Nat):Int):=by
 have h1:min r (IntKind.bits .u64)=r:=Nat.min_eq_left (Nat.le_of_lt hr)
 have hp:((2:Int) ^ r)=((2 ^ r:Nat):Int):=by simp
 have h2:Int.fdiv (x:Int) ((2 ^ r:Nat):Int)=((x / 2 ^ r:Nat):Int):=by
   rw [Int.fdiv_eq_ediv_of_nonneg _ (Int.natCast_nonneg _)]
   rfl
 rw [h1,hp,h2,← Int.natCast_mul]
 exact dI _ (Nat.lt_of_le_of_lt (Nat.div_mul_le_self x (2 ^ r)) hx)
theorem G4 {x:Nat} (h0:x≠0) (h:x < 18446744073709551616):Lib.ctz 64 x < 64∧x.testBit (Lib.ctz 64 x)=true∧∀ j,j < Lib.ctz 64 x→x.testBit j=false:=by
 have h':x < 2 ^ 64:=h
 obtain ⟨m,hm,hk⟩:=Lib.ctzFrom_spec 64 x (by omega) h'
 have e:Lib.ctz 64 x=Lib.ctzFrom 64 x:=by simp [Lib.ctz,h0]
 rw [e]
 clear e
 revert hm hk
 generalize Lib.ctzFrom 64 x=c
 intro hm hk
 refine ⟨hk,?_,fun j hj=>?_⟩
 . rw [hm,Nat.mul_comm,Nat.testBit_mul_two_pow]
   simp
 . rw [hm,Nat.mul_comm,Nat.testBit_mul_two_pow]
   simp [Nat.not_le.2 hj]
theorem ET {n:Int} {l:List Int} (hw:∀ w∈l,Wd w) (hlen:l.length≤20000):∀ (d a w:Nat),a + 1 + d=l.length→w < 18446744073709551616 →
   ∃ r,loop (iR (n,l)) ((a:Int),(w:Int))=some r∧((r = .inr (-1)∧w=0∧∀ q,a < q→q < l.length→l[q]? = some 0) ∨
     ∃ b v:Nat,r = .inl ((b:Int),(v:Int))∧v≠0∧v < 18446744073709551616∧a≤b∧b < l.length∧((b=a∧v=w)∨(a < b∧w=0∧l[b]? = some (v:Int)))∧∀ q,a < q→q < b→l[q]? = some 0):=by
 intro d
 induction d with
 | zero =>
   intro a w ha hx
   by_cases h0:w=0
   . subst h0
     refine ⟨.inr (-1),fN ?_,.inl ⟨rfl,rfl,fun q h1 h2=>by omega⟩⟩
     have e:IntKind.wrap .i64 ((a:Int) + 1)=((l.length:Nat):Int):=by rw [w64 (by omega) (by omega)]; omega
     unfold iR
     simp [e]
   . refine ⟨.inl ((a:Int),(w:Int)),fN ?_,.inr ⟨a,w,rfl,h0,hx,Nat.le_refl a,by omega,.inl ⟨rfl,rfl⟩,fun q h1 h2=>by omega⟩⟩
     have h1:¬ ((w:Int)=0):=by omega
     unfold iR
     simp [h1,h0]
 | succ d ih =>
   intro a w ha hx
   by_cases h0:w=0
   . subst h0
     have hlt:a + 1 < l.length:=by omega
     have hwd:=hw _ (List.getElem_mem hlt)
     obtain ⟨x,hxe⟩:∃ x:Nat,l[a + 1]=(x:Int):=⟨l[a + 1].toNat,(Int.toNat_of_nonneg hwd.1).symm⟩
     have hx2:x < 18446744073709551616:=by have:=hwd.2; rw [hxe] at this; omega
     have hq:l[a + 1]? = some (x:Int):=by rw [List.getElem?_eq_getElem hlt,hxe]
     obtain ⟨r,h1,h2⟩:=ih (a + 1) x (by omega) hx2
     have e:IntKind.wrap .i64 ((a:Int) + 1)=((a + 1:Nat):Int):=by rw [w64 (by omega) (by omega)]; rfl
     have hne:¬ (((a + 1:Nat):Int)=((l.length:Nat):Int)):=by omega
     have hg:aa l ((a + 1:Nat):Int)=some (x:Int):=by
       unfold aa
       rw [if_pos (Int.natCast_nonneg _),Int.toNat_natCast]
       exact hq
     refine ⟨r,(pE (s':=(((a + 1:Nat):Int),(x:Int))) ?_).trans h1,?_⟩
     . unfold iR
       simp only [e,hg,Option.bind_some,decide_eq_false hne,cond_false]
       rfl
     . rcases h2 with ⟨h3,h4,h5⟩ | ⟨b,v,h3,h4,h5,h6,h7,h8,h9⟩
       . refine .inl ⟨h3,rfl,fun q g1 g2=>?_⟩
         by_cases hqa:q=a + 1
         . subst hqa; rw [hq,h4]; rfl
         . exact h5 q (by omega) g2
       . refine .inr ⟨b,v,h3,h4,h5,by omega,h7,.inr ?_,fun q g1 g2=>?_⟩
         . rcases h8 with ⟨rfl,rfl⟩ | ⟨g1,g2,g3⟩
           . exact ⟨by omega,rfl,hq⟩
           . exact ⟨by omega,rfl,g3⟩
         . by_cases hqa:q=a + 1
           . subst hqa
             rcases h8 with ⟨rfl,rfl⟩ | ⟨k1,k2,k3⟩
             . omega
             . rw [hq,k2]; rfl
           . exact h9 q (by omega) g2
   . refine ⟨.inl ((a:Int),(w:Int)),fN ?_,.inr ⟨a,w,rfl,h0,hx,Nat.le_refl a,by omega,.inl ⟨rfl,rfl⟩,fun q h1 h2=>by omega⟩⟩
     have h1:¬ ((w:Int)=0):=by omega
     unfold iR
     simp [h1,h0]
theorem um {l:List Int} {j:Nat} (h:∀ w,l[j / 64]? = some w→w=0):mem l j=false:=by
 unfold mem
 cases hl:l[j / 64]? with
 | none=>rfl
 | some w=>rw [h w hl]; simp
theorem xZ {n:Nat} {l:List Int} (h:Ds n l) (i:Int):∃ r,cD (some ((n:Int),l)) i=some r∧((r = -1∧∀ j:Nat,i≤(j:Int)→mem l j=false) ∨
   ∃ k:Nat,r=(k:Int)∧i≤(k:Int)∧mem l k=true∧∀ j:Nat,i≤(j:Int)→j < k→mem l j=false):=by
 obtain ⟨c,hc⟩:∃ c:Nat,(if i < 0 then 0 else i)=(c:Int):=⟨(if i < 0 then 0 else i).toNat,by split <;> omega⟩
 have hci:∀ j:Nat,i≤(j:Int)↔c≤j:=fun j=>by split at hc <;> omega
 have hn:=h.hn
 have hl:=h.len
 unfold cD
 simp only [hc,s9,Option.bind_some]
 by_cases hk:c < n
 . have hd : decide (0 ≤ (c : Int) ∧ (c : Int) < n) = true := by simpa using hk
   obtain ⟨x,hx,hx2⟩:=h.word hk
   have e1:IntKind.wrap .i64 (Int.tdiv (c:Int) 64)=((c / 64:Nat):Int):=by
     rw [show Int.tdiv (c:Int) 64=((c / 64:Nat):Int) from rfl]
     exact w64 (by omega) (by omega)
   have e2:Int.tmod (c:Int) 64=((c % 64:Nat):Int):=rfl
   have g:aa l ((c / 64:Nat):Int)=some (x:Int):=by
     unfold aa
     rw [if_pos (Int.natCast_nonneg _),Int.toNat_natCast]
     exact hx
   have hr:c % 64 < 64:=Nat.mod_lt c (by decide)
   have hw2:x / 2 ^ (c % 64) * 2 ^ (c % 64) < 18446744073709551616:=Nat.lt_of_le_of_lt (Nat.div_mul_le_self x _) hx2
   obtain ⟨r,hlp,hcase⟩:=ET (n:=(n:Int)) h.wd (by omega) (l.length - 1 - c / 64) (c / 64) _ (by omega) hw2
   simp only [hd,Bool.not_true,cond_false,e1,e2,g,Option.bind_some,vq (Int.natCast_nonneg _),Int.toNat_natCast,Fg x _ hx2 hr,hlp]
   rcases hcase with ⟨rfl,h4,h5⟩ | ⟨b,v,rfl,h4,h5,h6,h7,h8,h9⟩
   . refine ⟨-1,rfl,.inl ⟨rfl,fun j hj=>?_⟩⟩
     have hj:=(hci j).1 hj
     by_cases hja:j / 64=c / 64
     . rw [d7 (by rw [hja]; exact hx)]
       have:=pJ x (c % 64) (j % 64)
       rw [h4,Nat.zero_testBit] at this
       have hle:c % 64≤j % 64:=by omega
       simpa [hle] using this.symm
     . refine um (fun w hw=>?_)
       have hlt:=(List.getElem?_eq_some_iff.1 hw).1
       rw [h5 (j / 64) (by omega) hlt] at hw
       exact (Option.some.inj hw).symm
   . obtain ⟨t1,t2,t3⟩:=G4 h4 h5
     have ht:tzF (v:Int)=some ((Lib.ctz 64 v:Nat):Int):=by
       unfold tzF
       rw [if_pos ⟨Int.natCast_nonneg _,by omega⟩,Int.toNat_natCast]
     have e3:IntKind.wrap .i64 (IntKind.wrap .i64 ((b:Int) * 64) + ((Lib.ctz 64 v:Nat):Int))=((b * 64 + Lib.ctz 64 v:Nat):Int):=by
       rw [w64 (x:=(b:Int) * 64) (by omega) (by omega),w64 (by omega) (by omega)]
       omega
     refine ⟨((b * 64 + Lib.ctz 64 v:Nat):Int),by simp only [ht,Option.bind_some,e3],.inr ⟨_,rfl,?_⟩⟩
     generalize Lib.ctz 64 v=z at t1 t2 t3
     have d1:(b * 64 + z) / 64=b:=by omega
     have d2:(b * 64 + z) % 64=z:=by omega
     rcases h8 with ⟨rfl,rfl⟩ | ⟨g1,g2,g3⟩
     . rw [pJ,Bool.and_eq_true] at t2
       have hz:c % 64≤z:=by simpa using t2.1
       refine ⟨(hci _).2 (by omega),?_,fun j hj hjk=>?_⟩
       . rw [d7 (x:=x) (by rw [d1]; exact hx),d2]
         exact t2.2
       . have hj:=(hci j).1 hj
         have:=t3 (j % 64) (by omega)
         rw [pJ] at this
         rw [d7 (by rw [show j / 64=c / 64 by omega]; exact hx)]
         have hle:c % 64≤j % 64:=by omega
         simpa [hle] using this
     . refine ⟨(hci _).2 (by omega),?_,fun j hj hjk=>?_⟩
       . rw [d7 (x:=v) (by rw [d1]; exact g3),d2]
         exact t2
       . have hj:=(hci j).1 hj
         by_cases hja:j / 64=c / 64
         . rw [d7 (by rw [hja]; exact hx)]
           have:=pJ x (c % 64) (j % 64)
           rw [g2,Nat.zero_testBit] at this
           have hle:c % 64≤j % 64:=by omega
           simpa [hle] using this.symm
         . by_cases hjb:j / 64=b
           . rw [d7 (by rw [hjb]; exact g3)]
             exact t3 _ (by omega)
           . exact um (fun w hw=>by
               rw [h9 (j / 64) (by omega) (by omega)] at hw
               exact (Option.some.inj hw).symm)
 . have hd:decide (0≤(c:Int)∧(c:Int) < n)=false:=by simpa using hk
   simp only [hd,Bool.not_false,cond_true]
   exact ⟨-1,rfl,.inl ⟨rfl,fun j hj=>h.top j (by have:=(hci j).1 hj; omega)⟩⟩
theorem uU (m j:Nat):mem (List.replicate m 0) j=false:=um (fun w hw=>by
 rw [List.getElem?_replicate] at hw
 split at hw
 . exact (Option.some.inj hw).symm
 . cases hw)
theorem AZ {n:Nat} (h:n≤1048576):Ds n (List.replicate ((n + 63) / 64) 0) :=
 ⟨h,List.length_replicate,fun w hw=>by
   obtain ⟨_,rfl⟩:=List.mem_replicate.1 hw
   exact ⟨Int.le_refl _,by decide⟩,fun j _=>uU _ j⟩
theorem yQ (n:Int):fA n=if n < 0 then some (.inl 2) else if 1048576 < n then some (.inl 5) else some (.inr (0,n,List.replicate ((n.toNat + 63) / 64) 0)):=by
 unfold fA
 by_cases h1:n < 0
 . simp [h1]
 . by_cases h2:1048576 < n
   . simp [h1,h2]
   . obtain ⟨k,rfl⟩:=Int.eq_ofNat_of_zero_le (by omega:0≤n)
     have e:IntKind.wrap .i64 (Int.tdiv (IntKind.wrap .i64 (IntKind.wrap .i64 ((k:Int) + 64) - 1)) 64)=(((k + 63) / 64:Nat):Int):=by
       rw [w64 (x:=(k:Int) + 64) (by omega) (by omega),w64 (x:=(k:Int) + 64 - 1) (by omega) (by omega),show (k:Int) + 64 - 1=((k + 63:Nat):Int) by omega]
       rw [show Int.tdiv ((k + 63:Nat):Int) 64=(((k + 63) / 64:Nat):Int) from rfl]
       exact w64 (by omega) (by omega)
     rw [e]
     have hm:(mk ((((k + 63) / 64:Nat):Int)) ((((k + 63) / 64:Nat):Int)) (0:Int))=some (List.replicate ((k + 63) / 64) 0):=by
       unfold mk
       rw [if_pos (by constructor <;> omega),Int.toNat_natCast]
     rw [hm]
     simp [h1,h2]
def bP (n:Nat) (l:List Int):List Nat:=(List.range n).filter (mem l)
def liN (L:List Nat):List Int:=L.map Int.ofNat
theorem px {p:Nat→Bool} {c:Nat}:∀ (d:Nat),(∀ j,c≤j→j < c + d→p j=false)→(List.range (c + d)).filter p=(List.range c).filter p
 | 0,_=>rfl
 | d + 1,h=>by
   rw [← Nat.add_assoc,List.range_succ,List.filter_append,px d (fun j h1 h2=>h j h1 (by omega))]
   simp [h (c + d) (by omega) (by omega)]
theorem mw (p:Nat→Bool) (c:Nat):((List.range c).filter p).length≤c:=by
 have:=List.length_filter_le p (List.range c)
 simpa using this
theorem A7 {n:Nat} {l:List Int} (h:Ds n l) {body:Int×List Int→Option ((Int×List Int)⊕List Int)}
   (hb:∀ (c:List Int) (k:Nat),mem l k=true→body ((k:Int),c)=(app c [(k:Int)]).bind fun z=>(cD (some ((n:Int),l)) ((k:Int) + 1)).bind fun i=>some (.inl (i,z))) (he:∀ c,body (-1,c)=some (.inr c)) :
   ∃ r,cD (some ((n:Int),l)) 0=some r∧loop body (r,[])=some (liN (bP n l)):=by
 have hn:=h.hn
 have lt_of:∀ k,mem l k=true→k < n:=fun k hk=>by
   rcases Nat.lt_or_ge k n with h1 | h1
   . exact h1
   . rw [h.top k h1] at hk; cases hk
 have key:∀ (r:Int) (acc:List Int),(∃ c:Nat,c≤n∧acc=liN ((List.range c).filter (mem l))∧((r = -1∧∀ j:Nat,(c:Int)≤(j:Int)→mem l j=false)∨∃ k:Nat,r=(k:Int)∧(c:Int)≤(k:Int)∧mem l k=true∧∀ j:Nat,(c:Int)≤(j:Int)→j < k→mem l j=false)) →
     loop body (r,acc)=some (liN (bP n l)):=by
   intro r acc hI
   refine zi (fun s=>∃ c:Nat,c≤n∧s.2=liN ((List.range c).filter (mem l))∧((s.1 = -1∧∀ j:Nat,(c:Int)≤(j:Int)→mem l j=false)∨∃ k:Nat,s.1=(k:Int)∧(c:Int)≤(k:Int)∧mem l k=true∧∀ j:Nat,(c:Int)≤(j:Int)→j < k→mem l j=false)) (fun s=>if s.1 < 0 then 0 else n + 1 - s.1.toNat) ?_ (s:=(r,acc)) hI
   rintro ⟨r,acc⟩ ⟨c,hcn,rfl,hr⟩
   rcases hr with ⟨rfl,h2⟩ | ⟨k,rfl,h2,h3,h4⟩
   . right
     have e:bP n l=(List.range c).filter (mem l):=by
       unfold bP
       have:=px (p:=mem l) (c:=c) (n - c) (fun j h1 _=>h2 j (by omega))
       rw [show c + (n - c)=n by omega] at this
       exact this
     rw [e]
     exact he _
   . left
     have hk:=lt_of k h3
     obtain ⟨r',g1,g2⟩:=xZ h (((k + 1:Nat):Int))
     have e1:(k:Int) + 1=((k + 1:Nat):Int):=rfl
     have e2:(List.range (k + 1)).filter (mem l)=(List.range c).filter (mem l)++[k]:=by
       have:=px (p:=mem l) (c:=c) (k - c) (fun j h5 h6=>h4 j (by omega) (by omega))
       rw [show c + (k - c)=k by omega] at this
       rw [List.range_succ,List.filter_append,this]
       simp [h3]
     have e3:app (liN ((List.range c).filter (mem l))) [(k:Int)]=some (liN ((List.range (k + 1)).filter (mem l))):=by
       have:=mw (mem l) c
       unfold app
       rw [if_pos (by simp [liN]; omega),e2]
       simp [liN]
     refine ⟨(r',liN ((List.range (k + 1)).filter (mem l))),?_,⟨k + 1,by omega,rfl,g2⟩,?_⟩
     . rw [hb _ k h3]
       simp only [e3,e1,g1,Option.bind_some]
     . show (if r' < 0 then 0 else n + 1 - r'.toNat) < (if (k:Int) < 0 then 0 else n + 1 - (k:Int).toNat)
       rw [if_neg (by omega:¬ (k:Int) < 0),Int.toNat_natCast]
       rcases g2 with ⟨rfl,_⟩ | ⟨k',rfl,k1,k2,_⟩
       . simp; omega
       . rw [if_neg (by omega:¬ (k':Int) < 0),Int.toNat_natCast]
         have:=lt_of k' k2
         omega
 obtain ⟨r,g1,g2⟩:=xZ h 0
 exact ⟨r,g1,key r [] ⟨0,Nat.zero_le n,rfl,g2⟩⟩
theorem Ha {n:Nat} {l:List Int} (h:Ds n l) (k:Nat):cE (some ((n:Int),l)) (k:Int)=some (mem l k):=by
 rw [pH h,Int.toNat_natCast]
 cases hm:mem l k with
 | false=>simp
 | true =>
   have:k < n:=by
     rcases Nat.lt_or_ge k n with h1 | h1
     . exact h1
     . rw [h.top k h1] at hm; cases hm
   simp [this]
def pc:Nat→Nat→Nat
 | 0,_=>0
 | n + 1,x=>(x % 2) + pc n (x / 2)
theorem mr (a b y M:Nat) (ha:a < 256) (hb:b < 256):(a + 256 * y) &&& (b + 256 * M)=(a &&& b) + 256 * (y &&& M):=by
 have h1:a &&& b < 256:=Nat.and_lt_two_pow (n:=8) a hb
 apply Nat.eq_of_testBit_eq
 intro i
 have e:∀ (u v:Nat),u < 256→(u + 256 * v).testBit i=if i < 8 then u.testBit i else v.testBit (i - 8):=fun u v hu=>by
   rw [Nat.add_comm,show 256 * v=2 ^ 8 * v from rfl,Nat.testBit_two_pow_mul_add v (show u < 2 ^ 8 from hu)]
 rw [Nat.testBit_and,e a y ha,e b M hb,e _ _ h1]
 split <;> simp [Nat.testBit_and]
theorem pV (P:Nat→Bool) (h:(List.range 256).all P=true) {a:Nat} (ha:a < 256):P a=true:=List.all_eq_true.1 h a (List.mem_range.2 ha)
def s1 (M x:Nat):Nat:=((x / 2) &&& M) + (x &&& M)
def s2 (M x:Nat):Nat:=((x / 4) &&& M) + (x &&& M)
def s3 (M x:Nat):Nat:=(x / 16 + x) &&& M
theorem GC (a y M:Nat) (ha:a < 256):s1 (85 + 256 * M) (a + 256 * y)=s1 85 a + 256 * s1 M y:=by
 unfold s1
 have h2:(a + 256 * y) / 2=(a / 2 + 128 * (y % 2)) + 256 * (y / 2):=by omega
 have h3:(a / 2 + 128 * (y % 2)) &&& 85=(a / 2) &&& 85:=by
   have h4:y % 2=0∨y % 2=1:=by omega
   rcases h4 with h4 | h4
   . rw [h4]; rfl
   . rw [h4]
     have:=pV (fun a=>decide (((a / 2 + 128 * 1) &&& 85)=((a / 2) &&& 85))) (by decide +kernel) ha
     exact of_decide_eq_true this
 rw [mr a 85 y M ha (by decide),h2,mr _ 85 _ M (by omega) (by decide),h3]
 omega
theorem IR {a:Nat} (ha:a < 256):s1 85 a < 256:=by
 have:=pV (fun a=>decide (s1 85 a < 256)) (by decide +kernel) ha
 exact of_decide_eq_true this
theorem Gb (a y M:Nat) (ha:a < 256):s2 (51 + 256 * M) (a + 256 * y)=s2 51 a + 256 * s2 M y:=by
 unfold s2
 have h2:(a + 256 * y) / 4=(a / 4 + 64 * (y % 4)) + 256 * (y / 4):=by omega
 have h3:(a / 4 + 64 * (y % 4)) &&& 51=(a / 4) &&& 51:=by
   have h4:y % 4=0∨y % 4=1∨y % 4=2∨y % 4=3:=by omega
   have:=pV (fun a=>decide (((a / 4 + 64 * 1) &&& 51)=((a / 4) &&& 51)∧((a / 4 + 64 * 2) &&& 51)=((a / 4) &&& 51)∧((a / 4 + 64 * 3) &&& 51)=((a / 4) &&& 51))) (by decide +kernel) ha
   have:=of_decide_eq_true this
   rcases h4 with h4 | h4 | h4 | h4 <;> rw [h4]
   . rfl
   . exact this.1
   . exact this.2.1
   . exact this.2.2
 rw [mr a 51 y M ha (by decide),h2,mr _ 51 _ M (by omega) (by decide),h3]
 omega
theorem Aj {a:Nat} (ha:a < 256):((s2 51 (s1 85 a)) / 16 + (s2 51 (s1 85 a)) % 16)=pc 8 a∧(s2 51 (s1 85 a)) % 16≤4∧(s2 51 (s1 85 a)) / 16≤4∧s2 51 (s1 85 a) < 256∧pc 8 a≤8:=by
 have:=pV (fun a=>decide (((s2 51 (s1 85 a)) / 16 + (s2 51 (s1 85 a)) % 16)=pc 8 a∧(s2 51 (s1 85 a)) % 16≤4∧(s2 51 (s1 85 a)) / 16≤4∧s2 51 (s1 85 a) < 256∧pc 8 a≤8)) (by decide +kernel) ha
 exact of_decide_eq_true this
theorem GX (a y M:Nat) (ha:a < 256) (h1:a % 16≤4) (h2:a / 16≤4) (h3:y % 16≤4):s3 (15 + 256 * M) (a + 256 * y)=(a / 16 + a % 16) + 256 * s3 M y:=by
 unfold s3
 have e:(a + 256 * y) / 16 + (a + 256 * y)=(a / 16 + a % 16 + 16 * (a / 16 + y % 16)) + 256 * (y / 16 + y):=by omega
 rw [e,mr _ 15 _ M (by omega) (by decide)]
 have:(a / 16 + a % 16 + 16 * (a / 16 + y % 16)) &&& 15=a / 16 + a % 16:=by
   rw [show (15:Nat)=2 ^ 4 - 1 from rfl,Nat.and_two_pow_sub_one_eq_mod]
   omega
 rw [this]
theorem A6:∀ (n m x:Nat),pc (n + m) x=pc n x + pc m (x / 2 ^ n)
 | 0,m,x=>by simp [pc]
 | n + 1,m,x=>by
   rw [show n + 1 + m=(n + m) + 1 by omega,show pc ((n + m) + 1) x=x % 2 + pc (n + m) (x / 2) from rfl,show pc (n + 1) x=x % 2 + pc n (x / 2) from rfl]
   rw [A6 n m,Nat.div_div_eq_div_mul,Nat.pow_succ,Nat.mul_comm 2]
   omega
theorem IV (a y:Nat) (ha:a < 256):pc 8 (a + 256 * y)=pc 8 a:=by
 unfold pc pc pc pc pc pc pc pc pc
 omega
def eU:Nat→Nat→Nat
 | _,0=>0
 | b,n + 1=>b + 256 * eU b n
def pcs:Nat→Nat→Nat
 | 0,_=>0
 | n + 1,x=>pc 8 (x % 256) + 256 * pcs n (x / 256)
theorem Jt (n:Nat):∀ x,x < 256 ^ n→s3 (eU 15 n) (s2 (eU 51 n) (s1 (eU 85 n) x))=pcs n x∧(s2 (eU 51 n) (s1 (eU 85 n) x)) % 16≤4:=by
 induction n with
 | zero => intro x hx; have : x = 0 := by simp at hx; omega
           subst this; decide
 | succ n ih =>
   intro x hx
   have hx2:x / 256 < 256 ^ n:=by
     rw [Nat.pow_succ] at hx
     exact Nat.div_lt_of_lt_mul (by rw [Nat.mul_comm]; exact hx)
   obtain ⟨i1,i2⟩:=ih _ hx2
   have ha:x % 256 < 256:=Nat.mod_lt _ (by decide)
   obtain ⟨b1,b2,b3,b4,b5⟩:=Aj ha
   have e:x=x % 256 + 256 * (x / 256):=by omega
   unfold eU
   have e1:s1 (85 + 256 * eU 85 n) x=s1 85 (x % 256) + 256 * s1 (eU 85 n) (x / 256):=by
     conv=>lhs; rw [e]
     exact GC _ _ _ ha
   rw [e1,Gb _ _ _ (IR ha),GX _ _ _ b4 b2 b3 i2,i1,b1]
   refine ⟨rfl,?_⟩
   omega
theorem HN (x:Nat) (hx:x < 18446744073709551616):s3 1085102592571150095 (s2 3689348814741910323 (s1 6148914691236517205 x))=pcs 8 x :=
 (Jt 8 x hx).1
theorem MO (x:Nat):∃ p0 p1 p2 p3 p4 p5 p6 p7:Nat,pcs 8 x=p0 + 256 * (p1 + 256 * (p2 + 256 * (p3 + 256 * (p4 + 256 * (p5 + 256 * (p6 + 256 * (p7 + 256 * 0)))))))∧pc 64 x=p0 + p1 + p2 + p3 + p4 + p5 + p6 + p7∧p0≤8∧p1≤8∧p2≤8∧p3≤8∧p4≤8∧p5≤8∧p6≤8∧p7≤8:=by
 have h:∀ y,pc 8 (y % 256)≤8:=fun y=>(Aj (Nat.mod_lt y (by decide))).2.2.2.2
 have g:∀ m y,pc (8 + m) y=pc 8 (y % 256) + pc m (y / 256):=fun m y=>by
   rw [A6 8 m]
   congr 1
   conv=>lhs; rw [show y=y % 256 + 256 * (y / 256) by omega]
   exact IV _ _ (Nat.mod_lt _ (by decide))
 refine ⟨_,_,_,_,_,_,_,_,rfl,?_,h _,h _,h _,h _,h _,h _,h _,h _⟩
 rw [show (64:Nat)=8 + (8 + (8 + (8 + (8 + (8 + (8 + (8 + 0))))))) from rfl,g,g,g,g,g,g,g,g]
 simp only [pc]
 omega
theorem dv {k L R x:Nat} (hk:0 < k) (h:x=L + k * R) (hL:L < k):x / k=R:=by
 rw [h,Nat.add_mul_div_left _ _ hk,Nat.div_eq_of_lt hL,Nat.zero_add]
theorem OD {y z u v s:Nat} {p0 p1 p2 p3 p4 p5 p6 p7:Nat} (hy:y=p0 + 256 * (p1 + 256 * (p2 + 256 * (p3 + 256 * (p4 + 256 * (p5 + 256 * (p6 + 256 * (p7 + 256 * 0)))))))) (hs:s=p0 + p1 + p2 + p3 + p4 + p5 + p6 + p7) (h0:p0≤8) (h1:p1≤8) (h2:p2≤8) (h3:p3≤8) (h4:p4≤8) (h5:p5≤8) (h6:p6≤8) (h7:p7≤8)
   (hz:z=y + y / 256) (hu:u=z + z / 65536) (hv:v=u + u / 4294967296):v % 128=s∧v < 9223372036854775808:=by
 have e1:y / 256=p1 + 256 * (p2 + 256 * (p3 + 256 * (p4 + 256 * (p5 + 256 * (p6 + 256 * p7))))):=dv (L:=p0) (by decide) (by rw [hy]; rfl) (by omega)
 rw [e1,hy] at hz
 have e2:z / 65536=(p2 + p3) + 256 * ((p3 + p4) + 256 * ((p4 + p5) + 256 * ((p5 + p6) + 256 * ((p6 + p7) + 256 * p7)))):=dv (L:=(p0 + p1) + 256 * (p1 + p2)) (by decide) (by rw [hz]; clear hz hu hv hy e1; omega) (by clear hz hu hv hy e1; omega)
 rw [e2,hz] at hu
 clear e1 e2 hz hy
 have e3:u / 4294967296=(p4 + p5 + p6 + p7) + 256 * ((p5 + p6 + p7) + 256 * ((p6 + p7) + 256 * p7)):=dv (L:=(p0 + p1 + p2 + p3) + 256 * ((p1 + p2 + p3 + p4) + 256 * ((p2 + p3 + p4 + p5) + 256 * (p3 + p4 + p5 + p6)))) (by decide) (by rw [hu]; clear hu hv; omega) (by clear hu hv; omega)
 rw [e3,hu] at hv
 clear e3 hu
 refine ⟨?_,by omega⟩
 have:v=s + 128 * (2 * ((p1+p2+p3+p4 + (p5+p6+p7)) + 256 * ((p2+p3+p4+p5 + (p6+p7)) + 256 * ((p3+p4+p5+p6 + p7) + 256 * ((p4+p5+p6+p7) + 256 * ((p5+p6+p7) + 256 * ((p6+p7) + 256 * p7))))))):=by rw [hv,hs]; clear hv hs; omega
 rw [this,Nat.add_mul_mod_self_left]
 exact Nat.mod_eq_of_lt (by omega)

def ocA (x m:Int):Int:=IntKind.wrap .u64 ((BitVec.ofInt (IntKind.bits .u64) x &&& BitVec.ofInt (IntKind.bits .u64) m).toNat:Int)
def ocS (x:Int) (k:Nat):Int:=Int.fdiv x (2 ^ (min k (IntKind.bits .u64)))
def oc1 (x:Int):Int:=IntKind.wrap .u64 (ocA (ocS x 1) 6148914691236517205 + ocA x 6148914691236517205)
def oc2 (x:Int):Int:=IntKind.wrap .u64 (ocA (ocS x 2) 3689348814741910323 + ocA x 3689348814741910323)
def oc3 (x:Int):Int:=ocA (IntKind.wrap .u64 (ocS x 4 + x)) 1085102592571150095
def oc4 (x:Int):Int:=IntKind.wrap .u64 (x + ocS x 8)
def oc5 (x:Int):Int:=IntKind.wrap .u64 (x + ocS x 16)
def oc6 (x:Int):Int:=IntKind.wrap .u64 (x + ocS x 32)
theorem EV (x:Int):nP x=some (IntKind.wrap .i64 ((BitVec.ofInt (IntKind.bits .i64) (IntKind.wrap .i64 (oc6 (oc5 (oc4 (oc3 (oc2 (oc1 x))))))) &&& BitVec.ofInt (IntKind.bits .i64) 127).toNat:Int)):=rfl
theorem mV (x m:Nat) (M:Int) (hM:M=(m:Int)) (hx:x < 18446744073709551616) (hm:m < 18446744073709551616):ocA (x:Int) M=((x &&& m:Nat):Int):=by
 rw [hM]
 exact Ce x m hx hm
theorem jT (x k:Nat) (hk:k < 64):ocS (x:Int) k=((x / 2 ^ k:Nat):Int):=by
 unfold ocS
 have h1:min k (IntKind.bits .u64)=k:=Nat.min_eq_left (Nat.le_of_lt hk)
 have hp:((2:Int) ^ k)=((2 ^ k:Nat):Int):=by simp
 rw [h1,hp,Int.fdiv_eq_ediv_of_nonneg _ (Int.natCast_nonneg _)]
 rfl
theorem fQ (x m:Nat):x &&& m≤m:=Nat.and_le_right
theorem II (x:Nat) (hx:x < 18446744073709551616):oc1 (x:Int)=((s1 6148914691236517205 x:Nat):Int):=by
 unfold oc1 s1
 rw [jT x 1 (by decide),mV (x / 2 ^ 1) 6148914691236517205 6148914691236517205 rfl (by omega) (by decide),mV x 6148914691236517205 6148914691236517205 rfl hx (by decide),← Int.natCast_add]
 have b1:=fQ (x / 2 ^ 1) 6148914691236517205
 have b2:=fQ x 6148914691236517205
 exact dI _ (by omega)
theorem IB (x:Nat) (hx:x < 18446744073709551616):oc2 (x:Int)=((s2 3689348814741910323 x:Nat):Int):=by
 unfold oc2 s2
 rw [jT x 2 (by decide),mV (x / 2 ^ 2) 3689348814741910323 3689348814741910323 rfl (by omega) (by decide),mV x 3689348814741910323 3689348814741910323 rfl hx (by decide),← Int.natCast_add]
 have b1:=fQ (x / 2 ^ 2) 3689348814741910323
 have b2:=fQ x 3689348814741910323
 exact dI _ (by omega)
theorem IL (z:Nat) (hz:z≤7378697629483820646):oc3 (z:Int)=((s3 1085102592571150095 z:Nat):Int):=by
 unfold oc3 s3
 rw [jT z 4 (by decide),← Int.natCast_add,dI _ (by omega),mV _ 1085102592571150095 1085102592571150095 rfl (by omega) (by decide)]
theorem M7 (x:Nat):s1 6148914691236517205 x < 18446744073709551616:=by
 have b1:=fQ (x / 2) 6148914691236517205
 have b2:=fQ x 6148914691236517205
 unfold s1; omega
theorem M5 (x:Nat):s2 3689348814741910323 x≤7378697629483820646:=by
 have b1:=fQ (x / 4) 3689348814741910323
 have b2:=fQ x 3689348814741910323
 unfold s2; omega
theorem Ii (w:Nat) (h:w + w / 256 < 18446744073709551616):oc4 (w:Int)=((w + w / 256:Nat):Int):=by
 unfold oc4
 rw [jT w 8 (by decide),← Int.natCast_add]
 exact dI _ h
theorem Jh (w:Nat) (h:w + w / 65536 < 18446744073709551616):oc5 (w:Int)=((w + w / 65536:Nat):Int):=by
 unfold oc5
 rw [jT w 16 (by decide),← Int.natCast_add]
 exact dI _ h
theorem Iy (w:Nat) (h:w + w / 4294967296 < 18446744073709551616):oc6 (w:Int)=((w + w / 4294967296:Nat):Int):=by
 unfold oc6
 rw [jT w 32 (by decide),← Int.natCast_add]
 exact dI _ h
theorem Ix (v:Nat) (h:v < 9223372036854775808):IntKind.wrap .i64 ((BitVec.ofInt (IntKind.bits .i64) (IntKind.wrap .i64 (v:Int)) &&& BitVec.ofInt (IntKind.bits .i64) 127).toNat:Int)=((v % 128:Nat):Int):=by
 rw [w64 (x:=(v:Int)) (by omega) (by omega)]
 show IntKind.wrap .i64 ((BitVec.ofInt 64 (v:Int) &&& BitVec.ofInt 64 ((127:Nat):Int)).toNat:Int)=_
 rw [fE,fE,BitVec.toNat_and,BitVec.toNat_ofNat,BitVec.toNat_ofNat,Nat.mod_eq_of_lt (by omega),Nat.mod_eq_of_lt (by decide),show (127:Nat)=2 ^ 7 - 1 from rfl,Nat.and_two_pow_sub_one_eq_mod]
 exact w64 (by omega) (by omega)
theorem Gj (w s:Nat) (h:∃ p0 p1 p2 p3 p4 p5 p6 p7:Nat,w=p0 + 256 * (p1 + 256 * (p2 + 256 * (p3 + 256 * (p4 + 256 * (p5 + 256 * (p6 + 256 * (p7 + 256 * 0)))))))∧s=p0 + p1 + p2 + p3 + p4 + p5 + p6 + p7∧p0≤8∧p1≤8∧p2≤8∧p3≤8∧p4≤8∧p5≤8∧p6≤8∧p7≤8) :
   IntKind.wrap .i64 ((BitVec.ofInt (IntKind.bits .i64) (IntKind.wrap .i64 (oc6 (oc5 (oc4 (w:Int))))) &&& BitVec.ofInt (IntKind.bits .i64) 127).toNat:Int)=((s:Nat):Int):=by
 obtain ⟨p0,p1,p2,p3,p4,p5,p6,p7,q,qs,c0,c1,c2,c3,c4,c5,c6,c7⟩:=h
 obtain ⟨r1,r2⟩:=OD q qs c0 c1 c2 c3 c4 c5 c6 c7 rfl rfl rfl
 clear q qs c0 c1 c2 c3 c4 c5 c6 c7
 generalize h1:w + w / 256=w1 at *
 generalize h2:w1 + w1 / 65536=w2 at *
 generalize h3:w2 + w2 / 4294967296=w3 at *
 rw [Ii w (by omega),h1,Jh w1 (by omega),h2,Iy w2 (by omega),h3,Ix w3 r2,r1]
theorem Hx (x:Nat) (hx:x < 18446744073709551616):nP (x:Int)=some ((pc 64 x:Nat):Int):=by
 rw [EV,II x hx,IB _ (M7 x),IL _ (M5 _),HN x hx]
 exact congrArg some (Gj _ _ (MO x))
theorem tW:∀ (n x:Nat),pc n x=((List.range n).filter (fun i=>x.testBit i)).length
 | 0,_=>rfl
 | n + 1,x=>by
   have e:(fun i=>x.testBit i) ∘ Nat.succ=fun i=>(x / 2).testBit i:=funext fun i=>by
     show x.testBit (i + 1)=_
     rw [Nat.testBit_succ]
   rw [show pc (n + 1) x=x % 2 + pc n (x / 2) from rfl,tW n (x / 2),List.range_succ_eq_map,List.filter_cons,List.filter_map,e]
   have h0:x.testBit 0=decide (x % 2=1):=Nat.testBit_zero x
   rw [h0]
   by_cases h:x % 2=1
   . rw [if_pos (decide_eq_true h),List.length_cons,List.length_map,h]
     omega
   . rw [if_neg (by simpa using h),List.length_map]
     omega
def cY (l:List Int):Nat:=(l.map fun w=>pc 64 w.toNat).sum
theorem mem_cons (w:Int) (l:List Int) (i:Nat):mem (w :: l) i=if i < 64 then w.toNat.testBit i else mem l (i - 64):=by
 unfold mem
 by_cases h:i < 64
 . rw [if_pos h,Nat.div_eq_of_lt h,Nat.mod_eq_of_lt h]
   rfl
 . rw [if_neg h,show i / 64=(i - 64) / 64 + 1 by omega,show i % 64=(i - 64) % 64 by omega]
   rfl
theorem zE:∀ l:List Int,((List.range (64 * l.length)).filter (mem l)).length=cY l
 | []=>rfl
 | w :: l=>by
   rw [show 64 * (w :: l).length=64 + 64 * l.length by simp; omega,List.range_add,List.filter_append,List.length_append,List.filter_map,List.length_map]
   have e1:(List.range 64).filter (mem (w :: l))=(List.range 64).filter (fun i=>w.toNat.testBit i):=List.filter_congr fun i hi=>by
     rw [mem_cons,if_pos (List.mem_range.1 hi)]
   have e2:(mem (w :: l)) ∘ (64 + ·)=mem l:=funext fun i=>by
     show mem (w :: l) (64 + i)=_
     rw [mem_cons,if_neg (by omega),Nat.add_sub_cancel_left]
   rw [e1,e2,zE l,← tW]
   simp [cY]
theorem FJ {n:Nat} {l:List Int} (h:Ds n l):(bP n l).length=cY l:=by
 have hl:=h.len
 rw [← zE]
 have:=px (p:=mem l) (c:=n) (64 * l.length - n) (fun j h1 _=>h.top j h1)
 rw [show n + (64 * l.length - n)=64 * l.length by omega] at this
 rw [this]
 rfl
theorem Kh (n x:Nat):pc n x≤n:=by
 rw [tW]; exact mw _ _
theorem yg {l:List Int} {k:Nat} (hk:k < l.length):cY (l.take (k + 1))=cY (l.take k) + pc 64 (l[k]).toNat:=by
 unfold cY
 rw [aM hk,List.map_append,List.sum_append]
 simp
theorem xL {n:Nat} {l:List Int} (h:Ds n l):gK (some ((n:Int),l))=some (((bP n l).length:Nat):Int):=by
 have hn:=h.hn
 have hl:=h.len
 have hb:∀ k,k≤l.length→cY (l.take k)≤64 * k:=fun k=>by
   induction k with
   | zero=>intro _; simp [cY]
   | succ k ih =>
     intro hk
     have:=ih (by omega)
     have h2:=Kh 64 (l[k]).toNat
     rw [yg (by omega:k < l.length)]
     omega
 unfold gK
 have hlp:loop (kP ((n:Int),l)) ((0:Int),(0:Int))=some ((cY l:Nat):Int):=by
   have:=aF (body:=kP ((n:Int),l)) (fun k:Nat=>(((cY (l.take k):Nat):Int),(k:Int))) l.length (b:=((cY l:Nat):Int)) ?_ ?_
   . exact this
   . intro k hk
     unfold kP
     have hw:=h.wd _ (List.getElem_mem hk)
     unfold Wd at hw
     obtain ⟨x,hx⟩:=Int.eq_ofNat_of_zero_le hw.1
     have ho:=Hx x (by omega)
     rw [← hx] at ho
     have hp:l[k].toNat=x:=by omega
     have h1:=hb k (by omega)
     have h2:=hb (k + 1) (by omega)
     have e:cY (l.take (k + 1))=cY (l.take k) + pc 64 x:=by
       rw [yg hk,hp]
     simp only [dlt hk,cond_true,ah hk,ho,Option.bind_some]
     rw [aj hk (by omega),e,w64 (by omega) (by omega),← Int.natCast_add]
   . unfold kP
     simp
 simp only [Option.isNone_some,cond_false,Option.bind_some]
 rw [hlp,FJ h]
 rfl
section
structure Qr {α:Type} (ring:List α) (f m:Int) (l:List α):Prop where
 m_:m=((l.length:Nat):Int)
 f0:0≤f
 fl:(ring=[]∧f=0)∨f < ((ring.length:Nat):Int)
 le:l.length≤ring.length
 sz:ring.length≤1000000
 at_:∀ i x,l[i]? = some x→ring[(f.toNat + i) % ring.length]? = some x
theorem Qr.nil {α:Type}:Qr ([]:List α) 0 0 []:=⟨rfl,Int.le_refl 0,.inl ⟨rfl,rfl⟩,Nat.le_refl _,by simp,fun i x h=>by simp at h⟩
section
variable {α β:Type} {ring:List α} {f m:Int} {l:List α}
theorem EZ (z:α) (a:List α) (k:Nat) (h:a.length≤k):cpy (List.replicate k z) 0 (a.take k)=a++List.replicate (k - a.length) z:=by
 unfold cpy
 rw [List.take_of_length_le h]
 simp
theorem EI (z:α) (h0:0≤f) (h1:f≤((ring.length:Nat):Int)) (hs:ring.length≤1000000) (K:List α→Option β) :
   (mk (IntKind.wrap .i64 ((IntKind.wrap .i64 (2 * (((ring.length:Nat):Int)))) + 1)) (IntKind.wrap .i64 ((IntKind.wrap .i64 (2 * (((ring.length:Nat):Int)))) + 1)) z:Option (List α)).bind (fun z15=>(subL ring f (((ring.length:Nat):Int))).bind fun _=>(some (cpy z15 ((0:Int).toNat) ((List.drop (f:Int).toNat (List.take (((ring.length:Nat):Int):Int).toNat ring)).take (z15.length - (0:Int).toNat)))).bind fun z20=>(subL z20 (((min (List.drop (f:Int).toNat (List.take (((ring.length:Nat):Int):Int).toNat ring)).length (z15.length - (0:Int).toNat):Nat):Int)) (((z15.length:Nat):Int))).bind fun _=>(subL ring 0 f).bind fun _=>(some (cpy z20 ((((min (List.drop (f:Int).toNat (List.take (((ring.length:Nat):Int):Int).toNat ring)).length (z15.length - (0:Int).toNat):Nat):Int):Int).toNat) ((List.drop (0:Int).toNat (List.take (f:Int).toNat ring)).take (((((z15.length:Nat):Int):Int).toNat) - (((min (List.drop (f:Int).toNat (List.take (((ring.length:Nat):Int):Int).toNat ring)).length (z15.length - (0:Int).toNat):Nat):Int):Int).toNat)))).bind fun z22=>K z22)
     = K (ring.drop f.toNat++(ring.take f.toNat++List.replicate (ring.length + 1) z)):=by
 have w1:IntKind.wrap .i64 (2 * (((ring.length:Nat):Int)))=2 * ((ring.length:Nat):Int):=w64 (by omega) (by omega)
 have w2:IntKind.wrap .i64 (2 * ((ring.length:Nat):Int) + 1)=((2 * ring.length + 1:Nat):Int):=by rw [w64 (by omega) (by omega)]; omega
 obtain ⟨k,rfl⟩:=Int.eq_ofNat_of_zero_le h0
 have hk:k≤ring.length:=by omega
 have hmk:mk ((2 * ring.length + 1:Nat):Int) ((2 * ring.length + 1:Nat):Int) z=some (List.replicate (2 * ring.length + 1) z):=by
   unfold mk
   rw [if_pos ⟨by omega,Int.le_refl _,by omega⟩,Int.toNat_natCast]
 rw [w1,w2,hmk]
 simp only [Option.bind_some,Int.toNat_natCast,Int.toNat_zero,List.take_length,Nat.sub_zero,List.length_replicate,List.drop_zero,List.length_drop]
 have hmin:min (ring.length - k) (2 * ring.length + 1)=ring.length - k:=by omega
 rw [hmin,jK (by omega) (by omega) (by omega)]
 simp only [Option.bind_some]
 have hl:(ring.drop k).length≤2 * ring.length + 1:=by rw [List.length_drop]; omega
 rw [EZ z (ring.drop k) _ hl,jK (by omega) (by omega) (by simp; omega),jK (by omega) (by omega) (by omega)]
 simp only [Option.bind_some,Int.toNat_natCast]
 congr 1
 unfold cpy
 have hd:(ring.drop k).length=ring.length - k:=List.length_drop
 have ht:(ring.take k).length=k:=by rw [List.length_take]; omega
 rw [List.take_of_length_le (l:=ring.take k) (by rw [ht]; omega),ht,List.take_append_of_le_length (by rw [hd]; exact Nat.le_refl _),List.take_of_length_le (l:=ring.drop k) (by rw [hd]; exact Nat.le_refl _),List.drop_append,List.drop_of_length_le (l:=ring.drop k) (by rw [hd]; omega),hd,List.nil_append,List.drop_replicate]
 congr 3
 omega
theorem Qr.grow (z:α) (h:Qr ring f m l) (he:m=((ring.length:Nat):Int)) (hl:l.length≤10000):Qr (ring.drop f.toNat++(ring.take f.toNat++List.replicate (ring.length + 1) z)) 0 m l∧l.length < (ring.drop f.toNat++(ring.take f.toNat++List.replicate (ring.length + 1) z)).length:=by
 have hn:l.length=ring.length:=by have:=h.m_; omega
 have hf:f.toNat≤ring.length:=by rcases h.fl with ⟨h1,h2⟩ | h1 <;> omega
 have hlen:(ring.drop f.toNat++(ring.take f.toNat++List.replicate (ring.length + 1) z)).length=2 * ring.length + 1:=by simp; omega
 refine ⟨⟨h.m_,Int.le_refl 0,.inr (by rw [hlen]; omega),by rw [hlen]; omega,by rw [hlen]; omega,fun i x hx=>?_⟩,by rw [hlen]; omega⟩
 have hi:i < l.length:=(List.getElem?_eq_some_iff.1 hx).1
 have h1:=h.at_ i x hx
 rw [hlen,Int.toNat_zero,Nat.zero_add,Nat.mod_eq_of_lt (by omega)]
 by_cases hc:f.toNat + i < ring.length
 . rw [Nat.mod_eq_of_lt hc] at h1
   rw [List.getElem?_append_left (by rw [List.length_drop]; omega),List.getElem?_drop]
   exact h1
 . rw [Nat.mod_eq_sub_mod (by omega),Nat.mod_eq_of_lt (by omega)] at h1
   rw [List.getElem?_append_right (by rw [List.length_drop]; omega),List.length_drop,List.getElem?_append_left (by rw [List.length_take]; omega),List.getElem?_take,if_pos (by omega)]
   rw [← h1]
   congr 1
   omega
theorem yT (a b:Nat):Int.tmod (a:Int) (b:Int)=((a % b:Nat):Int):=rfl
theorem Qr.push (x:α) (h:Qr ring f m l) (hl:l.length < ring.length):Int.tmod (IntKind.wrap .i64 (f + m)) ((ring.length:Nat):Int)=(((f.toNat + l.length) % ring.length:Nat):Int)∧(f.toNat + l.length) % ring.length < ring.length∧IntKind.wrap .i64 (m + 1)=((l.length + 1:Nat):Int)∧Qr (ring.set ((f.toNat + l.length) % ring.length) x) f ((l.length + 1:Nat):Int) (l++[x]):=by
 have hm:=h.m_
 have hf:=h.f0
 have hs:=h.sz
 have hfl:f < ((ring.length:Nat):Int):=by rcases h.fl with ⟨h1,_⟩ | h1; (subst h1; simp at hl); exact h1
 have hp:0 < ring.length:=by omega
 have hlt:=Nat.mod_lt (f.toNat + l.length) hp
 refine ⟨?_,hlt,?_,⟨by simp,hf,.inr (by rw [List.length_set]; exact hfl),by rw [List.length_set]; simp; omega,by rw [List.length_set]; exact hs,fun i y hy=>?_⟩⟩
 . rw [hm,w64 (by omega) (by omega)]
   obtain ⟨k,rfl⟩:=Int.eq_ofNat_of_zero_le hf
   rw [← Int.natCast_add]
   exact yT _ _
 . rw [hm,w64 (by omega) (by omega)]; omega
 . rw [List.length_set,List.getElem?_set]
   rcases Nat.lt_trichotomy i l.length with hi | hi | hi
   . rw [List.getElem?_append_left hi] at hy
     have hne:¬ (f.toNat + l.length) % ring.length=(f.toNat + i) % ring.length:=fun e=>by
       have hf':f.toNat < ring.length:=by omega
       by_cases c1:f.toNat + l.length < ring.length
       . rw [Nat.mod_eq_of_lt c1,Nat.mod_eq_of_lt (by omega)] at e; omega
       . rw [Nat.mod_eq_sub_mod (by omega),Nat.mod_eq_of_lt (by omega)] at e
         by_cases c2:f.toNat + i < ring.length
         . rw [Nat.mod_eq_of_lt c2] at e; omega
         . rw [Nat.mod_eq_sub_mod (by omega),Nat.mod_eq_of_lt (by omega)] at e; omega
     rw [if_neg hne]
     exact h.at_ i y hy
   . subst hi
     rw [List.getElem?_append_right (Nat.le_refl _),Nat.sub_self] at hy
     rw [if_pos rfl,if_pos hlt]
     simpa using hy
   . rw [List.getElem?_eq_none (by simp; omega)] at hy; cases hy
theorem Qr.pop (z x:α) {l':List α} (h:Qr ring f m (x :: l')):m≠0∧aa ring f=some x∧nz ((ring.length:Nat):Int)=some ()∧IntKind.wrap .i64 (m - 1)=((l'.length:Nat):Int)∧Qr (ring.set f.toNat z) (Int.tmod (IntKind.wrap .i64 (f + 1)) ((ring.length:Nat):Int)) ((l'.length:Nat):Int) l':=by
 have hm:=h.m_
 have hf:=h.f0
 have hs:=h.sz
 have hle:=h.le
 simp only [List.length_cons] at hm hle
 have hfl:f < ((ring.length:Nat):Int):=by rcases h.fl with ⟨h1,_⟩ | h1; (subst h1; simp at hle); exact h1
 have h0:=h.at_ 0 x rfl
 rw [Nat.add_zero,Nat.mod_eq_of_lt (by omega)] at h0
 have hmod:Int.tmod (IntKind.wrap .i64 (f + 1)) ((ring.length:Nat):Int)=(((f.toNat + 1) % ring.length:Nat):Int):=by
   rw [w64 (by omega) (by omega)]
   obtain ⟨k,rfl⟩:=Int.eq_ofNat_of_zero_le hf
   exact yT (k + 1) _
 refine ⟨by omega,by unfold aa; rw [if_pos hf]; exact h0,vM (by omega),by rw [w64 (by omega) (by omega)]; omega,?_⟩
 rw [hmod]
 have hlt:=Nat.mod_lt (f.toNat + 1) (show 0 < ring.length by omega)
 refine ⟨rfl,by omega,.inr (by rw [List.length_set]; omega),by rw [List.length_set]; omega,by rw [List.length_set]; exact hs,fun i y hy=>?_⟩
 have hi:i < l'.length:=(List.getElem?_eq_some_iff.1 hy).1
 have h1:=h.at_ (i + 1) y (by simpa using hy)
 rw [List.length_set,Int.toNat_natCast,List.getElem?_set]
 have e1:((f.toNat + 1) % ring.length + i) % ring.length=(f.toNat + (i + 1)) % ring.length:=by
   rw [Nat.mod_add_mod]; congr 1; omega
 rw [e1]
 have hne:¬ f.toNat=(f.toNat + (i + 1)) % ring.length:=fun e=>by
   by_cases c:f.toNat + (i + 1) < ring.length
   . rw [Nat.mod_eq_of_lt c] at e; omega
   . rw [Nat.mod_eq_sub_mod (by omega),Nat.mod_eq_of_lt (by omega)] at e; omega
 rw [if_neg hne]
 exact h1
end
end
section
section
variable {ring:List (Int)} {f m:Int} {l:List (Int)}
end
section
variable {ring:List (Int)} {f m:Int} {l:List (Int)}
theorem EL {w:(Option (List ((Int)×Int)))} (h0:0≤f) (h1:f≤((ring.length:Nat):Int)) (hs:ring.length≤1000000):nJ ring f m w=some (ring.drop f.toNat++(ring.take f.toNat++List.replicate (ring.length + 1) 0),w):=by
 unfold nJ
 exact EI 0 h0 h1 hs (fun z=>some (z,w))
theorem Er {w:(Option (List ((Int)×Int)))} (xb:List (Int)) (i:Nat) (hi:i < xb.length) (hx:xb.length≤10000) (h:Qr ring f m l) (hl:l.length≤10000):∃ r f',iO xb ((i:Int),ring,f,m,w)=some (.inl (((i + 1:Nat):Int),r,f',((l.length + 1:Nat):Int),w))∧Qr r f' ((l.length + 1:Nat):Int) (l++[xb[i]]):=by
 have hf:=h.f0
 have hfl:f≤((ring.length:Nat):Int):=by rcases h.fl with ⟨h1,h2⟩ | h1 <;> omega
 have hle:=h.le
 have hm:=h.m_
 by_cases hc:m=((ring.length:Nat):Int)
 . obtain ⟨hq,hq2⟩:=Qr.grow 0 h hc hl
   have hg:=EL (w:=w) (m:=m) hf hfl h.sz
   generalize (ring.drop f.toNat++(ring.take f.toNat++List.replicate (ring.length + 1) 0))=r at hq hq2 hg
   obtain ⟨p1,p2,p3,p4⟩:=hq.push xb[i] hq2
   rw [Int.zero_add] at p1
   refine ⟨_,0,?_,p4⟩
   unfold iO
   simp only [dlt hi,cond_true,ah hi,Option.bind_some,hc,decide_true]
   rw [← hc,hg]
   simp only [Option.bind_some,Int.zero_add]
   rw [vM (by omega)]
   simp only [Option.bind_some,p1,ah p2,Int.toNat_natCast,p3,aj hi (by omega)]
 . have hq2:l.length < ring.length:=by omega
   obtain ⟨p1,p2,p3,p4⟩:=h.push xb[i] hq2
   refine ⟨_,f,?_,p4⟩
   unfold iO
   simp only [dlt hi,cond_true,ah hi,Option.bind_some,hc,decide_false,cond_false]
   rw [vM (by omega)]
   simp only [Option.bind_some,p1,ah p2,Int.toNat_natCast,p3,aj hi (by omega)]
theorem Fc {w:(Option (List ((Int)×Int)))} (xb:List (Int)) (h:Qr ring f m l) (hl:l.length + xb.length≤10000):∃ r f',nI xb ring f m w=some (r,f',((l.length + xb.length:Nat):Int),w)∧Qr r f' ((l.length + xb.length:Nat):Int) (l++xb):=by
 obtain ⟨b,h1,h2⟩:=bL (body:=iO xb) (fun s=>∃ k:Nat,k≤xb.length∧s.1=(k:Int)∧s.2.2.2.1=((l.length + k:Nat):Int)∧Qr s.2.1 s.2.2.1 s.2.2.2.1 (l++xb.take k)∧w=s.2.2.2.2) (fun s=>xb.length - s.1.toNat) (Q:=fun b=>∃ r f',b=(r,f',((l.length + xb.length:Nat):Int),w)∧Qr r f' ((l.length + xb.length:Nat):Int) (l++xb)) (fun s hs=>by
   obtain ⟨i,r,f',m',w'⟩:=s
   obtain ⟨k,hk,e1,e2,hq,hw⟩:=hs
   dsimp only at e1 e2 hq hw
   subst e1 hw
   by_cases hc:k < xb.length
   . obtain ⟨r2,f2,g1,g2⟩:=Er (w:=w) xb k hc (by omega) hq (by simp; omega)
     refine .inl ⟨_,g1,⟨k + 1,hc,rfl,by simp; omega,?_,rfl⟩,by dsimp only; rw [Int.toNat_natCast,Int.toNat_natCast]; omega⟩
     have e3:l++xb.take (k + 1)=(l++xb.take k)++[xb[k]]:=by rw [aM hc,List.append_assoc]
     dsimp only
     rw [e3]
     exact g2
   . obtain rfl:k=xb.length:=by omega
     refine .inr ⟨(r,f',m',w),?_,r,f',by rw [e2],?_⟩
     . unfold iO
       simp only [dge hc,cond_false]
     . rw [← e2]; simpa using hq) (s:=(0,ring,f,m,w)) ⟨0,Nat.zero_le _,rfl,by simpa using h.m_,by simpa using h,rfl⟩
 obtain ⟨r,f',rfl,hq⟩:=h2
 refine ⟨r,f',?_,hq⟩
 unfold nI
 rw [h1]
 rfl
theorem EP {w:(Option (List ((Int)×Int)))} {x:Int} (h:Qr ring f m (x :: l)):∃ r f',nM ring f m w=some (x,true,r,f',((l.length:Nat):Int),w)∧Qr r f' ((l.length:Nat):Int) l:=by
 obtain ⟨h1,h2,h3,h4,h5⟩:=h.pop 0 x
 refine ⟨_,_,?_,h5⟩
 unfold nM kH
 simp only [Option.bind_some,h1,decide_false,cond_false,h2,h3,h4]
end
section
variable {ring:List (List UInt8)} {f m:Int} {l:List (List UInt8)}
end
section
variable {ring:List (List UInt8)} {f m:Int} {l:List (List UInt8)}
end
end
section
section
variable {α:Type} [DecidableEq α]
theorem FL (k:α) (x:Option (List (α×Int))):iD k x = !decide (aI k (x.getD []) > 0):=by cases x <;> rfl
theorem GH (k:α) (x:Option (List (α×Int))):dE k x=if aI k (x.getD []) > 0 then x.getD [] else bY k (wrap64 (aI k (x.getD []) + 1)) (x.getD []):=by cases x <;> rfl
structure Wr (ring:List α) (f m:Int) (w:Option (List (α×Int))) (l:List α):Prop where
 q:Qr ring f m l
 nd:l.Nodup
 ks:((w.getD []).map (·.1)).Nodup
 c:∀ k,aI k (w.getD [])=if k∈l then 1 else 0
theorem Wr.nil:Wr ([]:List α) 0 0 none []:=⟨Qr.nil,List.nodup_nil,List.nodup_nil,fun k=>rfl⟩
end
section
variable {ring:List (Int)} {f m:Int} {l:List (Int)} {w:Option (List ((Int)×Int))}
theorem FC (k:Int) (h:Wr ring f m w l) (hl:l.length≤9000):∃ r f' w',db k ring f m w=some (!decide (k∈l),r,f',(((if k∈l then l else l++[k]).length:Nat):Int),w')∧Wr r f' (((if k∈l then l else l++[k]).length:Nat):Int) w' (if k∈l then l else l++[k]):=by
 have hc:=h.c k
 unfold db tO
 rw [FL,GH]
 by_cases hk:k∈l
 . rw [if_pos hk] at hc
   have hm:=h.q.m_
   simp only [hc,if_pos hk,hk,decide_true,Bool.not_true,Option.bind_some,show (1:Int) > 0 by omega,if_true,Bool.not_false,cond_true]
   rw [hm]
   exact ⟨_,_,_,rfl,⟨hm ▸ h.q,h.nd,by simpa using h.ks,by simpa using h.c⟩⟩
 . rw [if_neg hk] at hc
   have h0:¬ ((0:Int) > 0):=by omega
   have h1:wrap64 (0 + 1)=1:=IntWalk.wrap64_in (0 + 1) (by decide)
   obtain ⟨r,f',g1,g2⟩:=Fc (w:=some (bY k 1 (w.getD []))) [k] h.q (by simp; omega)
   simp only [hc,if_neg hk,hk,decide_false,Bool.not_false,Option.bind_some,h0,h1,if_false,Bool.not_true,cond_false]
   rw [g1]
   refine ⟨r,f',some (bY k 1 (w.getD [])),?_,⟨?_,?_,?_,fun k'=>?_⟩⟩
   . simp
   . simpa using g2
   . exact List.nodup_append.2 ⟨h.nd,by simp,fun a ha b hb e=>by simp at hb; subst hb; subst e; exact hk ha⟩
   . exact xW k 1 _ h.ks
   . show aI k' (bY k 1 (w.getD []))=_
     rw [yz,h.c k']
     by_cases h2:k'=k <;> simp [h2]
theorem E4 {x:Int} (h:Wr ring f m w (x :: l)):∃ r f' w',gE ring f m w=some (x,true,r,f',((l.length:Nat):Int),w')∧Wr r f' ((l.length:Nat):Int) w' l:=by
 obtain ⟨r,f',g1,g2⟩:=EP (w:=w) h.q
 refine ⟨r,f',w.map (b7 x),?_,⟨g2,(List.nodup_cons.1 h.nd).2,?_,fun k=>?_⟩⟩
 . unfold gE
   rw [g1]
   rfl
 . cases w with
   | none=>exact List.nodup_nil
   | some w=>exact (yv x w h.ks).1
 . have hx:=(List.nodup_cons.1 h.nd).1
   have hc:=h.c k
   cases w with
   | none =>
     have hx0:=h.c x
     rw [if_pos (by simp)] at hx0
     exact absurd (show (0:Int)=1 from hx0) (by decide)
   | some w =>
     show aI k (b7 x w)=_
     have hc:aI k w=_:=hc
     rw [yA x k w h.ks,hc]
     by_cases h2:k=x
     . subst h2; simp [hx]
     . simp [h2]
theorem FS (h:Wr ring f m w l):gF ring f m w=some (((l.length:Nat):Int),ring,w):=by
 unfold gF kH
 rw [h.q.m_]; rfl
end
section
variable {ring:List (List UInt8)} {f m:Int} {l:List (List UInt8)} {w:Option (List ((List UInt8)×Int))}
end
end
section
abbrev Sw:=Option (Int×List Int)
theorem Az {n:Nat} {l:List Int} (h:Ds n l) {k:Nat} (hk:mem l k=true):k < n:=by
 rcases Nat.lt_or_ge k n with h1 | h1
 . exact h1
 . rw [h.top k h1] at hk; cases hk
theorem HO {n:Nat} {l:List Int} (h:Ds n l):iV (some ((n:Int),l))=some (liN (bP n l)):=by
 have hn:=h.hn
 obtain ⟨r,g1,g2⟩:=A7 h (body:=sC (some ((n:Int),l))) (fun c k hk=>by
   have:=Az h hk
   unfold sC
   dsimp only
   rw [show decide (0≤(k:Int))=true by simp,cond_true,w64 (by omega) (by omega)]) (fun c=>rfl)
 unfold iV
 rw [show iZ (some ((n:Int),l))=some () from rfl,Option.bind_some,g1,Option.bind_some,g2]; rfl
theorem mR {α:Type} (n:Nat) (z:α) (h:n≤1073741824):mk (n:Int) (n:Int) z=some (List.replicate n z):=by
 unfold mk
 rw [if_pos ⟨by omega,Int.le_refl _,by omega⟩,Int.toNat_natCast]
section
variable {P:Pts} {N:Nat} {E:ArG}
abbrev bks (N:Nat) (E:ArG):List (List Int):=(List.range N).map fun v=>li (nxt (tn E) v)
theorem yJ (hn:N≤1048576) (he:E.length≤67108864):mg (flG P N E) (N:Int)=some (bks N E):=by
 unfold mg
 rw [mR N ([]:List Int) (by omega),Option.bind_some]
 have hl:=aF (body:=oG (flG P N E) (List.replicate N [])) (fun k:Nat=>((List.range N).map (fun v=>if v < k then li (nxt (tn E) v) else []),(k:Int))) N (b:=bks N E) ?_ ?_
 . have e:(List.replicate N ([]:List Int))=(List.range N).map (fun v=>if v < 0 then li (nxt (tn E) v) else []):=by
     rw [Ci]; exact gy fun v _=>by simp
   rw [show ((List.replicate N ([]:List Int)),(0:Int))=((List.range N).map (fun v=>if v < 0 then li (nxt (tn E) v) else []),((0:Nat):Int)) by rw [← e]; rfl,hl]; rfl
 . intro k hk
   unfold oG
   simp only [List.length_replicate,dlt hk,cond_true,Fs hn he hk,Option.bind_some,kx hk,Int.toNat_natCast,wj,aj hk (by omega:N≤9223372036854775807)]
   congr 3
   refine gy fun v _=>?_
   by_cases h1:v=k
   . subst h1; simp
   . have:v < k + 1↔v < k:=by omega
     simp [h1,this]
 . unfold oG
   simp only [List.length_replicate,dge (show ¬ N < N by omega),cond_false]
   congr 2
   exact gy fun v hv=>by simp [hv]
end
section
variable {N:Nat} {E:ArG}
theorem GJ (hN:N≤1000) {Wn:List Nat} (hl:Wn.length≤1000000) {l0:List Int} (h0:Ds N l0) (hz:∀ j,mem l0 j=false) (hw:∀ n∈Wn,n < N) :
   ∃ l',loop (la (li Wn) (N:Int)) (0,l0)=some l'∧Ds N l'∧∀ j,mem l' j=decide (j∈Wn):=by
 obtain ⟨b,h1,h2⟩:=bL (body:=la (li Wn) (N:Int)) (fun s=>∃ k:Nat,k≤Wn.length∧s.1=(k:Int)∧Ds N s.2∧∀ j,mem s.2 j=decide (j∈Wn.take k)) (fun s=>Wn.length - s.1.toNat) (Q:=fun b=>Ds N b∧∀ j,mem b j=decide (j∈Wn)) (fun s hs=>by
   obtain ⟨i,l⟩:=s
   obtain ⟨k,hk,rfl,hd,hm⟩:=hs
   dsimp only at hd hm ⊢
   by_cases hc:k < Wn.length
   . obtain ⟨l',g1,g2,g3⟩:=pG hd ((Wn[k]:Nat):Int)
     refine .inl ⟨(((k + 1:Nat):Int),l'),?_,⟨k + 1,hc,rfl,g2,fun j=>?_⟩,by dsimp only; omega⟩
     . unfold la
       simp only [bz,dlt hc,cond_true,im hc,Option.bind_some,g1,aj hc (by omega:Wn.length≤9223372036854775807)]
     . have:=hw _ (List.getElem_mem hc)
       rw [g3,hm,aM hc,Int.toNat_natCast]
       rw [Bool.eq_iff_iff]
       simp only [Bool.or_eq_true,decide_eq_true_eq,List.mem_append,List.mem_singleton]
       constructor
       . rintro (h | ⟨_,h⟩)
         . exact .inl h
         . exact .inr h.symm
       . rintro (h | h)
         . exact .inl h
         . exact .inr ⟨⟨by omega,by omega⟩,h.symm⟩
   . obtain rfl:k=Wn.length:=by omega
     refine .inr ⟨l,?_,hd,fun j=>by rw [hm,List.take_length]⟩
     unfold la
     simp only [bz,dge hc,cond_false]) (s:=(0,l0)) ⟨0,Nat.zero_le _,rfl,h0,fun j=>by simp [hz]⟩
 exact ⟨b,h1,h2⟩
theorem Ik {L:List Nat} {n:Nat}:(n:Int)∈li L↔n∈L:=by
 unfold li
 rw [List.mem_map]
 constructor
 . rintro ⟨a,h,e⟩
   have:a=n:=by exact_mod_cast e
   exact this ▸ h
 . exact fun h=>⟨n,h,rfl⟩
theorem Em {L:List Nat} {k:Nat} (h:L.Nodup) (hk:k < L.length):L[k]∉L.take k:=by
 have h2:(L.take (k + 1)).Nodup:=h.sublist (List.take_sublist _ _)
 rw [aM hk,List.nodup_append] at h2
 exact fun hm=>h2.2.2 _ hm _ (List.mem_singleton.2 rfl) rfl
theorem yH {ring:List Int} {f m:Int} {l:List Int} {w:Option (List (Int×Int))} {k:Nat} {L:List Nat} (h:Wr ring f m w (li L)) (hk:k∉L) (hl:L.length≤9000) :
   ∃ r f' m' w',db (k:Int) ring f m w=some (true,r,f',m',w')∧Wr r f' m' w' (li (L++[k])):=by
 obtain ⟨r,f',w',g1,g2⟩:=FC (k:Int) h (by rw [bz]; exact hl)
 have hn:¬ ((k:Int)∈li L):=fun h=>hk (Ik.1 h)
 rw [if_neg hn] at g1 g2
 rw [show decide ((k:Int)∈li L)=false from decide_eq_false hn] at g1
 have e:li (L++[k])=li L++[(k:Int)]:=by simp [li]
 exact ⟨r,f',_,w',g1,by rw [e]; exact g2⟩
theorem HC (hN:N≤1000) {Rn:List Nat} (hR:Rn.Nodup) {l0:List Int} (h0:Ds N l0) (hz:∀ j,mem l0 j=false) (hr:∀ n∈Rn,n < N) :
   ∃ l' r f m w,loop (kX (li Rn) (N:Int)) (0,l0,[],0,0,none)=some (l',r,f,m,w)∧Ds N l'∧(∀ j,mem l' j=decide (j∈Rn))∧Wr r f m w (li Rn):=by
 have hl:Rn.length≤N:=uf hR hr
 obtain ⟨b,h1,h2⟩:=bL (body:=kX (li Rn) (N:Int)) (fun s=>∃ k:Nat,k≤Rn.length∧s.1=(k:Int)∧Ds N s.2.1∧(∀ j,mem s.2.1 j=decide (j∈Rn.take k))∧Wr s.2.2.1 s.2.2.2.1 s.2.2.2.2.1 s.2.2.2.2.2 (li (Rn.take k))) (fun s=>Rn.length - s.1.toNat) (Q:=fun b=>Ds N b.1∧(∀ j,mem b.1 j=decide (j∈Rn))∧Wr b.2.1 b.2.2.1 b.2.2.2.1 b.2.2.2.2 (li Rn)) (fun s hs=>by
   obtain ⟨i,l,ring,f,m,w⟩:=s
   obtain ⟨k,hk,rfl,hd,hm,hw⟩:=hs
   dsimp only at hd hm hw ⊢
   by_cases hc:k < Rn.length
   . obtain ⟨l',g1,g2,g3⟩:=pG hd ((Rn[k]:Nat):Int)
     obtain ⟨r',f',m',w',g4,g5⟩:=yH (l:=[]) hw (Em hR hc) (by rw [List.length_take]; omega)
     refine .inl ⟨(((k + 1:Nat):Int),l',r',f',m',w'),?_,⟨k + 1,hc,rfl,g2,fun j=>?_,by rw [aM hc]; exact g5⟩,by dsimp only; omega⟩
     . unfold kX
       simp only [bz,dlt hc,cond_true,im hc,Option.bind_some,g1,g4,aj hc (by omega:Rn.length≤9223372036854775807)]
     . have:=hr _ (List.getElem_mem hc)
       dsimp only
       rw [g3,hm,aM hc,Int.toNat_natCast]
       rw [Bool.eq_iff_iff]
       simp only [Bool.or_eq_true,decide_eq_true_eq,List.mem_append,List.mem_singleton]
       constructor
       . rintro (h | ⟨_,h⟩)
         . exact .inl h
         . exact .inr h.symm
       . rintro (h | h)
         . exact .inl h
         . exact .inr ⟨⟨by omega,by omega⟩,h.symm⟩
   . obtain rfl:k=Rn.length:=by omega
     refine .inr ⟨(l,ring,f,m,w),?_,hd,fun j=>by rw [hm,List.take_length],by rw [List.take_length] at hw; exact hw⟩
     unfold kX
     simp only [bz,dge hc,cond_false]) (s:=(0,l0,[],0,0,none)) ⟨0,Nat.zero_le _,rfl,h0,fun j=>by simp [hz],Wr.nil⟩
 obtain ⟨l',r,f,m,w⟩:=b
 exact ⟨l',r,f,m,w,h1,h2⟩
theorem qu {W:Nat→Bool} {s:(Nat→Bool)×List Nat} {u:Nat} (h:¬ (s.1 u=false∧W u=false)):stW W s u=s:=if_neg h
theorem zO {W:Nat→Bool} {s:(Nat→Bool)×List Nat} {u:Nat} (h:s.1 u=false∧W u=false):stW W s u=(bn s.1 u,s.2++[u]):=if_pos h
theorem Fd {R W:Nat→Bool} (hE:inN N E) (hN:N≤1000) {St:List Int} (hS:Ds N St) (hW:∀ j,mem St j=W j) {A:List Nat} {v:Nat} (hA:∀ u∈A,(u,v)∈E) (hAl:A.length≤1000000)
   (hv:Lv E N R W v) {V:Nat→Bool} {Q:List Nat} (hV:∀ n,V n=true→Lv E N R W n) (hQ:∀ n∈Q,V n=true) (hQd:Q.Nodup) {fd ring:List Int} {f m:Int} {w:Option (List (Int×Int))}
   (hd:Ds N fd) (hm:∀ j,mem fd j=V j) (hw:Wr ring f m w (li Q)) :
   ∃ fd' r' f' m' w',loop (gL (N:Int) St (N:Int) (li A)) (0,fd,ring,f,m,w)=some (fd',r',f',m',w')∧Ds N fd'∧(∀ j,mem fd' j=(A.foldl (stW W) (V,Q)).1 j)∧Wr r' f' m' w' (li (A.foldl (stW W) (V,Q)).2):=by
 have hF:∀ k,k≤A.length→(∀ n∈((A.take k).foldl (stW W) (V,Q)).2,((A.take k).foldl (stW W) (V,Q)).1 n=true)∧((A.take k).foldl (stW W) (V,Q)).2.length≤N:=fun k hk=>by
   obtain ⟨_,i2,i3,i4,_⟩:=pI hE hv (A.take k) V Q (fun u hu=>hA u (List.mem_of_mem_take hu)) hV hQ hQd
   exact ⟨i3,uf i4 (fun x hx=>Lv.lt hE (i2 x (i3 x hx)))⟩
 obtain ⟨b,h1,h2⟩:=bL (body:=gL (N:Int) St (N:Int) (li A)) (fun s=>∃ k:Nat,k≤A.length∧s.1=(k:Int)∧Ds N s.2.1∧(∀ j,mem s.2.1 j=((A.take k).foldl (stW W) (V,Q)).1 j)∧Wr s.2.2.1 s.2.2.2.1 s.2.2.2.2.1 s.2.2.2.2.2 (li ((A.take k).foldl (stW W) (V,Q)).2)) (fun s=>A.length - s.1.toNat) (Q:=fun b=>Ds N b.1∧(∀ j,mem b.1 j=(A.foldl (stW W) (V,Q)).1 j)∧Wr b.2.1 b.2.2.1 b.2.2.2.1 b.2.2.2.2 (li (A.foldl (stW W) (V,Q)).2)) (fun s hs=>by
   obtain ⟨i,l,ring,f,m,w⟩:=s
   obtain ⟨k,hk,rfl,hd,hm,hw⟩:=hs
   dsimp only at hd hm hw ⊢
   by_cases hc:k < A.length
   . have hu:=hA _ (List.getElem_mem hc)
     have huN:=(hE _ hu).1
     dsimp only at huN
     obtain ⟨hq,hql⟩:=hF k hk
     have eF:(A.take (k + 1)).foldl (stW W) (V,Q)=stW W ((A.take k).foldl (stW W) (V,Q)) A[k]:=by rw [aM hc,List.foldl_append]; rfl
     have hHas:cE (some ((N:Int),St)) ((A[k]:Nat):Int)=some (W A[k]):=by rw [Ha hS,hW]
     have hw1:IntKind.wrap .i64 ((k:Int) + 1)=((k + 1:Nat):Int):=aj hc (by omega)
     obtain ⟨l',g1,g2,g3⟩:=pG hd ((A[k]:Nat):Int)
     rw [hm,Int.toNat_natCast,show decide ((0:Int)≤((A[k]:Nat):Int)∧((A[k]:Nat):Int) < (N:Int))=true from decide_eq_true ⟨by omega,by omega⟩,Bool.true_and] at g1
     left
     cases hWk:W A[k] with
     | true =>
       refine ⟨(((k + 1:Nat):Int),l,ring,f,m,w),?_,⟨k + 1,hc,rfl,hd,?_,?_⟩,by dsimp only; omega⟩
       . unfold gL
         simp only [bz,dlt hc,cond_true,im hc,Option.bind_some,hHas,hWk,Bool.not_true,cond_false,hw1]
       . rw [eF,qu (by simp [hWk])]; exact hm
       . rw [eF,qu (by simp [hWk])]; exact hw
     | false =>
       cases hVk:((A.take k).foldl (stW W) (V,Q)).1 A[k] with
       | true =>
         rw [hVk] at g1
         refine ⟨(((k + 1:Nat):Int),l',ring,f,m,w),?_,⟨k + 1,hc,rfl,g2,?_,?_⟩,by dsimp only; omega⟩
         . unfold gL
           simp only [bz,dlt hc,cond_true,im hc,Option.bind_some,hHas,hWk,Bool.not_false,g1,Bool.not_true,cond_false,hw1]
         . intro j
           rw [eF,qu (by simp [hVk])]
           dsimp only
           rw [g3,hm,Int.toNat_natCast]
           by_cases e:A[k]=j
           . subst e; rw [hVk]; rfl
           . simp [e]
         . rw [eF,qu (by simp [hVk])]; exact hw
       | false =>
         rw [hVk] at g1
         have hnq:A[k]∉((A.take k).foldl (stW W) (V,Q)).2:=fun h=>by rw [hq _ h] at hVk; cases hVk
         obtain ⟨r',f',m',w',g4,g5⟩:=yH (l:=[]) hw hnq (by omega)
         refine ⟨(((k + 1:Nat):Int),l',r',f',m',w'),?_,⟨k + 1,hc,rfl,g2,?_,?_⟩,by dsimp only; omega⟩
         . unfold gL
           simp only [bz,dlt hc,cond_true,im hc,Option.bind_some,hHas,hWk,Bool.not_false,g1,g4,hw1]
         . intro j
           rw [eF,zO ⟨hVk,hWk⟩]
           dsimp only [bn]
           rw [g3,hm,Int.toNat_natCast]
           congr 1
           rw [decide_eq_decide]
           exact ⟨fun h=>h.2.symm,fun h=>⟨⟨by omega,by omega⟩,h.symm⟩⟩
         . rw [eF,zO ⟨hVk,hWk⟩]; exact g5
   . obtain rfl:k=A.length:=by omega
     rw [List.take_length] at hm hw
     refine .inr ⟨(l,ring,f,m,w),?_,hd,hm,hw⟩
     unfold gL
     simp only [bz,dge hc,cond_false]) (s:=(0,fd,ring,f,m,w)) ⟨0,Nat.zero_le _,rfl,hd,hm,hw⟩
 obtain ⟨l',r,f,m,w⟩:=b
 exact ⟨l',r,f,m,w,h1,h2⟩
end
section
variable {N:Nat} {E:ArG}
abbrev fb (L:List Nat):Nat→Bool:=fun n=>decide (n∈L)
theorem ye (hE:inN N E) (hN:N≤1000) (hEl:E.length≤1000000) {Rn Wn:List Nat} (hR:Rn.Nodup) (hr:∀ n∈Rn,n < N) (hw:∀ n∈Wn,n < N) (hwl:Wn.length≤1000000) :
   ∃ l',lN (bks N E) (li Rn) (li Wn)=some (.inr ((N:Int),l'))∧Ds N l'∧∀ n,mem l' n=true↔Lv E N (fb Rn) (fb Wn) n:=by
 have hz:=uU ((N + 63) / 64)
 have hD:=AZ (n:=N) (by omega)
 obtain ⟨St,s1,s2,s3⟩:=GJ hN hwl hD hz hw
 obtain ⟨F0,r0,f0,m0,w0,t1,t2,t3,t4⟩:=HC hN hR hD hz hr
 have hNew:fA (((bks N E).length:Nat):Int)=some (.inr (0,(N:Int),List.replicate ((N + 63) / 64) 0)):=by
   rw [show (bks N E).length=N by simp,yQ,if_neg (by omega),if_neg (by omega)]; rfl
 have hV0:∀ n,mem F0 n=true→Lv E N (fb Rn) (fb Wn) n:=fun n hn=>by
   rw [t3,decide_eq_true_eq] at hn
   exact .rd (hr n hn) (decide_eq_true hn)
 obtain ⟨b,h1,h2⟩:=bL (body:=oo (bks N E) (N:Int) St (N:Int)) (fun s=>∃ Q:List Nat,Ds N s.1∧Wr s.2.1 s.2.2.1 s.2.2.2.1 s.2.2.2.2 (li Q)∧(∀ n,mem s.1 n=true→Lv E N (fb Rn) (fb Wn) n)∧(∀ n∈Q,mem s.1 n=true)∧Q.Nodup∧(∀ v,mem s.1 v=true→v∈Q∨Sa E (fb Wn) (mem s.1) v)∧∀ n∈Rn,mem s.1 n=true)
   (fun s=>2 * cz N (mem s.1) + s.2.2.2.1.toNat) (Q:=fun b=>Ds N b∧∀ n,mem b n=true↔Lv E N (fb Rn) (fb Wn) n) (fun s hs=>by
   obtain ⟨fd,ring,f,m,w⟩:=s
   obtain ⟨Q,hd,hq,hV,hQ,hQd,hC,hRn⟩:=hs
   dsimp only at hd hq hV hQ hC hRn ⊢
   have hlen:=FS hq
   have hm:=hq.q.m_
   cases Q with
   | nil =>
     refine .inr ⟨fd,?_,hd,fun n=>⟨hV n,fun h=>Lv.least (V:=mem fd) (fun n _ hn=>hRn n (by simpa using hn)) (fun a ha hc=>?_) h⟩⟩
     . unfold oo
       simp only [hlen,Option.bind_some,show (li ([]:List Nat)).length=0 from rfl,show decide ((0:Int) < ((0:Nat):Int))=false from rfl,cond_false]
     . rcases hC _ hc.2.1 with h1 | h1
       . cases h1
       . have:=h1 a.1 ha hc.2.2
         rw [hc.1] at this; cases this
   | cons v Q =>
     have hvV:=hQ v (List.mem_cons_self ..)
     have hvN:=Az hd hvV
     have hLv:=hV v hvV
     have hli:li (v :: Q)=(v:Int) :: li Q:=rfl
     rw [hli] at hq
     obtain ⟨r1,f1,w1,p1,p2⟩:=E4 hq
     have hA:∀ u∈nxt (tn E) v,(u,v)∈E:=fun u hu=>by rw [jL,AC] at hu; exact hu
     have hAl:(nxt (tn E) v).length≤1000000:=by
       unfold nxt; rw [List.length_map]
       have:=tR ((tn E).map (·.1)) v
       rw [List.length_map,IP] at this; omega
     have hQd':=(List.nodup_cons.1 hQd)
     have hQ':∀ n∈Q,mem fd n=true:=fun n hn=>hQ n (List.mem_cons_of_mem _ hn)
     obtain ⟨fd',r',f',m',w',g1,g2,g3,g4⟩:=Fd (R:=fb Rn) (W:=fb Wn) hE hN s2 s3 hA hAl hLv hV hQ' hQd'.2 hd (fun _=>rfl) p2
     obtain ⟨i1,i2,i3,i4,i5,i6,i7,i8⟩:=pI (R:=fb Rn) hE hLv (nxt (tn E) v) (mem fd) Q hA hV hQ' hQd'.2
     have e3:mem fd'=((nxt (tn E) v).foldl (stW (fb Wn)) (mem fd,Q)).1:=funext g3
     rw [← e3] at i1 i2 i3 i5 i7 i8
     refine .inl ⟨(fd',r',f',m',w'),?_,⟨((nxt (tn E) v).foldl (stW (fb Wn)) (mem fd,Q)).2,g2,g4,i2,i3,i4,fun u hu=>?_,fun n hn=>i1 n (hRn n hn)⟩,?_⟩
     . have hgt:decide ((0:Int) < (((li (v :: Q)).length:Nat):Int))=true:=by rw [hli]; simp
       have hb:aa (bks N E) (v:Int)=some (li (nxt (tn E) v)):=kx hvN
       rw [hli] at hlen hgt
       unfold oo
       simp only [hlen,Option.bind_some,hgt,cond_true,p1,hb,g1]
     . rcases i5 u hu with h | h
       . rcases hC u h with h | h
         . rcases List.mem_cons.1 h with rfl | h
           . exact .inr (fun x hx hwx=>i7 x (jL.2 (AC.2 hx)) hwx)
           . exact .inl (i6 u h)
         . exact .inr (fun x hx hwx=>i1 x (h x hx hwx))
       . exact .inl h
     . have hm':=g4.q.m_
       dsimp only
       rw [hm',hm,hli,bz,Int.toNat_natCast,Int.toNat_natCast,List.length_cons,bz]
       omega) (s:=(F0,r0,f0,m0,w0)) ⟨Rn,t2,t4,hV0,fun n hn=>by rw [t3]; exact decide_eq_true hn,hR,fun v hv => .inl (by rw [t3,decide_eq_true_eq] at hv; exact hv),fun n hn=>by rw [t3]; exact decide_eq_true hn⟩
 refine ⟨b,?_,h2⟩
 unfold lN
 rw [hNew]
 simp only [Option.bind_some,s1,t1,h1]
end
end
section
abbrev NB (b:Bo):Nat:=bg (xs b) (xs b).length
def rN (P:List Tc) (l:Nat):List Nat:=(List.range P.length).filter (fun n=>decide ((l:Int)∈(P.getD n ([],[])).1))
def wN (P:List Tc) (l:Nat):List Nat:=(List.range P.length).filter (fun n=>decide ((l:Int)∈(P.getD n ([],[])).2))
theorem IZ {P:List Tc} {l n:Nat} (hn:n < P.length):n∈rN P l↔(l:Int)∈P[n].1:=by
 unfold rN
 rw [List.mem_filter,List.mem_range,d6 hn,decide_eq_true_eq]
 exact ⟨fun h=>h.2,fun h=>⟨hn,h⟩⟩
theorem ID {P:List Tc} {l n:Nat} (hn:n < P.length):n∈wN P l↔(l:Int)∈P[n].2:=by
 unfold wN
 rw [List.mem_filter,List.mem_range,d6 hn,decide_eq_true_eq]
 exact ⟨fun h=>h.2,fun h=>⟨hn,h⟩⟩
theorem BK (P:List Tc) (l:Nat):(rN P l).Nodup:=List.nodup_range.filter _
theorem Bj {P:List Tc} {l n:Nat} (h:n∈rN P l):n < P.length:=List.mem_range.1 (List.mem_filter.1 h).1
theorem Bx {P:List Tc} {l n:Nat} (h:n∈wN P l):n < P.length:=List.mem_range.1 (List.mem_filter.1 h).1
theorem AV (P:List Tc) (l:Nat):(wN P l).length≤P.length:=by
 have:=List.length_filter_le (fun n=>decide ((l:Int)∈(P.getD n ([],[])).2)) (List.range P.length)
 simpa [wN] using this
def LvS (b:Bo) (l:Nat):Nat→Prop:=Lv (az (xs b)) (NB b) (fb (rN (pts (xs b)) l)) (fb (wN (pts (xs b)) l))
def lvB (b:Bo) (l n:Nat):Bool:=@decide (LvS b l n) (Classical.propDecidable _)
theorem iq {b:Bo} {l n:Nat}:lvB b l n=true↔LvS b l n:=by unfold lvB; exact @decide_eq_true_iff _ (Classical.propDecidable _)
theorem qp (b:Bo):inN (NB b) (az (xs b)):=uR (xs b) _ (Nat.le_refl _)
theorem iu {b:Bo} {l n:Nat} (h:lvB b l n=true):n < NB b:=Lv.lt (qp b) (iq.1 h)
theorem Af {E:List (Nat×Nat)} {N:Nat} {W:Nat→Bool} {n:Nat}:¬ Lv E N (fb []) W n:=fun h=>by
 have:=Lv.least (V:=fun _=>false) (fun n _ hn=>by simp at hn) (fun a ha hc=>by cases hc.2.1) h
 cases this
def SlotOk (b:Bo) (l:Nat) (s:Sw):Prop:=(s=none∧∀ n,¬ LvS b l n)∨∃ w,s=some ((NB b:Int),w)∧Ds (NB b) w∧∀ n,mem w n=true↔LvS b l n
theorem SlotOk.has {b:Bo} {l:Nat} {s:Sw} (h:SlotOk b l s) (p:Int):cE s p=some (decide (0≤p)&&lvB b l p.toNat):=by
 rcases h with ⟨rfl,h⟩ | ⟨w,rfl,hd,h⟩
 . have:lvB b l p.toNat=false:=by
     cases e:lvB b l p.toNat with
     | true=>exact absurd (iq.1 e) (h _)
     | false=>rfl
   rw [this,Bool.and_false]
   unfold cE fq ou
   by_cases q:0≤p
   . simp [q,show ¬ p < 0 by omega]
   . simp [q]
 . rw [pH hd]
   congr 1
   have e:mem w p.toNat=lvB b l p.toNat:=by rw [Bool.eq_iff_iff,h,iq]
   rw [e]
   cases q:lvB b l p.toNat with
   | false=>simp
   | true =>
     have:=iu q
     rw [Bool.and_true,Bool.and_true,decide_eq_decide]
     constructor
     . exact fun h=>h.1
     . exact fun h=>⟨h,by omega⟩
structure CsOk (b:Bo) (C:List Sw):Prop where
 z:NB b=0→C=[]
 len:0 < NB b→C.length=b.2.2.2.1.length
 ok:∀ l s,C[l]? = some s→SlotOk b l s
theorem xp {P:List Tc} {L l:Nat} (hl:l < L) (hP:P.length≤1000):kR (some (P,lcs L P)) (l:Int)=some (li (rN P l),li (wN P l)):=by
 have hr:=zH P l
 have hw:=Ae P l
 have hlen:(lcs L P).length=L:=by simp [lcs]
 have hg:aa (lcs L P) (l:Int)=some (rdr P l,wtr P l):=by
   rw [ah (by rw [hlen]; exact hl)]; simp [lcs]
 unfold kR
 simp only [Option.isNone_some,Bool.false_or,decide_eq_false (show ¬ ((l:Int) < 0) by omega),cond_false,Option.bind_some,hlen,decide_eq_false (show ¬ ((L:Int)≤(l:Int)) by omega),hg]
 rw [vw _ (by omega),vw _ (by omega)]
 rfl
theorem ub {b:Bo} (h:Sm b):∃ C,fx b=some (some ((NB b:Int),C))∧CsOk b C:=by
 have hb:NB b≤32:=(dY h (Nat.le_refl _)).1
 have hP:(pts (xs b)).length=NB b:=qg _
 have hL:=h.locals
 have hE:=qp b
 have hEl:(az (xs b)).length≤1024:=jq (jR h) (Nat.le_refl _)
 unfold fx
 rw [show gT b=_ from xf h,Option.bind_some,B1,Option.bind_some,hP]
 by_cases h0:NB b=0
 . refine ⟨[],?_,⟨fun _=>rfl,fun h=>by omega,fun l s hs=>by simp at hs⟩⟩
   rw [decide_eq_true (show ((NB b:Nat):Int)=0 by omega),cond_true]
 . rw [decide_eq_false (show ¬ ((NB b:Nat):Int)=0 by omega),cond_false,if_neg h0,show gZ b=_ from xq h,mR _ _ (by omega)]
   simp only [Option.bind_some,br]
   rw [yJ (Nat.le_trans hb (by decide)) (Nat.le_trans hEl (by decide)),Option.bind_some]
   obtain ⟨C,h1,h2⟩:=bL (body:=ls (some (pts (xs b),lcs b.2.2.2.1.length (pts (xs b)))) (bks (NB b) (az (xs b))) (List.replicate b.2.2.2.1.length none)) (fun s=>∃ k:Nat,k≤b.2.2.2.1.length∧s.1=(k:Int)∧s.2.length=b.2.2.2.1.length∧∀ l x,s.2[l]? = some x→(l < k→SlotOk b l x)∧(k≤l→x=none)) (fun s=>b.2.2.2.1.length - s.1.toNat) (Q:=fun C=>C.length=b.2.2.2.1.length∧∀ l x,C[l]? = some x→SlotOk b l x) (fun s hs=>by
     obtain ⟨i,C⟩:=s
     obtain ⟨k,hk,rfl,hlen,hC⟩:=hs
     dsimp only at hlen hC ⊢
     by_cases hc:k < b.2.2.2.1.length
     . left
       have hkC:k < C.length:=by omega
       have hn:=(hC k C[k] (List.getElem?_eq_getElem hkC)).2 (Nat.le_refl _)
       have hw1:IntKind.wrap .i64 ((k:Int) + 1)=((k + 1:Nat):Int):=aj hc (by omega)
       have hgo:=xp (P:=pts (xs b)) hc (by rw [hP]; exact Nat.le_trans hb (by decide))
       by_cases hr:rN (pts (xs b)) k=[]
       . refine ⟨(((k + 1:Nat):Int),C),?_,⟨k + 1,hc,rfl,hlen,fun l x hx=>⟨fun hl=>?_,fun hl=>(hC l x hx).2 (by omega)⟩⟩,by dsimp only; omega⟩
         . unfold ls
           simp only [List.length_replicate,dlt hc,cond_true,hgo,Option.bind_some,hr,show (li ([]:List Nat)).length=0 from rfl,show decide ((0:Int) < ((0:Nat):Int))=false from rfl,cond_false,hw1]
         . by_cases e:l=k
           . subst e
             rw [List.getElem?_eq_getElem hkC,hn] at hx
             obtain rfl:=Option.some.inj hx
             refine .inl ⟨rfl,fun n hl=>?_⟩
             unfold LvS at hl
             rw [hr] at hl
             exact Af hl
           . exact (hC l x hx).1 (by omega)
       . obtain ⟨w,g1,g2,g3⟩:=ye hE (Nat.le_trans hb (by decide)) (Nat.le_trans hEl (by decide)) (BK (pts (xs b)) k) (fun n hn=>hP ▸ Bj hn) (fun n (hn:n∈wN (pts (xs b)) k)=>hP ▸ Bx hn) (Nat.le_trans (AV (pts (xs b)) k) (by rw [hP]; exact Nat.le_trans hb (by decide)))
         have hpos:decide ((0:Int) < (((li (rN (pts (xs b)) k)).length:Nat):Int))=true:=by
           rw [bz]
           have:(rN (pts (xs b)) k).length≠0:=fun e=>hr (List.length_eq_zero_iff.1 e)
           exact decide_eq_true (by omega)
         have e1:aa C (k:Int)=some none:=by rw [ah hkC,hn]
         have e2:aa (C.set k (some ((NB b:Int),w))) (k:Int)=some (some ((NB b:Int),w)):=by rw [ah (by simpa using hkC)]; simp
         refine ⟨(((k + 1:Nat):Int),C.set k (some ((NB b:Int),w))),?_,⟨k + 1,hc,rfl,by simpa using hlen,fun l x hx=>⟨fun hl=>?_,fun hl=>?_⟩⟩,by dsimp only; omega⟩
         . unfold ls
           simp only [List.length_replicate,dlt hc,cond_true,hgo,Option.bind_some,hpos,e1,g1,fH,Int.toNat_natCast,e2,xL g2,br,hw1,List.set_set]
         . by_cases e:l=k
           . subst e
             rw [List.getElem?_set_self hkC] at hx
             obtain rfl:=Option.some.inj hx
             exact .inr ⟨w,rfl,g2,g3⟩
           . rw [List.getElem?_set_ne (fun h=>e h.symm)] at hx
             exact (hC l x hx).1 (by omega)
         . rw [List.getElem?_set_ne (by omega)] at hx
           exact (hC l x hx).2 (by omega)
     . obtain rfl:k=b.2.2.2.1.length:=by omega
       refine .inr ⟨C,?_,hlen,fun l x hx=>(hC l x hx).1 ?_⟩
       . unfold ls
         simp only [List.length_replicate,dge hc,cond_false]
       . have:=(List.getElem?_eq_some_iff.1 hx).1; omega) (s:=(0,List.replicate b.2.2.2.1.length none)) ⟨0,Nat.zero_le _,rfl,by simp,fun l x hx=>⟨fun h=>by omega,fun _=>by rw [List.getElem?_replicate] at hx; split at hx <;> simp at hx; exact hx.symm⟩⟩
   refine ⟨C,?_,⟨fun h=>absurd h h0,fun _=>h2.1,h2.2⟩⟩
   rw [h1]; rfl
section
variable {b:Bo} {C:List Sw}
theorem jP:eD (some ((NB b:Int),C))=some ((NB b:Nat):Int):=rfl
theorem Ji {q:Nat} (hq:q < C.length):oN (some ((NB b:Int),C)) (q:Int)=some C[q]:=by
 unfold oN
 simp only [Option.isNone_some,Bool.false_or,decide_eq_false (show ¬ ((q:Int) < 0) by omega),cond_false,Option.bind_some,decide_eq_false (show ¬ ((C.length:Int)≤(q:Int)) by omega),ah hq]
end
end
section
def lvN (b:Bo) (l:Nat):List Nat:=(List.range (NB b)).filter (lvB b l)
theorem Al (b:Bo) (l:Nat):(lvN b l).length≤NB b:=mw _ _
theorem G5 {b:Bo} {l:Nat} {w:List Int} (h:∀ n,mem w n=true↔LvS b l n):bP (NB b) w=lvN b l:=by
 unfold bP lvN
 congr 1
 funext n
 rw [Bool.eq_iff_iff,h,iq]
theorem GT {b:Bo} {l:Nat} (h:∀ n,¬ LvS b l n):lvN b l=[]:=by
 unfold lvN
 rw [List.filter_eq_nil_iff]
 exact fun n _ hn=>h n (iq.1 hn)
section
variable {b:Bo} {C:List Sw}
end
end
def pT (x:Blk) (k:Nat):Tc:=match x.1[k]? with | some s=>sT s | none=>tT x.2
theorem IU {X:List Blk} {j k:Nat} (hj:j < X.length) (hk:k≤X[j].1.length):(pts X)[bg X j + k]? = some (cpT (pT X[j] k)):=by
 rw [zk X _ (Nat.le_refl _) j k hj hj hk]
 unfold pT
 by_cases q:k < X[j].1.length
 . rw [F6 q,List.getElem?_eq_getElem q]
 . have:k=X[j].1.length:=by omega
   subst this
   rw [F9,List.getElem?_eq_none (Nat.le_refl _)]
theorem FQ {x:Tm} (h:cb x=0) (h3:¬ x.1=3) (a:Int):a∈x.2.2.2.2.1↔a∈(tT x).1:=by
 have hr:=(Ei h).1
 unfold m7 at hr
 unfold tT
 by_cases c1:x.1=1
 . rw [if_pos c1] at hr
   have:x.2.2.2.2.1=[]:=by simp at hr; exact hr.1.2
   simp [c1,this]
 . rw [if_neg c1] at hr
   by_cases c2:x.1=2
   . simp [c2]
   . rw [if_neg c2,if_neg h3] at hr
     by_cases c4:x.1=4
     . simp [c4]
     . rw [if_neg c4] at hr; cases hr
theorem Sc (s:Stm) (l:Int):decide (l∈(sT s).1)=(a8 s.1&&decide (s.2.2.1=l)):=by
 unfold sT; dsimp only
 by_cases c:a8 s.1=true
 . rw [if_pos c,c]; simp [eq_comm]
 . rw [if_neg c]; rw [Bool.not_eq_true] at c; rw [c]; simp
theorem R1 (s:Stm) (l:Int):decide (l∈(sT s).2)=(be s.1&&decide (s.2.1=l)):=by
 unfold sT; dsimp only
 by_cases c:be s.1=true
 . rw [if_pos c,c]; simp [eq_comm]
 . rw [if_neg c]; rw [Bool.not_eq_true] at c; rw [c]; simp
theorem GS {b:Bo} {j k:Nat} (hj:j < b.2.2.2.2.2.2.length) (hk:k≤b.2.2.2.2.2.2[j].1.length) (hf:cb b.2.2.2.2.2.2[j].2=0) (ha:b.2.2.2.2.2.2[j].2.2.2.2.2.1.length≤20) (l:Int) :
   je b ((j:Int),(k:Int),decide (k=b.2.2.2.2.2.2[j].1.length)) l=some (decide (l∈(pT b.2.2.2.2.2.2[j] k).1)):=by
 unfold je pT
 rw [ah hj]
 simp only [Option.bind_some]
 by_cases q:k < b.2.2.2.2.2.2[j].1.length
 . rw [decide_eq_false (show ¬ k=b.2.2.2.2.2.2[j].1.length by omega),Bool.not_false,cond_true,ah q,Option.bind_some,List.getElem?_eq_getElem q]
   dsimp only
   rw [Sc]; rfl
 . have e:k=b.2.2.2.2.2.2[j].1.length:=by omega
   rw [decide_eq_true e,Bool.not_true,cond_false,List.getElem?_eq_none (by omega)]
   dsimp only
   by_cases c3:b.2.2.2.2.2.2[j].2.1=3
   . rw [decide_eq_true c3,cond_true]
     simp [tT,c3]
   . rw [decide_eq_false c3,cond_false]
     rw [dV (body:=oq l b.2.2.2.2.2.2[j]) b.2.2.2.2.2.2[j].2.2.2.2.2.1 (fun a=>decide (a=l)) (.inr true) (.inl ()) ?_ ?_]
     . have hm:=FQ hf c3 l
       by_cases c:l∈b.2.2.2.2.2.2[j].2.2.2.2.2.1
       . have h1:(b.2.2.2.2.2.2[j].2.2.2.2.2.1.any fun a=>decide (a=l))=true:=by
           rw [List.any_eq_true]; exact ⟨l,c,by simp⟩
         rw [h1,if_pos rfl,decide_eq_true (hm.1 c)]; rfl
       . have h1:(b.2.2.2.2.2.2[j].2.2.2.2.2.1.any fun a=>decide (a=l))=false:=by
           rw [List.any_eq_false]; intro a h2 h3; simp at h3; subst h3; exact c h2
         rw [h1,if_neg (by simp),decide_eq_false (fun h=>c (hm.2 h))]; rfl
     . intro i hi
       unfold oq
       simp only [dlt hi,cond_true,ah hi,Option.bind_some,aj hi (by omega:b.2.2.2.2.2.2[j].2.2.2.2.2.1.length≤9223372036854775807)]
       by_cases c:b.2.2.2.2.2.2[j].2.2.2.2.2.1[i]=l <;> simp [c]
     . unfold oq
       simp
theorem E8 {b:Bo} {j k:Nat} (hj:j < b.2.2.2.2.2.2.length) (hk:k≤b.2.2.2.2.2.2[j].1.length) (l:Int) :
   jb b ((j:Int),(k:Int),decide (k=b.2.2.2.2.2.2[j].1.length)) l=some (decide (l∈(pT b.2.2.2.2.2.2[j] k).2)):=by
 unfold jb pT
 rw [ah hj]
 simp only [Option.bind_some]
 by_cases q:k < b.2.2.2.2.2.2[j].1.length
 . rw [decide_eq_false (show ¬ k=b.2.2.2.2.2.2[j].1.length by omega),Bool.not_false,cond_true,ah q,Option.bind_some,List.getElem?_eq_getElem q]
   dsimp only
   rw [R1]; rfl
 . have e:k=b.2.2.2.2.2.2[j].1.length:=by omega
   rw [decide_eq_true e,Bool.not_true,cond_false,List.getElem?_eq_none (by omega)]
   simp only [tT]
   by_cases c4:b.2.2.2.2.2.2[j].2.1=4
   . have:¬ b.2.2.2.2.2.2[j].2.1=2:=by omega
     simp [c4,eq_comm]
   . by_cases c2:b.2.2.2.2.2.2[j].2.1=2
     . simp [c2]
     . by_cases c3:b.2.2.2.2.2.2[j].2.1=3 <;> simp [c4,c2,c3]
theorem uP {c n:Nat} (hc:c≤1000000000) (hn:n≤1000000000) (a0 a1 a3 a4 a5 a6:Int):fj (n:Int) a0 a1 (c:Int) a3 a4 a5 a6=some ((c + n:Nat):Int):=by
 unfold fj dP cx
 simp only [Option.bind_some]
 rw [show ((decide ((0:Int)≤2)&&decide ((2:Int) < 7))&&decide (0≤(n:Int)))=true by simp,cond_true,w64 (x:=9223372036854775807 - (n:Int)) (by omega) (by omega),show decide (9223372036854775807 - (n:Int) < (c:Int))=false from decide_eq_false (by omega),cond_false,w64 (by omega) (by omega)]
 rfl
theorem AA (c:Int):kG 0 0 c 0 0 0 0=some c:=rfl
theorem yh {c:Nat} (hc:c≤1000000000):kF 0 0 (c:Int) 0 0 0 0=some (c:Int):=by
 have e1:cx 0 0=some 0:=rfl
 have e2:cx 0 (c:Int)=some (c:Int):=by
   unfold cx
   rw [w64 (by omega) (by omega),decide_eq_false (by omega),cond_false,w64 (by omega) (by omega),Int.zero_add]
 have e3:cx (c:Int) 0=some (c:Int):=by
   unfold cx
   rw [w64 (by omega) (by omega),decide_eq_false (by omega),cond_false,w64 (by omega) (by omega),Int.add_zero]
 have o0:∀ a,sm 0 0 a 0 0 0 0=some 0:=fun a=>rfl
 have o1:∀ a,sk 0 0 a 0 0 0 0=some 0:=fun a=>rfl
 have o2:∀ a,kG 0 0 a 0 0 0 0=some a:=fun a=>rfl
 have o3:∀ a,sg 0 0 a 0 0 0 0=some 0:=fun a=>rfl
 have o4:∀ a,sf 0 0 a 0 0 0 0=some 0:=fun a=>rfl
 have o5:∀ a,sh 0 0 a 0 0 0 0=some 0:=fun a=>rfl
 have o6:∀ a,sn 0 0 a 0 0 0 0=some 0:=fun a=>rfl
 unfold kF
 simp only [o0,o1,o2,o3,o4,o5,o6,Option.bind_some,e1,e2,e3]
theorem ER {b:Bo} (h:Sm b):∃ C c,kL b 0 0 0 0 0 0 0=some (some ((NB b:Int),C),((c:Nat):Int))∧CsOk b C∧NB b≤c∧c≤1000:=by
 have hb:NB b≤32:=(dY h (Nat.le_refl _)).1
 have hP:(pts (xs b)).length=NB b:=qg _
 have hL:=h.locals
 have hE:=qp b
 have hEl:(az (xs b)).length≤1024:=jq (jR h) (Nat.le_refl _)
 unfold kL
 rw [show gT b=_ from xf h,Option.bind_some,B1,Option.bind_some,hP]
 by_cases h0:NB b=0
 . refine ⟨[],0,?_,⟨fun _=>rfl,fun h=>by omega,fun l s hs=>by simp at hs⟩,by omega,by omega⟩
   rw [decide_eq_true (show ((NB b:Nat):Int)=0 by omega),cond_true]; rfl
 . have ha := uP (c := 0) (n := NB b) (by omega) (Nat.le_trans hb (by decide)) 0 0 0 0 0 0
   rw [Nat.zero_add] at ha
   rw [decide_eq_false (show ¬ ((NB b:Nat):Int)=0 by omega),cond_false,if_neg h0,show fj ((NB b:Nat):Int) 0 0 0 0 0 0 0=_ from ha,Option.bind_some,show gZ b=_ from xq h,mR _ _ (by omega)]
   simp only [Option.bind_some]
   rw [yJ (Nat.le_trans hb (by decide)) (Nat.le_trans hEl (by decide)),Option.bind_some]
   obtain ⟨r,h1,h2⟩:=bL (body:=kJ 0 0 0 0 0 0 (some (pts (xs b),lcs b.2.2.2.1.length (pts (xs b)))) (bks (NB b) (az (xs b))) (List.replicate b.2.2.2.1.length none)) (fun s=>∃ k c:Nat,k≤b.2.2.2.1.length∧s.1=(k:Int)∧s.2.1=(c:Int)∧NB b≤c∧c≤NB b + k * NB b∧s.2.2.length=b.2.2.2.1.length∧∀ l x,s.2.2[l]? = some x→(l < k→SlotOk b l x)∧(k≤l→x=none)) (fun s=>b.2.2.2.1.length - s.1.toNat) (Q:=fun r=>(∃ c:Nat,r.1=(c:Int)∧NB b≤c∧c≤1000)∧r.2.length=b.2.2.2.1.length∧∀ l x,r.2[l]? = some x→SlotOk b l x) (fun s hs=>by
     obtain ⟨i,ci,C⟩:=s
     obtain ⟨k,c,hk,rfl,rfl,hc1,hc2,hlen,hC⟩:=hs
     dsimp only at hlen hC ⊢
     have hk10:k * NB b≤10 * 32:=Nat.mul_le_mul (by omega) hb
     by_cases hc:k < b.2.2.2.1.length
     . left
       have hkC:k < C.length:=by omega
       have hn:=(hC k C[k] (List.getElem?_eq_getElem hkC)).2 (Nat.le_refl _)
       have hw1:IntKind.wrap .i64 ((k:Int) + 1)=((k + 1:Nat):Int):=aj hc (by omega)
       have hgo:=xp (P:=pts (xs b)) hc (by rw [hP]; exact Nat.le_trans hb (by decide))
       by_cases hr:rN (pts (xs b)) k=[]
       . refine ⟨(((k + 1:Nat):Int),(c:Int),C),?_,⟨k + 1,c,hc,rfl,rfl,hc1,by rw [Nat.succ_mul]; omega,hlen,fun l x hx=>⟨fun hl=>?_,fun hl=>(hC l x hx).2 (by omega)⟩⟩,by dsimp only; omega⟩
         . unfold kJ
           simp only [List.length_replicate,dlt hc,cond_true,hgo,Option.bind_some,hr,show (li ([]:List Nat)).length=0 from rfl,show decide ((0:Int) < ((0:Nat):Int))=false from rfl,cond_false,hw1]
         . by_cases e:l=k
           . subst e
             rw [List.getElem?_eq_getElem hkC,hn] at hx
             obtain rfl:=Option.some.inj hx
             refine .inl ⟨rfl,fun n hl=>?_⟩
             unfold LvS at hl
             rw [hr] at hl
             exact Af hl
           . exact (hC l x hx).1 (by omega)
       . obtain ⟨w,g1,g2,g3⟩:=ye hE (Nat.le_trans hb (by decide)) (Nat.le_trans hEl (by decide)) (BK (pts (xs b)) k) (fun n hn=>hP ▸ Bj hn) (fun n (hn:n∈wN (pts (xs b)) k)=>hP ▸ Bx hn) (Nat.le_trans (AV (pts (xs b)) k) (by rw [hP]; exact Nat.le_trans hb (by decide)))
         have hpos:decide ((0:Int) < (((li (rN (pts (xs b)) k)).length:Nat):Int))=true:=by
           rw [bz]
           have:(rN (pts (xs b)) k).length≠0:=fun e=>hr (List.length_eq_zero_iff.1 e)
           exact decide_eq_true (by omega)
         have e1:aa C (k:Int)=some none:=by rw [ah hkC,hn]
         have e2:aa (C.set k (some ((NB b:Int),w))) (k:Int)=some (some ((NB b:Int),w)):=by rw [ah (by simpa using hkC)]; simp
         have hml:(bP (NB b) w).length≤NB b:=mw _ _
         have hadd:=uP (c:=c) (n:=(bP (NB b) w).length) (by omega) (by omega) 0 0 0 0 0 0
         refine ⟨(((k + 1:Nat):Int),((c + (bP (NB b) w).length:Nat):Int),C.set k (some ((NB b:Int),w))),?_,⟨k + 1,c + (bP (NB b) w).length,hc,rfl,rfl,by omega,by rw [Nat.succ_mul]; omega,by simpa using hlen,fun l x hx=>⟨fun hl=>?_,fun hl=>?_⟩⟩,by dsimp only; omega⟩
         . unfold kJ
           simp only [List.length_replicate,dlt hc,cond_true,hgo,Option.bind_some,hpos,e1,g1,fH,Int.toNat_natCast,e2,xL g2,hadd,hw1,List.set_set]
         . by_cases e:l=k
           . subst e
             rw [List.getElem?_set_self hkC] at hx
             obtain rfl:=Option.some.inj hx
             exact .inr ⟨w,rfl,g2,g3⟩
           . rw [List.getElem?_set_ne (fun h=>e h.symm)] at hx
             exact (hC l x hx).1 (by omega)
         . rw [List.getElem?_set_ne (by omega)] at hx
           exact (hC l x hx).2 (by omega)
     . obtain rfl:k=b.2.2.2.1.length:=by omega
       refine .inr ⟨((c:Int),C),?_,⟨c,rfl,hc1,by omega⟩,hlen,fun l x hx=>(hC l x hx).1 ?_⟩
       . unfold kJ
         simp only [List.length_replicate,dge hc,cond_false]
       . have:l < C.length:=(List.getElem?_eq_some_iff.1 hx).1
         omega) (s:=(0,((NB b:Nat):Int),List.replicate b.2.2.2.1.length none)) ⟨0,NB b,Nat.zero_le _,rfl,rfl,Nat.le_refl _,by omega,by simp,fun l x hx=>⟨fun h=>by omega,fun _=>by rw [List.getElem?_replicate] at hx; split at hx <;> simp at hx; exact hx.symm⟩⟩
   obtain ⟨ci,C⟩:=r
   obtain ⟨⟨c,rfl,h3,h4⟩,h5,h6⟩:=h2
   refine ⟨C,c,?_,⟨fun h=>absurd h h0,fun _=>h5,h6⟩,h3,h4⟩
   rw [h1]; rfl
theorem IM {b:Bo} (h:Sm b) (l:Nat):lD b (l:Int)=some (vec (NB b) (lvB b l)):=by
 have hb:NB b≤32:=(dY h (Nat.le_refl _)).1
 have hP:(pts (xs b)).length=NB b:=qg _
 have hE:=qp b
 have hEl:(az (xs b)).length≤1024:=jq (jR h) (Nat.le_refl _)
 have hv:=Bb h
 have hal:=ii (xs b)
 -- vH and bT at a point
 have key:∀ n,n < NB b→∃ p,aa (au (xs b)) (n:Int)=some p∧je b p (l:Int)=some (fb (rN (pts (xs b)) l) n)∧jb b p (l:Int)=some (fb (wN (pts (xs b)) l) n):=fun n hn=>by
   obtain ⟨j,k,hj,hk,rfl,_⟩:=m6 (xs b) (xs b).length (Nat.le_refl _) n hn
   have hpt:=IU hj hk
   have hg:=mH (xs b) hj hk
   have ex:=(m9 hj).2
   have hm:(xs b)[j]∈xs b:=List.getElem_mem hj
   have f1:=hv.fm _ hm
   have f2:=hv.ar _ hm
   have hj2:j < b.2.2.2.2.2.2.length:=by rw [← ex]; exact hj
   have hx:(xs b)[j]=b.2.2.2.2.2.2[j]:=by simp only [ex]
   rw [hx] at hk hg hpt f1 f2
   have hnp:bg (xs b) j + k < (pts (xs b)).length:=by rw [hP]; exact hn
   have hPe:(pts (xs b))[bg (xs b) j + k]=cpT (pT b.2.2.2.2.2.2[j] k):=by
     rw [List.getElem?_eq_getElem hnp] at hpt
     exact Option.some.inj hpt
   refine ⟨((j:Int),(k:Int),decide (k=b.2.2.2.2.2.2[j].1.length)),?_,?_,?_⟩
   . rw [ah (by rw [hal]; exact hn)]
     rw [List.getElem?_eq_getElem (by rw [hal]; exact hn)] at hg
     exact hg
   . rw [GS hj2 hk f1 f2]
     congr 1
     rw [decide_eq_decide,IZ hnp,hPe]
     exact (vg _ _).symm
   . rw [E8 hj2 hk]
     congr 1
     rw [decide_eq_decide,ID hnp,hPe]; rfl
 generalize hR:fb (rN (pts (xs b)) l)=R at key
 generalize hW:fb (wN (pts (xs b)) l)=W at key
 have hLv:∀ n,LvS b l n↔Lv (az (xs b)) (NB b) R W n:=fun n=>by unfold LvS; rw [hR,hW]
 unfold lD
 rw [show dd b=_ from mA h,Option.bind_some,show lZ b=_ from DN h,Option.bind_some]
 have hl1:=aF (body:=kZ b (l:Int) (au (xs b))) (fun n:Nat=>((vec n R),(n:Int))) (NB b) (b:=vec (NB b) R) (fun n hn=>by
     obtain ⟨p,g1,g2,_⟩:=key n hn
     have hvl:=jF n R
     have hvs:vec (n + 1) R=vec n R++[if R n=true then 1 else 0]:=by unfold vec; rw [List.range_succ,List.map_append]; rfl
     unfold kZ
     dsimp only
     rw [show decide ((n:Int) < (((au (xs b)).length:Nat):Int))=true from decide_eq_true (by rw [hal]; exact_mod_cast hn),cond_true,g1,Option.bind_some,show je b (p.1,p.2.1,p.2.2) (l:Int)=_ from g2,Option.bind_some,hvs]
     cases R n with
     | true=>rw [cond_true,aH (by simp; omega)]; simp only [Option.bind_some,aj hn (by omega)]; rfl
     | false=>rw [cond_false,aH (by simp; omega)]; simp only [Option.bind_some,aj hn (by omega)]; rfl) (by
     unfold kZ
     dsimp only
     rw [show decide (((NB b:Nat):Int) < (((au (xs b)).length:Nat):Int))=false from decide_eq_false (by rw [hal]; exact Int.lt_irrefl _),cond_false])
 rw [show loop (kZ b (l:Int) (au (xs b))) ([],0)=_ from hl1,Option.bind_some]
 -- one round over the az
 have hl2:∀ (V:Nat→Bool) (m:Bool),loop (k7 b (l:Int) (au (xs b)) (ai (az (xs b)))) (vec (NB b) V,m,0)=some (vec (NB b) ((az (xs b)).foldl (stA W) (V,m)).1,((az (xs b)).foldl (stA W) (V,m)).2):=fun V m=>by
   have hh := aF (body := k7 b (l : Int) (au (xs b)) (ai (az (xs b)))) (fun i : Nat => (vec (NB b) (((az (xs b)).take i).foldl (stA W) (V, m)).1, (((az (xs b)).take i).foldl (stA W) (V, m)).2, (i : Int))) (az (xs b)).length (b := (vec (NB b) ((az (xs b)).foldl (stA W) (V, m)).1, ((az (xs b)).foldl (stA W) (V, m)).2)) (fun i hi => by
       obtain ⟨h1,h2⟩:=hE _ (List.getElem_mem hi)
       obtain ⟨p,g1,_,g3⟩:=key _ h1
       have eF:((az (xs b)).take (i + 1)).foldl (stA W) (V,m)=stA W (((az (xs b)).take i).foldl (stA W) (V,m)) (az (xs b))[i]:=by rw [aM hi,List.foldl_append]; rfl
       rw [eF]
       generalize ((az (xs b)).take i).foldl (stA W) (V,m)=F
       unfold k7
       dsimp only
       rw [show decide ((i:Int) < (((ai (az (xs b))).length:Nat):Int))=true from decide_eq_true (by rw [dC]; exact_mod_cast hi),cond_true,As hi,Option.bind_some]
       dsimp only
       rw [qb h1,Option.bind_some,aj hi (by omega)]
       cases c1:F.1 (az (xs b))[i].1 with
       | true =>
         have e:stA W F (az (xs b))[i]=F:=if_neg (fun h=>by rw [c1] at h; cases h.1)
         rw [e]
         simp
       | false =>
         rw [if_neg (by simp),decide_eq_true rfl,cond_true,Option.bind_some,qb h2]
         simp only [Option.bind_some]
         cases c2:F.1 (az (xs b))[i].2 with
         | false =>
           have e:stA W F (az (xs b))[i]=F:=if_neg (fun h=>by rw [c2] at h; cases h.2.1)
           rw [e]
           simp
         | true =>
           rw [if_pos rfl,decide_eq_true rfl,cond_true,g1,Option.bind_some,show jb b (p.1,p.2.1,p.2.2) (l:Int)=_ from g3]
           cases c3:W (az (xs b))[i].1 with
           | true =>
             have e:stA W F (az (xs b))[i]=F:=if_neg (fun h=>by rw [c3] at h; cases h.2.2)
             rw [e]
             simp
           | false =>
             have e:stA W F (az (xs b))[i]=(bn F.1 (az (xs b))[i].1,true):=if_pos ⟨c1,c2,c3⟩
             rw [e]
             simp [Hz h1]) (by
       unfold k7
       dsimp only
       rw [show decide ((((az (xs b)).length:Nat):Int) < (((ai (az (xs b))).length:Nat):Int))=false from decide_eq_false (by rw [dC]; exact Int.lt_irrefl _),cond_false,List.take_length])
   exact hh
 -- round by round
 obtain ⟨r,h1,h2⟩:=bL (body:=sI b (l:Int) (au (xs b)) (ai (az (xs b)))) (fun s=>∃ V:Nat→Bool,s.1=vec (NB b) V∧(∀ n,V n=true→Lv (az (xs b)) (NB b) R W n)∧(∀ n,n < NB b→R n=true→V n=true)∧(s.2=false→∀ a∈az (xs b),¬ (V a.1=false∧V a.2=true∧W a.1=false)))
   (fun s=>2 * (s.1.filter (fun x=>decide (x=0))).length + if s.2=true then 1 else 0) (Q:=fun r=>∃ V:Nat→Bool,r=vec (NB b) V∧∀ n,V n=true↔Lv (az (xs b)) (NB b) R W n) (fun s hs=>by
   obtain ⟨v,m⟩:=s
   obtain ⟨V,rfl,i1,i2,i3⟩:=hs
   dsimp only at i3 ⊢
   have hcz:∀ V:Nat→Bool,((vec (NB b) V).filter (fun x=>decide (x=0))).length=cz (NB b) V:=fun V=>by
     unfold vec cz
     rw [List.filter_map,List.length_map]
     congr 2
     funext n
     show decide ((if V n=true then (1:Int) else 0)=0) = !V n
     cases V n <;> rfl
   cases m with
   | true =>
     obtain ⟨j1,j2,j3,j4,j5⟩:=uj (R:=R) (W:=W) hE (az (xs b)) V false (fun a ha=>ha)
     refine .inl ⟨(vec (NB b) ((az (xs b)).foldl (stA W) (V,false)).1,((az (xs b)).foldl (stA W) (V,false)).2),?_,⟨_,rfl,j2 i1,fun n hn hr=>j1 n (i2 n hn hr),fun hm=>?_⟩,?_⟩
     . unfold sI
       simp only [cond_true,hl2,Option.bind_some]
     . obtain ⟨_,e,f⟩:=j3 hm
       rw [e]; exact f
     . dsimp only
       rw [hcz,hcz]
       cases hm:((az (xs b)).foldl (stA W) (V,false)).2 with
       | true =>
         rcases j5 hm with h | h
         . cases h
         . simp; omega
       | false=>simp; omega
   | false =>
     refine .inr ⟨vec (NB b) V,rfl,V,rfl,fun n=>⟨i1 n,fun h=>Lv.least i2 (i3 rfl) h⟩⟩) (s:=(vec (NB b) (fun n=>decide (n < NB b)&&R n),true)) ⟨_,rfl,fun n hn=>by
     rw [Bool.and_eq_true,decide_eq_true_eq] at hn
     exact .rd hn.1 hn.2,fun n hn hr=>by rw [decide_eq_true hn,hr]; rfl,fun h=>by cases h⟩
 have e0:vec (NB b) R=vec (NB b) (fun n=>decide (n < NB b)&&R n):=by
   unfold vec
   exact gy fun n hn=>by
     have e:(decide (n < NB b)&&R n)=R n:=by rw [decide_eq_true hn,Bool.true_and]
     simp only [e]
 rw [e0,h1]
 obtain ⟨V,rfl,hV⟩:=h2
 rw [Option.bind_some]
 congr 1
 unfold vec
 refine gy fun n _=>?_
 have:V n=lvB b l n:=by rw [Bool.eq_iff_iff,hV,iq,hLv]
 rw [this]
section
section
variable {b:Bo} {C:List Sw}
theorem GF:iV none=some []:=by
 unfold iV
 have h1:cD none 0=some (-1):=rfl
 rw [show iZ none=some () from rfl,Option.bind_some,h1,Option.bind_some,fN (b:=([]:List Int)) rfl]; rfl
theorem xO (hC:CsOk b C) {k:Nat} (hk:k < C.length):cQ (some ((NB b:Int),C)) (k:Int)=some (li (lvN b k)):=by
 unfold cQ
 rw [Ji hk,Option.bind_some]
 rcases hC.ok k _ (List.getElem?_eq_getElem hk) with ⟨e,h⟩ | ⟨w,e,hd,h⟩
 . rw [e,GF,GT h]; rfl
 . rw [e,HO hd,G5 h]; rfl
end
theorem GB {b:Bo} (h:Sm b):ml b=some ((List.range b.2.2.2.1.length).map fun k=>vec (NB b) (lvB b k)):=by
 have hL:=h.locals
 unfold ml
 have hl:=aF (body:=lE b) (fun n:Nat=>((List.range n).map (fun k=>vec (NB b) (lvB b k)),(n:Int))) b.2.2.2.1.length (b:=(List.range b.2.2.2.1.length).map fun k=>vec (NB b) (lvB b k)) (fun n hn=>by
     unfold lE
     dsimp only
     rw [dlt hn,cond_true,show lD b (n:Int)=_ from IM h n,Option.bind_some,aH (by simp; omega),Option.bind_some,aj hn (by omega),List.range_succ,List.map_append]
     rfl) (by
     unfold lE
     dsimp only
     rw [dge (Nat.lt_irrefl _),cond_false])
 rw [show loop (lE b) ([],0)=_ from hl]; rfl
theorem Ie {A B:List Nat} (h:A.length≤1000000):bh (li A) (li B)=some (decide (A=B)):=by
 rw [pA _ _ (by rw [bz]; omega)]
 congr 1
 rw [decide_eq_decide]
 constructor
 . intro e
   have key:∀ L:List Nat,(li L).map Int.toNat=L:=fun L=>by
     unfold li
     rw [List.map_map,show (Int.toNat ∘ fun i:Nat=>(i:Int))=id from funext fun n=>Int.toNat_natCast n,List.map_id]
   rw [← key A,e,key B]
 . exact fun e=>by rw [e]
end
def ins (i:Int):List Int→List Int
 | []=>[i]
 | x :: l=>if i < x then i :: x :: l else x :: ins i l
theorem qa (i a:Int):∀ l,a∈ins i l↔a=i∨a∈l
 | []=>by simp [ins]
 | x :: l=>by
   unfold ins
   split
   . simp
   . rw [List.mem_cons,qa i a l,List.mem_cons]
     constructor
     . rintro (h | h | h) <;> simp [h]
     . rintro (h | h | h) <;> simp [h]
theorem vm (i:Int):∀ l:List Int,l.Pairwise (· < ·)→i∉l→(ins i l).Pairwise (· < ·)
 | [],_,_=>by simp [ins]
 | x :: l,h,hi=>by
   obtain ⟨h1,h2⟩:=List.pairwise_cons.1 h
   have hx:i≠x:=fun e=>hi (by simp [e])
   unfold ins
   split
   . rename_i hlt
     refine List.pairwise_cons.2 ⟨fun a ha=>?_,h⟩
     rcases List.mem_cons.1 ha with rfl | ha
     . exact hlt
     . have:=h1 a ha; omega
   . refine List.pairwise_cons.2 ⟨fun a ha=>?_,vm i l h2 (fun hm=>hi (by simp [hm]))⟩
     rcases (qa i a l).1 ha with rfl | ha
     . omega
     . exact h1 a ha
theorem zI (i:Int):∀ l:List Int,(ins i l).length=l.length + 1
 | []=>rfl
 | x :: l=>by unfold ins; split <;> simp [zI i l]
theorem uF (i x:Int) (l:List Int):ins i (x :: l)=if i < x then i :: x :: l else x :: ins i l:=rfl
def BQ (L:List Int) (i:Int):Bool:=decide (i∈L)
def aG (s:Int) (L:List Int) (i:Int):List Int:=if (0≤i∧i < s)∧i∉L then ins i L else L
def bM (s:Int) (L:List Int) (i:Int):Bool:=decide ((0≤i∧i < s)∧i∉L)
def rOr (s:Int) (L:List Int):List Int→List Int×Bool
 | []=>(L,false)
 | x :: l=>((rOr s (aG s L x) l).1,bM s L x||(rOr s (aG s L x) l).2)
theorem yK (s:Int) (L:List Int) (i:Int):(aG s L i).length≤L.length + 1:=by
 unfold aG
 split
 . rw [zI]; exact Nat.le_refl _
 . omega
theorem uz (s:Int) (x:Int):∀ (l L:List Int),rOr s L (l++[x])=(aG s (rOr s L l).1 x,(rOr s L l).2||bM s (rOr s L l).1 x)
 | [],L=>by simp [rOr]
 | y :: l,L=>by
   rw [List.cons_append]
   unfold rOr
   rw [uz s x l]
   simp [Bool.or_assoc]
theorem Ah {s:Int} {L:List Int} (h:L.Pairwise (· < ·)) (i:Int):(aG s L i).Pairwise (· < ·):=by
 unfold aG
 split
 . rename_i h4; exact vm _ _ h h4.2
 . exact h
theorem dz {s:Int} {L:List Int} (i x:Int):x∈aG s L i↔x∈L∨(x=i∧0≤i∧i < s):=by
 unfold aG
 split
 . rename_i h4
   rw [qa]
   constructor
   . rintro (h | h)
     . exact .inr ⟨h,h4.1⟩
     . exact .inl h
   . rintro (h | h)
     . exact .inr h
     . exact .inl h.1
 . rename_i h4
   constructor
   . exact .inl
   . rintro (h | ⟨rfl,h⟩)
     . exact h
     . refine Classical.byContradiction fun h5=>h4 ⟨h,h5⟩
theorem A0 (s:Int):∀ (l L:List Int),L.Pairwise (· < ·)→(rOr s L l).1.Pairwise (· < ·)
 | [],_,h=>h
 | x :: l,L,h=>A0 s l _ (Ah h x)
theorem qm (s:Int) (x:Int):∀ (l L:List Int),x∈(rOr s L l).1↔x∈L∨(x∈l∧0≤x∧x < s)
 | [],L=>by simp [rOr]
 | y :: l,L=>by
   unfold rOr
   dsimp only
   rw [qm s x l,dz,List.mem_cons]
   constructor
   . rintro ((h | ⟨h,h2⟩) | ⟨h,h2⟩)
     . exact .inl h
     . subst h; exact .inr ⟨.inl rfl,h2⟩
     . exact .inr ⟨.inr h,h2⟩
   . rintro (h | ⟨h | h,h2⟩)
     . exact .inl (.inl h)
     . subst h; exact .inl (.inr ⟨rfl,h2⟩)
     . exact .inr ⟨h,h2⟩
theorem AL (s:Int):∀ (l L:List Int),(rOr s L l).2=true↔∃ x∈l,(0≤x∧x < s)∧x∉L
 | [],L=>by simp [rOr]
 | y :: l,L=>by
   unfold rOr
   dsimp only
   rw [Bool.or_eq_true,AL s l]
   unfold bM
   rw [decide_eq_true_eq]
   constructor
   . rintro (h | ⟨x,h1,h2,h3⟩)
     . exact ⟨y,by simp,h⟩
     . exact ⟨x,by simp [h1],h2,fun h=>h3 ((dz _ _).2 (.inl h))⟩
   . rintro ⟨x,h1,h2,h3⟩
     by_cases hy:(0≤y∧y < s)∧y∉L
     . exact .inl hy
     . rcases List.mem_cons.1 h1 with rfl | h1
       . exact absurd ⟨h2,h3⟩ hy
       . refine .inr ⟨x,h1,h2,fun h=>?_⟩
         rcases (dz _ _).1 h with h | ⟨rfl,h⟩
         . exact h3 h
         . exact hy ⟨h,h3⟩
theorem uL {A B:List Int} (hA:A.Pairwise (· < ·)) (hB:B.Pairwise (· < ·)) (h:∀ x∈A,x∈B):A.length≤B.length:=by
 have e:B.filter (fun x=>decide (x∈A))=A:=by
   refine eJ (List.Pairwise.filter _ hB) hA fun x=>?_
   rw [List.mem_filter,decide_eq_true_eq]
   exact ⟨fun h=>h.2,fun hx=>⟨h x hx,hx⟩⟩
 rw [← e]
 exact List.length_filter_le _ _
theorem yE {x:Int}:∀ {A:List Int},(∀ y∈A,y < x)→ins x A=A++[x]
 | [],_=>rfl
 | a :: A,h=>by
   have:=h a (by simp)
   rw [uF,if_neg (by omega),yE (fun y hy=>h y (by simp [hy]))]
   rfl
structure Rp (n:Nat) (l:List Int) (L:List Int):Prop where
 ds:Ds n l
 rs:L.Pairwise (· < ·)
 mm:∀ x:Int,x∈L↔0≤x∧mem l x.toNat=true
theorem Hr (M:List Nat) (x:Int):x∈liN M↔0≤x∧x.toNat∈M:=by
 unfold liN
 rw [List.mem_map]
 constructor
 . rintro ⟨a,ha,rfl⟩
   exact ⟨Int.natCast_nonneg _,by simpa using ha⟩
 . rintro ⟨h1,h2⟩
   exact ⟨x.toNat,h2,Int.toNat_of_nonneg h1⟩
theorem fG {n:Nat} {l:List Int} (h:Ds n l) {k:Nat} (hk:mem l k=true):k < n:=by
 rcases Nat.lt_or_ge k n with h1 | h1
 . exact h1
 . rw [h.top k h1] at hk; cases hk
theorem FT {n:Nat} {l:List Int} (h:Ds n l) (k:Nat):k∈bP n l↔mem l k=true:=by
 unfold bP
 rw [List.mem_filter,List.mem_range]
 exact ⟨fun h=>h.2,fun hk=>⟨fG h hk,hk⟩⟩
theorem IS (n:Nat) (l:List Int):(liN (bP n l)).Pairwise (· < ·):=by
 unfold liN bP
 rw [List.pairwise_map]
 refine List.Pairwise.imp (fun h=>?_) (List.Pairwise.filter (mem l) (List.pairwise_lt_range (n:=n)))
 exact Int.ofNat_lt.2 h
theorem Rp.eq {n:Nat} {l L:List Int} (h:Rp n l L):liN (bP n l)=L :=
 eJ (IS n l) h.rs (fun x=>by rw [Hr,FT h.ds,h.mm])
theorem Rp.len {n:Nat} {l L:List Int} (h:Rp n l L):(bP n l).length=L.length:=by
 rw [← h.eq]; simp [liN]
theorem Rp.le {n:Nat} {l L:List Int} (h:Rp n l L):L.length≤n:=by
 rw [← h.len]; exact mw _ _
theorem I3 {n:Nat} (h:n≤1048576):Rp n (List.replicate ((n + 63) / 64) 0) [] :=
 ⟨AZ h,List.Pairwise.nil,fun x=>by simp [uU]⟩
theorem Rp.has {n:Nat} {l L:List Int} (h:Rp n l L) (i:Int):cE (some ((n:Int),l)) i=some (BQ L i):=by
 rw [pH h.ds]
 congr 1
 unfold BQ
 rw [Bool.eq_iff_iff,Bool.and_eq_true,decide_eq_true_eq,decide_eq_true_eq,h.mm]
 constructor
 . exact fun h=>⟨h.1.1,h.2⟩
 . intro h2
   have:=fG h.ds h2.2
   exact ⟨⟨h2.1,by omega⟩,h2.2⟩
theorem Rp.add {n:Nat} {l L:List Int} (h:Rp n l L) (i:Int):∃ l',dn i n l=some (bM n L i,l')∧Rp n l' (aG n L i):=by
 obtain ⟨l',h1,h2,h3⟩:=pG h.ds i
 have hm:=h.mm i
 have e:(decide (0≤i∧i < n)&&!mem l i.toNat)=bM n L i:=by
   unfold bM
   rw [Bool.eq_iff_iff,Bool.and_eq_true,decide_eq_true_eq,decide_eq_true_eq,hm]
   constructor
   . rintro ⟨h5,h6⟩
     exact ⟨h5,fun h7=>by rw [h7.2] at h6; cases h6⟩
   . rintro ⟨h5,h6⟩
     refine ⟨h5,?_⟩
     cases h7:mem l i.toNat with
     | false=>rfl
     | true=>exact absurd ⟨h5.1,h7⟩ h6
 refine ⟨l',by rw [h1,e],h2,?_,fun x=>?_⟩
 . unfold aG
   split
   . rename_i h4
     exact vm _ _ h.rs h4.2
   . exact h.rs
 . rw [h3]
   unfold aG
   split
   . rename_i h4
     rw [qa,h.mm,Bool.or_eq_true,decide_eq_true_eq]
     constructor
     . rintro (rfl | h5)
       . exact ⟨h4.1.1,.inr ⟨h4.1,rfl⟩⟩
       . exact ⟨h5.1,.inl h5.2⟩
     . rintro ⟨h5,h6 | h6⟩
       . exact .inr ⟨h5,h6⟩
       . exact .inl (by omega)
   . rename_i h4
     rw [h.mm,Bool.or_eq_true,decide_eq_true_eq]
     constructor
     . exact fun h5=>⟨h5.1,.inl h5.2⟩
     . rintro ⟨h5,h6 | h6⟩
       . exact ⟨h5,h6⟩
       . have hx:x=i:=by omega
         subst hx
         refine ⟨h5,?_⟩
         cases h7:mem l x.toNat with
         | true=>rfl
         | false=>exact absurd ⟨h6.1,fun h8=>by rw [(hm.1 h8).2] at h7; cases h7⟩ h4
theorem xQ {n:Nat} {l L:List Int} (h:Rp n l L) {body:Int×List Int→Option ((Int×List Int)⊕List Int)}
   (hb:∀ (c:List Int) (k:Nat),mem l k=true→body ((k:Int),c)=(app c [(k:Int)]).bind fun z=>(cD (some ((n:Int),l)) ((k:Int) + 1)).bind fun i=>some (.inl (i,z))) (he:∀ c,body (-1,c)=some (.inr c)) :
   ∃ r,cD (some ((n:Int),l)) 0=some r∧loop body (r,[])=some L:=by
 have:=A7 h.ds hb he
 rw [h.eq] at this
 exact this
def rk (L:List Int) (i:Int):Nat:=(L.filter (fun x=>decide (x < i))).length
theorem BF (L:List Int) (i:Int):rk L i≤L.length:=List.length_filter_le _ _
theorem ud (i:Int):∀ {L:List Int},L.Pairwise (· < ·)→∀ k (hk:k < L.length),L[k] < i↔k < rk L i
 | [],_,k,hk=>by simp at hk
 | x :: L,h,k,hk=>by
   obtain ⟨h1,h2⟩:=List.pairwise_cons.1 h
   by_cases hx:x < i
   . have e:rk (x :: L) i=rk L i + 1:=by unfold rk; simp [hx]
     rw [e]
     cases k with
     | zero=>simp [hx]
     | succ k =>
       have:=ud i h2 k (by simpa using hk)
       simp only [List.getElem_cons_succ]
       rw [this]
       omega
   . have e:rk (x :: L) i=0:=by
       unfold rk
       rw [List.length_eq_zero_iff,List.filter_eq_nil_iff]
       intro y hy
       rcases List.mem_cons.1 hy with rfl | hy
       . simpa using hx
       . have:=h1 y hy
         simp
         omega
     rw [e]
     have:x≤(x :: L)[k]:=by
       cases k with
       | zero=>exact Int.le_refl _
       | succ k=>exact Int.le_of_lt (h1 _ (by simp))
     omega
theorem vO {L:List Int} (h:L.Pairwise (· < ·)) {i:Int} {n:Nat} (hn:n≤L.length) (h1:∀ k (hk:k < L.length),k < n→L[k] < i) (h2:∀ k (hk:k < L.length),n≤k→¬ L[k] < i):rk L i=n:=by
 have hl:=BF L i
 rcases Nat.lt_trichotomy (rk L i) n with h3 | h3 | h3
 . have:=(ud i h (rk L i) (by omega)).1 (h1 _ (by omega) h3)
   omega
 . exact h3
 . exact absurd ((ud i h n (by omega)).2 h3) (h2 n (by omega) (Nat.le_refl _))
theorem HT {L:List Int} (h:L.Pairwise (· < ·)) {k:Nat} (hk:k < L.length):rk L (L[k] + 1)=k + 1:=by
 have hp:=List.pairwise_iff_getElem.1 h
 refine vO h (by omega) (fun j hj hjk=>?_) (fun j hj hjk=>?_)
 . rcases Nat.lt_or_ge j k with h1 | h1
   . have:=hp j k hj hk h1; omega
   . have:j=k:=by omega
     subst this; omega
 . have:=hp k j hk hj (by omega); omega
theorem Ir {L:List Int} (h:L.Pairwise (· < ·)) {k:Nat} (hk:k < L.length):rk L L[k]=k:=by
 have hp:=List.pairwise_iff_getElem.1 h
 refine vO h (by omega) (fun j hj hjk=>hp j k hj hk hjk) (fun j hj hjk=>?_)
 rcases Nat.lt_or_ge k j with h1 | h1
 . have:=hp k j hk hj h1; omega
 . have:j=k:=by omega
   subst this; omega
theorem AH {L:List Int} (h:L.Pairwise (· < ·)) (i:Int):i∈L↔∃ hk:rk L i < L.length,L[rk L i]=i:=by
 constructor
 . intro hi
   obtain ⟨k,hk,rfl⟩:=List.getElem_of_mem hi
   have e:=Ir h hk
   exact ⟨by rw [e]; exact hk,by simp only [e]⟩
 . rintro ⟨hk,e⟩
   rw [← e]
   exact List.getElem_mem hk
theorem E3 (a b:Int):oP a b=some (decide (a < b)):=by
 unfold oP oK
 simp
theorem H3 (s:Nat) (h:s≤4611686018427387904):IntKind.wrap .i64 (Int.fdiv (IntKind.wrap .u64 (IntKind.wrap .i64 (s:Int))) (2 ^ (min (Int.toNat 1) (IntKind.bits .u64))))=((s / 2:Nat):Int):=by
 rw [w64 (x:=(s:Int)) (by omega) (by omega)]
 have e1:IntKind.wrap .u64 (s:Int)=(s:Int):=by rw [IntKind.wrap_u64]; omega
 rw [e1]
 have e2:((2:Int) ^ (min (Int.toNat 1) (IntKind.bits .u64)))=((2:Nat):Int):=rfl
 rw [e2,Int.fdiv_eq_ediv_of_nonneg _ (Int.natCast_nonneg _)]
 rw [show (s:Int) / ((2:Nat):Int)=((s / 2:Nat):Int) from rfl]
 exact w64 (by omega) (by omega)
theorem Ia {L:List Int} (h:L.Pairwise (· < ·)) (hl:L.length≤4000000) (x:Int):loop (sb L x) ((0:Int),((L.length:Nat):Int))=some ((rk L x:Nat):Int):=by
 refine zi (fun s=>∃ lo hi:Nat,s=((lo:Int),(hi:Int))∧lo≤hi∧hi≤L.length∧(∀ k (hk:k < L.length),k < lo→L[k] < x)∧(∀ k (hk:k < L.length),hi≤k→¬ L[k] < x)) (fun s=>s.2.toNat - s.1.toNat) ?_ ⟨0,L.length,rfl,Nat.zero_le _,Nat.le_refl _,fun k hk h=>absurd h (by omega),fun k hk h=>absurd h (by omega)⟩
 rintro s ⟨lo,hi,rfl,h1,h2,h3,h4⟩
 unfold sb
 by_cases hlt:lo < hi
 . left
   have hm:(lo + hi) / 2 < L.length:=by omega
   have hmid:=H3 (lo + hi) (by omega)
   rw [Int.natCast_add] at hmid
   have hp:=List.pairwise_iff_getElem.1 h
   simp only [dlt hlt,cond_true,hmid,ah hm,Option.bind_some,E3]
   by_cases hx:L[(lo + hi) / 2] < x
   . refine ⟨((((lo + hi) / 2 + 1:Nat):Int),(hi:Int)),?_,⟨_,hi,rfl,by omega,h2,fun k hk hkl=>?_,h4⟩,?_⟩
     . rw [decide_eq_true hx,cond_true,aj hm (by omega)]
     . rcases Nat.lt_or_ge k ((lo + hi) / 2) with h5 | h5
       . have:=hp k _ hk hm h5; omega
       . have:k=(lo + hi) / 2:=by omega
         subst this; exact hx
     . show (hi:Int).toNat - (((lo + hi) / 2 + 1:Nat):Int).toNat < (hi:Int).toNat - (lo:Int).toNat
       rw [Int.toNat_natCast,Int.toNat_natCast,Int.toNat_natCast]; omega
   . refine ⟨((lo:Int),(((lo + hi) / 2:Nat):Int)),?_,⟨lo,_,rfl,by omega,by omega,h3,fun k hk hkl=>?_⟩,?_⟩
     . rw [decide_eq_false hx,cond_false]
     . rcases Nat.lt_or_ge ((lo + hi) / 2) k with h5 | h5
       . have:=hp _ k hm hk h5; omega
       . have:k=(lo + hi) / 2:=by omega
         subst this; exact hx
     . show (((lo + hi) / 2:Nat):Int).toNat - (lo:Int).toNat < (hi:Int).toNat - (lo:Int).toNat
       rw [Int.toNat_natCast,Int.toNat_natCast,Int.toNat_natCast]; omega
 . right
   have e:hi=lo:=by omega
   subst e
   rw [vO h h2 h3 h4]
   simp only [dge hlt,cond_false]
theorem HK {L:List Int} (h:L.Pairwise (· < ·)) (hl:L.length≤4000000) (x:Int):nN L x=some (((rk L x:Nat):Int),decide (x∈L)):=by
 unfold nN
 rw [Ia h hl]
 simp only [Option.bind_some]
 have hm:=AH h x
 by_cases hk:rk L x < L.length
 . simp only [dlt hk,cond_true,ah hk,Option.bind_some]
   by_cases hx:L[rk L x]=x
   . have:x∈L:=hm.2 ⟨hk,hx⟩
     simp [hx,this]
   . have:¬ x∈L:=fun h=>hx (hm.1 h).2
     simp [hx,this,n9]
 . have:¬ x∈L:=fun h=>hk (hm.1 h).1
   simp only [dge hk,cond_false,Option.bind_some,decide_eq_false this]
theorem ED {L:List Int} (h:L.Pairwise (· < ·)) (hl:L.length≤4000000) (x:Int):bQ (some L) x=some ((rk L x:Nat):Int):=by
 unfold bQ
 simp only [Option.isNone_some,cond_false,Option.bind_some,HK h hl]
theorem eR {L:List Int} (k:Nat):bv (some L) (k:Int)=some (L.getD k 0,decide (k < L.length)):=by
 unfold bv lq
 have h0:¬ ((k:Int) < 0):=by omega
 simp only [decide_eq_false h0,cond_false,Option.bind_some,Option.isNone_some]
 by_cases hk:k < L.length
 . have h1:¬ (((L.length:Nat):Int)≤(k:Int)):=by omega
   simp only [decide_eq_false h1,cond_false,ah hk,Option.bind_some]
   simp [hk]
 . have h1:(((L.length:Nat):Int)≤(k:Int)):=by omega
   simp only [decide_eq_true h1,cond_true]
   simp [hk]
structure Sp (L:List Int):Prop where
 rs:L.Pairwise (· < ·)
 bd:∀ x∈L,0≤x∧x≤2147483647
 ln:L.length≤1000000
theorem Sp.rank {L:List Int} (h:Sp L) (x:Int):bQ (some L) x=some ((rk L x:Nat):Int):=ED h.rs (Nat.le_trans h.ln (by decide)) x
theorem Sp.has {L:List Int} (h:Sp L) (x:Int):iT (some L) x=some (decide (x∈L)):=by
 have hl:=h.ln
 unfold iT
 rw [h.rank]
 simp only [Option.bind_some,eR]
 have hm:=AH h.rs x
 congr 1
 rw [Bool.eq_iff_iff,Bool.and_eq_true,decide_eq_true_eq,decide_eq_true_eq,decide_eq_true_eq,hm]
 constructor
 . rintro ⟨h1,h2⟩
   refine ⟨h1,?_⟩
   simpa [h1] using h2
 . rintro ⟨h1,h2⟩
   refine ⟨h1,?_⟩
   simpa [h1] using h2
theorem pC {L:List Int} (h:Sp L) {k:Nat} (hk:k < L.length):bQ (some L) (IntKind.wrap .i64 (L[k] + 1))=some ((k + 1:Nat):Int):=by
 have hb:=h.bd L[k] (List.getElem_mem hk)
 rw [w64 (by omega) (by omega),h.rank,HT h.rs hk]
theorem Mi {x i:Int} (L:List Int) (h:x < i):rk (x :: L) i=rk L i + 1:=by unfold rk; simp [h]
theorem N2 {x i:Int} {L:List Int} (h:¬ x < i) (hs:(x :: L).Pairwise (· < ·)):rk (x :: L) i=0:=by
 obtain ⟨h1,h2⟩:=List.pairwise_cons.1 hs
 unfold rk
 rw [List.length_eq_zero_iff,List.filter_eq_nil_iff]
 intro y hy
 rcases List.mem_cons.1 hy with rfl | hy
 . simpa using h
 . have:=h1 y hy
   simp
   omega
theorem AS (i:Int):∀ {L:List Int},L.Pairwise (· < ·)→i∉L→L.take (rk L i)++[i]++L.drop (rk L i)=ins i L
 | [],_,_=>rfl
 | x :: L,hs,hi=>by
   obtain ⟨h1,h2⟩:=List.pairwise_cons.1 hs
   have hne:i≠x:=fun e=>hi (by simp [e])
   by_cases hx:x < i
   . rw [Mi L hx,uF,if_neg (by omega),← AS i h2 (fun h=>hi (by simp [h]))]
     simp
   . rw [N2 hx hs,uF,if_pos (by omega)]
     rfl
def un (L M:List Int):List Int:=(rOr 2147483648 L M).1
theorem EY {L:List Int} (h:Sp L) (i:Int) (hl:L.length + 1≤1000000):nT i L=some (bM 2147483648 L i,aG 2147483648 L i)∧Sp (aG 2147483648 L i):=by
 refine ⟨?_,Ah h.rs i,fun x hx=>?_,Nat.le_trans (yK _ _ _) hl⟩
 . have hcond:(gN i).bind (fun t380=>cond (!t380) (some (true)) ((iT (some L) i).bind fun t395=>some (t395)))=some (!bM 2147483648 L i):=by
     rw [show gN i=some ((decide (0≤i))&&(decide (i≤2147483647))) from rfl,h.has]
     unfold bM
     by_cases h1:0≤i
     . by_cases h2:i≤2147483647
       . have h3:i < 2147483648:=by omega
         simp [h1,h2,h3]
       . have h3:¬ i < 2147483648:=by omega
         simp [h1,h2,h3]
     . simp [h1]
   unfold nT
   have hm:∀ {β:Type} (k:Bool→Option β),((gN i).bind fun t380=>(cond (!t380) (some (true)) ((iT (some L) i).bind fun t395=>some (t395))).bind k)=k (!bM 2147483648 L i):=fun k=>by
     have:=congrArg (fun z=>Option.bind z k) hcond
     simpa [Option.bind_assoc] using this
   rw [hm]
   cases ho:bM 2147483648 L i with
   | false =>
     have:¬ ((0≤i∧i < 2147483648)∧i∉L):=of_decide_eq_false ho
     unfold aG
     rw [if_neg this]
     rfl
   | true =>
     have hh:(0≤i∧i < 2147483648)∧i∉L:=of_decide_eq_true ho
     have he:aG 2147483648 L i=ins i L:=by unfold aG; rw [if_pos hh]
     have hrk:=BF L i
     have hi:dJ L ((rk L i:Nat):Int) [i]=some (ins i L):=by
       unfold dJ
       rw [if_pos ⟨by omega,by omega,by simp,by simp; omega⟩,Int.toNat_natCast,AS i h.rs hh.2]
     simp only [Bool.not_true,cond_false,h.rank,Option.bind_some,hi,pN,he]
 . rcases (dz i x).1 hx with h1 | ⟨rfl,h2⟩
   . exact h.bd x h1
   . omega
def qZ (l:List Int):List Int:=l.mergeSort fun x y=>decide (x≤y)
theorem H8 {l:List Int} (h:l.length≤1073741824):srt l=some (qZ l):=by unfold srt; rw [if_pos h]; rfl
def cpS (l:List Int):List Int:=Lib.compact (qZ l)
theorem HL (l:List Int):(cpS l).length≤l.length:=by
 have:=Lib.compact_length_le (qZ l)
 unfold qZ at this
 rw [List.length_mergeSort] at this
 exact this
def okm (i:Int):Bool:=decide (0≤i)&&decide (i≤2147483647)
def ofS (xa:List Int):List Int:=cpS (xa.filter okm)
theorem HU {xa:List Int} (h:xa.length≤1000000):gU xa=some (ofS xa):=by
 have hlp:loop (lK xa) ((0:Int),([]:List Int))=some (xa.filter okm):=by
   have:=aF (body:=lK xa) (fun k:Nat=>((k:Int),(xa.take k).filter okm)) xa.length (b:=xa.filter okm) ?_ ?_
   . exact this
   . intro k hk
     unfold lK
     have hle:=List.length_filter_le okm (xa.take k)
     have ha:app ((xa.take k).filter okm) [xa[k]]=some ((xa.take k).filter okm++[xa[k]]):=aH (by simp at hle ⊢; omega)
     have e:(xa.take (k + 1)).filter okm=(xa.take k).filter okm++(if okm xa[k] then [xa[k]] else []):=by
       rw [aM hk,List.filter_append]
       cases hm:okm xa[k] <;> simp [hm]
     simp only [dlt hk,cond_true,ah hk,Option.bind_some,show ∀ i,gN i=some (okm i) from fun _=>rfl,ha,e,aj hk (by omega)]
     cases hm:okm xa[k] <;> simp
   . unfold lK
     simp
 unfold gU
 rw [hlp]
 have hle:=List.length_filter_le okm xa
 simp only [Option.bind_some,H8 (l:=xa.filter okm) (by omega)]
 rfl
theorem H6 (xa:List Int):(ofS xa).length≤xa.length:=Nat.le_trans (HL _) (List.length_filter_le _ _)
structure Mx (n:Nat) (f:Option (List Int)) (b:Option (Int×List Int)) (L:List Int):Prop where
 hn:n≤1048576
 rs:L.Pairwise (· < ·)
 bd:∀ x∈L,0≤x∧x < n
 st:(f=some L∧b=none∧L.length≤8)∨∃ w,f=none∧b=some ((n:Int),w)∧Rp n w L
theorem Rp.bd {n:Nat} {w L:List Int} (h:Rp n w L):∀ x∈L,0≤x∧x < n:=fun x hx=>by
 have:=(h.mm x).1 hx
 have:=fG h.ds this.2
 omega
theorem ni {n:Nat} {L:List Int} (hn:n≤1048576) (hr:L.Pairwise (· < ·)) (hb:∀ x∈L,0≤x∧x < n) (hl:L.length≤9):Sp L :=
 ⟨hr,fun x hx=>by have:=hb x hx; omega,by omega⟩
theorem Iu {n:Nat} {L:List Int} (hr:L.Pairwise (· < ·)) (hb:∀ x∈L,0≤x∧x < n):L.length≤n:=by
 have h2:((List.range n).map (fun k:Nat=>(k:Int))).Pairwise (· < ·):=by
   rw [List.pairwise_map]
   exact List.Pairwise.imp (fun h=>Int.ofNat_lt.2 h) (List.pairwise_lt_range (n:=n))
 have:=uL hr h2 (fun x hx=>by
   have:=hb x hx
   rw [List.mem_map]
   exact ⟨x.toNat,List.mem_range.2 (by omega),by omega⟩)
 simpa using this
theorem Mx.len {n:Nat} {f:Option (List Int)} {b:Option (Int×List Int)} {L:List Int} (h:Mx n f b L):L.length≤n:=Iu h.rs h.bd
theorem HM {n:Nat} {L:List Int} {i:Int} (hn:n≤1048576) (hi:0≤i∧i < n):aG 2147483648 L i=aG n L i∧bM 2147483648 L i=bM n L i:=by
 have h1:0≤i∧i < 2147483648:=by omega
 unfold aG bM
 simp [h1,hi]
theorem Ga {n:Nat} {L:List Int} {i:Int} (hi:¬ (0≤i∧i < n)):aG n L i=L∧bM n L i=false:=by
 unfold aG bM
 rw [if_neg (fun h=>hi h.1),decide_eq_false (fun h=>hi h.1)]
 exact ⟨rfl,rfl⟩
theorem uZ {n:Nat} {L:List Int} (i:Int) (hb:∀ x∈L,0≤x∧x < n):∀ x∈aG n L i,0≤x∧x < n:=fun x hx=>by
 rcases (dz i x).1 hx with h | ⟨rfl,h⟩
 . exact hb x h
 . exact h
theorem pp (n:Int) (f:Option (List Int)) (b:Option (Int×List Int)):dN (some (n,f,b))=some b.isSome:=by
 unfold dN
 cases b <;> rfl
theorem xv {n:Nat} {L:List Int} (hn:n≤1048576) (h:Sp L) (hb:∀ x∈L,0≤x∧x < n) (b:Option (Int×List Int)):∃ w,kI n (some L) b=some (some ((n:Int),w))∧Rp n w L:=by
 have hl:=h.ln
 have hp:=List.pairwise_iff_getElem.1 h.rs
 have key:=bL (body:=se n L) (fun s=>∃ k:Nat,k≤L.length∧s.1=L.getD k 0∧s.2.1=decide (k < L.length)∧Rp n s.2.2 (L.take k)) (fun s=>if s.2.1 then (L.filter (fun x=>decide (s.1≤x))).length else 0) (Q:=fun w=>Rp n w L) ?_ (s:=(L.getD 0 0,decide (0 < L.length),List.replicate ((n + 63) / 64) (0:Int))) ⟨0,Nat.zero_le _,rfl,rfl,I3 hn⟩
 . obtain ⟨w,k1,k2⟩:=key
   refine ⟨w,?_,k2⟩
   unfold kI
   have h1:¬ ((n:Int) < 0):=by omega
   have h2:¬ (1048576 < (n:Int)):=by omega
   rw [yQ,if_neg h1,if_neg h2,Int.toNat_natCast]
   simp only [Option.bind_some,show dM L=some L from rfl]
   have at0:bv (some L) 0=some (L.getD 0 0,decide (0 < L.length)):=eR 0
   rw [at0]
   simp only [Option.bind_some,k1]
 . rintro ⟨i,t,w⟩ ⟨k,hk,rfl,rfl,hw⟩
   dsimp only at hw ⊢
   unfold se
   by_cases hkl:k < L.length
   . left
     have hg:L.getD k 0=L[k]:=by simp [hkl]
     obtain ⟨w',a1,a2⟩:=hw.add L[k]
     have hbk:=hb L[k] (List.getElem_mem hkl)
     have hlt:∀ y∈L.take k,y < L[k]:=fun y hy=>by
       obtain ⟨j,hj,rfl⟩:=List.mem_take_iff_getElem.1 hy
       exact hp j k (by omega) hkl (by omega)
     have hni:L[k]∉L.take k:=fun hm=>by have:=hlt _ hm; omega
     have e:aG n (L.take k) L[k]=L.take (k + 1):=by
       unfold aG
       rw [if_pos ⟨hbk,hni⟩,yE hlt,aM hkl]
     rw [e] at a2
     refine ⟨(L.getD (k + 1) 0,decide (k + 1 < L.length),w'),?_,⟨k + 1,by omega,rfl,rfl,a2⟩,?_⟩
     . simp only [decide_eq_true hkl,cond_true,hg,a1,Option.bind_some,pC h hkl,eR]
     . dsimp only
       rw [decide_eq_true hkl,if_pos rfl,hg]
       by_cases hk2:k + 1 < L.length
       . have hg2:L.getD (k + 1) 0=L[k + 1]:=by simp [hk2]
         rw [decide_eq_true hk2,if_pos rfl,hg2]
         have hs:(L.filter (fun x=>decide (L[k + 1]≤x)))=(L.filter (fun x=>decide (L[k]≤x))).filter (fun x=>decide (L[k + 1]≤x)):=by
           rw [List.filter_filter]
           refine List.filter_congr fun x hx=>?_
           have:=hp k (k + 1) hkl hk2 (by omega)
           by_cases h1:L[k + 1]≤x
           . have h2:L[k]≤x:=by omega
             simp [h1,h2]
           . simp [h1]
         rw [hs,List.length_filter_lt_length_iff_exists]
         refine ⟨L[k],List.mem_filter.2 ⟨List.getElem_mem hkl,by simp⟩,?_⟩
         have:=hp k (k + 1) hkl hk2 (by omega)
         simp
         omega
       . rw [decide_eq_false hk2]
         simp only [Bool.false_eq_true,if_false]
         refine List.length_pos_of_mem (a:=L[k]) (List.mem_filter.2 ⟨List.getElem_mem hkl,by simp⟩)
   . right
     have e:k=L.length:=by omega
     subst e
     rw [List.take_length] at hw
     refine ⟨w,?_,hw⟩
     simp
theorem mC {n:Nat} {f:Option (List Int)} {b:Option (Int×List Int)} {L:List Int} (h:Mx n f b L) (i:Int):∃ f' b',bJ i n f b=some (bM n L i,f',b')∧Mx n f' b' (aG n L i)∧b'.isSome=(b.isSome||decide (8 < (aG n L i).length)):=by
 have hn:=h.hn
 have hcond:(cond (decide (i < 0)) (some (true)) ((b8 (some ((n:Int),f,b))).bind fun i173=>some (decide (i173≤i))))=some (!decide (0≤i∧i < n)):=by
   rw [show b8 (some ((n:Int),f,b))=some (n:Int) from rfl]
   by_cases h1:i < 0
   . have h2:¬ 0≤i:=by omega
     simp [h1,h2]
   . have h2:0≤i:=by omega
     by_cases h3:(n:Int)≤i
     . have h4:¬ i < n:=by omega
       simp [h1,h2,h3,h4]
     . have h4:i < n:=by omega
       simp [h1,h2,h3,h4]
 unfold bJ
 rw [hcond]
 simp only [Option.bind_some]
 by_cases hi:0≤i∧i < (n:Int)
 . rw [decide_eq_true hi]
   simp only [Bool.not_true,cond_false,pp,Option.bind_some]
   rcases h.st with ⟨rfl,rfl,h8⟩ | ⟨w,rfl,rfl,hw⟩
   . have hsp:=ni hn h.rs h.bd (by omega)
     obtain ⟨a1,a2⟩:=EY hsp i (by omega)
     obtain ⟨e1,e2⟩:=HM (L:=L) hn hi
     rw [e1,e2] at a1
     rw [e1] at a2
     have hl9:(aG n L i).length≤9:=by have:=yK n L i; omega
     simp only [Option.isSome_none,cond_false,Option.bind_some,a1,show ∀ M:List Int,lq (some M)=some ((M.length:Nat):Int) from fun _=>rfl,Bool.false_or]
     by_cases h9:8 < (aG n L i).length
     . have h9':(8:Int) < (((aG n L i).length:Nat):Int):=by omega
       obtain ⟨w,t1,t2⟩:=xv hn a2 (uZ i h.bd) none
       rw [decide_eq_true h9',decide_eq_true h9]
       simp only [cond_true,t1,Option.bind_some]
       exact ⟨_,_,rfl,⟨hn,a2.rs,uZ i h.bd,.inr ⟨w,rfl,rfl,t2⟩⟩,rfl⟩
     . have h9':¬ (8:Int) < (((aG n L i).length:Nat):Int):=by omega
       rw [decide_eq_false h9',decide_eq_false h9]
       simp only [cond_false]
       exact ⟨_,_,rfl,⟨hn,a2.rs,uZ i h.bd,.inl ⟨rfl,rfl,by omega⟩⟩,rfl⟩
   . obtain ⟨w',a1,a2⟩:=hw.add i
     simp only [Option.isSome_some,cond_true,Option.bind_some,a1,Bool.true_or]
     exact ⟨_,_,rfl,⟨hn,a2.rs,a2.bd,.inr ⟨w',rfl,rfl,a2⟩⟩,rfl⟩
 . rw [decide_eq_false hi]
   obtain ⟨e1,e2⟩:=Ga (L:=L) hi
   rw [e1,e2]
   refine ⟨f,b,rfl,h,?_⟩
   rcases h.st with ⟨rfl,rfl,h8⟩ | ⟨w,rfl,rfl,hw⟩
   . rw [decide_eq_false (by omega:¬ 8 < L.length)]; rfl
   . rfl
theorem tJ {n:Nat} {f:Option (List Int)} {b:Option (Int×List Int)} {L:List Int} (h:Mx n f b L) (lo hi:Int):∃ f' b' L',gG lo hi n f b=some (f',b')∧Mx n f' b' L'∧b'.isSome=(b.isSome||decide (8 < L'.length))∧∀ x,x∈L'↔x∈L∨(lo≤x∧x < hi∧0≤x∧x < n):=by
 have hn:=h.hn
 have key:=bL (body:=si hi n) (fun s=>∃ L':List Int,0≤s.1∧lo≤s.1∧Mx n s.2.1 s.2.2 L'∧s.2.2.isSome=(b.isSome||decide (8 < L'.length))∧∀ x,x∈L'↔x∈L∨(lo≤x∧x < s.1∧x < hi∧0≤x∧x < n)) (fun s=>n - s.1.toNat)
   (Q:=fun r=>∃ L':List Int,Mx n r.1 r.2 L'∧r.2.isSome=(b.isSome||decide (8 < L'.length))∧∀ x,x∈L'↔x∈L∨(lo≤x∧x < hi∧0≤x∧x < n)) ?_ (s:=(if lo < 0 then 0 else lo,f,b)) ⟨L,?_,?_,h,?_,fun x=>?_⟩
 . obtain ⟨⟨f',b'⟩,k1,L',k2,k3,k4⟩:=key
   refine ⟨f',b',L',?_,k2,k3,k4⟩
   unfold gG
   rw [k1]
   rfl
 . rintro ⟨i,f1,b1⟩ ⟨L',h0,hlo,hm,hd,hx⟩
   dsimp only at h0 hlo hm hd hx ⊢
   unfold si
   simp only [show b8 (some ((n:Int),f1,b1))=some (n:Int) from rfl,Option.bind_some]
   by_cases hc:i < (if (n:Int) < hi then (n:Int) else hi)
   . left
     have hin:i < n∧i < hi:=by split at hc <;> omega
     obtain ⟨f2,b2,a1,a2,a3⟩:=mC hm i
     refine ⟨(i + 1,f2,b2),?_,⟨aG n L' i,by dsimp only; omega,by dsimp only; omega,a2,?_,fun x=>?_⟩,?_⟩
     . rw [decide_eq_true hc]
       simp only [cond_true,a1,Option.bind_some,w64 (x:=i + 1) (by omega) (by omega)]
     . dsimp only
       rw [a3,hd]
       have hle:L'.length≤(aG n L' i).length:=uL hm.rs a2.rs (fun x hx=>(dz _ _).2 (.inl hx))
       by_cases h1:8 < L'.length
       . have h2:8 < (aG n L' i).length:=by omega
         simp [h1,h2]
       . simp [h1]
     . dsimp only
       rw [dz,hx]
       constructor
       . rintro ((h1 | h1) | ⟨rfl,h1⟩)
         . exact .inl h1
         . exact .inr ⟨h1.1,by omega,h1.2.2⟩
         . exact .inr ⟨hlo,by omega,hin.2,h1⟩
       . rintro (h1 | h1)
         . exact .inl (.inl h1)
         . by_cases h2:x < i
           . exact .inl (.inr ⟨h1.1,h2,h1.2.2⟩)
           . exact .inr ⟨by omega,by omega,by omega⟩
     . show n - (i + 1).toNat < n - i.toNat
       omega
   . right
     refine ⟨(f1,b1),by rw [decide_eq_false hc]; rfl,L',hm,hd,fun x=>?_⟩
     rw [hx]
     constructor
     . rintro (h1 | h1)
       . exact .inl h1
       . exact .inr ⟨h1.1,h1.2.2⟩
     . rintro (h1 | h1)
       . exact .inl h1
       . exact .inr ⟨h1.1,by split at hc <;> omega,h1.2⟩
 . dsimp only; split <;> omega
 . dsimp only; split <;> omega
 . rcases h.st with ⟨rfl,rfl,h8⟩ | ⟨w,rfl,rfl,hw⟩
   . rw [decide_eq_false (by omega:¬ 8 < L.length)]; rfl
   . rfl
 . dsimp only
   constructor
   . exact .inl
   . rintro (h1 | h1)
     . exact h1
     . exfalso
       have:=h1.2.1
       split at this <;> omega
theorem G1:ofS []=[]:=by
 have:=H6 []
 exact List.length_eq_zero_iff.1 (by simpa using this)
theorem Ja:gU []=some []:=by rw [HU (by decide),G1]
theorem IJ {n:Nat} (h:n≤1048576):Mx n (some []) none []:=⟨h,List.Pairwise.nil,by simp,.inl ⟨rfl,rfl,by decide⟩⟩
theorem EO (n:Int):pa n=if n < 0 then some (.inl 2) else if 1048576 < n then some (.inl 5) else some (.inr (0,n,some [])):=by
 unfold pa
 rw [Ja]
 by_cases h1:n < 0
 . simp [h1]
 . by_cases h2:1048576 < n
   . simp [h1,h2]
   . simp [h1,h2]
theorem E9 (x y:Nat) (hx:x < 18446744073709551616) (hy:y < 18446744073709551616):IntKind.wrap .u64 ((BitVec.ofInt (IntKind.bits .u64) (x:Int) &&& ~~~BitVec.ofInt (IntKind.bits .u64) (y:Int)).toNat:Int)=0↔∀ i,x.testBit i=true→y.testBit i=true:=by
 have e:IntKind.wrap .u64 ((BitVec.ofInt (IntKind.bits .u64) (x:Int) &&& ~~~BitVec.ofInt (IntKind.bits .u64) (y:Int)).toNat:Int)=(((BitVec.ofNat 64 x &&& ~~~BitVec.ofNat 64 y).toNat:Nat):Int):=by
   show IntKind.wrap .u64 ((BitVec.ofInt 64 (x:Int) &&& ~~~BitVec.ofInt 64 (y:Int)).toNat:Int)=_
   rw [fE,fE]
   exact dI _ (BitVec.isLt _)
 have hb:∀ i,(BitVec.ofNat 64 x &&& ~~~BitVec.ofNat 64 y).toNat.testBit i=(x.testBit i&&!y.testBit i):=fun i=>by
   rw [BitVec.testBit_toNat,BitVec.getLsbD_and,BitVec.getLsbD_not,BitVec.getLsbD_ofNat,BitVec.getLsbD_ofNat]
   by_cases hj:i < 64
   . simp [hj]
   . have:x.testBit i=false:=Nat.testBit_lt_two_pow (Nat.lt_of_lt_of_le hx (show 2 ^ 64≤2 ^ i from Nat.pow_le_pow_right (by decide) (by omega)))
     simp [hj,this]
 rw [e]
 constructor
 . intro h i hi
   have h0:(BitVec.ofNat 64 x &&& ~~~BitVec.ofNat 64 y).toNat=0:=by omega
   have:=hb i
   rw [h0,Nat.zero_testBit,hi] at this
   cases hy:y.testBit i with
   | true=>rfl
   | false=>rw [hy] at this; cases this
 . intro h
   have h0:(BitVec.ofNat 64 x &&& ~~~BitVec.ofNat 64 y).toNat=0:=Nat.eq_of_testBit_eq fun i=>by
     rw [hb,Nat.zero_testBit]
     cases hx:x.testBit i with
     | false=>rfl
     | true=>rw [h i hx]; rfl
   rw [h0]
   rfl
theorem Hc {n:Nat} {l l':List Int} (h:Ds n l) (h':Ds n l'):∃ c q,fp n l n l'=some (c,q,l')∧Ds n q∧(∀ j,mem q j=(mem l j||mem l' j))∧(c=true↔∃ j,mem l' j=true∧mem l j=false):=by
 have hn:=h.hn
 have hl:=h.len
 have hl':=h'.len
 have wordOf:∀ {n:Nat} {l:List Int},(∀ w∈l,Wd w)→∀ (k:Nat) (hk:k < l.length),∃ x:Nat,l[k]=(x:Int)∧x < 18446744073709551616:=fun hw k hk=>by
   have:=hw _ (List.getElem_mem hk)
   unfold Wd at this
   exact ⟨_,(Int.toNat_of_nonneg this.1).symm,by omega⟩
 have key:=bL (body:=sr l') (fun s=>∃ k:Nat,k≤l'.length∧s.2.1=(k:Int)∧s.2.2.length=l.length∧(∀ w∈s.2.2,Wd w)∧(∀ j,mem s.2.2 j=if j / 64 < k then mem l j||mem l' j else mem l j)∧(s.1=true↔∃ j,j / 64 < k∧mem l' j=true∧mem l j=false)) (fun s=>l'.length - s.2.1.toNat)
   (Q:=fun r=>r.2.length=l.length∧(∀ w∈r.2,Wd w)∧(∀ j,mem r.2 j=(mem l j||mem l' j))∧(r.1=true↔∃ j,mem l' j=true∧mem l j=false)) ?_ (s:=(false,(0:Int),l)) ⟨0,Nat.zero_le _,rfl,rfl,h.wd,fun j=>by simp,by simp⟩
 . obtain ⟨⟨c,q⟩,hlp,q1,q2,q3,q4⟩:=key
   refine ⟨c,q,?_,⟨hn,by rw [q1]; exact hl,q2,fun j hj=>?_⟩,q3,q4⟩
   . unfold fp
     rw [hlp]
     simp
   . rw [q3,h.top j hj,h'.top j hj]; rfl
 . rintro ⟨c,i,q⟩ ⟨k,hk,rfl,g1,g2,g3,g4⟩
   dsimp only at g1 g2 g3 g4 ⊢
   unfold sr
   by_cases hkl:k < l'.length
   . left
     have hkq:k < q.length:=by omega
     obtain ⟨x,hx,hx2⟩:=wordOf (n:=n) h'.wd k hkl
     obtain ⟨y,hy,hy2⟩:=wordOf (n:=n) g2 k hkq
     have hxs:l'[k]? = some (x:Int):=by rw [List.getElem?_eq_getElem hkl,hx]
     have hys:q[k]? = some (y:Int):=by rw [List.getElem?_eq_getElem hkq,hy]
     have hmy:∀ j,j / 64=k→mem l j=y.testBit (j % 64):=fun j hj=>by
       have:=g3 j
       rw [if_neg (by omega),d7 (by rw [hj]; exact hys)] at this
       exact this.symm
     have hmx:∀ j,j / 64=k→mem l' j=x.testBit (j % 64):=fun j hj=>d7 (by rw [hj]; exact hxs)
     have ha:=E9 x y hx2 hy2
     simp only [dlt hkl,cond_true,ah hkl,ah hkq,hx,hy,Option.bind_some,aj hkl (by omega),Int.toNat_natCast]
     by_cases hz:IntKind.wrap .u64 ((BitVec.ofInt (IntKind.bits .u64) (x:Int) &&& ~~~BitVec.ofInt (IntKind.bits .u64) (y:Int)).toNat:Int)=0
     . have hsub:=ha.1 hz
       have hsub2:∀ j,j / 64=k→mem l' j=true→mem l j=true:=fun j hj hm=>by
         rw [hmx j hj] at hm
         rw [hmy j hj]
         exact hsub _ hm
       refine ⟨(c,((k + 1:Nat):Int),q),by rw [decide_eq_true hz]; rfl,⟨k + 1,by omega,rfl,g1,g2,fun j=>?_,?_⟩,?_⟩
       . rw [g3]
         by_cases h1:j / 64 < k
         . rw [if_pos h1,if_pos (by omega)]
         . rw [if_neg h1]
           by_cases h2:j / 64=k
           . rw [if_pos (by omega)]
             cases hm:mem l' j with
             | false=>simp
             | true=>rw [hsub2 j h2 hm]; rfl
           . rw [if_neg (by omega)]
       . rw [g4]
         constructor
         . rintro ⟨j,h1,h2⟩; exact ⟨j,by omega,h2⟩
         . rintro ⟨j,h1,h2,h3⟩
           by_cases h4:j / 64=k
           . rw [hsub2 j h4 h2] at h3; cases h3
           . exact ⟨j,by omega,h2,h3⟩
       . show l'.length - ((k + 1:Nat):Int).toNat < l'.length - ((k:Nat):Int).toNat
         rw [Int.toNat_natCast,Int.toNat_natCast]; omega
     . have hw:IntKind.wrap .u64 ((BitVec.ofInt (IntKind.bits .u64) (y:Int) ||| BitVec.ofInt (IntKind.bits .u64) (x:Int)).toNat:Int)=((y ||| x:Nat):Int):=orU y x hy2 hx2
       have hex:∃ i,x.testBit i=true∧y.testBit i=false:=by
         refine Classical.byContradiction fun hc=>hz (ha.2 fun i hi=>?_)
         cases hyi:y.testBit i with
         | true=>rfl
         | false=>exact absurd ⟨i,hi,hyi⟩ hc
       obtain ⟨i,hi1,hi2⟩:=hex
       have hi64:i < 64:=by
         rcases Nat.lt_or_ge i 64 with h1 | h1
         . exact h1
         . rw [Nat.testBit_lt_two_pow (Nat.lt_of_lt_of_le hx2 (show 2 ^ 64≤2 ^ i from Nat.pow_le_pow_right (by decide) h1))] at hi1
           cases hi1
       refine ⟨(true,((k + 1:Nat):Int),q.set k ((y ||| x:Nat):Int)),by rw [decide_eq_false hz,hw]; rfl,⟨k + 1,by omega,rfl,by rw [List.length_set]; exact g1,fun w hw=>?_,fun j=>?_,?_⟩,?_⟩
       . rcases List.mem_or_eq_of_mem_set hw with hw | rfl
         . exact g2 w hw
         . have:=Nat.or_lt_two_pow (n:=64) hy2 hx2
           unfold Wd
           omega
       . dsimp only
         rw [yG hys]
         by_cases h2:j / 64=k
         . rw [if_pos h2,if_pos (by omega),Nat.testBit_or,hmy j h2,hmx j h2]
         . rw [if_neg h2,g3]
           by_cases h1:j / 64 < k
           . rw [if_pos h1,if_pos (by omega)]
           . rw [if_neg h1,if_neg (by omega)]
       . refine ⟨fun _=>⟨64 * k + i,by omega,?_,?_⟩,fun _=>rfl⟩
         . rw [hmx _ (by omega),show (64 * k + i) % 64=i by omega]; exact hi1
         . rw [hmy _ (by omega),show (64 * k + i) % 64=i by omega]; exact hi2
       . show l'.length - ((k + 1:Nat):Int).toNat < l'.length - ((k:Nat):Int).toNat
         rw [Int.toNat_natCast,Int.toNat_natCast]; omega
   . right
     have e:k=l'.length:=by omega
     subst e
     have hlt:∀ j,mem l' j=true→j / 64 < l'.length:=fun j hj=>by
       have:=fG h' hj
       omega
     refine ⟨(c,q),by simp,g1,g2,fun j=>?_,?_⟩
     . rw [g3]
       by_cases h1:j / 64 < l'.length
       . rw [if_pos h1]
       . rw [if_neg h1]
         cases hm:mem l' j with
         | false=>simp
         | true=>exact absurd (hlt j hm) h1
     . rw [g4]
       constructor
       . rintro ⟨j,_,h2⟩; exact ⟨j,h2⟩
       . rintro ⟨j,h2⟩; exact ⟨j,hlt j h2.1,h2⟩
theorem Ft {n m:Nat} (h:n≠m) (l l':List Int):fp n l m l'=some (false,l,l'):=by
 unfold fp
 have:¬ ((n:Int)=(m:Int)):=by omega
 simp [this]
theorem Rp.or {n m:Nat} {l l' L L':List Int} (h:Rp n l L) (h':Rp m l' L'):∃ q,fp n l m l'=some (decide ((n:Int)=(m:Int))&&(rOr n L L').2,q,l')∧Rp n q (if (n:Int)=(m:Int) then (rOr n L L').1 else L):=by
 by_cases e:n=m
 . subst e
   obtain ⟨c,q,h1,h2,h3,h4⟩:=Hc h.ds h'.ds
   refine ⟨q,?_,?_⟩
   . rw [h1]
     have:c=(rOr n L L').2:=by
       rw [Bool.eq_iff_iff,h4,AL]
       constructor
       . rintro ⟨j,h5,h6⟩
         have:=fG h'.ds h5
         refine ⟨(j:Int),(h'.mm _).2 ⟨Int.natCast_nonneg _,by simpa using h5⟩,⟨Int.natCast_nonneg _,by omega⟩,fun h7=>?_⟩
         have:=((h.mm _).1 h7).2
         rw [Int.toNat_natCast,h6] at this
         cases this
       . rintro ⟨x,h5,h6,h7⟩
         refine ⟨x.toNat,((h'.mm _).1 h5).2,?_⟩
         cases h8:mem l x.toNat with
         | false=>rfl
         | true=>exact absurd ((h.mm x).2 ⟨h6.1,h8⟩) h7
     rw [this]
     simp
   . rw [if_pos rfl]
     refine ⟨h2,A0 _ _ _ h.rs,fun x=>?_⟩
     rw [qm,h3,Bool.or_eq_true,h.mm,h'.mm]
     constructor
     . rintro (h5 | ⟨h5,h6⟩)
       . exact ⟨h5.1,.inl h5.2⟩
       . exact ⟨h5.1,.inr h5.2⟩
     . rintro ⟨h5,h6 | h6⟩
       . exact .inl ⟨h5,h6⟩
       . have:=fG h'.ds h6
         exact .inr ⟨⟨h5,h6⟩,h5,by omega⟩
 . have e2:¬ ((n:Int)=(m:Int)):=by omega
   rw [Ft e,if_neg e2,decide_eq_false e2]
   exact ⟨l,rfl,h⟩
theorem Mx.flag {n:Nat} {f:Option (List Int)} {b:Option (Int×List Int)} {L:List Int} (h:Mx n f b L):(b.isSome||decide (8 < L.length))=b.isSome:=by
 rcases h.st with ⟨rfl,rfl,h8⟩ | ⟨w,rfl,rfl,hw⟩
 . rw [decide_eq_false (by omega:¬ 8 < L.length)]; rfl
 . rfl
theorem yN {n:Nat} {f f2:Option (List Int)} {b b2:Option (Int×List Int)} {L M:List Int} (h:Mx n f b L) (h2:Mx n f2 b2 M):∃ f' b',da n f b n f2 b2=some ((rOr n L M).2,f',b',f2,b2)∧Mx n f' b' (rOr n L M).1∧b'.isSome=((b.isSome||b2.isSome)||decide (8 < (rOr n L M).1.length)):=by
 have hn:=h.hn
 unfold da
 simp only [decide_true,Bool.not_true,cond_false,pp,Option.bind_some]
 rcases h2.st with ⟨rfl,rfl,h8⟩ | ⟨w2,rfl,rfl,hw2⟩
 . -- a few
   have hsp:=ni hn h2.rs h2.bd (by omega)
   have at0:bv (some M) 0=some (M.getD 0 0,decide (0 < M.length)):=eR 0
   have key:∃ f' b',loop (kC n M) (M.getD 0 0,decide (0 < M.length),f,b,false)=some (f',b',(rOr n L M).2)∧Mx n f' b' (rOr n L M).1∧b'.isSome=(b.isSome||decide (8 < (rOr n L M).1.length)):=by
     have hind:∀ d k,k + d=M.length→∀ fk bk,Mx n fk bk (rOr n L (M.take k)).1→bk.isSome=(b.isSome||decide (8 < (rOr n L (M.take k)).1.length)) →
         ∃ f' b',loop (kC n M) (M.getD k 0,decide (k < M.length),fk,bk,(rOr n L (M.take k)).2)=some (f',b',(rOr n L M).2)∧Mx n f' b' (rOr n L M).1∧b'.isSome=(b.isSome||decide (8 < (rOr n L M).1.length)):=by
       intro d
       induction d with
       | zero =>
         intro k hk fk bk m1 m2
         have e:k=M.length:=by omega
         subst e
         rw [List.take_length] at m1 m2 ⊢
         refine ⟨fk,bk,fN ?_,m1,m2⟩
         unfold kC
         simp
       | succ d ih =>
         intro k hk fk bk m1 m2
         have hkl:k < M.length:=by omega
         have hg:M.getD k 0=M[k]:=by simp [hkl]
         obtain ⟨f3,b3,a1,a2,a3⟩:=mC m1 M[k]
         have e1:(rOr n L (M.take (k + 1))).1=aG n (rOr n L (M.take k)).1 M[k]:=by rw [aM hkl,uz]
         have e2:(rOr n L (M.take (k + 1))).2=((rOr n L (M.take k)).2||bM n (rOr n L (M.take k)).1 M[k]):=by rw [aM hkl,uz]
         have hle:(rOr n L (M.take k)).1.length≤(aG n (rOr n L (M.take k)).1 M[k]).length:=uL m1.rs a2.rs (fun x hx=>(dz _ _).2 (.inl hx))
         obtain ⟨f',b',c1,c2,c3⟩:=ih (k + 1) (by omega) f3 b3 (by rw [e1]; exact a2) (by
           rw [e1,a3,m2]
           by_cases h1:8 < (rOr n L (M.take k)).1.length
           . have h2:8 < (aG n (rOr n L (M.take k)).1 M[k]).length:=by omega
             simp [h1,h2]
           . simp [h1])
         refine ⟨f',b',?_,c2,c3⟩
         rw [← c1]
         refine pE ?_
         unfold kC
         simp only [decide_eq_true hkl,cond_true,hg,a1,Option.bind_some,pC hsp hkl,eR,e2]
         cases bM n (rOr n L (M.take k)).1 M[k] <;> simp
     exact hind M.length 0 (by omega) f b h h.flag.symm
   obtain ⟨f',b',k1,k2,k3⟩:=key
   refine ⟨f',b',?_,k2,by rw [k3]; simp⟩
   simp only [Option.isSome_none,cond_false,show dM M=some M from rfl,Option.bind_some,at0,k1]
 . -- bits
   have fin:∀ (w:List Int),Rp n w L→∃ q,fp n w n w2=some ((rOr n L M).2,q,w2)∧Rp n q (rOr n L M).1:=fun w hw=>by
     obtain ⟨q,o1,o2⟩:=hw.or hw2
     rw [if_pos rfl] at o2
     exact ⟨q,by rw [o1]; simp,o2⟩
   rcases h.st with ⟨rfl,rfl,h8⟩ | ⟨w,rfl,rfl,hw⟩
   . have hsp:=ni hn h.rs h.bd (by omega)
     obtain ⟨w,t1,t2⟩:=xv hn hsp h.bd none
     obtain ⟨q,o1,o2⟩:=fin w t2
     refine ⟨none,some ((n:Int),q),?_,⟨hn,o2.rs,o2.bd,.inr ⟨q,rfl,rfl,o2⟩⟩,rfl⟩
     simp only [Option.isSome_none,Option.isSome_some,cond_true,Bool.not_false,t1,Option.bind_some,o1]
   . obtain ⟨q,o1,o2⟩:=fin w hw
     refine ⟨none,some ((n:Int),q),?_,⟨hn,o2.rs,o2.bd,.inr ⟨q,rfl,rfl,o2⟩⟩,rfl⟩
     simp only [Option.isSome_some,cond_true,Bool.not_true,cond_false,Option.bind_some,o1]
section
abbrev Mv:=Option (Int×Option (List Int)×Option (Int×List Int))
theorem BE {b:Bo} (hN:0 < NB b):(vck b).1=0:=by
 by_cases q:(vck b).1=0
 . exact q
 . exfalso
   have:xs b=[]:=by unfold xs; rw [if_neg q]
   have e:NB b=0:=by show bg (xs b) (xs b).length=0; rw [this]; rfl
   omega
theorem zy {b:Bo} (h:(vck b).1=0):1≤b.1∧b.1≤b.2.1∧b.2.1≤65536:=by
 unfold vck at h
 have hh:=(cX h).1
 unfold ge at hh
 by_cases c:b.1 < 1∨b.2.1 < b.1
 . rw [if_pos c] at hh; simp at hh
 . rw [if_neg c] at hh
   by_cases d:65536 < b.2.1
   . rw [if_pos d] at hh; simp at hh
   . omega
theorem AX {b:Bo} (h:(vck b).1=0):∀ t∈b.2.2.2.1,∀ s∈t,0≤s.1∧s.1 < b.2.1:=by
 unfold vck at h
 have hl:=(cX (cX (cX h).2).2).1
 unfold dL at hl
 by_cases c:b.2.2.2.1=[]
 . intro t ht; rw [c] at ht; cases ht
 . rw [if_neg c] at hl
   have key:∀ t:List St,rck b.2.1 t=0→∀ s∈t,0≤s.1∧s.1 < b.2.1:=fun t ht s hs=>by
     unfold rck at ht
     by_cases c1:16 < t.length
     . rw [if_pos c1] at ht; cases ht
     . rw [if_neg c1] at ht
       by_cases c2:rin b.2.1 t=true
       . rw [if_pos c2] at ht; cases ht
       . unfold rin at c2
         rw [Bool.not_eq_true,List.any_eq_false] at c2
         have:=c2 s hs
         simp at this
         omega
   cases hq:b.2.2.2.1.findIdx? (fun t=>!decide (rck b.2.1 t=0)) with
   | none =>
     intro t ht
     have:=List.findIdx?_eq_none_iff.1 hq t ht
     simp at this
     exact key t this
   | some k =>
     exfalso
     rw [hq] at hl
     obtain ⟨hk,hcc,_⟩:=List.findIdx?_eq_some_iff_getElem.1 hq
     have e:b.2.2.2.1.getD k []=b.2.2.2.1[k]:=by simp [List.getD,hk]
     simp only [e] at hl
     simp [hl] at hcc
def rgs (xa:List St):List Int:=Lib.compact ((xa.map (·.1)).mergeSort fun x y=>decide (x≤y))
theorem EA (xa:List St):(rgs xa).Pairwise (· < ·)∧∀ a,a∈rgs xa↔a∈xa.map (·.1):=by
 have hs:((xa.map (·.1)).mergeSort fun x y=>decide (x≤y)).Pairwise (·≤·):=by
   have:=List.pairwise_mergeSort (le:=fun x y:Int=>decide (x≤y)) (fun a b c h1 h2=>by simp at *; omega) (fun a b=>by simp; omega) (xa.map (·.1))
   exact this.imp (by simp)
 have h:=oX hs
 exact ⟨h.1,fun a=>(h.2 a).trans List.mem_mergeSort⟩
theorem Ic (xa:List St):(rgs xa).length≤xa.length:=by
 have:=Lib.compact_length_le ((xa.map (·.1)).mergeSort fun x y=>decide (x≤y))
 simpa [rgs] using this
theorem DC (xa:List St) (hn:xa.length≤1000000):du xa=some (rgs xa):=by
 have hl:=aF (body:=k9 xa) (fun k:Nat=>((xa.take k).map (·.1),(k:Int))) xa.length (b:=xa.map (·.1)) (fun k hk=>by
     unfold k9
     dsimp only
     rw [dlt hk,cond_true,ah hk,Option.bind_some,aH (by simp; omega),Option.bind_some,aj hk (by omega),aM hk,List.map_append]; rfl) (by
     unfold k9
     dsimp only
     rw [dge (Nat.lt_irrefl _),cond_false,List.take_length])
 unfold du
 rw [show loop (k9 xa) ([],0)=_ from hl,Option.bind_some]
 unfold srt
 rw [if_pos (by simp; omega)]; rfl
def eh (t:List St) (r:Nat):Prop:=∃ s∈t,s.1=(r:Int)
def sdM (b:Bo) (u m r:Nat) (x:Int):Prop:=(r < u∧(0≤x∧x < ((NB b:Nat):Int)∨x=((NB b:Nat):Int) + (r:Int)))∨∃ k,k < m∧∃ t,b.2.2.2.1[k]? = some t∧eh t r∧0≤x∧lvB b k x.toNat=true
def bZ (b:Bo) (u m r:Nat) (s:Mv):Prop:=∃ f w L,s=some (((NB b + u:Nat):Int),f,w)∧Mx (NB b + u) f w L∧∀ x,x∈L↔sdM b u m r x
theorem jA {n:Nat} (h:n≤1048576):cF (n:Int)=some (.inr ((n:Int),some [])):=by
 unfold cF
 rw [EO,if_neg (by omega),if_neg (by omega)]; rfl
theorem ix {n:Nat} (h:n≤1048576):Mx n (some []) none []:=IJ h
section
variable {b:Bo} {u R:Nat}
theorem Gi {N S r:Nat} {fe:Option (List Int)} {we:Option (Int×List Int)} {Le:List Int} (hS:S≤1048576) (he:Mx S fe we Le) (hLe:∀ x,x∈Le↔0≤x∧x < (N:Int)) (hr:N + r < S) :
   ∃ f1 w1 f2 w2 t1 t2,da (S:Int) (some []) none (S:Int) fe we=some (t1,f1,w1,fe,we)∧bJ ((N + r:Nat):Int) (S:Int) f1 w1=some (t2,f2,w2)∧∃ L,Mx S f2 w2 L∧∀ x,x∈L↔(0≤x∧x < (N:Int))∨x=(N:Int) + (r:Int):=by
 obtain ⟨f1,w1,g1,g2,_⟩:=yN (ix hS) he
 obtain ⟨f2,w2,g3,g4,_⟩:=mC g2 ((N + r:Nat):Int)
 refine ⟨f1,w1,f2,w2,_,_,g1,g3,_,g4,fun x=>?_⟩
 rw [dz,qm,hLe]
 constructor
 . rintro ((h | h) | h)
   . cases h
   . exact .inl h.1
   . exact .inr (by omega)
 . rintro (h | h)
   . exact .inl (.inr ⟨h,by omega⟩)
   . exact .inr (by omega)
theorem Bm (hU:b.1=(u:Int)) (hR:b.2.1=(R:Int)) (huR:u≤R) (hR2:R≤65536) (hN:NB b≤32) {fe:Option (List Int)} {we:Option (Int×List Int)} {Le:List Int} (he:Mx (NB b + u) fe we Le) (hLe:∀ x,x∈Le↔0≤x∧x < ((NB b:Nat):Int)) :
   ∃ V,loop (iX b ((NB b:Nat):Int) (((NB b + u:Nat):Nat):Int) (List.replicate R none)) (0,fe,we,List.replicate R none)=some V∧V.length=R∧∀ r s,V[r]? = some s→bZ b u 0 r s:=by
 have hS:NB b + u≤1048576:=by omega
 have hsz:IntKind.wrap .i64 (((NB b:Nat):Int) + b.1)=((NB b + u:Nat):Int):=by rw [hU,w64 (by omega) (by omega)]; omega
 obtain ⟨V,h1,h2⟩:=bL (body:=iX b ((NB b:Nat):Int) (((NB b + u:Nat):Nat):Int) (List.replicate R none)) (fun s=>∃ k:Nat,k≤R∧s.1=(k:Int)∧s.2.1=fe∧s.2.2.1=we∧s.2.2.2.length=R∧∀ r x,s.2.2.2[r]? = some x→(r < k→bZ b u 0 r x)∧(k≤r→x=none)) (fun s=>R - s.1.toNat) (Q:=fun V=>V.length=R∧∀ r s,V[r]? = some s→bZ b u 0 r s) (fun s hs=>by
   obtain ⟨i,f,w,V⟩:=s
   obtain ⟨k,hk,rfl,rfl,rfl,hlen,hV⟩:=hs
   dsimp only at hlen hV ⊢
   by_cases hc:k < R
   . left
     have hkV:k < V.length:=by omega
     have e0:aa V (k:Int)=some V[k]:=ah hkV
     have hw1:IntKind.wrap .i64 ((k:Int) + 1)=((k + 1:Nat):Int):=aj hc (by omega)
     have nxt:∀ x,bZ b u 0 k x→∀ r y,(V.set k x)[r]? = some y→(r < k + 1→bZ b u 0 r y)∧(k + 1≤r→y=none):=fun x hx r y hy=>by
       by_cases e:r=k
       . subst e
         rw [List.getElem?_set_self hkV] at hy
         obtain rfl:=Option.some.inj hy
         exact ⟨fun _=>hx,fun h=>by omega⟩
       . rw [List.getElem?_set_ne (fun h=>e h.symm)] at hy
         exact ⟨fun h=>(hV r y hy).1 (by omega),fun h=>(hV r y hy).2 (by omega)⟩
     have gs:∀ x:Mv,aa (V.set k x) (k:Int)=some x:=fun x=>by rw [ah (by simpa using hkV)]; simp
     by_cases hcu:k < u
     . obtain ⟨f1,w1,f2,w2,t1,t2,g1,g2,L,g3,g4⟩:=Gi (r:=k) hS he hLe (by omega)
       have hwk:IntKind.wrap .i64 (((NB b:Nat):Int) + (k:Int))=((NB b + k:Nat):Int):=by rw [w64 (by omega) (by omega)]; omega
       refine ⟨(((k + 1:Nat):Int),f,w,V.set k (some (((NB b + u:Nat):Int),f2,w2))),?_,⟨k + 1,hc,rfl,rfl,rfl,by simpa using hlen,nxt _ ⟨f2,w2,L,rfl,g3,fun x=>?_⟩⟩,by dsimp only; omega⟩
       . unfold iX
         dsimp only
         rw [List.length_replicate,dlt hc,cond_true,e0,Option.bind_some,hsz,jA hS]
         simp only [Option.bind_some,fH,Int.toNat_natCast]
         rw [hU,dlt hcu,cond_true]
         simp only [gs,Option.bind_some,g1,List.set_set,hwk,g2,hw1,fH]
       . rw [g4]
         unfold sdM
         constructor
         . exact fun h => .inl ⟨hcu,h⟩
         . rintro (h | ⟨k',h,_⟩)
           . exact h.2
           . omega
     . refine ⟨(((k + 1:Nat):Int),f,w,V.set k (some (((NB b + u:Nat):Int),some [],none))),?_,⟨k + 1,hc,rfl,rfl,rfl,by simpa using hlen,nxt _ ⟨some [],none,[],rfl,ix hS,fun x=>?_⟩⟩,by dsimp only; omega⟩
       . unfold iX
         dsimp only
         rw [List.length_replicate,dlt hc,cond_true,e0,Option.bind_some,hsz,jA hS]
         simp only [Option.bind_some,fH,Int.toNat_natCast]
         rw [hU,dge hcu,cond_false,hw1]
       . unfold sdM
         simp only [List.not_mem_nil,false_iff]
         rintro (h | ⟨k',h,_⟩)
         . omega
         . omega
   . obtain rfl:k=R:=by omega
     refine .inr ⟨V,?_,hlen,fun r x hx=>(hV r x hx).1 ?_⟩
     . unfold iX
       dsimp only
       rw [List.length_replicate,dge hc,cond_false]
     . have:=(List.getElem?_eq_some_iff.1 hx).1; omega) (s:=(0,fe,we,List.replicate R none)) ⟨0,Nat.zero_le _,rfl,rfl,rfl,by simp,fun r x hx=>⟨fun h=>by omega,fun _=>by rw [List.getElem?_replicate] at hx; split at hx <;> simp at hx; exact hx.symm⟩⟩
 exact ⟨V,h1,h2⟩
theorem Gw {S:Nat} (hS:S≤1048576) {A:List Nat} (hA:∀ n∈A,n < S) (hAl:A.length≤1000000):∃ f w L,loop (lb (S:Int) (li A)) (0,some [],none)=some (f,w)∧Mx S f w L∧∀ x,x∈L↔x∈li A:=by
 obtain ⟨⟨f,w⟩,h1,L,h2,h3⟩:=bL (body:=lb (S:Int) (li A)) (fun s=>∃ (k:Nat) (L:List Int),k≤A.length∧s.1=(k:Int)∧Mx S s.2.1 s.2.2 L∧∀ x,x∈L↔x∈li (A.take k)) (fun s=>A.length - s.1.toNat) (Q:=fun r=>∃ L,Mx S r.1 r.2 L∧∀ x,x∈L↔x∈li A) (fun s hs=>by
   obtain ⟨i,f,w⟩:=s
   obtain ⟨k,L,hk,rfl,hm,hL⟩:=hs
   dsimp only at hm ⊢
   by_cases hc:k < A.length
   . obtain ⟨f',w',g1,g2,_⟩:=mC hm ((A[k]:Nat):Int)
     have:=hA _ (List.getElem_mem hc)
     refine .inl ⟨(((k + 1:Nat):Int),f',w'),?_,⟨k + 1,_,hc,rfl,g2,fun x=>?_⟩,by dsimp only; omega⟩
     . unfold lb
       simp only [bz,dlt hc,cond_true,im hc,Option.bind_some,g1,aj hc (by omega:A.length≤9223372036854775807)]
     . rw [dz,hL,aM hc]
       have e:li (A.take k++[A[k]])=li (A.take k)++[((A[k]:Nat):Int)]:=by unfold li; rw [List.map_append]; rfl
       rw [e,List.mem_append,List.mem_singleton]
       constructor
       . rintro (h | h)
         . exact .inl h
         . exact .inr h.1
       . rintro (h | h)
         . exact .inl h
         . exact .inr ⟨h,by omega,by omega⟩
   . obtain rfl:k=A.length:=by omega
     refine .inr ⟨(f,w),?_,L,hm,fun x=>by rw [hL,List.take_length]⟩
     unfold lb
     simp only [bz,dge hc,cond_false]) (s:=(0,some [],none)) ⟨0,[],Nat.zero_le _,rfl,ix hS,fun x=>by simp [li]⟩
 exact ⟨f,w,L,h1,h2,h3⟩
theorem GR {m:Nat} {t:List St} (hR2:R≤65536) (ht:b.2.2.2.1[m]? = some t) (hin:∀ s∈t,0≤s.1∧s.1 < (R:Int)) (htl:t.length≤1000) {fs:Option (List Int)} {ws:Option (Int×List Int)} {M:List Int} (hM:Mx (NB b + u) fs ws M)
   (hMx:∀ x,x∈M↔0≤x∧lvB b m x.toNat=true) {V:List Mv} (hV:V.length=R) (hVs:∀ r s,V[r]? = some s→bZ b u m r s) :
   ∃ V',loop (lf (((NB b + u:Nat):Nat):Int) (rgs t)) (0,V,fs,ws)=some V'∧V'.length=R∧∀ r s,V'[r]? = some s→bZ b u (m + 1) r s:=by
 obtain ⟨hrs,hrm⟩:=EA t
 have hrl:=Ic t
 have step:∀ r:Nat,¬ eh t r→∀ s,bZ b u m r s→bZ b u (m + 1) r s:=fun r hn s ⟨f,w,L,e,h1,h2⟩=>⟨f,w,L,e,h1,fun x=>by
   rw [h2]
   unfold sdM
   constructor
   . rintro (h | ⟨k,hk,h⟩)
     . exact .inl h
     . exact .inr ⟨k,by omega,h⟩
   . rintro (h | ⟨k,hk,t',e1,e2,h⟩)
     . exact .inl h
     . by_cases e:k=m
       . subst e; rw [ht] at e1; obtain rfl:=Option.some.inj e1; exact absurd e2 hn
       . exact .inr ⟨k,by omega,t',e1,e2,h⟩⟩
 obtain ⟨V', h1, h2⟩ := bL (body := lf (((NB b + u : Nat) : Nat) : Int) (rgs t)) (fun s => ∃ j : Nat, j ≤ (rgs t).length ∧ s.1 = (j : Int) ∧ s.2.1.length = R ∧ s.2.2.1 = fs ∧ s.2.2.2 = ws ∧ ∀ (r : Nat) (x : Mv), s.2.1[r]? = some x → if (r : Int) ∈ (rgs t).take j then bZ b u (m + 1) r x else bZ b u m r x) (fun s => (rgs t).length - s.1.toNat) (Q := fun V' => V'.length = R ∧ ∀ r s, V'[r]? = some s → bZ b u (m + 1) r s) (fun s hs => by
   obtain ⟨i,W,f0,w0⟩:=s
   obtain ⟨j,hj,rfl,hlen,rfl,rfl,hW⟩:=hs
   dsimp only at hlen hW ⊢
   by_cases hc:j < (rgs t).length
   . left
     have hmem:=(hrm _).1 (List.getElem_mem hc)
     obtain ⟨s0,hs0,e0⟩:=List.mem_map.1 hmem
     have hb:=hin s0 hs0
     rw [e0] at hb
     obtain ⟨r,hr⟩:=Int.eq_ofNat_of_zero_le hb.1
     have hrW:r < W.length:=by omega
     have hnot:(r:Int)∉(rgs t).take j:=fun hm=>by
       have hnd:(rgs t).Nodup:=hrs.imp (fun h=>by omega)
       have h2:((rgs t).take (j + 1)).Nodup:=hnd.sublist (List.take_sublist _ _)
       rw [aM hc,List.nodup_append] at h2
       exact h2.2.2 _ hm _ (List.mem_singleton.2 hr.symm) rfl
     have hWr:=hW r W[r] (List.getElem?_eq_getElem hrW)
     rw [if_neg hnot] at hWr
     obtain ⟨f,w,L,e1,g1,g2⟩:=hWr
     obtain ⟨f',w',g3,g4,_⟩:=yN g1 hM
     have gW:aa W ((r:Nat):Int)=some W[r]:=ah hrW
     refine ⟨(((j + 1:Nat):Int),W.set r (some (((NB b + u:Nat):Int),f',w')),f0,w0),?_,⟨j + 1,hc,rfl,by simpa using hlen,rfl,rfl,fun r2 x hx=>?_⟩,by dsimp only; omega⟩
     . unfold lf
       dsimp only
       rw [dlt hc,cond_true,ah hc,Option.bind_some,hr]
       simp only [gW,Option.bind_some,fH,e1,g3,Int.toNat_natCast,aj hc (by omega:(rgs t).length≤9223372036854775807)]
     . rw [aM hc]
       by_cases e:r2=r
       . subst e
         rw [List.getElem?_set_self hrW] at hx
         obtain rfl:=Option.some.inj hx
         rw [if_pos (List.mem_append_right _ (List.mem_singleton.2 hr.symm))]
         refine ⟨f',w',_,rfl,g4,fun x=>?_⟩
         rw [qm,g2,hMx]
         unfold sdM
         constructor
         . rintro ((h | ⟨k,hk,h⟩) | h)
           . exact .inl h
           . exact .inr ⟨k,by omega,h⟩
           . exact .inr ⟨m,by omega,t,ht,⟨s0,hs0,by rw [e0,hr]⟩,h.1⟩
         . rintro (h | ⟨k,hk,t',q1,q2,h⟩)
           . exact .inl (.inl h)
           . by_cases e:k=m
             . subst e
               have:=iu h.2
               exact .inr ⟨h,by omega⟩
             . exact .inl (.inr ⟨k,by omega,t',q1,q2,h⟩)
       . rw [List.getElem?_set_ne (fun h=>e h.symm)] at hx
         have:=hW r2 x hx
         have hiff:(r2:Int)∈(rgs t).take j++[(rgs t)[j]]↔(r2:Int)∈(rgs t).take j:=by
           rw [List.mem_append,List.mem_singleton,hr]
           exact ⟨fun h=>h.elim id (fun h=>absurd (by exact_mod_cast h) e),.inl⟩
         by_cases q:(r2:Int)∈(rgs t).take j
         . rw [if_pos q] at this; rw [if_pos (hiff.2 q)]; exact this
         . rw [if_neg q] at this; rw [if_neg (fun h=>q (hiff.1 h))]; exact this
   . obtain rfl:j=(rgs t).length:=by omega
     refine .inr ⟨W,?_,hlen,fun r x hx=>?_⟩
     . unfold lf
       dsimp only
       rw [dge hc,cond_false]
     . have:=hW r x hx
       rw [List.take_length] at this
       by_cases q:(r:Int)∈rgs t
       . rw [if_pos q] at this; exact this
       . rw [if_neg q] at this
         refine step r (fun ⟨s,hs,e⟩=>q ((hrm _).2 (List.mem_map.2 ⟨s,hs,e⟩))) x this) (s:=(0,V,fs,ws)) ⟨0,Nat.zero_le _,rfl,hV,rfl,rfl,fun r x hx=>by simpa using hVs r x hx⟩
 exact ⟨V',h1,h2⟩
theorem Bf {C:List Sw} (hC:CsOk b C) (hN0:0 < NB b) (hU:b.1=(u:Int)) (huR:u≤R) (hR2:R≤65536) (hN:NB b≤32) (hL:b.2.2.2.1.length≤10) (hloc:∀ t∈b.2.2.2.1,t.length≤20) (hin:∀ t∈b.2.2.2.1,∀ s∈t,0≤s.1∧s.1 < (R:Int)) {V:List Mv} (hV:V.length=R) (hVs:∀ r s,V[r]? = some s→bZ b u 0 r s) :
   ∃ V',loop (lg b (some ((NB b:Int),C)) ((NB b:Nat):Int)) (0,V)=some V'∧V'.length=R∧∀ r s,V'[r]? = some s→bZ b u b.2.2.2.1.length r s:=by
 have hS:NB b + u≤1048576:=by omega
 have hsz:IntKind.wrap .i64 (((NB b:Nat):Int) + b.1)=((NB b + u:Nat):Int):=by rw [hU,w64 (by omega) (by omega)]; omega
 have hCl:=hC.len hN0
 obtain ⟨V',h1,h2⟩:=bL (body:=lg b (some ((NB b:Int),C)) ((NB b:Nat):Int)) (fun s=>∃ k:Nat,k≤b.2.2.2.1.length∧s.1=(k:Int)∧s.2.length=R∧∀ r x,s.2[r]? = some x→bZ b u k r x) (fun s=>b.2.2.2.1.length - s.1.toNat) (Q:=fun V'=>V'.length=R∧∀ r s,V'[r]? = some s→bZ b u b.2.2.2.1.length r s) (fun s hs=>by
   obtain ⟨i,W⟩:=s
   obtain ⟨k,hk,rfl,hlen,hW⟩:=hs
   dsimp only at hlen hW ⊢
   by_cases hc:k < b.2.2.2.1.length
   . left
     have hmem:=List.getElem_mem hc
     have hA:∀ n∈lvN b k,n < NB b + u:=fun n hn=>by
       unfold lvN at hn
       have:=List.mem_range.1 (List.mem_filter.1 hn).1
       omega
     obtain ⟨fs,ws,M,g1,g2,g3⟩:=Gw hS hA (Nat.le_trans (Al b k) (by omega))
     have hM:∀ x,x∈M↔0≤x∧lvB b k x.toNat=true:=fun x=>by
       rw [g3]
       unfold li lvN
       rw [List.mem_map]
       constructor
       . rintro ⟨n,hn,rfl⟩
         exact ⟨Int.natCast_nonneg n,by rw [Int.toNat_natCast]; exact (List.mem_filter.1 hn).2⟩
       . rintro ⟨h0,h⟩
         exact ⟨x.toNat,List.mem_filter.2 ⟨List.mem_range.2 (iu h),h⟩,Int.toNat_of_nonneg h0⟩
     obtain ⟨W',g4,g5,g6⟩:=GR hR2 (List.getElem?_eq_getElem hc) (hin _ hmem) (Nat.le_trans (hloc _ hmem) (by decide)) g2 hM hlen hW
     refine ⟨(((k + 1:Nat):Int),W'),?_,⟨k + 1,hc,rfl,g5,g6⟩,by dsimp only; omega⟩
     unfold lg
     dsimp only
     rw [dlt hc,cond_true,ah hc,Option.bind_some,hsz,jA hS]
     simp only [Option.bind_some]
     rw [xO hC (by omega)]
     simp only [Option.bind_some]
     rw [g1]
     simp only [Option.bind_some]
     rw [DC _ (Nat.le_trans (hloc _ hmem) (by decide))]
     simp only [Option.bind_some,g4,aj hc (by omega:b.2.2.2.1.length≤9223372036854775807)]
   . obtain rfl:k=b.2.2.2.1.length:=by omega
     refine .inr ⟨W,?_,hlen,hW⟩
     unfold lg
     dsimp only
     rw [dge hc,cond_false]) (s:=(0,V)) ⟨0,Nat.zero_le _,rfl,hV,hVs⟩
 exact ⟨V',h1,h2⟩
end
theorem EF {b:Bo} (h:Sm b):∃ V:List Mv,mb b=some V∧(NB b=0→V=[])∧(0 < NB b→∃ u R:Nat,b.1=(u:Int)∧b.2.1=(R:Int)∧1≤u∧u≤R∧R≤65536∧V.length=R∧∀ r s,V[r]? = some s→bZ b u b.2.2.2.1.length r s):=by
 obtain ⟨C,h1,hC⟩:=ub h
 have hb:NB b≤32:=(dY h (Nat.le_refl _)).1
 unfold mb
 rw [show fx b=_ from h1,Option.bind_some,jP,Option.bind_some]
 by_cases h0:NB b=0
 . refine ⟨[],?_,fun _=>rfl,fun h=>by omega⟩
   rw [decide_eq_true (show ((NB b:Nat):Int)=0 by omega),cond_true]
 . have hN0:0 < NB b:=by omega
   have hwf:=BE hN0
   obtain ⟨w1,w2,w3⟩:=zy hwf
   have hloc:=AX hwf
   obtain ⟨u,hU⟩:=Int.eq_ofNat_of_zero_le (show 0≤b.1 by omega)
   obtain ⟨R,hR⟩:=Int.eq_ofNat_of_zero_le (show 0≤b.2.1 by omega)
   have hS:NB b + u≤1048576:=by omega
   have hsz:IntKind.wrap .i64 (((NB b:Nat):Int) + b.1)=((NB b + u:Nat):Int):=by rw [hU,w64 (by omega) (by omega)]; omega
   obtain ⟨fe,we,Le,g1,g2,_,g3⟩:=tJ (ix hS) 0 ((NB b:Nat):Int)
   have hLe:∀ x,x∈Le↔0≤x∧x < ((NB b:Nat):Int):=fun x=>by
     rw [g3]
     constructor
     . rintro (h | h)
       . cases h
       . omega
     . exact fun h => .inr (by omega)
   obtain ⟨V1,s1,s2,s3⟩:=Bm hU hR (by omega) (by omega) hb g2 hLe
   obtain ⟨V2,t1,t2,t3⟩:=Bf hC hN0 hU (by omega) (by omega) hb h.locals h.loc (fun t ht s hs=>by have:=hloc t ht s hs; omega) s2 s3
   refine ⟨V2,?_,fun h=>absurd h h0,fun _=>⟨u,R,hU,hR,by omega,by omega,by omega,t2,t3⟩⟩
   rw [decide_eq_false (show ¬ ((NB b:Nat):Int)=0 by omega),cond_false,hsz,jA hS,hR,mR _ _ (by omega)]
   simp only [Option.bind_some,br,g1]
   rw [s1]
   simp only [Option.bind_some]
   rw [t1]; rfl
end
section
theorem vu {n:Nat} {f:Option (List Int)} {b:Option (Int×List Int)} {L:List Int} (h:Mx n f b L):cR (some ((n:Int),f,b))=some L:=by
 have hn:=h.hn
 unfold cR
 rw [show sN (some ((n:Int),f,b))=some () from rfl,Option.bind_some]
 unfold sK
 rw [pp]
 rcases h.st with ⟨rfl,rfl,h8⟩ | ⟨w,rfl,rfl,hw⟩
 . have hsp:=ni hn h.rs h.bd (by omega)
   have at0:bv (some L) 0=some (L.getD 0 0,decide (0 < L.length)):=eR 0
   have hlp:loop (kQ (some L)) (L.getD 0 0,decide (0 < L.length),([]:List Int))=some L:=by
     have:=aF (body:=kQ (some L)) (fun k:Nat=>(L.getD k 0,decide (k < L.length),L.take k)) L.length (b:=L) ?_ ?_
     . exact this
     . intro k hk
       unfold kQ
       have hg:L.getD k 0=L[k]:=by simp [hk]
       have ha:app (L.take k) [L[k]]=some (L.take (k + 1)):=by
         rw [aH (by simp; omega),aM hk]
       simp only [decide_eq_true hk,cond_true,hg,ha,Option.bind_some,pC hsp hk,eR]
     . unfold kQ
       simp
   simp only [Option.isSome_none,cond_false,Option.bind_some,Option.isNone_some,sL,at0,hlp]
 . have hl:=xQ hw (body:=n4 (some ((n:Int),w))) (fun c k hk=>by
     have hk2:=fG hw.ds hk
     unfold n4
     have h0:decide (0≤(k:Int))=true:=by simp
     simp only [h0,cond_true,w64 (x:=(k:Int) + 1) (by omega) (by omega)]) (fun c=>by
     unfold n4
     rfl)
   obtain ⟨r,g1,g2⟩:=hl
   simp only [Option.isSome_some,cond_true,Option.bind_some,iZ,g1,g2]
section
variable {b:Bo}
theorem vy (h:Sm b) {β:Type} (F:Int→Option β):((dw b).bind fun p=>(dp p).bind F)=F ((NB b:Nat):Int):=by
 rw [show dw b=_ from tG h]; rfl
theorem uu (h:Sm b):eE b=some (if NB b=0 then 0 else IntKind.wrap .i64 (((NB b:Nat):Int) + b.1)):=by
 unfold eE
 rw [vy h]
 by_cases h0:NB b=0
 . rw [if_pos h0,decide_eq_true (show ((NB b:Nat):Int)=0 by omega)]; rfl
 . rw [if_neg h0,decide_eq_false (show ¬ ((NB b:Nat):Int)=0 by omega)]; rfl
theorem xD (h:Sm b) {x:Int} (hx:NB b=0∨x < 0∨b.1≤x):eG b x=some (0,false):=by
 unfold eG
 rw [vy h]
 have:(((decide (((NB b:Nat):Int)=0))||(decide (x < 0)))||(decide (b.1≤x)))=true:=by
   rw [Bool.or_eq_true,Bool.or_eq_true,decide_eq_true_eq,decide_eq_true_eq,decide_eq_true_eq]; omega
 rw [this]; rfl
theorem D7 (h:Sm b) {x:Int} (h0:¬ NB b=0) (h1:0≤x) (h2:x < b.1):eG b x=some (IntKind.wrap .i64 (((NB b:Nat):Int) + x),true):=by
 unfold eG
 rw [vy h]
 have:(((decide (((NB b:Nat):Int)=0))||(decide (x < 0)))||(decide (b.1≤x)))=false:=by
   rw [Bool.or_eq_false_iff,Bool.or_eq_false_iff,decide_eq_false_iff_not,decide_eq_false_iff_not,decide_eq_false_iff_not]; omega
 rw [this]; rfl
end
theorem GM (t:List St) (r:Nat) (ht:t.length≤1000000):∃ q:Bool,pf t (r:Int)=some q∧(q=true↔eh t r):=by
 refine ⟨t.any fun s=>decide (s.1=(r:Int)),?_,?_⟩
 . unfold pf
   rw [dV (body:=oL t (r:Int)) t (fun s=>decide (s.1=(r:Int))) (.inr true) (.inl ()) ?_ ?_]
   . cases t.any fun s=>decide (s.1=(r:Int)) <;> rfl
   . intro k hk
     unfold oL
     rw [dlt hk,cond_true,ah hk,Option.bind_some,aj hk (by omega)]
     cases decide (t[k].1=(r:Int)) <;> rfl
   . unfold oL
     rw [dge (Nat.lt_irrefl _),cond_false]
 . rw [List.any_eq_true]
   unfold eh
   constructor
   . rintro ⟨s,h1,h2⟩; exact ⟨s,h1,by simpa using h2⟩
   . rintro ⟨s,h1,h2⟩; exact ⟨s,h1,by simpa using h2⟩
def sdB (b:Bo) (u m r:Nat) (x:Nat):Bool:=@decide (sdM b u m r (x:Int)) (Classical.propDecidable _)
theorem ir {b:Bo} {u m r x:Nat}:sdB b u m r x=true↔sdM b u m r (x:Int):=by unfold sdB; exact @decide_eq_true_iff _ (Classical.propDecidable _)
section
variable {b:Bo} {u R:Nat}
theorem GV (h:Sm b) (hN0:0 < NB b) (hU:b.1=(u:Int)) (hu:u≤65536) (r:Nat) (hr:r≤65536) :
   loop (lT b (au (xs b)) ((List.range b.2.2.2.1.length).map fun k=>vec (NB b) (lvB b k)) (r:Int)) ([],0)=some (vec (NB b + u) (sdB b u b.2.2.2.1.length r)):=by
 have hb:NB b≤32:=(dY h (Nat.le_refl _)).1
 have hL:=h.locals
 have hal:(au (xs b)).length=NB b:=ii (xs b)
 have hsz:IntKind.wrap .i64 ((((au (xs b)).length:Nat):Int) + b.1)=((NB b + u:Nat):Int):=by rw [hal,hU,w64 (by omega) (by omega)]; omega
 have hnr:IntKind.wrap .i64 ((((au (xs b)).length:Nat):Int) + (r:Int))=((NB b + r:Nat):Int):=by rw [hal,w64 (by omega) (by omega)]; omega
 refine aF (body:=lT b (au (xs b)) ((List.range b.2.2.2.1.length).map fun k=>vec (NB b) (lvB b k)) (r:Int)) (fun n:Nat=>(vec n (sdB b u b.2.2.2.1.length r),(n:Int))) (NB b + u) (b:=vec (NB b + u) (sdB b u b.2.2.2.1.length r)) (fun x hx=>?_) ?_
 . have hvl := jF x (sdB b u b.2.2.2.1.length r)
   have hvs:vec (x + 1) (sdB b u b.2.2.2.1.length r)=vec x (sdB b u b.2.2.2.1.length r)++[if sdB b u b.2.2.2.1.length r x=true then 1 else 0]:=by unfold vec; rw [List.range_succ,List.map_append]; rfl
   have h0:(cond ((decide ((r:Int) < b.1))&&((decide ((x:Int) < (((au (xs b)).length:Nat):Int)))||(decide ((x:Int)=IntKind.wrap .i64 ((((au (xs b)).length:Nat):Int) + (r:Int)))))) (some (1)) (some (0)):Option Int)=some (if sdB b u 0 r x=true then 1 else 0):=by
     rw [hnr,hal,hU]
     have e:((decide ((r:Int) < (u:Int)))&&((decide ((x:Int) < ((NB b:Nat):Int)))||(decide ((x:Int)=((NB b + r:Nat):Int)))))=sdB b u 0 r x:=by
       rw [Bool.eq_iff_iff,ir,Bool.and_eq_true,Bool.or_eq_true,decide_eq_true_eq,decide_eq_true_eq,decide_eq_true_eq]
       unfold sdM
       constructor
       . rintro ⟨h1,h2⟩
         exact .inl ⟨by omega,by omega⟩
       . rintro (⟨h1,h2⟩ | ⟨k,hk,_⟩)
         . exact ⟨by omega,by omega⟩
         . omega
     rw [e]
     cases sdB b u 0 r x <;> rfl
   have hl1:loop (jc b (au (xs b)) ((List.range b.2.2.2.1.length).map fun k=>vec (NB b) (lvB b k)) (r:Int) (x:Int)) (if sdB b u 0 r x=true then 1 else 0,0)=some (if sdB b u b.2.2.2.1.length r x=true then 1 else 0):=by
     by_cases hc:x < NB b∧u≤r
     . refine aF (body:=jc b (au (xs b)) ((List.range b.2.2.2.1.length).map fun k=>vec (NB b) (lvB b k)) (r:Int) (x:Int)) (fun k:Nat=>((if sdB b u k r x=true then 1 else 0:Int),(k:Int))) b.2.2.2.1.length (b:=if sdB b u b.2.2.2.1.length r x=true then 1 else 0) (fun k hk=>?_) ?_
       . obtain ⟨q,q1,q2⟩:=GM b.2.2.2.1[k] r (Nat.le_trans (h.loc _ (List.getElem_mem hk)) (by decide))
         have hcond:(((decide ((k:Int) < ((b.2.2.2.1.length:Nat):Int)))&&(decide ((x:Int) < (((au (xs b)).length:Nat):Int))))&&(decide (b.1≤(r:Int))))=true:=by
           rw [hal,hU,Bool.and_eq_true,Bool.and_eq_true,decide_eq_true_eq,decide_eq_true_eq,decide_eq_true_eq]; omega
         have hsd:sdB b u (k + 1) r x=(sdB b u k r x||(q&&lvB b k x)):=by
           rw [Bool.eq_iff_iff,Bool.or_eq_true,Bool.and_eq_true,ir,ir,q2]
           unfold sdM
           constructor
           . rintro (⟨h1,_⟩ | ⟨k',hk',t,e1,e2,e3,e4⟩)
             . omega
             . by_cases e:k'=k
               . subst e
                 rw [List.getElem?_eq_getElem hk] at e1
                 obtain rfl:=Option.some.inj e1
                 exact .inr ⟨e2,by simpa using e4⟩
               . exact .inl (.inr ⟨k',by omega,t,e1,e2,e3,e4⟩)
           . rintro ((⟨h1,_⟩ | ⟨k',hk',h2⟩) | ⟨h1,h2⟩)
             . omega
             . exact .inr ⟨k',by omega,h2⟩
             . exact .inr ⟨k,by omega,_,List.getElem?_eq_getElem hk,h1,Int.natCast_nonneg x,by simpa using h2⟩
         unfold jc
         dsimp only
         rw [hcond,cond_true,ah hk,Option.bind_some,q1,Option.bind_some,hsd,aj hk (by omega)]
         cases q with
         | false=>simp
         | true =>
           rw [cond_true,kx hk,Option.bind_some,qb hc.1]
           cases lvB b k x <;> cases sdB b u k r x <;> simp
       . unfold jc
         dsimp only
         rw [dge (Nat.lt_irrefl _),Bool.false_and,Bool.false_and,cond_false]
     . have e:sdB b u b.2.2.2.1.length r x=sdB b u 0 r x:=by
         rw [Bool.eq_iff_iff,ir,ir]
         unfold sdM
         constructor
         . rintro (h1 | ⟨k,_,t,_,_,_,h2⟩)
           . exact .inl h1
           . have:=iu h2
             rw [Int.toNat_natCast] at this
             exact .inl ⟨by omega,.inl (by omega)⟩
         . rintro (h1 | ⟨k,hk,_⟩)
           . exact .inl h1
           . omega
       rw [e]
       refine fN ?_
       unfold jc
       dsimp only
       have hcond:(((decide ((0:Int) < ((b.2.2.2.1.length:Nat):Int)))&&(decide ((x:Int) < (((au (xs b)).length:Nat):Int))))&&(decide (b.1≤(r:Int))))=false:=by
         rw [hal,hU,Bool.and_eq_false_iff,Bool.and_eq_false_iff,decide_eq_false_iff_not,decide_eq_false_iff_not,decide_eq_false_iff_not]; omega
       rw [hcond,cond_false]
   unfold lT
   dsimp only
   rw [hsz,dlt hx,cond_true,h0,Option.bind_some,hl1,Option.bind_some,aH (by rw [hvl]; simp; omega),Option.bind_some,aj hx (by omega),hvs]
 . unfold lT
   dsimp only
   rw [hsz,dge (Nat.lt_irrefl _),cond_false]
theorem HG (h:Sm b) (hN0:0 < NB b) (hU:b.1=(u:Int)) (hR:b.2.1=(R:Int)) (hu:u≤65536) (hR2:R≤65536):eH b=some ((List.range R).map fun r=>vec (NB b + u) (sdB b u b.2.2.2.1.length r)):=by
 unfold eH
 rw [show dd b=_ from mA h,Option.bind_some,show decide ((((au (xs b)).length:Nat):Int)=0)=false from decide_eq_false (by rw [ii]; show ¬ ((NB b:Nat):Int)=0; omega),cond_false,
   show ml b=_ from GB h,Option.bind_some]
 have hl:=aF (body:=lU b (au (xs b)) ((List.range b.2.2.2.1.length).map fun k=>vec (NB b) (lvB b k))) (fun n:Nat=>((List.range n).map (fun r=>vec (NB b + u) (sdB b u b.2.2.2.1.length r)),(n:Int))) R (b:=(List.range R).map fun r=>vec (NB b + u) (sdB b u b.2.2.2.1.length r)) (fun n hn=>by
     unfold lU
     dsimp only
     rw [hR,dlt hn,cond_true,GV h hN0 hU hu n (by omega),Option.bind_some,aH (by simp; omega),Option.bind_some,aj hn (by omega),List.range_succ,List.map_append]; rfl) (by
     unfold lU
     dsimp only
     rw [hR,dge (Nat.lt_irrefl _),cond_false])
 rw [show loop (lU b (au (xs b)) ((List.range b.2.2.2.1.length).map fun k=>vec (NB b) (lvB b k))) ([],0)=_ from hl]; rfl
theorem DG (h:Sm b) (h0:NB b=0):eH b=some []:=by
 unfold eH
 rw [show dd b=_ from mA h,Option.bind_some,show decide ((((au (xs b)).length:Nat):Int)=0)=true from decide_eq_true (by rw [ii]; show ((NB b:Nat):Int)=0; omega),cond_true]
end
abbrev b28:Bo:=(1,2,[],[[(1,false)]],[(0,false)],[],[([],(3,0,0,[],[],[]))])
theorem BT:Sm b28:=⟨by decide,by decide,by decide,by decide,by decide,by decide,by decide,by decide,by decide⟩
theorem M4:(vck b28).1=0:=by
 have hr:tE (bG b28) (3,0,0,[],[],[])=0:=IX (t:=[(1,false)]) (L:=[]) rfl rfl (by simp)
 have hc:cd b28=(0,0,0,0):=by
   have h1:bH b28 ([],(3,0,0,[],[],[]))=none:=by
     unfold bH
     simp only [List.findIdx?_nil,hr]
     rfl
   unfold cd
   simp only [List.findIdx?_cons,h1]
   rfl
 unfold vck
 rw [hc]; rfl
theorem BW:xs b28=b28.2.2.2.2.2.2:=by unfold xs; rw [if_pos M4]
theorem J5:pts (xs b28)=[([0],[])]:=by
 rw [BW]
 show []++([]++[cpT ([0],[])])=_
 unfold cpT
 rw [IC]; rfl
theorem nt:NB b28=1:=by show bg (xs b28) (xs b28).length=1; rw [BW]; decide
theorem PP:lvB b28 0 0=true:=by
 rw [iq]
 unfold LvS
 rw [nt,J5]
 exact .rd (by decide) (by decide)
theorem mN:bf=some true:=by
 unfold bf
 obtain ⟨V,h1,_,hV⟩:=EF BT
 obtain ⟨u,R,hU,hR,_,_,_,hlen,hs⟩:=hV (by rw [nt]; decide)
 obtain rfl:u=1:=by have:((1:Nat):Int)=(u:Int):=hU; omega
 obtain rfl:R=2:=by have:((2:Nat):Int)=(R:Int):=hR; omega
 rw [show mb (1,2,[],[[(1,false)]],[(0,false)],[],[([],(3,0,0,[],[],[]))])=_ from h1,Option.bind_some,hlen]
 obtain ⟨f0,w0,L0,e0,m0,q0⟩:=hs 0 V[0] (List.getElem?_eq_getElem (by omega))
 obtain ⟨f1,w1,L1,e1,m1,q1⟩:=hs 1 V[1] (List.getElem?_eq_getElem (by omega))
 have g0:aa V 0=some V[0]:=ah (k:=0) (by omega)
 have g1:aa V 1=some V[1]:=ah (k:=1) (by omega)
 have hL0:L0=[0,1]:=by
   refine eJ m0.rs (by simp) (fun x=>?_)
   rw [q0]
   unfold sdM
   rw [nt]
   simp only [List.mem_cons,List.not_mem_nil,or_false]
   constructor
   . rintro (h | ⟨k,hk,t,ht,⟨s,hs1,hs2⟩,_⟩)
     . omega
     . obtain rfl:k=0:=by have:k < 1:=hk; omega
       obtain rfl:[(1,false)]=t:=Option.some.inj ht
       simp at hs1; subst hs1; simp at hs2
   . exact fun h => .inl ⟨by omega,by omega⟩
 have hL1:L1=[0]:=by
   refine eJ m1.rs (by simp) (fun x=>?_)
   rw [q1]
   unfold sdM
   simp only [List.mem_singleton]
   constructor
   . rintro (h | ⟨k,hk,t,ht,_,h0,h2⟩)
     . omega
     . have:=iu h2
       rw [nt] at this
       omega
   . rintro rfl
     exact .inr ⟨0,by decide,[(1,false)],rfl,⟨(1,false),by simp,rfl⟩,Int.le_refl 0,PP⟩
 subst hL0 hL1
 have hsz:=uu BT
 rw [show eE (1,2,[],[[(1,false)]],[(0,false)],[],[([],(3,0,0,[],[],[]))])=_ from hsz,g0,g1,Option.bind_some,Option.bind_some,e0,e1,vu m0,vu m1,Option.bind_some,Option.bind_some,pA _ _ (by simp),pA _ _ (by simp),nt]
 rfl
end
end
end Go.Proofs.YtaajcbeoafhmaaaGreatDoor

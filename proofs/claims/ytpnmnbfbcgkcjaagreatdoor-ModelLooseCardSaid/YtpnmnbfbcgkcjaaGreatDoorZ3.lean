/- A part of the proof: what lies ahead of the law. Nothing is claimed here. -/
import Derived.Test.YtpnmnbfbcgkcjaaGreatDoorZ2
import Derived.Laws.Pointers
import Derived.MapKept
import Derived.LaidEqlPtr
import Derived.Conc.SmallLaws
open Array renaming ext'→cN0,getElem?_append→eA0,getElem?_eq_some_iff→cQ0,getElem?_modify→cH0,getElem?_setIfInBounds→az0,length_toList→Y5
open Bool renaming and_eq_true→Y1,or_eq_false_iff→cM0,true_and→cd0
open Empty renaming elim→fc0
open Int renaming eq_ofNat_of_zero_le→W6,mul_le_mul_of_nonneg_right→bP0,toNat_natCast→W2,toNat_zero→cj0
open List renaming all_eq_true→aF0,append_assoc→X1,append_nil→Z6,cons_append→aK0,drop_eq_getElem_cons→aY0,drop_length→fo0,drop_length_add_append→cO0,drop_take→dv0,drop_zero→ab0,filter_append_perm→ej0,flatten_cons→cC0,foldl_cons→bF0,getElem?_append_left→V6,getElem?_append_right→V5,getElem?_drop→bf0,getElem?_eq_getElem→Z0,getElem?_eq_none→ai0,getElem?_eq_some_iff→V4,length→W4,length_append→W3,length_cons→V9,length_drop→W8,length_eq_zero_iff→Z4,length_replicate→X9,length_set→ax0,length_take→X4,map_append→X6,map_congr_left→cm0,map_cons→X5,map_map→dL0,map_nil→aS0,mem_append→V3,mem_append_left→af0,mem_append_right→ae0,mem_cons→Y4,mem_cons_of_mem→W5,mem_filter→ac0,mem_map→Y7,mem_of_getElem?→cf0,mem_or_eq_of_mem_set→ch0,mem_replicate→cV0,mem_singleton→Y2,nil_append→aH0,nodup_nil→cD0,perm_append_comm→bv0,perm_middle→aP0,prefix_refl→bJ0,replicate→Z2,replicate_succ→dB0,set_append_right→bu0,size_toArray→aV0,take_append→bU0,take_append_drop→as0,take_length_add_append→bD0,take_of_length_le→V8,take_succ_eq_append_getElem→ay0,take_take→bq0
open List.Perm renaming append_left→cG0,swap→bd0
open List.cons renaming injEq→aQ0
open Nat renaming add_assoc→aG0,add_comm→bh0,add_left_comm→eW0,add_zero→aD0,beq→Y3,beq_refl→bY0,ble→aT0,ble_eq_true_of_le→et0,blt→aO0,blt_eq→bj0,eq_of_beq_eq_true→Y0,eq_zero_or_pos→eP0,le_of_ble_eq_true→W9,le_refl→X3,lt_or_ge→aq0,lt_trichotomy→bi0,min_eq_left→an0,min_eq_right→cJ0,mul_le_mul_right→aI0,mul_one→ba0,sub_self→bs0,sub_sub→eG0,succ_mul→aC0,zero_add→Y8,zero_le→ah0
open Option renaming bind_some→V0,map_some→dl0
open Option.some renaming injEq→Z3
namespace Go.Proofs.YtpnmnbfbcgkcjaaGreatDoor
noncomputable section
set_option linter.unusedVariables false
set_option linter.unusedSimpArgs false
set_option linter.unnecessarySimpa false
set_option linter.unusedSectionVars false
open Go.RowKit
section
variable [BldA]
section
variable {R:Type}{P:Program}{E:En}{n:Nat}{m m':List M}{K K':Hp}{fr:Frz}{σ:Zt}{ρ:Sl1}{w w':World}
variable {k:Zt->Option R}{r:R}{d:Nat}{op:Op}{t:TypeId}{pos:String}{af:Array Edge}
theorem dF{e:TypeId}{sz:Nat}(h:cj P e sz=true):∃z bt,Inf P e z sz bt/\z.cells.size=sz/\bt<=100000/\0<sz:=by
 unfold cj at h;split at h
 . rename_i i hi;simp only[Y1]at h;obtain⟨⟨⟨h1,h2⟩,h3⟩,h4⟩:=h;obtain rfl:=Y0 h1;have h2:=W9 h2;rw[bj0]at h3;split at h4
   . rename_i z hz;exact⟨z,i.bytes,by unfold Inf;rw[hi];simp[hz],Y0 h4,h2,h3⟩
   . cases h4
 . cases h
theorem Inf.zero_eq{e:TypeId}{z z':Value}{s s' b b':Nat}(h:Inf P e z s b)(h':Inf P e z' s' b'):z=z'/\s=s'/\b=b':=by
 obtain⟨i,h1,h2,h3,h4⟩:=h.open;obtain⟨i',h1',h2',h3',h4'⟩:=h'.open;rw[h1]at h1';cases h1';rw[h2]at h2';cases h2';exact⟨rfl,h3.symm.trans h3',h4.symm.trans h4'⟩
theorem dD{H:List HA}{e:TypeId}{tp:Tp}{l:List tp.den}{d:Option Nat}(h:newR σ d H e tp l k=some r):∃d0,d=some d0/\k ⟨σ.base,(d0,.own σ.nx)::σ.top,.row σ.nx (σ.nx+1) e tp l l.length::H,σ.Hf,σ.nx+2,σ.kq⟩=some r:=by
 unfold newR at h;split at h
 . exact⟨_,rfl,h⟩
 . cases h
def rowsR(m:List M)(K:Hp):List (List SV)->List (List Value)->Prop
 |[],vs=>vs=[]
 |c::cs,vs=>∃v r,vs=v::r/\SV.relL m K c v/\rowsR m K cs r
theorem Ab:∀{cs:List (List SV)} {vs:List (List Value)} (i:Nat) {c:List SV} {v:List Value},rowsR m K cs vs->SV.relL m K c v->rowsR m K (cs.set i c) (vs.set i v)
 |[],vs,i,c,v,h,hv=>by obtain rfl:vs=[]:=h;exact rfl
 |a::cs,vs,0,c,v,⟨x,r,e,h1,h2⟩,hv=>by subst e;exact⟨v,r,rfl,hv,h2⟩
 |a::cs,vs,i+1,c,v,⟨x,r,e,h1,h2⟩,hv=>by subst e;exact⟨x,_,rfl,h1,Ab i h2 hv⟩
theorem ve:∀{cs:List (List SV)} {vs:List (List Value)},rowsR m K cs vs->vs.length=cs.length
 |[],vs,h=>by obtain rfl:vs=[]:=h;rfl
 |a::cs,vs,⟨x,r,e,h1,h2⟩=>by subst e;simp[ve h2]
theorem qi{z:List SV}{zv:List Value}(h:SV.relL m K z zv):∀len,rowsR m K (Z2 len z) (Z2 len zv)
 |0=>rfl
 |len+1=>⟨zv,_,rfl,h,qi h len⟩
theorem mP(z:List Value):∀len,zrow len z=(Z2 len z).flatten
 |0=>rfl
 |len+1=>by simp[zrow,dB0,mP z len]
theorem AT{tp:Tp}:∀{cs:List (List SV)} {l:List tp.den} {vs:List (List Value)},sf tp cs=some l->rowsR m K cs vs->Els K tp vs.flatten l/\l.length=vs.length
 | [],l,vs,h,hr=>by
   cases h;obtain rfl:vs=[]:=hr;exact⟨rfl,rfl⟩
 | c :: cs,l,vs,h,hr=>by
   obtain⟨v,q,rfl,hr0,hr1⟩:=hr;unfold sf at h;split at h
   . rename_i x xs h1 h2;cases h;obtain⟨c1,c2,e1,e2,e3⟩:=cL tp h1 hr0;obtain rfl:=aU e3;obtain⟨i1,i2⟩:=AT h2 hr1;exact⟨⟨v,q.flatten,by simp,by rw[e1];simpa using e2,i1⟩,by simp[i2]⟩
   . cases h
theorem Az:∀(xs us:List Value) (off:Nat),off+xs.length<=us.length->dk us off xs=us.take off++xs++us.drop (off+xs.length)
 |[],us,off,_=>by simp[dk]
 | x :: xs,us,off,hle=>by
   simp only[V9]at hle;unfold dk;rw[Az xs _ _ (by rw[ax0];omega),List.take_set,List.drop_set,if_pos (by omega)];have e:us.take (off+1)=us.take off++[us[off]]:=by rw[ay0 (by omega)]
   rw[e,bu0 _ _ (by rw[X4];omega),X4,an0 (by omega),bs0];simp[bh0,eW0]
theorem zO(sz:Nat)(hsz:0<sz):∀(qs:List (Nat×Value)) (rows:List (List Value)),(∀x∈rows,x.length=sz)->(∀p∈qs,p.1<rows.length/\p.2.cells.toList.length=sz) ->
   br (fun i=>some (i*sz,sz)) rows.flatten qs=some (qs.foldl (fun rs p=>rs.set p.1 p.2.cells.toList) rows).flatten
 |[],rows,_,_=>rfl
 | p :: qs,rows,hr,hq=>by
   obtain⟨i,v⟩:=p;obtain⟨h1,h2⟩:=hq (i,v) (by simp);dsimp only at h1 h2;have flen:∀(rs:List (List Value)),(∀x∈rs,x.length=sz)->rs.flatten.length=rs.length*sz:=by
     intro rs
     induction rs with
     |nil=>intro _;simp
     |cons a rs ih=>intro h;simp only[cC0,W3,V9];rw[ih (fun x hx=>h x (by simp[hx])),h a (by simp),aC0,bh0]
   have hlen:=flen rows hr;have hle:(i+1)*sz<=rows.length*sz:=aI0 _ (by omega);rw[aC0]at hle;have fset:∀(rs:List (List Value)) (i:Nat),(∀x∈rs,x.length=sz)->i<rs.length->∀c:List Value,c.length=sz->(rs.set i c).flatten=rs.flatten.take (i*sz)++c++rs.flatten.drop (i*sz+sz):=by
     intro rs
     induction rs with
     |nil=>intro i _ hi;simp at hi
     | cons a rs ih =>
       intro i h hi c hc;have ha:=h a (by simp);cases i with
       |zero=>simp[ha]
       | succ i =>
         simp only[List.set_cons_succ,cC0];rw[ih i (fun x hx=>h x (by simp[hx])) (by simpa using hi) c hc];have e:(i+1)*sz=a.length+i*sz:=by rw[ha,aC0,bh0]
         rw[e,bD0,aG0,cO0];simp
   unfold br;simp only;rw[h2,bY0,cd0,et0 (by rw[hlen];omega)];simp only[cond_true];rw[Az _ _ _ (by rw[h2,hlen];omega),h2,<- fset rows i hr h1 _ h2];rw[zO sz hsz qs (rows.set i v.cells.toList) (fun x hx=>?_) (fun p hp=>?_)]
   . rfl
   . rcases ch0 hx with hx|rfl
     . exact hr x hx
     . exact h2
   . rw[ax0];exact hq p (by simp[hp])
theorem qT(sz:Nat)(hsz:0<sz):∀{ps:List (Nat×SV)} {qs:List (Nat×Value)} {rs cs:List (List SV)} {vs:List (List Value)},nJ sz rs ps=some cs->iF m K ps qs->rowsR m K rs vs->(∀x∈vs,x.length=sz) ->
   ∃ws,br (fun i=>some (i*sz,sz)) vs.flatten qs=some ws.flatten/\rowsR m K cs ws/\ws.length=vs.length/\∀x∈ws,x.length=sz
 | [],qs,rs,cs,vs,h,hp,hr,hv=>by
   cases h;obtain rfl:qs=[]:=hp;exact⟨vs,rfl,hr,rfl,hv⟩
 | p :: ps,qs,rs,cs,vs,h,hp,hr,hv=>by
   obtain⟨u,q,rfl,h1,h2⟩:=hp;unfold nJ at h;split at h
   . rename_i c hc;replace h:=b7 h;obtain⟨b1,b2,h⟩:=h;rw[bj0]at b1;have b2:=Y0 b2;have hcr:=mR hc h1;have hcl:=cG hcr;have hl:=ve hr;have hv':∀x∈vs.set p.1 u.cells.toList,x.length=sz:=fun x hx=>by
       rcases ch0 hx with hx|rfl
       . exact hv x hx
       . rw[hcl,b2]
     obtain⟨ws,g1,g2,g3,g4⟩:=qT sz hsz h h2 (Ab p.1 hr hcr) hv';refine⟨ws,?_,g2,by rw[g3,ax0],g4⟩;have hone:=zO sz hsz [(p.1,u)] vs hv (fun x hx=>by
       simp only[Y2]at hx;subst hx;exact⟨by rw[hl];exact b1,by rw[hcl,b2]⟩)
     have step:∀(q:List (Nat×Value)),br (fun i=>some (i*sz,sz)) vs.flatten ((p.1,u)::q)=br (fun i=>some (i*sz,sz)) (vs.set p.1 u.cells.toList).flatten q:=by
       intro q;unfold br at hone;unfold br;simp only at hone ⊢;cases hb:(Y3 u.cells.toList.length sz&&aT0 (p.1*sz+u.cells.toList.length) vs.flatten.length)with
       |false=>rw[hb]at hone;cases hone
       | true =>
         rw[hb]at hone;simp only[cond_true]at hone ⊢;unfold br at hone;simp only[bF0,List.foldl_nil,Z3]at hone;rw[hone];cases q <;> rfl
     rw[step];exact g1
   . cases h
theorem Hq{s:TypeId}{x y:Operand}(h:kc P σ (some d) s (σ.ev n x) (σ.ev n y) k=some r)(hr:Rel E fr σ m K ρ w):OpOk P E n fr σ ρ w ⟨some d,.makeSlice s x y,t,pos,af,none⟩ (fun σ'=>k σ'=some r):=fun X Q hX=>by
 have hx:=hr.toPur.ev n x;have hy:=hr.toPur.ev n y;unfold kc at h;split at h
 . rename_i e k1 a k2 b hs e1 e2;rw[e1]at hx;rw[e2]at hy;split at h
   . rename_i z tp hz htp;replace h:=ak h;obtain⟨hi,h⟩:=h;obtain⟨zv,bt,i1,i2,i3,i4⟩:=dF hi;obtain⟨zv',sz',bt',j1,j2⟩:=gf (m:=m) (K:=K) hz;obtain⟨rfl,rfl,rfl⟩:=i1.zero_eq j1;split at h
     . rename_i x0 hd;obtain⟨c1,c2,q1,q2,q3⟩:=cL tp hd j2;obtain rfl:=aU q3;rw[Z6]at q1;rw[<- q1]at q2;replace h:=ob h;obtain⟨l,hl,h⟩:=h;obtain⟨d0,hd0,h⟩:=dD h;cases hd0;refine bw ((A.make (K0:=K) (ty:=tp) hs i1 rfl q2 i4 i3 hx hy hl).go w hr.toSep _ _ ?_);rintro ρ' K' L' w' ⟨bb,rfl,rfl,rfl⟩ hs';obtain⟨m',hrel⟩:=hr.newR (d:=d) (fun a ha=>ha) (Hp.le_refl K) hs';exact hX _ _ _ _ _ hrel ⟨rfl,rfl⟩ h
     . cases h
   . cases h
 . cases h
theorem Bh:∀{cs:List (List SV)} {fs:List SV} {vs:List (List Value)},sF cs=some fs->rowsR m K cs vs->SV.relL m K fs vs.flatten/\∀x∈vs,x.length=1
 | [],fs,vs,h,hr=>by
   cases h;obtain rfl:vs=[]:=hr;exact⟨rfl,by simp⟩
 | c :: cs,fs,vs,h,hr=>by
   obtain⟨v,q,rfl,hr0,hr1⟩:=hr;unfold sF at h;split at h
   . rename_i h0;cases h0
   . rename_i f cc r0 h0;cases h0;split at h
     . rename_i l hl;cases h;obtain⟨u,q2,rfl,g1,g2⟩:=aM hr0;obtain rfl:=aU g2;obtain⟨i1,i2⟩:=Bh hl hr1;exact⟨⟨u,q.flatten,by simp,g1,i1⟩,by simp;exact i2⟩
     . cases h
   . cases h
theorem Ji {s:TypeId} {len:Nat} {ps:Array (Nat×Operand)} (h:rY P n σ (some d) s len (ps.toList.map fun p=>(p.1,σ.ev n p.2)) k=some r) (hr:Rel E fr σ m K ρ w):OpOk P E n fr σ ρ w ⟨some d,.buildSlice s len ps,t,pos,af,none⟩ (fun σ'=>k σ'=some r):=fun X Q hX=>by
 unfold rY at h;split at h
 . rename_i e hs;split at h
   . rename_i z hz;split at h
     . rename_i cs hcs;obtain⟨zv,sz,bt,j1,j2⟩:=gf (m:=m) (K:=K) hz;have hzl:=cG j2;have hps:iF m K (ps.toList.map fun p=>(p.1,σ.ev n p.2)) (ps.toList.map fun p=>(p.1,ev n ρ p.2)):=uU hr.toPur ps.toList;split at h
       . rename_i fs c0 cs0 hfs;replace h:=b7 h;obtain⟨hi,hb,h⟩:=h;have hb:=W9 hb;obtain⟨zv',bt',i1,i2,i3,i4⟩:=dF hi;obtain⟨rfl,rfl,rfl⟩:=i1.zero_eq j1;have hz1:z.length=1:=by rw[<- hzl,Y5];exact i2
         rw[hz1]at hcs;obtain⟨ws,g1,g2,g3,g4⟩:=qT 1 (by decide) hcs hps (qi j2 len) (fun x hx=>by obtain⟨_,rfl⟩:=cV0.1 hx;rw[Y5];exact i2);obtain⟨f1,f2⟩:=Bh hfs g2;rw[<- mP]at g1;have hpos:0<len:=by
           have:=ve g2;rw[g3,X9]at this;rw[this];simp
         refine bw ((A.litC (len:=len) (cs:=ws.flatten) hs i1 (by omega) i2 g1 (by omega)).go w hr.toSep _ _ ?_);rintro ρ' K' L' w' ⟨b,rfl,rfl,rfl⟩ hs';have hnb:=hr.newB (d:=d) (b:=b) f1 hs';have g0:(m++[M.val (.pointer (some ⟨b,0,none⟩)),.cells ws.flatten])[σ.nx]?=some (.val (.pointer (some ⟨b,0,none⟩))):=aR hr.nx;have hset:=Rel.set hnb (d:=d) (sv:=.fsl σ.nx len) (v:=.slice (some ⟨b,0,none⟩) len len) ⟨b,g0,rfl⟩;have key:Rel E fr ⟨σ.base,(d,.fsl σ.nx len)::σ.top,.blk σ.nx (σ.nx+1) e fs::σ.H,σ.Hf,σ.nx+2,σ.kq⟩ (m++[M.val (.pointer (some ⟨b,0,none⟩)),.cells ws.flatten]) K (aY ρ d (.slice (some ⟨b,0,none⟩) len len)) w':=by
           have q:Pur fr ⟨σ.base,σ.top,.blk σ.nx (σ.nx+1) e fs::σ.H,σ.Hf,σ.nx+2,σ.kq⟩ (m++[M.val (.pointer (some ⟨b,0,none⟩)),.cells ws.flatten]) K ρ :=
             Pur.next hr.toPur (ax _ _) (Hp.le_refl K) (fun e=>⟨e,rfl⟩) (by simp[hr.nx]) hnb.okH
           exact⟨q.set (d:=d) (sv:=.fsl σ.nx len) (v:=.slice (some ⟨b,0,none⟩) len len) ⟨b,g0,rfl⟩,hnb.sep⟩
         exact hX _ _ _ _ _ key ⟨rfl,rfl⟩ h
       . split at h
         . rename_i tp htp;replace h:=b7 h;obtain⟨hi,hb,h⟩:=h;have hb:=W9 hb;obtain⟨zv',bt',i1,i2,i3,i4⟩:=dF hi;obtain⟨rfl,rfl,rfl⟩:=i1.zero_eq j1;have hz1:z.length=tp.size:=by rw[<- hzl,Y5];exact i2
           rw[hz1]at hcs;obtain⟨ws,g1,g2,g3,g4⟩:=qT tp.size i4 hcs hps (qi j2 len) (fun x hx=>by obtain⟨_,rfl⟩:=cV0.1 hx;rw[Y5];exact i2);rw[<- mP]at g1;split at h
           . rename_i l hl;obtain⟨f1,f2⟩:=AT hl g2;rw[g3,X9]at f2;obtain⟨d0,hd0,h⟩:=dD h;cases hd0;refine bw ((A.lit (K0:=K) (ty:=tp) (xs:=l) (len:=len) hs i1 rfl hb i2 g1 ?_ f1 f2 i4).go w hr.toSep _ _ ?_)
             . rw[f1.len,f2]
             rintro ρ' K' L' w' ⟨bb,rfl,rfl,rfl⟩ hs';obtain⟨m',hrel⟩:=hr.newR (d:=d) (fun a ha=>ha) (Hp.le_refl K) hs';exact hX _ _ _ _ _ hrel ⟨rfl,rfl⟩ h
           . cases h
         . cases h
     . cases h
   . cases h
 . cases h
theorem Kk{e:TypeId}(h:yv P e=true):Inf P e (.int .u8 0) 1 1:=by
 unfold yv at h;split at h
 . rename_i i hi;simp only[Y1]at h;obtain⟨⟨h1,h2⟩,h3⟩:=h;have h1:=Y0 h1;have h2:=Y0 h2;split at h3
   . rename_i hz;unfold Inf;rw[hi];simp[hz,h1,h2]
   . cases h3
 . cases h
theorem BQ{e s u:TypeId}{tp:Tp}{l:List tp.den}{x y:Operand}{H:List HA}{v:Value}(hs:P.underlying s=some (.slice e))(h:appS P σ H (some d) e s u tp l (σ.ev n y) k=some r)(hr:Rel E fr σ m K ρ w)
   (hH:∀a∈H,a∈σ.H) (hsep:Sep E K (Row K e tp v l::(H.map (HA.conc m)++σ.fz fr)) w) (hx:ev n ρ x=v) :
   OpOk P E n fr σ ρ w ⟨some d,.call ⟨.builtin .append,#[x,y],#[s,u]⟩,t,pos,af,none⟩ (fun σ'=>k σ'=some r):=fun X Q hX=>by
 have hy:=hr.toPur.ev n y;unfold appS at h;split at h
 . rename_i z ez;rw[ez]at hy;split at h
   . rename_i l;unfold DZ at h;split at h
     . rename_i hu;replace h:=ak h;obtain⟨hi,h⟩:=h;replace h:=ob h;obtain⟨zs,hz,h⟩:=h;obtain⟨d0,hd0,h⟩:=dD h;cases hd0;refine bw ((A.appS hs hu (Kk hi) hx hy hz).go w hsep _ _ ?_);rintro ρ' K' L' w' ⟨v',rfl,rfl,rfl⟩ hs';obtain⟨m',hrel⟩:=hr.newR (d:=d) hH (Hp.nil_le _) hs';exact hX _ _ _ _ _ hrel ⟨rfl,rfl⟩ h
     . cases h
   . cases h
 . rename_i ez;rw[ez]at hy;replace h:=b7 h;obtain⟨hi,hb,h⟩:=h;obtain rfl:=Y0 hb;obtain⟨zv,bt,i1,i2,i3,i4⟩:=dF hi;replace h:=ob h;obtain⟨zs,hz,h⟩:=h;obtain⟨d0,hd0,h⟩:=dD h;cases hd0;refine bw ((A.appP (K1:=K) (Kr:=K) hs i1 rfl i2 i4 i3 hx hy DT (Hp.le_refl K) (fun h=>h) (fun h=>h) hz).go w hsep _ _ ?_);rintro ρ' K' L' w' ⟨v',rfl,rfl,rfl⟩ hs';obtain⟨m',hrel⟩:=hr.newR (d:=d) hH (Hp.le_refl K) hs';exact hX _ _ _ _ _ hrel ⟨rfl,rfl⟩ h
 . rename_i t' l' z ez;rw[ez]at hy;replace h:=b7 h;obtain⟨hi,hb,h⟩:=h;obtain rfl:=Y0 hb;obtain⟨zv,bt,i1,i2,i3,i4⟩:=dF hi;split at h
   . rename_i hsm _;obtain⟨hy,rfl⟩:=hy;have hy:=B5 hsm hy;obtain⟨ad,cap,hv⟩:=hy.slv;rw[hv]at hy;replace h:=ob h;obtain⟨zs,hz,h⟩:=h;obtain⟨d0,hd0,h⟩:=dD h;cases hd0;refine bw ((A.appP (K1:=K) (Kr:=K) hs i1 rfl i2 i4 i3 hx hv hy (Hp.le_refl K) (fun h=>h) (fun h=>h) hz).go w hsep _ _ ?_);rintro ρ' K' L' w' ⟨v',rfl,rfl,rfl⟩ hs';obtain⟨m',hrel⟩:=hr.newR (d:=d) hH (Hp.le_refl K) hs';exact hX _ _ _ _ _ hrel ⟨rfl,rfl⟩ h
   . cases h
 . rename_i j ez;rw[ez]at hy;replace h:=b7 h;obtain⟨hi,hb,h⟩:=h;obtain rfl:=Y0 hb;obtain⟨zv,bt,i1,i2,i3,i4⟩:=dF hi;split at h
   . rename_i q H2 hq;replace h:=ak h;obtain⟨hb,h⟩:=h;have hb:=Y0 hb;split at h
     . rename_i hsm _;obtain⟨a,ha,hmem,hperm⟩:=bJ hq;obtain rfl:=bP ha;obtain⟨c0,e0,t0,l0,n0⟩:=q;obtain⟨hsm⟩:=hsm;change e0=e at hb;change t0=tp at hsm;subst hsm;subst hb;change HA.row j c0 e0 t0 l0 n0∈H at hmem;change H.Perm (HA.row j c0 e0 t0 l0 n0::H2)at hperm;obtain⟨ad,cap,cs,g1,g2,g3,g4,g5,g6⟩:=HA.ok_row (hr.okH _ (hH _ hmem));have hyv:=hy.1;rw[g1]at hyv;simp only[Z3,M.val.injEq]at hyv;have hsep2:Sep E K (Row K e0 t0 v l::HA.conc m (.row j c0 e0 t0 l0 n0)::(H2.map (HA.conc m)++σ.fz fr)) w :=
         Sep.perm (((hperm.map (HA.conc m)).append_right _).cons _) hsep
       rw[g6]at hsep2;have hsep3:=(hsep2.swap.mono (fun h0 hr0=>Row.of_rw g3 h0 (by rw[g4];exact hr0))).swap;replace h:=ob h;obtain⟨zs,hz,h⟩:=h;obtain⟨d0,hd0,h⟩:=dD h;cases hd0;refine bw ((A.appR (Kr:=K) hs i1 rfl i2 i4 i3 hx hyv.symm (fun h=>h) (fun h=>h) hz).go w hsep3 _ _ ?_);rintro ρ' K' L' w' ⟨v',rfl,rfl,rfl⟩ hs';obtain⟨m',hrel⟩:=hr.newR (d:=d) (fun a ha=>hH a (hperm.symm.subset (W5 _ ha))) (Hp.le_refl K) hs';exact hX _ _ _ _ _ hrel ⟨rfl,rfl⟩ h
     . cases h
   . cases h
 . rename_i kq c ez;rw[ez]at hy;replace h:=ak h;obtain⟨hi,h⟩:=h;obtain⟨zv,bt,i1,i2,i3,i4⟩:=dF hi;split at h
   . rename_i kn z hu hz;obtain⟨zv',sz',bt',j1,j2⟩:=gf (m:=m) (K:=K) hz;obtain⟨rfl,rfl,rfl⟩:=i1.zero_eq j1;split at h
     . rename_i x0 hd;obtain⟨c1,c2,q1,q2,q3⟩:=cL tp hd j2;obtain rfl:=aU q3;rw[Z6]at q1;rw[<- q1]at q2;replace h:=ob h;obtain⟨ys,hm,h⟩:=h;replace h:=ob h;obtain⟨zs,hz,h⟩:=h;obtain⟨d0,hd0,h⟩:=dD h;cases hd0;refine bw ((A.appZ (K0:=K) (ty:=tp) hs hu i1 rfl q2 i2 i4 i3 hx hy hm hz).go w hsep _ _ ?_);rintro ρ' K' L' w' ⟨v',rfl,rfl,rfl⟩ hs';obtain⟨m',hrel⟩:=hr.newR (d:=d) hH (Hp.le_refl K) hs';exact hX _ _ _ _ _ hrel ⟨rfl,rfl⟩ h
     . cases h
   . cases h
 . cases h
theorem HR{s u:TypeId}{x y:Operand}(h:xE P σ (some d) s u (σ.ev n x) (σ.ev n y) k=some r)(hr:Rel E fr σ m K ρ w):OpOk P E n fr σ ρ w ⟨some d,.call ⟨.builtin .append,#[x,y],#[s,u]⟩,t,pos,af,none⟩ (fun σ'=>k σ'=some r):=by
 have hx:=hr.toPur.ev n x;unfold xE at h;split at h
 . rename_i e i hs ex;rw[ex]at hx;split at h
   . rename_i q H hq;replace h:=ak h;obtain⟨hb,h⟩:=h;have hb:=Y0 hb;obtain⟨a,ha,hmem,hsub,hsep⟩:=hr.take hq;obtain rfl:=bP ha;obtain⟨c0,e0,t0,l0,n0⟩:=q;change e0=e at hb;subst hb;change HA.row i c0 e0 t0 l0 n0∈σ.H at hmem;obtain⟨ad,cap,cs,g1,g2,g3,g4,g5,g6⟩:=HA.ok_row (hr.okH _ hmem);change Sep E K (HA.conc m (.row i c0 e0 t0 l0 n0)::_) w at hsep;rw[g6]at hsep;have hxv:=hx.1;rw[g1]at hxv;simp only[Z3,M.val.injEq]at hxv;exact BQ hs h hr hsub (hsep.mono (fun h0 hr0=>Row.of_rw g3 h0 (by rw[g4];exact hr0))) hxv.symm
   . cases h
 . rename_i e hs ex;rw[ex]at hx;split at h
   . rename_i tp htp;exact BQ hs h hr (fun a ha=>ha) ((Sep.rowNil hr.toSep).mono (Row.mono (Hp.nil_le K))) hx
   . cases h
 . cases h
end
end
section
variable [BldA]
section
variable {R:Type}{P:Program}{E:En}{n:Nat}{m m':List M}{K K':Hp}{fr:Frz}{σ:Zt}{ρ:Sl1}{w w':World}
theorem If{e:TypeId}{a:OT}{v:Value}{l:List a.tp.den}{k:Nat}{cs:List Value}{h:Hp}(hr:Rw e k v l.length cs h):OT.form (.row e a) v l:=by
 obtain⟨ad,cap,h1,_,_,h2⟩:=Rw.form h hr;exact⟨ad,cap,h1,h2⟩
theorem fa:∀{o:OT} {v:Value} {x:o.tp.den},o.form v x->v.oneCell'=true
 |.row e a,v,x,h=>by obtain⟨ad,cap,rfl,_⟩:=h;rfl
 | .box e a,v,x,h=>by
   rcases h with⟨_,rfl⟩|⟨y,b,_,rfl⟩ <;> rfl
 | .obj n u,v,x,h=>by
   rcases h with⟨_,rfl⟩|⟨y,b,_,rfl⟩
   . exact zD n
   . exact zy n b
 | .chn a,v,x,h=>by
   rcases h with⟨_,rfl⟩|⟨y,b,_,rfl⟩ <;> rfl
 | .lbx e a,v,x,h=>by
   rcases h with⟨_,p,rfl⟩|⟨y,b,_,rfl⟩ <;> rfl
 |.dat _,_,_,h=>h.elim
 |.one _,_,_,h=>h.elim
 |.cons _ _,_,_,h=>h.elim
theorem fY{K0:Hp}{e:TypeId}{a:OT}{es:List Value}{l:List a.tp.den}{h:Hp}(k:OT.own K0 (.row e a) es l h):∃v,es=[v]/\OT.form (.row e a) v l:=by
 obtain⟨v,vs,rfl,h1,h2,k1,_⟩:=k;exact⟨v,rfl,If k1⟩
theorem Fz{K0:Hp}{e:TypeId}{a:OT}{es:List Value}{x:(OT.box e a).tp.den}{h:Hp}(k:OT.own K0 (.box e a) es x h):∃v,es=[v]/\OT.form (.box e a) v x:=by
 unfold OT.own at k;split at k
 . exact⟨_,k.1,.inl ⟨rfl,rfl⟩⟩
 . obtain⟨b,vs,rfl,_⟩:=k;exact⟨_,rfl,.inr ⟨_,b,rfl,rfl⟩⟩
theorem FC{K0:Hp}{e:TypeId}{a:OT}{es:List Value}{x:(OT.lbx e a).tp.den}{h:Hp}(k:OT.own K0 (.lbx e a) es x h):∃v,es=[v]/\OT.form (.lbx e a) v x:=by
 unfold OT.own at k;split at k
 . obtain⟨p,rfl,_⟩:=k;exact⟨_,rfl,.inl ⟨rfl,p,rfl⟩⟩
 . obtain⟨b,vs,rfl,_⟩:=k;exact⟨_,rfl,.inr ⟨_,b,rfl,rfl⟩⟩
theorem yT{K0:Hp}{n:Nat}{u:Tp}{es:List Value}{x:(OT.obj n u).tp.den}{h:Hp}(k:OT.own K0 (.obj n u) es x h):∃v,es=[v]/\OT.form (.obj n u) v x:=by
 unfold OT.own at k;split at k
 . exact⟨_,k.1,.inl ⟨rfl,rfl⟩⟩
 . obtain⟨r,o,rfl,_⟩:=k;exact⟨_,rfl,.inr ⟨_,r,rfl,rfl⟩⟩
theorem yU{K0:Hp}{a:OT}{es:List Value}{x:(OT.chn a).tp.den}{h:Hp}(k:OT.own K0 (.chn a) es x h):∃v,es=[v]/\OT.form (.chn a) v x:=by
 unfold OT.own at k;split at k
 . exact⟨_,k.1,.inl ⟨rfl,rfl⟩⟩
 . obtain⟨r,b,s,c,rfl,_⟩:=k;exact⟨_,rfl,.inr ⟨_,r,rfl,rfl⟩⟩
theorem dK{c:Nat}{K0:Hp}{o:OT}{x:o.tp.den}{es:List Value}{L:List ah}{nx:Nat}(hf:∀h,o.own K0 es x h->∃v,es=[v]/\o.form v x)(hn:m.length=nx)(hc:m[c]?=some (.hp K0))(hk:KOk K0 K o)(hs:Sep E K (o.own K0 es x::L) w) :
   ∃ms,(m++ms).length=nx+1/\SV.relL (m++ms) K [.own nx] es/\(∀a∈[HA.od nx c o x],HA.ok (m++ms) K a)/\Sep E K ([HA.od nx c o x].map (HA.conc (m++ms))++L) w:=by
 obtain⟨v,rfl,h1⟩:=hs.fact (p:=∃v,es=[v]/\o.form v x) (fun h k=>hf h k);have hp:=ax m [M.val v];have g0:(m++[M.val v])[nx]?=some (.val v):=aR hn;refine⟨[.val v],by simp[hn],⟨v,[],rfl,⟨g0,fa h1⟩,rfl⟩,?_,?_⟩
 . intro a ha;simp only[Y2]at ha;subst ha;exact⟨v,K0,g0,aq hp hc,hk,h1⟩
 . simp only[X5,aS0,aK0,aH0,HA.conc,g0,aq hp hc];exact hs
theorem ku{c:Nat}{K0:Hp}:∀(o:OT) (hk:KOk K0 K o) {x:o.tp.den} {m:List M} {nx:Nat} {es:List Value} {L:List ah} {vs:List SV} {Hn:List HA} {nx':Nat},OT.ex c o x nx=(vs,Hn,nx')->m.length=nx->m[c]?=some (.hp K0)->Sep E K (o.own K0 es x::L) w ->
   ∃ms,(m++ms).length=nx'/\SV.relL (m++ms) K vs es/\(∀a∈Hn,HA.ok (m++ms) K a)/\Sep E K (Hn.map (HA.conc (m++ms))++L) w
 | .dat t,hk,x,m,nx,es,L,vs,Hn,nx',h,hn,hc,hs=>by
   cases h;obtain⟨h1,h2⟩:=Sep.ownDat hs;exact⟨[],by simpa using hn,by simpa using en t (hk.is h1),by simp,h2⟩
 | .row e (.dat t),hk,x,m,nx,es,L,vs,Hn,nx',h,hn,hc,hs=>by
   cases h;obtain⟨v,cs,rfl,h1,h2⟩:=Sep.ownLeaf hs;obtain⟨ad,cap,rfl,f1,f2,f3⟩:=h2.fact (p:=∃ad cap,v=.slice ad (W4 (α:=t.den) x) cap/\W4 (α:=t.den) x<=cap/\cap<=maxLen/\(W4 (α:=t.den) x≠0->∃g,ad=some ⟨g,0,none⟩)) (fun h k=>Rw.form h k);have g0:(m++[M.val (.slice ad (W4 (α:=t.den) x) cap),.cont t x cs])[nx]?=some (.val (.slice ad (W4 (α:=t.den) x) cap)):=aR hn;have g1:(m++[M.val (.slice ad (W4 (α:=t.den) x) cap),.cont t x cs])[nx+1]?=some (.cont t x cs):=d9 (k:=1) hn;refine⟨[.val (.slice ad (W4 (α:=t.den) x) cap),.cont t x cs],by simp[hn],⟨_,[],rfl,⟨g0,rfl⟩,rfl⟩,?_,?_⟩
   . intro a ha;simp only[Y2]at ha;subst ha;exact⟨ad,cap,cs,g0,g1,KOk.els (t:=t) hk h1,rfl,f1,f2,fun hne=>f3 (fun e=>hne (Z4.1 e))⟩
   . simp only[X5,aS0,aK0,aH0,HA.conc,g0,g1];exact h2
 | .row e (.row e' a),hk,x,m,nx,es,L,vs,Hn,nx',h,hn,hc,hs=>by
   cases h;exact dK (fun h k=>fY k) hn hc hk hs
 | .row e (.box e' a),hk,x,m,nx,es,L,vs,Hn,nx',h,hn,hc,hs=>by
   cases h;exact dK (fun h k=>fY k) hn hc hk hs
 | .row e (.lbx e' a),hk,x,m,nx,es,L,vs,Hn,nx',h,hn,hc,hs=>by
   cases h;exact dK (fun h k=>fY k) hn hc hk hs
 | .row e (.one a),hk,x,m,nx,es,L,vs,Hn,nx',h,hn,hc,hs=>by
   cases h;exact dK (fun h k=>fY k) hn hc hk hs
 | .row e (.cons a r),hk,x,m,nx,es,L,vs,Hn,nx',h,hn,hc,hs=>by
   cases h;exact dK (fun h k=>fY k) hn hc hk hs
 | .row e (.obj n u),hk,x,m,nx,es,L,vs,Hn,nx',h,hn,hc,hs=>by
   cases h;exact dK (fun h k=>fY k) hn hc hk hs
 | .row e (.chn a),hk,x,m,nx,es,L,vs,Hn,nx',h,hn,hc,hs=>by
   cases h;exact dK (fun h k=>fY k) hn hc hk hs
 | .chn a,hk,x,m,nx,es,L,vs,Hn,nx',h,hn,hc,hs=>by
   cases h;exact dK (fun h k=>yU k) hn hc hk hs
 | .obj n u,hk,x,m,nx,es,L,vs,Hn,nx',h,hn,hc,hs=>by
   cases h;exact dK (fun h k=>yT k) hn hc hk hs
 | .box e a,hk,x,m,nx,es,L,vs,Hn,nx',h,hn,hc,hs=>by
   cases h;exact dK (fun h k=>Fz k) hn hc hk hs
 | .lbx e a,hk,x,m,nx,es,L,vs,Hn,nx',h,hn,hc,hs=>by
   cases h;exact dK (fun h k=>FC k) hn hc hk hs
 |.one a,hk,x,m,nx,es,L,vs,Hn,nx',h,hn,hc,hs=>ku a hk (x:=x) h hn hc hs
 | .cons a r,hk,x,m,nx,es,L,vs,Hn,nx',h,hn,hc,hs=>by
   unfold OT.ex at h;cases h1:OT.ex c a x.1 nx with
   | mk v1 q =>
     obtain⟨H1,n1⟩:=q;rw[h1]at h;cases h2:OT.ex c r x.2 n1 with
     | mk v2 q =>
       obtain⟨H2,n2⟩:=q;simp only[h2]at h;cases h;obtain⟨c1,c2,rfl,_,hs⟩:=Sep.ownCons hs;obtain⟨ms,k1,k2,k3,k4⟩:=ku a hk.car.1 h1 hn hc hs;have hs2:Sep E K (r.own K0 c2 x.2::(H1.map (HA.conc (m++ms))++L)) w:=Sep.perm (aP0) k4;obtain⟨ms2,q1,q2,q3,q4⟩:=ku r hk.car.2 h2 k1 (aq (ax m ms) hc) hs2;have hp:=ax (m++ms) ms2;refine⟨ms++ms2,by rw[<- X1];exact q1,?_,?_,?_⟩
       . rw[<- X1];exact fc (SV.monoL (fun _ _ k=>aq hp k) (Hp.le_refl K) _ k2) q2
       . rw[<- X1];intro a ha
         rcases V3.1 ha with ha|ha
         . exact HA.ok_mono (fun _ _ k=>aq hp k) (Hp.le_refl K) (k3 a ha)
         . exact q3 a ha
       . rw[<- X1,X6,dz (K:=K) (fun _ _ k=>aq hp k) k3,X1];exact Sep.perm (kA _ _ _) q4
theorem d6{α β:Type}{f:HA->Option β}{q:β}{H H':List HA}(h:pick f H=some (q,H')):∃a,f a=some q/\a∈H/\(∀x∈H',x∈H)/\∀{E:En} {w:World} {L:List ah},Sep E K (H.map (HA.conc m)++L) w->Sep E K (HA.conc m a::(H'.map (HA.conc m)++L)) w:=by
 obtain⟨a,h1,h2,h3⟩:=bJ h;exact⟨a,h1,h2,fun x hx=>h3.symm.subset (W5 _ hx),fun hs=>Sep.perm (((h3.map (HA.conc m)).append_right _)) hs⟩
theorem ne{i c:Nat}{o:OT}{x:o.tp.den}(h:HA.ok m K (.od i c o x)):∃v,m[i]?=some (.val v)/\o.form v x/\∀{E:En} {w:World} {L:List ah},Sep E K (HA.conc m (.od i c o x)::L) w->Sep E K (o.own K [v] x::L) w:=by
 obtain⟨v,K0,h1,h2,h3,h4⟩:=h;refine⟨v,h1,h4,fun hs=>?_⟩;simp only[HA.conc,h1,h2]at hs;exact hs.mono (fun h k=>KOk.own h3 k)
theorem d5{i:Nat}{o:OT}{x:o.tp.den}{H H':List HA}(hp:eE i o H=some (x,H'))(hok:∀a∈H,HA.ok m K a):∃v,m[i]?=some (.val v)/\o.form v x/\(∀a∈H',a∈H)/\∀{E:En} {w:World} {L:List ah},Sep E K (H.map (HA.conc m)++L) w->Sep E K (o.own K [v] x::(H'.map (HA.conc m)++L)) w:=by
 have main:∀{o:OT} {x:o.tp.den},pick (HA.odX i o) H=some (x,H')->∃v,m[i]?=some (.val v)/\o.form v x/\(∀a∈H',a∈H)/\∀{E:En} {w:World} {L:List ah},Sep E K (H.map (HA.conc m)++L) w->Sep E K (o.own K [v] x::(H'.map (HA.conc m)++L)) w:=by
   intro o x hp;obtain⟨a,ha,hmem,hsub,hs⟩:=d6 (α:=Nat) (K:=K) (m:=m) hp;obtain⟨c,rfl⟩:=rH ha;obtain⟨v,h1,h2,h3⟩:=ne (hok _ hmem);exact⟨v,h1,h2,hsub,fun k=>h3 (hs k)⟩
 unfold eE at hp;split at hp
 . rename_i e a;split at hp
   . rename_i t;obtain⟨a,ha,hmem,hsub,hs⟩:=d6 (α:=Nat) (K:=K) (m:=m) hp;obtain⟨c,k,rfl⟩:=Cj ha;obtain⟨ad,cap,cs,h1,h2,h3,h4,h5,h6⟩:=HA.ok_row (hok _ hmem);refine⟨_,h1,⟨ad,cap,by subst h4;rfl,fun hne=>h5 (fun e=>hne (by subst e;rfl))⟩,hsub,fun hh=>?_⟩;have:=hs hh;rw[h6]at this;subst h4;exact Sep.ownLeaf' h3 this
   . exact main hp
 . exact main hp
theorem gy:∀(o:OT) {vs:List SV} {H:List HA} {x:o.tp.den} {r:List SV} {H':List HA} {us:List Value},OT.col o vs H=some (x,r,H')->SV.relL m K vs us->(∀a∈H,HA.ok m K a) ->
   ∃c1 c2,us=c1++c2/\SV.relL m K r c2/\(∀a∈H',a∈H)/\∀{E:En} {w:World} {L:List ah},Sep E K (H.map (HA.conc m)++L) w->Sep E K (o.own K c1 x::(H'.map (HA.conc m)++L)) w
 | .dat t,vs,H,x,r,H',us,h,hr,hok=>by
   unfold OT.col at h;split at h
   . rename_i x' r' hd;cases h;obtain⟨c1,c2,rfl,h1,h2⟩:=cL t hd hr;exact⟨c1,c2,rfl,h2,fun a ha=>ha,fun hs=>Sep.ownDat' h1 hs⟩
   . cases h
 | .row e a,vs,H,x,r,H',us,h,hr,hok=>by
   unfold OT.col at h;split at h
   . rename_i v r';obtain⟨u,us,rfl,h1,h2⟩:=aM hr;split at h
     . cases h;simp only[SV.rel]at h1;subst h1;refine⟨[_],us,rfl,h2,fun a ha=>ha,fun hs=>?_⟩;exact hs.emp.mono (fun h k=>by obtain rfl:h=Hp.nil:=k;exact⟨_,[],rfl,jS ⟨by simp,.inl ⟨rfl,rfl,rfl⟩⟩ ⟨rfl,rfl⟩⟩)
     . rename_i i;split at h
       . rename_i x' H1 hp;cases h;obtain⟨v,g1,_,g2,g3⟩:=d5 hp hok;have:=h1.1;rw[g1]at this;cases this;exact⟨[_],us,rfl,h2,g2,g3⟩
       . cases h
     . cases h
   . cases h
 | .box e a,vs,H,x,r,H',us,h,hr,hok=>by
   unfold OT.col at h;split at h
   . rename_i v r';obtain⟨u,us,rfl,h1,h2⟩:=aM hr;split at h
     . cases h;simp only[SV.rel]at h1;subst h1;exact⟨[_],us,rfl,h2,fun a ha=>ha,fun hs=>Sep.ownNil hs⟩
     . rename_i i o;replace h:=ak h;obtain⟨ho,h⟩:=h;obtain rfl:=Y0 ho;split at h
       . rename_i q H1 hq;replace h:=ak h;obtain⟨he,h⟩:=h;have he:=Y0 he;split at h
         . rename_i y H2 hcol;cases h;obtain⟨a',ha,hmem,hsub,hs⟩:=d6 (α:=Nat) (K:=K) (m:=m) hq;obtain rfl:=cH ha;obtain⟨b,bs,g1,g2,g3,g4⟩:=HA.ok_blk (hok _ hmem);obtain⟨b',g5,rfl⟩:=h1;rw[g1]at g5;cases g5;obtain⟨c1,c2,rfl,k2,k3,k4⟩:=gy a hcol (ef _ g3) (fun a ha=>hok a (hsub a ha));obtain rfl:=aU k2;rw[Z6]at g4;refine⟨[_],us,rfl,h2,fun a ha=>hsub a (k3 a ha),fun hh=>?_⟩;have:=hs hh;rw[g4,he]at this;have s2:=k4 (Sep.perm (List.perm_middle.symm) this);exact Sep.ownBox' (Sep.perm (((aP0).cons _).trans (bd0 _ _ _)) s2)
         . cases h
       . cases h
     . rename_i i;split at h
       . rename_i x' H1 hp;cases h;obtain⟨v,g1,_,g2,g3⟩:=d5 hp hok;have:=h1.1;rw[g1]at this;cases this;exact⟨[_],us,rfl,h2,g2,g3⟩
       . cases h
     . cases h
   . cases h
 | .lbx e a,vs,H,x,r,H',us,h,hr,hok=>by
   unfold OT.col at h;split at h
   . rename_i v r';obtain⟨u,us,rfl,h1,h2⟩:=aM hr;split at h
     . rename_i i o;replace h:=ak h;obtain⟨ho,h⟩:=h;obtain rfl:=Y0 ho;split at h
       . rename_i q H1 hq;replace h:=ak h;obtain⟨he,h⟩:=h;have he:=Y0 he;split at h
         . rename_i y H2 hcol;cases h;obtain⟨a',ha,hmem,hsub,hs⟩:=d6 (α:=Nat) (K:=K) (m:=m) hq;obtain rfl:=cH ha;obtain⟨b,bs,g1,g2,g3,g4⟩:=HA.ok_blk (hok _ hmem);obtain⟨b',g5,rfl⟩:=h1;rw[g1]at g5;cases g5;obtain⟨c1,c2,rfl,k2,k3,k4⟩:=gy a hcol (ef _ g3) (fun a ha=>hok a (hsub a ha));obtain rfl:=aU k2;rw[Z6]at g4;refine⟨[_],us,rfl,h2,fun a ha=>hsub a (k3 a ha),fun hh=>?_⟩;have:=hs hh;rw[g4,he]at this;have s2:=k4 (Sep.perm (List.perm_middle.symm) this);exact Sep.ownLbx' (Sep.perm (((aP0).cons _).trans (bd0 _ _ _)) s2)
         . cases h
       . cases h
     . rename_i i;split at h
       . rename_i x' H1 hp;cases h;obtain⟨v,g1,_,g2,g3⟩:=d5 hp hok;have:=h1.1;rw[g1]at this;cases this;exact⟨[_],us,rfl,h2,g2,g3⟩
       . cases h
     . cases h
   . cases h
 | .chn a,vs,H,x,r,H',us,h,hr,hok=>by
   unfold OT.col at h;split at h
   . rename_i v r';obtain⟨v0,us,rfl,h1,h2⟩:=aM hr;split at h
     . cases h;simp only[SV.rel]at h1;subst h1;exact⟨[_],us,rfl,h2,fun a ha=>ha,fun hs=>hs.emp.mono (fun h k=>⟨rfl,k⟩)⟩
     . rename_i i;split at h
       . rename_i x' H1 hp;cases h;obtain⟨v,g1,_,g2,g3⟩:=d5 hp hok;have:=h1.1;rw[g1]at this;cases this;exact⟨[_],us,rfl,h2,g2,g3⟩
       . cases h
     . cases h
   . cases h
 | .obj n u,vs,H,x,r,H',us,h,hr,hok=>by
   unfold OT.col at h;split at h
   . rename_i v r';obtain⟨v0,us,rfl,h1,h2⟩:=aM hr;split at h
     . replace h:=ak h;obtain⟨hn,h⟩:=h;obtain rfl:=Y0 hn;cases h;simp only[SV.rel]at h1;subst h1;exact⟨[_],us,rfl,h2,fun a ha=>ha,fun hs=>hs.emp.mono (fun h k=>⟨rfl,k⟩)⟩
     . cases hn:Y3 n 0 with
       |true=>rw[hn]at h;cases h
       | false =>
         rw[hn]at h;cases h;simp only[SV.rel]at h1;subst h1;obtain⟨j,rfl⟩:∃j,n=j+1:=by cases n with|zero=>cases hn|succ j=>exact⟨j,rfl⟩
         exact⟨[_],us,rfl,h2,fun a ha=>ha,fun hs=>hs.emp.mono (fun h k=>⟨rfl,k⟩)⟩
     . rename_i i;split at h
       . rename_i x' H1 hp;cases h;obtain⟨v,g1,_,g2,g3⟩:=d5 hp hok;have:=h1.1;rw[g1]at this;cases this;exact⟨[_],us,rfl,h2,g2,g3⟩
       . cases h
     . cases h
   . cases h
 |.one a,vs,H,x,r,H',us,h,hr,hok=>gy a (x:=x) h hr hok
 | .cons a b,vs,H,x,r,H',us,h,hr,hok=>by
   unfold OT.col at h;split at h
   . rename_i x1 r1 H1 hc1;split at h
     . rename_i y r2 H2 hc2;cases h;obtain⟨c1,c2,rfl,h2,h3,h4⟩:=gy a hc1 hr hok;obtain⟨d1,d2,rfl,k2,k3,k4⟩:=gy b hc2 h2 (fun a ha=>hok a (h3 a ha));refine⟨c1++d1,d2,by simp,k2,fun a ha=>h3 a (k3 a ha),fun {E w L} hs=>?_⟩;have s1:=h4 hs;have s2:Sep E K (H1.map (HA.conc m)++(a.own K c1 x1::L)) w:=Sep.perm (List.perm_middle.symm) s1;have s3:=k4 s2;have s4:Sep E K (a.own K c1 x1::b.own K d1 y::(H'.map (HA.conc m)++L)) w:=by
         refine Sep.perm ?_ s3;have:(H'.map (HA.conc m)++(a.own K c1 x1::L)).Perm (a.own K c1 x1::(H'.map (HA.conc m)++L)):=aP0;exact (this.cons _).trans (bd0 _ _ _)
       exact Sep.ownCons' s4
     . cases h
   . cases h
end
end
set_option maxRecDepth 100000
section
theorem H8{α:Type}[DecidableEq α][BEq α][LawfulBEq α](a b:α):(a==b)=decide (b=a):=by
 by_cases h:b=a
 . subst h;simp
 . have h':¬ a=b:=fun e=>h e.symm
   simp[h,h']
def Onl(w w':World)(r:Nat)(o:Obj):Prop:=w'.heap[r]?=some o/\(∀n x,n≠r->w.heap[n]?=some x->w'.heap[n]?=some x)/\w'.os=w.os/\w'.tape=w.tape/\w'.output=w.output
def yC(w w':World)(b:Nat)(ob:Obj)(r:Nat)(o:Obj):Prop:=w'.heap[b]?=some ob/\w'.heap[r]?=some o/\w.heap[r]?=none/\(∀n x,n≠b->w.heap[n]?=some x->w'.heap[n]?=some x)/\w'.os=w.os/\w'.tape=w.tape/\w'.output=w.output
def Dx(w w':World)(r:Nat)(kt:Tp)(l:List (kt.den×Int)):Prop:=∃es cl,Onl w w' r (.map es cl)/\es.toList.map (fun e=>(e.key,e.val))=l.map (fun p=>(ay kt p.1,Value.int .i64 p.2))/\Brn es cl
def RM(w w':World)(b:Nat)(ob:Nat->Obj)(kt:Tp)(l:List (kt.den×Int)):Prop:=∃r es cl,yC w w' b (ob r) r (.map es cl)/\es.toList.map (fun e=>(e.key,e.val))=l.map (fun p=>(ay kt p.1,Value.int .i64 p.2))/\Brn es cl
theorem dZ{w:World}{o x:Obj}{n:Nat}(h:w.heap[n]?=some x):(w.alloc o).heap[n]?=some x:=(Below.heap_alloc _ _ _ (lt_of_block h)).trans h
theorem eV{w:World}{b i n:Nat}{v:Value}(h:n≠b):(w.setCell ⟨b,i,none⟩ v).heap[n]?=w.heap[n]?:=by
 simp only[World.setCell,cH0];rw[if_neg (fun e=>h e.symm)]
section
variable {E:En}{K:Hp}{L:List ah}{w w':World}
theorem Sep.grow(hs:Sep E K L w)(ho:∀(n:Nat) (x:Obj),w.heap[n]?=some x->w'.heap[n]?=some x)(he:w'.os=w.os/\w'.tape=w.tape/\w'.output=w.output):Sep E K L w' :=
 Sep.move (fun ⟨a,b,c⟩=>⟨he.1.trans a,he.2.1.trans b,he.2.2.trans c⟩) hs (fun n o e=>ho n o (hs.sub n o e)) (fun n o e h=>⟨h,ho n o e⟩)
theorem Sep.obj{r:Nat}{o:Obj}(hs:Sep E K ((fun h=>h=one r o)::L) w):w.heap[r]?=some o:=by
 obtain⟨h,rfl,hd,hs⟩:=hs;exact hs.sub r _ (Hp.join_right (by simp[one]) (hd r o (by simp[one])))
theorem Sep.onl{r:Nat}{o o':Obj}(hs:Sep E K ((fun h=>h=one r o)::L) w)(h:Onl w w' r o'):Sep E K ((fun h=>h=one r o')::L) w' :=
 Sep.turn hs (fun ⟨a,b,c⟩=>⟨h.2.2.1.trans a,h.2.2.2.1.trans b,h.2.2.2.2.trans c⟩) (fun h0 ha _=>by
   subst ha;refine⟨_,rfl,fun n x e=>?_,fun n x e h1=>?_⟩
   . obtain⟨rfl,rfl⟩:=cv e;exact⟨h.1,fun e=>by simp[one]at e⟩
   . exact h.2.1 n x (fun e=>by subst e;simp[one]at h1) e)
theorem Sep.onl2{b r:Nat}{t:TypeId}{cs cs':List Value}{o:Obj}(hs:Sep E K (Cl b t cs::L) w)(h:yC w w' b (.cells cs'.toArray t (0,0)) r o):Sep E K (Cl b t cs'::(fun h=>h=one r o)::L) w':=by
 have hb:=hs.cl;refine Sep.split (Sep.turn hs (fun ⟨a,b,c⟩=>⟨h.2.2.2.2.1.trans a,h.2.2.2.2.2.1.trans b,h.2.2.2.2.2.2.trans c⟩) (fun h0 ha _=>?_));unfold Cl at ha;subst ha;have hne:∀x,one r o b=some x->False:=fun x e=>by
   obtain⟨rfl,_⟩:=cv e;rw[h.2.2.1]at hb;cases hb
 refine⟨(one b (.cells cs'.toArray t (0,0))).join (one r o),⟨_,_,rfl,rfl,fun n x e=>?_,rfl⟩,fun n x e=>?_,fun n x e h1=>?_⟩
 . by_cases hn:n=b
   . subst hn;exact (hne x e).elim
   . simp[one,hn]
 . rcases Hp.join_some e with e|⟨_,e⟩
   . obtain⟨rfl,rfl⟩:=cv e;exact⟨h.1,fun e=>by simp[one]at e⟩
   . obtain⟨rfl,rfl⟩:=cv e;exact⟨h.2.1,fun _=>h.2.2.1⟩
 . exact h.2.2.2.1 n x (fun e=>by subst e;simp[one]at h1) e
end
section
variable {α:Type}[DecidableEq α]
def iN(k:α)(x:Option (List (α×Int))):Bool:=match x with|none=>true|some l=>!decide (aJ k l > 0)
def dO(k:α)(x:Option (List (α×Int))):List (α×Int):=match x with|none=>bI k (wrap64 (aJ k []+1)) []|some l=>if aJ k l > 0 then l else bI k (wrap64 (aJ k l+1)) l
end
end
section
variable [BldA]
section
variable {R:Type}{P:Program}{E:En}{n:Nat}{m m':List M}{K K':Hp}{fr:Frz}{σ:Zt}{ρ:Sl1}{w w':World}
variable {k:Zt->Option R}{r:R}{d:Nat}{op:Op}{t:TypeId}{pos:String}{af:Array Edge}
theorem Rel.newO(h:Rel E fr σ m K ρ w){d:Nat}{H:List HA}(hH:∀a∈H,a∈σ.H){e:TypeId}{o:OT}{l:List o.tp.den}{v:Value}(hs:Sep E K (OT.own K (.row e o) [v] l::(H.map (HA.conc m)++σ.fz fr)) w') :
   ∃m',Rel E fr ⟨σ.base,(d,.own σ.nx)::σ.top,.od σ.nx (σ.nx+1) (.row e o) l::H,σ.Hf,σ.nx+2,σ.kq⟩ m' K (aY ρ d v) w':=by
 obtain⟨v',e1,hf⟩:=hs.fact (p:=∃v',[v]=[v']/\OT.form (.row e o) v' l) (fun h k=>fY k);cases e1;have hp:=ax m [.val v,.hp K];have g0:(m++[.val v,.hp K])[σ.nx]?=some (.val v):=aR h.nx;have g1:(m++[.val v,.hp K])[σ.nx+1]?=some (.hp K):=d9 (k:=1) h.nx;have q:Pur fr ⟨σ.base,σ.top,.od σ.nx (σ.nx+1) (.row e o) l::H,σ.Hf,σ.nx+2,σ.kq⟩ (m++[.val v,.hp K]) K ρ:=by
   refine Pur.next h.toPur hp (Hp.le_refl K) (fun e=>⟨e,rfl⟩) (by simp[h.nx]) ?_;intro a ha
   rcases Y4.1 ha with rfl|ha
   . exact⟨v,K,g0,g1,KOk.refl,hf⟩
   . exact h.toPur.okH' hp (Hp.le_refl K) a (hH a ha)
 refine⟨_,q.set (d:=d) (sv:=.own σ.nx) (v:=v) ⟨g0,fa hf⟩,?_⟩;show Sep E K ((HA.conc _ _::H.map (HA.conc _))++σ.fz fr) w';rw[h.toPur.conc hp hH];simp only[HA.conc,g0,g1];exact hs
theorem Rel.newOwn(h:Rel E fr σ m K ρ w){d:Nat}{o:OT}{x:o.tp.den}{v:Value}(ho:∀h,OT.own K o [v] x h->∃v',[v]=[v']/\OT.form o v' x)(hs:Sep E K (OT.own K o [v] x::(σ.H.map (HA.conc m)++σ.fz fr)) w') :
   ∃m',Rel E fr ⟨σ.base,(d,.own σ.nx)::σ.top,.od σ.nx (σ.nx+1) o x::σ.H,σ.Hf,σ.nx+2,σ.kq⟩ m' K (aY ρ d v) w':=by
 obtain⟨v',e1,hf⟩:=hs.fact (p:=∃v',[v]=[v']/\OT.form o v' x) ho;cases e1;have hp:=ax m [.val v,.hp K];have g0:(m++[.val v,.hp K])[σ.nx]?=some (.val v):=aR h.nx;have g1:(m++[.val v,.hp K])[σ.nx+1]?=some (.hp K):=d9 (k:=1) h.nx;have q:Pur fr ⟨σ.base,σ.top,.od σ.nx (σ.nx+1) o x::σ.H,σ.Hf,σ.nx+2,σ.kq⟩ (m++[.val v,.hp K]) K ρ:=by
   refine Pur.next h.toPur hp (Hp.le_refl K) (fun e=>⟨e,rfl⟩) (by simp[h.nx]) ?_;intro a ha
   rcases Y4.1 ha with rfl|ha
   . exact⟨v,K,g0,g1,KOk.refl,hf⟩
   . exact h.toPur.okH' hp (Hp.le_refl K) a ha
 refine⟨_,q.set (d:=d) (sv:=.own σ.nx) (v:=v) ⟨g0,fa hf⟩,?_⟩;show Sep E K ((HA.conc _ _::σ.H.map (HA.conc _))++σ.fz fr) w';rw[h.toPur.conc hp (fun a ha=>ha)];simp only[HA.conc,g0,g1];exact hs
theorem Rel.newObj(h:Rel E fr σ m K ρ w){d:Nat}{i:Nat}{u:Tp}{x:(OT.obj i u).tp.den}{v:Value}(hs:Sep E K (OT.own K (.obj i u) [v] x::(σ.H.map (HA.conc m)++σ.fz fr)) w') :
   ∃m',Rel E fr ⟨σ.base,(d,.own σ.nx)::σ.top,.od σ.nx (σ.nx+1) (.obj i u) x::σ.H,σ.Hf,σ.nx+2,σ.kq⟩ m' K (aY ρ d v) w':=h.newOwn (fun _ k=>yT k) hs
theorem A.makeMap{K:Hp}{L:List ah}{ρ:Sl0}{s:TypeId}{g:Option (Nat×Bool)}:Ao P E n ⟨some d,.makeMap s none,t,pos,af,g⟩ ρ K L (fun ρ' K' L'=>∃b,ρ'=upd ρ d (.map (some b))/\K=K'/\L'=(fun h=>h=one b (.map #[] 0))::L) :=
 Ao.of rfl (fun w hs=>by
   refine⟨_,_,K,_,?_,Sep.allocN hs (.map #[] 0),w.heap.size,rfl,rfl,rfl⟩;simp only[execOp,Instr.makeMap,Sem.run_bind,Sem.run_pure,run_newObj_alloc,Result.andThen];rfl)
theorem Gw{u:Tp}{d:Option Nat}(h:nr σ d u k=some r):∃d0,d=some d0:=by
 unfold nr at h;split at h
 . exact⟨_,rfl⟩
 . cases h
theorem I2{s:TypeId}{u:Tp}(h:nr σ (some d) u k=some r)(hr:Rel E fr σ m K ρ w):OpOk P E n fr σ ρ w ⟨some d,.makeMap s none,t,pos,af,none⟩ (fun σ'=>k σ'=some r):=fun X Q hX=>by
 unfold nr at h;split at h
 . rename_i d0 kt e;cases e;refine bw ((A.makeMap).go w hr.toSep _ _ ?_);rintro ρ' K' L' w' ⟨bb,rfl,rfl,rfl⟩ hs';obtain⟨m',hrel⟩:=hr.newObj (d:=d) (i:=0) (u:=.sl (.cons kt (.one (.int .i64)))) (x:=(some ([]:List (kt.den×Int)):Option (List (kt.den×Int)))) (hs'.mono (fun h k=>⟨bb,_,rfl,⟨#[],0,rfl,rfl,cD0,fun e he=>by cases he⟩,k⟩));exact hX _ _ _ _ _ hrel ⟨rfl,rfl⟩ h
 . cases h
theorem A.mapUp{K:Hp}{L:List ah}{ρ:Sl0}{mt kt et:TypeId}{x y z:Operand}{rr:Nat}{c v:Int}{es:Array MapEntry}{cl:Nat}{l:List (Int×Int)}{g:Option (Nat×Bool)}(m1:P.underlying mt=some (.map kt et))(m2:P.underlying kt=some (.int .i64))(m3:∀w,(zeroValue et).run P w=.ok (.int .i64 0) w)
   (hx:ev n ρ x=.map (some rr)) (hy:ev n ρ y=.int .i64 c) (hz:ev n ρ z=.int .i64 v) (hl:es.toList.map (fun e=>(e.key,e.val))=l.map (fun p=>(ay (.int .i64) p.1,Value.int .i64 p.2))) (hB:Brn es cl) :
   Ao P E n ⟨none,.mapUpdate mt x y z,t,pos,af,g⟩ ρ K ((fun h=>h=one rr (.map es cl))::L) (fun ρ' K' L'=>∃es' cl',ρ=ρ'/\K=K'/\L'=(fun h=>h=one rr (.map es' cl'))::L/\es'.toList.map (fun e=>(e.key,e.val))=(bI c v l).map (fun p=>(ay (.int .i64) p.1,Value.int .i64 p.2))/\Brn es' cl') :=
 Ao.ofU rfl (fun w hs=>by
   haveI:=CD m2
   have hob:=hs.obj;obtain⟨es',cl',h1,h2,h3⟩:=tZ (P:=P) (kt:=.int .i64) (mt:=mt) m1 c v hob hl hB;have hlt:=(cQ0.1 hob).1;simp only[ay]at h1;refine⟨_,K,_,?_,Sep.onl hs (w':={ w with heap:=w.heap.setIfInBounds rr (.map es' cl') }) ⟨by simp[hlt],fun k x hk hx=>?_,rfl,rfl,rfl⟩,es',cl',rfl,rfl,rfl,h2,h3⟩
   . simp[execOp,hx,hy,hz,h1]
   . simp only[az0];rw[if_neg (fun e=>hk e.symm)];exact hx)
theorem Gg{mt:TypeId}{x y z:Operand}(h:qO P σ none mt (σ.ev n x) (σ.ev n y) (σ.ev n z) k=some r)(hr:Rel E fr σ m K ρ w):OpOk P E n fr σ ρ w ⟨none,.mapUpdate mt x y z,t,pos,af,none⟩ (fun σ'=>k σ'=some r):=fun X Q hX=>by
 have hx:=hr.toPur.ev n x;have hy:=hr.toPur.ev n y;have hz:=hr.toPur.ev n z;unfold qO at h;replace h:=ak h;obtain⟨hm,h⟩:=h;obtain⟨kt,et,m1,m2,m3⟩:=Bi hm;split at h
 . rename_i i c v _ ei ec ev';rw[ei]at hx;rw[ec]at hy;rw[ev']at hz;replace hy:Go.Proofs.YtpnmnbfbcgkcjaaGreatDoor.ev n ρ.f y=.int .i64 c:=hy;replace hz:Go.Proofs.YtpnmnbfbcgkcjaaGreatDoor.ev n ρ.f z=.int .i64 v:=hz;split at h
   . rename_i q H hq;obtain⟨a,ha,hmem,hsub,hs⟩:=hr.take hq;obtain⟨c0,rfl⟩:=Cp ha;obtain⟨vv,K0,g0,g1,_,_⟩:=hr.okH _ hmem;have hv:=hx.1;rw[g0]at hv;simp only[Z3,M.val.injEq]at hv;replace h:=ob h;obtain⟨l,hl,h⟩:=h;subst hl;simp only[HA.conc,g0,g1]at hs;obtain⟨h0,⟨rr,o,e1,⟨es,cl,rfl,h5,h6⟩,rfl⟩,hd,hs0⟩:=hs;have hs1:Sep E K ((fun h=>h=one rr (.map es cl))::(H.map (HA.conc m)++σ.fz fr)) w:=⟨_,rfl,hd,hs0⟩;have hvv:Go.Proofs.YtpnmnbfbcgkcjaaGreatDoor.ev n ρ.f x=.map (some rr):=by rw[<- hv];simpa[fq]using e1
     refine bw ((A.mapUp m1 m2 m3 hvv hy hz h5 h6).go w hs1 _ _ ?_);rintro ρ' K' L' w' ⟨es',cl',rfl,rfl,rfl,h7,h8⟩ hs';have hp:=ax m [M.hp K];have gn:(m++[M.hp K])[σ.nx]?=some (.hp K):=aR hr.nx;refine hX ⟨σ.base,σ.top,.od i σ.nx (.obj 0 (.sl (.cons (.int .i64) (.one (.int .i64))))) (some (bI c v l))::H,σ.Hf,σ.nx+1,σ.kq⟩ _ K _ _ ⟨Pur.next hr.toPur hp (Hp.le_refl K) (fun e=>⟨e,rfl⟩) (by simp[hr.nx]) ?_,?_⟩ ⟨rfl,rfl⟩ h
     . intro a ha
       rcases Y4.1 ha with rfl|ha
       . exact⟨vv,K,aq hp g0,gn,.inr rfl,.inr ⟨_,rr,rfl,by simpa[fq]using e1⟩⟩
       . exact hr.toPur.okH' hp (Hp.le_refl K) a (hsub a ha)
     . show Sep E K ((HA.conc _ _::H.map (HA.conc _))++σ.fz fr) w';rw[hr.toPur.conc hp hsub];simp only[HA.conc,aq hp g0,gn];exact hs'.mono (fun h k=>⟨rr,_,by simpa[fq]using e1,⟨es',cl',rfl,h7,h8⟩,k⟩)
   . cases h
 . cases h
theorem HM{s:TypeId}(h:(match bx P s with|some z=>aO0 0 z|none=>false)=true):∃j,P.info? s=some j/\j.size≠0:=by
 unfold bx at h;cases hi:P.info? s with
 |none=>rw[hi]at h;cases h
 | some j =>
   rw[hi]at h;simp only[dl0]at h;exact⟨j,rfl,by rw[bj0]at h;omega⟩
theorem IR {s tx:TypeId} {x y:Operand} {i j:Nat} (h:sA P σ (some d) s i j k=some r) (hr:Rel E fr σ m K ρ w) (ex:σ.ev n x = .ptr i 0) (ey:σ.ev n y = .ptr j 0) :
   OpOk P E n fr σ ρ w ⟨some d,.binOp .eql s x y tx,t,pos,af,none⟩ (fun σ'=>k σ'=some r):=fun X Q hX=>by
 have hx:=hr.toPur.ev n x;have hy:=hr.toPur.ev n y;rw[ex]at hx;rw[ey]at hy;obtain⟨b,q1,q2⟩:=hx;obtain⟨b',q3,q4⟩:=hy;unfold sA at h;split at h
 . rename_i e d0 hs e0;cases e0;replace h:=ak h;obtain⟨hz,h⟩:=h;obtain⟨te,hi,hsz⟩:=HM hz;have fin:∀bo:Bool,(binOp .eql s (ev n ρ.f x) (ev n ρ.f y)).run P w=.ok (.bool bo) w->k (σ.set d (.bool bo))=some r->(⟨some d,.binOp .eql s x y tx,t,pos,af,none⟩:Oper).wp P (act1 n ρ) w X Q:=fun bo hb hk=>by
     unfold Oper.wp;have he:(execOp (ev n ρ.f) ⟨some d,.binOp .eql s x y tx,t,pos,af,none⟩).run P w=.ok (.value (.bool bo)) w:=by
       simp only[execOp];rw[q2,q4]at hb ⊢;simp[eqGuard,hb]
     rw[cg,he,Oper.upon_value,bT];exact hX _ _ _ _ _ (hr.set (d:=d) (sv:=.bool bo) (v:=.bool bo) rfl) ⟨rfl,rfl⟩ hk
   cases hij:Y3 i j with
   | true =>
     rw[hij]at h;obtain rfl:=Y0 hij;rw[q1]at q3;cases q3;refine fin true ?_ h;rw[q2,q4];exact run_eql_ptr_same w ⟨b,0,none⟩ hs hi
   | false =>
     rw[hij]at h;simp only[cond_false]at h;split at h
     . rename_i q H hq;split at h
       . rename_i qH hq';obtain⟨q',H'⟩:=qH;obtain⟨a,ha,hmem,hsub,hsep⟩:=d6 (α:=Nat) (K:=K) (m:=m) hq;obtain rfl:=cH ha;obtain⟨bb,vs,g1,g2,_,g4⟩:=HA.ok_blk (hr.okH _ hmem);obtain⟨a',ha',hmem',hsub',hsep'⟩:=d6 (α:=Nat) (K:=K) (m:=m) hq';obtain rfl:=cH ha';obtain⟨bb',vs',g1',g2',_,g4'⟩:=HA.ok_blk (hr.okH _ (hsub _ hmem'));rw[g1]at q1;cases q1;rw[g1']at q3;cases q3;have h1:=hsep hr.toSep;rw[g4]at h1;have h2:Sep E K (Cl b q.e vs::HA.conc m (.blk j q'.c q'.e q'.cs)::(H'.map (HA.conc m)++σ.fz fr)) w:=by
           have:=(hsep' (L:=Cl b q.e vs::σ.fz fr) (Sep.perm (List.perm_middle.symm) h1));exact (Sep.perm ((aP0).cons _) this).swap
         rw[g4']at h2;refine fin false ?_ h;rw[q2,q4];have hb1:=h2.cl;have hb2:=h2.swap.cl;refine run_eql_ptr_other w hs hi hsz (fun e9=>?_) hb1 hb2;simp only[Addr.mk.injEq]at e9;obtain⟨rfl,_⟩:=e9;obtain⟨p1,a1,d1,p2,a2,d2,_⟩:=h2;unfold Cl at a1 a2;subst a1 a2;have:=d2 b _ (by simp[one];rfl);simp[Hp.join,one]at this
       . cases h
     . cases h
 . cases h
theorem E6{tp te:TypeId}(b:Addr)(hp:P.underlying tp=some (.pointer te)):(binOp .eql tp (.pointer none) (.pointer (some b))).run P w=.ok (.bool false) w:=by
 have h:∀d:Nat,(Op.equalIn (d+1) tp (.pointer none) (.pointer (some b))).run P w=.ok false w:=fun d=>by
   simp[Op.equalIn,run_underlying hp]
 simp only[binOp];simp[Op.equal,Op.maxDepth,h 9999]
theorem Ki{s tx:TypeId}{x y:Operand}{j:Nat}(h:sW P σ (some d) s k=some r)(hr:Rel E fr σ m K ρ w)(ex:σ.ev n x=.nilp)(ey:σ.ev n y=.ptr j 0) :
   OpOk P E n fr σ ρ w ⟨some d,.binOp .eql s x y tx,t,pos,af,none⟩ (fun σ'=>k σ'=some r):=fun X Q hX=>by
 have hx:=hr.toPur.ev n x;have hy:=hr.toPur.ev n y;rw[ex]at hx;rw[ey]at hy;obtain⟨b',q3,q4⟩:=hy;replace hx:ev n ρ.f x=.pointer none:=hx;unfold sW at h;split at h
 . rename_i e d0 hs e0;cases e0;have hb:=E6 (P:=P) (w:=w) ⟨b',0,none⟩ hs;unfold Oper.wp;have he:(execOp (ev n ρ.f) ⟨some d,.binOp .eql s x y tx,t,pos,af,none⟩).run P w=.ok (.value (.bool false)) w:=by
     simp only[execOp];rw[hx,q4];simp[eqGuard,hb]
   rw[cg,he,Oper.upon_value,bT];exact hX _ _ _ _ _ (hr.set (d:=d) (sv:=.bool false) (v:=.bool false) rfl) ⟨rfl,rfl⟩ h
 . cases h
theorem FS{s:TypeId}{u:Tp}{x:SV}{d:Option Nat}(h:m9 P σ d s u x k=some r):∃d0,d=some d0:=by
 unfold m9 at h;split at h
 . exact⟨_,rfl⟩
 . cases h
theorem A.makeChan{K:Hp}{L:List ah}{ρ:Sl0}{s e:TypeId}{dr:ChanDir}{i:TypeInfo}{kk:IntKind}{c:Nat}{x:Operand}{g:Option (Nat×Bool)}(hs:P.underlying s=some (.chan dr e))(hi:P.info? e=some i)(hx:ev n ρ x=.int kk c)(h3:(c:Int)<=1073741824)(hbc:(i.bytes:Int)*(c:Int)<=281474976710544) :
   Ao P E n ⟨some d,.makeChan s x,t,pos,af,g⟩ ρ K L (fun ρ' K' L'=>∃b,ρ'=upd ρ d (.chan (some b))/\K=K'/\L'=(fun h=>h=one b (.chan c #[] false 0 0 false))::L):=by
 refine⟨fun w0 hs0 X Q hX=>?_⟩;have hrun0:=Go.Conc.run_makeChan (P:=P) (w:=w0) hs hi kk c (by omega) hbc;unfold Oper.wp;have he:(execOp (ev n ρ) ⟨some d,.makeChan s x,t,pos,af,g⟩).run P w0=.ok (.value (.chan (some w0.heap.size))) (w0.alloc (.chan c #[] false 0 0 false)):=by
   simp[execOp,hx,hrun0]
 rw[eval_act,he,Oper.upon_value,put_act];exact hX _ _ _ _ ⟨w0.heap.size,rfl,rfl,rfl⟩ (Sep.allocN hs0 (.chan c #[] false 0 0 false))
theorem FM{s:TypeId}{a:OT}{x:SV}{d:Option Nat}(h:nk P σ d s a x k=some r):∃d0,d=some d0:=by
 unfold nk at h;split at h
 . exact⟨_,rfl⟩
 . cases h
theorem Hj{s:TypeId}{a:OT}{x:Operand}(h:nk P σ (some d) s a (σ.ev n x) k=some r)(hr:Rel E fr σ m K ρ w):OpOk P E n fr σ ρ w ⟨some d,.makeChan s x,t,pos,af,none⟩ (fun σ'=>k σ'=some r):=fun X Q hX=>by
 have hx:=hr.toPur.ev n x;unfold nk at h;split at h
 . rename_i d0 kk c e0 ex;cases e0;rw[ex]at hx;replace hx:ev n ρ.f x=.int kk c:=hx;split at h
   . rename_i dr e hs;split at h
     . rename_i i hi;replace h:=ak h;obtain⟨hb,h⟩:=h;rw[Y1,Nat.ble_eq]at hb;obtain⟨hb,hz⟩:=hb;have hz:=Y0 hz;replace h:=ob h;obtain⟨l,hl,h⟩:=h;obtain⟨h1,_,h3,_⟩:=m4 hl;obtain⟨c,rfl⟩:=W6 h1;have hbc:(i.bytes:Int)*(c:Int)<=281474976710544:=by
         have a1:(i.bytes:Int)<=100000:=by omega
         have a2:(i.bytes:Int)*(c:Int)<=100000*(c:Int):=bP0 a1 (by omega);omega
       refine bw ((A.makeChan hs hi hx (by omega) hbc).go w hr.toSep _ _ ?_);rintro ρ' K' L' w' ⟨bb,rfl,rfl,rfl⟩ hs';obtain⟨m',hrel⟩:=hr.newOwn (d:=d) (o:=.chn a) (v:=.chan (some bb)) (x:=(some ((c:Int),([]:List a.tp.den)):Option (Int×List a.tp.den))) (fun _ k=>yU k) (hs'.mono (fun h k=>⟨bb,#[],0,0,rfl,by show (0:Int)<=(c:Int);omega,hz,h,Hp.nil,k,⟨rfl,rfl⟩,(fun n o e=>by cases e),(Hp.join_nil h).symm⟩));exact hX _ _ _ _ _ hrel ⟨rfl,rfl⟩ h
     . cases h
   . cases h
 . cases h
theorem GT{s:TypeId}{u:Tp}{x:Operand}(h:m9 P σ (some d) s u (σ.ev n x) k=some r)(hr:Rel E fr σ m K ρ w):OpOk P E n fr σ ρ w ⟨some d,.makeChan s x,t,pos,af,none⟩ (fun σ'=>k σ'=some r):=fun X Q hX=>by
 have hx:=hr.toPur.ev n x;unfold m9 at h;split at h
 . rename_i d0 t0 kk c e0 ex;cases e0;rw[ex]at hx;replace hx:ev n ρ.f x=.int kk c:=hx;split at h
   . rename_i dr e hs;split at h
     . rename_i i hi;replace h:=ak h;obtain⟨hb,h⟩:=h;rw[Nat.ble_eq]at hb;replace h:=ob h;obtain⟨l,hl,h⟩:=h;obtain⟨h1,_,h3,_⟩:=m4 hl;obtain⟨c,rfl⟩:=W6 h1;have hbc:(i.bytes:Int)*(c:Int)<=281474976710544:=by
         have a1:(i.bytes:Int)<=100000:=by omega
         have a2:(i.bytes:Int)*(c:Int)<=100000*(c:Int):=bP0 a1 (by omega);omega
       refine bw ((A.makeChan hs hi hx (by omega) hbc).go w hr.toSep _ _ ?_);rintro ρ' K' L' w' ⟨bb,rfl,rfl,rfl⟩ hs';obtain⟨m',hrel⟩:=hr.newObj (d:=d) (i:=1) (u:=.cons (.int .i64) (.one (.sl t0))) (x:=(some ((c:Int),([]:List t0.den)):Option (Int×List t0.den))) (hs'.mono (fun h k=>⟨bb,_,rfl,⟨#[],0,0,rfl,by show (0:Int)<=(c:Int);omega,rfl⟩,k⟩));exact hX _ _ _ _ _ hrel ⟨rfl,rfl⟩ h
     . cases h
   . cases h
 . cases h
theorem mS{H:List HA}{e:TypeId}{o:OT}{l:List o.tp.den}{d:Option Nat}(h:newO σ d H e o l k=some r):∃d0,d=some d0/\k ⟨σ.base,(d0,.own σ.nx)::σ.top,.od σ.nx (σ.nx+1) (.row e o) l::H,σ.Hf,σ.nx+2,σ.kq⟩=some r:=by
 unfold newO at h;split at h
 . exact⟨_,rfl,h⟩
 . cases h
theorem se{K0:Hp}:∀(o:OT) {vs:List SV} {x:o.tp.den} {q:List SV} {us:List Value},OT.z0 o vs=some (x,q)->SV.relL m K vs us->∃c1 c2,us=c1++c2/\o.own K c1 x Hp.nil/\SV.relL m K q c2
 | .dat t,vs,x,q,us,h,hr=>by
   obtain⟨c1,c2,rfl,h1,h2⟩:=cL t h hr;exact⟨c1,c2,rfl,⟨h1,rfl⟩,h2⟩
 | .row e a,vs,x,q,us,h,hr=>by
   unfold OT.z0 at h;split at h
   . cases h;obtain⟨u,us,rfl,h1,h2⟩:=aM hr;simp only[SV.rel]at h1;subst h1;exact⟨[_],us,rfl,⟨_,[],rfl,jS ⟨by simp,.inl ⟨rfl,rfl,rfl⟩⟩ ⟨rfl,rfl⟩⟩,h2⟩
   . cases h
 | .box e a,vs,x,q,us,h,hr=>by
   unfold OT.z0 at h;split at h
   . cases h;obtain⟨u,us,rfl,h1,h2⟩:=aM hr;simp only[SV.rel]at h1;subst h1;exact⟨[_],us,rfl,⟨rfl,rfl⟩,h2⟩
   . cases h
 | .lbx e a,vs,x,q,us,h,hr=>by
   unfold OT.z0 at h;cases h
 | .chn a,vs,x,q,us,h,hr=>by
   unfold OT.z0 at h;split at h
   . cases h;obtain⟨u,us,rfl,h1,h2⟩:=aM hr;simp only[SV.rel]at h1;subst h1;exact⟨[_],us,rfl,⟨rfl,rfl⟩,h2⟩
   . cases h
 | .obj n u,vs,x,q,us,h,hr=>by
   unfold OT.z0 at h;split at h
   . replace h:=ak h;obtain⟨hn,h⟩:=h;obtain rfl:=Y0 hn;cases h;obtain⟨v0,us,rfl,h1,h2⟩:=aM hr;simp only[SV.rel]at h1;subst h1;exact⟨[_],us,rfl,⟨rfl,rfl⟩,h2⟩
   . cases hn:Y3 n 0 with
     |true=>rw[hn]at h;cases h
     | false =>
       rw[hn]at h;cases h;obtain⟨v0,us,rfl,h1,h2⟩:=aM hr;simp only[SV.rel]at h1;subst h1;obtain⟨j,rfl⟩:∃j,n=j+1:=by cases n with|zero=>cases hn|succ j=>exact⟨j,rfl⟩
       exact⟨[_],us,rfl,⟨rfl,rfl⟩,h2⟩
   . cases h
 |.one a,vs,x,q,us,h,hr=>se (K0:=K0) a (x:=x) h hr
 | .cons a b,vs,x,q,us,h,hr=>by
   unfold OT.z0 at h;split at h
   . rename_i x1 r1 h1;split at h
     . rename_i y r2 h2;cases h;obtain⟨c1,c2,rfl,k1,k2⟩:=se (K0:=K0) a h1 hr;obtain⟨d1,d2,rfl,q1,q2⟩:=se (K0:=K0) b h2 k2;exact⟨c1++d1,d2,by simp,⟨c1,d1,rfl,OT.own_len a k1,jS k1 q1⟩,q2⟩
     . cases h
   . cases h
theorem Gm{s:TypeId}{x y:Operand}{o:OT}(h:rf P σ (some d) s (σ.ev n x) (σ.ev n y) o k=some r)(hr:Rel E fr σ m K ρ w):OpOk P E n fr σ ρ w ⟨some d,.makeSlice s x y,t,pos,af,none⟩ (fun σ'=>k σ'=some r):=fun X Q hX=>by
 have hx:=hr.toPur.ev n x;have hy:=hr.toPur.ev n y;unfold rf at h;split at h
 . rename_i e k1 a k2 b hs e1 e2;rw[e1]at hx;rw[e2]at hy;split at h
   . rename_i z hz;replace h:=ak h;obtain⟨hi,h⟩:=h;obtain⟨zv,bt,i1,i2,i3,i4⟩:=dF hi;obtain⟨zv',sz',bt',j1,j2⟩:=gf (m:=m) (K:=K) hz;obtain⟨rfl,rfl,rfl⟩:=i1.zero_eq j1;split at h
     . rename_i x0 hd;obtain⟨c1,c2,q1,q2,q3⟩:=se (K0:=K) o hd j2;obtain rfl:=aU q3;rw[Z6]at q1;rw[<- q1]at q2;replace h:=ob h;obtain⟨l,hl,h⟩:=h;obtain⟨m1,m2,m3,rfl⟩:=m4 hl;obtain⟨d0,hd0,h⟩:=mS h;cases hd0;refine bw ((A.makeW hs i1 (by rw[Y5];exact i2) i4 i3 hx hy m1 m2 m3).go w hr.toSep _ _ ?_);rintro ρ' K' L' w' ⟨bb,rfl,rfl,rfl⟩ hs';have hs2:=hs'.emp.mono (B:=EEls (OT.own K o) (zrow a.toNat zv.cells.toList) (Z2 a.toNat x0)) (fun h k=>by
         obtain rfl:h=Hp.nil:=k;rw[mP];exact EEls.zero q2 _)
       have hs3:Sep E K (OT.own K (.row e o) [.slice (some ⟨bb,0,none⟩) a.toNat b.toNat] (Z2 a.toNat x0:List o.tp.den)::(σ.H.map (HA.conc m)++σ.fz fr)) w' :=
         (Sep.join hs2.swap).mono (fun h k=>⟨_,_,rfl,by rw[X9];exact k⟩)
       obtain⟨m',hrel⟩:=hr.newO (d:=d) (fun a ha=>ha) hs3;exact hX _ _ _ _ _ hrel ⟨rfl,rfl⟩ h
     . cases h
   . cases h
 . cases h
theorem BU{o:OT}:∀{cs:List (List SV)} {H:List HA} {xs:List o.tp.den} {H':List HA} {vs:List (List Value)},OT.colA o cs H=some (xs,H')->rowsR m K cs vs->(∀a∈H,HA.ok m K a) ->
   (∀a∈H',a∈H)/\xs.length=vs.length/\∀{E:En} {w:World} {L:List ah},Sep E K (H.map (HA.conc m)++L) w->Sep E K (EEls (o.own K) vs.flatten xs::(H'.map (HA.conc m)++L)) w
 | [],H,xs,H',vs,h,hr,hok=>by
   cases h;obtain rfl:vs=[]:=hr;exact⟨fun a ha=>ha,rfl,fun hs=>hs.emp.mono (fun h k=>⟨rfl,k⟩)⟩
 | c :: cs,H,xs,H',vs,h,hr,hok=>by
   obtain⟨v,q,rfl,hr0,hr1⟩:=hr;unfold OT.colA at h;split at h
   . rename_i x H1 h1;split at h
     . rename_i ys H2 h2;cases h;obtain⟨c1,c2,rfl,k2,k3,k4⟩:=gy o h1 (ef _ hr0) hok;obtain rfl:=aU k2;obtain⟨i1,i2,i3⟩:=BU h2 hr1 (fun a ha=>hok a (k3 a ha));refine⟨fun a ha=>k3 a (i1 a ha),by simp[i2],fun {E w L} hs=>?_⟩;have s1:Sep E K (H1.map (HA.conc m)++(o.own K c1 x::L)) w:=Sep.perm (List.perm_middle.symm) (k4 hs);have s2:=i3 s1;have s3:Sep E K (o.own K c1 x::EEls (o.own K) q.flatten ys::(H'.map (HA.conc m)++L)) w:=Sep.perm (((aP0).cons _).trans (bd0 _ _ _)) s2;exact (Sep.join s3).mono (fun h k=>⟨c1,q.flatten,by simp,k⟩)
     . cases h
   . cases h
theorem GO {s:TypeId} {len:Nat} {ps:Array (Nat×Operand)} {o:OT} (h:rm P σ (some d) s len (ps.toList.map fun p=>(p.1,σ.ev n p.2)) o k=some r) (hr:Rel E fr σ m K ρ w):OpOk P E n fr σ ρ w ⟨some d,.buildSlice s len ps,t,pos,af,none⟩ (fun σ'=>k σ'=some r):=fun X Q hX=>by
 unfold rm at h;split at h
 . rename_i e hs;split at h
   . rename_i z hz;split at h
     . rename_i cs hcs;obtain⟨zv,sz,bt,j1,j2⟩:=gf (m:=m) (K:=K) hz;have hzl:=cG j2;have hps:iF m K (ps.toList.map fun p=>(p.1,σ.ev n p.2)) (ps.toList.map fun p=>(p.1,ev n ρ p.2)):=uU hr.toPur ps.toList;replace h:=ak h;obtain⟨hb,h⟩:=h;rw[Y1,Y1]at hb;obtain⟨⟨hi,hb⟩,hlf⟩:=hb;have hb:=W9 hb;obtain⟨zv',bt',i1,i2,i3,i4⟩:=dF hi;obtain⟨rfl,rfl,rfl⟩:=i1.zero_eq j1;have hz1:z.length=o.tp.size:=by rw[<- hzl,Y5];exact i2
       rw[hz1]at hcs;obtain⟨ws,g1,g2,g3,g4⟩:=qT o.tp.size i4 hcs hps (qi j2 len) (fun x hx=>by obtain⟨_,rfl⟩:=cV0.1 hx;rw[Y5];exact i2);rw[<- mP]at g1;split at h
       . rename_i l H hl;obtain⟨f1,f2,f3⟩:=BU hl g2 (fun a ha=>hr.okH a ha);rw[g3,X9]at f2;obtain⟨d0,hd0,h⟩:=mS h;cases hd0;have hs1:=f3 (L:=σ.fz fr) hr.toSep;have hfl:ws.flatten.length=len*o.tp.size:=by
           have:=hs1.fact (p:=ws.flatten.length=l.length*o.tp.size) (fun h k=>EEls.len (fun es x h k=>OT.own_len o k) k);rw[this,f2]
         refine bw ((A.litW (len:=len) hs i1 hb i2 g1 hfl i4).go w hs1 _ _ ?_);rintro ρ' K' L' w' ⟨bb,rfl,rfl,rfl⟩ hs';have hs3:Sep E K (OT.own K (.row e o) [.slice (some ⟨bb,0,none⟩) len len] (l:List o.tp.den)::(H.map (HA.conc m)++σ.fz fr)) w' :=
           (Sep.join hs').mono (fun h k=>⟨_,_,rfl,by rw[f2];exact k⟩)
         obtain⟨m',hrel⟩:=hr.newO (d:=d) f1 hs3;exact hX _ _ _ _ _ hrel ⟨rfl,rfl⟩ h
       . cases h
     . cases h
   . cases h
 . cases h
theorem BE{e s:TypeId}{o:OT}{l:List o.tp.den}{x y:Operand}{H:List HA}{v:Value}(hs:P.underlying s=some (.slice e))(h:sY P σ (some d) H e o l (σ.ev n y) k=some r)(hr:Rel E fr σ m K ρ w)
   (hH:∀a∈H,a∈σ.H) (hsep:Sep E K (OT.own K (.row e o) [v] l::(H.map (HA.conc m)++σ.fz fr)) w) (hx:ev n ρ x=v) :
   OpOk P E n fr σ ρ w ⟨some d,.call ⟨.builtin .append,#[x,y],#[s,s]⟩,t,pos,af,none⟩ (fun σ'=>k σ'=some r):=fun X Q hX=>by
 have hy:=hr.toPur.ev n y;unfold sY at h;split at h
 . rename_i j ez;rw[ez]at hy;replace h:=ak h;obtain⟨hi,h⟩:=h;obtain⟨zv,bt,i1,i2,i3,i4⟩:=dF hi;split at h
   . rename_i l' H2 hq;obtain⟨l2,rfl⟩:∃l2:List o.tp.den,l2=l':=⟨l',rfl⟩
     obtain⟨a,ha,hmem,hsub,hps⟩:=d6 (α:=Nat) (K:=K) (m:=m) hq;obtain⟨c,rfl⟩:=rH ha;obtain⟨u,u1,u2,u3⟩:=ne (hr.okH _ (hH _ hmem));have hyv:=hy.1;rw[u1]at hyv;simp only[Z3,M.val.injEq]at hyv;replace h:=ob h;obtain⟨zs,hz,h⟩:=h;obtain⟨hlen,rfl⟩:=jV hz;obtain⟨d0,hd0,h⟩:=mS h;cases hd0;have s1:Sep E K (H.map (HA.conc m)++(OT.own K (.row e o) [v] l::σ.fz fr)) w:=Sep.perm (List.perm_middle.symm) hsep;have s2:=u3 (hps s1);have s3:Sep E K (OT.own K (.row e o) [v] l::OT.own K (.row e o) [u] l2::(H2.map (HA.conc m)++σ.fz fr)) w:=Sep.perm (((aP0).cons _).trans (bd0 _ _ _)) s2;obtain⟨v1,cs,e1,s4⟩:=Sep.ownRow (a:=o) (xs:=l) s3;cases e1;have s5:Sep E K (OT.own K (.row e o) [u] l2::Rw e o.tp.size v l.length cs::EEls (OT.own K o) cs l::(H2.map (HA.conc m)++σ.fz fr)) w:=Sep.front 2 rfl s4;obtain⟨u',ds,e1,s6⟩:=Sep.ownRow (a:=o) (xs:=l2) s5;cases e1;have s7:Sep E K (Rw e o.tp.size v l.length cs::Rw e o.tp.size u l2.length ds::EEls (OT.own K o) ds l2::EEls (OT.own K o) cs l::(H2.map (HA.conc m)++σ.fz fr)) w:=Sep.front 2 rfl s6;have hone:∀c∈ds,c.oneCell'=true:=(Sep.front 2 rfl s7).fact (fun h k=>EEls.one' (fun es x h k=>OT.own_one o k) k)
     refine bw ((A.appW (t:=t) (pos:=pos) (af:=af) hs i1 i2 i4 i3 hx hyv.symm hone hlen).go w s7 _ _ ?_);rintro ρ' K' L' w' ⟨v',rfl,rfl,rfl⟩ hs';have t1:Sep E K (EEls (OT.own K o) (cs++ds) (l++l2)::Rw e o.tp.size v' (l.length+l2.length) (cs++ds)::(H2.map (HA.conc m)++σ.fz fr)) w' :=
       Sep.appEls (Sep.perm ((bd0 _ _ _).trans (((bd0 _ _ _).cons _).trans (bd0 _ _ _))) hs')
     have t2:Sep E K (OT.own K (.row e o) [v'] (l++l2:List o.tp.den)::(H2.map (HA.conc m)++σ.fz fr)) w' :=
       (Sep.join t1.swap).mono (fun h k=>⟨_,_,rfl,by rw[W3];exact k⟩)
     obtain⟨m',hrel⟩:=hr.newO (d:=d) (fun a ha=>hH a (hsub a ha)) t2;exact hX _ _ _ _ _ hrel ⟨rfl,rfl⟩ h
   . cases h
 . cases h
theorem G2{s u:TypeId}{x y:Operand}{o:OT}(h:wT P σ (some d) s u (σ.ev n x) (σ.ev n y) o k=some r)(hr:Rel E fr σ m K ρ w):OpOk P E n fr σ ρ w ⟨some d,.call ⟨.builtin .append,#[x,y],#[s,u]⟩,t,pos,af,none⟩ (fun σ'=>k σ'=some r):=by
 have hx:=hr.toPur.ev n x;unfold wT at h;split at h
 . rename_i e i hs ex;rw[ex]at hx;replace h:=ak h;obtain⟨hb,h⟩:=h;obtain rfl:=Y0 hb;split at h
   . rename_i l H hq;obtain⟨a,ha,hmem,hsub,hps⟩:=d6 (α:=Nat) (K:=K) (m:=m) hq;obtain⟨c,rfl⟩:=rH ha;obtain⟨u,u1,u2,u3⟩:=ne (hr.okH _ hmem);have hxv:=hx.1;rw[u1]at hxv;simp only[Z3,M.val.injEq]at hxv;exact BE hs h hr hsub (u3 (hps hr.toSep)) hxv.symm
   . cases h
 . rename_i e hs ex;rw[ex]at hx;replace h:=ak h;obtain⟨hb,h⟩:=h;obtain rfl:=Y0 hb;simp only[SV.rel]at hx;exact BE hs h hr (fun a ha=>ha) (hr.toSep.emp.mono (fun h k=>by obtain rfl:h=Hp.nil:=k;exact⟨_,[],rfl,jS ⟨by simp,.inl ⟨rfl,rfl,rfl⟩⟩ ⟨rfl,rfl⟩⟩)) hx
 . cases h
theorem wE{α:Type _}(A B F:List α)(x:α):(A++x::(B++F)).Perm ((x::(A++B))++F):=by
 rw[aK0,X1];exact aP0
theorem Rel.open(hr:Rel E fr σ m K ρ w){ms:List M}{H:List HA}{nx:Nat}(hn:(m++ms).length=nx)(hH:∀a∈H,HA.ok (m++ms) K a)(hs:Sep E K (H.map (HA.conc (m++ms))++σ.fz fr) w):Rel E fr ⟨σ.base,σ.top,H,σ.Hf,nx,σ.kq⟩ (m++ms) K ρ w :=
 ⟨Pur.next hr.toPur (ax m ms) (Hp.le_refl K) (fun e=>⟨e,rfl⟩) hn hH,hs⟩
theorem C5{i:Nat}{j:Int}{k:Zt->Option R}{r:R}(h:σ.opn i j k=some r)(hr:Rel E fr σ m K ρ w):∃σ' m',k σ'=some r/\Same σ σ'/\Rel E fr σ' m' K ρ w:=by
 unfold Zt.opn at h;split at h
 . rename_i q H hq;replace h:=ob h;obtain⟨x,hx,h⟩:=h;obtain⟨p1,p2,p3⟩:=dY hx;obtain⟨a,ha,hmem,hsub,hs⟩:=hr.take hq;obtain rfl:=jT ha;obtain⟨v,K0,g1,g2,g3,ad,cap,rfl,g5⟩:=hr.okH _ hmem;simp only[HA.conc,g1,g2]at hs;obtain⟨es,k1,hs⟩:=Sep.openH (o:=q.o) (xs:=q.l) p2 hs;have hlt:j.toNat<q.l.length:=(V4.1 p2).1;obtain⟨g,rfl⟩:=g5 (by show q.l.length≠0;omega);have hp:=ax m [M.hol K0 es];have gn:(m++[M.hol K0 es])[σ.nx]?=some (.hol K0 es):=aR hr.nx;cases hex:OT.ex q.c q.o x (σ.nx+1)with
   | mk vs q2 =>
     obtain⟨Hn,nx⟩:=q2;simp only[hex]at h;obtain⟨ms,e1,e2,e3,e4⟩:=ku (m:=m++[M.hol K0 es]) q.o g3 hex (by simp[hr.nx]) (aq hp g2) hs.swap;have hp2:=ax (m++[M.hol K0 es]) ms;have hp3:m <+: (m++[M.hol K0 es])++ms:=hp.trans hp2;rw[X1]at e1 e2 e3 e4 hp2 hp3;have gi:=aq hp3 g1;have gc:(m++([M.hol K0 es]++ms))[σ.nx]?=some (.hol K0 es):=aq hp2 gn;refine⟨_,m++([M.hol K0 es]++ms),h,⟨rfl,rfl⟩,Rel.open hr e1 ?_ ?_⟩
     . intro a ha
       rcases Y4.1 ha with rfl|ha
       . exact⟨_,cap,K0,es,gi,gc,g3,e2,p1,hlt,k1,g,rfl⟩
       . rcases V3.1 ha with ha|ha
         . exact e3 a ha
         . exact hr.toPur.okH' hp3 (Hp.le_refl K) a (hsub a ha)
     . rw[X5,X6,hr.toPur.conc hp3 hsub];simp only[HA.conc,gi,gc];refine Sep.perm ?_ e4;exact wE _ _ _ _
 . cases h
theorem m7{i:Nat}{x:SV}{v:Value}(h1:m[i]?=some (.val v))(h2:SV.rel m K x v):∀a b u,svF i x a=some b->SV.rel m K a u->SV.rel m K b u:=by
 intro a b u hf hr;unfold svF at hf;split at hf
 . replace hf:=ak hf;obtain⟨hb,hf⟩:=hf;have hb:=Y0 hb;subst hb;cases hf;have h4:=hr.1;rw[h1]at h4;simp only[Z3,M.val.injEq]at h4;subst h4;exact h2
 . cases hf
theorem L6{i:Nat}{k:Zt->Option R}{r:R}(h:σ.opb i k=some r)(hr:Rel E fr σ m K ρ w):∃σ' m',k σ'=some r/\Same σ σ'/\Rel E fr σ' m' K ρ w:=by
 unfold Zt.opb at h;split at h
 . rename_i q H hq;obtain⟨a,ha,hmem,hsub,hs⟩:=hr.take hq;obtain rfl:=BX ha;obtain⟨qc,qe,qo,qx⟩:=q;dsimp only at h hmem hs;replace h:=ob h;obtain⟨y,hy,h⟩:=h;subst hy;obtain⟨v,K0,g1,g2,g3,g4⟩:=hr.okH _ hmem;change m[qc]?=some (.hp K0)at g2;change Sep E K (HA.conc m (.od i qc (.box qe qo) (some y))::_) w at hs;simp only[HA.conc,g1,g2]at hs;obtain⟨b,es,e0,hs1⟩:=Sep.ownBox hs;clear hs;simp only[aQ0,and_true]at e0;subst e0;have hp:=ax m [M.cells es];have gn:(m++[M.cells es])[σ.nx]?=some (.cells es):=aR hr.nx;cases hex:OT.ex qc qo y (σ.nx+1)with
   | mk vs q2 =>
     obtain⟨Hn,nx⟩:=q2;simp only[hex]at h;obtain⟨ms,e1,e2,e3,e4⟩:=ku (m:=m++[M.cells es]) qo g3 hex (by simp[hr.nx]) (aq hp g2) hs1.swap;have hp2:=ax (m++[M.cells es]) ms;have hp3:m <+: (m++[M.cells es])++ms:=hp.trans hp2;rw[X1]at e1 e2 e3 e4 hp2 hp3;have gi:=aq hp3 g1;have gc:(m++([M.cells es]++ms))[σ.nx]?=some (.cells es):=aq hp2 gn;have hf:=m7 (K:=K) (x:=.ptr i 0) gi ⟨b,gi,rfl⟩;have okS:∀a∈H.map (HA.sub (svF i (.ptr i 0))),HA.ok (m++([M.cells es]++ms)) K a:=fun a ha=>by
       obtain⟨a0,h0,rfl⟩:=Y7.1 ha;exact fp hf (hr.toPur.okH' hp3 (Hp.le_refl K) a0 (hsub a0 h0))
     refine⟨_,m++([M.cells es]++ms),h,⟨rfl,rfl⟩,⟨⟨?_,hr.hK,e1,hr.kq,hr.base,hr.dead,?_,?_,?_,hr.okF,hr.mks⟩,?_⟩⟩
     . exact hr.hm.trans hp3
     . intro i' hi';rw[show look (bc _ σ.top) i'=_ from dg σ.top i']at hi';cases hl:look σ.top i' with
       |none=>exact hr.old i' hl
       |some x=>rw[hl]at hi';cases hi'
     . intro i' sv hi';rw[show look (bc _ σ.top) i'=_ from dg σ.top i']at hi';cases hl:look σ.top i' with
       |none=>rw[hl]at hi';cases hi'
       | some x =>
         rw[hl]at hi';cases hi';exact fg hf x (SV.mono (fun _ _ k=>aq hp3 k) (Hp.le_refl K) x (hr.top i' x hl))
     . intro a ha
       rcases Y4.1 ha with rfl|ha
       . exact⟨b,es,gi,gc,e2⟩
       . rcases V3.1 ha with ha|ha
         . exact e3 a ha
         . exact okS a ha
     . show Sep E K ((HA.conc _ _::(Hn++H.map _).map (HA.conc _))++σ.fz fr) w;rw[X6,fU,hr.toPur.conc hp3 hsub];simp only[HA.conc,gi,gc];refine Sep.perm ?_ e4;exact wE _ _ _ _
 . cases h
theorem K8{i:Nat}{k:Zt->Option R}{r:R}(h:σ.opl i k=some r)(hr:Rel E fr σ m K ρ w):∃σ' m',k σ'=some r/\Same σ σ'/\Rel E fr σ' m' K ρ w:=by
 unfold Zt.opl at h;split at h
 . rename_i q H hq;obtain⟨a,ha,hmem,hsub,hs⟩:=hr.take hq;obtain rfl:=KM ha;obtain⟨qc,qe,qo,qx⟩:=q;dsimp only at h hmem hs;replace h:=ob h;obtain⟨y,hy,h⟩:=h;subst hy;obtain⟨v,K0,g1,g2,g3,g4⟩:=hr.okH _ hmem;change m[qc]?=some (.hp K0)at g2;change Sep E K (HA.conc m (.od i qc (.lbx qe qo) (some y))::_) w at hs;simp only[HA.conc,g1,g2]at hs;obtain⟨b,es,e0,hs1⟩:=Sep.ownLbx hs;clear hs;simp only[aQ0,and_true]at e0;subst e0;have hp:=ax m [M.cells es];have gn:(m++[M.cells es])[σ.nx]?=some (.cells es):=aR hr.nx;cases hex:OT.ex qc qo y (σ.nx+1)with
   | mk vs q2 =>
     obtain⟨Hn,nx⟩:=q2;simp only[hex]at h;obtain⟨ms,e1,e2,e3,e4⟩:=ku (m:=m++[M.cells es]) qo g3 hex (by simp[hr.nx]) (aq hp g2) hs1.swap;have hp2:=ax (m++[M.cells es]) ms;have hp3:m <+: (m++[M.cells es])++ms:=hp.trans hp2;rw[X1]at e1 e2 e3 e4 hp2 hp3;have gi:=aq hp3 g1;have gc:(m++([M.cells es]++ms))[σ.nx]?=some (.cells es):=aq hp2 gn;have hf:=m7 (K:=K) (x:=.ptr i 0) gi ⟨b,gi,rfl⟩;have okS:∀a∈H.map (HA.sub (svF i (.ptr i 0))),HA.ok (m++([M.cells es]++ms)) K a:=fun a ha=>by
       obtain⟨a0,h0,rfl⟩:=Y7.1 ha;exact fp hf (hr.toPur.okH' hp3 (Hp.le_refl K) a0 (hsub a0 h0))
     refine⟨_,m++([M.cells es]++ms),h,⟨rfl,rfl⟩,⟨⟨?_,hr.hK,e1,hr.kq,hr.base,hr.dead,?_,?_,?_,hr.okF,hr.mks⟩,?_⟩⟩
     . exact hr.hm.trans hp3
     . intro i' hi';rw[show look (bc _ σ.top) i'=_ from dg σ.top i']at hi';cases hl:look σ.top i' with
       |none=>exact hr.old i' hl
       |some x=>rw[hl]at hi';cases hi'
     . intro i' sv hi';rw[show look (bc _ σ.top) i'=_ from dg σ.top i']at hi';cases hl:look σ.top i' with
       |none=>rw[hl]at hi';cases hi'
       | some x =>
         rw[hl]at hi';cases hi';exact fg hf x (SV.mono (fun _ _ k=>aq hp3 k) (Hp.le_refl K) x (hr.top i' x hl))
     . intro a ha
       rcases Y4.1 ha with rfl|ha
       . exact⟨b,es,gi,gc,e2⟩
       . rcases V3.1 ha with ha|ha
         . exact e3 a ha
         . exact okS a ha
     . show Sep E K ((HA.conc _ _::(Hn++H.map _).map (HA.conc _))++σ.fz fr) w;rw[X6,fU,hr.toPur.conc hp3 hsub];simp only[HA.conc,gi,gc];refine Sep.perm ?_ e4;exact wE _ _ _ _
 . exact L6 h hr
theorem Ml{i:Nat}{σ':Zt}(h:σ.cls i=some σ')(hr:Rel E fr σ m K ρ w):∃m',Same σ σ'/\Rel E fr σ' m' K ρ w:=by
 unfold Zt.cls at h;split at h
 . rename_i q H hq;obtain⟨a,ha,hmem,hsub,hs⟩:=hr.take hq;obtain rfl:=iC ha;obtain⟨ad,cap,K0,es,g1,g2,g3,g4,g5,g6,g7,g,rfl⟩:=hr.okH _ hmem;simp only[HA.conc,g1,g2]at hs;split at h
   . rename_i y H1 hcol;cases h;obtain⟨c1,c2,rfl,k2,k3,k4⟩:=gy q.o hcol (ef _ g4) (fun a ha=>hr.okH a (hsub a ha));obtain rfl:=aU k2;rw[Z6]at hs;have s1:=k4 (Sep.perm (List.perm_middle.symm) hs);have s2:Sep E K (fu K0 q.e q.o (.slice (some ⟨g,0,none⟩) q.l.length cap) q.l q.j.toNat c1::q.o.own K c1 y::(H1.map (HA.conc m)++σ.fz fr)) w:=Sep.perm (((aP0).cons _).trans (bd0 _ _ _)) s1;have s3:=s2.mono (B:=fu K q.e q.o (.slice (some ⟨g,0,none⟩) q.l.length cap) q.l q.j.toNat c1) (fun h ⟨a1,a2,e1,hst⟩=>⟨a1,a2,e1,ci (fun _ k=>k) (fun h k=>ci (fun h k=>EEls.mono (fun es x h k=>KOk.own g3 k) k) (fun h k=>EEls.mono (fun es x h k=>KOk.own g3 k) k) k) hst⟩);have s4:=Sep.closeH (o:=q.o) g6 s3;have hp:=ax m [M.hp K];have gn:(m++[M.hp K])[σ.nx]?=some (.hp K):=aR hr.nx;have gi:=aq hp g1;refine⟨m++[M.hp K],⟨rfl,rfl⟩,Rel.open hr (by simp[hr.nx]) ?_ ?_⟩
     . intro a ha
       rcases Y4.1 ha with rfl|ha
       . exact⟨_,K,gi,gn,KOk.refl,_,cap,by rw[show W4 (α:=q.o.tp.den) (q.l.set q.j.toNat y)=q.l.length from ax0],fun _=>⟨g,rfl⟩⟩
       . exact hr.toPur.okH' hp (Hp.le_refl K) a (hsub a (k3 a ha))
     . rw[X5,hr.toPur.conc hp (fun a ha=>hsub a (k3 a ha))];simp only[HA.conc,gi,gn];exact s4
   . cases h
 . split at h
   . rename_i q H hq;cases h;obtain⟨a,ha,hmem,hsub,hs⟩:=hr.take hq;obtain rfl:=bP ha;obtain⟨ad,cap,cs,g1,g2,g3,g4,g5,g6,g7⟩:=hr.okH _ hmem;simp only[HA.conc,g1,g2]at hs;have hp:=ax m [M.hp K];have gn:(m++[M.hp K])[σ.nx]?=some (.hp K):=aR hr.nx;have gi:=aq hp g1;refine⟨m++[M.hp K],⟨rfl,rfl⟩,Rel.open hr (by simp[hr.nx]) ?_ ?_⟩
     . intro a ha
       rcases Y4.1 ha with rfl|ha
       . exact⟨_,K,gi,gn,KOk.refl,ad,cap,by rw[<- g4];rfl,fun hl=>g7 (fun e=>hl (by rw[e];rfl))⟩
       . exact hr.toPur.okH' hp (Hp.le_refl K) a (hsub a ha)
     . rw[X5,hr.toPur.conc hp hsub];simp only[HA.conc,gi,gn];rw[<- g4]at hs;have h1:=hs.emp.mono (B:=EEls (OT.own K (.one (.dat q.t))) cs q.l) (fun h k=>by obtain rfl:h=Hp.nil:=k;exact (show EEls (OT.own K (.dat q.t)) cs q.l Hp.nil from EEls.dat' g3));rw[<- g4];exact Sep.ownRow' (a:=.one (.dat q.t)) (Sep.perm (bd0 _ _ _) h1)
   . cases h
theorem KO{i c:Nat}{e:TypeId}{j:Nat}{cs:List SV}{o:OT}{l:List o.tp.den}{a:HA}(h:OT.dead i c e j cs o l=some a):∃(e':TypeId) (a':OT) (ho:o=.lbx e' a') (p q:Nat),cs=[.ptr p q]/\a=.od i c (.row e (.lbx e' a')) ((ho ▸ l:List (OT.lbx e' a').tp.den).set j (none:Option a'.tp.den)):=by
 cases o <;> simp only[OT.dead]at h <;> try (cases h;done)
 split at h
 . cases h;exact⟨_,_,rfl,_,_,rfl,rfl⟩
 . cases h
theorem LX{i c:Nat}{e:TypeId}{o:OT}{l:List o.tp.den}{a:HA}(h:OT.lax i c e o l=some a):∃(e':TypeId) (a':OT) (ho:o=.box e' a'),a=.od i c (.row e (.lbx e' a')) (ho ▸ l:List (OT.box e' a').tp.den):=by
 cases o <;> simp only[OT.lax]at h <;> try (cases h;done)
 cases h;exact⟨_,_,rfl,rfl⟩
theorem L9{i:Nat}{σ':Zt}(h:σ.cld i=some σ')(hr:Rel E fr σ m K ρ w):∃m',Same σ σ'/\Rel E fr σ' m' K ρ w:=by
 unfold Zt.cld at h;split at h
 . rename_i q H hq;split at h
   . rename_i a0 hd;cases h;obtain⟨qc,qe,qo,ql,qj,qcs⟩:=q;dsimp only at hd;obtain⟨e',a',rfl,p,o',hcs,rfl⟩:=KO hd;subst hcs;obtain⟨a,ha,hmem,hsub,hs⟩:=hr.take hq;obtain rfl:=iC ha;obtain⟨ad,cap,K0,es,g1,g2,g3,g4,g5,g6,g7,g,rfl⟩:=hr.okH _ hmem;simp only[HA.conc,g1,g2]at hs;obtain⟨u,us,rfl,⟨b,_,rfl⟩,hus⟩:=aM g4;obtain rfl:=aU hus;have s1:=Sep.ownDead (K0:=K) (e:=e') (a:=a') (p:=some ⟨b,o',none⟩) hs;have s2:Sep E K (fu K0 qe (.lbx e' a') (.slice (some ⟨g,0,none⟩) (W4 (α:=(OT.lbx e' a').tp.den) ql) cap) ql qj.toNat [.pointer (some ⟨b,o',none⟩)]::OT.own K (.lbx e' a') [.pointer (some ⟨b,o',none⟩)] (none:Option a'.tp.den)::(H.map (HA.conc m)++σ.fz fr)) w:=Sep.perm (bd0 _ _ _) s1;have s3:=s2.mono (B:=fu K qe (.lbx e' a') (.slice (some ⟨g,0,none⟩) (W4 (α:=(OT.lbx e' a').tp.den) ql) cap) ql qj.toNat [.pointer (some ⟨b,o',none⟩)]) (fun h ⟨a1,a2,e1,hst⟩=>⟨a1,a2,e1,ci (fun _ k=>k) (fun h k=>ci (fun h k=>EEls.mono (fun es x h k=>KOk.own g3 k) k) (fun h k=>EEls.mono (fun es x h k=>KOk.own g3 k) k) k) hst⟩);have s4:=Sep.closeH (o:=.lbx e' a') g6 s3;have hp:=ax m [M.hp K];have gn:(m++[M.hp K])[σ.nx]?=some (.hp K):=aR hr.nx;have gi:=aq hp g1;refine⟨m++[M.hp K],⟨rfl,rfl⟩,Rel.open hr (by simp[hr.nx]) ?_ ?_⟩
     . intro a ha
       rcases Y4.1 ha with rfl|ha
       . exact⟨_,K,gi,gn,KOk.refl,_,cap,by rw[show W4 (α:=(OT.lbx e' a').tp.den) (List.set ql qj.toNat (none:Option a'.tp.den))=W4 (α:=(OT.lbx e' a').tp.den) ql from ax0],fun _=>⟨g,rfl⟩⟩
       . exact hr.toPur.okH' hp (Hp.le_refl K) a (hsub a ha)
     . rw[X5,hr.toPur.conc hp hsub];simp only[HA.conc,gi,gn];exact s4
   . cases h
 . split at h
   . rename_i q H hq;split at h
     . rename_i a0 hd;cases h;obtain⟨qc,qe,qo,ql⟩:=q;dsimp only at hd;obtain⟨e',a',rfl,rfl⟩:=LX hd;obtain⟨a,ha,hmem,hsub,hs⟩:=hr.take hq;obtain rfl:=jT ha;obtain⟨v,K0,g1,g2,g3,g4⟩:=hr.okH _ hmem;simp only[HA.conc,g1,g2]at hs;have hp:=ax m [M.hp K];have gn:(m++[M.hp K])[σ.nx]?=some (.hp K):=aR hr.nx;have gi:=aq hp g1;refine⟨m++[M.hp K],⟨rfl,rfl⟩,Rel.open hr (by simp[hr.nx]) ?_ ?_⟩
       . intro a ha
         rcases Y4.1 ha with rfl|ha
         . exact⟨v,K,gi,gn,KOk.refl,g4⟩
         . exact hr.toPur.okH' hp (Hp.le_refl K) a (hsub a ha)
       . rw[X5,hr.toPur.conc hp hsub];simp only[HA.conc,gi,gn];exact hs.mono (fun h k=>OT.own_lax (KOk.own g3 k))
     . cases h
   . cases h
theorem Kv {o:OT} {v:SV} {H H':List HA} {x:o.tp.den} (hnl:o.nl=true) (h:OT.col o [v] H=some (x,[],H')) (hok:∀ a∈H,HA.ok m K a):∃ u0,(∀ u,SV.rel m K v u->u=u0)/\o.form u0 x/\(∀ a∈H',a∈H)/\∀ {E:En} {w:World} {L:List ah},Sep E K (H.map (HA.conc m)++L) w->Sep E K (o.own K [u0] x :: (H'.map (HA.conc m)++L)) w:=by
 have main : ∃ u0, SV.rel m K v u0 /\ (∀ u, SV.rel m K v u -> u = u0) /\ o.form u0 x := by
   cases o with
   | row e a =>
     unfold OT.col at h;split at h
     . rename_i v' r' hv;cases hv;split at h
       . cases h;exact⟨_,rfl,fun u hu=>hu,none,0,rfl,fun h=>absurd rfl h⟩
       . rename_i i;split at h
         . rename_i x' H1 hp;cases h;obtain⟨v,g1,g2,_,_⟩:=d5 hp hok;refine⟨v,⟨g1,fa g2⟩,fun u hu=>?_,g2⟩;have:=hu.1;rw[g1]at this;cases this;rfl
         . cases h
       . cases h
     . cases h
   | box e a =>
     unfold OT.col at h;split at h
     . rename_i v' r' hv;cases hv;split at h
       . cases h;exact⟨_,rfl,fun u hu=>hu,.inl ⟨rfl,rfl⟩⟩
       . rename_i i o;replace h:=ak h;obtain⟨ho,h⟩:=h;obtain rfl:=Y0 ho;split at h
         . rename_i q H1 hq;replace h:=ak h;obtain⟨he,h⟩:=h;split at h
           . rename_i y H2 hcol;cases h;obtain⟨a',ha,hmem,hperm⟩:=bJ hq;obtain rfl:=cH ha;obtain⟨b,bs,g1,g2,g3,g4⟩:=HA.ok_blk (hok _ hmem);refine⟨.pointer (some ⟨b,0,none⟩),⟨b,g1,rfl⟩,fun u hu=>?_,.inr ⟨y,b,rfl,rfl⟩⟩;obtain⟨b',g5,rfl⟩:=hu;rw[g1]at g5;cases g5;rfl
           . cases h
         . cases h
       . rename_i i;split at h
         . rename_i x' H1 hp;cases h;obtain⟨v,g1,g2,_,_⟩:=d5 hp hok;refine⟨v,⟨g1,fa g2⟩,fun u hu=>?_,g2⟩;have:=hu.1;rw[g1]at this;cases this;rfl
         . cases h
       . cases h
     . cases h
   | lbx e a =>
     unfold OT.col at h;split at h
     . rename_i v' r' hv;cases hv;split at h
       . rename_i i o;replace h:=ak h;obtain⟨ho,h⟩:=h;obtain rfl:=Y0 ho;split at h
         . rename_i q H1 hq;replace h:=ak h;obtain⟨he,h⟩:=h;split at h
           . rename_i y H2 hcol;cases h;obtain⟨a',ha,hmem,hperm⟩:=bJ hq;obtain rfl:=cH ha;obtain⟨b,bs,g1,g2,g3,g4⟩:=HA.ok_blk (hok _ hmem);refine⟨.pointer (some ⟨b,0,none⟩),⟨b,g1,rfl⟩,fun u hu=>?_,.inr ⟨y,b,rfl,rfl⟩⟩;obtain⟨b',g5,rfl⟩:=hu;rw[g1]at g5;cases g5;rfl
           . cases h
         . cases h
       . rename_i i;split at h
         . rename_i x' H1 hp;cases h;obtain⟨v,g1,g2,_,_⟩:=d5 hp hok;refine⟨v,⟨g1,fa g2⟩,fun u hu=>?_,g2⟩;have:=hu.1;rw[g1]at this;cases this;rfl
         . cases h
       . cases h
     . cases h
   | chn a =>
     unfold OT.col at h;split at h
     . rename_i v' r' hv;cases hv;split at h
       . cases h;exact⟨_,rfl,fun u hu=>hu,.inl ⟨rfl,rfl⟩⟩
       . rename_i i;split at h
         . rename_i x' H1 hp;cases h;obtain⟨v,g1,g2,_,_⟩:=d5 hp hok;refine⟨v,⟨g1,fa g2⟩,fun u hu=>?_,g2⟩;have:=hu.1;rw[g1]at this;cases this;rfl
         . cases h
       . cases h
     . cases h
   | obj i u =>
     unfold OT.col at h;split at h
     . rename_i v' r' hv;cases hv;split at h
       . replace h:=ak h;obtain⟨hn,h⟩:=h;obtain rfl:=Y0 hn;cases h;exact⟨_,rfl,fun u hu=>hu,.inl ⟨rfl,rfl⟩⟩
       . cases hn:Y3 i 0 with
         |true=>rw[hn]at h;cases h
         | false =>
           rw[hn]at h;obtain⟨j,rfl⟩:∃j,i=j+1:=by cases i with|zero=>cases hn|succ j=>exact⟨j,rfl⟩
           cases h;exact⟨_,rfl,fun u hu=>hu,.inl ⟨rfl,rfl⟩⟩
       . rename_i i;split at h
         . rename_i x' H1 hp;cases h;obtain⟨v,g1,g2,_,_⟩:=d5 hp hok;refine⟨v,⟨g1,fa g2⟩,fun u hu=>?_,g2⟩;have:=hu.1;rw[g1]at this;cases this;rfl
         . cases h
       . cases h
     . cases h
   |_=>cases hnl
 obtain⟨u0,h1,h2,h3⟩:=main;have hl:SV.relL m K [v] [u0]:=⟨u0,[],rfl,h1,rfl⟩;obtain⟨c1,c2,e,k1,k2,k3⟩:=gy o h hl hok;obtain rfl:=aU k1;rw[Z6]at e;subst e;exact⟨u0,h2,h3,k2,k3⟩
theorem xz{o:OT}{x:o.tp.den}{v:Value}{y:SV}(h:OT.kn o x=some y)(hi:Is K o.tp [v] x):SV.rel m K y v:=by
 unfold OT.kn at h;split at h
 . cases h;exact⟨(show Is K (.sl _) [v] _ from hi),rfl⟩
 . cases h;exact⟨hi,rfl⟩
 . cases h;exact hi
 . cases h
end
end
section
variable [BldA]
theorem jL:∀(t:Tp),∃h,Tp.same t t=some h
 |.int k=>⟨⟨rfl⟩,by simp[Tp.same]⟩
 |.bool=>⟨⟨rfl⟩,rfl⟩
 |.str=>⟨⟨rfl⟩,rfl⟩
 |.sl a=>by obtain⟨h,e⟩:=jL a;exact⟨⟨rfl⟩,by simp[Tp.same,e]⟩
 |.ptr a=>by obtain⟨h,e⟩:=jL a;exact⟨⟨rfl⟩,by simp[Tp.same,e]⟩
 |.emp=>⟨⟨rfl⟩,rfl⟩
 |.one a=>by obtain⟨h,e⟩:=jL a;exact⟨⟨rfl⟩,by simp[Tp.same,e]⟩
 | .cons a r=>by
   obtain⟨h,e⟩:=jL a;obtain⟨h2,e2⟩:=jL r;exact⟨⟨rfl⟩,by simp[Tp.same,e,e2]⟩
theorem rb{t:Tp}{x:t.den}:(⟨t,x⟩:Dat).as t=some x:=by
 obtain⟨⟨h⟩,e⟩:=jL t;unfold Dat.as;rw[e]
theorem B6{d:Dat}{t:Tp}{x:t.den}(h:d.as t=some x):d=⟨t,x⟩:=by
 unfold Dat.as at h;split at h
 . rename_i q _;obtain⟨t0,x0⟩:=d;obtain⟨q⟩:=q;change t0=t at q;subst q;cases h;rfl
 . cases h
theorem TL.of_list:∀{ts:List Tp} {ds:List Dat} {x:TL ts},TL.of ts ds=some x->TL.list ts x=ds
 |[],[],x,h=>rfl
 |[],d::ds,x,h=>by cases h
 |[t],[],x,h=>by cases h
 | [t],[d],x,h=>by
   have:=B6 (show d.as t=some x from h);rw[this];rfl
 |[t],d::e::ds,x,h=>by cases h
 |t::u::r,[],x,h=>by cases h
 | t :: u :: r,d :: ds,x,h=>by
   unfold TL.of at h;split at h
   . rename_i y z h1 h2;cases h;have e1:=B6 h1;have e2:=TL.of_list h2;show⟨t,y⟩::TL.list (u::r) z=d::ds;rw[e1,e2]
   . cases h
section
variable {m:List M}{K:Hp}
theorem Lm{t:Tp}{v:SV}{x:t.den}{u:Value}(h:dtv t v=some x)(hr:SV.rel m K v u):IsV K t u x:=by
 unfold dtv at h;split at h
 . rename_i vs;replace h:=ak h;obtain⟨hs,h⟩:=h;obtain⟨us,rfl,hr⟩:=hr;split at h
   . rename_i x' hd;cases h;obtain⟨c1,c2,h1,h2,h3⟩:=cL t hd hr;obtain rfl:=aU h3;rw[Z6]at h1;subst h1;cases t <;> first|(cases hs;done)|exact⟨us,rfl,h2⟩
   . cases h
 . replace h:=eK h;obtain⟨hs,h⟩:=h;split at h
   . rename_i x' hd;cases h;obtain⟨c1,c2,h1,h2,h3⟩:=cL t hd (show SV.relL m K [v] [u]from⟨u,[],rfl,hr,rfl⟩);obtain rfl:=aU h3;rw[Z6]at h1;subst h1;cases t <;> first|(cases hs;done)|exact h2
   . cases h
theorem IS{w v:SV}{u:Value}{mu:List M}{K':Hp}(h:SV.same w v=true)(hr:SV.rel m K v u):SV.rel mu K' w u:=by
 unfold SV.same at h;split at h
 . simp only[Y1,decide_eq_true_eq]at h;obtain⟨rfl,rfl⟩:=h;exact hr
 . have:=eq_of_beq h;subst this;exact hr
 . simp only[decide_eq_true_eq]at h;subst h;exact hr
 . exact hr
 . exact hr
 . cases h
def RsR(m mu:List M)(gr:List (Option Nat))(rs:List Nat):Prop:=gr.length=rs.length/\∀j i id:Nat,gr[j]?=some (some i)->rs[j]?=some id->mu[id]?=m[i]?
theorem RsR.mono{mu ms:List M}{gr:List (Option Nat)}{rs:List Nat}(h:RsR m mu gr rs)(hi:∀i:Nat,some i∈gr->m[i]?≠none):RsR m (mu++ms) gr rs:=by
 refine⟨h.1,fun j i id h1 h2=>?_⟩;have:=h.2 j i id h1 h2;have hne:=hi i (cf0 h1);cases hm:m[i]? with
 |none=>exact absurd hm hne
 |some x=>rw[hm]at this;exact aq (ax mu ms) this
theorem RsR.snoc{mu:List M}{gr:List (Option Nat)}{rs:List Nat}(h:RsR m mu gr rs){o:Option Nat}{id:Nat}(hi:∀i,o=some i->mu[id]?=m[i]?):RsR m mu (gr++[o]) (rs++[id]):=by
 refine⟨by simp[h.1],fun j i id' h1 h2=>?_⟩
 rcases bi0 j gr.length with hj |hj|hj
 . rw[V6 hj]at h1;rw[V6 (by rw[<- h.1];exact hj)]at h2;exact h.2 j i id' h1 h2
 . subst hj;rw[V5 (X3 _),bs0]at h1;rw[V5 (by rw[h.1];exact X3 _),h.1,bs0]at h2;simp at h1 h2;subst h2;exact hi i h1
 . rw[ai0 (by simp;omega)]at h1;cases h1
def BiR(m mu:List M)(β:Nat->Option Nat)(bi:List Nat):Prop:=∀j i i':Nat,β j=some i->bi[j]?=some i'->∀x,m[i]?=some x->mu[i']?=some x
theorem BiR.mono{mu ms:List M}{β:Nat->Option Nat}{bi:List Nat}(h:BiR m mu β bi):BiR m (mu++ms) β bi:=fun j i i' h1 h2 x hx=>aq (ax mu ms) (h j i i' h1 h2 x hx)
structure GU(m:List M)(K:Hp)(β:Nat->Option Nat)(bi:List Nat)(g g':Gt)(ds1:List Dat)(un:Un->Option (SV×Un))(v:SV):Prop where
 ds:g'.ds=g.ds++ds1
 sub:∀a∈g'.H,a∈g.H
 rsm:∀i:Nat,some i∈g'.rs->m[i]?≠none
 go:∀(rest:List Dat) (mu:List M) (Hu:List HA) (rs:List Nat),BiR m mu β bi->RsR m mu g.rs rs ->
   ∃ sv ms Hu2 rs2,un ⟨ds1++rest,mu.length,Hu,rs⟩=some (sv,⟨rest,(mu++ms).length,Hu2++Hu,rs++rs2⟩)/\(∀ u,SV.rel m K v u->SV.rel (mu++ms) K sv u) /\
     (∀a∈Hu2,HA.ok (mu++ms) K a)/\RsR m (mu++ms) g'.rs (rs++rs2)/\∀E F w,Sep E K (g.H.map (HA.conc m)++F) w->Sep E K (Hu2.map (HA.conc (mu++ms))++(g'.H.map (HA.conc m)++F)) w
structure GUL(m:List M)(K:Hp)(β:Nat->Option Nat)(bi:List Nat)(g g':Gt)(ds1:List Dat)(un:Un->Option (List SV×Un))(vs:List SV):Prop where
 ds:g'.ds=g.ds++ds1
 sub:∀a∈g'.H,a∈g.H
 rsm:∀i:Nat,some i∈g'.rs->m[i]?≠none
 go:∀(rest:List Dat) (mu:List M) (Hu:List HA) (rs:List Nat),BiR m mu β bi->RsR m mu g.rs rs ->
   ∃ svs ms Hu2 rs2,un ⟨ds1++rest,mu.length,Hu,rs⟩=some (svs,⟨rest,(mu++ms).length,Hu2++Hu,rs++rs2⟩)/\(∀ us,SV.relL m K vs us->SV.relL (mu++ms) K svs us) /\
     (∀a∈Hu2,HA.ok (mu++ms) K a)/\RsR m (mu++ms) g'.rs (rs++rs2)/\∀E F w,Sep E K (g.H.map (HA.conc m)++F) w->Sep E K (Hu2.map (HA.conc (mu++ms))++(g'.H.map (HA.conc m)++F)) w
theorem GU.off{β:Nat->Option Nat}{bi:List Nat}{g g':Gt}{un:Un->Option (SV×Un)}{v w:SV}{B:Prop}(hv:v.st=w)(h:(∃ds1,GU m K β bi g g' ds1 un w)/\B):(∃ds1,GU m K β bi g g' ds1 un v)/\B:=by
 obtain⟨⟨d,h1,h2,h3,h4⟩,hB⟩:=h;refine⟨⟨d,h1,h2,h3,fun rest mu Hu rs hb hr=>?_⟩,hB⟩;obtain⟨sv,ms,Hu2,rs2,w1,w2,w3⟩:=h4 rest mu Hu rs hb hr;exact⟨sv,ms,Hu2,rs2,w1,fun u hu=>w2 u (by rw[<- hv];exact iG _ hu),w3⟩
theorem GU.still{β:Nat->Option Nat}{bi:List Nat}{g:Gt}{un:Un->Option (SV×Un)}{v:SV}(hrs:∀i:Nat,some i∈g.rs->m[i]?≠none)
   (h:∀(mu:List M) (rs:List Nat),BiR m mu β bi->RsR m mu g.rs rs->∃sv,(∀ds nx H,un ⟨ds,nx,H,rs⟩=some (sv,⟨ds,nx,H,rs⟩))/\∀u,SV.rel m K v u->SV.rel mu K sv u):GU m K β bi g g [] un v where
 ds:=by simp
 sub:=fun a h=>h
 rsm:=hrs
 go:=fun rest mu Hu rs hb hr=>by
   obtain⟨sv,h1,h2⟩:=h mu rs hb hr;exact⟨sv,[],[],[],by simpa using h1 rest mu.length Hu,by simpa using h2,by simp,by simpa using hr,fun E F w hs=>by simpa using hs⟩
theorem dE{g g':Gt}{j i:Nat}(h:g.bind j i=some g'):g'.ds=g.ds/\g'.rs=g.rs/\g'.H=g.H/\aB g'.bm j=some i/\∀j' i',aB g.bm j'=some i'->aB g'.bm j'=some i':=by
 unfold Gt.bind at h;split at h
 . rename_i i0 h0;replace h:=ak h;obtain⟨hb,h⟩:=h;cases h;have:=Y0 hb;subst this;exact⟨rfl,rfl,rfl,h0,fun _ _ h=>h⟩
 . rename_i h0;cases h;refine⟨rfl,rfl,rfl,by simp[aB],fun j' i' h=>?_⟩;show (bif Y3 j j' then some i else aB g.bm j')=some i';cases hb:Y3 j j' with
   |true=>have:=Y0 hb;subst this;rw[h0]at h;cases h
   |false=>exact h
theorem GU.bound{β:Nat->Option Nat}{bi:List Nat}{g g':Gt}{j i:Nat}{un:Un->Option (SV×Un)}{v:SV}(hb:g.bind j i=some g')(hβ:∀j i,aB g'.bm j=some i->β j=some i)(hbi:∀j i,β j=some i->∃i',bi[j]?=some i')(hrs:∀i:Nat,some i∈g.rs->m[i]?≠none)
   (h:∀(i':Nat) (mu:List M),bi[j]?=some i'->(∀x,m[i]?=some x->mu[i']?=some x)->∃sv,(∀u:Un,un u=some (sv,u))/\∀u,SV.rel m K v u->SV.rel mu K sv u):GU m K β bi g g' [] un v:=by
 obtain⟨b1,b2,b3,b4,b5⟩:=dE hb;have hj:=hβ j i b4;obtain⟨i',hi'⟩:=hbi j i hj;refine⟨by simp[b1],fun a ha=>by rw[<- b3];exact ha,fun i hi=>hrs i (by rw[<- b2];exact hi),fun rest mu Hu rs hbr hr=>?_⟩;obtain⟨sv,h1,h2⟩:=h i' mu hi' (hbr j i i' hj hi');refine⟨sv,[],[],[],by simpa using h1 ⟨rest,mu.length,Hu,rs⟩,by simpa using h2,by simp,by rw[b2];simpa using hr,fun E F w hs=>by rw[b3];simpa using hs⟩
mutual
theorem ro:∀(k:Kd) {v:SV} {g g':Gt},Kd.get k v g=some g'->∀j i,aB g.bm j=some i->aB g'.bm j=some i
 |.any,v,g,g',h=>by cases h;exact fun _ _ h=>h
 | .dat t,v,g,g',h=>by
   unfold Kd.get at h;split at h
   . cases h;exact fun _ _ h=>h
   . cases h
 |.nilp,v,g,g',h=>by unfold Kd.get at h;split at h <;> first|(cases h;done)|(cases h;exact fun _ _ h=>h)
 |.nils,v,g,g',h=>by unfold Kd.get at h;split at h <;> first|(cases h;done)|(cases h;exact fun _ _ h=>h)
 |.nilf,v,g,g',h=>by unfold Kd.get at h;split at h <;> first|(cases h;done)|(cases h;exact fun _ _ h=>h)
 | .ptr j o,v,g,g',h=>by
   unfold Kd.get at h;split at h
   . replace h:=ak h;exact (dE h.2).2.2.2.2
   . cases h
 | .own e t,v,g,g',h=>by
   unfold Kd.get at h;split at h
   . split at h
     . replace h:=(ak h).2;split at h
       . cases h;exact fun _ _ h=>h
       . cases h
     . cases h
   . cases h;exact fun _ _ h=>h
   . cases h
 | .al j,v,g,g',h=>by
   unfold Kd.get at h;split at h
   . replace h:=(ak h).2;cases h;exact fun _ _ h=>h
   . cases h
 | .fsl j k,v,g,g',h=>by
   unfold Kd.get at h;split at h
   . replace h:=ak h;exact (dE h.2).2.2.2.2
   . cases h
 | .agg ks,v,g,g',h=>by
   unfold Kd.get at h;split at h
   . exact fh ks h
   . cases h
 | .tup ks,v,g,g',h=>by
   unfold Kd.get at h;split at h
   . exact fh ks h
   . cases h
 | .fn f ks,v,g,g',h=>by
   unfold Kd.get at h;split at h
   . exact fh ks (ak h).2
   . cases h
 | .lit w,v,g,g',h=>by
   unfold Kd.get at h;replace h:=(ak h).2;cases h;exact fun _ _ h=>h
 | .od o,v,g,g',h=>by
   unfold Kd.get at h;replace h:=(ak h).2;split at h
   . cases h;exact fun _ _ h=>h
   . cases h
 | .rp j,v,g,g',h=>by
   unfold Kd.get at h;split at h
   . exact (dE h).2.2.2.2
   . cases h
 | .kat t o,v,g,g',h=>by
   unfold Kd.get at h;split at h
   . replace h:=(ak h).2;split at h
     . cases h;exact fun _ _ h=>h
     . cases h
   . cases h
 | .ifc t k,v,g,g',h=>by
   unfold Kd.get at h;split at h
   . exact ro k (ak h).2
   . cases h
 | .is j0 k,v,g,g',h=>by
   unfold Kd.get at h;split at h
   . split at h
     . rename_i g1 hb;exact fun j i hj=>ro k h j i ((dE hb).2.2.2.2 j i hj)
     . cases h
   . cases h
theorem fh:∀(ks:List Kd) {vs:List SV} {g g':Gt},Kd.getL ks vs g=some g'->∀j i,aB g.bm j=some i->aB g'.bm j=some i
 | [],vs,g,g',h=>by
   unfold Kd.getL at h;split at h
   . cases h;exact fun _ _ h=>h
   . cases h
 | k :: ks,vs,g,g',h=>by
   unfold Kd.getL at h;split at h
   . split at h
     . rename_i hg1;exact fun j i hj=>fh ks h j i (ro k hg1 j i hj)
     . cases h
   . cases h
end
mutual
theorem get_un{β:Nat->Option Nat}{bi:List Nat}(hbi:∀j i,β j=some i->∃i',bi[j]?=some i'):∀(k:Kd) {v:SV} {g g':Gt},Kd.get k v g=some g'->(∀a∈g.H,HA.ok m K a)->(∀i:Nat,some i∈g.rs->m[i]?≠none)->(∀j i,aB g'.bm j=some i->β j=some i) ->
   (∃ds1,GU m K β bi g g' ds1 (Kd.un bi k) v)/\∀j i,aB g.bm j=some i->aB g'.bm j=some i
 | .any,v,g,g',h,hok,hrs,hβ=>by
   cases h;exact⟨⟨[],GU.still hrs (fun mu rs _ _=>⟨.any,fun _ _ _=>rfl,fun _ _=>trivial⟩)⟩,fun _ _ h=>h⟩
 | .dat t,v,g,g',h,hok,hrs,hβ=>by
   unfold Kd.get at h;generalize hv:v.st=v' at h;refine GU.off hv ?_;clear hv;clear v;split at h
   . rename_i x hx;cases h;refine⟨⟨[⟨t,x⟩],rfl,fun a h=>h,hrs,fun rest mu Hu rs hb hr=>⟨.of t x,[],[],[],by simp[Kd.un],fun u hu=>rC t (by simpa using Lm hx hu),by simp,by simpa using hr,fun E F w hs=>by simpa using hs⟩⟩,fun _ _ h=>h⟩
   . cases h
 | .nilp,v,g,g',h,hok,hrs,hβ=>by
   unfold Kd.get at h;generalize hv:v.st=v' at h;refine GU.off hv ?_;clear hv;clear v;split at h
   . cases h;exact⟨⟨[],GU.still hrs (fun mu rs _ _=>⟨.nilp,fun _ _ _=>rfl,fun _ h=>h⟩)⟩,fun _ _ h=>h⟩
   . cases h
 | .nils,v,g,g',h,hok,hrs,hβ=>by
   unfold Kd.get at h;generalize hv:v.st=v' at h;refine GU.off hv ?_;clear hv;clear v;split at h
   . cases h;exact⟨⟨[],GU.still hrs (fun mu rs _ _=>⟨.nils,fun _ _ _=>rfl,fun _ h=>h⟩)⟩,fun _ _ h=>h⟩
   . cases h
 | .nilf,v,g,g',h,hok,hrs,hβ=>by
   unfold Kd.get at h;generalize hv:v.st=v' at h;refine GU.off hv ?_;clear hv;clear v;split at h
   . cases h;exact⟨⟨[],GU.still hrs (fun mu rs _ _=>⟨.raw .nilFunc,fun _ _ _=>rfl,fun _ h=>h⟩)⟩,fun _ _ h=>h⟩
   . cases h
 | .ptr j o,v,g,g',h,hok,hrs,hβ=>by
   unfold Kd.get at h;generalize hv:v.st=v' at h;refine GU.off hv ?_;clear hv;clear v;split at h
   . rename_i i o';replace h:=ak h;obtain⟨ho,h⟩:=h;have ho:=Y0 ho;subst ho;refine⟨⟨[],GU.bound h hβ hbi hrs (fun i' mu hi' hmu=>⟨.ptr i' o,fun u=>by simp[Kd.un,hi'],fun u ⟨b,h1,h2⟩=>⟨b,hmu _ h1,h2⟩⟩)⟩,(dE h).2.2.2.2⟩
   . cases h
 | .own e t, v, g, g', h, hok, hrs, hβ => by
   unfold Kd.get at h;generalize hv:v.st=v' at h;refine GU.off hv ?_;clear hv;clear v;split at h
   . rename_i i;split at h
     . rename_i q H hq;replace h:=ak h;obtain⟨he,h⟩:=h;have he:=Y0 he;split at h
       . rename_i hsm _;cases h;obtain⟨a,ha,hmem,hperm⟩:=bJ hq;obtain rfl:=bP ha;obtain⟨c0,e0,t0,l0,n0⟩:=q;obtain⟨hsm⟩:=hsm;change e0=e at he;change t0=t at hsm;subst hsm he;change HA.row i c0 e0 t0 l0 n0∈g.H at hmem;change g.H.Perm (HA.row i c0 e0 t0 l0 n0::H)at hperm;obtain⟨ad,cap,cs,g1,g2,g3,g4,g5,g6⟩:=HA.ok_row (hok _ hmem);obtain⟨_,_,_,k1,_,_,_,k5,k6,_⟩:=hok _ hmem;rw[g1]at k1;simp only[Z3,M.val.injEq,Value.slice.injEq]at k1;obtain⟨rfl,_,rfl⟩:=k1;refine⟨⟨[⟨.sl t0,l0⟩],rfl,fun a ha=>hperm.symm.subset (W5 _ ha),fun i' hi'=>?_,fun rest mu Hu rs hb hr=>?_⟩,fun _ _ h=>h⟩
         . rcases V3.1 hi' with hi'|hi'
           . exact hrs i' hi'
           . simp at hi';subst hi';rw[g1];simp
         . have q0:(mu++[.val (.slice ad n0 cap),.cont t0 l0 cs])[mu.length]?=some (.val (.slice ad n0 cap)):=aR rfl;have q1:(mu++[.val (.slice ad n0 cap),.cont t0 l0 cs])[mu.length+1]?=some (.cont t0 l0 cs):=d9 (k:=1) rfl;refine⟨.own mu.length,[.val (.slice ad n0 cap),.cont t0 l0 cs],[.row mu.length (mu.length+1) e0 t0 l0 l0.length],[mu.length],by simp[Kd.un],fun u hu=>?_,fun a ha=>?_,?_,fun E F w hs=>?_⟩
           . have h1:=hu.1;rw[g1]at h1;exact⟨by rw[q0];exact h1,hu.2⟩
           . simp only[Y2]at ha;subst ha;exact⟨ad,cap,cs,by rw[g4];exact q0,q1,g3,rfl,by rw[g4];exact k5,k6,g5⟩
           . exact (hr.mono (fun i hi=>hrs i hi)).snoc (fun i' hi'=>by cases hi';rw[q0,g1])
           . have:=Sep.perm ((hperm.map (HA.conc m)).append_right F) hs;simp only[X5,g6]at this;simp only[X5,aS0,HA.conc,q0,q1,g4];exact this
       . cases h
     . cases h
   . cases h;refine⟨⟨[⟨.sl t,([]:List t.den)⟩],rfl,fun a ha=>ha,fun i' hi'=>?_,fun rest mu Hu rs hb hr=>?_⟩,fun _ _ h=>h⟩
     . rcases V3.1 hi' with hi'|hi'
       . exact hrs i' hi'
       . simp at hi'
     . have q0:(mu++[.val (.slice none 0 0),.cont t ([]:List t.den) []])[mu.length]?=some (.val (.slice none 0 0)):=aR rfl;have q1:(mu++[.val (.slice none 0 0),.cont t ([]:List t.den) []])[mu.length+1]?=some (.cont t ([]:List t.den) []):=d9 (k:=1) rfl;refine⟨.own mu.length,[.val (.slice none 0 0),.cont t ([]:List t.den) []],[.row mu.length (mu.length+1) e t ([]:List t.den) 0],[mu.length],by simp[Kd.un],fun u hu=>?_,fun a ha=>?_,?_,fun E F w hs=>?_⟩
       . simp only[SV.rel]at hu;subst hu;exact⟨q0,rfl⟩
       . simp only[Y2]at ha;subst ha;exact⟨none,0,[],q0,q1,rfl,rfl,X3 _,ah0 _,fun h=>absurd rfl h⟩
       . exact (hr.mono (fun i hi=>hrs i hi)).snoc (fun i' hi'=>by cases hi')
       . simp only[X5,aS0,HA.conc,q0,q1];refine (Sep.emp hs).mono (fun h0 e0=>?_);exact⟨by simp,.inl ⟨rfl,rfl,e0⟩⟩
   . cases h
 | .al j,v,g,g',h,hok,hrs,hβ=>by
   unfold Kd.get at h;generalize hv:v.st=v' at h;refine GU.off hv ?_;clear hv;clear v;split at h
   . rename_i i i' hj;replace h:=ak h;obtain⟨hb,h⟩:=h;have hb:=Y0 hb;subst hb;cases h;refine⟨⟨[],GU.still hrs (fun mu rs _ hr=>?_)⟩,fun _ _ h=>h⟩;have hlt:j<rs.length:=by rw[<- hr.1];exact (V4.1 hj).1
     have hid:rs[j]?=some rs[j]:=Z0 hlt;refine⟨.own rs[j],fun _ _ _=>by simp[Kd.un,hid],fun u hu=>⟨?_,hu.2⟩⟩;rw[hr.2 j i' rs[j] hj hid];exact hu.1
   . cases h
 | .fsl j k,v,g,g',h,hok,hrs,hβ=>by
   unfold Kd.get at h;generalize hv:v.st=v' at h;refine GU.off hv ?_;clear hv;clear v;split at h
   . rename_i i o';replace h:=ak h;obtain⟨ho,h⟩:=h;have ho:=Y0 ho;subst ho;refine⟨⟨[],GU.bound h hβ hbi hrs (fun i' mu hi' hmu=>⟨.fsl i' k,fun u=>by simp[Kd.un,hi'],fun u ⟨b,h1,h2⟩=>⟨b,hmu _ h1,h2⟩⟩)⟩,(dE h).2.2.2.2⟩
   . cases h
 | .agg ks,v,g,g',h,hok,hrs,hβ=>by
   unfold Kd.get at h;split at h
   . rename_i vs;obtain⟨⟨ds1,q1,q2,q3,q4⟩,q5⟩:=j6 hbi ks h hok hrs hβ;refine⟨⟨ds1,q1,q2,q3,fun rest mu Hu rs hb hr=>?_⟩,q5⟩;obtain⟨svs,ms,Hu2,rs2,w1,w2,w3⟩:=q4 rest mu Hu rs hb hr;exact⟨.agg svs,ms,Hu2,rs2,by simp[Kd.un,w1],fun u ⟨us,h1,h2⟩=>⟨us,h1,w2 us h2⟩,w3⟩
   . cases h
 | .tup ks,v,g,g',h,hok,hrs,hβ=>by
   unfold Kd.get at h;split at h
   . rename_i vs;obtain⟨⟨ds1,q1,q2,q3,q4⟩,q5⟩:=j6 hbi ks h hok hrs hβ;refine⟨⟨ds1,q1,q2,q3,fun rest mu Hu rs hb hr=>?_⟩,q5⟩;obtain⟨svs,ms,Hu2,rs2,w1,w2,w3⟩:=q4 rest mu Hu rs hb hr;exact⟨.tup svs,ms,Hu2,rs2,by simp[Kd.un,w1],fun u ⟨us,h1,h2⟩=>⟨us,h1,w2 us h2⟩,w3⟩
   . cases h
 | .fn f ks,v,g,g',h,hok,hrs,hβ=>by
   unfold Kd.get at h;split at h
   . rename_i f' vs;replace h:=ak h;obtain⟨hf,h⟩:=h;have hf:=Y0 hf;subst hf;obtain⟨⟨ds1,q1,q2,q3,q4⟩,q5⟩:=j6 hbi ks h hok hrs hβ;refine⟨⟨ds1,q1,q2,q3,fun rest mu Hu rs hb hr=>?_⟩,q5⟩;obtain⟨svs,ms,Hu2,rs2,w1,w2,w3⟩:=q4 rest mu Hu rs hb hr;exact⟨.fn f svs,ms,Hu2,rs2,by simp[Kd.un,w1],fun u ⟨us,h1,h2⟩=>⟨us,h1,w2 us h2⟩,w3⟩
   . cases h
 | .kat t o,v,g,g',h,hok,hrs,hβ=>by
   unfold Kd.get at h;generalize hv:v.st=v' at h;refine GU.off hv ?_;clear hv;clear v;split at h
   . rename_i t' x o';replace h:=ak h;obtain⟨hf,h⟩:=h;obtain rfl:=Y0 hf;split at h
     . rename_i q _;obtain⟨q⟩:=q;subst q;cases h;refine⟨⟨[⟨t',x⟩],rfl,fun a h=>h,hrs,fun rest mu Hu rs hb hr=>⟨.kat t' x o,[],[],[],?_,fun u hu=>?_,by simp,by simpa using hr,fun E F w hs=>by simpa using hs⟩⟩,fun _ _ h=>h⟩
       . rw[Z6];show Kd.un bi (.kat t' o) ⟨⟨t',x⟩::rest,mu.length,Hu,rs⟩=_;unfold Kd.un;dsimp only;rw[rb];simp
       . rw[Z6];exact hu
     . cases h
   . cases h
 | .ifc t k,v,g,g',h,hok,hrs,hβ=>by
   unfold Kd.get at h;generalize hv:v.st=v' at h;refine GU.off hv ?_;clear hv;clear v;split at h
   . replace h:=ak h;obtain⟨hf,h⟩:=h;obtain rfl:=Y0 hf;obtain⟨⟨ds1,q1,q2,q3,q4⟩,q5⟩:=get_un hbi k h hok hrs hβ;refine⟨⟨ds1,q1,q2,q3,fun rest mu Hu rs hb hr=>?_⟩,q5⟩;obtain⟨sv,ms,Hu2,rs2,w1,w2,w3⟩:=q4 rest mu Hu rs hb hr;exact⟨.ifc t sv,ms,Hu2,rs2,by simp[Kd.un,w1],fun u ⟨w,h1,h2⟩=>⟨w,h1,w2 w h2⟩,w3⟩
   . cases h
 | .lit w,v,g,g',h,hok,hrs,hβ=>by
   unfold Kd.get at h;replace h:=ak h;obtain⟨hs,h⟩:=h;cases h;exact⟨⟨[],GU.still hrs (fun mu rs _ _=>⟨w,fun _ _ _=>rfl,fun u hu=>IS hs (iG _ hu)⟩)⟩,fun _ _ h=>h⟩
 | .od o,v,g,g',h,hok,hrs,hβ=>by
   unfold Kd.get at h;generalize hv:v.st=v' at h;refine GU.off hv ?_;clear hv;clear v;replace h:=ak h;obtain⟨hnl,h⟩:=h;split at h
   . rename_i x H hcol;cases h;obtain⟨u0,e1,e2,e3,e4⟩:=Kv hnl hcol hok;refine⟨⟨[⟨o.tp,x⟩],rfl,e3,hrs,fun rest mu Hu rs hb hr=>?_⟩,fun _ _ h=>h⟩;have q0:(mu++[.val u0,.hp K])[mu.length]?=some (.val u0):=aR rfl;have q1:(mu++[.val u0,.hp K])[mu.length+1]?=some (.hp K):=d9 (k:=1) rfl;refine⟨.own mu.length,[.val u0,.hp K],[.od mu.length (mu.length+1) o x],[],by simp[Kd.un,hnl,rb],fun u hu=>?_,fun a ha=>?_,?_,fun E F w hs=>?_⟩
     . rw[e1 u hu];exact⟨q0,fa e2⟩
     . simp only[Y2]at ha;subst ha;exact⟨u0,K,q0,q1,KOk.refl,e2⟩
     . rw[Z6];exact hr.mono (fun i hi=>hrs i hi)
     . simp only[X5,aS0,HA.conc,q0,q1];exact e4 hs
   . cases h
 | .rp j,v,g,g',h,hok,hrs,hβ=>by
   unfold Kd.get at h;generalize hv:v.st=v' at h;refine GU.off hv ?_;clear hv;clear v;split at h
   . rename_i i;refine⟨⟨[],GU.bound h hβ hbi hrs (fun i' mu hi' hmu=>⟨.own i',fun u=>by simp[Kd.un,hi'],fun u ⟨h1,h2⟩=>⟨hmu _ h1,h2⟩⟩)⟩,(dE h).2.2.2.2⟩
   . cases h
 | .is j0 k,v,g,g',h,hok,hrs,hβ=>by
   unfold Kd.get at h;split at h
   . rename_i i0 w;split at h
     . rename_i g1 hb1;obtain⟨b1,b2,b3,b4,b5⟩:=dE hb1;obtain⟨⟨ds1,q1,q2,q3,q4⟩,q5⟩:=get_un hbi k h (by rw[b3];exact hok) (by rw[b2];exact hrs) hβ;have hj:=hβ j0 i0 (q5 _ _ b4);obtain⟨i',hi'⟩:=hbi j0 i0 hj;refine⟨⟨ds1,by rw[q1,b1],fun a ha=>by rw[<- b3];exact q2 a ha,q3,fun rest mu Hu rs hb hr=>?_⟩,fun j i hj'=>q5 j i (b5 j i hj')⟩;obtain⟨sv,ms,Hu2,rs2,w1,w2,w3,w4,w5⟩:=q4 rest mu Hu rs hb (by rw[b2];exact hr);refine⟨.is i' sv,ms,Hu2,rs2,by unfold Kd.un;simp only[hi',w1],fun u hu=>⟨aq (ax mu ms) (hb j0 i0 i' hj hi' _ hu.1),w2 u hu.2⟩,w3,w4,by rw[b3]at w5;exact w5⟩
     . cases h
   . cases h
theorem j6 {β:Nat->Option Nat} {bi:List Nat} (hbi:∀ j i,β j=some i->∃ i',bi[j]? = some i'):∀ (ks:List Kd) {vs:List SV} {g g':Gt},Kd.getL ks vs g=some g'->(∀ a∈g.H,HA.ok m K a)->(∀ i:Nat,some i∈g.rs->m[i]?≠none)->(∀ j i,aB g'.bm j=some i->β j=some i) ->
   (∃ds1,GUL m K β bi g g' ds1 (Kd.unL bi ks) vs)/\∀j i,aB g.bm j=some i->aB g'.bm j=some i
 | [],vs,g,g',h,hok,hrs,hβ=>by
   unfold Kd.getL at h;split at h
   . cases h;exact⟨⟨[],by simp,fun a h=>h,hrs,fun rest mu Hu rs hb hr=>⟨[],[],[],[],by simp[Kd.unL],fun us h=>h,by simp,by simpa using hr,fun E F w hs=>by simpa using hs⟩⟩,fun _ _ h=>h⟩
   . cases h
 | k :: ks,vs,g,g',h,hok,hrs,hβ=>by
   unfold Kd.getL at h;split at h
   . rename_i v vs;split at h
     . rename_i g1 hg1;have pre:=fh ks h;obtain⟨⟨d1,a1,a2,a3,a4⟩,a5⟩:=get_un hbi k hg1 hok hrs (fun j i hj=>hβ j i (pre j i hj));obtain⟨⟨d2,c1,c2,c3,c4⟩,c5⟩:=j6 hbi ks h (fun a ha=>hok a (a2 a ha)) a3 hβ;refine⟨⟨d1++d2,by rw[c1,a1];simp,fun a ha=>a2 a (c2 a ha),c3,fun rest mu Hu rs hb hr=>?_⟩,fun j i hj=>pre j i (a5 j i hj)⟩;obtain⟨sv,ms1,Hu1,rs1,w1,w2,w3,w4,w5⟩:=a4 (d2++rest) mu Hu rs hb hr;obtain⟨svs,ms2,Hu2,rs2,x1,x2,x3,x4,x5⟩:=c4 rest (mu++ms1) (Hu1++Hu) (rs++rs1) hb.mono w4;have hp:=ax (mu++ms1) ms2;refine⟨sv::svs,ms1++ms2,Hu2++Hu1,rs1++rs2,?_,fun us hu=>?_,fun a ha=>?_,?_,fun E F w hs=>?_⟩
       . unfold Kd.unL;rw[X1,w1];simp only[x1,X1]
       . obtain⟨u,q,rfl,h1,h2⟩:=aM hu;rw[<- X1];exact⟨u,q,rfl,SV.mono (fun _ _ k=>aq hp k) (Hp.le_refl K) _ (w2 u h1),x2 q h2⟩
       . rw[<- X1]
         rcases V3.1 ha with ha|ha
         . exact x3 a ha
         . exact HA.ok_mono (fun _ _ k=>aq hp k) (Hp.le_refl K) (w3 a ha)
       . rw[<- X1,<- X1];exact x4
       . have s1:=w5 E F w hs;have s2:Sep E K (g1.H.map (HA.conc m)++(Hu1.map (HA.conc (mu++ms1))++F)) w:=Sep.perm (by
           rw[<- X1,<- X1];exact (bv0).append_right F) s1
         have s3:=x5 E _ w s2;rw[<- X1 mu ms1 ms2,X6,dz (K:=K) (fun _ _ k=>aq hp k) w3];refine Sep.perm ?_ s3;simp only[X1];refine cG0 _ ?_;rw[<- X1,<- X1];exact (bv0).append_right F
     . cases h
   . cases h
end
end
end
section
variable [BldA]
section
variable {m:List M}{K:Hp}
def slC(m:List M)(K:Hp)(f:Nat->SV)(mu:List M):List (Nat×Kd)->List (Nat×SV)->Prop
 |[],vs=>vs=[]
 |p::sl,vs=>∃sv r,vs=(p.1,sv)::r/\(∀u,SV.rel m K (f p.1) u->SV.rel mu K sv u)/\slC m K f mu sl r
theorem slC.mono{f:Nat->SV}{mu ms:List M}:∀{sl:List (Nat×Kd)} {vs:List (Nat×SV)},slC m K f mu sl vs->slC m K f (mu++ms) sl vs
 |[],vs,h=>h
 |p::sl,vs,⟨sv,r,h1,h2,h3⟩=>⟨sv,r,h1,fun u hu=>SV.mono (fun _ _ k=>aq (ax mu ms) k) (Hp.le_refl K) _ (h2 u hu),h3.mono⟩
theorem BN{f:Nat->SV}:∀(sl:List (Nat×Kd)) {g g':Gt},kO f sl g=some g'->∀j i,aB g.bm j=some i->aB g'.bm j=some i
 |[],g,g',h=>by cases h;exact fun _ _ h=>h
 | p :: sl,g,g',h=>by
   unfold kO at h;split at h
   . rename_i g1 hg1;exact fun j i hj=>BN sl h j i (ro p.2 hg1 j i hj)
   . cases h
structure GW(m:List M)(K:Hp)(β:Nat->Option Nat)(bi:List Nat)(g g':Gt)(ds1:List Dat){α:Type}(un:Un->Option (α×Un))(Q:List M->α->Prop):Prop where
 ds:g'.ds=g.ds++ds1
 sub:∀a∈g'.H,a∈g.H
 rsm:∀i:Nat,some i∈g'.rs->m[i]?≠none
 go:∀(rest:List Dat) (mu:List M) (Hu:List HA) (rs:List Nat),BiR m mu β bi->RsR m mu g.rs rs ->
   ∃ x ms Hu2 rs2,un ⟨ds1++rest,mu.length,Hu,rs⟩=some (x,⟨rest,(mu++ms).length,Hu2++Hu,rs++rs2⟩)/\Q (mu++ms) x /\
     (∀a∈Hu2,HA.ok (mu++ms) K a)/\RsR m (mu++ms) g'.rs (rs++rs2)/\∀E F w,Sep E K (g.H.map (HA.conc m)++F) w->Sep E K (Hu2.map (HA.conc (mu++ms))++(g'.H.map (HA.conc m)++F)) w
theorem JP{E:En}{F:List ah}{w:World}{A B C D C':List ah}(h:∀F,Sep E K (A++F) w->Sep E K (B++(C++F)) w)(k:∀F,Sep E K (C++F) w->Sep E K (D++(C'++F)) w)(hs:Sep E K (A++F) w):Sep E K (D++(C'++(B++F))) w:=by
 have s1:=h F hs;have s2:Sep E K (C++(B++F)) w:=Sep.perm (by
   rw[<- X1,<- X1];exact (bv0).append_right F) s1
 exact k _ s2
theorem GW.two{β:Nat->Option Nat}{bi:List Nat}{g g1 g':Gt}{d1 d2:List Dat}{α α':Type}{un1:Un->Option (α×Un)}{un2:Un->Option (α'×Un)}{Q1:List M->α->Prop}{Q2:List M->α'->Prop}
   (h1:GW m K β bi g g1 d1 un1 Q1) (h2:GW m K β bi g1 g' d2 un2 Q2) {γ:Type} (un:Un->Option (γ×Un)) (f:α->α'->γ) {Q:List M->γ->Prop}
   (hun:∀u x u1 y u2,un1 u=some (x,u1)->un2 u1=some (y,u2)->un u=some (f x y,u2)) (hQ:∀mu ms x y,Q1 mu x->Q2 (mu++ms) y->Q (mu++ms) (f x y)):GW m K β bi g g' (d1++d2) un Q where
 ds:=by rw[h2.ds,h1.ds];simp
 sub:=fun a ha=>h1.sub a (h2.sub a ha)
 rsm:=h2.rsm
 go:=fun rest mu Hu rs hb hr=>by
   obtain⟨x,ms1,Hu1,rs1,w1,w2,w3,w4,w5⟩:=h1.go (d2++rest) mu Hu rs hb hr;obtain⟨y,ms2,Hu2,rs2,x1,x2,x3,x4,x5⟩:=h2.go rest (mu++ms1) (Hu1++Hu) (rs++rs1) hb.mono w4;have hp:=ax (mu++ms1) ms2;refine⟨f x y,ms1++ms2,Hu2++Hu1,rs1++rs2,?_,?_,fun a ha=>?_,?_,fun E F w hs=>?_⟩
   . rw[X1,hun _ _ _ _ _ w1 x1];simp
   . rw[<- X1];exact hQ _ _ _ _ w2 x2
   . rw[<- X1]
     rcases V3.1 ha with ha|ha
     . exact x3 a ha
     . exact HA.ok_mono (fun _ _ k=>aq hp k) (Hp.le_refl K) (w3 a ha)
   . rw[<- X1,<- X1];exact x4
   . have:=JP (fun F=>w5 E F w) (fun F=>x5 E F w) hs;rw[<- X1 mu ms1 ms2,X6,dz (K:=K) (fun _ _ k=>aq hp k) w3];refine Sep.perm ?_ this;simp only[X1];refine cG0 _ ?_;rw[<- X1,<- X1];exact (bv0).append_right F
theorem GU.gw{β:Nat->Option Nat}{bi:List Nat}{g g':Gt}{d1:List Dat}{un:Un->Option (SV×Un)}{v:SV}(h:GU m K β bi g g' d1 un v):GW m K β bi g g' d1 un (fun mu sv=>∀u,SV.rel m K v u->SV.rel mu K sv u):=⟨h.ds,h.sub,h.rsm,h.go⟩
theorem GW.nil{β:Nat->Option Nat}{bi:List Nat}{g:Gt}{α:Type}{un:Un->Option (α×Un)}{Q:List M->α->Prop}{x:α}(hrs:∀i:Nat,some i∈g.rs->m[i]?≠none)(hun:∀u,un u=some (x,u))(hQ:∀mu,Q mu x):GW m K β bi g g [] un Q where
 ds:=by simp
 sub:=fun a h=>h
 rsm:=hrs
 go:=fun rest mu Hu rs hb hr=>⟨x,[],[],[],by simp[hun],hQ _,by simp,by simpa using hr,fun E F w hs=>by simpa using hs⟩
theorem BJ{f:Nat->SV}{β:Nat->Option Nat}{bi:List Nat}(hbi:∀j i,β j=some i->∃i',bi[j]?=some i'):∀(sl:List (Nat×Kd)) {g g':Gt},kO f sl g=some g'->(∀a∈g.H,HA.ok m K a)->(∀i:Nat,some i∈g.rs->m[i]?≠none)->(∀j i,aB g'.bm j=some i->β j=some i) ->
   ∃ds1,GW m K β bi g g' ds1 (unS bi sl) (fun mu vs=>slC m K f mu sl vs)
 |[],g,g',h,hok,hrs,hβ=>by cases h;exact⟨[],GW.nil hrs (fun u=>rfl) (fun mu=>rfl)⟩
 | p :: sl,g,g',h,hok,hrs,hβ=>by
   unfold kO at h;split at h
   . rename_i g1 hg1;obtain⟨⟨d1,h1⟩,_⟩:=get_un hbi p.2 hg1 hok hrs (fun j i hj=>hβ j i (BN sl h j i hj));obtain⟨d2,h2⟩:=BJ hbi sl h (fun a ha=>hok a (h1.sub a ha)) h1.rsm hβ;refine⟨d1++d2,h1.gw.two h2 (unS bi (p::sl)) (fun x y=>(p.1,x)::y) (fun u x u1 y u2 e1 e2=>by unfold unS;rw[e1];simp only[e2]) (fun mu ms x y q1 q2=>?_)⟩;exact⟨x,y,rfl,fun u hu=>SV.mono (fun _ _ k=>aq (ax mu ms) k) (Hp.le_refl K) _ (q1 u hu),q2⟩
   . cases h
theorem F6 {j:Nat} {b:Bk} {g g':Gt} (h:nq j b g=some g'):(∀ j' i,aB g.bm j'=some i->aB g'.bm j'=some i)/\(∀ i,b.old=some i->aB g'.bm j=some i)/\(∃ i,aB g'.bm j=some i):=by
 unfold nq at h;split at h
 . rename_i g1 h1;have hb:(∀j' i,aB g.bm j'=some i->aB g1.bm j'=some i)/\(∀i,b.old=some i->aB g1.bm j=some i):=by
     split at h1
     . rename_i i0 ho;obtain⟨_,_,_,q1,q2⟩:=dE h1;exact⟨q2,fun i hi=>by rw[ho]at hi;cases hi;exact q1⟩
     . rename_i ho;cases h1;exact⟨fun _ _ h=>h,fun i hi=>by rw[ho]at hi;cases hi⟩
   split at h
   . rename_i i0 hi;have key:∀j' i,aB g1.bm j'=some i->aB g'.bm j'=some i:=by
       cases hnu:b.nu with
       | true =>
         rw[hnu]at h;simp only[cond_true]at h;cases h;exact fun _ _ h=>h
       |false =>
       rw[hnu]at h;simp only[cond_false]at h;cases hlp:b.lp with
       | true =>
         rw[hlp]at h;simp only[cond_true]at h;split at h
         . cases h;exact fun _ _ h=>h
         . cases h
       |false =>
       rw[hlp]at h;simp only[cond_false]at h;cases hrw:b.rw with
       | some o =>
         rw[hrw]at h;simp only at h;cases hbu:b.bu with
         | true =>
           rw[hbu]at h;simp only[cond_true]at h;split at h
           . replace h:=(ak h).2;split at h
             . exact fun j' i hj=>fh b.ks h j' i hj
             . cases h
           . cases h
         |false =>
         rw[hbu]at h;simp only[cond_false]at h;split at h
         . cases h;exact fun _ _ h=>h
         . cases h
       |none =>
       rw[hrw]at h;simp only at h;cases hbu:b.bu with
       | true =>
         rw[hbu]at h;simp only[cond_true]at h;split at h
         . cases h;exact fun _ _ h=>h
         . cases h
       | false =>
         rw[hbu]at h;simp only[cond_false]at h;split at h
         . exact fun j' i hj=>fh b.ks (ak h).2 j' i hj
         . cases h
     exact⟨fun j' i h=>key j' i (hb.1 j' i h),fun i h=>key j i (hb.2 i h),i0,key j i0 hi⟩
   . cases h
 . cases h
theorem LJ{i:Nat}{o:OT}{x:o.tp.den}{H H':List HA}(hp:eE i o H=some (x,H'))(hok:∀a∈H,HA.ok m K a):∃(y:M),(∀a∈H',a∈H) /\
   (∀(mu:List M) (id:Nat),(∀z,m[i]?=some z->mu[id]?=some z)->HA.ok (mu++[y]) K (OT.at1 id mu.length o x)) /\
   (∀(mu:List M) (id:Nat),(∀z,m[i]?=some z->mu[id]?=some z)->∀{E:En} {w:World} {F:List ah},Sep E K (H.map (HA.conc m)++F) w->Sep E K ([OT.at1 id mu.length o x].map (HA.conc (mu++[y]))++(H'.map (HA.conc m)++F)) w)/\True:=by
 have main:∀{o:OT} {x:o.tp.den},(∀id c,OT.at1 id c o x=.od id c o x)->pick (HA.odX i o) H=some (x,H')->∃(y:M),(∀a∈H',a∈H) /\
     (∀(mu:List M) (id:Nat),(∀z,m[i]?=some z->mu[id]?=some z)->HA.ok (mu++[y]) K (OT.at1 id mu.length o x)) /\
     (∀(mu:List M) (id:Nat),(∀z,m[i]?=some z->mu[id]?=some z)->∀{E:En} {w:World} {F:List ah},Sep E K (H.map (HA.conc m)++F) w->Sep E K ([OT.at1 id mu.length o x].map (HA.conc (mu++[y]))++(H'.map (HA.conc m)++F)) w)/\True:=by
   intro o x hat hp;obtain⟨a,ha,hmem,hsub,hs⟩:=d6 (α:=Nat) (K:=K) (m:=m) hp;obtain⟨c,rfl⟩:=rH ha;obtain⟨v,h1,h2,h3⟩:=ne (hok _ hmem);refine⟨.hp K,hsub,fun mu id hin=>?_,fun mu id hin {E w F} k=>?_,trivial⟩
   . rw[hat];exact⟨v,K,aq (ax _ _) (hin _ h1),aR rfl,KOk.refl,h2⟩
   . rw[hat];have g0:(mu++[M.hp K])[id]?=some (.val v):=aq (ax _ _) (hin _ h1);have g1:(mu++[M.hp K])[mu.length]?=some (.hp K):=aR rfl;simp only[X5,aS0,HA.conc,g0,g1];exact h3 (hs k)
 unfold eE at hp;split at hp
 . rename_i e a;split at hp
   . rename_i t;obtain⟨a,ha,hmem,hsub,hs⟩:=d6 (α:=Nat) (K:=K) (m:=m) hp;obtain⟨c,k,rfl⟩:=Cj ha;obtain⟨ad,cap,cs,h1,h2,h3,h4,h5,h6,h7⟩:=hok _ hmem;subst h4;refine⟨.cont t x cs,hsub,fun mu id hin=>?_,fun mu id hin {E w F} k=>?_,trivial⟩
     . exact⟨ad,cap,cs,aq (ax _ _) (hin _ h1),aR rfl,h3,rfl,h5,h6,h7⟩
     . have g0:=aq (ax mu [M.cont t x cs]) (hin _ h1);have g1:(mu++[M.cont t x cs])[mu.length]?=some (.cont t x cs):=aR rfl;have:=hs k;simp only[HA.conc,h1,h2]at this;simp only[X5,aS0,OT.at1,HA.conc,g0,g1];exact this
   . rename_i hn;exact main (fun id c=>by cases a <;> first |rfl|exact absurd rfl (hn _)) hp
 . rename_i hn;exact main (fun id c=>by cases o <;> first |rfl|exact absurd rfl (hn _ _)) hp
theorem H0 {β:Nat->Option Nat} {bi:List Nat} (hbi:∀ j i,β j=some i->∃ i',bi[j]? = some i') {j:Nat} {b:Bk} {g g':Gt} {id:Nat} (h:nq j b g=some g') (hok:∀ a∈g.H,HA.ok m K a) (hrs:∀ i:Nat,some i∈g.rs->m[i]?≠none) (hβ:∀ j i,aB g'.bm j=some i->β j=some i) (hid:bi[j]? = some id) :
   ∃ds1,GW m K β bi g g' ds1 (fy bi b id) (fun _ _=>True):=by
 unfold nq at h;split at h
 . rename_i g1 h1;have e:g1.ds=g.ds/\g1.rs=g.rs/\g1.H=g.H:=by
     split at h1
     . obtain⟨q1,q2,q3,_⟩:=dE h1;exact⟨q1,q2,q3⟩
     . cases h1;exact⟨rfl,rfl,rfl⟩
   split at h
   . rename_i i0 hi;cases hnu:b.nu with
     | true =>
       rw[hnu]at h;simp only[cond_true]at h;cases h;exact⟨[],by simp[e.1],fun a ha=>by rw[<- e.2.2];exact ha,fun i hi=>hrs i (by rw[<- e.2.1];exact hi),fun rest mu Hu rs hb hr=>⟨(),[],[],[],by simp[fy,hnu],trivial,by simp,by rw[e.2.1];simpa using hr,fun E F w hs=>by rw[e.2.2];simpa using hs⟩⟩
     |false =>
     rw[hnu]at h;simp only[cond_false]at h;cases hlp:b.lp with
     | true =>
       rw[hlp]at h;simp only[cond_true]at h;split at h
       . rename_i H hq;cases h;obtain⟨a,ha,hmem,hperm⟩:=bJ hq;obtain rfl:=wY ha;rw[e.2.2]at hmem hperm;obtain⟨l0,r0,hbb⟩:=hok _ hmem;refine⟨[],by simp[e.1],fun a ha=>hperm.symm.subset (W5 _ ha),fun i hi=>hrs i (by rw[<- e.2.1];exact hi),fun rest mu Hu rs hb hr=>?_⟩;have q2:=hb j i0 id (hβ j i0 hi) hid _ hbb;refine⟨(),[],[.lp id .ready],[],by simp[fy,hnu,hlp],trivial,fun a ha=>?_,by rw[Z6,Z6,e.2.1];exact hr,fun E F w hs=>?_⟩
         . simp only[Y2]at ha;subst ha;exact⟨l0,r0,by rw[Z6];exact q2⟩
         . have:=Sep.perm ((hperm.map (HA.conc m)).append_right F) hs;simp only[X5,HA.conc,hbb,aS0,Z6,q2]at this ⊢;exact this
       . cases h
     |false =>
     rw[hlp]at h;simp only[cond_false]at h;cases hrw:b.rw with
     | some o =>
       rw[hrw]at h;simp only at h;cases hbu:b.bu with
       | true =>
         rw[hbu]at h;simp only[cond_true]at h;split at h
         . rename_i q H hq;replace h:=ak h;obtain⟨he,h⟩:=h;have he:=Y0 he;obtain⟨a,ha,hmem,hperm⟩:=bJ hq;obtain rfl:=iC ha;obtain⟨qc,qe,qo,ql,qj,qcs⟩:=q;dsimp only at *;split at h
           . rename_i ho _;obtain⟨ho⟩:=ho;subst ho;rw[e.2.2]at hmem hperm;obtain⟨ad,cap,K0,es,o1,o2,o3,o4,o5,o6,o7,o8⟩:=hok _ hmem;have hsub:∀a∈H,a∈g.H:=fun a ha=>hperm.symm.subset (W5 _ ha)
             obtain⟨⟨d1,g1u⟩,_⟩:=j6 hbi b.ks h (fun a ha=>hok a (hsub a ha)) (fun i hi=>hrs i (by rw[<- e.2.1];exact hi)) hβ;have hbm:=fh b.ks h;refine⟨⟨.sl qo.tp,ql⟩::⟨.int .i64,qj⟩::d1,by rw[g1u.ds];simp[e.1,yr],fun a ha=>hsub a (g1u.sub a ha),g1u.rsm,fun rest mu Hu rs hb hr=>?_⟩;obtain⟨svs,ms,Hu2,rs2,w1,w2,w3,w4,w5⟩:=g1u.go rest mu Hu rs hb (by rw[show (⟨g1.ds++[⟨.sl qo.tp,yr ⟨rfl⟩ ql⟩,⟨.int .i64,qj⟩],g1.bm,g1.rs,H⟩:Gt).rs=g.rs from e.2.1];exact hr);have q2:=hb j i0 id (hβ j i0 (hbm j i0 hi)) hid _ o1;have hp:=ax (mu++ms) [.hol K0 es];have hm2:(mu++(ms++[M.hol K0 es]))[id]?=some (.val (.slice ad ql.length cap)):=aq (ax mu _) q2;have hc:(mu++(ms++[M.hol K0 es]))[(mu++ms).length]?=some (.hol K0 es):=by rw[<- X1];exact aR rfl
             refine⟨(),ms++[.hol K0 es],.hole id (mu++ms).length b.e qo ql qj svs::Hu2,rs2,?_,trivial,fun a ha=>?_,?_,fun E F w hs=>?_⟩
             . unfold fy;rw[hnu,hlp,hrw];simp only[cond_false,hbu,cond_true,aK0,rb,w1];simp[aG0]
             . rcases Y4.1 ha with rfl|ha
               . refine⟨ad,cap,K0,es,hm2,hc,o3,?_,o5,o6,o7,o8⟩;rw[<- X1];exact SV.monoL (fun _ _ k=>aq hp k) (Hp.le_refl K) _ (w2 es o4)
               . rw[<- X1];exact HA.ok_mono (fun _ _ k=>aq hp k) (Hp.le_refl K) (w3 a ha)
             . rw[<- X1];exact w4.mono g1u.rsm
             . have s1:=Sep.perm ((hperm.map (HA.conc m)).append_right F) hs;simp only[X5,HA.conc,o1,o2,he]at s1;have s2:Sep E K (H.map (HA.conc m)++(fu K0 b.e qo (.slice ad ql.length cap) ql qj.toNat es::F)) w:=Sep.perm (by
                 rw[aK0];exact (aP0).symm) s1
               have s3:=w5 E _ w s2;have s4:Sep E K (fu K0 b.e qo (.slice ad ql.length cap) ql qj.toNat es::(Hu2.map (HA.conc (mu++ms))++(g'.H.map (HA.conc m)++F))) w:=Sep.perm (by
                 rw[<- X1];refine List.perm_middle.trans ?_;rw[X1]) s3
               rw[X5];simp only[HA.conc,hm2,hc];rw[<- X1 mu ms,show Hu2.map (HA.conc (mu++ms++[M.hol K0 es]))=Hu2.map (HA.conc (mu++ms))from dz (K:=K) (fun _ _ k=>aq hp k) w3];exact s4
           . cases h
         . cases h
       |false =>
       rw[hbu]at h;simp only[cond_false]at h;split at h
       . rename_i x H hx;cases h;rw[e.2.2]at hx;obtain⟨ms1,q1,q2,q3,_⟩:=LJ hx hok;refine⟨[⟨o.tp,x⟩],by simp[e.1],q1,fun i hi=>hrs i (by rw[<- e.2.1];exact hi),fun rest mu Hu rs hb hr=>?_⟩;have hin:∀y,m[i0]?=some y->mu[id]?=some y:=hb j i0 id (hβ j i0 hi) hid
         refine⟨(),[ms1],[OT.at1 id mu.length o x],[],by simp[fy,hnu,hlp,hrw,hbu,rb],trivial,fun a ha=>?_,by rw[Z6];exact e.2.1 ▸ (hr.mono (fun i hi=>hrs i hi)),fun E F w hs=>?_⟩
         . simp only[Y2]at ha;subst ha;exact q2 mu id hin
         . have:=q3 mu id hin hs;exact this
       . cases h
     |none =>
     rw[hrw]at h;simp only at h;cases hbu:b.bu with
     | true =>
       rw[hbu]at h;simp only[cond_true]at h;split at h
       . rename_i s H hq;cases h;obtain⟨a,ha,hmem,hperm⟩:=bJ hq;obtain rfl:=Kb ha;rw[e.2.2]at hmem hperm;obtain⟨bb,hbb⟩:=hok _ hmem;refine⟨[⟨.str,s⟩],by simp[e.1],fun a ha=>hperm.symm.subset (W5 _ ha),fun i hi=>hrs i (by rw[<- e.2.1];exact hi),fun rest mu Hu rs hb hr=>?_⟩;have q2:=hb j i0 id (hβ j i0 hi) hid _ hbb;refine⟨(),[],[.bld id s],[],by simp[fy,hnu,hlp,hrw,hbu],trivial,fun a ha=>?_,by rw[Z6,Z6,e.2.1];exact hr,fun E F w hs=>?_⟩
         . simp only[Y2]at ha;subst ha;exact⟨bb,by rw[Z6];exact q2⟩
         . have:=Sep.perm ((hperm.map (HA.conc m)).append_right F) hs;simp only[X5,HA.conc,hbb,aS0,Z6,q2]at this ⊢;exact this
       . cases h
     | false =>
       rw[hbu]at h;simp only[cond_false]at h;split at h
       . rename_i q H hq;replace h:=ak h;obtain⟨he,h⟩:=h;have he:=Y0 he;obtain⟨a,ha,hmem,hperm⟩:=bJ hq;obtain rfl:=cH ha;rw[e.2.2]at hmem hperm;obtain⟨bb,us,o1,o2,o3,o4⟩:=HA.ok_blk (hok _ hmem);have hsub:∀a∈H,a∈g.H:=fun a ha=>hperm.symm.subset (W5 _ ha)
         obtain⟨⟨d1,g1u⟩,_⟩:=j6 hbi b.ks h (fun a ha=>hok a (hsub a ha)) (fun i hi=>hrs i (by rw[<- e.2.1];exact hi)) hβ;have hbm:=fh b.ks h;refine⟨d1,by rw[g1u.ds];simp[e.1],fun a ha=>hsub a (g1u.sub a ha),g1u.rsm,fun rest mu Hu rs hb hr=>?_⟩;obtain⟨svs,ms,Hu2,rs2,w1,w2,w3,w4,w5⟩:=g1u.go rest mu Hu rs hb (by rw[show (⟨g1.ds,g1.bm,g1.rs,H⟩:Gt).rs=g.rs from e.2.1];exact hr);have q2:=hb j i0 id (hβ j i0 (hbm j i0 hi)) hid _ o1;have hp:=ax (mu++ms) [.cells us];have hm2:(mu++(ms++[M.cells us]))[id]?=some (.val (.pointer (some ⟨bb,0,none⟩))):=aq (ax mu _) q2;have hc:(mu++(ms++[M.cells us]))[(mu++ms).length]?=some (.cells us):=by rw[<- X1];exact aR rfl
         refine⟨(),ms++[.cells us],.blk id (mu++ms).length b.e svs::Hu2,rs2,?_,trivial,fun a ha=>?_,?_,fun E F w hs=>?_⟩
         . unfold fy;rw[hnu,hlp,hrw,hbu];simp only[cond_false,w1];simp[aG0]
         . rcases Y4.1 ha with rfl|ha
           . refine⟨bb,us,hm2,hc,?_⟩;rw[<- X1];exact SV.monoL (fun _ _ k=>aq hp k) (Hp.le_refl K) _ (w2 us o3)
           . rw[<- X1];exact HA.ok_mono (fun _ _ k=>aq hp k) (Hp.le_refl K) (w3 a ha)
         . rw[<- X1];exact w4.mono g1u.rsm
         . have s1:=Sep.perm ((hperm.map (HA.conc m)).append_right F) hs;rw[X5,o4,he]at s1;have s2:Sep E K (H.map (HA.conc m)++(Cl bb b.e us::F)) w:=Sep.perm (by
             rw[aK0];exact (aP0).symm) s1
           have s3:=w5 E _ w s2;have s4:Sep E K (Cl bb b.e us::(Hu2.map (HA.conc (mu++ms))++(g'.H.map (HA.conc m)++F))) w:=Sep.perm (by
             rw[<- X1];refine List.perm_middle.trans ?_;rw[X1]) s3
           rw[X5];simp only[HA.conc,hm2,hc];rw[<- X1 mu ms,show Hu2.map (HA.conc (mu++ms++[M.cells us]))=Hu2.map (HA.conc (mu++ms))from dz (K:=K) (fun _ _ k=>aq hp k) w3];exact s4
       . cases h
   . cases h
 . cases h
end
end
section
variable [BldA]
section
variable {m:List M}{K:Hp}
theorem wO:∀(bl:List Bk) {j:Nat} {g g':Gt},kH j bl g=some g'->(∀j' i,aB g.bm j'=some i->aB g'.bm j'=some i)/\∀k b,bl[k]?=some b->(∃i,aB g'.bm (j+k)=some i)/\∀i,b.old=some i->aB g'.bm (j+k)=some i
 |[],j,g,g',h=>by cases h;exact⟨fun _ _ h=>h,fun k b hb=>by simp at hb⟩
 | b :: bl,j,g,g',h=>by
   unfold kH at h;split at h
   . rename_i g1 h1;obtain⟨q1,q2,i0,q3⟩:=F6 h1;obtain⟨r1,r2⟩:=wO bl h;refine⟨fun j' i hj=>r1 j' i (q1 j' i hj),fun k b' hb=>?_⟩;cases k with
     | zero =>
       simp at hb;subst hb;exact⟨⟨i0,r1 _ _ q3⟩,fun i hi=>r1 _ _ (q2 i hi)⟩
     | succ k =>
       have:=r2 k b' (by simpa using hb)
       rwa [aG0,bh0 1 k]at this
   . cases h
def sI(bi:List Nat)(bl:List Bk)(is:List Nat)(u:Un):Option (Unit×Un):=match unB bi bl is u with|some u=>some ((),u)|none=>none
theorem Cr{β:Nat->Option Nat}{bi:List Nat}(hbi:∀j i,β j=some i->∃i',bi[j]?=some i'):∀(bl:List Bk) {j:Nat} {g g':Gt} {is:List Nat},kH j bl g=some g'->(∀a∈g.H,HA.ok m K a)->(∀i:Nat,some i∈g.rs->m[i]?≠none)->(∀j i,aB g'.bm j=some i->β j=some i) ->
   is.length=bl.length->(∀k id,is[k]?=some id->bi[j+k]?=some id)->∃ds1,GW m K β bi g g' ds1 (sI bi bl is) (fun _ _=>True)
 | [],j,g,g',is,h,hok,hrs,hβ,hl,his=>by
   cases h;obtain rfl:is=[]:=Z4.1 hl;exact⟨[],GW.nil hrs (fun u=>rfl) (fun _=>trivial)⟩
 | b :: bl,j,g,g',is,h,hok,hrs,hβ,hl,his=>by
   cases is with
   |nil=>cases hl
   | cons id is =>
     unfold kH at h;split at h
     . rename_i g1 h1;obtain⟨r1,_⟩:=wO bl h;obtain⟨d1,q1⟩:=H0 (id:=id) hbi h1 hok hrs (fun j i hj=>hβ j i (r1 j i hj)) (by simpa using his 0 id rfl);obtain⟨d2,q2⟩:=Cr (is:=is) hbi bl h (fun a ha=>hok a (q1.sub a ha)) q1.rsm hβ (by simpa using hl) (fun k id' hk=>by
         have:=his (k+1) id' (by simpa using hk)
         rwa [aG0,bh0 1 k])
       refine⟨d1++d2,q1.two q2 (sI bi (b::bl) (id::is)) (fun _ _=>()) (fun u x u1 y u2 e1 e2=>?_) (fun _ _ _ _ _ _=>trivial)⟩;unfold sI at e2 ⊢;rw[unB,e1];exact e2
     . cases h
def eN(m:List M)(β:Nat->Option Nat):Nat->List Bk->List M
 |_,[]=>[]
 | j,b :: r=>match b.old with
   |some _=>eN m β (j+1) r
   |none=>(match (β j).bind (fun i=>m[i]?)with|some x=>x|none=>.cells [])::eN m β (j+1) r
theorem G7{β:Nat->Option Nat}{m0:List M}(hm:m0 <+: m):∀(bl:List Bk) (j nx:Nat) (base:List M),base.length=nx->m0 <+: base->bM bl m0.length=true->(∀k b,bl[k]?=some b->∀i,b.old=some i->β (j+k)=some i) ->
   (bh bl nx).2=(base++eN m β j bl).length/\(bh bl nx).1.length=bl.length/\∀(k i i':Nat),β (j+k)=some i->(bh bl nx).1[k]?=some i'->∀x,m[i]?=some x->(base++eN m β j bl)[i']?=some x:=by
 intro bl
 induction bl with
 |nil=>intro j nx base hl _ _ _;subst hl;exact⟨by simp[bh,eN],rfl,fun k i i' _ h=>by simp[bh]at h⟩
 | cons b bl ih =>
   intro j nx base hl hpre ho hold;simp only[bM,Y1]at ho;obtain⟨ho1,ho2⟩:=ho;have hold':∀k b',bl[k]?=some b'->∀i,b'.old=some i->β (j+1+k)=some i:=fun k b' hb i hi=>by
     have:=hold (k+1) b' (by simpa using hb) i hi
     rwa [aG0,bh0 1 k]
   cases hb:b.old with
   | some i0 =>
     rw[hb]at ho1;simp only[bj0]at ho1;obtain⟨q1,q2,q3⟩:=ih (j+1) nx base hl hpre ho2 hold';simp only[bh,eN,hb];refine⟨q1,by simp[q2],fun k i i' hk hi x hx=>?_⟩;cases k with
     | zero =>
       simp at hi;subst hi;have:=hold 0 b rfl i0 hb;rw[hk]at this;cases this;obtain⟨r,rfl⟩:=hm;obtain⟨r2,rfl⟩:=hpre;rw[V6 ho1]at hx;rw[X1,V6 ho1];exact hx
     |succ k=>exact q3 k i i' (by rwa [aG0,bh0 1 k]) (by simpa using hi) x hx
   | none =>
     have hx:∃x,(match (β j).bind (fun i=>m[i]?)with|some x=>x|none=>.cells [])=x:=⟨_,rfl⟩
     obtain⟨x,hx⟩:=hx;obtain⟨q1,q2,q3⟩:=ih (j+1) (nx+1) (base++[x]) (by simp[hl]) (hpre.trans (ax _ _)) ho2 hold';simp only[bh,eN,hb,hx];rw[X1]at q1 q3;refine⟨q1,by simp[q2],fun k i i' hk hi y hy=>?_⟩;cases k with
     | zero =>
       simp at hi;subst hi;rw[aD0]at hk;rw[hk]at hx;simp only[V0,hy]at hx;subst hx hl;simp
     |succ k=>exact q3 k i i' (by rwa [aG0,bh0 1 k]) (by simpa using hi) y hy
theorem Sh.get_un{s:Sh}{f:Nat->SV}{H:List HA}{g:Gt}(hg:s.get f H=some g)(hok:∀a∈H,HA.ok m K a){m0:List M}(hm:m0 <+: m)(ho:bM s.bl m0.length=true) :
   ∃ vs u ms,s.un g.ds m0.length=some (vs,u)/\(m0++ms).length=u.nx/\slC m K f (m0++ms) s.sl vs/\(∀ a∈u.H,HA.ok (m0++ms) K a)/\(∀ a∈g.H,a∈H) /\
     (∀E F w,Sep E K (H.map (HA.conc m)++F) w->Sep E K (u.H.map (HA.conc (m0++ms))++(g.H.map (HA.conc m)++F)) w) /\
     (∀(k i i':Nat),aB g.bm k=some i->(bh s.bl m0.length).1[k]?=some i'->∀x,m[i]?=some x->(m0++ms)[i']?=some x)/\∀k,k<s.bl.length->∃i,aB g.bm k=some i:=by
 unfold Sh.get at hg;split at hg
 . rename_i g1 hg1;split at hg
   . rename_i g2 hg2;replace hg:=ak hg;obtain⟨hk,hg⟩:=hg;cases hg;obtain⟨b1,b2⟩:=wO s.bl hg2;have hlen0:(bh s.bl m0.length).1.length=s.bl.length:=by
       have gen:∀(bl:List Bk) (nx:Nat),(bh bl nx).1.length=bl.length:=by
         intro bl
         induction bl with
         |nil=>intro nx;rfl
         | cons b bl ih =>
           intro nx;cases hb:b.old with
           |some i=>simp only[bh,hb,V9,ih]
           |none=>simp only[bh,hb,V9,ih]
       exact gen _ _
     have hlt:∀(l:List (Nat×Nat)) (n j i:Nat),rK n l=true->aB l j=some i->j<n:=by
       intro l
       induction l with
       |nil=>intro n j i _ h;cases h
       | cons p l ih =>
         intro n j i hk h;simp only[rK,Y1,bj0]at hk;change (bif Y3 p.1 j then some p.2 else aB l j)=some i at h;cases hb:Y3 p.1 j with
         |true=>have:=Y0 hb;rw[<- this];exact hk.1
         |false=>rw[hb]at h;exact ih n j i hk.2 h
     have hbi:∀j i,aB g.bm j=some i->∃i',(bh s.bl m0.length).1[j]?=some i':=fun j i hj=>by
       have:=hlt _ _ _ _ hk hj;exact⟨_,Z0 (by rw[hlen0];exact this)⟩
     obtain⟨d1,w1⟩:=BJ hbi s.sl hg1 hok (fun i hi=>by simp at hi) (fun j i hj=>b1 j i hj);obtain⟨d2,w2⟩:=Cr (is:=(bh s.bl m0.length).1) hbi s.bl hg2 (fun a ha=>hok a (w1.sub a ha)) w1.rsm (fun _ _ h=>h) hlen0 (fun k id hk=>by rw[Y8];exact hk);obtain⟨e1,e2,e3⟩:=G7 (β:=aB g.bm) hm s.bl 0 m0.length m0 rfl (bJ0 _) ho (fun k b hb=>(b2 k b hb).2);have hbr:BiR m (m0++eN m (aB g.bm) 0 s.bl) (aB g.bm) (bh s.bl m0.length).1:=fun j i i' hj hi'=>e3 j i i' (by rw[Y8];exact hj) hi'
     have w:=w1.two w2 (fun u=>match unS (bh s.bl m0.length).1 s.sl u with|some (vs,u)=>(match unB (bh s.bl m0.length).1 s.bl (bh s.bl m0.length).1 u with|some u=>some (vs,u)|none=>none)|none=>none) (fun x _=>x)
       (Q:=fun mu vs=>slC m K f mu s.sl vs) (fun u x u1 y u2 h1 h2=>by
         rw[h1];unfold sI at h2;simp only;split at h2
         . cases h2;simp only[*]
         . cases h2) (fun mu ms x y h _=>h.mono)
     obtain⟨vs,ms,Hu2,rs2,v1,v2,v3,v4,v5⟩:=w.go [] _ [] [] hbr ⟨rfl,fun j i id h=>by simp at h⟩;have hds:g.ds=d1++d2:=by rw[w.ds];rfl
     refine⟨vs,⟨[],(m0++(eN m (aB g.bm) 0 s.bl++ms)).length,Hu2++[],[]++rs2⟩,eN m (aB g.bm) 0 s.bl++ms,?_,rfl,by rw[<- X1];exact v2,by rw[<- X1];exact fun a ha=>v3 a (by simpa using ha),w.sub,fun E F w' hs=>?_,fun k i i' hk hi x hx=>?_,fun k hk=>by
       have:=(b2 k _ (Z0 hk)).1
       rwa [Y8]at this⟩
     . unfold Sh.un;rw[ho,hds];simp only[cond_true];rw[Z6,<- e1]at v1;rw[<- X1];exact v1
     . have:=v5 E F w' hs;rw[<- X1];simpa using this
     . rw[<- X1];exact aq (ax _ ms) (hbr k i i' hk hi x hx)
   . cases hg
 . cases hg
end
end
section
variable [BldA]
section
variable {m m2:List M}{K K2:Hp}{φ:Nat->Nat}
mutual
theorem rj(hφ:∀(j:Nat) (e:M),m[j]?=some e->m2[φ j]?=some e):∀(sv:SV) {v:Value},SV.rel m K sv v->SV.rel m2 K (sv.ren φ) v
 |.any,v,h=>trivial
 |.raw _,v,h=>h
 |.int _ _,v,h=>h
 |.bool _,v,h=>h
 |.str _,v,h=>h
 |.nilp,v,h=>h
 |.nils,v,h=>h
 |.row t l n,v,h=>h
 |.pk t x,v,h=>h
 |.kat t x o,v,h=>h
 |.own i,v,h=>⟨hφ _ _ h.1,h.2⟩
 |.ptr i o,v,⟨b,h1,h2⟩=>⟨b,hφ _ _ h1,h2⟩
 |.rat i c t j x o,v,⟨g,n,cap,l,cs,h1,h2,h3,h4⟩=>⟨g,n,cap,l,cs,hφ _ _ h1,hφ _ _ h2,h3,h4⟩
 |.fsl i k,v,⟨b,h1,h2⟩=>⟨b,hφ _ _ h1,h2⟩
 |.fsa i o k cap,v,⟨b,h1,h2⟩=>⟨b,hφ _ _ h1,h2⟩
 |.nlt t l neg,v,h=>h
 |.agg vs,v,⟨us,h1,h2⟩=>⟨us,h1,jR hφ vs h2⟩
 |.tup vs,v,⟨us,h1,h2⟩=>⟨us,h1,jR hφ vs h2⟩
 |.fn f vs,v,⟨us,h1,h2⟩=>⟨us,h1,jR hφ vs h2⟩
 |.is j w,v,⟨h1,h2⟩=>⟨hφ _ _ h1,rj hφ w h2⟩
 |.ifc t w,v,⟨u,h1,h2⟩=>⟨u,h1,rj hφ w h2⟩
 |.hat i o j off,v,h=>by obtain⟨g,n,cap,h1,h2⟩:=h;exact⟨g,n,cap,hφ _ _ h1,h2⟩
 |.prt i z lo hi,v,h=>by obtain⟨g,n,cap,o,h1,h2⟩:=h;exact⟨g,n,cap,o,hφ _ _ h1,h2⟩
 |.yld _ _ _ _ _ _,v,h=>trivial
theorem jR(hφ:∀(j:Nat) (e:M),m[j]?=some e->m2[φ j]?=some e):∀(vs:List SV) {us:List Value},SV.relL m K vs us->SV.relL m2 K (SV.renL φ vs) us
 |[],us,h=>h
 |v::vs,us,⟨u,r,h1,h2,h3⟩=>⟨u,r,h1,rj hφ v h2,jR hφ vs h3⟩
end
theorem LN(hφ:∀(j:Nat) (e:M),m[j]?=some e->m2[φ j]?=some e):∀{a:HA},a.ok m K->(a.ren φ).ok m2 K
 |.blk i c e cs,⟨b,vs,h1,h2,h3⟩=>⟨b,vs,hφ _ _ h1,hφ _ _ h2,jR hφ _ h3⟩
 |.row i c e t l n,⟨ad,cap,cs,h1,h2,h3⟩=>⟨ad,cap,cs,hφ _ _ h1,hφ _ _ h2,h3⟩
 |.bld i l,⟨b,h1⟩=>⟨b,hφ _ _ h1⟩
 |.od i c o x,⟨v,K0,h1,h2,h3⟩=>⟨v,K0,hφ _ _ h1,hφ _ _ h2,h3⟩
 | .hole i c e o l j cs,h=>by
   obtain⟨ad,cap,K0,es,h1,h2,h3,h4,h5⟩:=h;exact⟨ad,cap,K0,es,hφ _ _ h1,hφ _ _ h2,h3,jR hφ _ h4,h5⟩
 |.lp i s,⟨l,r,h⟩=>⟨l,r,hφ _ _ h⟩
theorem Ip(hφ:∀(j:Nat) (e:M),m[j]?=some e->m2[φ j]?=some e):∀{a:HA},a.ok m K->(a.ren φ).conc m2=a.conc m
 |.blk i c e cs,⟨b,vs,h1,h2,h3⟩=>by simp only[HA.ren,HA.conc,h1,h2,hφ _ _ h1,hφ _ _ h2]
 |.row i c e t l n,⟨ad,cap,cs,h1,h2,h3⟩=>by simp only[HA.ren,HA.conc,h1,h2,hφ _ _ h1,hφ _ _ h2]
 |.bld i l,⟨b,h1⟩=>by simp only[HA.ren,HA.conc,h1,hφ _ _ h1]
 |.od i c o x,⟨v,K0,h1,h2,h3⟩=>by simp only[HA.ren,HA.conc,h1,h2,hφ _ _ h1,hφ _ _ h2]
 | .hole i c e o l j cs,h=>by
   obtain⟨ad,cap,K0,es,h1,h2,h3,h4,h5⟩:=h;simp only[HA.ren,HA.conc,h1,h2,hφ _ _ h1,hφ _ _ h2]
 |.lp i s,⟨l,r,h⟩=>by simp only[HA.ren,HA.conc,h,hφ _ _ h]
theorem Cu(hφ:∀(j:Nat) (e:M),m[j]?=some e->m2[φ j]?=some e):∀{H:List HA},(∀a∈H,HA.ok m K a)->(H.map (HA.ren φ)).map (HA.conc m2)=H.map (HA.conc m)
 |[],_=>rfl
 |a::H,h=>by rw[X5,X5,X5,Ip hφ (h a (by simp)),Cu hφ (fun b hb=>h b (by simp[hb]))]
mutual
theorem rE:∀(sv:SV) {v:Value},sv.kf=true->SV.rel m K sv v->SV.rel m K2 sv v
 |.any,v,h,_=>trivial
 |.raw _,v,_,h=>h
 |.int _ _,v,_,h=>h
 |.bool _,v,_,h=>h
 |.str _,v,_,h=>h
 |.nilp,v,_,h=>h
 |.nils,v,_,h=>h
 |.row t l n,v,h,_=>by cases h
 |.pk t x,v,h,_=>by cases h
 |.kat t x o,v,h,_=>by cases h
 |.own i,v,_,h=>h
 |.ptr i o,v,_,h=>h
 |.rat i c t j x o,v,_,h=>h
 |.fsl i k,v,_,h=>h
 |.fsa i o k cap,v,_,h=>h
 |.nlt t l neg,v,_,h=>h
 |.agg vs,v,hk,⟨us,h1,h2⟩=>⟨us,h1,jX vs hk h2⟩
 |.tup vs,v,hk,⟨us,h1,h2⟩=>⟨us,h1,jX vs hk h2⟩
 |.fn f vs,v,hk,⟨us,h1,h2⟩=>⟨us,h1,jX vs hk h2⟩
 |.is j w,v,hk,⟨h1,h2⟩=>⟨h1,rE w hk h2⟩
 |.ifc t w,v,hk,⟨u,h1,h2⟩=>⟨u,h1,rE w hk h2⟩
 |.hat i o j off,v,_,h=>h
 |.prt i z lo hi,v,_,h=>h
 |.yld _ _ _ _ _ _,v,hk,_=>by cases hk
theorem jX:∀(vs:List SV) {us:List Value},SV.kfL vs=true->SV.relL m K vs us->SV.relL m K2 vs us
 |[],us,_,h=>h
 | v :: vs,us,hk,⟨u,r,h1,h2,h3⟩=>by
   simp only[SV.kfL,Y1]at hk;exact⟨u,r,h1,rE v hk.1 h2,jX vs hk.2 h3⟩
end
theorem My:∀{a:HA},a.kf=true->a.ok m K->a.ok m K2
 |.blk i c e cs,hk,⟨b,vs,h1,h2,h3⟩=>⟨b,vs,h1,h2,jX cs hk h3⟩
 |.row i c e t l n,hk,⟨ad,cap,cs,h1,h2,h3,h4⟩=>⟨ad,cap,cs,h1,h2,Els.flat hk h3,h4⟩
 |.bld i l,hk,h=>h
 |.od i c o x,hk,⟨v,K0,h1,h2,h3,h4⟩=>⟨v,K0,h1,h2,.inr hk,h4⟩
 | .hole i c e o l j cs,hk,h=>by
   obtain⟨ad,cap,K0,es,h1,h2,h3,h4,h5⟩:=h;simp only[HA.kf,Y1]at hk;exact⟨ad,cap,K0,es,h1,h2,.inr hk.1,jX cs hk.2 h4,h5⟩
 |.lp i s,hk,h=>h
theorem vq{i c:Nat}{e:TypeId}{t:Tp}{l:List t.den}{n:Nat}{ad:Option Addr}{cap:Nat}(h1:m[i]?=some (.val (.slice ad n cap)))(h2:l.length=n)(h3:Is K (.sl t) [.slice ad n cap] l):∀a b v,gN i t l n a=some b->SV.rel m K a v->SV.rel m K b v:=by
 intro a b v hf hr;unfold gN at hf;split at hf
 . replace hf:=ak hf;obtain⟨hb,hf⟩:=hf;have hb:=Y0 hb;subst hb;cases hf;have h4:=hr.1;rw[h1]at h4;simp only[Z3,M.val.injEq]at h4;subst h4;exact⟨h3,h2⟩
 . cases hf
theorem Rw.is{e:TypeId}{t:Tp}{v:Value}{l:List t.den}{cs:List Value}{K0 K':Hp}(he:Els K t cs l)(h:Rw e t.size v l.length cs K0)(k1:K.le K')(k2:K0.le K')(h0:0<t.size):Is K' (.sl t) [v] l :=
 Row.is (Row.of_rw he K0 h) k1 k2 h0
theorem A1{i:Nat}{v w:SV}{u:Value}(h:SV.mkOf i v=some w)(hr:SV.rel m K v u):m[i]?=some (.val u)/\SV.rel m K w u:=by
 unfold SV.mkOf at h;split at h
 . rename_i j x;cases hb:Y3 j i with
   |false=>rw[hb]at h;cases h
   | true =>
     rw[hb]at h;have hb:=Y0 hb;subst hb;simp only[cond_true]at h;split at h
     . cases h
     . cases h;exact hr
 . cases h
theorem wZ{i:Nat}{w:SV}:∀{cs:List SV} {us:List Value},aX (SV.mkOf i) cs=some w->SV.relL m K cs us->∃u,m[i]?=some (.val u)/\SV.rel m K w u
 |[],us,h,_=>by cases h
 | c :: cs,us,h,hr=>by
   obtain⟨u,r,rfl,h1,h2⟩:=aM hr;unfold aX at h;split at h
   . rename_i hm;cases h;exact⟨u,A1 hm h1⟩
   . exact wZ h h2
theorem Kc{fr:Frz}{σ:Zt}{ρ:Sl1}(hp:Pur fr σ m K ρ){i:Nat}{w:SV}(h:σ.mark i=some w):∃u,m[i]?=some (.val u)/\SV.rel m K w u:=by
 unfold Zt.mark at h;split at h
 . rename_i v hv;cases h;obtain⟨p,h1,_⟩:=bA hv;exact⟨_,A1 h1 (hp.get p.1)⟩
 . obtain⟨a,h1,h2⟩:=bA h;have hok:=hp.all a h2;cases a with
   | blk j c e cs =>
     obtain⟨b,vs,_,_,h3⟩:=hok;exact wZ h1 h3
   |row=>cases h1
   |bld=>cases h1
   |od=>cases h1
   |lp=>cases h1
   | hole j c e o l k cs =>
     obtain⟨ad,cap,K0,es,_,_,_,h3,_⟩:=hok;exact wZ h1 h3
theorem qk{fr:Frz}{σ:Zt}{ρ:Sl1}(hp:Pur fr σ m K ρ){m':List M}{K':Hp}(hm:∀(i:Nat) (x:M),m[i]?=some x->m'[i]?=some x)(hK:K.le K'):∀a b v,bR σ a=some b->SV.rel m' K' a v->SV.rel m' K' b v:=by
 intro a b v hf hr;unfold bR at hf;split at hf
 . rename_i i x;split at hf
   . split at hf
     . rename_i w hw;cases hf;obtain⟨u,h1,h2⟩:=Kc hp hw;have h3:=hr.1;rw[hm _ _ h1]at h3;cases h3;exact⟨hm _ _ h1,SV.mono hm hK _ h2⟩
     . cases hf
   . cases hf
 . cases hf
theorem vd{n:Nat}:∀{l:List (Nat×Nat)} {j i:Nat},nf n l=true->aB l j=some i->i<n
 |[],j,i,_,h=>by cases h
 | p :: l,j,i,hk,h=>by
   simp only[nf,Y1,bj0]at hk;change (bif Y3 p.1 j then some p.2 else aB l j)=some i at h;cases hb:Y3 p.1 j with
   |true=>rw[hb]at h;cases h;exact hk.1
   |false=>rw[hb]at h;exact vd hk.2 h
end
end
section
variable [BldA]
theorem zY:∀(bl:List Bk) (nx:Nat),eo bl=true->bM bl nx=true/\∀k n0:Nat,k<bl.length->(bh bl n0).1[k]?=some (n0+k)
 |[],nx,h=>⟨rfl,fun k n0 hk=>by simp at hk⟩
 | b :: bl,nx,h=>by
   simp only[eo,Y1]at h;obtain⟨h1,h2⟩:=h;obtain⟨q1,q2⟩:=zY bl nx h2;cases hb:b.old with
   |some i=>rw[hb]at h1;cases h1
   | none =>
     refine⟨by simp[bM,hb,q1],fun k n0 hk=>?_⟩;simp only[bh,hb];cases k with
     |zero=>rfl
     | succ k =>
       have:=q2 k (n0+1) (by simpa using hk);simpa[aG0,bh0 1 k]using this
section
variable {R:Type}{P:Program}{E:En}{n:Nat}{m:List M}{K:Hp}{fr:Frz}{σ:Zt}{ρ:Sl1}{w:World}
theorem C2{mu:List M}{vs:List SV}{us:List Value}{K1:Hp}(hr:SV.relL m K1 vs us):∀{sl:List (Nat×Kd)} {j:Nat} {ws:List (Nat×SV)},slN j sl vs.length=true->slC m K1 (sS vs) mu sl ws->slR mu K1 ws (us.drop j)
 | [],j,ws,h,hc=>by
   obtain rfl:ws=[]:=hc;have:=Y0 (show Y3 j vs.length=true from h);show us.drop j=[];rw[this,<- cG hr,fo0]
 | p :: sl,j,ws,h,hc=>by
   simp only[slN,Y1]at h;obtain⟨h1,h2⟩:=h;have h1:=Y0 h1;obtain⟨sv,q,rfl,g1,g2⟩:=hc;have ih:=C2 (j:=j+1) hr h2 g2;have hj:j<vs.length:=by
     have gen:∀(sl:List (Nat×Kd)) (j n:Nat),slN j sl n=true->j<=n:=by
       intro sl
       induction sl with
       |nil=>intro j n h;exact Nat.le_of_eq (Y0 h)
       |cons p sl ih=>intro j n h;simp only[slN,Y1]at h;have:=ih (j+1) n h.2;omega
     have:=gen sl (j+1) vs.length h2;omega
   have hl:=cG hr;have hd:us.drop j=us[j]::us.drop (j+1):=aY0 (by omega);refine⟨us[j]'(by omega),us.drop (j+1),hd,g1 _ ?_,ih⟩;obtain⟨u,hu,hru⟩:=iy hr (Z0 hj);rw[Z0 (by omega)]at hu;cases hu;have:sS vs p.1=vs[j]:=by unfold sS;rw[h1,Z0 hj]
   rw[this];exact hru
theorem Gy{k:Hn P->Zt->Option R}{r:R}{nin:Nat}{H:List HA}{bm:List (Nat×Nat)}{nb:Nat}{d:Option Nat}{ln:Bool}:∀{os:List Sh} {x:c8 os} {h1 h2:Hn P},Ej nin σ H bm nb d ln os x h1 h2 k=some r->∃hx,after nin σ H bm nb d ln (dM os x).1 (dM os x).2 (k hx)=some r
 |[],x,h1,h2,h=>fc0 x
 |[a],x,h1,h2,h=>⟨h1,h⟩
 | [a,b],x,h1,h2,h=>by
   cases x with
   |inl x=>exact⟨h1,h⟩
   |inr x=>exact⟨h2,h⟩
 |a::b::c::r,x,h1,h2,h=>by cases h
def r8(E:En)(fr:Frz)(σ:Zt)(ρ:Sl1)(d:Option Nat)(k:Hn P->Zt->Option R)(r:R)(e:Ending)(w':World):Prop :=
 ∃v σ' h' m' K',e=.returned v/\k h' σ'=some r/\Same σ σ'/\Rel E fr σ' m' K' (match d with|some d=>aY ρ d v|none=>ρ) w'
theorem AZ {k:Hn P->Zt->Option R} {r:R} {d:Option Nat} {vs:List SV} {us:List Value} {H back:List HA} {ln em:Bool} {q:OkSpec P} {h1 h2:Hn P} {K1:Hp} {FF:List ah} (h:si σ d vs H back ln em q h1 h2 k=some r) (hr:Rel E fr σ m K ρ w)
   (hold:eo q.s.inn.bl=true) (hsl:slN 0 q.s.inn.sl vs.length=true) (hK:K.le K1) (hrel:SV.relL m K1 vs us) (hHk:∀a∈H,HA.ok m K1 a) (hH:em=false->∀a∈H,a∈σ.H) (hback:∀a∈back,a∈σ.H) (hs:Sep E K1 (H.map (HA.conc m)++FF) w)
   (hclose:∀w' L',Sep E K1 (L'++FF) w'->Sep E K (L'++(back.map (HA.conc m)++σ.fz fr)) w') (hln:ln=false->K1=K/\back=[]/\FF=σ.fz fr) :
   Calls P q.s.f us.toArray w (r8 E fr σ ρ d k r):=by
 unfold si at h;split at h
 . rename_i g hg;split at h
   . rename_i x vsx u hx hu;replace h:=eK h;obtain⟨hvl,h⟩:=h;rw[cM0]at hvl;obtain⟨hvl,hem⟩:=hvl;have hvl:nf σ.nx g.bm=true:=by simpa using hvl
     replace h:=ob h;obtain⟨y,hy,h⟩:=h;obtain⟨hold1,hids⟩:=zY q.s.inn.bl 0 hold;obtain⟨ws,u',ms,e1,e2,e3,e4,e5,e6,e7,e8⟩:=Sh.get_un (m:=m) (K:=K1) hg hHk (m0:=[]) (List.nil_prefix) hold1;rw[aH0]at e2 e3 e4 e6;simp only[aH0]at e7;have eu:some (vsx,u)=some (ws,u'):=hu.symm.trans e1;cases eu;have htr:=q.ok x y hy vsx u (by rw[TL.of_list hx];exact e1) ms K1 us (BldA.gkm hK.cle hr.mks.gk) e2 e4 (C2 hrel (j:=0) hsl e3);refine (htr E w _ (e6 E FF w hs)).mono ?_;rintro e w' ⟨v,K',L',rfl,⟨vs2,u2,m2,f1,f2,f3,f4,f5,rfl⟩,hK',hs'⟩;obtain⟨hx',h⟩:=Gy h;unfold after at h;rw[f1]at h;simp only at h;replace h:=eK h;obtain⟨hk,h⟩:=h
     -- numbers
     have hnb:q.s.inn.bl.length<=m2.length:=by
       rcases eP0 q.s.inn.bl.length with h0|h0
       . omega
       . obtain⟨i,hi⟩:=e8 (q.s.inn.bl.length-1) (by omega);have hlt':=vd hvl hi;have g2:=e7 _ i _ hi (hids (q.s.inn.bl.length-1) 0 (by omega)) _ (Z0 (by rw[hr.nx];exact hlt'));have:ms[0+(q.s.inn.bl.length-1)]?≠none:=by rw[g2];simp
         have hlt:0+(q.s.inn.bl.length-1)<ms.length:=by
           rcases aq0 (0+(q.s.inn.bl.length-1)) ms.length with h'|h'
           . exact h'
           . exact absurd (ai0 h') this
         obtain⟨t,rfl⟩:=f2;simp;omega
     have hφ:∀(j:Nat) (e:M),m2[j]?=some e->(m++m2.drop q.s.inn.bl.length)[gO g.bm q.s.inn.bl.length σ.nx j]?=some e:=by
       intro j e hj;unfold gO;cases hb:aO0 j q.s.inn.bl.length with
       | true =>
         rw[bj0]at hb;obtain⟨i,hi⟩:=e8 j hb;have hlt':=vd hvl hi;have g1:m[i]?≠none:=by rw[Z0 (by rw[hr.nx];exact hlt')];simp
         have g2:=e7 j i _ hi (hids j 0 hb);rw[hi];simp only[cond_true];cases hm:m[i]? with
         |none=>exact absurd hm g1
         | some e' =>
           replace g2:=g2 _ hm;rw[Y8]at g2;have:=aq f2 g2;rw[this]at hj;cases hj;exact aq (ax m _) hm
       | false =>
         have hb:¬ j<q.s.inn.bl.length:=by rw[<- bj0,hb];simp
         simp only[cond_false];rw[d9 hr.nx,bf0];rw[<- hj];congr 1;omega
     have hp:=ax m (m2.drop q.s.inn.bl.length);have hnx:(m++m2.drop q.s.inn.bl.length).length=σ.nx+(u2.nx-q.s.inn.bl.length):=by
       rw[W3,W8,hr.nx,f3]
     have hgs:∀a∈g.H++back,a∈σ.H:=fun a ha=>by
       rcases V3.1 ha with ha|ha
       . cases em with
         |false=>exact hH rfl a (e5 a ha)
         | true =>
           have:g.H=[]:=by simpa using hem
           rw[this]at ha;cases ha
       . exact hback a ha
     -- what is known, at last
     have fin:∃Kn,K.le Kn/\(gE vs2 u2.H=true->Kn=K)/\(∀a∈u2.H,HA.ok m2 Kn a)/\kM m2 Kn vs2 v/\Sep E Kn (u2.H.map (HA.conc m2)++((g.H++back).map (HA.conc m)++σ.fz fr)) w':=by
       have key:∀Kn,Sep E Kn ((u2.H.map (HA.conc m2)++g.H.map (HA.conc m))++(back.map (HA.conc m)++σ.fz fr)) w'->Sep E Kn (u2.H.map (HA.conc m2)++((g.H++back).map (HA.conc m)++σ.fz fr)) w':=fun Kn h=>by
         simpa[X1]using h
       cases ha:gE vs2 u2.H with
       | true =>
         have ha':=ha;simp only[gE,Y1,aF0]at ha';refine⟨K,Hp.le_refl K,fun _=>rfl,fun a h=>My (ha'.2 a h) (f4 a h),?_,key K (hclose w' _ ?_)⟩
         . unfold kM at f5 ⊢;split at f5
           . exact f5
           . rename_i j sv;exact rE sv (ha'.1 (j,sv) (by simp)) f5
           . exact f5.elim
         . rw[X1];exact hs'.weaken hK'
       | false =>
         rw[ha]at hk;obtain⟨rfl,rfl,rfl⟩:=hln (by cases ln;rfl;cases hk);refine⟨K',hK',fun h=>(by cases h),f4,f5,?_⟩;rw[Z6];exact hs'
     obtain⟨Kn,k1,k2,k3,k4,k5⟩:=fin;have hfil:=qk hr.toPur (m':=m++m2.drop q.s.inn.bl.length) (fun _ _ k=>aq hp k) k1;have hpur:Pur fr ⟨σ.base,σ.top,(u2.H.map (HA.ren (gO g.bm q.s.inn.bl.length σ.nx))).map (HA.sub (bR σ))++(g.H++back),σ.Hf,σ.nx+(u2.nx-q.s.inn.bl.length),σ.kq&&gE vs2 u2.H⟩ (m++m2.drop q.s.inn.bl.length) Kn ρ:=by
       refine Pur.next hr.toPur hp k1 (fun e=>?_) hnx ?_
       . rw[Y1]at e;exact⟨e.1,k2 e.2⟩
       . intro a ha
         rcases V3.1 ha with ha|ha
         . obtain⟨a1,h1,rfl⟩:=Y7.1 ha;obtain⟨a0,h0,rfl⟩:=Y7.1 h1;exact fp hfil (LN hφ (k3 a0 h0))
         . exact hr.toPur.okH' hp k1 a (hgs a ha)
     have hsep:Sep E Kn (((u2.H.map (HA.ren (gO g.bm q.s.inn.bl.length σ.nx))).map (HA.sub (bR σ))++(g.H++back)).map (HA.conc (m++m2.drop q.s.inn.bl.length))++σ.fz fr) w':=by
       rw[X6,fU,Cu (K:=Kn) hφ k3,hr.toPur.conc hp hgs,X1];exact k5
     split at h
     . exact⟨v,_,hx',_,Kn,rfl,h,⟨rfl,rfl⟩,hpur.set (fg hfil _ (rj hφ _ k4)),hsep⟩
     . have hv:v=.tuple #[]:=k4;exact⟨v,_,hx',_,Kn,rfl,h,⟨rfl,rfl⟩,hpur.set (sv:=.tup []) ⟨[],hv,rfl⟩,hsep⟩
     . exact⟨v,_,hx',_,Kn,rfl,h,⟨rfl,rfl⟩,hpur,hsep⟩
     . cases h
   . cases h
 . cases h
theorem Je{K1:Hp}{H:List HA}{FF:List ah}(p:HA->Bool)(hs:Sep E K1 (H.map (HA.conc m)++FF) w):Sep E K1 ((H.filter p).map (HA.conc m)++((H.filter fun a=>!p a).map (HA.conc m)++FF)) w:=by
 refine Sep.perm ?_ hs;rw[<- X1,<- X6];exact ((ej0 p H).symm.map _).append_right _
theorem Cl.at_{b:Nat}{e:TypeId}{vs:List Value}{hh K2:Hp}{t:Tp}{x:t.den}(h:Cl b e vs hh)(k:hh.le K2)(hi:Is K2 t vs x):At K2 t b 0 x:=by
 refine⟨vs,hi.len,hi,fun j hj=>?_⟩;obtain rfl:=h;have:=k b _ (bn b _);rw[Y8];unfold be;rw[this];simp
theorem A4{i b:Nat}{t:Tp}{x:t.den}{K2:Hp}(h1:m[i]?=some (.val (.pointer (some ⟨b,0,none⟩))))(h2:At K2 t b 0 x):∀a b' v,fG i t x a=some b'->SV.rel m K2 a v->SV.rel m K2 b' v:=by
 intro a b' v hf hrel;unfold fG at hf;split at hf
 . replace hf:=ak hf;obtain⟨hb,hf⟩:=hf;have hb:=Y0 hb;subst hb;cases hf;obtain⟨bb,h3,rfl⟩:=hrel;rw[h1]at h3;cases h3;exact⟨b,0,by rw[Y8],h2⟩
 . cases hf
theorem CN{i:Nat}{a:HA}{d0:Dat}{K1:Hp}(h:knB P i a=some d0)(hok:HA.ok m K1 a):∃b us,m[i]?=some (.val (.pointer (some ⟨b,0,none⟩)))/\HA.conc m a=Cl b (match a with|.blk _ _ e _=>e|_=>0) us/\Is K1 d0.t us d0.x:=by
 unfold knB at h;split at h
 . rename_i j c e cs;replace h:=ak h;obtain⟨hb,h⟩:=h;have hb:=Y0 hb;subst hb;split at h
   . rename_i t ht;split at h
     . rename_i x hx;cases h;obtain⟨b,us,h1,h2,h3,h4⟩:=HA.ok_blk hok;obtain⟨c1,c2,e1,e2,e3⟩:=cL t hx (ef cs h3);obtain rfl:=aU e3;rw[Z6]at e1;subst e1;exact⟨b,_,h1,h4,e2⟩
     . cases h
   . cases h
 . cases h
theorem qz {k:Hn P->Zt->Option R} {r:R} {d:Option Nat} {ln:Bool} {am:Option (List Nat)} {q:OkSpec P} {h1 h2:Hn P} (hr:Rel E fr σ m K ρ w) (hold:eo q.s.inn.bl=true):∀ (lend:List Nat) {vs:List SV} {us:List Value} {H Hf back:List HA} {Fh:HA->HA} {K1:Hp},
   dp σ d ln am q h1 h2 k lend vs H Hf back Fh=some r->slN 0 q.s.inn.sl vs.length=true->K.le K1->SV.relL m K1 vs us->(∀a∈H,a∈σ.H)->(∀a∈Hf,a∈σ.Hf)->(∀a∈back,a∈σ.H)->(∀a,HA.conc m (Fh a)=HA.conc m a)->(∀K2,K1.le K2->∀a,HA.ok m K2 a->HA.ok m K2 (Fh a))->Sep E K1 (H.map (HA.conc m)++(Hf.map (HA.conc fr.m)++fr.F)) w ->
   (∀w' L',Sep E K1 (L'++(Hf.map (HA.conc fr.m)++fr.F)) w'->Sep E K (L'++(back.map (HA.conc m)++σ.fz fr)) w')->(ln=false->lend=[]/\am=none/\K1=K/\back=[]/\Hf=σ.Hf) ->
   Calls P q.s.f us.toArray w (r8 E fr σ ρ d k r)
 | [], vs, us, H, Hf, back, Fh, K1, h, hsl, hK, hrel, hH, hF, hB, hFc, hFo, hs, hclose, hln => by
   unfold dp at h;split at h
   . exact AZ h hr hold hsl hK hrel (fun a ha=>HA.ok_mono (fun _ _ h=>h) hK (hr.okH a (hH a ha))) (fun _=>hH) hB hs hclose (fun e=>by obtain⟨_,_,h1,h2,h3⟩:=hln e;exact⟨h1,h2,by rw[h3];rfl⟩)
   . rename_i act;refine AZ h hr hold hsl hK hrel (fun a ha=>?_) (fun e=>by cases e) (fun a ha=>?_) (FF:=(H.filter fun a=>!act.contains a.id).map (HA.conc m)++(Hf.map (HA.conc fr.m)++fr.F)) ?_ (fun w' L' hs'=>?_) (fun e=>by obtain⟨_,h2,_⟩:=hln e;cases h2)
     . obtain⟨a0,h0,rfl⟩:=Y7.1 ha;exact hFo K1 (Hp.le_refl K1) a0 (HA.ok_mono (fun _ _ h=>h) hK (hr.okH a0 (hH a0 (ac0.1 h0).1)))
     . rcases V3.1 ha with ha|ha
       . exact hH a (ac0.1 ha).1
       . exact hB a ha
     . have:((H.filter fun a=>act.contains a.id).map Fh).map (HA.conc m)=(H.filter fun a=>act.contains a.id).map (HA.conc m):=by
         rw[dL0];exact cm0 (fun a _=>hFc a)
       rw[this];exact Je _ hs
     . have:=hclose w' (L'++(H.filter fun a=>!act.contains a.id).map (HA.conc m)) (by rw[X1];exact hs');rw[X1]at this;rw[X6,X1];exact this
 | i :: is,vs,us,H,Hf,back,Fh,K1,h,hsl,hK,hrel,hH,hF,hB,hFc,hFo,hs,hclose,hln=>by
   have hlt:ln=true:=by
     cases ln with
     |true=>rfl
     |false=>have:=(hln rfl).1;cases this
   -- what is lent: by its value, its atom and what it is known as
   have lendH:∀{a:HA} {H':List HA} {f:SV->Option SV} {A:ah} (hmem:a∈H) (hperm:H.Perm (a::H')) (hA:HA.conc m a=A) (hf:∀hh,A hh->∀K2,K1.le K2->hh.le K2->∀a b v,f a=some b->SV.rel m K2 a v->SV.rel m K2 b v),
       dp σ d ln am q h1 h2 k is (SV.subL f vs) H' Hf (a::back) (fun a=>HA.sub f (Fh a))=some r->Calls P q.s.f us.toArray w (r8 E fr σ ρ d k r):=by
     intro a H' f A hmem hperm hA hf h;have hs1:=Sep.perm ((hperm.map (HA.conc m)).append_right _) hs;rw[X5,hA]at hs1;obtain⟨hh,hrw,hd,hs2⟩:=hs1;have hle:=Hp.le_join K1 hh;have hhle:hh.le (K1.join hh):=fun n o e=>Hp.join_right e (hd n o e)
     have hf':=hf hh hrw;refine qz hr hold is (us:=us) h (by rw[vw];exact hsl) (hK.trans hle) (gq (hf' _ hle hhle) vs (SV.monoL (fun _ _ h=>h) hle vs hrel)) (fun a ha=>hH a (hperm.symm.subset (W5 _ ha))) hF (fun a' ha=>?_) (fun a=>by rw[vC,hFc]) (fun K2 hK2 a ha=>fp (hf' K2 (hle.trans hK2) (hhle.trans hK2)) (hFo K2 (hle.trans hK2) a ha)) hs2 (fun w' L' hs'=>?_) (fun e=>by rw[hlt]at e;cases e)
     . rcases Y4.1 ha with rfl|ha
       . exact hH _ hmem
       . exact hB a' ha
     . have s1:Sep E K1 (A::(L'++(Hf.map (HA.conc fr.m)++fr.F))) w':=⟨hh,hrw,hd,hs'⟩;have s2:Sep E K1 ((L'++[A])++(Hf.map (HA.conc fr.m)++fr.F)) w':=Sep.perm (by
         rw[X1];exact List.perm_middle.symm) s1
       have s3:=hclose w' _ s2;rw[X5,hA];simpa[X1]using s3
   have lendF:∀{a:HA} {Hf':List HA} {f:SV->Option SV} {A:ah} (hmem:a∈Hf) (hperm:Hf.Perm (a::Hf')) (hA:HA.conc fr.m a=A) (hf:∀hh,A hh->∀K2,K1.le K2->hh.le K2->∀a b v,f a=some b->SV.rel m K2 a v->SV.rel m K2 b v),
       dp σ d ln am q h1 h2 k is (SV.subL f vs) H Hf' back (fun a=>HA.sub f (Fh a))=some r->Calls P q.s.f us.toArray w (r8 E fr σ ρ d k r):=by
     intro a Hf' f A hmem hperm hA hf h;have hs1:Sep E K1 (A::(H.map (HA.conc m)++(Hf'.map (HA.conc fr.m)++fr.F))) w:=Sep.perm (by
       refine ((((hperm.map (HA.conc fr.m)).append_right fr.F).append_left _)).trans ?_;rw[X5,hA];exact aP0) hs
     obtain⟨hh,hrw,hd,hs2⟩:=hs1;have hle:=Hp.le_join K1 hh;have hhle:hh.le (K1.join hh):=fun n o e=>Hp.join_right e (hd n o e)
     have hf':=hf hh hrw;refine qz hr hold is (us:=us) h (by rw[vw];exact hsl) (hK.trans hle) (gq (hf' _ hle hhle) vs (SV.monoL (fun _ _ h=>h) hle vs hrel)) hH (fun a ha=>hF a (hperm.symm.subset (W5 _ ha))) hB (fun a=>by rw[vC,hFc]) (fun K2 hK2 a ha=>fp (hf' K2 (hle.trans hK2) (hhle.trans hK2)) (hFo K2 (hle.trans hK2) a ha)) hs2 (fun w' L' hs'=>?_) (fun e=>by rw[hlt]at e;cases e);have s1:Sep E K1 (A::(L'++(Hf'.map (HA.conc fr.m)++fr.F))) w':=⟨hh,hrw,hd,hs'⟩;have s2:Sep E K1 (L'++(Hf.map (HA.conc fr.m)++fr.F)) w':=Sep.perm (by
       refine List.perm_middle.symm.trans ?_;refine cG0 _ ?_;have:=((hperm.map (HA.conc fr.m)).append_right fr.F).symm;rw[X5,hA]at this;exact this) s1
     exact hclose w' _ s2
   unfold dp at h;split at h
   . rename_i rr H' hq;replace h:=ak h;obtain⟨h0,h⟩:=h;rw[bj0]at h0;obtain⟨a,ha,hmem,hperm⟩:=bJ hq;obtain rfl:=bP ha;obtain⟨ad,cap,cs,g1,g2,g3,g4,g5,g6⟩:=HA.ok_row (hr.okH _ (hH _ hmem));exact lendH hmem hperm g6 (fun hh hrw K2 k1 k2=>vq (c:=rr.c) (e:=rr.e) g1 g4 (Rw.is g3 (by rw[g4];exact hrw) (hK.trans k1) k2 h0)) h
   . split at h
     . rename_i rr Hf' hq;replace h:=ak h;obtain⟨h0,h⟩:=h;rw[bj0]at h0;obtain⟨a,ha,hmem,hperm⟩:=bJ hq;obtain rfl:=bP ha;obtain⟨ad,cap,cs,g1,g2,g3,g4,g5,g6⟩:=HA.ok_row (hr.okF _ (hF _ hmem));exact lendF hmem hperm g6 (fun hh hrw K2 k1 k2=>vq (c:=rr.c) (e:=rr.e) (aq hr.hm g1) g4 (Rw.is g3 (by rw[g4];exact hrw) ((hr.hK.trans hK).trans k1) k2 h0)) h
     . split at h
       . rename_i rr H' hq;replace h:=ak h;obtain⟨h0,h⟩:=h;split at h
         . rename_i ww hkn;obtain⟨a,ha,hmem,hperm⟩:=bJ hq;obtain rfl:=xq ha;obtain⟨v,K0,g1,g2,g3,g4⟩:=hr.okH _ (hH _ hmem);exact lendH hmem hperm (A:=rr.o.own K0 [v] rr.x) (by simp only[HA.conc,g1,g2]) (fun hh hrw K2 k1 k2=>m7 g1 (xz hkn (OT.own_is (Hp.le_refl K2) rr.o h0 (KOk.own (g3.mono (hK.trans k1)) hrw) k2))) h
         . cases h
       . split at h
         . rename_i rr Hf' hq;replace h:=ak h;obtain⟨h0,h⟩:=h;split at h
           . rename_i ww hkn;obtain⟨a,ha,hmem,hperm⟩:=bJ hq;obtain rfl:=xq ha;obtain⟨v,K0,g1,g2,g3,g4⟩:=hr.okF _ (hF _ hmem);exact lendF hmem hperm (A:=rr.o.own K0 [v] rr.x) (by simp only[HA.conc,g1,g2]) (fun hh hrw K2 k1 k2=>m7 (aq hr.hm g1) (xz hkn (OT.own_is (Hp.le_refl K2) rr.o h0 (KOk.own (g3.mono ((hr.hK.trans hK).trans k1)) hrw) k2))) h
           . cases h
         . split at h
           . rename_i rr H' hq;split at h
             . rename_i d0 hkn;obtain⟨a,ha,hmem,hperm⟩:=bJ hq;obtain rfl:=cH ha;have hok1:=HA.ok_mono (fun _ _ h=>h) hK (hr.okH _ (hH _ hmem));obtain⟨b,us',g1,g2,g3⟩:=CN hkn (hFo K1 (Hp.le_refl K1) _ hok1);exact lendH hmem hperm (by rw[<- hFc];exact g2) (fun hh hrw K2 k1 k2=>A4 g1 (Cl.at_ hrw k2 (g3.mono k1))) h
             . cases h
           . split at h
             . rename_i rr Hf' hq;split at h
               . rename_i d0 hkn;obtain⟨a,ha,hmem,hperm⟩:=bJ hq;obtain rfl:=cH ha;have hokf:=hr.okF _ (hF _ hmem);have hok1:HA.ok m K1 (.blk i rr.c rr.e rr.cs):=HA.ok_mono hr.toPur.mono (hr.hK.trans hK) hokf;obtain⟨b,us',g1,g2,g3⟩:=CN hkn (hFo K1 (Hp.le_refl K1) _ hok1);exact lendF hmem hperm (by rw[<- HA.conc_mono hr.toPur.mono hokf,<- hFc];exact g2) (fun hh hrw K2 k1 k2=>A4 g1 (Cl.at_ hrw k2 (g3.mono k1))) h
               . cases h
             . cases h
theorem wA(hp:Pur fr σ m K ρ):∀xs:List Operand,SV.relL m K (xs.map (σ.evr n)) (xs.map (ev n ρ))
 |[]=>rfl
 |x::xs=>⟨_,_,rfl,hp.evr n x,wA hp xs⟩
def iM(P:Program)(E:En)(n:Nat)(fr:Frz)(σ:Zt)(ρ:Sl1)(w:World)(o:Oper)(Ψ:Hn P->Zt->Prop):Prop :=
 ∀(X:Act->World->Prop) (Q:Exit->Act->World->Prop),(∀h' σ' m' K' ρ' w',Rel E fr σ' m' K' ρ' w'->Same σ σ'->Ψ h' σ'->X (act1 n ρ') w')->o.wp P (act1 n ρ) w X Q
theorem qv{k:Hn P->Zt->Option R}{r:R}{d:Option Nat}{q:OkSpec P}{lend:List Nat}{am:Option (List Nat)}{h1 h2:Hn P}{fo:Operand}{xs:Array Operand}{ts:Array TypeId}{f:Nat}{cs:List SV}{t:TypeId}{pos:String}{af:Array Edge} 
   (hf:σ.ev n fo=.fn f cs) (h:eH σ d f (xs.toList.map (σ.evr n)++cs) q lend am h1 h2 k=some r) (hr:Rel E fr σ m K ρ w):iM P E n fr σ ρ w ⟨d,.call ⟨.value fo,xs,ts⟩,t,pos,af,none⟩ (fun h' σ'=>k h' σ'=some r):=fun X Q hX=>by
 unfold eH at h;replace h:=b7 h;obtain⟨h3,h4,h⟩:=h;rw[Y1]at h3;have hq:=Y0 h3.1;have hv:=hr.toPur.ev n fo;rw[hf]at hv;obtain⟨us,hv,hcs⟩:=hv;subst hq;have hrel:=fc (wA hr.toPur xs.toList (n:=n)) hcs;have hcall:=qz hr h3.2 lend (us:=xs.toList.map (ev n ρ)++us) h h4 (Hp.le_refl K) hrel (fun _ h=>h) (fun _ h=>h) (fun a h=>by simp at h) (fun _=>rfl) (fun _ _ _ h=>h) hr.toSep (fun w' L' h=>h) (fun e=>by rw[cM0]at e;exact⟨by simpa using e.1,by simpa using e.2,rfl,rfl,rfl⟩);unfold Oper.wp;have hrun:(execOp (act1 n ρ).eval ⟨d,.call ⟨.value fo,xs,ts⟩,t,pos,af,none⟩).run P w=.ok (.enter q.s.f (xs.map (ev n ρ)++us.toArray)) w:=by
   rw[cg];have:=q.ent (xs.map (ev n ρ)++us.toArray) w;simp[execOp,resolve,Deferred.ofValue,hv,invoke,this]
 rw[hrun,Oper.upon_enter];have hargs:xs.map (ev n ρ)++us.toArray=(xs.toList.map (ev n ρ)++us).toArray:=by apply cN0;simp
 rw[hargs];refine hcall.mono ?_;rintro e w' ⟨v,σ',h',m',K',rfl,g1,g2,g3⟩;show X _ _;cases d with
 |some d=>rw[bT];exact hX _ _ _ _ _ _ g3 g2 g1
 |none=>exact hX _ _ _ _ _ _ g3 g2 g1
theorem Jf{t:TypeId}{nm:String}{f:Nat}(h:sb P t nm f=true)(v:Value)(args:Array Value)(w:World):(callMethod (.iface t v) nm args).run P w=(callFunc f (#[v]++args)).run P w:=by
 unfold sb at h;split at h
 . rename_i i d hi hd;split at h
   . rename_i mt hm;rw[Y1]at h;obtain⟨h2,h3⟩:=h;split at h3
     . rename_i g p hg;rw[Y1]at h3;obtain⟨h3,h4⟩:=h3;obtain rfl:=Y0 h3;have hp:mt.path = #[]:=by simpa using h2
       have hrec:∀o:Option String,(receiverAt t (.val v) p o).run P w=.ok v w:=by
         intro o;unfold receiverAt;simp only[Sem.run_bind,run_underlying hd,Result.andThen];cases d <;> cases p <;> first |rfl|(simp at h4;done)
       have hmth:(method (P.types.size+Made.depth) t v nm).run P w=.ok (g,v) w:=by
         obtain⟨k,hk⟩:∃k,P.types.size+Made.depth=k+1:=⟨P.types.size+(Made.depth-1),by simp[Made.depth]⟩
         rw[hk];simp[method,typeInfo,hi,hm,hp,hg,follow,hrec,Result.andThen]
       simp[callMethod,hmth,Result.andThen]
     . cases h3
   . cases h
 . cases h
theorem Jg {t e:TypeId} {nm:String} {f b o:Nat} {u:Value} (h:xt P t nm f=some e) (args:Array Value) (w:World) (hl:(loadVar e ⟨b,o,none⟩).run P w = .ok u w) :
   (callMethod (.iface t (.pointer (some ⟨b,o,none⟩))) nm args).run P w=(callFunc f (#[u]++args)).run P w:=by
 unfold xt at h;split at h
 . rename_i i e' hi hd;split at h
   . rename_i mt hm;replace h:=ak h;obtain⟨h2,h⟩:=h;cases h;rw[Y1]at h2;obtain⟨h2,h3⟩:=h2;split at h3
     . rename_i g p hg;rw[Y1]at h3;obtain⟨h3,h4⟩:=h3;obtain rfl:=Y0 h3;obtain rfl:p=false:=by simpa using h4
       have hp:mt.path = #[]:=by simpa using h2
       have hrec:∀o':Option String,(receiverAt t (.val (.pointer (some ⟨b,o,none⟩))) false o').run P w=.ok u w:=by
         intro o';unfold receiverAt;simp only[Sem.run_bind,run_underlying hd,Result.andThen];cases o' with
         |none=>simp[Place.get,asAddr,hl,Result.andThen]
         | some s =>
           have hc : (Builtin.ssaWrapNilChk_ #[t] t #[.pointer (some ⟨b, o, none⟩), strVal "", strVal s]).run P w = .ok (.pointer (some ⟨b, o, none⟩)) w := rfl;simp [Place.get,asAddr,hl,Result.andThen,hc]
       have hmth:(method (P.types.size+Made.depth) t (.pointer (some ⟨b,o,none⟩)) nm).run P w=.ok (g,u) w:=by
         obtain⟨k,hk⟩:∃k,P.types.size+Made.depth=k+1:=⟨P.types.size+(Made.depth-1),by simp[Made.depth]⟩
         rw[hk];simp[method,typeInfo,hi,hm,hp,hg,follow,hrec,Result.andThen]
       simp[callMethod,hmth,Result.andThen]
     . cases h3
   . cases h
 . cases h
theorem Ai{k:Hn P->Zt->Option R}{r:R}{d:Option Nat}{q:OkSpec P}{lend:List Nat}{am:Option (List Nat)}{h1 h2:Hn P}{fo:Operand}{ut:TypeId}{nm:String}{sv:SV}{u0 u:Value}{xs:Array Operand}{ts:Array TypeId}{t:TypeId}{pos:String}{af:Array Edge} 
   (hv:ev n ρ.f fo=.iface ut u0) (hcs:SV.rel m K sv u) (hcm:∀args,(callMethod (.iface ut u0) nm args).run P w=(callFunc q.s.f (#[u]++args)).run P w) (h:eH σ d q.s.f (sv::xs.toList.map (σ.evr n)) q lend am h1 h2 k=some r) (hr:Rel E fr σ m K ρ w):iM P E n fr σ ρ w ⟨d,.call ⟨.invoke fo nm,xs,ts⟩,t,pos,af,none⟩ (fun h' σ'=>k h' σ'=some r):=fun X Q hX=>by
 unfold eH at h;replace h:=b7 h;obtain⟨h3,h4,h⟩:=h;rw[Y1]at h3;have hrel:SV.relL m K (sv::xs.toList.map (σ.evr n)) (u::xs.toList.map (ev n ρ)):=⟨u,_,rfl,hcs,wA hr.toPur xs.toList (n:=n)⟩;have hcall:=qz hr h3.2 lend (us:=u::xs.toList.map (ev n ρ)) h h4 (Hp.le_refl K) hrel (fun _ h=>h) (fun _ h=>h) (fun a h=>by simp at h) (fun _=>rfl) (fun _ _ _ h=>h) hr.toSep (fun w' L' h=>h) (fun e=>by rw[cM0]at e;exact⟨by simpa using e.1,by simpa using e.2,rfl,rfl,rfl⟩);unfold Oper.wp;have hrun:(execOp (act1 n ρ).eval ⟨d,.call ⟨.invoke fo nm,xs,ts⟩,t,pos,af,none⟩).run P w=.ok (.enter q.s.f (#[u]++xs.map (ev n ρ))) w:=by
   rw[cg];have:=q.ent (#[u]++xs.map (ev n ρ)) w;have h9:=(hcm (xs.map (ev n ρ))).trans this;have e9:(#[Value.iface ut u0]++xs.map (ev n ρ)).extract 1 (#[Value.iface ut u0]++xs.map (ev n ρ)).size=xs.map (ev n ρ):=by
     apply cN0;simp;exact V8 (by simp)
   have e8:(#[Value.iface ut u0]++xs.map (ev n ρ))[0]?=some (Value.iface ut u0):=by
     simp[eA0]
   have hinv:(invoke (.fn (.method nm) #[]) (#[Value.iface ut u0]++xs.map (ev n ρ))).run P w=.ok (.enter q.s.f (#[u]++xs.map (ev n ρ))) w:=by
     unfold invoke;rw[e8];simp only[e9];exact h9
   simp only[execOp,resolve,hv,Sem.run_bind,Sem.run_pure,Result.andThen];exact hinv
 rw[hrun,Oper.upon_enter];have hargs : #[u]++xs.map (ev n ρ)=(u::xs.toList.map (ev n ρ)).toArray:=by apply cN0;simp
 rw[hargs];refine hcall.mono ?_;rintro e w' ⟨v,σ',h',m',K',rfl,g1,g2,g3⟩;show X _ _;cases d with
 |some d=>rw[bT];exact hX _ _ _ _ _ _ g3 g2 g1
 |none=>exact hX _ _ _ _ _ _ g3 g2 g1
theorem AN{k:Hn P->Zt->Option R}{r:R}{d:Option Nat}{q:OkSpec P}{lend:List Nat}{h1 h2:Hn P}{fo:Operand}{ut:TypeId}{nm:String}{sv:SV}{xs:Array Operand}{ts:Array TypeId}{t:TypeId}{pos:String}{af:Array Edge} 
   (hf:σ.ev n fo=.ifc ut sv) (h:rU n ⟨d,.call ⟨.invoke fo nm,xs,ts⟩,t,pos,af,none⟩ xs.toList nm ut sv q lend h1 h2 σ k=some r) (hr:Rel E fr σ m K ρ w):iM P E n fr σ ρ w ⟨d,.call ⟨.invoke fo nm,xs,ts⟩,t,pos,af,none⟩ (fun h' σ'=>k h' σ'=some r):=by
 have hv:=hr.toPur.ev n fo;rw[hf]at hv;obtain⟨u,hv,hcs⟩:=hv;unfold rU at h;cases hm:sb P ut nm q.s.f with
 | true =>
   rw[hm]at h;exact Ai hv hcs (fun args=>Jf hm u args w) h hr
 | false =>
   rw[hm]at h;simp only[cond_false]at h;split at h
   . rename_i e he;obtain⟨sv',b,o,u',h,rfl,hld,hcs'⟩:=vZ h (fun _ _ _ _=>rfl) hr.cls hcs;exact Ai hv hcs' (fun args=>Jg he args w (hld w hr.hold)) h hr
   . cases h
end
end
section
variable [BldA]
section
variable {R:Type}{P:Program}{E:En}{n:Nat}{m m':List M}{K K':Hp}{fr:Frz}{σ σ':Zt}{ρ ρ':Sl1}{w w':World}
theorem dG:∀(l r:List (Nat×SV)) (i:Nat),look (l++r) i=match look l i with|some v=>some v|none=>look r i
 |[],r,i=>rfl
 | p :: l,r,i=>by
   show (bif Y3 p.1 i then some p.2 else look (l++r) i)=_;show _=match (bif Y3 p.1 i then some p.2 else look l i)with|some v=>some v|none=>look r i
   cases Y3 p.1 i with
   |true=>rfl
   |false=>exact dG l r i
theorem iu:∀(W:List Nat) (i:Nat),look (anys W) i=if i∈W then some .any else none
 |[],i=>by simp[anys,look]
 | j :: W,i=>by
   show (bif Y3 j i then some SV.any else look (anys W) i)=_;cases hb:Y3 j i with
   |true=>have:=Y0 hb;subst this;simp
   | false =>
     have:¬ i=j:=fun e=>by subst e;rw[bY0]at hb;cases hb
     simp[iu W i,this]
theorem pY{W:List Nat}:∀{l:List (Nat×SV)} {i:Nat},rM W l=true->i∉W->look l i=none
 |[],i,_,_=>rfl
 | p :: l,i,h,hi=>by
   simp only[rM,Y1]at h;show (bif Y3 p.1 i then some p.2 else look l i)=none;cases hb:Y3 p.1 i with
   | true =>
     have:=Y0 hb;subst this;exact absurd (by simpa using h.1) hi
   |false=>exact pY h.2 hi
theorem qF{f:Nat->SV}{mu:List M}:∀{sl:List (Nat×Kd)} {vs:List (Nat×SV)} {i:Nat} {sv:SV},slC m K f mu sl vs->look vs i=some sv->∀u,SV.rel m K (f i) u->SV.rel mu K sv u
 |[],vs,i,sv,h,hl=>by obtain rfl:vs=[]:=h;cases hl
 | p :: sl,vs,i,sv,h,hl=>by
   obtain⟨s,r,rfl,h1,h2⟩:=h;change (bif Y3 p.1 i then some s else look r i)=some sv at hl;cases hb:Y3 p.1 i with
   | true =>
     rw[hb]at hl;cases hl;have:=Y0 hb;subst this;exact h1
   |false=>rw[hb]at hl;exact qF h2 hl
theorem Rel.subs{f:SV->Option SV}(hf:∀a b v,f a=some b->SV.rel m K a v->SV.rel m K b v)(h:Rel E fr σ m K ρ w):Rel E fr ⟨σ.base,bc f σ.top,σ.H.map (HA.sub f),σ.Hf,σ.nx,σ.kq⟩ m K ρ w where
 hm:=h.hm
 hK:=h.hK
 nx:=h.nx
 kq:=h.kq
 base:=h.base
 dead:=h.dead
 old:=fun i hi=>by
   rw[show look (bc f σ.top) i=_ from dg σ.top i]at hi;cases hl:look σ.top i with
   |none=>exact h.old i hl
   |some x=>rw[hl]at hi;cases hi
 top := fun i sv hi => by
   rw[show look (bc f σ.top) i=_ from dg σ.top i]at hi;cases hl:look σ.top i with
   |none=>rw[hl]at hi;cases hi
   | some x =>
     rw[hl]at hi;cases hi;exact fg hf x (h.top i x hl)
 okH:=fun a ha=>by
   obtain⟨a0,h0,rfl⟩:=Y7.1 ha;exact fp hf (h.okH a0 h0)
 okF:=h.okF
 mks:=h.mks
 sep:=by
   have:=h.sep;unfold Zt.atoms at this ⊢;rw[show (⟨σ.base,bc f σ.top,σ.H.map (HA.sub f),σ.Hf,σ.nx,σ.kq⟩:Zt).H=σ.H.map (HA.sub f)from rfl,fU];exact this
theorem iv{H:List HA}{act:List Nat}:∀a∈bU H act,a∈H:=fun a ha=>(ac0.1 ha).1
theorem Jm{H:List HA}{act:List Nat}:∀a∈only H act,a∈H:=fun a ha=>(ac0.1 ha).1
theorem F3(H:List HA)(act:List Nat):H.Perm (only H act++bU H act):=(ej0 (fun a:HA=>act.contains a.id) H).symm
theorem Rel.frz(hr:Rel E fr σ m K ρ w)(act:List Nat):Rel E ⟨m,K,ρ,fun _=>false,fr.F,fr.k0⟩ (σ.frz act) m K ρ w where
 hm:=bJ0 m
 hK:=Hp.le_refl K
 nx:=hr.nx
 kq:=fun _=>rfl
 base:=hr.toPur.get
 dead:=fun i h=>(by cases h)
 old:=fun i _=>.inr rfl
 top:=fun i sv h=>(by cases h)
 okH:=fun a ha=>hr.okH a (Jm a ha)
 okF:=fun a ha=>hr.toPur.all a (by
   rcases V3.1 ha with ha|ha
   . exact af0 _ (iv a ha)
   . exact ae0 _ ha)
 mks:=hr.mks
 sep:=by
   show Sep E K ((only σ.H act).map (HA.conc m)++((bU σ.H act++σ.Hf).map (HA.conc m)++fr.F)) w;rw[X6,hr.toPur.fz',X1,<- X1,<- X6];exact Sep.perm (((F3 σ.H act).map _).append_right _) hr.toSep
structure Inn(σ:Zt)(fr fr':Frz)(m:List M)(K:Hp)(ρ:Sl1)(rest:List HA)(σ':Zt)(W:List Nat):Prop where
 fm:fr'.m=m
 fK:fr'.K=K
 fρ:fr'.ρ=ρ
 fF:fr'.F=fr.F
 fk:fr'.k0=fr.k0
 hf:σ'.Hf=rest++σ.Hf
 rest:∀a∈rest,a∈σ.H
 base:∀i,i∉W->fr'.dead i=false
theorem Inn.sep(hr:Rel E fr σ m K ρ w){fr':Frz}{rest:List HA}{W:List Nat}(hi:Inn σ fr fr' m K ρ rest σ' W)(h:Rel E fr' σ' m' K' ρ' w'):Sep E K' (σ'.H.map (HA.conc m')++(rest.map (HA.conc m)++σ.fz fr)) w':=by
 have:=h.toSep;unfold Zt.fz at this;rw[hi.hf,hi.fm,hi.fF,X6,hr.toPur.fz',X1]at this;exact this
theorem rq {s:Sh} {W:List Nat} {rest:List HA} {x:TL s.ts} {k:Zt->Option R} {r:R} (hr:Rel E fr σ m K ρ w) {fr':Frz} (hi:Inn σ fr fr' m K ρ rest σ' W) (h:Rel E fr' σ' m' K' ρ' w') (hp:σ'.pack s W=some x) (hl:σ.lay s W rest x k=some r) :
   ∃σ'' m'',k σ''=some r/\Same σ σ''/\Rel E fr σ'' m'' K' ρ' w':=by
 unfold Zt.pack at hp;replace hp:=ak hp;obtain⟨hk,hp⟩:=hp;split at hp
 . rename_i g hg;unfold Zt.lay at hl;rw[TL.of_list hp]at hl;split at hl
   . rename_i vs u hu;have hmm:m <+: m':=by have:=h.hm;rwa [hi.fm]at this
     have hKK:K.le K':=by have:=h.hK;rwa [hi.fK]at this
     have hoo:bM s.bl m.length=true:=by
       unfold Sh.un at hu;rw[hr.nx];cases ho:bM s.bl σ.nx with
       |true=>rfl
       |false=>rw[ho]at hu;cases hu
     obtain⟨vs',u',ms,e1,e2,e3,e4,e5,e6,e7,e8⟩:=Sh.get_un hg h.okH hmm hoo;rw[hr.nx,hu]at e1;cases e1;have hp':=ax m ms;have hfil:=qk hr.toPur (m':=m++ms) (fun _ _ k=>aq hp' k) hKK;refine⟨_,m++ms,hl,⟨rfl,rfl⟩,⟨⟨hr.hm.trans hp',hr.hK.trans hKK,e2,fun e=>(by cases e),hr.base,hr.dead,fun i hi'=>?_,fun i sv hi'=>?_,fun a ha=>?_,hr.okF,(by have:=h.mks;rwa [hi.fk]at this)⟩,?_⟩⟩
     . change look (bc (bR σ) vs++(anys W++σ.top)) i=none at hi';rw[dG]at hi';split at hi'
       . cases hi'
       . rw[dG,iu]at hi';by_cases hW:i∈W
         . rw[if_pos hW]at hi';cases hi'
         . rw[if_neg hW]at hi';have h1:=h.old i (pY hk hW);rw[hi.base i hW,hi.fρ]at h1
           rcases h1 with h1|h1
           . cases h1
           . rw[h1];exact hr.old i hi'
     . change look (bc (bR σ) vs++(anys W++σ.top)) i=some sv at hi';rw[dG]at hi';split at hi'
       . rename_i v hv;cases hi';rw[dg]at hv;cases hl:look vs i with
         |none=>rw[hl]at hv;cases hv
         |some v0=>rw[hl]at hv;cases hv;exact fg hfil _ (qF e3 hl _ (h.toPur.get i))
       . rw[dG,iu]at hi';by_cases hW:i∈W
         . rw[if_pos hW]at hi';cases hi';trivial
         . rw[if_neg hW]at hi';have h1:=h.old i (pY hk hW);rw[hi.base i hW,hi.fρ]at h1
           rcases h1 with h1|h1
           . cases h1
           . rw[h1];exact SV.mono (fun _ _ k=>aq hp' k) hKK _ (hr.top i sv hi')
     . rcases V3.1 ha with ha|ha
       . obtain⟨a0,h0,rfl⟩:=Y7.1 ha;exact fp hfil (e4 a0 h0)
       . exact HA.ok_mono (fun _ _ k=>aq hp' k) hKK (hr.okH a (hi.rest a ha))
     . have s1:=e6 E _ w' (hi.sep hr h);have s2:Sep E K' (u.H.map (HA.conc (m++ms))++(rest.map (HA.conc m)++σ.fz fr)) w':=by
         have s3:Sep E K' (g.H.map (HA.conc m')++(u.H.map (HA.conc (m++ms))++(rest.map (HA.conc m)++σ.fz fr))) w':=Sep.perm (kA _ _ _) s1;exact Sep.drops s3
       show Sep E K' ((u.H.map (HA.sub (bR σ))++rest).map (HA.conc (m++ms))++σ.fz fr) w';rw[X6,fU,hr.toPur.conc hp' hi.rest,X1];exact s2
   . cases hl
 . cases hp
theorem wD{W:List Nat}{rest:List HA}(hr:Rel E fr σ m K ρ w){fr':Frz}(hi:Inn σ fr fr' m K ρ rest σ' W)(h:Rel E fr' σ' m' K' ρ' w'):Same σ (σ.thaw σ' rest W)/\Rel E fr (σ.thaw σ' rest W) m' K' ρ' w':=by
 have hmm:m <+: m':=by have:=h.hm;rwa [hi.fm]at this
 have hKK:K.le K':=by have:=h.hK;rwa [hi.fK]at this
 have old:∀i,look σ'.top i=none->i∉W->ρ' i=ρ i:=fun i h1 h2=>by
   have:=h.old i h1;rw[hi.base i h2,hi.fρ]at this
   rcases this with h3|h3
   . cases h3
   . exact h3
 refine⟨⟨rfl,rfl⟩,⟨⟨hr.hm.trans hmm,hr.hK.trans hKK,h.nx,fun e=>(by cases e),hr.base,hr.dead,fun i hi'=>?_,fun i sv hi'=>?_,fun a ha=>?_,hr.okF,(by have:=h.mks;rwa [hi.fk]at this)⟩,?_⟩⟩
 . change look (σ'.top++(anys W++σ.top)) i=none at hi';rw[dG]at hi';split at hi'
   . cases hi'
   . rename_i hn;rw[dG,iu]at hi';by_cases hW:i∈W
     . rw[if_pos hW]at hi';cases hi'
     . rw[if_neg hW]at hi';rw[old i hn hW];exact hr.old i hi'
 . change look (σ'.top++(anys W++σ.top)) i=some sv at hi';rw[dG]at hi';split at hi'
   . rename_i v hv;cases hi';exact h.top i _ hv
   . rename_i hn;rw[dG,iu]at hi';by_cases hW:i∈W
     . rw[if_pos hW]at hi';cases hi';trivial
     . rw[if_neg hW]at hi';rw[old i hn hW];exact SV.mono (fun _ _ k=>aq hmm k) hKK _ (hr.top i sv hi')
 . rcases V3.1 ha with ha|ha
   . exact h.okH a ha
   . exact HA.ok_mono (fun _ _ k=>aq hmm k) hKK (hr.okH a (hi.rest a ha))
 . show Sep E K' ((σ'.H++rest).map (HA.conc m')++σ.fz fr) w';rw[X6,hr.toPur.conc hmm hi.rest,X1];exact hi.sep hr h
end
end
section
variable [BldA]
section
variable {R:Type}{P:Program}{E:En}{n:Nat}{m:List M}{K:Hp}{fr:Frz}{σ:Zt}{ρ:Sl1}{w:World}{t:TypeId}{pos:String}{af:Array Edge}{d:Option Nat}
theorem DJ{K:Hp}{t:Tp}:∀{xs:List t.den} {cs:List Value} (k:Nat),Els K t cs xs->Els K t (cs.take (k*t.size)) (xs.take k)
 |xs,cs,0,h=>by simp[Els]
 |[],cs,k+1,h=>by rw[show cs=[]from h,List.take_nil,List.take_nil];exact rfl
 | x :: xs,cs,k + 1,h=>by
   obtain⟨es,r,rfl,h1,h2⟩:=h;refine⟨es,r.take (k*t.size),?_,h1,DJ k h2⟩;rw[aC0,bh0,<- h1.len,bD0]
theorem Row.two2{K:Hp}{e:TypeId}{t:Tp}{ad:Option Addr}{m cp:Nat}{xs:List t.den}:∀h,Row K e t (.slice ad m cp) xs h->((ad=none/\cp=0/\m=0)\/∃g,ad=some ⟨g,0,none⟩)/\m<=cp/\xs.length=m:=by
 rintro h ⟨cs,h1,h2,h3⟩
 rcases h3 with⟨h3,h4,_⟩|⟨g,cap,cur,h3,_,h4,h5,_⟩
 . simp only[Value.slice.injEq]at h3;obtain⟨rfl,e1,rfl⟩:=h3;exact⟨.inl ⟨rfl,rfl,by omega⟩,by omega,e1.symm⟩
 . simp only[Value.slice.injEq]at h3;obtain⟨rfl,e1,rfl⟩:=h3;exact⟨.inr ⟨g,rfl⟩,by omega,e1.symm⟩
theorem Row.cut{K:Hp}{e:TypeId}{t:Tp}{ad:Option Addr}{m cp:Nat}{xs z:List t.den}{hi:Int}(hz:subL xs 0 hi=some z):∀h,Row K e t (.slice ad m cp) xs h->Row K e t (.slice ad z.length cp) z h:=by
 rintro h ⟨cs,h1,h2,h3⟩;obtain⟨a1,a2,a3,rfl⟩:=jJ hz;obtain⟨k,rfl⟩:=W6 (show 0<=hi by omega);simp only[W2,cj0,ab0];have hk:k<=xs.length:=by omega
 have hl:(xs.take k).length=k:=by rw[X4];omega
 refine⟨cs.take (k*t.size),DJ k h1,?_,?_⟩
 . rw[hl,X4,h2,an0 (aI0 _ hk)]
 . rcases h3 with⟨h3,h4,h5⟩|⟨g,cap,cur,h3,h5,h6,h7,h8,h9⟩
   . simp only[Value.slice.injEq]at h3;obtain⟨rfl,e1,rfl⟩:=h3;exact .inl ⟨by rw[hl],by omega,h5⟩
   . simp only[Value.slice.injEq]at h3;obtain⟨rfl,e1,rfl⟩:=h3;refine .inr ⟨g,cp,cur,rfl,h5,by omega,h7,h8,?_⟩;rw[<- h9,bq0,hl,an0 (aI0 _ hk)]
theorem V.cut{C:World->Prop}{ρ:Sl0}{d:Option Nat}{g:Option (Nat×Bool)}{x y:Operand}{tx e:TypeId}{sz:Nat}{α:Type}{ad:Option Addr}{m cp:Nat}{xs z:List α}{hi:Int}{k:IntKind}
   (ht:P.underlying tx=some (.slice e)) (hz:(P.info? e).map (·.size)=some sz) (hd:((ad=none/\cp=0/\m=0)\/∃g,ad=some ⟨g,0,none⟩)/\m<=cp/\xs.length=m) (hy:subL xs 0 hi=some z) (hx:ev n ρ x=.slice ad m cp) (hh:ev n ρ y=.int k hi) :
   Val P n C ρ ⟨d,.slice tx x none (some y) none,t,pos,af,g⟩ (.slice ad z.length cp):=by
 obtain⟨hd,hm,hl⟩:=hd;obtain⟨a1,a2,a3,rfl⟩:=jJ hy;obtain⟨h,rfl⟩:=W6 (show 0<=hi by omega);simp only[W2,cj0,ab0];have e1:(xs.take h).length=h:=by rw[X4];omega
 rw[e1]
 rcases hd with⟨rfl,rfl,rfl⟩|⟨g,rfl⟩
 . have h0:h=0:=by omega
   subst h0;intro w _;cases hi':P.info? e with
   |none=>rw[hi']at hz;simp at hz
   |some i'=>simp[execOp,hx,hh,Instr.sliceAt,run_underlying ht,Instr.slice,Instr.sliceBounds,Instr.sliceBound,asIntOf,sizeOf,typeInfo,hi']
 . have:=V.slc (P:=P) (n:=n) (C:=C) (ρ:=ρ) (d:=d) (t:=t) (pos:=pos) (af:=af) (g:=‹Option (Nat×Bool)›) (lo:=none) (hi:=some y) (l:=0) (h:=h) ht hz hx nofun (fun _=>rfl) (fun q hq=>by cases hq;exact⟨k,hh⟩) nofun (by omega) (by omega) hm;simpa using this
theorem Gl{s:TypeId}{x y:SV}{k:Zt->Option R}{r:R}(h:nE P σ d s x y k=some r):∃d0,d=some d0:=by
 unfold nE at h;split at h
 . split at h
   . split at h
     . replace h:=ob h;obtain⟨z,_,h⟩:=h;obtain⟨d0,e,_⟩:=dD h;exact⟨d0,e⟩
     . cases h
   . cases h
 . cases h
theorem IW{d:Nat}{s:TypeId}{x y:Operand}{k:Zt->Option R}{r:R}(h:nE P σ (some d) s (σ.ev n x) (σ.ev n y) k=some r)(hr:Rel E fr σ m K ρ w):OpOk P E n fr σ ρ w ⟨some d,.slice s x none (some y) none,t,pos,af,none⟩ (fun σ'=>k σ'=some r):=fun X Q hX=>by
 have hx:=hr.toPur.ev n x;have hy:=hr.toPur.ev n y;unfold nE at h;split at h
 . rename_i e i kq b hs e1 e2;rw[e1]at hx;rw[e2]at hy;split at h
   . rename_i q H hq;split at h
     . rename_i hz;replace h:=ob h;obtain⟨z,hzl,h⟩:=h;obtain⟨d0,hd0,h⟩:=dD h;cases hd0;obtain⟨a,ha,hmem,hsub,hsep⟩:=hr.take hq;obtain rfl:=bP ha;obtain⟨ad,cap,cs,g1,g2,g3,g4,g5,g6⟩:=HA.ok_row (hr.okH _ hmem);have hx0:=hx.1;rw[g1]at hx0;have hxe:ev n ρ.f x=.slice ad q.n cap:=by simpa using hx0.symm
       rw[g6]at hsep;have hrow:Sep E K (Row K q.e q.t (.slice ad q.n cap) q.l::(H.map (HA.conc m)++σ.fz fr)) w:=hsep.mono (fun h k=>Row.of_rw g3 h (by rw[g4];exact k));have h2:=hrow.fact (fun h k=>Row.two2 h k);have hv:=V.cut (P:=P) (n:=n) (C:=fun w'=>w'=w) (ρ:=ρ.f) (d:=some d) (t:=t) (pos:=pos) (af:=af) (g:=none) hs hz h2 hzl hxe hy;unfold Oper.wp;rw[cg,hv w rfl,Oper.upon_value,bT];obtain⟨m',hrel⟩:=hr.newR (d:=d) hsub (Hp.le_refl K) (hrow.mono (Row.cut hzl));exact hX _ _ _ _ _ hrel ⟨rfl,rfl⟩ h
     . cases h
   . cases h
 . cases h
theorem A.clearRw{s e:TypeId}{lo dl dc m cap bt:Nat}{z:Value}{cs:List Value}{adr adx:Option Addr}{L:List ah}{x:Operand}(hs:P.underlying s=some (.slice e))(hi:Inf P e z 1 bt)(hzs:z.cells.size=1)
   (hx:ev n ρ x=.slice adx dl dc) (ho:dl=0\/∃b,adr=some ⟨b,0,none⟩/\adx=some ⟨b,lo,none⟩) (hlo:lo+dl<=m) (h1:∀u∈z.cells.toList,u.oneCell'=true) :
   Ao P E n ⟨d,.call ⟨.builtin .clear,#[x],#[s]⟩,t,pos,af,none⟩ ρ.f K (Rw e 1 (.slice adr m cap) m cs::L)
     (fun ρ' K' L'=>ρ'=(match d with|some d=>upd ρ.f d (.tuple #[])|none=>ρ.f)/\K=K'/\L'=Rw e 1 (.slice adr m cap) m (cs.take lo++(zrow dl z.cells.toList++cs.drop (lo+dl)))::L):=by
 refine⟨fun w hsep X Q hX=>?_⟩;have hrun:∃w',(Builtin.clear_ #[s] t #[.slice adx dl dc]).run P w=.ok (.tuple #[]) w'/\Sep E K (Rw e 1 (.slice adr m cap) m (cs.take lo++(zrow dl z.cells.toList++cs.drop (lo+dl)))::L) w':=by
   by_cases h0:dl=0
   . subst h0;refine⟨w,?_,?_⟩
     . cases adx <;> simp[Builtin.clear_,run_underlying hs,Result.andThen]
     . have e1:zrow 0 z.cells.toList=[]:=rfl;rw[e1,aH0,aD0,as0];exact hsep
   . obtain⟨b,rfl,rfl⟩:=ho.resolve_left h0;obtain⟨h,⟨hlen,h3⟩,hd0,hs2⟩:=hsep
     rcases h3 with⟨h3,_⟩|⟨gb,cp,cur,h3,rfl,h4,h5,h6,h7⟩
     . cases h3
     simp only[Value.slice.injEq,Z3,Addr.mk.injEq,and_true,true_and]at h3;obtain⟨rfl,rfl⟩:=h3;rw[ba0]at h6 h7 hlen;have hblk:w.heap[b]?=some (.cells cur e (0,0)):=hs2.sub b _ (Hp.join_right (bn b _) (hd0 b _ (bn b _)));have hcz:cur.toList.length=cap:=by rw[Y5];exact h6
     have hzl:(zrow dl z.cells.toList).length=dl:=by rw[ix,Y5,hzs,ba0]
     have hst:=run_storeCells_at P b lo e (zrow dl z.cells.toList) 0 cur w hblk (by rw[<- Y5,hcz,hzl];omega) (fun v hv=>yS h1 dl (by omega) v (by rw[uq (by omega)];exact hv));simp only[aD0]at hst;rw[hzl]at hst;refine⟨w.setRow b (cur.toList.take lo++zrow dl z.cells.toList++cur.toList.drop (lo+dl)).toArray,?_,?_⟩
     . obtain⟨i,hi1,hi2⟩:∃i,P.info? e=some i/\i.zero=some z:=by
         unfold Inf at hi;cases hq:P.info? e with
         |none=>rw[hq]at hi;simp at hi
         |some i=>rw[hq]at hi;exact⟨i,rfl,by simp at hi;exact hi.1⟩
       have hzv:(zeroValue e).run P w=.ok z w:=by simp[zeroValue,typeInfo,hi1,hi2,Result.andThen]
       have hne:∃k,dl=k+1:=⟨dl-1,by omega⟩
       obtain⟨k,rfl⟩:=hne;simp[Builtin.clear_,run_underlying hs,Result.andThen,hzv,uq (show 0<z.cells.size by omega),hst]
     . have L1:(cur.toList.take lo).length=lo:=by rw[X4,hcz];omega
       have L2:(cs.take lo).length=lo:=by rw[X4];omega
       generalize hds:zrow dl z.cells.toList=es at *;refine Sep.turn (A:=fun h=>h=one b (.cells cur e (0,0))) ⟨_,rfl,hd0,hs2⟩ (fun e=>e) (fun h0 ha _=>?_);obtain rfl:h0=_:=ha;refine⟨one b (.cells (cur.toList.take lo++es++cur.toList.drop (lo+dl)).toArray e (0,0)),⟨?_,.inr ⟨b,cap,_,rfl,rfl,h4,h5,?_,?_⟩⟩,fun n o' e'=>?_,fun n o' e' h1=>?_⟩
       . rw[W3,W3,L2,W8];omega
       . rw[aV0,W3,W3,L1,W8,hcz];omega
       . rw[<- h7,ba0];rw[bq0,an0 (by omega),X1,bU0,bU0,L1,bq0,cJ0 (by omega),V8 (l:=es) (by omega),dv0,hzl,eG0]
       . obtain⟨rfl,rfl⟩:=cv e';exact⟨setRow_heap w n _ _ e (0,0) hblk,fun h=>by rw[bn]at h;cases h⟩
       . have hn:n≠b:=fun e=>by subst e;rw[bn]at h1;cases h1
         rw[setRow_other w b n _ hn];exact e'
 obtain⟨w',hr,hsw⟩:=hrun;unfold Oper.wp;have he:(execOp (ev n ρ) ⟨d,.call ⟨.builtin .clear,#[x],#[s]⟩,t,pos,af,none⟩).run P w=.ok (.value (.tuple #[])) w':=by
   simp[execOp,resolve,invoke,builtin,hx]at hr ⊢;rw[hr];rfl
 rw[eval_act,he,Oper.upon_value];cases d with
 |none=>exact hX ρ.f K _ w' ⟨rfl,rfl,rfl⟩ hsw
 |some d=>rw[put_act];exact hX _ K _ w' ⟨rfl,rfl,rfl⟩ hsw
theorem Ij{s:TypeId}{x:Operand}{k:Zt->Option R}{r:R}(h:xx P σ d s (σ.ev n x) k=some r)(hr:Rel E fr σ m K ρ w):OpOk P E n fr σ ρ w ⟨d,.call ⟨.builtin .clear,#[x],#[s]⟩,t,pos,af,none⟩ (fun σ'=>k σ'=some r):=fun X Q hX=>by
 have hx:=hr.toPur.ev n x;unfold xx at h;split at h
 . rename_i e i z lo hi hs e1;rw[e1]at hx;split at h
   . rename_i q H zc hq hzc;replace h:=b7 h;obtain⟨hb,hb2,h⟩:=h;rw[Y1]at hb hb2;obtain⟨hz1,hb⟩:=hb;obtain rfl:=Y0 hz1;have hb:=Y0 hb;have h1:=Y0 hb2.2;obtain⟨zv,bt,i1,i2,i3,i4⟩:=dF hb2.1;obtain⟨zv',sz',bt',j1,j2⟩:=gf (m:=m) (K:=K) hzc;obtain⟨rfl,rfl,rfl⟩:=i1.zero_eq j1;split at h
     . rename_i x0 hd;obtain⟨c1,c2,q1,q2,q3⟩:=cL q.t hd j2;obtain rfl:=aU q3;rw[Z6]at q1;rw[<- q1]at q2;obtain⟨zs,hzs,h⟩:=ob h;cases hzs;obtain⟨a,ha,hmem,hsub,hsep⟩:=hr.take hq;obtain rfl:=bP ha;obtain⟨c0,e0,t0,l0,n0⟩:=q;change e0=e at hb;subst hb;change HA.row i c0 e0 t0 l0 n0∈σ.H at hmem;obtain⟨ad,cap,cs,g1,g2,g3,g4,g5,g6⟩:=HA.ok_row (hr.okH _ hmem);obtain⟨_,_,_,k1,_,_,_,k5,k6,_⟩:=hr.okH _ hmem;rw[g1]at k1;simp only[Z3,M.val.injEq,Value.slice.injEq,true_and]at k1;obtain⟨_,rfl⟩:=k1;dsimp only at h1 h q2;obtain⟨ad0,nn,cap',ad1,p1,p2,p3,p4,p5,hv⟩:=hx;rw[g1]at p1;simp only[Z3,M.val.injEq,Value.slice.injEq]at p1;obtain⟨rfl,rfl,rfl⟩:=p1;have hln:l0.length=n0:=g4;have ho:hi.toNat-lo.toNat=0\/∃b,ad=some ⟨b,0,none⟩/\ad1=some ⟨b,lo.toNat,none⟩:=by
         by_cases c:lo<hi
         . obtain⟨g,eg⟩:=g5 (fun e=>by rw[show l0=_ from e]at hln;simp at hln;omega);exact .inr ⟨g,eg,by rw[p5 g c eg,ba0]⟩
         . exact .inl (by omega)
       rw[g6,h1]at hsep;have hone:∀u∈zv.cells.toList,u.oneCell'=true:=q2.one'
       refine bw ((A.clearRw (t:=t) (pos:=pos) (af:=af) (d:=d) (cs:=cs) hs i1 i2 hv ho (by omega) hone).go w hsep _ _ ?_);rintro ρ' K' L' w' ⟨e,rfl,rfl⟩ hs';generalize hcn:cs.take lo.toNat++(zrow (hi.toNat-lo.toNat) zv.cells.toList++cs.drop (lo.toNat+(hi.toNat-lo.toNat)))=cn at hs';generalize hnl0:cpy l0 lo.toNat (Z2 (hi.toNat-lo.toNat) x0)=nl at h;have hp:=ax m [.cont t0 nl cn];have gn:(m++[.cont t0 nl cn])[σ.nx]?=some (.cont t0 nl cn):=aR hr.nx;have hel:Els K t0 cn nl:=by
         rw[<- hcn,<- hnl0];unfold cpy;rw[X9];exact (Els.take1 h1 _ g3).app ((Els.zrow q2 _).app (Els.drop1 h1 _ g3))
       have hnl:nl.length=n0:=by
         rw[<- hnl0];unfold cpy;rw[W3,W3,X4,W8,X9,hln];omega
       have hat:∀a∈(HA.row i σ.nx e0 t0 nl n0::H),a.ok (m++[.cont t0 nl cn]) K:=by
         intro a ha
         rcases Y4.1 ha with rfl|ha
         . refine⟨_,_,_,aq hp g1,gn,hel,hnl,k5,k6,fun hne=>g5 (fun e=>hne (Z4.1 ?_))⟩;rw[hnl,<- hln,show l0=_ from e];rfl
         . exact hr.toPur.okH' hp (Hp.le_refl K) a (hsub a ha)
       have hsp:Sep E K ((HA.conc (m++[.cont t0 nl cn]) (.row i σ.nx e0 t0 nl n0)::H.map (HA.conc (m++[.cont t0 nl cn])))++σ.fz fr) w':=by
         rw[hr.toPur.conc hp hsub];simp only[HA.conc,aq hp g1,gn];rw[h1];exact hs'
       have hbs:Rel E fr ⟨σ.base,σ.top,.row i σ.nx e0 t0 nl n0::H,σ.Hf,σ.nx+1,σ.kq⟩ (m++[.cont t0 nl cn]) K ρ w':=⟨Pur.next hr.toPur hp (Hp.le_refl K) (fun e=>⟨e,rfl⟩) (by simp[hr.nx]) hat,hsp⟩;cases d with
       | none =>
         subst e;exact hX ⟨σ.base,[]++σ.top,.row i σ.nx e0 t0 nl n0::H,σ.Hf,σ.nx+1,σ.kq⟩ (m++[.cont t0 nl cn]) K _ w' hbs ⟨rfl,rfl⟩ h
       | some d =>
         subst e;have hs2:=hbs.set (d:=d) (sv:=.tup []) (v:=.tuple #[]) ⟨[],rfl,rfl⟩;have h:k ((⟨σ.base,σ.top,.row i σ.nx e0 t0 nl n0::H,σ.Hf,σ.nx+1,σ.kq⟩:Zt).set d (.tup []))=some r:=h;show X (act1 n (aY ρ d (.tuple #[]))) w';exact hX ((⟨σ.base,σ.top,.row i σ.nx e0 t0 nl n0::H,σ.Hf,σ.nx+1,σ.kq⟩:Zt).set d (.tup [])) (m++[.cont t0 nl cn]) K _ w' hs2 ⟨rfl,rfl⟩ h
     . cases h
   . cases h
 . cases h
end
end
end
end Go.Proofs.YtpnmnbfbcgkcjaaGreatDoor

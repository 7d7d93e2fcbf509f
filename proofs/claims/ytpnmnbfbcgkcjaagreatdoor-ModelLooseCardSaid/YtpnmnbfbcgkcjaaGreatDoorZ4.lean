/- A part of the proof: what lies ahead of the law. Nothing is claimed here. -/
import Derived.Test.YtpnmnbfbcgkcjaaGreatDoorZ3
import Derived.RangeFuncRecord
import Derived.Shelf.Small.Bits
import Derived.Shelf.Small.Wraps
import Derived.Shelf.Strconv.Itoa0
import Derived.Shelf.Sort.Plain
import Derived.Shelf.Slices.Reverse
import Derived.Ground.Names2Prog
import Derived.Shelf.Slices.Clone
import Derived.Shelf.Slices.CompactI
import Derived.Shelf.Slices.SearchI
import Derived.Shelf.Slices.Cells
import Derived.Shelf.Slices.In.SortNone
import Derived.Shelf.Slices.Empties
import Derived.Ground.SlgnProg
import Derived.Shelf.SlicesE.Clone
import Derived.Test.YtpnmnbfbcgkcjaaGreatDoorProg
import Derived.Sort.OwnSortedInts
import Derived.Shelf.Spec.SlicesInsert
import Derived.Shelf.Spec.SlicesInsertGrow
import Derived.Shelf.Slices.Delete
import Derived.Shelf.Spec.TrailingZeros
import Derived.Tactics
import Derived.Tactics2
import Derived.Defers
import Derived.Recover
import Derived.Laws.Pointers
import Derived.MapKept
open Array renaming ext'→cN0,foldl_toList→eR0,getElem?_eq_getElem→br0,getElem?_eq_none→al0,getElem?_eq_some_iff→cQ0,getElem?_modify→cH0,getElem?_setIfInBounds→az0,getElem?_toList→bA0,length_toList→Y5,mapM_eq_mapM_toList→da0,replicate→bz0,size_append→fe0,toList_append→eN0,toList_map→dO0
open Bool renaming and_eq_true→Y1,beq_eq_decide_eq→by0,false_eq_true→W7,or_eq_true→bw0,xor_false→dY0,xor_true→em0
open Empty renaming elim→fc0
open Int renaming eq_ofNat_of_zero_le→W6,ofNat_lt→bL0,toNat_natCast→W2,toNat_of_nonneg→bn0
open List renaming all_append→dt0,all_cons→dg0,all_eq_true→aF0,any_eq_false→ao0,any_eq_true→av0,append_assoc→X1,append_nil→Z6,cons_append→aK0,drop_append_of_le_length→cK0,drop_drop→dw0,drop_eq_nil_of_le→bH0,drop_left'→fw0,drop_succ_cons→bS0,drop_zero→ab0,ext_getElem?→eY0,filter_cons→aZ0,findIdx?_eq_none_iff→ar0,findIdx?_eq_some_iff_getElem→Z9,foldl_append→dd0,foldl_cons→bF0,getElem?_append_left→V6,getElem?_append_right→V5,getElem?_eq_getElem→Z0,getElem?_eq_none→ai0,getElem?_eq_some_iff→V4,getElem?_take→aM0,getElem_mem→X2,getElem_of_mem→Z8,length→W4,length_append→W3,length_cons→V9,length_eq_zero_iff→Z4,length_map→Y6,length_mergeSort→dq0,length_nil→do0,length_range→bk0,length_singleton→bb0,length_take→X4,map_append→X6,map_cons→X5,mem_append→V3,mem_append_left→af0,mem_append_right→ae0,mem_cons→Y4,mem_cons_of_mem→W5,mem_cons_self→aL0,mem_map→Y7,mem_map_of_mem→dC0,mem_nil_iff→fj0,mem_of_mem_drop→eC0,mem_of_mem_take→bg0,mem_range→V7,mem_singleton→Y2,nil_append→aH0,nodup_append→aR0,nodup_cons→aw0,nodup_nil→cD0,perm_middle→aP0,prefix_append→cr0,prefix_refl→bJ0,range→Z1,replicate→Z2,size_toArray→aV0,take_append_drop→as0,take_append_of_le_length→au0,take_left'→bZ0,take_of_length_le→V8,take_succ_eq_append_getElem→ay0,take_take→bq0,toArray→aN0
open List.Perm renaming append_left→cG0
open List.cons renaming injEq→aQ0
open Nat renaming beq→Y3,beq_refl→bY0,ble→aT0,blt→aO0,blt_eq→bj0,eq_of_beq_eq_true→Y0,eq_zero_or_pos→eP0,le_add_right→fh0,le_of_ble_eq_true→W9,le_refl→X3,le_succ→eH0,le_trans→Z7,min_eq_left→an0,mul_one→ba0,zero_add→Y8,zero_le→ah0
open Option renaming bind_some→V0,isNone_none→eO0,isNone_some→aA0,map→eT0,map_eq_some_iff→aW0
open Option.some renaming inj→ap0,injEq→Z3
open Sum renaming inl→dy0,inr→dk0
namespace Go.Proofs.YtpnmnbfbcgkcjaaGreatDoor
noncomputable section
set_option linter.unusedVariables false
set_option linter.unusedSimpArgs false
set_option linter.unnecessarySimpa false
set_option linter.unusedSectionVars false
open Go.RowKit
section
variable [BldA]
section
variable {R:Type}{P:Program}{E:En}{n:Nat}{m:List M}{K:Hp}{fr:Frz}{σ:Zt}{ρ:Sl1}{w:World}
theorem OpOk.two{o:Oper}{k:Hn P->Zt->Option R}{h0:Hn P}{r:R}(h:OpOk P E n fr σ ρ w o (fun σ'=>k h0 σ'=some r)):iM P E n fr σ ρ w o (fun h' σ'=>k h' σ'=some r):=fun X Q hX=>h X Q (fun σ' m' K' ρ' w' h1 h2 h3=>hX h0 σ' m' K' ρ' w' h1 h2 h3)
theorem Ap{e:TypeId}{cs:List SV}{d:Option Nat}{k:Zt->Option R}{r:R}(h:newB σ d e cs k=some r):∃d0,d=some d0:=by
 unfold newB at h;split at h
 . exact⟨_,rfl⟩
 . cases h
theorem rz {k:Hn P->Zt->Option R} {r:R} {h0:Hn P} {dst:Option Nat} {op:Op} {t:TypeId} {pos:String} {af:Array Edge} (h:op1 n ⟨dst,op,t,pos,af,none⟩ h0 σ k=some r) (hr:Rel E fr σ m K ρ w) :
   iM P E n fr σ ρ w ⟨dst,op,t,pos,af,none⟩ (fun h' σ'=>k h' σ'=some r):=by
 have val:kv n ⟨dst,op,t,pos,af,none⟩ h0 σ k=some r->iM P E n fr σ ρ w ⟨dst,op,t,pos,af,none⟩ (fun h' σ'=>k h' σ'=some r):=fun h=>by
   cases dst with
   |none=>cases h
   |some d=>exact OpOk.two (Ic h hr)
 cases op with
 | alloc e =>
   dsimp only[op1]at h;cases dst with
   | none =>
     exfalso;unfold qL at h;cases hb:Y3 e BldA.t with
     |true=>rw[hb]at h;cases h
     | false =>
       rw[hb]at h;simp only[cond_false]at h;split at h
       . obtain⟨_,e⟩:=Ap h;cases e
       . cases h
   |some d=>exact OpOk.two (k:=k) (F9 h hr)
 | box e x =>
   dsimp only[op1]at h;split at h
   . rename_i cs hcs;obtain⟨d,rfl⟩:=Ap h;exact OpOk.two (k:=k) (Iw hcs h hr)
   . cases h
 | store s x y =>
   dsimp only[op1]at h;cases dst with
   |some d=>cases h
   | none =>
     obtain⟨σ',v',h,hf,hv⟩:=rO h hr.toPur;have hr':=hf.rel hr;have hev:Zt.ev n σ' y=σ'.ev n y:=rfl;exact fun X Q hX=>(LT h hr' hv) X Q (fun σ2 m' K' ρ' w' h1 h2 h3=>hX h0 σ2 m' K' ρ' w' h1 (hf.same.trans h2) h3)
 | buildSlice s len ps =>
   dsimp only[op1]at h;split at h
   . rename_i q hq;cases dst with
     | none =>
       exfalso;unfold rm at h;split at h
       . split at h
         . split at h
           . replace h:=(ak h).2;split at h
             . obtain⟨_,e,_⟩:=mS h;cases e
             . cases h
           . cases h
         . cases h
       . cases h
     |some d=>exact OpOk.two (k:=k) (GO h hr)
   . cases dst with
     | none =>
       exfalso;unfold rY at h;split at h
       . split at h
         . split at h
           . split at h
             . replace h:=(ak h).2;cases h
             . split at h
               . replace h:=(ak h).2;split at h
                 . obtain⟨_,e,_⟩:=dD h;cases e
                 . cases h
               . cases h
           . cases h
         . cases h
       . cases h
     |some d=>exact OpOk.two (k:=k) (Ji h hr)
 | slice s x lo hi mx =>
   cases lo <;> cases hi <;> cases mx <;> first|(exact val h)|skip
   rename_i y;dsimp only[op1]at h;split at h
   . obtain⟨d,rfl⟩:=Gl h;exact OpOk.two (k:=k) (IW h hr)
   . exact val h
 | mapUpdate s x y z =>
   dsimp only[op1]at h;cases dst with
   | some d =>
     exfalso;unfold qO at h;replace h:=(ak h).2;cases h
   |none=>exact OpOk.two (k:=k) (Gg h hr)
 | makeMap s x =>
   cases x with
   |some x=>exact val h
   | none =>
     dsimp only[op1]at h;split at h
     . rename_i u q;cases dst with
       |none=>obtain⟨_,e⟩:=Gw h;cases e
       |some d=>exact OpOk.two (k:=k) (I2 h hr)
     . cases h
 | makeSlice s x y =>
   have plain:∀h',kc P σ dst s (σ.ev n x) (σ.ev n y) (k h')=some r->iM P E n fr σ ρ w ⟨dst,.makeSlice s x y,t,pos,af,none⟩ (fun h' σ'=>k h' σ'=some r):=fun h' h=>by
     cases dst with
     | none =>
       exfalso;unfold kc at h;split at h
       . split at h
         . replace h:=(ak h).2;split at h
           . replace h:=ob h;obtain⟨l,_,h⟩:=h;obtain⟨_,e,_⟩:=dD h;cases e
           . cases h
         . cases h
       . cases h
     |some d=>exact OpOk.two (k:=k) (Hq h hr)
   dsimp only[op1]at h;split at h
   . rename_i q hq;cases hf:DB P s q with
     |false=>rw[hf]at h;exact plain _ h
     |true =>
     rw[hf]at h;simp only[cond_true]at h;cases dst with
     | none =>
       exfalso;unfold rf at h;split at h
       . split at h
         . replace h:=(ak h).2;split at h
           . replace h:=ob h;obtain⟨l,_,h⟩:=h;obtain⟨_,e,_⟩:=mS h;cases e
           . cases h
         . cases h
       . cases h
     |some d=>exact OpOk.two (k:=k) (Gm h hr)
   . exact plain _ h
 | call c =>
   obtain⟨cal,args,ats⟩:=c;dsimp only[op1]at h;split at h
   . rename_i x y s u e1 e2;obtain rfl:args = #[x,y]:=by simpa using congrArg aN0 e1
     obtain rfl:ats = #[s,u]:=by simpa using congrArg aN0 e2
     cases dst with
     |none=>cases h
     | some d =>
       dsimp only at h;split at h
       . exact OpOk.two (k:=k) (G2 h hr)
       . exact OpOk.two (k:=k) (HR h hr)
   . rename_i x y s u e1 e2;obtain rfl:args = #[x,y]:=by simpa using congrArg aN0 e1
     obtain rfl:ats = #[s,u]:=by simpa using congrArg aN0 e2
     exact OpOk.two (k:=k) (HL h hr)
   . rename_i x s e1 e2;obtain rfl:args = #[x]:=by simpa using congrArg aN0 e1
     obtain rfl:ats = #[s]:=by simpa using congrArg aN0 e2
     exact OpOk.two (k:=k) (Ij h hr)
   . rename_i fo xs _ _;split at h
     . rename_i f cs hf;split at h
       . exact qv hf h hr
       . exact qv hf h hr
       . exact qv hf h hr
       . exact qv hf h hr
       . cases h
     . cases h
   . rename_i x nm xs _ _;split at h
     . rename_i ut sv hf;split at h
       . exact AN hf h hr
       . exact AN hf h hr
       . cases h
     . cases h
   . exact val h
 | makeChan s x =>
   dsimp only[op1]at h;split at h
   . rename_i u q;cases dst with
     |none=>obtain⟨_,e⟩:=FS h;cases e
     |some d=>exact OpOk.two (k:=k) (GT h hr)
   . rename_i u q;cases dst with
     |none=>obtain⟨_,e⟩:=FM h;cases e
     |some d=>exact OpOk.two (k:=k) (Hj h hr)
   . cases h
 | binOp bo s x y tx =>
   cases bo with
   | eql =>
     dsimp only[op1]at h;split at h
     . rename_i i j e1 e2;cases dst with
       | none =>
         unfold sA at h;split at h
         . rename_i e;cases e
         . cases h
       |some d=>exact OpOk.two (k:=k) (IR h hr e1 e2)
     . rename_i j e1 e2;cases dst with
       | none =>
         unfold sW at h;split at h
         . rename_i e;cases e
         . cases h
       |some d=>exact OpOk.two (k:=k) (Ki h hr e1 e2)
     . exact val h
   |_=>exact val h
 |_=>exact val h
theorem Rel.subst{f:SV->Option SV}{H:List HA}{K':Hp}(hr:Rel E fr σ m K ρ w)(hK:K.le K')(hf:∀a b v,f a=some b->SV.rel m K' a v->SV.rel m K' b v)(hH:∀a∈H,a∈σ.H)(hs:Sep E K' (H.map (HA.conc m)++σ.fz fr) w) :
   Rel E fr ⟨σ.base,bc f σ.top,H.map (HA.sub f),σ.Hf,σ.nx,false⟩ m K' ρ w where
 hm:=hr.hm
 hK:=hr.hK.trans hK
 nx:=hr.nx
 kq:=fun e=>(by cases e)
 base:=hr.base
 dead:=hr.dead
 old:=fun i hi=>by
   rw[show look (bc f σ.top) i=_ from dg σ.top i]at hi;cases hl:look σ.top i with
   |none=>exact hr.old i hl
   |some x=>rw[hl]at hi;cases hi
 top := fun i sv hi => by
   rw[show look (bc f σ.top) i=_ from dg σ.top i]at hi;cases hl:look σ.top i with
   |none=>rw[hl]at hi;cases hi
   | some x =>
     rw[hl]at hi;cases hi;exact fg hf x (SV.mono (fun _ _ h=>h) hK x (hr.top i x hl))
 okH:=fun a ha=>by
   obtain⟨a0,h0,rfl⟩:=Y7.1 ha;exact fp hf (HA.ok_mono (fun _ _ h=>h) hK (hr.okH a0 (hH a0 h0)))
 okF:=hr.okF
 mks:=hr.mks.mono hK
 sep:=by
   show Sep E K' ((H.map (HA.sub f)).map (HA.conc m)++_) w;rw[fU];exact hs
theorem Ly{i:Nat}{σ':Zt}(h:σ.per i=some σ')(hr:Rel E fr σ m K ρ w):∃K',K.le K'/\Same σ σ'/\Rel E fr σ' m K' ρ w:=by
 unfold Zt.per at h;split at h
 . rename_i q H hq;replace h:=ak h;obtain⟨h0,h⟩:=h;rw[bj0]at h0;cases h;obtain⟨a,ha,hmem,hsub,hs⟩:=hr.take hq;obtain rfl:=bP ha;obtain⟨ad,cap,cs,g1,g2,g3,g4,g5,g6⟩:=HA.ok_row (hr.okH _ hmem);rw[g6]at hs;obtain⟨hh,hrw,hd,hs2⟩:=hs;have hle:=Hp.le_join K hh;have his:Is (K.join hh) (.sl q.t) [.slice ad q.n cap] q.l:=Rw.is g3 (by rw[g4];exact hrw) hle (fun n o e=>Hp.join_right e (hd n o e)) h0;exact⟨_,hle,⟨rfl,rfl⟩,hr.subst hle (vq (c:=q.c) (e:=q.e) g1 g4 his) hsub hs2⟩
 . split at h
   . rename_i q H hq;replace h:=ak h;obtain⟨h0,h⟩:=h;split at h
     . rename_i ww hkn;cases h;obtain⟨a,ha,hmem,hsub,hs⟩:=hr.take hq;obtain rfl:=xq ha;obtain⟨v,g1,g2,g3⟩:=ne (hr.okH _ hmem);obtain⟨hh,hrw,hd,hs2⟩:=g3 hs;have hle:=Hp.le_join K hh;exact⟨_,hle,⟨rfl,rfl⟩,hr.subst hle (m7 g1 (xz hkn (OT.own_is hle q.o h0 hrw (fun n o e=>Hp.join_right e (hd n o e))))) hsub hs2⟩
     . cases h
   . cases h
theorem Kz{i:Nat}{tp:Tp}{σ':Zt}(h:σ.perb i tp=some σ')(hr:Rel E fr σ m K ρ w):∃K',K.le K'/\Same σ σ'/\Rel E fr σ' m K' ρ w:=by
 unfold Zt.perb at h;split at h
 . rename_i q H hq;split at h
   . rename_i x hx;cases h;obtain⟨a,ha,hmem,hsub,hs⟩:=hr.take hq;obtain rfl:=cH ha;obtain⟨b,vs,g1,g2,g3,g4⟩:=HA.ok_blk (hr.okH _ hmem);rw[g4]at hs;obtain⟨c1,c2,e1,e2,e3⟩:=cL tp hx g3;obtain rfl:=aU e3;rw[Z6]at e1;subst e1;obtain⟨K',k1,k2,k3⟩:=hs.persistAt e2;refine⟨K',k1,⟨rfl,rfl⟩,hr.subst k1 (fun a b' v hf hrel=>?_) hsub k3⟩;unfold fG at hf;split at hf
     . replace hf:=ak hf;obtain⟨hb,hf⟩:=hf;have hb:=Y0 hb;subst hb;cases hf;obtain⟨bb,h1,rfl⟩:=hrel;rw[g1]at h1;cases h1;exact⟨b,0,by rw[Y8],k2⟩
     . cases hf
   . cases h
 . cases h
theorem Ix{vs:List SV}{us:List Value}{q:Nat}{v:SV}{u:Value}(h:SV.relL m K vs us)(hu:us[q]?=some u)(hv:SV.rel m K v u):SV.relL m K (vs.set q v) us:=by
 induction vs generalizing us q with
 |nil=>exact h
 | cons w vs ih =>
   obtain⟨x,r,rfl,h1,h2⟩:=aM h;cases q with
   |zero=>simp at hu;subst hu;exact⟨x,r,rfl,hv,h2⟩
   |succ q=>exact⟨x,r,rfl,h1,ih h2 (by simpa using hu)⟩
theorem DC{i q:Nat}{σ':Zt}(h:σ.mc i q=some σ')(hr:Rel E fr σ m K ρ w):∃m',Same σ σ'/\Rel E fr σ' m' K ρ w:=by
 unfold Zt.mc at h;split at h
 . rename_i b H hb;split at h
   . rename_i v hv;cases h;obtain⟨a,ha,hmem,hsub,hs⟩:=hr.take hb;obtain rfl:=cH ha;obtain⟨bb,vs,g1,g2,g3,g4⟩:=HA.ok_blk (hr.okH _ hmem);obtain⟨u,hu,hvu⟩:=iy g3 hv;have hp:=ax m [M.val u];have hm:∀(i:Nat) (x:M),m[i]?=some x->(m++[M.val u])[i]?=some x:=fun _ _ k=>aq hp k
     have gn:(m++[M.val u])[σ.nx]?=some (.val u):=aR hr.nx;have ok1:HA.ok (m++[M.val u]) K (.blk i b.c b.e (b.cs.set q (.is σ.nx v))):=⟨bb,vs,hm _ _ g1,hm _ _ g2,Ix (SV.monoL hm (Hp.le_refl K) _ g3) hu ⟨gn,SV.mono hm (Hp.le_refl K) _ hvu⟩⟩;refine⟨m++[.val u],⟨rfl,rfl⟩,⟨Pur.next hr.toPur hp (Hp.le_refl K) (fun e=>⟨e,rfl⟩) (by simp[hr.nx]) (fun a ha=>?_),?_⟩⟩
     . rcases Y4.1 ha with rfl|ha
       . exact ok1
       . exact hr.toPur.okH' hp (Hp.le_refl K) a (hsub a ha)
     . show Sep E K ((HA.conc _ _::H.map (HA.conc _))++σ.fz fr) w;rw[hr.toPur.conc hp hsub];have:HA.conc (m++[M.val u]) (.blk i b.c b.e (b.cs.set q (.is σ.nx v)))=HA.conc m (.blk i b.c b.e b.cs):=by
         simp only[HA.conc,g1,g2,hm _ _ g1,hm _ _ g2]
       rw[this];exact hs
   . cases h
 . cases h
theorem nh:∀{l:List (Nat×Nat)} {σ σ':Zt} {m:List M},Zt.mcs l σ=some σ'->Rel E fr σ m K ρ w->∃m',Same σ σ'/\Rel E fr σ' m' K ρ w
 |[],σ,σ',m,h,hr=>by cases h;exact⟨m,Same.rfl',hr⟩
 | p :: l,σ,σ',m,h,hr=>by
   unfold Zt.mcs at h;split at h
   . rename_i σ1 h1;obtain⟨m1,k1,k2⟩:=DC h1 hr;obtain⟨m2,k3,k4⟩:=nh h k2;exact⟨m2,k1.trans k3,k4⟩
   . cases h
theorem MY{d:Nat}(hr:Rel E fr σ m K ρ w):Rel E fr (σ.ms d) (m++[.val (ρ d)]) K ρ w:=by
 have hp:=ax m [M.val (ρ d)];have hm:∀(i:Nat) (x:M),m[i]?=some x->(m++[M.val (ρ d)])[i]?=some x:=fun _ _ k=>aq hp k
 have gn:(m++[M.val (ρ d)])[σ.nx]?=some (.val (ρ d)):=aR hr.nx;have h1:Rel E fr ⟨σ.base,σ.top,σ.H,σ.Hf,σ.nx+1,σ.kq⟩ (m++[.val (ρ d)]) K ρ w:=by
   refine⟨Pur.next hr.toPur hp (Hp.le_refl K) (fun e=>⟨e,rfl⟩) (by simp[hr.nx]) (hr.toPur.okH' hp (Hp.le_refl K)),?_⟩;show Sep E K (σ.H.map (HA.conc _)++σ.fz fr) w;rw[hr.toPur.conc hp (fun _ h=>h)];exact hr.toSep
 exact h1.fine (d:=d) (sv:=.is σ.nx (σ.get d)) ⟨gn,SV.mono hm (Hp.le_refl K) _ (hr.toPur.get d)⟩
theorem aT{k:Hn P->Zt->Option R}{r:R}:∀(h:Hn P) {σ:Zt} {m:List M} {K:Hp},aD h σ k=some r->Rel E fr σ m K ρ w->∃h' σ' m' K',k h' σ'=some r/\Same σ σ'/\Rel E fr σ' m' K' ρ w
 | .per i cn q,σ,m,K,h,hr=>by
   unfold aD at h;cases hb:σ.hasC i cn with
   |false=>rw[hb]at h;exact⟨_,σ,m,K,h,Same.rfl',hr⟩
   | true =>
     rw[hb]at h;simp only[cond_true]at h;split at h
     . rename_i σ1 h1;obtain⟨K1,k1,k2,k3⟩:=Ly h1 hr;obtain⟨h',σ',m',K',g1,g2,g3⟩:=aT q h k3;exact⟨h',σ',m',K',g1,k2.trans g2,g3⟩
     . cases h
 | .perb i cn tp q,σ,m,K,h,hr=>by
   unfold aD at h;cases hb:σ.hasC i cn with
   |false=>rw[hb]at h;exact⟨_,σ,m,K,h,Same.rfl',hr⟩
   | true =>
     rw[hb]at h;simp only[cond_true]at h;split at h
     . rename_i σ1 h1;obtain⟨K1,k1,k2,k3⟩:=Kz h1 hr;obtain⟨h',σ',m',K',g1,g2,g3⟩:=aT q h k3;exact⟨h',σ',m',K',g1,k2.trans g2,g3⟩
     . cases h
 | .mc i c cn q,σ,m,K,h,hr=>by
   unfold aD at h;cases hb:σ.hasC i cn with
   |false=>rw[hb]at h;exact⟨_,σ,m,K,h,Same.rfl',hr⟩
   | true =>
     rw[hb]at h;simp only[cond_true]at h;split at h
     . rename_i σ1 h1;obtain⟨m1,k2,k3⟩:=DC h1 hr;obtain⟨h',σ',m',K',g1,g2,g3⟩:=aT q h k3;exact⟨h',σ',m',K',g1,k2.trans g2,g3⟩
     . cases h
 | .ms d q,σ,m,K,h,hr=>by
   unfold aD at h;cases hb:σ.hasS d with
   |false=>rw[hb]at h;exact⟨_,σ,m,K,h,Same.rfl',hr⟩
   |true =>
   rw[hb]at h;simp only[cond_true]at h;obtain⟨h',σ',m',K',g1,g2,g3⟩:=aT q h (MY (d:=d) hr);exact⟨h',σ',m',K',g1,(show Same σ (σ.ms d)from ⟨rfl,rfl⟩).trans g2,g3⟩
 | .wt d q,σ,m,K,h,hr=>by
   unfold aD at h;cases hb:σ.hasW d with
   |false=>rw[hb]at h;exact⟨_,σ,m,K,h,Same.rfl',hr⟩
   |true =>
   rw[hb]at h;simp only[cond_true]at h;exact aT q h hr
 | .opn i d q,σ,m,K,h,hr=>by
   unfold aD at h;split at h
   . obtain⟨σ1,m1,k1,k2,k3⟩:=C5 h hr;obtain⟨h',σ',m',K',g1,g2,g3⟩:=aT q k1 k3;exact⟨h',σ',m',K',g1,k2.trans g2,g3⟩
   . exact⟨_,σ,m,K,h,Same.rfl',hr⟩
 | .opb i cn q,σ,m,K,h,hr=>by
   unfold aD at h;cases hb:σ.hasC i cn with
   |false=>rw[hb]at h;exact⟨_,σ,m,K,h,Same.rfl',hr⟩
   | true =>
     rw[hb]at h;simp only[cond_true]at h;obtain⟨σ1,m1,k1,k2,k3⟩:=K8 h hr;obtain⟨h',σ',m',K',g1,g2,g3⟩:=aT q k1 k3;exact⟨h',σ',m',K',g1,k2.trans g2,g3⟩
 | .cls i cn q,σ,m,K,h,hr=>by
   unfold aD at h;cases hb:σ.hasC i cn with
   |false=>rw[hb]at h;exact⟨_,σ,m,K,h,Same.rfl',hr⟩
   | true =>
     rw[hb]at h;simp only[cond_true]at h;split at h
     . rename_i σ1 h1;obtain⟨m1,k2,k3⟩:=Ml h1 hr;obtain⟨h',σ',m',K',g1,g2,g3⟩:=aT q h k3;exact⟨h',σ',m',K',g1,k2.trans g2,g3⟩
     . cases h
 | .cld i cn q,σ,m,K,h,hr=>by
   unfold aD at h;cases hb:σ.hasC i cn with
   |false=>rw[hb]at h;exact⟨_,σ,m,K,h,Same.rfl',hr⟩
   | true =>
     rw[hb]at h;simp only[cond_true]at h;split at h
     . rename_i σ1 h1;obtain⟨m1,k2,k3⟩:=L9 h1 hr;obtain⟨h',σ',m',K',g1,g2,g3⟩:=aT q h k3;exact⟨h',σ',m',K',g1,k2.trans g2,g3⟩
     . cases h
 |.opp s i d q,σ,m,K,h,hr=>⟨_,σ,m,K,h,Same.rfl',hr⟩
 |.ot o q,σ,m,K,h,hr=>⟨_,σ,m,K,h,Same.rfl',hr⟩
 |.cm q l c a,σ,m,K,h,hr=>⟨_,σ,m,K,h,Same.rfl',hr⟩
 |.cm2 q l c a b,σ,m,K,h,hr=>⟨_,σ,m,K,h,Same.rfl',hr⟩
 |.tr t s c a b,σ,m,K,h,hr=>⟨_,σ,m,K,h,Same.rfl',hr⟩
 |.tru q,σ,m,K,h,hr=>⟨_,σ,m,K,h,Same.rfl',hr⟩
 |.yl q r,σ,m,K,h,hr=>⟨_,σ,m,K,h,Same.rfl',hr⟩
 |.rg q r,σ,m,K,h,hr=>⟨_,σ,m,K,h,Same.rfl',hr⟩
 |.il q r,σ,m,K,h,hr=>⟨_,σ,m,K,h,Same.rfl',hr⟩
 |.nil,σ,m,K,h,hr=>⟨_,σ,m,K,h,Same.rfl',hr⟩
 |.two d a b,σ,m,K,h,hr=>⟨_,σ,m,K,h,Same.rfl',hr⟩
 |.tw d a b,σ,m,K,h,hr=>⟨_,σ,m,K,h,Same.rfl',hr⟩
 |.sq mk s c a b,σ,m,K,h,hr=>⟨_,σ,m,K,h,Same.rfl',hr⟩
 |.sx mk s c a b,σ,m,K,h,hr=>⟨_,σ,m,K,h,Same.rfl',hr⟩
 |.pl q,σ,m,K,h,hr=>⟨_,σ,m,K,h,Same.rfl',hr⟩
 |.jn mk s c a b,σ,m,K,h,hr=>⟨_,σ,m,K,h,Same.rfl',hr⟩
 |.jx mk s c a b,σ,m,K,h,hr=>⟨_,σ,m,K,h,Same.rfl',hr⟩
 |.lp s a,σ,m,K,h,hr=>⟨_,σ,m,K,h,Same.rfl',hr⟩
 |.un c q,σ,m,K,h,hr=>⟨_,σ,m,K,h,Same.rfl',hr⟩
 |.cl q l c,σ,m,K,h,hr=>⟨_,σ,m,K,h,Same.rfl',hr⟩
 |.c2 q l a b,σ,m,K,h,hr=>⟨_,σ,m,K,h,Same.rfl',hr⟩
 |.gp c q,σ,m,K,h,hr=>⟨_,σ,m,K,h,Same.rfl',hr⟩
 |.gj c s l a b,σ,m,K,h,hr=>⟨_,σ,m,K,h,Same.rfl',hr⟩
 |.mix p f l c q,σ,m,K,h,hr=>⟨_,σ,m,K,h,Same.rfl',hr⟩
theorem j5 {ops:Array Oper} {dst:Option Nat} {op:Op} {t:TypeId} {pos:String} {af:Array Edge} {g:Option (Nat×Bool)} {h0:Hn P} {run skip:Hn P->Zt->Option R} {r:R} (h:fx n ops σ ⟨dst,op,t,pos,af,g⟩ h0 run skip=some r) (hr:Rel E fr σ m K ρ w) :
   ∃h' σ',Same σ σ'/\Rel E fr σ' m K ρ w/\((Region.wanted ⟨dst,op,t,pos,af,g⟩ (yielded ops (act1 n ρ).tmps)=true/\run h' σ'=some r)\/(Region.wanted ⟨dst,op,t,pos,af,g⟩ (yielded ops (act1 n ρ).tmps)=false/\skip h' σ'=some r)):=by
 unfold fx at h;split at h
 . rename_i hg;have hg:g=none:=hg;subst hg;exact⟨h0,σ,Same.rfl',hr,.inl ⟨rfl,h⟩⟩
 . rename_i gi c hg;have hg:g=some (gi,c):=hg;subst hg;split at h
   . cases h
   . rename_i d hd;have hv:=hr.toPur.evr n (.tmp d);have fin:∀(b:Bool) (hb:ev n ρ (.tmp d)=.bool b) (h1 h2:Hn P) (σ1 σ2:Zt),(b=true->Same σ σ1/\Rel E fr σ1 m K ρ w)->(b=false->Same σ σ2/\Rel E fr σ2 m K ρ w)->cond b (bif c then run h1 σ1 else skip h1 σ1) (bif c then skip h2 σ2 else run h2 σ2)=some r ->
         ∃h' σ',Same σ σ'/\Rel E fr σ' m K ρ w/\((Region.wanted ⟨dst,op,t,pos,af,some (gi,c)⟩ (yielded ops (act1 n ρ).tmps)=true/\run h' σ'=some r)\/(Region.wanted ⟨dst,op,t,pos,af,some (gi,c)⟩ (yielded ops (act1 n ρ).tmps)=false/\skip h' σ'=some r)):=by
       intro b hb h1 h2 σ1 σ2 r1 r2 h;cases b with
       | true =>
         obtain⟨s1,q1⟩:=r1 rfl;cases c with
         |true=>exact⟨h1,σ1,s1,q1,.inl ⟨p8 rfl hd hb rfl,h⟩⟩
         |false=>exact⟨h1,σ1,s1,q1,.inr ⟨uM rfl hd hb rfl,h⟩⟩
       | false =>
         obtain⟨s2,q2⟩:=r2 rfl;cases c with
         |true=>exact⟨h2,σ2,s2,q2,.inr ⟨uM rfl hd hb rfl,h⟩⟩
         |false=>exact⟨h2,σ2,s2,q2,.inl ⟨p8 rfl hd hb rfl,h⟩⟩
     split at h
     . rename_i vs e;rw[e]at hv;replace h:=ak h;obtain⟨he,h⟩:=h;obtain rfl:vs = #[]:=by simpa using he
       exact⟨h0,σ,Same.rfl',hr,.inr ⟨yZ rfl hd hv,h⟩⟩
     . rename_i b e;rw[e]at hv;have hb:ev n ρ (.tmp d)=.bool b:=hv;have hlt:aO0 d n=true:=by
         cases hh:aO0 d n with
         |true=>rfl
         | false =>
           have:σ.evr n (.tmp d)=.any:=by show (bif aO0 d n then σ.get d else .any)=_;rw[hh];rfl
           rw[this]at e;cases e
       have hρ:ρ d=.bool b:=by
         have:ev n ρ (.tmp d)=ρ d:=by show (bif aO0 d n then ρ d else undef)=_;rw[hlt];rfl
         rw[<- this];exact hb
       split at h
       . rename_i h1 h2 _;have hget:σ.get d=.bool b:=by
           have:σ.evr n (.tmp d)=σ.get d:=by show (bif aO0 d n then σ.get d else .any)=_;rw[hlt];rfl
           rw[<- this];exact e
         exact fin b hb h1 h2 (σ.ref d (.bool true)) (σ.ref d (.bool false)) (fun e=>⟨⟨rfl,iL.2⟩,hr.ref (d:=d) (sv:=.bool true) (fun _ _ u hu=>by rw[hget,e]at hu;exact hu) (by rw[hget];nofun)⟩) (fun e=>⟨⟨rfl,iL.2⟩,hr.ref (d:=d) (sv:=.bool false) (fun _ _ u hu=>by rw[hget,e]at hu;exact hu) (by rw[hget];nofun)⟩) h
       . rename_i h1 h2 _;exact fin b hb h1 h2 σ σ (fun _=>⟨Same.rfl',hr⟩) (fun _=>⟨Same.rfl',hr⟩) h
       . exact fin b hb h0 h0 σ σ (fun _=>⟨Same.rfl',hr⟩) (fun _=>⟨Same.rfl',hr⟩) h
     . rename_i jm w0 e;rw[e]at hv;obtain⟨hj,hv⟩:=hv;split at h
       . rename_i b;have hb:ev n ρ (.tmp d)=.bool b:=hv;rw[hb]at hj;split at h
         . rename_i h1 h2 _;exact fin b hb h1 h2 (σ.fix jm (.bool true)) (σ.fix jm (.bool false)) (fun e=>⟨⟨rfl,rfl⟩,hr.fix hj (by rw[e];rfl)⟩) (fun e=>⟨⟨rfl,rfl⟩,hr.fix hj (by rw[e];rfl)⟩) h
         . rename_i h1 h2 _;exact fin b hb h1 h2 σ σ (fun _=>⟨Same.rfl',hr⟩) (fun _=>⟨Same.rfl',hr⟩) h
         . exact fin b hb h0 h0 σ σ (fun _=>⟨Same.rfl',hr⟩) (fun _=>⟨Same.rfl',hr⟩) h
       . cases h
     . cases h
theorem qZ{ops:Array Oper}{Q:Exit->Act->World->Prop}{k:Hn P->Zt->Option R}{r:R}:∀(l:List Oper) {h:Hn P} {σ:Zt} {m:List M} {K:Hp} {ρ:Sl1} {w:World},kU n ops l h σ k=some r->Rel E fr σ m K ρ w ->
   (∀h' σ' m' K' ρ' w',Rel E fr σ' m' K' ρ' w'->Same σ σ'->k h' σ'=some r->Q .normal (act1 n ρ') w')->aw P ops Q l (act1 n ρ) w
 | [],h,σ,m,K,ρ,w,hh,hr,hQ=>by
   obtain⟨h',σ',m',K',g1,g2,g3⟩:=aT h hh hr;exact hQ h' σ' m' K' ρ w g3 g2 g1
 | ⟨dst,op,t,pos,af,g⟩ :: l,h,σ,m,K,ρ,w,hh,hr,hQ=>by
   unfold kU at hh;obtain⟨h1,σ1,m1,K1,g1,g2,g3⟩:=aT h hh hr;obtain⟨h2,σ2,q1,q2,q3⟩:=j5 g1 g3;unfold aw
   rcases q3 with⟨hw,hrun⟩|⟨hw,hskip⟩
   . rw[if_pos hw];obtain⟨h2,σ2',m2,K2,y1,y2,q2⟩:=aT h2 hrun q2;replace q1:=q1.trans y2;have hrun':op1 n ⟨dst,op,t,pos,af,none⟩ h2 σ2' (fun h σ=>kU n ops l h σ k)=some r:=y1;have:=rz hrun' q2 (aw P ops Q l) Q (fun h' σ' m' K' ρ' w' a1 a2 a3=>qZ l a3 a1 (fun h'' σ'' m'' K'' ρ'' w'' b1 b2 b3=>hQ h'' σ'' m'' K'' ρ'' w'' b1 (((g2.trans q1).trans a2).trans b2) b3));exact this
   . rw[if_neg (by rw[hw];simp)];cases dst with
     |none=>exact qZ l hskip q2 (fun h'' σ'' m'' K'' ρ'' w'' b1 b2 b3=>hQ h'' σ'' m'' K'' ρ'' w'' b1 ((g2.trans q1).trans b2) b3)
     | some d =>
       show aw P ops Q l ((act1 n ρ).put (some d) undef) w;rw[bT];exact qZ l hskip (q2.set (d:=d) (sv:=.raw undef) (v:=undef) rfl) (fun h'' σ'' m'' K'' ρ'' w'' b1 b2 b3=>hQ h'' σ'' m'' K'' ρ'' w'' b1 (((g2.trans q1).trans ⟨rfl,rfl⟩).trans b2) b3)
theorem iH{ρ:Sl1}{d i:Nat}{v:Value}(h:i≠d):aY ρ d v i=ρ i:=by
 show (bif Y3 i d then v else ρ i)=ρ i;cases hb:Y3 i d with
 |true=>exact absurd (Y0 hb) h
 |false=>rfl
theorem qI{ρ:Sl1}{d:Nat}{v:Value}:aY ρ d v d=v:=by
 show (bif Y3 d d then v else ρ d)=v;rw[bY0];rfl
def bp(W:List Nat)(ρ:Sl1):Sl1:=⟨fun i=>if i∈W then undef else ρ i,ρ.ds⟩
theorem Gj{ρ:Sl1}:bp [] ρ=ρ:=by refine Sl1.ext' (fun i=>?_) rfl;simp[bp]
theorem FR{ρ:Sl1}{d:Nat}{W:List Nat}:bp W (aY ρ d undef)=bp (d::W) ρ:=by
 refine Sl1.ext' (fun i=>?_) rfl;show (if i∈W then undef else aY ρ d undef i)=if i∈d::W then undef else ρ i
 by_cases h:i∈W
 . simp[h]
 . by_cases hd:i=d
   . subst hd;simp[h,qI]
   . simp[h,hd,iH hd]
theorem Rel.anys(hr:Rel E fr σ m K ρ w){W:List Nat}{ρ':Sl1}(h:∀i,i∉W->ρ' i=ρ i)(hd:MOk fr.k0 K ρ'.ds):Rel E fr ⟨σ.base,anys W++σ.top,σ.H,σ.Hf,σ.nx,σ.kq⟩ m K ρ' w where
 hm:=hr.hm
 hK:=hr.hK
 nx:=hr.nx
 kq:=hr.kq
 base:=hr.base
 dead:=hr.dead
 old:=fun i hi=>by
   change look (Go.Proofs.YtpnmnbfbcgkcjaaGreatDoor.anys W++σ.top) i=none at hi;rw[dG,iu]at hi;by_cases hW:i∈W
   . rw[if_pos hW]at hi;cases hi
   . rw[if_neg hW]at hi;rw[h i hW];exact hr.old i hi
 top:=fun i sv hi=>by
   change look (Go.Proofs.YtpnmnbfbcgkcjaaGreatDoor.anys W++σ.top) i=some sv at hi;rw[dG,iu]at hi;by_cases hW:i∈W
   . rw[if_pos hW]at hi;cases hi;trivial
   . rw[if_neg hW]at hi;rw[h i hW];exact hr.top i sv hi
 okH:=hr.okH
 okF:=hr.okF
 mks:=hd
 sep:=hr.sep
theorem evs{ρ:Sl1}{t:Nat}:ev n ρ (.tmp t)=(bif aO0 t n then ρ t else undef):=rfl
theorem gC{ρ ρ':Sl1}{t:Nat}(h:ρ' t=ρ t):ev n ρ' (.tmp t)=ev n ρ (.tmp t):=by rw[evs,evs,h]
theorem GQ{ρ:Sl1}{W:List Nat}{t:Nat}(h:ev n ρ (.tmp t)=undef):ev n (bp W ρ) (.tmp t)=undef:=by
 rw[evs]at h ⊢;cases hb:aO0 t n with
 |false=>rfl
 | true =>
   rw[hb]at h;simp only[cond_true]at h ⊢;show (if t∈W then undef else ρ t)=undef;split
   . rfl
   . exact h
theorem Fs{ρ:Sl1}{W:List Nat}{t:Nat}(h:t∈W):ev n (bp W ρ) (.tmp t)=undef:=by
 rw[evs];cases hb:aO0 t n with
 |false=>rfl
 |true=>simp[bp,h]
theorem zC{ρ:Sl1}{V W:List Nat}:bp V (bp W ρ)=bp (W++V) ρ:=by
 refine Sl1.ext' (fun i=>?_) rfl;unfold bp;by_cases h1:i∈V <;> by_cases h2:i∈W <;> simp[h1,h2]
theorem LZ:∀{a b:Option (Nat×Bool)},gEq a b=true->a=b
 |none,none,_=>rfl
 | some (a,b),some (a',b'),h=>by
   simp only[gEq,Y1]at h;have h1:=Y0 h.1;have h2:b=b':=by simpa using h.2
   rw[h1,h2]
 |none,some _,h=>by cases h
 |some _,none,h=>by cases h
theorem AL{a b:List Oper}:aA (a++b)=aA a++aA b:=by simp[aA]
def Dv(P:Program)(E:En)(n:Nat)(ops:Array Oper)(fr:Frz)(m:List M)(K:Hp)(w:World)(g:Nat×Bool)(l:List Oper)(seen:List Nat)(σ:Zt)(ρ:Sl1)(k:Zt->Option R)(r:R):Prop :=
 (∃σ' ρ',Rel E fr σ' m K ρ' w/\Same σ σ'/\(∀i,i∉aA l->ρ' i=ρ i)/\k σ'=some r/\∀(t:Nat),(ops[g.1]?).bind (·.dst)=some t->t∉aA l->ev n ρ (.tmp t)=.bool g.2->∀(Q:Exit->Act->World->Prop) (rest:List Oper),aw P ops Q rest (act1 n ρ') w->aw P ops Q (l++rest) (act1 n ρ) w) /\
 (∀(ρ0:Sl1) (t:Nat),(ops[g.1]?).bind (·.dst)=some t->t∉aA l->(ev n ρ0 (.tmp t)=.bool (!g.2)\/ev n ρ0 (.tmp t)=undef)->(∀s∈seen,ev n ρ0 (.tmp s)=undef)->∀(Q:Exit->Act->World->Prop) (rest:List Oper),aw P ops Q rest (act1 n (bp (aA l) ρ0)) w->aw P ops Q (l++rest) (act1 n ρ0) w)
def xM(P:Program)(n:Nat)(ops:Array Oper)(sp:(Nat×Bool)->List Oper->List Nat->Nat->Zt->(Zt->Option R)->Option R):Prop :=
 ∀(E:En) (fr:Frz) (m:List M) (K:Hp) (w:World) (g:Nat×Bool) (l:List Oper) (seen:List Nat) (s:Nat) (σ:Zt) (ρ:Sl1) (k:Zt->Option R) (r:R),sp g l seen s σ k=some r->Rel E fr σ m K ρ w->Dv P E n ops fr m K w g (l.drop s) seen σ ρ k r
theorem Dl{op:Op}{ty:TypeId}{pos:String}{af:Array Edge}{g:Nat×Bool}{ops:Array Oper}{t d:Nat}{Q:Exit->Act->World->Prop}{rest:List Oper}{ρ:Sl1}(h1:(ops[g.1]?).bind (·.dst)=some t)(hv:ev n ρ (.tmp t)=.bool (!g.2)\/ev n ρ (.tmp t)=undef)(h:aw P ops Q rest (act1 n (aY ρ d undef)) w) :
   aw P ops Q (⟨some d,op,ty,pos,af,some g⟩::rest) (act1 n ρ) w:=by
 obtain⟨gi,c⟩:=g;have hw:Region.wanted ⟨some d,op,ty,pos,af,some (gi,c)⟩ (yielded ops (act1 n ρ).tmps)=false:=by
   rcases hv with hv|hv
   . exact uM (b:=!c) rfl h1 hv rfl
   . exact yZ rfl h1 hv
 refine Hi hw ?_;show aw P ops Q rest ((act1 n ρ).put (some d) undef) w;rw[bT];exact h
theorem vG {ops:Array Oper} {sp:(Nat×Bool)->List Oper->List Nat->Nat->Zt->(Zt->Option R)->Option R} (hsp:xM P n ops sp) {og:Option (Nat×Bool)} {k:Zt->Option R} {r:R} {l:List Oper} {q:Nat} {ρ:Sl1} (h:nv P n ops sp og l q σ k=some r) (hr:Rel E fr σ m K ρ w) :
   (∃σ' ρ',Rel E fr σ' m K ρ' w/\Same σ σ'/\(∀i,i∉aA (l.take (q+1))->ρ' i=ρ i)/\k σ'=some r/\((og=none\/∃g t,og=some g/\(ops[g.1]?).bind (·.dst)=some t/\t∉aA (l.take (q+1))/\ev n ρ (.tmp t)=.bool g.2)->∀(Q:Exit->Act->World->Prop) (rest:List Oper),aw P ops Q rest (act1 n ρ') w->aw P ops Q (l.take (q+1)++rest) (act1 n ρ) w)) /\
   (∀(g:Nat×Bool),og=some g->∀(ρ0:Sl1) (t:Nat),(ops[g.1]?).bind (·.dst)=some t->t∉aA (l.take (q+1))->(ev n ρ0 (.tmp t)=.bool (!g.2)\/ev n ρ0 (.tmp t)=undef)->(∀o tl g' t',l=o::tl->o.guard=some g'->(ops[g'.1]?).bind (·.dst)=some t'->ev n ρ0 (.tmp t')=undef)->∀(Q:Exit->Act->World->Prop) (rest:List Oper),aw P ops Q rest (act1 n (bp (aA (l.take (q+1))) ρ0)) w->aw P ops Q (l.take (q+1)++rest) (act1 n ρ0) w):=by
 unfold nv at h;split at h
 . rename_i o tl d t x y ty pos af pg rest0 hdr;replace h:=ak h;obtain⟨hpg,h⟩:=h;have hpg:=LZ hpg;split at h
   . rename_i gi c hg;split at h
     . rename_i t' b ht' hb;replace h:=b7 h;obtain⟨e1,e2,h⟩:=h;have e1:=Y0 e1;subst e1;have e2:t∉aA ((o::tl).take q):=by simpa using e2
       have hvb:ev n ρ (.tmp t)=.bool b:=by have:=hr.toPur.ev n (.tmp t);rw[hb]at this;exact this
       have htk:(o::tl).take (q+1)=(o::tl).take q++[⟨some d,.pick (.tmp t) x y,ty,pos,af,pg⟩]:=by
         have h1:(o::tl)=(o::tl).take q++(⟨some d,.pick (.tmp t) x y,ty,pos,af,pg⟩::rest0):=by rw[<- hdr,as0]
         have hq:((o::tl).take q).length=q:=by
           have:q<(o::tl).length:=by
             by_cases hlt:q<(o::tl).length
             . exact hlt
             . rw[bH0 (by omega)]at hdr;cases hdr
           rw[X4];omega
         rw[List.take_add,hdr];rfl
       have hds:aA ((o::tl).take (q+1))=aA ((o::tl).take q)++[d]:=by rw[htk,AL];rfl
       have hres:=hsp E fr m K w (gi,c) ((o::tl).take q) [] 0 σ ρ _ r h hr;rw[ab0]at hres;obtain⟨⟨σ1,ρ1,q1,q2,q3,q4,q5⟩,qs⟩:=hres;refine⟨?_,?_⟩
       . have hW := hr.anys (W := aA ((o :: tl).take q)) (ρ' := bp (aA ((o :: tl).take q)) ρ) (fun i hi => by simp [bp, hi]) hr.mks;simp only [] at q4;split at q4
         . rename_i p0 p1 hp0 hp1;have fin:∀(ρ2:Sl1),MOk fr.k0 K ρ2.ds->(∀i,i∉aA ((o::tl).take q)->ρ2 i=ρ i)->(b=true->ev n ρ2 x=.bool p0)->(b=false->ev n ρ2 y=.bool p1)->(∀Q rest,aw P ops Q rest (act1 n ρ2) w->aw P ops Q ((o::tl).take q++rest) (act1 n ρ) w) ->
               ∃σ' ρ',Rel E fr σ' m K ρ' w/\Same σ σ'/\(∀i,i∉aA ((o::tl).take (q+1))->ρ' i=ρ i)/\k σ'=some r/\((og=none\/∃g t,og=some g/\(ops[g.1]?).bind (·.dst)=some t/\t∉aA ((o::tl).take (q+1))/\ev n ρ (.tmp t)=.bool g.2)->∀(Q:Exit->Act->World->Prop) (rest:List Oper),aw P ops Q rest (act1 n ρ') w->aw P ops Q ((o::tl).take (q+1)++rest) (act1 n ρ) w):=fun ρ2 f0 f1 f2 f3 f4=>by
             have ht2:ev n ρ2 (.tmp t)=.bool b:=by rw[<- hvb];exact gC (f1 t e2)
             have hrel:=hr.anys f1 f0;have hpick:Val P n (Hold E K (σ.atoms fr m)) ρ2 ⟨some d,.pick (.tmp t) x y,ty,pos,af,pg⟩ (.bool (cond b p0 p1)):=by
               cases b with
               |true=>exact V.pickT ht2 rfl (f2 rfl)
               |false=>exact V.pickF ht2 rfl (f3 rfl)
             refine⟨_,aY ρ2 d (.bool (cond b p0 p1)),hrel.set (d:=d) (sv:=.bool (cond b p0 p1)) (v:=.bool (cond b p0 p1)) rfl,⟨rfl,rfl⟩,fun i hi=>?_,q4,fun hog Q rest hk=>?_⟩
             . rw[hds]at hi;rw[iH (fun e=>hi (by rw[e];simp)),f1 i (fun e=>hi (af0 _ e))]
             . rw[htk,X1];refine f4 Q _ ?_;show aw P ops Q (⟨some d,.pick (.tmp t) x y,ty,pos,af,pg⟩::rest) (act1 n ρ2) w;unfold aw;have hwant:Region.wanted ⟨some d,.pick (.tmp t) x y,ty,pos,af,pg⟩ (yielded ops (act1 n ρ2).tmps)=true:=by
                 rcases hog with hog|⟨g2,t2,hog,k1,k2,k3⟩
                 . rw[hpg,hog];rfl
                 . obtain⟨g2a,g2b⟩:=g2;rw[hpg,hog];rw[hds]at k2;exact p8 (b:=g2b) rfl k1 (by rw[<- k3];exact gC (f1 t2 (fun e=>k2 (af0 _ e)))) rfl
               rw[if_pos hwant];unfold Oper.wp;rw[cg,hpick w hr.hold,Oper.upon_value,bT];exact hk
           by_cases hbc:b=c
           . subst hbc;refine fin ρ1 q1.mks q3 (fun e=>?_) (fun e=>?_) (fun Q rest hk=>q5 t ht' e2 hvb Q rest hk)
             . subst e;have:=q1.toPur.ev n x;simp only[cond_true]at hp0;rw[hp0]at this;exact this
             . subst e;have:=q1.toPur.ev n y;simp only[cond_false]at hp1;rw[hp1]at this;exact this
           . have hbc:b = !c:=by cases b <;> cases c <;> first |rfl|exact absurd rfl hbc
             refine fin (bp (aA ((o::tl).take q)) ρ) hr.mks (fun i hi=>by simp[bp,hi]) (fun e=>?_) (fun e=>?_) (fun Q rest hk=>qs ρ t ht' e2 (.inl (by rw[hvb,hbc])) (fun s hs=>by cases hs) Q rest hk)
             . have hc:c=false:=by rw[e]at hbc;cases c <;> first |rfl|cases hbc
               subst hc;have:=hW.toPur.ev n x;simp only[cond_false]at hp0;rw[hp0]at this;exact this
             . have hc:c=true:=by rw[e]at hbc;cases c <;> first |rfl|cases hbc
               subst hc;have:=hW.toPur.ev n y;simp only[cond_true]at hp1;rw[hp1]at this;exact this
         . cases q4
       . intro g hog ρ0 t2 k1 k2 k3 k4 Q rest hk;have hu:ev n ρ0 (.tmp t)=undef:=k4 o tl (gi,c) t rfl hg ht';rw[hds]at k2;rw[htk,X1];refine qs ρ0 t ht' e2 (.inr hu) (fun s hs=>by cases hs) Q _ ?_;show aw P ops Q (⟨some d,.pick (.tmp t) x y,ty,pos,af,pg⟩::rest) _ w;rw[hpg,hog];have ht2:t2∉aA ((o::tl).take q):=fun e=>k2 (af0 _ e)
         refine Dl (g:=g) k1 ?_ ?_
         . rw[gC (ρ:=ρ0) (by simp[bp,ht2])];exact k3
         . have:aY (bp (aA ((o::tl).take q)) ρ0) d undef=bp (aA ((o::tl).take (q+1))) ρ0:=by
             rw[hds,<- zC];refine Sl1.ext' (fun i=>?_) rfl;show aY (bp (aA ((o::tl).take q)) ρ0) d undef i=if i∈[d]then undef else bp (aA ((o::tl).take q)) ρ0 i
             by_cases hd:i=d
             . subst hd;simp[qI]
             . simp[hd,iH hd]
           rw[this];exact hk
     . cases h
   . cases h
 . cases h
theorem mQ {ops:Array Oper} {sp:(Nat×Bool)->List Oper->List Nat->Nat->Zt->(Zt->Option R)->Option R} (hsp:xM P n ops sp) {g:Nat×Bool} {r:R}:∀ {l:List Oper} {seen:List Nat} {s:Nat} {σ:Zt} {ρ:Sl1} {k:Zt->Option R},fj P n ops sp g l seen s σ k=some r->Rel E fr σ m K ρ w->Dv P E n ops fr m K w g (l.drop s) seen σ ρ k r
 | [],seen,s,σ,ρ,k,h,hr=>by
   rw[List.drop_nil];exact⟨⟨σ,ρ,hr,Same.rfl',fun _ _=>rfl,(by unfold fj at h;exact h),fun _ _ _ _ _ _ h=>h⟩,fun ρ0 t _ _ _ _ Q rest h=>by rw[show aA []=[]from rfl,Gj]at h;exact h⟩
 | _ :: l,seen,s + 1,σ,ρ,k,h,hr=>by
   unfold fj at h;rw[bS0];exact mQ hsp h hr
 | ⟨dst, op, ty, pos, af, gd⟩ :: l, seen, 0, σ, ρ, k, h, hr => by
   rw[ab0];unfold fj at h;split at h
   . rename_i d g' hd hg;have hd:dst=some d:=hd;have hg:gd=some g':=hg;subst hd hg;have hds:aA (⟨some d,op,ty,pos,af,some g'⟩::l)=d::aA l:=rfl;cases hgb:(Y3 g.1 g'.1&&(g.2==g'.2))with
     | true =>
       rw[hgb]at h;simp only[cond_true]at h;have hgg:g'=g:=by
         obtain⟨a,b⟩:=g;obtain⟨a',b'⟩:=g';simp only[Y1]at hgb;have h1:=Y0 hgb.1;have h2:b=b':=by simpa using hgb.2
         simp_all
       subst hgg;obtain⟨σ1,sv,v,z1,z2,z3,z4⟩:=wV h hr.toPur hr.cls;have hr1:=(z2.rel hr).set (d:=d) z3;have hres:=mQ hsp z1 hr1;rw[ab0]at hres;obtain⟨⟨σ',ρ',q1,q2,q3,q4,q5⟩,qs⟩:=hres;refine⟨⟨σ',ρ',q1,(z2.same.trans ⟨rfl,rfl⟩).trans q2,fun i hi=>?_,q4,fun t h1 h2 h3 Q rest h4=>?_⟩,fun ρ0 t h1 h2 h3 h4 Q rest h5=>?_⟩
       . rw[hds]at hi;rw[q3 i (fun h=>hi (W5 _ h))];exact iH (fun e=>hi (by rw[e];simp))
       . rw[hds]at h2;have htd:t≠d:=fun e=>h2 (by rw[e];simp)
         show aw P ops Q (_::(l++rest)) (act1 n ρ) w;unfold aw;obtain⟨gi,c⟩:=g';have hwn:Region.wanted ⟨some d,op,ty,pos,af,some (gi,c)⟩ (yielded ops (act1 n ρ).tmps)=true:=p8 (b:=c) rfl h1 h3 rfl;rw[if_pos hwn];unfold Oper.wp;rw[cg];have:=z4 (some d) ty pos af (some (gi,c)) w hr.hold;rw[this,Oper.upon_value,bT];refine q5 t h1 (fun h=>h2 (W5 _ h)) ?_ Q rest h4;rw[<- h3];exact gC (iH htd)
       . rw[hds]at h2 h5;have htd:t≠d:=fun e=>h2 (by rw[e];simp)
         refine Dl h1 h3 ?_;refine qs (aY ρ0 d undef) t h1 (fun h=>h2 (W5 _ h)) ?_ (fun s hs=>?_) Q rest (by rw[FR];exact h5)
         . rw[gC (ρ:=ρ0) (iH htd)];exact h3
         . rcases Y4.1 hs with rfl|hs
           . rw[evs,qI];cases aO0 s n <;> rfl
           . by_cases hsd:s=d
             . subst hsd;rw[evs,qI];cases aO0 s n <;> rfl
             . rw[gC (ρ:=ρ0) (iH hsd)];exact h4 s hs
     | false =>
       rw[hgb]at h;simp only[cond_false]at h;split at h
       . rename_i t' ht';replace h:=ak h;obtain⟨hseen,h⟩:=h;have hseen:t'∈seen:=by simpa using hseen
         split at h
         . rename_i q hq;generalize hL:(⟨some d,op,ty,pos,af,some g'⟩::l:List Oper)=L at h;have hLl:L.drop (q+1)=l.drop q:=by rw[<- hL];rfl
           obtain⟨⟨σ1,ρ1,q1,q2,q3,q4,q5⟩,qs⟩:=vG hsp h hr;have hres:=mQ hsp q4 q1;obtain⟨⟨σ',ρ',a1,a2,a3,a4,a5⟩,qs2⟩:=hres;have hsp2:L=L.take (q+1)++l.drop q:=by rw[<- hLl,as0]
           have hdd:aA L=aA (L.take (q+1))++aA (l.drop q):=by rw[<- AL,<- hsp2]
           refine⟨⟨σ',ρ',a1,q2.trans a2,fun i hi=>?_,a4,fun t h1 h2 h3 Q rest h4=>?_⟩,fun ρ0 t h1 h2 h3 h4 Q rest h5=>?_⟩
           . rw[hdd]at hi;rw[a3 i (fun h=>hi (ae0 _ h)),q3 i (fun h=>hi (af0 _ h))]
           . rw[hdd]at h2;have k1:t∉aA (L.take (q+1)):=fun h=>h2 (af0 _ h)
             rw[hsp2,X1];refine q5 (.inr ⟨g,t,rfl,h1,k1,h3⟩) Q _ ?_;exact a5 t h1 (fun h=>h2 (ae0 _ h)) (by rw[<- h3];exact gC (q3 t k1)) Q rest h4
           . rw[hdd]at h2 h5;have k1:t∉aA (L.take (q+1)):=fun h=>h2 (af0 _ h)
             rw[hsp2,X1];refine qs g rfl ρ0 t h1 k1 h3 (fun o tl g2 t2 e1 e2 e3=>?_) Q _ ?_
             . rw[<- hL]at e1;cases e1;have e2:g'=g2:=by simpa using e2
               rw[<- e2,ht']at e3;cases e3;exact h4 t' hseen
             . refine qs2 (bp (aA (L.take (q+1))) ρ0) t h1 (fun h=>h2 (ae0 _ h)) ?_ (fun s hs=>?_) Q rest (by rw[zC];exact h5)
               . rw[gC (ρ:=ρ0) (by simp[bp,k1])];exact h3
               . rcases V3.1 hs with hs|hs
                 . exact Fs hs
                 . exact GQ (h4 s hs)
         . cases h
       . cases h
   . cases h
theorem vE{ops:Array Oper}:∀(d:Nat),xM (R:=R) P n ops (sC P n ops d)
 |0=>fun E fr m K w g l seen s σ ρ k r h hr=>mQ (fun _ _ _ _ _ _ _ _ _ _ _ _ _ h=>by cases h) h hr
 |d+1=>fun E fr m K w g l seen s σ ρ k r h hr=>mQ (vE d) h hr
theorem KR{ops:Array Oper}{Q:Exit->Act->World->Prop}{k:Zt->Option R}{r:R}{l:List Oper}{q:Nat}(h:yh P n ops l q σ k=some r)(hr:Rel E fr σ m K ρ w)
   (hQ:∀σ' ρ',Rel E fr σ' m K ρ' w->Same σ σ'->k σ'=some r->aw P ops Q (l.drop (q+1)) (act1 n ρ') w):aw P ops Q l (act1 n ρ) w:=by
 unfold yh at h;split at h
 . split at h
   . obtain⟨⟨σ',ρ',q1,q2,q3,q4,q5⟩,_⟩:=vG (vE 6) h hr;have:=q5 (.inl rfl) Q (l.drop (q+1)) (hQ σ' ρ' q1 q2 q4);rw[as0]at this;exact this
   . rename_i g c heq;split at h
     . rename_i t ht;split at h
       . rename_i b hb;replace h:=b7 h;obtain⟨e1,e2,h⟩:=h;have e1:b=c:=by simpa using e1
         have e2:t∉aA (l.take (q+1)):=by simpa using e2
         have hvb:ev n ρ (.tmp t)=.bool b:=by have:=hr.toPur.ev n (.tmp t);rw[hb]at this;exact this
         obtain⟨⟨σ',ρ',q1,q2,q3,q4,q5⟩,_⟩:=vG (vE 6) h hr;have:=q5 (.inr ⟨(g,c),t,rfl,ht,e2,by rw[hvb,e1]⟩) Q (l.drop (q+1)) (hQ σ' ρ' q1 q2 q4);rw[as0]at this;exact this
       . cases h
     . cases h
 . cases h
def Db(P:Program)(n:Nat)(ops:Array Oper)(sub:(R:Type)->List Oper->Hn P->Zt->(Hn P->Zt->Option R)->Option R):Prop :=
 ∀ (R:Type) (E:En) (fr:Frz) (Q:Exit->Act->World->Prop) (k:Hn P->Zt->Option R) (r:R) (l:List Oper) (h:Hn P) (σ:Zt) (m:List M) (K:Hp) (ρ:Sl1) (w:World),sub R l h σ k=some r->Rel E fr σ m K ρ w ->
   (∀h' σ' m' K' ρ' w',Rel E fr σ' m' K' ρ' w'->Same σ σ'->k h' σ'=some r->Q .normal (act1 n ρ') w')->aw P ops Q l (act1 n ρ) w
theorem gm{ops:Array Oper}{sub:(R:Type)->List Oper->Hn P->Zt->(Hn P->Zt->Option R)->Option R}(hsub:Db P n ops sub){Q:Exit->Act->World->Prop}{k:Hn P->Zt->Option R}{r:R}:∀(l:List Oper) (s:Nat) {h:Hn P} {σ:Zt} {m:List M} {K:Hp} {ρ:Sl1} {w:World},cw n ops sub l s h σ k=some r->Rel E fr σ m K ρ w ->
   (∀h' σ' m' K' ρ' w',Rel E fr σ' m' K' ρ' w'->Same σ σ'->k h' σ'=some r->Q .normal (act1 n ρ') w')->aw P ops Q (l.drop s) (act1 n ρ) w
 | [],s,h,σ,m,K,ρ,w,hh,hr,hQ=>by
   unfold cw at hh;obtain⟨h',σ',m',K',g1,g2,g3⟩:=aT h hh hr;rw[List.drop_nil];exact hQ h' σ' m' K' ρ w g3 g2 g1
 | o :: l,s + 1,h,σ,m,K,ρ,w,hh,hr,hQ=>by
   unfold cw at hh;exact gm hsub l s hh hr hQ
 | ⟨dst, op, t, pos, af, g⟩ :: l, 0, h, σ, m, K, ρ, w, hh, hr, hQ => by
   unfold cw at hh;obtain⟨h1,σ1,m1,K1,g1,g2,g3⟩:=aT h hh hr;rw[ab0];have plain:fx n ops σ1 ⟨dst,op,t,pos,af,g⟩ h1 (fun h σ=>aD h σ fun h σ=>op1 n ⟨dst,op,t,pos,af,g⟩ h σ fun h σ=>cw n ops sub l 0 h σ k) (fun h σ=>cw n ops sub l 0 h (iQ dst σ) k)=some r->aw P ops Q (⟨dst,op,t,pos,af,g⟩::l) (act1 n ρ) w:=fun g1=>by
     obtain⟨h2,σ2,q1,q2,q3⟩:=j5 g1 g3;unfold aw
     rcases q3 with⟨hw,hrun⟩|⟨hw,hskip⟩
     . rw[if_pos hw];obtain⟨h2,σ2',m2,K2,y1,y2,q2⟩:=aT h2 hrun q2;replace q1:=q1.trans y2;have hrun':op1 n ⟨dst,op,t,pos,af,none⟩ h2 σ2' (fun h σ=>cw n ops sub l 0 h σ k)=some r:=y1;have:=rz hrun' q2 (aw P ops Q l) Q (fun h' σ' m' K' ρ' w' a1 a2 a3=>gm hsub l 0 a3 a1 (fun h'' σ'' m'' K'' ρ'' w'' b1 b2 b3=>hQ h'' σ'' m'' K'' ρ'' w'' b1 (((g2.trans q1).trans a2).trans b2) b3));exact this
     . rw[if_neg (by rw[hw];simp)];cases dst with
       |none=>exact gm hsub l 0 hskip q2 (fun h'' σ'' m'' K'' ρ'' w'' b1 b2 b3=>hQ h'' σ'' m'' K'' ρ'' w'' b1 ((g2.trans q1).trans b2) b3)
       | some d =>
         show aw P ops Q l ((act1 n ρ).put (some d) undef) w;rw[bT];exact gm hsub l 0 hskip (q2.set (d:=d) (sv:=.raw undef) (v:=undef) rfl) (fun h'' σ'' m'' K'' ρ'' w'' b1 b2 b3=>hQ h'' σ'' m'' K'' ρ'' w'' b1 (((g2.trans q1).trans ⟨rfl,rfl⟩).trans b2) b3)
   generalize (bif DR ops h1 (⟨dst,op,t,pos,af,g⟩::l)then h1 else .nil)=h0 at g1;cases h0 with
   | gp q h2 =>
     refine KR g1 g3 (fun σ2 ρ2 z1 z2 z3=>?_);exact gm hsub l q z3 z1 (fun h'' σ'' m'' K'' ρ'' w'' b1 b2 b3=>hQ h'' σ'' m'' K'' ρ'' w'' b1 ((g2.trans z2).trans b2) b3)
   | gj q s ac ha hb =>
     have g1:(sub _ ((⟨dst,op,t,pos,af,g⟩::l:List Oper).take (q+1)) ha (σ1.frz ac) (fun h σ'=>σ'.pack s (aA ((⟨dst,op,t,pos,af,g⟩::l:List Oper).take (q+1))))).bind (fun x=>σ1.lay s (aA ((⟨dst,op,t,pos,af,g⟩::l:List Oper).take (q+1))) (bU σ1.H ac) x fun σ=>cw n ops sub l q hb σ k)=some r:=g1;obtain⟨x,hx,g1⟩:=ob g1;have hsp:aw P ops Q ((⟨dst,op,t,pos,af,g⟩::l:List Oper).take (q+1)++l.drop q) (act1 n ρ) w:=by
       refine A8 (hsub _ _ _ _ _ _ _ _ _ _ _ _ _ hx (g3.frz ac) (fun h' σ' m' K' ρ' w' a1 a2 a3=>?_));have hi:Inn σ1 fr ⟨m1,K1,ρ,fun _=>false,fr.F,fr.k0⟩ m1 K1 ρ (bU σ1.H ac) σ' (aA ((⟨dst,op,t,pos,af,g⟩::l:List Oper).take (q+1))):=⟨rfl,rfl,rfl,rfl,rfl,a2.2,iv,fun _ _=>rfl⟩;obtain⟨σ3,m3,q1,q2,q3⟩:=rq g3 hi a1 a3 g1;exact gm hsub l q q1 q3 (fun h'' σ'' m'' K'' ρ'' w'' b1 b2 b3=>hQ h'' σ'' m'' K'' ρ'' w'' b1 ((g2.trans q2).trans b2) b3)
     have:(⟨dst,op,t,pos,af,g⟩::l:List Oper).take (q+1)++l.drop q=⟨dst,op,t,pos,af,g⟩::l:=by
       rw[List.take_succ_cons,aK0,as0]
     rw[this]at hsp;exact hsp
   |nil=>exact plain g1
   |two d a b=>exact plain g1
   |tw d a b=>exact plain g1
   |sq mk s c a b=>exact plain g1
   |sx mk s c a b=>exact plain g1
   |pl q=>exact plain g1
   |jn mk s c a b=>exact plain g1
   |jx mk s c a b=>exact plain g1
   |lp s a=>exact plain g1
   |un c q=>exact plain g1
   |per c d q=>exact plain g1
   |perb c d tp q=>exact plain g1
   |mc c d e q=>exact plain g1
   |ms d q=>exact plain g1
   |wt d q=>exact plain g1
   |cl q l c=>exact plain g1
   |c2 q l a b=>exact plain g1
   |mix p f l c q=>exact plain g1
   |opn c d q=>exact plain g1
   |opb c d q=>exact plain g1
   |cls c d q=>exact plain g1
   |cld c d q=>exact plain g1
   |opp s i d q=>exact plain g1
   |ot o q=>exact plain g1
   |cm q l c a=>exact plain g1
   |cm2 q l c a b=>exact plain g1
   |tr t s c a b=>exact plain g1
   |tru q=>exact plain g1
   |yl q r=>exact plain g1
   |rg q r=>exact plain g1
   |il q r=>exact plain g1
theorem AC{ops:Array Oper}:∀(d:Nat),Db P n ops (xD n ops d)
 |0=>fun R E fr Q k r l h σ m K ρ w hh hr hQ=>qZ l hh hr hQ
 | d + 1=>fun R E fr Q k r l h σ m K ρ w hh hr hQ=>by
   have:=gm (AC d) l 0 (Q:=Q) hh hr hQ;rw[ab0]at this;exact this
theorem jW{ops:Array Oper}{Q:Exit->Act->World->Prop}{k:Hn P->Zt->Option R}{r:R}(l:List Oper)(s:Nat){h:Hn P}{σ:Zt}{m:List M}{K:Hp}{ρ:Sl1}{w:World}(hh:kP n ops l s h σ k=some r)(hr:Rel E fr σ m K ρ w)
   (hQ:∀h' σ' m' K' ρ' w',Rel E fr σ' m' K' ρ' w'->Same σ σ'->k h' σ'=some r->Q .normal (act1 n ρ') w'):aw P ops Q (l.drop s) (act1 n ρ) w:=gm (AC 4) l s hh hr hQ
def Cfz(E:En)(fr:Frz)(Hf:List HA):World->Prop:=Hold E fr.K (Hf.map (HA.conc fr.m))
theorem Rel.cfz(hr:Rel E fr σ m K ρ w):Cfz E fr σ.Hf w:=by
 refine⟨K,σ.H.map (HA.conc m)++fr.F,hr.hK,?_⟩;have:=hr.toSep;unfold Zt.fz at this;exact Sep.perm (kA _ _ _) this
theorem Rel.clsQ(hr:Rel E fr σ m K ρ w):Cls E (Cfz E fr σ.Hf) σ.kq σ.Hf m K where
 rd:=fun a ha=>⟨HA.ok_mono hr.toPur.mono hr.hK (hr.okF a ha),fun w' ⟨K',L',h1,h2⟩=>by
   have hmem:HA.conc m a∈σ.Hf.map (HA.conc fr.m):=by
     rw[HA.conc_mono hr.toPur.mono (hr.okF a ha)];exact dC0 ha
   obtain⟨i,hi,he⟩:=Z8 hmem;have hg:(σ.Hf.map (HA.conc fr.m)++L')[i]?=some (HA.conc m a):=by
     rw[V6 hi,Z0 hi,he]
   exact⟨K',_,h2.front i hg⟩⟩
 kn:=fun hk b o v hv=>by
   have:=hr.kq hk;subst this;exact Rd.k hv (Hp.le_refl _)
theorem gv{l:List Oper}{k:Hn P->Zt->Option R}{r:R}{X:Act->Prop}:∀(is:List Nat) {h:Hn P} {σ:Zt} {ρ:Sl1} {C:World->Prop},fC n l is h σ k=some r->Rel E fr σ m K ρ w->C=Cfz E fr σ.Hf ->
   (∀h' σ' ρ',Rel E fr σ' m K ρ' w->Same σ σ'->k h' σ'=some r->X (act1 n ρ'))->wpQuiet P l.toArray C X (bq l is) (act1 n ρ)
 |[],h,σ,ρ,C,hh,hr,hC,hX=>hX h σ ρ hr Same.rfl' hh
 | i :: is,h,σ,ρ,C,hh,hr,hC,hX=>by
   unfold fC at hh;split at hh
   . rename_i o ho;rw[uV ho];obtain⟨dst,op,t,pos,af,g⟩:=o;obtain⟨h2,σ2,q1,q2,q3⟩:=j5 hh hr;unfold wpQuiet
     rcases q3 with⟨hw,hrun⟩|⟨hw,hskip⟩
     . rw[if_pos hw];dsimp only at hrun;split at hrun
       . rename_i d;obtain⟨σ',sv,v,z1,z2,z3,z4⟩:=wV hrun q2.toPur q2.clsQ;refine⟨v,fun w' hw'=>?_,?_⟩
         . unfold Oper.quietAt;rw[cg];rw[hC,<- q1.2]at hw';have:=z4 (some d) t pos af g w' hw';rw[this];exact⟨rfl,rfl⟩
         . show wpQuiet P l.toArray C X (bq l is) ((act1 n ρ).put (some d) v);rw[bT];have hrel:=(z2.rel q2).set (d:=d) z3;exact gv is z1 hrel (by rw[hC];show Cfz E fr σ.Hf=Cfz E fr σ'.Hf;rw[z2.same.2,q1.2]) (fun h' σ'' ρ' p1 p2 p3=>hX h' σ'' ρ' p1 ((q1.trans z2.same).trans (Same.trans ⟨rfl,rfl⟩ p2)) p3)
       . cases hrun
     . rw[if_neg (by rw[hw];simp)];cases dst with
       |none=>exact gv is hskip q2 (by rw[hC];show Cfz E fr σ.Hf=Cfz E fr σ2.Hf;rw[q1.2]) (fun h' σ'' ρ' p1 p2 p3=>hX h' σ'' ρ' p1 (q1.trans p2) p3)
       | some d =>
         show wpQuiet P l.toArray C X (bq l is) ((act1 n ρ).put (some d) undef);rw[bT];exact gv is hskip (q2.set (d:=d) (sv:=.raw undef) (v:=undef) rfl) (by rw[hC];show Cfz E fr σ.Hf=Cfz E fr σ2.Hf;rw[q1.2]) (fun h' σ'' ρ' p1 p2 p3=>hX h' σ'' ρ' p1 ((q1.trans ⟨rfl,rfl⟩).trans p2) p3)
   . cases hh
theorem uI{l:Array Oper}{C:World->Prop}{p:Prop}:∀{os:List Oper} {a:Act},wpQuiet P l C (fun _=>p) os a->p
 |[],a,h=>h
 | o :: os,a,h=>by
   unfold wpQuiet at h;split at h
   . obtain⟨v,_,h⟩:=h;exact uI h
   . exact uI h
theorem B9{l:List Oper}{k:Hn P->Zt->Option R}{r:R}:∀(h:Hn P) {σ:Zt} {m:List M},kF n l h σ k=some r->Rel E fr σ m K ρ w->∃h' σ' m',k h' σ'=some r/\Same σ σ'/\Rel E fr σ' m' K ρ w
 | .opp s i d q,σ,m,h,hr=>by
   unfold kF at h;have:=uI (gv (E:=E) (fr:=⟨m,K,ρ,fun _=>false,fr.F,fr.k0⟩) (m:=m) (K:=K) (w:=w) (X:=fun _=>∃σ1:Zt,(match σ1.intAt d with|some j=>σ.opn i j fun σ=>kF n l q σ k|none=>none)=some r) s h (hr.frz []) rfl (fun _ σ1 _ _ _ h=>⟨σ1,h⟩));obtain⟨σ1,h⟩:=this;split at h
   . obtain⟨σ2,m2,k1,k2,k3⟩:=C5 h hr;obtain⟨h',σ',m',g1,g2,g3⟩:=B9 q k1 k3;exact⟨h',σ',m',g1,k2.trans g2,g3⟩
   . cases h
 |.nil,σ,m,h,hr=>⟨_,σ,m,h,Same.rfl',hr⟩
 |.two d a b,σ,m,h,hr=>⟨_,σ,m,h,Same.rfl',hr⟩
 |.tw d a b,σ,m,h,hr=>⟨_,σ,m,h,Same.rfl',hr⟩
 |.sq mk s c a b,σ,m,h,hr=>⟨_,σ,m,h,Same.rfl',hr⟩
 |.sx mk s c a b,σ,m,h,hr=>⟨_,σ,m,h,Same.rfl',hr⟩
 |.pl q,σ,m,h,hr=>⟨_,σ,m,h,Same.rfl',hr⟩
 |.jn mk s c a b,σ,m,h,hr=>⟨_,σ,m,h,Same.rfl',hr⟩
 |.jx mk s c a b,σ,m,h,hr=>⟨_,σ,m,h,Same.rfl',hr⟩
 |.lp s a,σ,m,h,hr=>⟨_,σ,m,h,Same.rfl',hr⟩
 |.un c q,σ,m,h,hr=>⟨_,σ,m,h,Same.rfl',hr⟩
 |.per i c q,σ,m,h,hr=>⟨_,σ,m,h,Same.rfl',hr⟩
 |.perb i c tt q,σ,m,h,hr=>⟨_,σ,m,h,Same.rfl',hr⟩
 |.mc i c cn q,σ,m,h,hr=>⟨_,σ,m,h,Same.rfl',hr⟩
 |.ms d q,σ,m,h,hr=>⟨_,σ,m,h,Same.rfl',hr⟩
 |.wt d q,σ,m,h,hr=>⟨_,σ,m,h,Same.rfl',hr⟩
 |.cl q l c,σ,m,h,hr=>⟨_,σ,m,h,Same.rfl',hr⟩
 |.c2 q l a b,σ,m,h,hr=>⟨_,σ,m,h,Same.rfl',hr⟩
 |.gp c q,σ,m,h,hr=>⟨_,σ,m,h,Same.rfl',hr⟩
 |.gj c s l a b,σ,m,h,hr=>⟨_,σ,m,h,Same.rfl',hr⟩
 |.mix p f l c q,σ,m,h,hr=>⟨_,σ,m,h,Same.rfl',hr⟩
 |.opn i d q,σ,m,h,hr=>⟨_,σ,m,h,Same.rfl',hr⟩
 |.opb i c q,σ,m,h,hr=>⟨_,σ,m,h,Same.rfl',hr⟩
 |.cls i c q,σ,m,h,hr=>⟨_,σ,m,h,Same.rfl',hr⟩
 |.cld i c q,σ,m,h,hr=>⟨_,σ,m,h,Same.rfl',hr⟩
 |.ot o q,σ,m,h,hr=>⟨_,σ,m,h,Same.rfl',hr⟩
 |.cm q l c a,σ,m,h,hr=>⟨_,σ,m,h,Same.rfl',hr⟩
 |.cm2 q l c a b,σ,m,h,hr=>⟨_,σ,m,h,Same.rfl',hr⟩
 |.tr t s c a b,σ,m,h,hr=>⟨_,σ,m,h,Same.rfl',hr⟩
 |.tru q,σ,m,h,hr=>⟨_,σ,m,h,Same.rfl',hr⟩
 |.yl q r,σ,m,h,hr=>⟨_,σ,m,h,Same.rfl',hr⟩
 |.rg q r,σ,m,h,hr=>⟨_,σ,m,h,Same.rfl',hr⟩
 |.il q r,σ,m,h,hr=>⟨_,σ,m,h,Same.rfl',hr⟩
theorem ri{l:List Oper}{fin tail:List Nat}{k:Hn P->Zt->Option R}{r:R}{Q:Exit->Act->World->Prop}:∀(plan:List (List Nat×Nat)) {h:Hn P} {σ:Zt} {m:List M} {K:Hp} {ρ:Sl1} {w:World} {C:World->Prop},kI n l fin plan h σ k=some r->Rel E fr σ m K ρ w->C=Cfz E fr σ.Hf->(∀s i,(s,i)∈plan->i<l.length) ->
   (∀h' σ' m' K' ρ' w',Rel E fr σ' m' K' ρ' w'->Same σ σ'->k h' σ'=some r->aw P l.toArray Q (bq l tail) (act1 n ρ') w') ->
   dL P l.toArray C (fun a' w'=>wpQuiet P l.toArray C (fun a'=>aw P l.toArray Q (bq l tail) a' w') (bq l fin) a') (eL l plan) (act1 n ρ) w
 | [],h,σ,m,K,ρ,w,C,hh,hr,hC,hp,hQ=>by
   refine Hw (gv fin hh hr hC (fun h' σ' ρ' p1 p2 p3=>?_));exact hQ h' σ' m K ρ' w p1 p2 p3
 | (s, i) :: plan, h, σ, m, K, ρ, w, C, hh, hr, hC, hp, hQ => by
   have hlt:=hp s i (by simp);have ho:l[i]?=some l[i]:=Z0 hlt;rw[zX ho];unfold kI at hh;refine zS (gv s hh hr hC (fun h1 σ1 ρ1 p1 p2 p3=>?_));obtain⟨h2,σ2,m2,K2,g1,g2,g3⟩:=aT h1 p3 p1;rw[ho]at g1;dsimp only at g1;generalize l[i]=o at g1;obtain⟨dst,op,t,pos,af,g⟩:=o;obtain⟨h3,σ3,q1,q2,q3⟩:=j5 g1 g3;have hs3:=(p2.trans g2).trans q1;unfold dh
   rcases q3 with⟨hw,hrun⟩|⟨hw,hskip⟩
   . rw[if_pos hw];obtain⟨h3,σ3',m3,K3,y1,y2,q2⟩:=aT h3 hrun q2;replace hs3:=hs3.trans y2;have hrun':op1 n ⟨dst,op,t,pos,af,none⟩ h3 σ3' (fun h σ=>kI n l fin plan h σ k)=some r:=y1;show Oper.wp P (⟨dst,op,t,pos,af,none⟩:Oper) (act1 n ρ1) w (fun a' w'=>C w'/\dL P l.toArray C _ (eL l plan) a' w') kd;refine rz hrun' q2 _ _ (fun h' σ' m' K' ρ' w' a1 a2 a3=>?_)
     . have hs':=hs3.trans a2;refine⟨?_,ri plan a3 a1 (by rw[hC,hs'.2]) (fun s i hi=>hp s i (W5 _ hi)) (fun h'' σ'' m'' K'' ρ'' w'' b1 b2 b3=>hQ h'' σ'' m'' K'' ρ'' w'' b1 (hs'.trans b2) b3)⟩;rw[hC,<- hs'.2];exact a1.cfz
   . rw[if_neg (by rw[hw];simp)];cases dst with
     |none=>exact ri plan hskip q2 (by rw[hC];show Cfz E fr σ.Hf=Cfz E fr σ3.Hf;rw[hs3.2]) (fun s i hi=>hp s i (W5 _ hi)) (fun h'' σ'' m'' K'' ρ'' w'' b1 b2 b3=>hQ h'' σ'' m'' K'' ρ'' w'' b1 (hs3.trans b2) b3)
     | some d =>
       show dL P l.toArray C _ (eL l plan) ((act1 n ρ1).put (some d) undef) w;rw[bT];exact ri plan hskip (q2.set (d:=d) (sv:=.raw undef) (v:=undef) rfl) (by rw[hC];show Cfz E fr σ.Hf=Cfz E fr σ3.Hf;rw[hs3.2]) (fun s i hi=>hp s i (W5 _ hi)) (fun h'' σ'' m'' K'' ρ'' w'' b1 b2 b3=>hQ h'' σ'' m'' K'' ρ'' w'' b1 ((hs3.trans ⟨rfl,rfl⟩).trans b2) b3)
theorem zT{ops:Array Oper}{tail:List Nat}:∀(plan:List (List Nat×Nat)) (a b:Array Bool),iD .any ops tail plan a=some b->∀s i,(s,i)∈plan->i<ops.size
 |[],a,b,_,s,i,h=>by simp at h
 | (s0,k0) :: plan,a,b,h,s,i,hi=>by
   simp only[iD]at h;split at h
   case h_2=>cases h
   case h_1 l' hl' =>
     split at h
     case isFalse=>cases h
     case isTrue hb =>
       simp only[Y1,beq_iff_eq]at hb
       rcases Y4.1 hi with e|hi
       . cases e;have:k0∈Region.ready .any ops l':=by rw[hb.1];simp
         obtain⟨_,o,ho,_⟩:=mem_ready.1 this;exact (cQ0.1 ho).1
       . exact zT plan _ _ h s i hi
theorem Ja{α β:Type}{x y:α}{k:Option β}{r:β}(h:agr x y k=some r):x=y/\k=some r:=by
 unfold agr at h;by_cases e:x=y
 . rw[if_pos e]at h;exact⟨e,h⟩
 . rw[if_neg e]at h;cases h
theorem Id{l:List Oper}{i:Nat}{k:Hn P->Zt->Option R}{r:R}{X:Act->World->Prop}{C:World->Prop}{h:Hn P}{o:Oper}(ho:l[i]?=some o)(hh:nD n l i h σ k=some r)(hr:Rel E fr σ m K ρ w)(hC:C=Cfz E fr σ.Hf)
   (hX:∀h' σ' m' K' ρ' w',Rel E fr σ' m' K' ρ' w'->Same σ σ'->k h' σ'=some r->X (act1 n ρ') w'):dh P l.toArray C o X (act1 n ρ) w:=by
 unfold nD at hh;obtain⟨h2,σ2,m2,K2,g1,g2,g3⟩:=aT h hh hr;rw[ho]at g1;dsimp only at g1;obtain⟨dst,op,t,pos,af,g⟩:=o;obtain⟨h3,σ3,q1,q2,q3⟩:=j5 g1 g3;have hs3:=g2.trans q1;unfold dh
 rcases q3 with⟨hw,hrun⟩|⟨hw,hskip⟩
 . rw[if_pos hw];obtain⟨h3,σ3',m3,K3,y1,y2,q2⟩:=aT h3 hrun q2;replace hs3:=hs3.trans y2;have hrun':op1 n ⟨dst,op,t,pos,af,none⟩ h3 σ3' k=some r:=y1;show Oper.wp P (⟨dst,op,t,pos,af,none⟩:Oper) (act1 n ρ) w (fun a' w'=>C w'/\X a' w') kd;refine rz hrun' q2 _ _ (fun h' σ' m' K' ρ' w' a1 a2 a3=>?_);have hs':=hs3.trans a2;refine⟨?_,hX h' σ' m' K' ρ' w' a1 hs' a3⟩;rw[hC,<- hs'.2];exact a1.cfz
 . rw[if_neg (by rw[hw];simp)];cases dst with
   |none=>exact hX h3 σ3 m2 K2 ρ w q2 hs3 hskip
   | some d =>
     show X ((act1 n ρ).put (some d) undef) w;rw[bT];exact hX h3 _ m2 K2 _ w (q2.set (d:=d) (sv:=.raw undef) (v:=undef) rfl) (hs3.trans ⟨rfl,rfl⟩) hskip
theorem ra{l:List Oper}{k:Hn P->Zt->Option R}{r:R}{F:Act->World->Prop}:∀(t:MT) {h:Hn P} {σ:Zt} {m:List M} {K:Hp} {ρ:Sl1} {w:World} {C:World->Prop},fD n l t h σ k=some r->Rel E fr σ m K ρ w->C=Cfz E fr σ.Hf ->
   (∀h' σ' m' K' ρ' w',Rel E fr σ' m' K' ρ' w'->Same σ σ'->k h' σ'=some r->F (act1 n ρ') w')->wpT P C F l t (act1 n ρ) w
 | .leaf fin,h,σ,m,K,ρ,w,C,hh,hr,hC,hF=>by
   exact gv fin hh hr hC (fun h' σ' ρ' p1 p2 p3=>hF h' σ' m K ρ' w p1 p2 p3)
 | .still s t,h,σ,m,K,ρ,w,C,hh,hr,hC,hF=>by
   unfold fD at hh;exact gv s hh hr hC (fun h' σ' ρ' p1 p2 p3=>ra t p3 p1 (by rw[hC,p2.2]) (fun h'' σ'' m'' K'' ρ'' w'' b1 b2 b3=>hF h'' σ'' m'' K'' ρ'' w'' b1 (p2.trans b2) b3))
 | .alt i t q,h,σ,m,K,ρ,w,C,hh,hr,hC,hF=>by
   unfold fD at hh;have one:∀{h:Hn P},nD n l i h σ (fun h σ=>fD n l t h σ k)=some r->∀o,l[i]?=some o->dh P l.toArray C o (wpT P C F l t) (act1 n ρ) w:=fun hh o ho =>
     Id ho hh hr hC (fun h' σ' m' K' ρ' w' a1 a2 a3=>ra t a3 a1 (by rw[hC,a2.2]) (fun h'' σ'' m'' K'' ρ'' w'' b1 b2 b3=>hF h'' σ'' m'' K'' ρ'' w'' b1 (a2.trans b2) b3))
   cases hq:q.over with
   | true =>
     rw[hq]at hh;refine⟨one hh,?_⟩;cases q with
     |done=>trivial
     |leaf _=>cases hq
     |still _ _=>cases hq
     |alt _ _ _=>cases hq
   | false =>
     rw[hq]at hh;simp only[cond_false]at hh;split at hh
     . rename_i d a b;obtain⟨x,hx,hh⟩:=ob hh;obtain⟨y,hy,hh⟩:=ob hh;have h2:=Ja hh;have h3:x=y:=h2.1;have h4:x=r:=ap0 h2.2;clear hh h2;subst h3;subst h4;exact⟨one hx,ra q hy hr hC hF⟩
     . cases hh
 |.done,h,σ,m,K,ρ,w,C,hh,hr,hC,hF=>trivial
theorem Rel.drew(hr:Rel E fr σ m K ρ w):Rel E fr σ m K ρ w.drew:=⟨hr.toPur,hr.sep.drew⟩
end
end
section
variable [BldA]
def Hp.del(K:Hp)(D:Nat):Hp:=fun n=>if n=D then none else K n
theorem Hp.cle_del{K:Hp}{D:Nat}{x:Option (List Deferred)}(h:K D=some (.deferred x)):K.cle (K.del D):=fun g o v e=>by
 unfold be Hp.del at *;by_cases hg:g=D
 . subst hg;rw[h]at e;cases e
 . rw[if_neg hg];exact e
section
variable {P:Program}{E:En}{n:Nat}{m:List M}{K:Hp}{fr:Frz}{σ:Zt}{ρ:Sl1}{w:World}
theorem Rel.unmark(hr:Rel E fr σ m K ρ w){K2:Hp}{w2:World}(hc:K.cle K2)(hk:fr.K.le K2)(h0:fr.k0.le K2)(hs:Sep E K2 (σ.atoms fr m) w2):Rel E fr ⟨σ.base,σ.top,σ.H,σ.Hf,σ.nx,false⟩ m K2 ⟨ρ.f,[]⟩ w2 where
 hm:=hr.hm
 hK:=hk
 nx:=hr.nx
 kq:=fun e=>(by cases e)
 base:=hr.base
 dead:=hr.dead
 old:=hr.old
 top:=fun i sv hi=>SV.monoC (fun _ _ h=>h) hc sv (hr.top i sv hi)
 okH:=fun a ha=>HA.ok_monoC (fun _ _ h=>h) hc (hr.okH a ha)
 okF:=hr.okF
 mks:=MOk.nil hr.mks.1.1 h0
 sep:=hs
theorem pW{fn:Func}{tmps:Array Value}{R:Ending->World->Prop}{L:List ah}{k0:Hp}:∀(ds:List Deferred) {K:Hp} {w:World},MOk k0 K ds->Sep E K L w ->
   (∀K2 w2,K.cle K2->k0.le K2->Sep E K2 L w2->∃v,(results fn tmps).run P w2=.ok v w2/\R (.returned v) w2)->LeavesInM Fence.wide 0 P fn tmps R ds .returning w
 |[],K,w,hm,hs,h=>h K w (Hp.cle_refl K) hm.1.2 hs
 | d :: ds,K,w,hm,hs,h=>by
   obtain⟨D,rfl,hD,h0⟩:=hm.2.1 d (by simp);have hw:w.heap[D]?=some (.deferred (some [])):=hs.sub D _ hD;have hnd:=aw0.1 hm.2.2;refine⟨by simp,.inl ⟨D,w.putObj D (.deferred none),rfl,run_takeDeferred hw,?_⟩⟩;have other:∀(k:Nat) (o:Obj),k≠D->w.heap[k]?=some o->(w.putObj D (.deferred none)).heap[k]?=some o:=fun k o hne e=>by rw[World.putObj_heap_other hne];exact e
   have hs1:Sep E (K.del D) L (w.putObj D (.deferred none)):=by
     refine Sep.move (w:=w) (w':=w.putObj D (.deferred none)) (fun e=>e) hs (fun k o e=>?_) (fun k o e e1=>?_)
     . unfold Hp.del at e;split at e
       . cases e
       . rename_i hne;exact other k o hne (hs.sub k o e)
     . have hne:k≠D:=fun e2=>by rw[e2,hD]at e1;cases e1
       exact⟨by unfold Hp.del;rw[if_neg hne];exact e1,other k o hne e⟩
   refine pW ds ⟨⟨hm.1.1,fun k o e=>?_⟩,fun d' hd'=>?_,hnd.2⟩ hs1 (fun K2 w2 c1 c2 c3=>h K2 w2 ((Hp.cle_del hD).trans c1) c2 c3)
   . unfold Hp.del;rw[if_neg (fun e2=>by rw[e2,h0]at e;cases e)];exact hm.1.2 k o e
   . obtain⟨D',rfl,h1,h2⟩:=hm.2.1 d' (W5 _ hd');refine⟨D',rfl,?_,h2⟩;unfold Hp.del;rw[if_neg (fun e=>hnd.1 (by rw[<- e];exact hd'))];exact h1
end
section
variable {P:Program}{E:En}{K:Hp}{L:List ah}{w:World}
theorem LpA.at{l:Nat}{r:Loop}(h:Sep E K (LpA l r::L) w):w.heap[l]?=some (.loop r):=by
 obtain⟨h1,rfl,hd,hs⟩:=h;exact hs.sub l _ (Hp.join_right (bn l _) (hd l _ (bn l _)))
theorem LpA.put{l:Nat}{r r':Loop}(h:Sep E K (LpA l r::L) w):Sep E K (LpA l r'::L) (w.putObj l (.loop r')):=by
 have hw:=LpA.at h;have hlt:=(cQ0.1 hw).1;refine Sep.turn h (fun e=>e) (fun h1 hA hle=>?_);obtain rfl:=hA;refine⟨one l (.loop r'),rfl,fun n o e=>?_,fun n o e e1=>?_⟩
 . obtain⟨rfl,rfl⟩:=cv e;exact⟨World.putObj_heap_same hlt,fun e2=>by rw[bn]at e2;cases e2⟩
 . have hne:n≠l:=fun e2=>by subst e2;rw[bn]at e1;cases e1
   rw[World.putObj_heap_other hne];exact e
theorem FW{l₀:Nat}{r₀:Loop}(h:w.heap[l₀]?=some (.loop r₀))(fn:FuncId)(tmps:Array Value)(ps:Array Tmp)(assign body:Code) :
   (Instr.enterLoop fn tmps ps assign body (some l₀)).run P w =
     .ok (w.heap.size,[]) (w.alloc (.loop { state:=.ready,pending:=none,fn,tmps,params:=ps,assign,body,defers:=r₀.defers })):=by
 unfold Instr.enterLoop;simp only[Sem.run_bind,run_getLoop h,run_newObj_alloc,Result.andThen,Sem.run_pure]
theorem Sep.allocO(h:Sep E K L w)(o:Obj):Sep E K ((fun hh=>hh=one w.heap.size o)::L) (w.alloc o) :=
 Sep.turn h.emp (fun e=>e) (fun h0 ha _=>by
   unfold _root_.Go.Proofs.YtpnmnbfbcgkcjaaGreatDoor.emp at ha;subst ha;refine⟨one w.heap.size o,rfl,fun n x e=>?_,fun n x e _=>?_⟩
   . obtain⟨rfl,rfl⟩:=cv e;exact⟨World.alloc_heap_new w _,fun _=>al0 (X3 _)⟩
   . rw[Below.heap_alloc _ _ _ (lt_of_block e)];exact e)
theorem Sep.known{o:Obj}{b:Nat}(h:Sep E K ((fun hh=>hh=one b o)::L) w):Sep E (K.join (one b o)) L w/\K b=none:=by
 obtain⟨h1,rfl,hd,hs⟩:=h;exact⟨hs,hd b _ (bn b o)⟩
end
def iJ(r:Loop):Loop:={ r with state:=.busy,pending:=none }
def kB(E:En)(fr:Frz):Prop:=∀l,E.rd=some l->∃r,LpA l r∈fr.F
section
variable {R:Type}{P:Program}{E:En}{n:Nat}{m m':List M}{K K':Hp}{fr:Frz}{σ σ':Zt}{ρ ρ':Sl1}{w w':World}
def Fok(P:Program)(n:Nat)(c:Code)(f:Hn P->Zt->(R:Type)->(Exit->Hn P->Zt->Option R)->Option R):Prop :=
 ∀ (R:Type) (E:En) (fr:Frz),kB E fr->∀ (h:Hn P) (σ:Zt) (k:Exit->Hn P->Zt->Option R) (r:R) (m:List M) (K:Hp) (ρ:Sl1) (w:World) (Q:Exit->Act->World->Prop),f h σ R k=some r->Rel E fr σ m K ρ w ->
   (∀e h' σ' m' K' ρ' w',Rel E fr σ' m' K' ρ' w'->Same σ σ'->k e h' σ'=some r->Q e (act1 n ρ') w')->c.wpIn (aG E.rd) 0 P Q (act1 n ρ) w
def JOk(J:Rn P):Prop:=∀n c,Fok P n c (fun h σ R k=>J n c R h σ k)
def eP:List Nat->List Value->Sl0->Sl0
 |p::ps,x::xs,f=>eP ps xs (upd f p x)
 |_,_,f=>f
theorem JZ{ρ:Sl0}{p:Nat}{v:Value}:(frm n ρ).setIfInBounds p v=frm n (upd ρ p v):=by
 have h:=congrArg Act.tmps (Go.Proofs.YtpnmnbfbcgkcjaaGreatDoor.put_act n ρ p v);unfold act Act.put at h;exact h
theorem zV:∀(ps:List Nat) (xs:List Value) (ρ:Sl0),(ps.zip xs).foldl (fun t (q:Nat×Value)=>t.setIfInBounds q.1 q.2) (frm n ρ)=frm n (eP ps xs ρ)
 |[],xs,ρ=>rfl
 |p::ps,[],ρ=>rfl
 | p :: ps,x :: xs,ρ=>by
   show (ps.zip xs).foldl _ ((frm n ρ).setIfInBounds p x)=_;rw[JZ];exact zV ps xs (upd ρ p x)
theorem Ad:∀(ps:List Nat) {xs:List SV} {us:List Value} {f:Nat->SV} {ρ:Sl0},SV.relL m K xs us->(∀i,SV.rel m K (f i) (ρ i))->∀i,SV.rel m K (sd ps xs f i) (eP ps us ρ i)
 |[],xs,us,f,ρ,h,hf,i=>hf i
 | p :: ps,[],us,f,ρ,h,hf,i=>by
   obtain rfl:=aU h;exact hf i
 | p :: ps,x :: xs,us,f,ρ,h,hf,i=>by
   obtain⟨u,r,rfl,h1,h2⟩:=aM h;refine Ad ps (us:=r) (ρ:=upd ρ p u) h2 (fun j=>?_) i;show SV.rel m K (bif Y3 j p then x else f j) (bif Y3 j p then u else ρ j);cases Y3 j p with
   |true=>exact h1
   |false=>exact hf j
theorem qm:∀{xs:List SV} {us:List Value},SV.relL m K xs us->us.length=xs.length
 |[],us,h=>by obtain rfl:=aU h;rfl
 | x :: xs,us,h=>by
   obtain⟨u,r,rfl,h1,h2⟩:=aM h;simp[qm h2]
theorem HF {J:Rn P} (hJ:JOk J) {c:SV} {xs:List SV} {h:Hn P} {k:Hn P->Zt->Bool->Option R} {r:R} (hh:w6 J σ c xs h k=some r) (hr:Rel E fr σ m K ρ w) {us:List Value} {v:Value} (hv:SV.rel m K c v) (hxs:SV.relL m K xs us) {X:Ending->World->Prop}
   (hX:∀h' σ' m' K' w' b,Rel E fr σ' m' K' ρ w'->Same σ σ'->k h' σ' b=some r->X (.returned (.bool b)) w') :
   ∃l,v=.func (.yield l) #[] #[]/\∃fn tmps ao bo,(Instr.yield l us.toArray).run P w=.ok (.round l fn tmps ao bo) w/\RoundIn (aG E.rd) 0 P l fn tmps ao bo w X:=by
 unfold w6 at hh;split at hh
 . rename_i i n0 vs0 ps ao bo;obtain⟨l,rr,ρ0,rfl,hm,ht,hp,ha,hb,hvs⟩:=hv;replace hh:=ak hh;obtain⟨hlen,hh⟩:=hh;have hlen:=Y0 hlen;split at hh
   . rename_i H hq;obtain⟨a,ha',hmem,hperm⟩:=bJ hq;obtain rfl:=wY ha';have hsub:∀a∈H,a∈σ.H:=fun a ha=>hperm.symm.subset (W5 _ ha)
     -- the record, ahead
     have hs0:Sep E K (LpA l (LSt.ready.cr rr)::(H.map (HA.conc m)++σ.fz fr)) w:=by
       have:=Sep.perm ((hperm.map (HA.conc m)).append_right (σ.fz fr)) hr.toSep;simpa only[X5,HA.conc,hm,aK0]using this
     have hw:=LpA.at hs0;have hy:=run_yield (P:=P) (args:=us.toArray) hw (by
       show us.toArray.size=rr.params.size;rw[hp,aV0,qm hxs,hlen])
     refine⟨l,rfl,_,_,_,_,hy,roundIn_of_wpIn trivial ?_⟩;have htm:(((LSt.ready.cr rr).params.zip us.toArray).foldl (fun tmps (t,a)=>tmps.setIfInBounds t a) (LSt.ready.cr rr).tmps)=frm n0 (eP ps.toList us ρ0):=by
       show ((rr.params.zip us.toArray).foldl _ rr.tmps)=_;rw[hp,ht,<- eR0,Array.toList_zip];exact zV ps.toList us ρ0
     rw[htm];show rr.assign.wpIn (aG (some l)) 0 P _ (act1 n0 ⟨eP ps.toList us ρ0,[]⟩) w;rw[ha];have hE:∀(L:List ah) (K:Hp) (w:World),Sep E K L w->Sep { E with rd:=some l } K L w:=fun L K w=>Sep.rd (E:=E) (E':={ E with rd:=some l }) (fun w h=>h)
     have hE':∀(L:List ah) (K:Hp) (w:World),Sep { E with rd:=some l } K L w->Sep E K L w:=fun L K w=>Sep.rd (E:={ E with rd:=some l }) (E':=E) (fun w h=>h)
     have mid:∀(A B C:List ah) (x:ah),(A++(B++x::C)).Perm (x::(A++(B++C))):=fun A B C x=>by
       rw[<- X1,<- X1];exact aP0
     have hrel:Rel { E with rd:=some l } ⟨m,K,⟨eP ps.toList us ρ0,[]⟩,fun _=>false,LpA l (LSt.ready.cr rr)::fr.F,K⟩ ⟨sd ps.toList xs vs0,[],H,σ.Hf,σ.nx,false⟩ m K ⟨eP ps.toList us ρ0,[]⟩ w:=by
       refine⟨⟨bJ0 m,Hp.le_refl K,hr.nx,fun e=>(by cases e),fun i=>Ad ps.toList hxs hvs i,fun i e=>(by cases e),fun i _=>.inr rfl,fun i sv e=>(by cases e),fun a ha=>hr.okH a (hsub a ha),fun a ha=>hr.toPur.all a (ae0 _ ha),MOk.nil hr.mks.gk (Hp.le_refl K)⟩,?_⟩;show Sep _ K (H.map (HA.conc m)++(σ.Hf.map (HA.conc m)++(LpA l (LSt.ready.cr rr)::fr.F))) w;refine hE _ _ _ (Sep.perm (mid _ _ _ _).symm ?_);rw[hr.toPur.fz'];exact hs0
     refine hJ n0 ao _ { E with rd:=some l } ⟨m,K,⟨eP ps.toList us ρ0,[]⟩,fun _=>false,LpA l (LSt.ready.cr rr)::fr.F,K⟩ (by intro l2 e;cases e;exact⟨_,aL0⟩) h _ _ r m K _ w _ hh hrel (fun e h' σ1 m1 K1 ρ1 w1 h1 h2 h3=>?_);cases e with
     | normal =>
       have hs1:Sep E K1 (LpA l (LSt.ready.cr rr)::(σ1.H.map (HA.conc m1)++(σ1.Hf.map (HA.conc m)++fr.F))) w1:=Sep.perm (mid _ _ _ _) (hE' _ _ _ h1.sep);have hw1:=LpA.at hs1;refine⟨w1.putObj l (.loop (iJ rr)),run_beginRound hw1 rfl,?_⟩;have hs2:=LpA.put (r':=(iJ rr)) hs1;have hrel2:Rel { E with rd:=some l } ⟨m,K,⟨eP ps.toList us ρ0,[]⟩,fun _=>false,LpA l (iJ rr)::fr.F,K⟩ σ1 m1 K1 ρ1 (w1.putObj l (.loop (iJ rr))) :=
         ⟨⟨h1.hm,h1.hK,h1.nx,h1.kq,h1.base,h1.dead,h1.old,h1.top,h1.okH,h1.okF,h1.mks⟩,hE _ _ _ (Sep.perm (mid _ _ _ _).symm hs2)⟩
       show (LSt.ready.cr rr).body.wpIn (aG (some l)) 0 P _ (act1 n0 ρ1) _;rw[show (LSt.ready.cr rr).body=bo from hb];refine hJ n0 bo _ { E with rd:=some l } ⟨m,K,⟨eP ps.toList us ρ0,[]⟩,fun _=>false,LpA l (iJ rr)::fr.F,K⟩ (by intro l2 e;cases e;exact⟨_,aL0⟩) h' σ1 _ r m1 K1 ρ1 _ _ h3 hrel2 (fun e2 h'' σ2 m2 K2 ρ2 w2 g1 g2 g3=>?_);have hs3:Sep E K2 (LpA l (iJ rr)::(σ2.H.map (HA.conc m2)++(σ2.Hf.map (HA.conc m)++fr.F))) w2:=Sep.perm (mid _ _ _ _) (hE' _ _ _ g1.sep);have hw3:=LpA.at hs3;have back:∀(s:LSt) (b:Bool) (jump:Option Code),Dy e2=some (b,s)->b=jump.isNone->s.cr rr={ iJ rr with state:=if jump.isNone then .ready else .done,pending:=jump } ->
           ∃v w',(Instr.endRound l jump).run P w2=.ok v w'/\X (.returned v) w':=fun s b jump e1 e2 e3=>by
         subst e2;rw[e1]at g3;simp only at g3;refine⟨_,_,run_endRound jump hw3,?_⟩;refine hX h'' ⟨σ.base,σ.top,.lp i s::σ2.H,σ.Hf,σ2.nx,false⟩ m2 K2 _ _ ?_ ⟨rfl,rfl⟩ g3;have hm2:m <+: m2:=g1.hm;have hK2:K.le K2:=g1.hK;have hm2':∀(i:Nat) (x:M),m[i]?=some x->m2[i]?=some x:=fun _ _ k=>aq hm2 k
         refine⟨⟨hr.hm.trans hm2,hr.hK.trans hK2,g1.nx,fun e=>(by cases e),hr.base,hr.dead,hr.old,fun i sv hi=>SV.mono hm2' hK2 sv (hr.top i sv hi),fun a ha=>?_,hr.okF,hr.mks.mono hK2⟩,?_⟩
         . rcases Y4.1 ha with rfl|ha
           . exact⟨l,rr,hm2' _ _ hm⟩
           . exact g1.okH a ha
         . have:=LpA.put (r':=s.cr rr) hs3;have hHf:σ2.Hf=σ.Hf:=(h2.trans g2).2;rw[hHf,hr.toPur.fz']at this;show Sep E K2 ((HA.lp i s::σ2.H).map (HA.conc m2)++(σ.Hf.map (HA.conc fr.m)++fr.F)) _;simp only[X5,HA.conc,hm2' _ _ hm,aK0];rw[e3]at this ⊢;exact this
       cases e2 with
       |normal=>exact back .ready true none rfl rfl rfl
       |ret=>exact back .ret false (some .ret) rfl rfl rfl
       |exit id=>exact back (.exit id) false (some (.exit id)) rfl rfl rfl
       |goto t=>cases g3
       |panic ch=>cases g3
       |outgrown=>cases g3
     |exit id=>cases h3
     |goto t=>cases h3
     |ret=>cases h3
     |panic ch=>cases h3
     |outgrown=>cases h3
   . cases hh
 . cases hh
theorem G4{F:Fence}{N:Nat}{o:Oper}{a:Act}{w:World}{X:Act->World->Prop}{Q Q':Exit->Act->World->Prop}(hq:∀e a w,Q e a w->e≠.normal->Q' e a w)(hh:o.wpIn F N P a w X Q):o.wpIn F N P a w X Q':=by
 unfold Oper.wpIn at *;refine⟨hh.1,?_⟩;have hh:=hh.2;have lo:LetsOut Q->LetsOut Q':=fun ⟨a,w,h⟩=>⟨a,w,hq _ _ _ h nofun⟩
 generalize (o.semAt F.round a.eval).run P w=r at *;cases r with
 | ok x w' =>
   cases x <;> simp only[Oper.uponIn]at hh ⊢ <;>
     first
       |exact hh
       |exact⟨hh.1,CallsIn.mono hh.2 (fun e w'' he=>by cases e <;> first |exact he |exact hq _ _ _ he nofun|exact lo he)⟩
       |exact⟨hh.1,RowsIn.mono hh.2 (fun _ _ he=>he)⟩
       |exact⟨hh.1,RoundIn.mono hh.2 (fun e w'' he=>by cases e <;> first |exact he |exact hq _ _ _ he nofun|exact lo he)⟩
       |exact hh.elim
 |halt x w'=>cases x <;> simp only[Oper.uponIn]at hh ⊢ <;> first |exact hq _ _ _ hh nofun |exact lo hh|exact hh
theorem uF{r:Option Nat}{ops:Array Oper}{Q:Exit->Act->World->Prop}{rest:List Oper}:∀{l:List Oper} {a:Act} {w:World},l.all cy=true->aw P ops (fun e a w=>e=.normal/\wpListIn (aG r) 0 P ops Q rest a w) l a w->wpListIn (aG r) 0 P ops Q (l++rest) a w
 |[],a,w,_,h=>h.2
 | o :: l,a,w,hd,h=>by
   simp only[dg0,Y1]at hd;unfold aw at h;rw[aK0];unfold wpListIn;split
   . rename_i hw;rw[if_pos hw]at h;exact G4 (fun e a w h hne=>absurd h.1 hne) (Oper.wpIn_mono (fun a w h=>uF hd.2 h) (p9 hd.1 h))
   . rename_i hw;rw[if_neg hw]at h;exact⟨fun _ _=>trivial,uF hd.2 h⟩
theorem vR{f:Operand->SV}{g:Operand->Value}(hf:∀x,SV.rel m K (f x) (g x)):∀l:List Operand,SV.relL m K (l.map f) (l.map g)
 |[]=>rfl
 |x::l=>⟨_,_,rfl,hf x,vR hf l⟩
theorem vT:∀{vs:List SV} {us:List Value} {j i:Nat} {sv:SV},SV.relL m K vs us->look (slA j vs) i=some sv->∃k u,i=j+k/\us[k]?=some u/\SV.rel m K sv u
 |[],us,j,i,sv,h,hl=>by cases hl
 | v :: vs,us,j,i,sv,h,hl=>by
   obtain⟨u,q,rfl,h1,h2⟩:=aM h;change (bif Y3 j i then some v else look (slA (j+1) vs) i)=some sv at hl;cases hb:Y3 j i with
   | true =>
     rw[hb]at hl;cases hl;exact⟨0,u,(Y0 hb).symm,rfl,h1⟩
   | false =>
     rw[hb]at hl;obtain⟨k,u',e1,e2,e3⟩:=vT (j:=j+1) h2 hl;exact⟨k+1,u',by omega,by simpa using e2,e3⟩
theorem Ku{fn:Func}{ρ:Sl0}{j:Nat}(h:fn.results.toList=[.tmp j]):(results fn (frm n ρ)).run P w=.ok (Go.Proofs.YtpnmnbfbcgkcjaaGreatDoor.ev n ρ (.tmp j)) w:=by
 have h':fn.results = #[.tmp j]:=cN0 (by rw[h]);exact Res.one (C:=fun _=>True) (v1:=Go.Proofs.YtpnmnbfbcgkcjaaGreatDoor.ev n ρ (.tmp j)) h' rfl w trivial
theorem I1{J:Rn P}(hJ:JOk J){q:ItFn P}{c:Code}(hc:q.fn.body=some c){vs:List SV}{us:List Value}(hus:SV.relL m K vs us){j d:Nat}(hres:q.fn.results.toList=[.tmp j])(hlen:vs.length<=q.fn.ntmps){h0:Hn P}{k:Hn P->Zt->Option R}{r:R}
   (hh:J q.fn.ntmps c R h0 ⟨fun _=>.any,slA 0 vs,σ.H,σ.Hf,σ.nx,false⟩ (fun e h σ'=>bif rI e then k h.unw (Zt.set ⟨σ.base,σ.top,σ'.H,σ.Hf,σ'.nx,false⟩ d (σ'.ev q.fn.ntmps (.tmp j)))else none)=some r)
   (hr:Rel E fr σ m K ρ w) {X:Ending->World->Prop}
   (hX:∀h' σ1 sv v m' K' w',Rel E fr σ1 m' K' ρ w'->Same σ σ1->SV.rel m' K' sv v->k h' (σ1.set d sv)=some r->X (.returned v) w') :
   CallsIn (aG E.rd) 0 P q.f us.toArray w X:=by
 obtain⟨args,hargs⟩:∃args:Array Value,args=us.toArray:=⟨_,rfl⟩
 rw[<- hargs];have hsz:args.size<=q.fn.ntmps:=by rw[hargs,aV0,qm hus];exact hlen
 have hrel:Rel E.out0 ⟨m,K,cK args,fun _=>false,fr.F,K⟩ ⟨fun _=>.any,slA 0 vs,σ.H,σ.Hf,σ.nx,false⟩ m K (cK args) w:=by
   refine⟨⟨bJ0 _,Hp.le_refl K,hr.nx,fun e=>(by cases e),fun i=>trivial,fun i e=>(by cases e),fun i _=>.inr rfl,fun i sv hi=>?_,fun a ha=>hr.okH a ha,fun a ha=>hr.toPur.all a (ae0 _ ha),MOk.nil hr.mks.gk (Hp.le_refl K)⟩,?_⟩
   . obtain⟨j',u,e1,e2,e3⟩:=vT hus hi;have:cK args i=u:=by
       show eG args i=u;unfold eG;rw[e1,Y8,hargs];simp[e2]
     rw[this];exact e3
   . show Sep E.out0 K (σ.H.map (HA.conc m)++(σ.Hf.map (HA.conc m)++fr.F)) w;rw[hr.toPur.fz'];exact hr.toSep.out0
 have key:CallsIn Fence.wide 0 P q.f args w X:=by
   refine callsIn_of_wp_marks (F:=Fence.wide) (n:=0) q.at_ hc trivial ?_;rw[qD hsz];refine hJ q.fn.ntmps c R E.out0 ⟨m,K,cK args,fun _=>false,fr.F,K⟩ (fun l2 e=>by cases e) h0 _ _ r _ K (cK args) w _ hh hrel (fun e h' σ' m' K' ρ' w' h1 h2 h3=>?_);replace h3:=ak h3;obtain⟨hov,h3⟩:=h3;have fini:LeavesInM Fence.wide 0 P q.fn (act1 q.fn.ntmps ρ').tmps X ρ'.ds .returning w':=by
     refine pW ρ'.ds h1.mks h1.toSep (fun K2 w2 c1 c2 c3=>?_);refine⟨_,Ku (n:=q.fn.ntmps) (ρ:=ρ'.f) hres,?_⟩;have g:=h1.unmark c1 c2 c2 c3;have hm2:m <+: m':=g.hm;have hm2':∀(i:Nat) (x:M),m[i]?=some x->m'[i]?=some x:=fun _ _ k=>aq hm2 k
     have hv:SV.rel m' K2 (σ'.ev q.fn.ntmps (.tmp j)) (Go.Proofs.YtpnmnbfbcgkcjaaGreatDoor.ev q.fn.ntmps ρ'.f (.tmp j)):=SV.monoC (fun _ _ h=>h) c1 _ (h1.toPur.ev q.fn.ntmps (.tmp j));have e2:σ'.Hf.map (HA.conc m)=σ.Hf.map (HA.conc fr.m):=by rw[h2.2];exact hr.toPur.fz'
     have hs3:Sep E K2 (σ'.H.map (HA.conc m')++(σ.Hf.map (HA.conc fr.m)++fr.F)) w2:=by
       have:=c3.back (E:=E);rw[<- e2];exact this
     refine hX h'.unw ⟨σ.base,σ.top,σ'.H,σ.Hf,σ'.nx,false⟩ _ _ m' K2 w2 ⟨⟨hr.hm.trans hm2,hr.hK.trans c2,g.nx,fun e=>(by cases e),hr.base,hr.dead,hr.old,fun i sv hi=>SV.mono hm2' c2 sv (hr.top i sv hi),fun a ha=>g.okH a ha,hr.okF,hr.mks.mono c2⟩,hs3⟩ ⟨rfl,rfl⟩ hv h3
   cases e with
   |normal=>exact fini
   |ret=>exact fini
   |exit id=>cases hov
   |goto t=>cases hov
   |panic ch=>cases hov
   |outgrown=>cases hov
 exact key
theorem Lp {J:Rn P} (hJ:JOk J) {o:Oper} {h:Hn P} {k:Hn P->Zt->Option R} {r:R} {ops:Array Oper} {rest:List Oper} {Q:Exit->Act->World->Prop} (hh:yop J n o h σ k=some r) (hr:Rel E fr σ m K ρ w) (hwt:Region.wanted o (yielded ops (act1 n ρ).tmps)=true)
   (hk:∀h' σ' m' K' ρ' w',Rel E fr σ' m' K' ρ' w'->Same σ σ'->k h' σ'=some r->wpListIn (aG E.rd) 0 P ops Q rest (act1 n ρ') w'):wpListIn (aG E.rd) 0 P ops Q (o::rest) (act1 n ρ) w:=by
 unfold yop at hh;split at hh
 . rename_i d c args ats t pos af gu;split at hh
   . rename_i q h1;split at hh
     . rename_i f e;have hv:=hr.toPur.ev n c;rw[e]at hv;obtain⟨caps,hv,hcaps⟩:=hv;obtain rfl:=aU hcaps;unfold CU at hh;split at hh
       . rename_i cc j hcc hres;replace hh:=ak hh;obtain⟨hb,hh⟩:=hh;rw[Y1]at hb;obtain rfl:=Y0 hb.1;unfold wpListIn;rw[if_pos hwt];refine⟨fun _ _=>trivial,?_⟩;rw[yq rfl,cg];have hrun:(execOp (Go.Proofs.YtpnmnbfbcgkcjaaGreatDoor.ev n ρ.f) ⟨some d,.call ⟨.value c,args,ats⟩,t,pos,af,gu⟩).run P w=.ok (.enter q.f (args.toList.map (Go.Proofs.YtpnmnbfbcgkcjaaGreatDoor.ev n ρ.f)).toArray) w:=by
           have e2:(args.toList.map (Go.Proofs.YtpnmnbfbcgkcjaaGreatDoor.ev n ρ.f)).toArray=args.map (Go.Proofs.YtpnmnbfbcgkcjaaGreatDoor.ev n ρ.f):=cN0 (by rw[dO0]);have hv':Go.Proofs.YtpnmnbfbcgkcjaaGreatDoor.ev n ρ.f c=.func (.func q.f) #[] #[]:=hv;have:=q.ent (args.map (Go.Proofs.YtpnmnbfbcgkcjaaGreatDoor.ev n ρ.f)) w;rw[e2];simp[execOp,resolve,Deferred.ofValue,hv',invoke,this]
         rw[hrun,Oper.uponIn_enter];refine⟨fun hh=>(by cases (show false=true from hh)),?_⟩;refine I1 hJ hcc (vR (fun x=>hr.toPur.evr n x) args.toList) hres (W9 hb.2) hh hr (fun h' σ1 sv v m' K' w' g1 g2 g3 g4=>?_);show wpListIn _ _ _ _ _ _ ((act1 n ρ).put (some d) v) _;rw[bT];exact hk h' _ m' K' _ w' (g1.set (d:=d) (sv:=sv) (v:=v) g3) g2 g4
       . cases hh
     . cases hh
   . obtain⟨l,hv,fn,tmps,ao,bo,hy,hround⟩:=HF hJ hh hr (hr.toPur.ev n c) (vR (fun x=>hr.toPur.evr n x) args.toList)
       (X:=fun e w''=>match e with
         |.returned v=>wpListIn (aG E.rd) 0 P ops Q rest ((act1 n ρ).put (some d) v) w''
         |.panicked chain=>Q (.panic chain) (act1 n ρ) w''
         |.outgrown=>LetsOut Q)
       (fun h' σ' m' K' w' b h1 h2 h3=>by
         show wpListIn _ _ _ _ _ _ ((act1 n ρ).put (some d) (.bool b)) _;rw[bT];exact hk h' _ m' K' _ w' (h1.set (d:=d) (sv:=.bool b) (v:=.bool b) rfl) h2 h3)
     unfold wpListIn;rw[if_pos hwt];refine⟨fun _ _=>trivial,?_⟩;rw[yq rfl,cg];have hrun:(execOp (Go.Proofs.YtpnmnbfbcgkcjaaGreatDoor.ev n ρ.f) ⟨some d,.call ⟨.value c,args,ats⟩,t,pos,af,gu⟩).run P w=.ok (.round l fn tmps ao bo) w:=by
       have e:(args.toList.map (Go.Proofs.YtpnmnbfbcgkcjaaGreatDoor.ev n ρ.f)).toArray=args.map (Go.Proofs.YtpnmnbfbcgkcjaaGreatDoor.ev n ρ.f):=cN0 (by rw[dO0]);rw[e]at hy;have hv':Go.Proofs.YtpnmnbfbcgkcjaaGreatDoor.ev n ρ.f c=.func (.yield l) #[] #[]:=hv;simp[execOp,resolve,Deferred.ofValue,hv',invoke,hy]
     rw[hrun,Oper.uponIn_round];refine⟨fun hh=>(by cases (show false=true from hh)),hround.mono (fun e w'' he=>?_)⟩;cases e <;> exact he
 . cases hh
theorem Ih{fn:Func}{tmps:Array Value}(h:fn.results.isEmpty=true):∃v,(results fn tmps).run P w=.ok v w:=by
 have h':fn.results = #[]:=by simpa using h
 refine⟨.tuple #[],?_⟩;unfold results;simp[h']
theorem KC {J:Rn P} (hJ:JOk J) {ps:Array Nat} {ao bo:Code} {h0:Hn P} {k:Exit->Hn P->Zt->Option R} {r:R} {Q:Exit->Act->World->Prop} {q:ItFn P} {c:Code} (hc:q.fn.body=some c) {cs:List SV} {us:List Value} (hus:SV.relL m K cs us)
   (hres:q.fn.results.isEmpty=true) (hlen:cs.length+1<=q.fn.ntmps)
   (hh : J q.fn.ntmps c R h0 ⟨fun _ => .any, slA 0 (.yld σ.nx n σ.get ps ao bo :: cs), .lp σ.nx .ready :: σ.H, σ.Hf, σ.nx + 1, false⟩ (fun e h σ' =>
         bif rI e then (match pick (HA.lpR σ.nx) σ'.H with
           |some (s,H)=>LSt.go s k h ⟨σ.base,σ.top,H,σ.Hf,σ'.nx,false⟩
           |none=>none)else none)=some r)
   (hr:Rel E fr σ m K ρ w) {l:Nat} {mark:List Deferred} {K1:Hp} {w1:World} {fn1:FuncId} {D:Nat}
   (hs1:Sep E K1 (LpA l { state:=.ready,pending:=none,fn:=fn1,tmps:=frm n ρ.f,params:=ps,assign:=ao,body:=bo,defers:=D }::σ.atoms fr m) w1) (hK1:K.le K1) (hm1:MOk fr.k0 K1 (mark++ρ.ds))
   (hQ:∀e h' σ' m' K' ρ' w',Rel E fr σ' m' K' ρ' w'->Same σ σ'->k e h' σ'=some r->Q e (act1 n ρ') w') :
   CallsIn (aG E.rd) 0 P q.f (#[.func (.yield l) #[] #[]]++us.toArray) w1 (rangePost (aG E.rd) 0 P l Q { act1 n ρ with defers:=mark++(act1 n ρ).defers }):=by
 obtain⟨r1,hr1⟩:∃r1:Loop,r1={ state:=.ready,pending:=none,fn:=fn1,tmps:=frm n ρ.f,params:=ps,assign:=ao,body:=bo,defers:=D }:=⟨_,rfl⟩
 rw[<- hr1]at hs1;obtain⟨args,hargs⟩:∃args:Array Value,args=(Value.func (.yield l) #[] #[]::us).toArray:=⟨_,rfl⟩
 have hargs':(#[.func (.yield l) #[] #[]]++us.toArray:Array Value)=args:=by rw[hargs];exact cN0 (by simp)
 rw[hargs'];have hp:=ax m [M.loop l r1];have hmm:∀(i:Nat) (x:M),m[i]?=some x->(m++[M.loop l r1])[i]?=some x:=fun _ _ k=>aq hp k
 have hgn:(m++[M.loop l r1])[σ.nx]?=some (.loop l r1):=aR hr.nx;have hsz:args.size<=q.fn.ntmps:=by
   rw[hargs,aV0,V9,qm hus];exact hlen
 have hall:SV.relL (m++[M.loop l r1]) K1 (.yld σ.nx n σ.get ps ao bo::cs) (Value.func (.yield l) #[] #[]::us) :=
   ⟨_,_,rfl,⟨l,r1,ρ.f,rfl,hgn,by rw[hr1],by rw[hr1],by rw[hr1],by rw[hr1],fun j=>SV.mono hmm hK1 _ (hr.toPur.get j)⟩,SV.monoL hmm hK1 _ hus⟩
 have hrel:Rel E.out0 ⟨m++[M.loop l r1],K1,cK args,fun _=>false,fr.F,K1⟩ ⟨fun _=>.any,slA 0 (.yld σ.nx n σ.get ps ao bo::cs),.lp σ.nx .ready::σ.H,σ.Hf,σ.nx+1,false⟩ (m++[M.loop l r1]) K1 (cK args) w1:=by
   refine⟨⟨bJ0 _,Hp.le_refl K1,by simp[hr.nx],fun e=>(by cases e),fun i=>trivial,fun i e=>(by cases e),fun i _=>.inr rfl,fun i sv hi=>?_,fun a ha=>?_,fun a ha=>HA.ok_mono hmm hK1 (hr.toPur.all a (ae0 _ ha)),MOk.nil hm1.gk (Hp.le_refl K1)⟩,?_⟩
   . obtain⟨j,u,e1,e2,e3⟩:=vT hall hi;have:cK args i=u:=by
       show eG args i=u;unfold eG;rw[e1,Y8,hargs];simp[e2]
     rw[this];exact e3
   . rcases Y4.1 ha with rfl|ha
     . exact⟨l,r1,hgn⟩
     . exact HA.ok_mono hmm hK1 (hr.okH a ha)
   . show Sep E.out0 K1 ((HA.lp σ.nx .ready::σ.H).map (HA.conc (m++[M.loop l r1]))++(σ.Hf.map (HA.conc (m++[M.loop l r1]))++fr.F)) w1;have e1:σ.H.map (HA.conc (m++[M.loop l r1]))=σ.H.map (HA.conc m):=dz (K:=K) hmm hr.okH;have e2:σ.Hf.map (HA.conc (m++[M.loop l r1]))=σ.Hf.map (HA.conc fr.m):=(dz (K:=K) hmm (fun a ha=>hr.toPur.all a (ae0 _ ha))).trans hr.toPur.fz';rw[X5,e1,e2];have e3:HA.conc (m++[M.loop l r1]) (.lp σ.nx .ready)=LpA l r1:=by
       simp only[HA.conc,hgn];rw[hr1];rfl
     rw[e3];exact hs1.out0
 have key:CallsIn Fence.wide 0 P q.f args w1 (rangePost (aG E.rd) 0 P l Q { act1 n ρ with defers:=mark++(act1 n ρ).defers }):=by
   refine callsIn_of_wp_marks (F:=Fence.wide) (n:=0) q.at_ hc trivial ?_;rw[qD hsz];refine hJ q.fn.ntmps c R E.out0 ⟨m++[M.loop l r1],K1,cK args,fun _=>false,fr.F,K1⟩ (fun l2 e=>by cases e) h0 _ _ r _ K1 (cK args) w1 _ hh hrel (fun e h' σ' m' K' ρ' w' h1 h2 h3=>?_);replace h3:=ak h3;obtain⟨hov,h3⟩:=h3;have fini:LeavesInM Fence.wide 0 P q.fn (act1 q.fn.ntmps ρ').tmps (rangePost (aG E.rd) 0 P l Q { act1 n ρ with defers:=mark++(act1 n ρ).defers }) ρ'.ds .returning w':=by
     split at h3
     . rename_i s H hq;obtain⟨a,ha',hmem,hperm⟩:=bJ hq;obtain rfl:=wY ha';have hsub:∀a∈H,a∈σ'.H:=fun a ha=>hperm.symm.subset (W5 _ ha)
       refine pW ρ'.ds h1.mks h1.toSep (fun K2 w2 c1 c2 c3=>?_);obtain⟨v,hv⟩:=Ih (P:=P) (w:=w2) (tmps:=(act1 q.fn.ntmps ρ').tmps) hres;refine⟨v,hv,?_⟩;have g:=h1.unmark c1 c2 c2 c3;have hmp:m++[M.loop l r1] <+: m':=g.hm;have hgn':m'[σ.nx]?=some (.loop l r1):=aq hmp hgn;have hm2:m <+: m':=hp.trans hmp;have hm2':∀(i:Nat) (x:M),m[i]?=some x->m'[i]?=some x:=fun _ _ k=>aq hm2 k
       have e2:σ'.Hf.map (HA.conc (m++[M.loop l r1]))=σ.Hf.map (HA.conc fr.m):=by
         rw[h2.2];exact (dz (K:=K) hmm (fun a ha=>hr.toPur.all a (ae0 _ ha))).trans hr.toPur.fz'
       have hs3:Sep E K2 (LpA l (s.cr r1)::(H.map (HA.conc m')++(σ.Hf.map (HA.conc fr.m)++fr.F))) w2:=by
         have:=Sep.perm ((hperm.map (HA.conc m')).append_right (σ'.Hf.map (HA.conc (m++[M.loop l r1]))++fr.F)) c3.back;rw[e2]at this;simpa only[X5,HA.conc,hgn',aK0]using this
       have hnb:(s.cr r1).state≠.busy:=by cases s <;> simp[LSt.cr]
       refine⟨_,_,run_endLoop (LpA.at hs3) hnb,?_⟩;have hs4:=(LpA.put (r':={ s.cr r1 with state:=.exhausted }) hs3).drop;have hKK:K.le K2:=hK1.trans c2;have hrel4:Rel E fr ⟨σ.base,σ.top,H,σ.Hf,σ'.nx,false⟩ m' K2 ⟨ρ.f,mark++ρ.ds⟩ (w2.putObj l (.loop { s.cr r1 with state:=.exhausted })) :=
         ⟨⟨hr.hm.trans hm2,hr.hK.trans hKK,g.nx,fun e=>(by cases e),hr.base,hr.dead,hr.old,fun i sv hi=>SV.mono hm2' hKK sv (hr.top i sv hi),fun a ha=>g.okH a (hsub a ha),hr.okF,hm1.mono c2⟩,hs4⟩
       cases s with
       |ready=>exact hQ .normal h' _ m' K2 ⟨ρ.f,mark++ρ.ds⟩ _ hrel4 ⟨rfl,rfl⟩ h3
       |ret=>exact wpIn_ret (hQ .ret h' _ m' K2 ⟨ρ.f,mark++ρ.ds⟩ _ hrel4 ⟨rfl,rfl⟩ h3)
       |exit id=>exact wpIn_exit (hQ (.exit id) h' _ m' K2 ⟨ρ.f,mark++ρ.ds⟩ _ hrel4 ⟨rfl,rfl⟩ h3)
     . cases h3
   cases e with
   |normal=>exact fini
   |ret=>exact fini
   |exit id=>cases hov
   |goto t=>cases hov
   |panic ch=>cases hov
   |outgrown=>cases hov
 exact key
theorem HO {J:Rn P} (hJ:JOk J) (hrd:kB E fr) {g:Operand} {ps:Array Nat} {ao bo:Code} {h:Hn P} {k:Exit->Hn P->Zt->Option R} {r:R} {Q:Exit->Act->World->Prop} (hh:r6 J n g ps ao bo h σ k=some r) (hr:Rel E fr σ m K ρ w)
   (hQ:∀e h' σ' m' K' ρ' w',Rel E fr σ' m' K' ρ' w'->Same σ σ'->k e h' σ'=some r->Q e (act1 n ρ') w'):(Code.rangeFunc g ps ao bo).wpIn (aG E.rd) 0 P Q (act1 n ρ) w:=by
 unfold r6 at hh;split at hh
 . rename_i q h0;split at hh
   . rename_i f cs e;split at hh
     . rename_i c hc;replace hh:=ak hh;obtain⟨hb,hh⟩:=hh;simp only[Y1]at hb;obtain⟨hb1,hb2,hb3⟩:=hb;obtain rfl:=Y0 hb1;have hv:=hr.toPur.ev n g;rw[e]at hv;obtain⟨us,hv,hus⟩:=hv;refine wpIn_rangeFunc (fun fn hfn=>?_);have tail:∀{l:Nat} {mark:List Deferred} {K1:Hp} {w1:World} {D:Nat},(Instr.enterLoop fn (act1 n ρ).tmps ps ao bo E.rd).run P w=.ok (l,mark) w1 ->
           Sep E K1 (LpA l { state:=.ready,pending:=none,fn:=fn,tmps:=frm n ρ.f,params:=ps,assign:=ao,body:=bo,defers:=D }::σ.atoms fr m) w1->K.le K1->MOk fr.k0 K1 (mark++ρ.ds) ->
           ∃ (l:Nat) (mark:List Deferred) (w₁:World) (d:Deferred) (w₁':World) (f:FuncId) (args:Array Value) (w₂:World),
             (Instr.enterLoop fn (act1 n ρ).tmps ps ao bo (aG E.rd).round).run P w=.ok (l,mark) w₁ /\
             (resolve (act1 n ρ).eval (rangeCall g l) 0).run P w₁=.ok d w₁' /\
             (∀f',Target.leads P w₁' d.target d.args=some f'->(aG E.rd).fn f') /\
             (invoke d.target d.args).run P w₁'=.ok (.enter f args) w₂ /\
             ((aG E.rd).depth.isSome=true->1<=0) /\
             CallsIn (aG E.rd) (0-1) P f args w₂ (rangePost (aG E.rd) 0 P l Q { act1 n ρ with defers:=mark++(act1 n ρ).defers }):=fun {l mark K1 w1 D} he hs1 hK1 hm1=>by
         refine⟨l,mark,w1,{ target:=.fn (.func q.f) us.toArray,args:=#[.func (.yield l) #[] #[]] },w1,q.f,#[.func (.yield l) #[] #[]]++us.toArray,w1,he,?_,fun _ _=>trivial,?_,fun hh=>(by cases (show false=true from hh)),?_⟩
         . have hv':Go.Proofs.YtpnmnbfbcgkcjaaGreatDoor.ev n ρ.f g=.func (.func q.f) #[] us.toArray:=hv;rw[cg];have hc2:Go.Proofs.YtpnmnbfbcgkcjaaGreatDoor.ev n ρ.f (.const (.func (.yield l) #[] #[]))=.func (.yield l) #[] #[]:=rfl;simp[resolve,Deferred.ofValue,hv',hc2]
         . exact q.ent _ _
         . exact KC hJ hc hus hb2 (W9 hb3) hh hr hs1 hK1 hm1 hQ
       cases hE:E.rd with
       | none =>
         rw[hE]at tail;obtain⟨s1,hD⟩:=(hr.toSep.allocO (.deferred (some []))).known;have s2:=s1.allocO (.loop { state:=.ready,pending:=none,fn:=fn,tmps:=frm n ρ.f,params:=ps,assign:=ao,body:=bo,defers:=w.heap.size });rw[World.size_alloc]at s2;refine tail (run_enterLoop_outer fn _ ps ao bo) s2 (Hp.le_join _ _) ⟨⟨hr.mks.1.1,hr.mks.1.2.trans (Hp.le_join _ _)⟩,fun d hd=>?_,?_⟩
         . rcases V3.1 hd with hd|hd
           . simp only[Y2]at hd;subst hd;refine⟨w.heap.size,rfl,Hp.join_right (bn _ _) hD,?_⟩;cases hk0:fr.k0 w.heap.size with
             |none=>rfl
             |some x=>rw[hr.mks.1.2 _ _ hk0]at hD;cases hD
           . obtain⟨D',e1,e2,e3⟩:=hr.mks.2.1 d hd;exact⟨D',e1,Hp.le_join _ _ _ _ e2,e3⟩
         . refine aw0.2 ⟨fun hd=>?_,hr.mks.2.2⟩;obtain⟨D',e1,e2,e3⟩:=hr.mks.2.1 _ hd;simp only[Deferred.mk.injEq,Target.collected.injEq,and_true]at e1;rw[<- e1,hD]at e2;cases e2
       | some l0 =>
         rw[hE]at tail;obtain⟨r0,hmem⟩:=hrd l0 hE;have hw0:w.heap[l0]?=some (.loop r0):=by
           obtain⟨i,hi⟩:=List.getElem?_of_mem (show LpA l0 r0∈σ.atoms fr m from ae0 _ (ae0 _ hmem));exact LpA.at (Sep.front i hi hr.toSep)
         exact tail (FW hw0 fn _ ps ao bo) (hr.toSep.allocO _) (Hp.le_refl K) (by simpa using hr.mks)
     . cases hh
   . cases hh
 . cases hh
end
end
section
variable [BldA]
section
variable {R:Type}{P:Program}{E:En}{n:Nat}{m m':List M}{K K':Hp}{fr:Frz}{σ σ':Zt}{ρ ρ':Sl1}{w w':World}
theorem AE{c:Code}{f:Hn P->Zt->(R:Type)->(Exit->Hn P->Zt->Option R)->Option R}(hf:Fok P n c f)(hrd:kB E fr){s:Sh}{act W:List Nat}{a b:Hn P}{k:Hn P->Zt->Option R}{r:R}{Q:Exit->Act->World->Prop}(h:kx f s act W a b σ k=some r)(hr:Rel E fr σ m K ρ w)
   (hQ:∀h' σ' m' K' ρ' w',Rel E fr σ' m' K' ρ' w'->Same σ σ'->k h' σ'=some r->Q .normal (Go.Proofs.YtpnmnbfbcgkcjaaGreatDoor.act1 n ρ') w'):c.wpIn (aG E.rd) 0 P Q (Go.Proofs.YtpnmnbfbcgkcjaaGreatDoor.act1 n ρ) w:=by
 unfold kx at h;obtain⟨x,hx,h⟩:=ob h;refine hf _ E ⟨m,K,ρ,fun _=>false,fr.F,fr.k0⟩ hrd a (σ.frz act) _ x m K ρ w Q hx (hr.frz act) (fun e h' σ' m' K' ρ' w' h1 h2 h3=>?_);cases e with
 | normal =>
   obtain⟨h'',σ2,m2,K2,g1,g2,g3⟩:=aT h' h3 h1;have hi:Inn σ fr ⟨m,K,ρ,fun _=>false,fr.F,fr.k0⟩ m K ρ (bU σ.H act) σ2 W:=⟨rfl,rfl,rfl,rfl,rfl,(g2.2.trans h2.2),iv,fun _ _=>rfl⟩;obtain⟨σ3,m3,q1,q2,q3⟩:=rq hr hi g3 g1 h;exact hQ b σ3 m3 K2 ρ' w' q3 q2 q1
 |_=>cases h3
theorem Bj{c:Code}{f:Hn P->Zt->(R:Type)->(Exit->Hn P->Zt->Option R)->Option R}(hf:Fok P n c f)(hrd:kB E fr){s:Sh}{act W:List Nat}{a b:Hn P}{k:Exit->Hn P->Zt->Option R}{r:R}{Q:Exit->Act->World->Prop}(h:kw f s act W a b σ k=some r)(hr:Rel E fr σ m K ρ w)
   (hQ:∀e h' σ' m' K' ρ' w',Rel E fr σ' m' K' ρ' w'->Same σ σ'->k e h' σ'=some r->Q e (Go.Proofs.YtpnmnbfbcgkcjaaGreatDoor.act1 n ρ') w'):c.wpIn (aG E.rd) 0 P Q (Go.Proofs.YtpnmnbfbcgkcjaaGreatDoor.act1 n ρ) w:=by
 unfold kw at h;obtain⟨o,ho,h⟩:=ob h;refine hf _ E ⟨m,K,ρ,fun _=>false,fr.F,fr.k0⟩ hrd a (σ.frz act) _ o m K ρ w Q ho (hr.frz act) (fun e h' σ' m' K' ρ' w' h1 h2 h3=>?_);have other:(k e h' (σ.thaw σ' (bU σ.H act) [])).map dk0=some o->Q e (Go.Proofs.YtpnmnbfbcgkcjaaGreatDoor.act1 n ρ') w':=fun h3=>by
   rw[aW0]at h3;obtain⟨r',h4,rfl⟩:=h3;cases h;have hi:Inn σ fr ⟨m,K,ρ,fun _=>false,fr.F,fr.k0⟩ m K ρ (bU σ.H act) σ' []:=⟨rfl,rfl,rfl,rfl,rfl,h2.2,iv,fun _ _=>rfl⟩;obtain⟨q1,q2⟩:=wD hr hi h1;exact hQ e h' _ m' K' ρ' w' q2 q1 h4
 cases e with
 | normal =>
   obtain⟨h'',σ2,m2,K2,g1,g2,g3⟩:=aT h' h3 h1;rw[aW0]at g1;obtain⟨x,g1,rfl⟩:=g1;have hi:Inn σ fr ⟨m,K,ρ,fun _=>false,fr.F,fr.k0⟩ m K ρ (bU σ.H act) σ2 W:=⟨rfl,rfl,rfl,rfl,rfl,(g2.2.trans h2.2),iv,fun _ _=>rfl⟩;obtain⟨σ3,m3,q1,q2,q3⟩:=rq hr hi g3 g1 h;exact hQ .normal b σ3 m3 K2 ρ' w' q3 q2 q1
 |_=>exact other h3
theorem K5{s:Sh}{W:List Nat}{rest:List HA}{x:TL s.ts}(hr:Rel E fr σ m K ρ w){g:Gt}{f:Nat->SV}{H:List HA}{us:List ah}
   (hg:s.get f H=some g) (hx:TL.of s.ts g.ds=some x) (hok:∀a∈H,HA.ok m' K' a) (hf:∀i,SV.rel m' K' (f i) (ρ' i)) (hmm:m <+: m') (hKK:K.le K') (hrest:∀a∈rest,a∈σ.H) (hs:Sep E K' (H.map (HA.conc m')++(us++(rest.map (HA.conc m)++σ.fz fr))) w')
   (hds:MOk fr.k0 K' ρ'.ds) (hold:∀i,i∉W->ρ' i=ρ i) {vs:List (Nat×SV)} {u:Un} (hu:s.un (TL.list s.ts x) σ.nx=some (vs,u)) :
   ∃m'',Rel E ⟨m,K,ρ,fun i=>W.contains i,fr.F,fr.k0⟩ ⟨fun i=>bif W.contains i then .any else σ.get i,bc (bR σ) vs,u.H.map (HA.sub (bR σ)),rest++σ.Hf,u.nx,false⟩ m'' K' ρ' w':=by
 rw[TL.of_list hx]at hu;have hoo:bM s.bl m.length=true:=by
   unfold Sh.un at hu;rw[hr.nx];cases ho:bM s.bl σ.nx with
   |true=>rfl
   |false=>rw[ho]at hu;cases hu
 obtain⟨vs',u',ms,e1,e2,e3,e4,e5,e6,e7,e8⟩:=Sh.get_un hg hok hmm hoo;rw[hr.nx,hu]at e1;cases e1;have hp':=ax m ms;refine⟨m++ms,Rel.subs (σ:=⟨fun i=>bif W.contains i then .any else σ.get i,vs,u.H,rest++σ.Hf,u.nx,false⟩) (qk hr.toPur (m':=m++ms) (fun _ _ k=>aq hp' k) hKK) ⟨⟨ax m ms,hKK,e2,fun e=>(by cases e),fun i=>?_,fun i hi=>?_,fun i hi=>?_,fun i sv hi=>qF e3 hi _ (hf i),e4,fun a ha=>?_,hds⟩,?_⟩⟩
 . show SV.rel m K (bif W.contains i then .any else σ.get i) (ρ i);cases W.contains i with
   |true=>exact trivial
   |false=>exact hr.toPur.get i
 . show (bif W.contains i then SV.any else σ.get i)=.any;have hi:W.contains i=true:=hi;rw[hi];rfl
 . by_cases hW:i∈W
   . exact .inl (by simpa using hW)
   . exact .inr (hold i hW)
 . refine hr.toPur.all a ?_
   rcases V3.1 ha with ha|ha
   . exact af0 _ (hrest a ha)
   . exact ae0 _ ha
 . have s1:=e6 E _ w' hs;have s2:Sep E K' ((g.H.map (HA.conc m')++us)++(u.H.map (HA.conc (m++ms))++(rest.map (HA.conc m)++σ.fz fr))) w':=Sep.perm (by
     rw[X1];refine (kA _ _ _).trans (cG0 _ (kA _ _ _)) ) s1
   show Sep E K' (u.H.map (HA.conc (m++ms))++((rest++σ.Hf).map (HA.conc m)++fr.F)) w';rw[X6,hr.toPur.fz',X1];exact Sep.drops s2
theorem Ac{s:Sh}{ds:List Dat}{nx:Nat}{o:List (Nat×SV)×Un}(h:s.un ds nx=some o):bM s.bl nx=true:=by
 unfold Sh.un at h;cases ho:bM s.bl nx with
 |true=>rfl
 |false=>rw[ho]at h;cases h
theorem H9 {c:Code} {f:Hn P->Zt->(R:Type)->(Exit->Hn P->Zt->Option R)->Option R} (hf:Fok P n c f) (hrd:kB E fr) {s:Sh} {W:List Nat} {a:Hn P} {k:Exit->Hn P->Zt->Option R} {r:R} {Q:Exit->Act->World->Prop} (h:rV f s W a σ k=some r) (hr:Rel E fr σ m K ρ w)
   (hQ:∀e h' σ' m' K' ρ' w',Rel E fr σ' m' K' ρ' w'->Same σ σ'->k e h' σ'=some r->Q e (Go.Proofs.YtpnmnbfbcgkcjaaGreatDoor.act1 n ρ') w'):(Code.loop c).wpIn (aG E.rd) 0 P Q (Go.Proofs.YtpnmnbfbcgkcjaaGreatDoor.act1 n ρ) w:=by
 unfold rV at h;split at h
 . rename_i g hg;split at h
   . rename_i x0 hx0;obtain⟨N,hN⟩:=vb h;refine wpIn_loop_rounds N ?_
     -- a round's head
     have round:∀(N:Nat) (x:TL s.ts) (m1:List M) (K1:Hp) (ρ1:Sl1) (w1:World) (vs:List (Nat×SV)) (u:Un),cN (mZ f s W g a σ k) N x=some r->s.un (TL.list s.ts x) σ.nx=some (vs,u) ->
         Rel E ⟨m,K,ρ,fun i=>W.contains i,fr.F,fr.k0⟩ ⟨fun i=>bif W.contains i then .any else σ.get i,bc (bR σ) vs,u.H.map (HA.sub (bR σ)),g.H++σ.Hf,u.nx,false⟩ m1 K1 ρ1 w1->Code.roundsIn (aG E.rd) 0 P c Q N (Go.Proofs.YtpnmnbfbcgkcjaaGreatDoor.act1 n ρ1) w1:=by
       intro N
       induction N with
       |zero=>intro x m1 K1 ρ1 w1 vs u hi;cases hi
       | succ N ih =>
         intro x m1 K1 ρ1 w1 vs u hi hu hrel;unfold cN at hi;obtain⟨o,ho,hi⟩:=ob hi;rw[roundsIn_succ];unfold mZ at ho;rw[hu]at ho;simp only at ho;have hgsub:∀a∈g.H,a∈σ.H:=by
           obtain⟨_,_,_,_,_,_,_,e5,_⟩:=Sh.get_un (m:=m) (K:=K) hg hr.okH (bJ0 m) (by rw[hr.nx];exact Ac hu);exact e5
         refine hf _ E ⟨m,K,ρ,fun i=>W.contains i,fr.F,fr.k0⟩ hrd a _ _ o m1 K1 ρ1 w1 _ ho hrel (fun e h' σ' m' K' ρ' w' h1 h2 h3=>?_);have other:e≠.normal->(k e h' (σ.thaw σ' g.H W)).map dk0=some o->Q e (Go.Proofs.YtpnmnbfbcgkcjaaGreatDoor.act1 n ρ') w':=fun _ h3=>by
           rw[aW0]at h3;obtain⟨r',h4,rfl⟩:=h3;cases hi;have hii:Inn σ fr ⟨m,K,ρ,fun i=>W.contains i,fr.F,fr.k0⟩ m K ρ g.H σ' W:=⟨rfl,rfl,rfl,rfl,rfl,h2.2,hgsub,fun i hi=>by simpa using hi⟩;obtain⟨q1,q2⟩:=wD hr hii h1;exact hQ e h' _ m' K' ρ' w' q2 q1 h4
         cases e with
         | normal =>
           obtain⟨h'',σ2,m2,K2,g1,g2,g3⟩:=aT h' h3 h1;rw[aW0]at g1;obtain⟨x',g1,rfl⟩:=g1;have hsame:=h2.trans g2;unfold Zt.pack at g1;replace g1:=ak g1;obtain⟨hk,g1⟩:=g1;split at g1
           . rename_i g' hg';cases hu':s.un (TL.list s.ts x') σ.nx with
             | none =>
               -- the next round would not run
               cases N with
               |zero=>cases hi
               | succ N =>
                 unfold cN at hi;obtain⟨o2,ho2,_⟩:=ob hi;unfold mZ at ho2;rw[hu']at ho2;cases ho2
             | some q =>
               obtain⟨vs',u'⟩:=q;have hii:Inn σ fr ⟨m,K,ρ,fun i=>W.contains i,fr.F,fr.k0⟩ m K ρ g.H σ2 W:=⟨rfl,rfl,rfl,rfl,rfl,hsame.2,hgsub,fun i hi=>by simpa using hi⟩;obtain⟨m'',hrel'⟩:=K5 (W:=W) (rest:=g.H) (us:=[]) hr hg' g1 g3.okH g3.toPur.get g3.hm g3.hK hgsub (by rw[aH0];exact hii.sep hr g3) g3.mks (fun i hi=>by
                 have:=g3.old i (pY hk hi)
                 rcases this with h4|h4
                 . exact absurd (by simpa using h4) hi
                 . exact h4) hu'
               exact ih x' m'' K2 ρ' w' vs' u' hi hu' hrel'
           . cases g1
         |exit i=>exact other nofun h3
         |goto l=>exact other nofun h3
         |ret=>exact other nofun h3
         |panic c=>exact other nofun h3
         |outgrown=>exact other nofun h3
     cases hu:s.un (TL.list s.ts x0) σ.nx with
     | none =>
       cases N with
       |zero=>cases hN
       | succ N =>
         unfold cN at hN;obtain⟨o2,ho2,_⟩:=ob hN;unfold mZ at ho2;rw[hu]at ho2;cases ho2
     | some q =>
       obtain⟨vs,u⟩:=q;have hu2:=hu;rw[TL.of_list hx0]at hu2;obtain⟨vs',u',ms,e1,e2,e3,e4,e5,e6,e7,e8⟩:=Sh.get_un (m:=m) (K:=K) hg hr.okH (bJ0 m) (by rw[hr.nx];exact Ac hu2);rw[hr.nx,hu2]at e1;cases e1;have hp':=ax m ms;refine round N x0 (m++ms) K ρ w vs u hN hu (Rel.subs (σ:=⟨fun i=>bif W.contains i then .any else σ.get i,vs,u.H,g.H++σ.Hf,u.nx,false⟩) (qk hr.toPur (m':=m++ms) (fun _ _ k=>aq hp' k) (Hp.le_refl K)) ⟨⟨ax m ms,Hp.le_refl K,e2,fun e=>(by cases e),fun i=>?_,fun i hi=>?_,fun i hi=>.inr rfl,fun i sv hi=>qF e3 hi _ (hr.toPur.get i),e4,fun a ha=>?_,hr.mks⟩,?_⟩)
       . show SV.rel m K (bif W.contains i then .any else σ.get i) (ρ i);cases W.contains i with
         |true=>exact trivial
         |false=>exact hr.toPur.get i
       . show (bif W.contains i then SV.any else σ.get i)=.any;have hi:W.contains i=true:=hi;rw[hi];rfl
       . refine hr.toPur.all a ?_
         rcases V3.1 ha with ha|ha
         . exact af0 _ (e5 a ha)
         . exact ae0 _ ha
       . have s1:=e6 E _ w hr.toSep;show Sep E K (u.H.map (HA.conc (m++ms))++((g.H++σ.Hf).map (HA.conc m)++fr.F)) w;rw[X6,hr.toPur.fz',X1];exact s1
   . cases h
 . cases h
theorem Am{c:Code}{f:Hn P->Zt->(R:Type)->(Exit->Hn P->Zt->Option R)->Option R}(hf:Fok P n c f)(hrd:kB E fr){k:Exit->Hn P->Zt->Option R}{r:R}{Q:Exit->Act->World->Prop}
   (hQ:∀e h' σ' m' K' ρ' w',Rel E fr σ' m' K' ρ' w'->Same σ σ'->k e h' σ'=some r->Q e (Go.Proofs.YtpnmnbfbcgkcjaaGreatDoor.act1 n ρ') w'):∀(N:Nat) {h:Hn P} {σ1:Zt} {m:List M} {K:Hp} {ρ:Sl1} {w:World},na (fun h σ k=>f h σ _ k) k N h σ1=some r->Rel E fr σ1 m K ρ w->Same σ σ1->Code.roundsIn (aG E.rd) 0 P c Q N (Go.Proofs.YtpnmnbfbcgkcjaaGreatDoor.act1 n ρ) w
 |0,h,σ1,m,K,ρ,w,hh,hr,hs=>by cases hh
 | N + 1,h,σ1,m,K,ρ,w,hh,hr,hs=>by
   rw[roundsIn_succ];unfold na at hh;refine hf _ E fr hrd h σ1 _ r m K ρ w _ hh hr (fun e h' σ' m' K' ρ' w' h1 h2 h3=>?_);cases e with
   |normal=>exact Am hf hrd hQ N h3 h1 (hs.trans h2)
   |exit i=>exact hQ _ h' σ' m' K' ρ' w' h1 (hs.trans h2) h3
   |goto i=>exact hQ _ h' σ' m' K' ρ' w' h1 (hs.trans h2) h3
   |ret=>exact hQ _ h' σ' m' K' ρ' w' h1 (hs.trans h2) h3
   |panic i=>exact hQ _ h' σ' m' K' ρ' w' h1 (hs.trans h2) h3
   |outgrown=>exact hQ _ h' σ' m' K' ρ' w' h1 (hs.trans h2) h3
theorem As{y:Code}{k:Exit->Hn P->Zt->Option R}{f:Hn P->Zt->Option R}{r:R}{Q:Exit->Act->World->Prop}{σ0:Zt}(hf:∀h' σ' m' K' ρ' w',Rel E fr σ' m' K' ρ' w'->Same σ0 σ'->f h' σ'=some r->y.wpIn (aG E.rd) 0 P Q (Go.Proofs.YtpnmnbfbcgkcjaaGreatDoor.act1 n ρ') w')
   (hQ:∀e h' σ' m' K' ρ' w',Rel E fr σ' m' K' ρ' w'->Same σ0 σ'->k e h' σ'=some r->Q e (Go.Proofs.YtpnmnbfbcgkcjaaGreatDoor.act1 n ρ') w'):∀e h' σ' m' K' ρ' w',Rel E fr σ' m' K' ρ' w'->Same σ0 σ'->ke k f e h' σ'=some r->Exit.then (y.wpIn (aG E.rd) 0 P Q) Q e (Go.Proofs.YtpnmnbfbcgkcjaaGreatDoor.act1 n ρ') w':=by
 intro e h' σ' m' K' ρ' w' h1 h2 h3;cases e with
 |normal=>exact hf h' σ' m' K' ρ' w' h1 h2 h3
 |exit i=>exact hQ _ h' σ' m' K' ρ' w' h1 h2 h3
 |goto i=>exact hQ _ h' σ' m' K' ρ' w' h1 h2 h3
 |ret=>exact hQ _ h' σ' m' K' ρ' w' h1 h2 h3
 |panic i=>exact hQ _ h' σ' m' K' ρ' w' h1 h2 h3
 |outgrown=>exact hQ _ h' σ' m' K' ρ' w' h1 h2 h3
theorem cI {J:Rn P} (hJ:JOk J):∀ (c:Code),Fok P n c (fun h σ R k=>exec J n c h σ k)
 |.skip=>fun R E fr hrd h σ k r m K ρ w Q hh hr hQ=>wpIn_skip (hQ _ h σ m K ρ w hr Same.rfl' hh)
 |.ret=>fun R E fr hrd h σ k r m K ρ w Q hh hr hQ=>wpIn_ret (hQ _ h σ m K ρ w hr Same.rfl' hh)
 |.exit id=>fun R E fr hrd h σ k r m K ρ w Q hh hr hQ=>wpIn_exit (hQ _ h σ m K ρ w hr Same.rfl' hh)
 |.label l=>fun R E fr hrd h σ k r m K ρ w Q hh hr hQ=>wpIn_label (hQ _ h σ m K ρ w hr Same.rfl' hh)
 | .scope b=>fun R E fr hrd h σ k r m K ρ w Q hh hr hQ=>by
   refine EI (cI hJ b R E fr hrd h σ _ r m K ρ w _ (show exec J n b h σ (Ck k)=some r from hh) hr (fun e h' σ' m' K' ρ' w' h1 h2 h3=>?_));cases e with
   |goto l=>cases h3
   |normal=>exact hQ _ h' σ' m' K' ρ' w' h1 h2 h3
   |exit i=>exact hQ _ h' σ' m' K' ρ' w' h1 h2 h3
   |ret=>exact hQ _ h' σ' m' K' ρ' w' h1 h2 h3
   |panic i=>exact hQ _ h' σ' m' K' ρ' w' h1 h2 h3
   |outgrown=>exact hQ _ h' σ' m' K' ρ' w' h1 h2 h3
 | .region id ops draw=>fun R E fr hrd h σ k r m K ρ w Q hh hr hQ=>by
   change (bif !ops.toList.all cy then none else bif draw then aD h σ fun h σ=>kF n ops.toList h σ fun h σ=>(match h with|.mix plan fin tail act r=>xZ n ops plan fin tail act r σ (k .normal)|.tr t s act a b=>trS n ops t s act a b σ (k .normal)|_=>none)else aD h σ fun h σ=>xY J n ops h σ (k .normal))=some r at hh;replace hh:=eK hh;obtain⟨hn,hh⟩:=hh;have hn:ops.toList.all cy=true:=by simpa using hn
   cases draw with
   | false =>
     simp only[cond_false]at hh;obtain⟨h1,σ1,m1,K1,hh,g1,hr⟩:=aT h hh hr;replace hQ:∀e h' σ' m' K' ρ' w',Rel E fr σ' m' K' ρ' w'->Same σ1 σ'->k e h' σ'=some r->Q e (act1 n ρ') w':=fun e h' σ' m' K' ρ' w' q1 q2 q3=>hQ e h' σ' m' K' ρ' w' q1 (g1.trans q2) q3
     clear g1;unfold xY at hh;split at hh
     . rename_i q h2;have key:wpListIn (aG E.rd) 0 P ops Q (ops.toList.take q++ops.toList.drop q) (act1 n ρ) w:=by
         have hn1:(ops.toList.take q).all cy=true:=aF0.2 (fun x hx=>aF0.1 hn x (bg0 hx));have hn2:(ops.toList.drop q).all cy=true:=aF0.2 (fun x hx=>aF0.1 hn x (eC0 hx));refine uF hn1 ?_;have:=jW (ops:=ops) (Q:=fun e a w=>e=.normal/\wpListIn (aG E.rd) 0 P ops Q (ops.toList.drop q) a w) (ops.toList.take q) 0 hh hr (fun h' σ' m' K' ρ' w' h1 h2 h3=>?_)
         . simpa using this
         . refine⟨rfl,?_⟩;split at h3
           . rename_i o rest hd;rw[hd]at hn2 ⊢;simp only[dg0,Y1]at hn2;obtain⟨dst,op,t,pos,af,gu⟩:=o;obtain⟨h4,σ4,s4,hr4,hg⟩:=j5 h3 h1
             rcases hg with⟨hw,hg⟩|⟨hw,hg⟩
             . refine Lp hJ hg hr4 hw (fun h'' σ'' m'' K'' ρ'' w'' g1 g2 g3=>?_);have:=jW (ops:=ops) (Q:=Q) rest 0 g3 g1 (fun h3 σ3 m3 K3 ρ3 w3 b1 b2 b3=>hQ _ h3 σ3 m3 K3 ρ3 w3 b1 (((h2.trans s4).trans g2).trans b2) b3);exact jG hn2.2 (by simpa using this)
             . unfold wpListIn;rw[if_neg (by rw[hw];exact Bool.false_ne_true)];refine⟨fun _ _=>trivial,?_⟩;cases dst with
               | none =>
                 have:=jW (ops:=ops) (Q:=Q) rest 0 hg hr4 (fun h3 σ3 m3 K3 ρ3 w3 b1 b2 b3=>hQ _ h3 σ3 m3 K3 ρ3 w3 b1 ((h2.trans s4).trans b2) b3);exact jG hn2.2 (by rw[ab0]at this;exact this)
               | some d =>
                 show wpListIn _ _ _ _ _ _ ((act1 n ρ').put (some d) undef) _;rw[bT];have:=jW (ops:=ops) (Q:=Q) rest 0 hg (hr4.set (d:=d) (sv:=.raw undef) (v:=undef) rfl) (fun h3 σ3 m3 K3 ρ3 w3 b1 b2 b3=>hQ _ h3 σ3 m3 K3 ρ3 w3 b1 (((h2.trans s4).trans ⟨rfl,rfl⟩).trans b2) b3);exact jG hn2.2 (by simpa using this)
           . cases h3
       rw[as0]at key;have:=wpIn_region_lit (id:=id) (l:=ops.toList) (by simpa using key);simpa using this
     . have:=wpIn_region_lit (id:=id) (jG (r:=E.rd) (n:=0) hn (jW (Q:=Q) (ops:=ops.toList.toArray) ops.toList 0 (by simpa using hh) hr (fun h' σ' m' K' ρ' w' h1 h2 h3=>hQ _ h' σ' m' K' ρ' w' h1 h2 h3)));simpa using this
   | true =>
     simp only[cond_true]at hh;obtain⟨h1,σ1,m1,K1,hh,g1,hr⟩:=aT h hh hr;obtain⟨h2,σ2,m2,hh,g2,hr⟩:=B9 h1 hh hr;replace hQ:∀e h' σ' m' K' ρ' w',Rel E fr σ' m' K' ρ' w'->Same σ2 σ'->k e h' σ'=some r->Q e (act1 n ρ') w':=fun e h' σ' m' K' ρ' w' q1 q2 q3=>hQ e h' σ' m' K' ρ' w' q1 ((g1.trans g2).trans q2) q3
     clear g1 g2;generalize K1=K at hr;generalize m2=m at hr;generalize σ2=σ at hr hh hQ;split at hh
     . rename_i plan fin tail act' h0;unfold xZ at hh;replace hh:=b7 hh;obtain⟨hm,hB,hh⟩:=hh;have hB':nI .any ops.toList.toArray plan fin tail=true:=by simpa using hB
       have hfr:=(hr.frz act').drew;have hplan:∀s i,(s,i)∈plan->i<ops.toList.length:=by
         intro s i hi;have h0:=hB;unfold nI at h0;simp only[Y1]at h0;obtain⟨_,h1⟩:=h0;split at h1
         . rename_i l1 hl1;simpa using zT plan _ _ hl1 s i hi
         . cases h1
       have key:=ri (l:=ops.toList) (Q:=Q) plan hh hfr rfl hplan (fun h' σ' m' K' ρ' w' h1 h2 h3=>by
         have hi:Inn σ fr ⟨m,K,ρ,fun _=>false,fr.F,fr.k0⟩ m K ρ (bU σ.H act') σ' []:=⟨rfl,rfl,rfl,rfl,rfl,h2.2,iv,fun _ _=>rfl⟩;obtain⟨z1,z2⟩:=wD hr hi h1;have:=jW (ops:=ops.toList.toArray) (Q:=Q) (bq ops.toList tail) 0 (by simpa using h3) z2 (fun h'' σ'' m'' K'' ρ'' w'' b1 b2 b3=>hQ .normal h'' σ'' m'' K'' ρ'' w'' b1 (z1.trans b2) b3)
         rwa [ab0]at this)
       have:=Fv (id:=id) (Q:=Q) plan fin tail hm hB' _ hfr.cfz rfl rfl rfl key hn (r:=E.rd) (n:=0);simpa using this
     . rename_i t s act' a b;unfold trS at hh;replace hh:=b7 hh;obtain⟨hm,hB,hh⟩:=hh;obtain⟨x,hx,hh⟩:=ob hh;have hfr:=(hr.frz act').drew;have key:=ra (l:=ops.toList) (F:=fun a' w'=>aw P ops.toList.toArray Q (bq ops.toList []) a' w') t hx hfr rfl (fun h' σ' m' K' ρ' w' h1 h2 h3=>by
         obtain⟨h'',σ2,m2,K2,g1,g2,g3⟩:=aT h' h3 h1;have hi:Inn σ fr ⟨m,K,ρ,fun _=>false,fr.F,fr.k0⟩ m K ρ (bU σ.H act') σ2 (s.sl.map (·.1)++aA ops.toList):=⟨rfl,rfl,rfl,rfl,rfl,(g2.2.trans h2.2),iv,fun _ _=>rfl⟩;obtain⟨σ3,m3,q1,q2,q3⟩:=rq hr hi g3 g1 hh;exact hQ .normal b σ3 m3 K2 ρ' w' q3 q2 q1)
       have:=Fd (id:=id) (Q:=Q) t [] hm hB _ hfr.cfz rfl key hn (r:=E.rd) (n:=0);simpa using this
     . cases hh
 | .seq a b=>fun R E fr hrd h σ k r m K ρ w Q hh hr hQ=>by
   have plain:∀h0,exec J n a h0 σ (ke k (fun h σ=>exec J n b h σ k))=some r->(Code.seq a b).wpIn (aG E.rd) 0 P Q (act1 n ρ) w:=fun h0 hh =>
     wpIn_seq (cI hJ a R E fr hrd h0 σ _ r m K ρ w _ hh hr (As (σ0:=σ) (fun h' σ' m' K' ρ' w' h1 h2 h3=>cI hJ b R E fr hrd h' σ' k r m' K' ρ' w' Q h3 h1 (fun e h'' σ'' m'' K'' ρ'' w'' q1 q2 q3=>hQ e h'' σ'' m'' K'' ρ'' w'' q1 (h2.trans q2) q3)) hQ))
   cases h with
   | sq mk s act ha hb =>
     have hh:(match Zt.mcs mk σ with|some σ=>kx (fun h σ R k=>exec J n a h σ k) s act (s.sl.map (·.1)++b8 a) ha hb σ (fun h σ=>exec J n b h σ k)|none=>none)=some r:=hh;split at hh
     . rename_i σ1 hm;obtain⟨m1,k1,k2⟩:=nh hm hr;refine wpIn_seq (AE (cI hJ a) hrd hh k2 (fun h' σ' m' K' ρ' w' h1 h2 h3=>?_));exact cI hJ b R E fr hrd h' σ' k r m' K' ρ' w' Q h3 h1 (fun e h'' σ'' m'' K'' ρ'' w'' q1 q2 q3=>hQ e h'' σ'' m'' K'' ρ'' w'' q1 ((k1.trans h2).trans q2) q3)
     . cases hh
   | sx mk s act ha hb =>
     have hh:(match Zt.mcs mk σ with|some σ=>kw (fun h σ R k=>exec J n a h σ k) s act (s.sl.map (·.1)++b8 a) ha hb σ (ke k (fun h σ=>exec J n b h σ k))|none=>none)=some r:=hh;split at hh
     . rename_i σ1 hm;obtain⟨m1,k1,k2⟩:=nh hm hr;refine wpIn_seq (Bj (cI hJ a) hrd hh k2 ?_);exact As (σ0:=σ1) (fun h' σ' m' K' ρ' w' h1 h2 h3=>cI hJ b R E fr hrd h' σ' k r m' K' ρ' w' Q h3 h1 (fun e h'' σ'' m'' K'' ρ'' w'' q1 q2 q3=>hQ e h'' σ'' m'' K'' ρ'' w'' q1 ((k1.trans h2).trans q2) q3)) (fun e h' σ' m' K' ρ' w' q1 q2 q3=>hQ e h' σ' m' K' ρ' w' q1 (k1.trans q2) q3)
     . cases hh
   |pl h=>exact plain h hh
   |nil=>exact plain _ hh
   |two _ _ _=>exact plain _ hh
   |tw _ _ _=>exact plain _ hh
   |jn _ _ _ _ _=>exact plain _ hh
   |jx _ _ _ _ _=>exact plain _ hh
   |lp _ _=>exact plain _ hh
   |un _ _=>exact plain _ hh
   |per _ _ _=>exact plain _ hh
   |perb _ _ _ _=>exact plain _ hh
   |mc _ _ _ _=>exact plain _ hh
   |ms _ _=>exact plain _ hh
   |wt _ _=>exact plain _ hh
   |cl _ _ _=>exact plain _ hh
   |c2 _ _ _ _=>exact plain _ hh
   |gp _ _=>exact plain _ hh
   |gj _ _ _ _ _=>exact plain _ hh
   |mix _ _ _ _ _=>exact plain _ hh
   |opn _ _ _=>exact plain _ hh
   |opb _ _ _=>exact plain _ hh
   |cls _ _ _=>exact plain _ hh
   |cld _ _ _=>exact plain _ hh
   |opp _ _ _ _=>exact plain _ hh
   |ot _ _=>exact plain _ hh
   |cm _ _ _ _=>exact plain _ hh
   |cm2 _ _ _ _ _=>exact plain _ hh
   |tr _ _ _ _ _=>exact plain _ hh
   |tru _=>exact plain _ hh
   |yl _ _=>exact plain _ hh
   |rg _ _=>exact plain _ hh
   |il _ _=>exact plain _ hh
 | .cond c x y=>fun R E fr hrd h σ k r m K ρ w Q hh hr hQ=>by
   obtain⟨h1,σ1,m1,K1,g1,g2,g3⟩:=aT h (show aD h σ (fun h σ=>xC c (σ.evr n c) h σ (fun h σ=>exec J n x h σ k) (fun h σ=>exec J n y h σ k))=some r from hh) hr;have hv:=g3.toPur.evr n c;have goX:∀h2 σ2,Rel E fr σ2 m1 K1 ρ w->Same σ σ2->exec J n x h2 σ2 k=some r->x.wpIn (aG E.rd) 0 P Q (act1 n ρ) w:=fun h2 σ2 q1 q2 q3 =>
     cI hJ x R E fr hrd h2 σ2 k r m1 K1 ρ w Q q3 q1 (fun e h'' σ'' m'' K'' ρ'' w'' p1 p2 p3=>hQ e h'' σ'' m'' K'' ρ'' w'' p1 (q2.trans p2) p3)
   have goY:∀h2 σ2,Rel E fr σ2 m1 K1 ρ w->Same σ σ2->exec J n y h2 σ2 k=some r->y.wpIn (aG E.rd) 0 P Q (act1 n ρ) w:=fun h2 σ2 q1 q2 q3 =>
     cI hJ y R E fr hrd h2 σ2 k r m1 K1 ρ w Q q3 q1 (fun e h'' σ'' m'' K'' ρ'' w'' p1 p2 p3=>hQ e h'' σ'' m'' K'' ρ'' w'' p1 (q2.trans p2) p3)
   have slot:∀(d:Nat) (sv:SV),c=.tmp d->σ1.evr n c=sv->sv≠.any->σ1.get d=sv:=fun d sv hc he hne=>by
     subst hc;cases hh:aO0 d n with
     | false =>
       have:σ1.evr n (.tmp d)=.any:=by show (bif aO0 d n then σ1.get d else .any)=_;rw[hh];rfl
       rw[this]at he;exact absurd he.symm hne
     | true =>
       have:σ1.evr n (.tmp d)=σ1.get d:=by show (bif aO0 d n then σ1.get d else .any)=_;rw[hh];rfl
       rw[<- this];exact he
   unfold xC at g1;split at g1
   . rename_i jm w0 e;rw[e]at hv;obtain⟨hj,hv⟩:=hv;split at g1
     . rename_i t;have hb:ev n ρ c=.bool t:=hv;rw[hb]at hj;refine wpIn_cond_split (t:=t) (by rw[cg];exact hb) (fun ht=>?_) (fun ht=>?_)
       . subst ht;split at g1
         . exact goX _ _ (g3.fix (v:=.bool true) hj rfl) (g2.trans ⟨rfl,rfl⟩) g1
         . exact goX _ σ1 g3 g2 g1
         . exact goX _ σ1 g3 g2 g1
       . subst ht;split at g1
         . exact goY _ _ (g3.fix (v:=.bool false) hj rfl) (g2.trans ⟨rfl,rfl⟩) g1
         . exact goY _ σ1 g3 g2 g1
         . exact goY _ σ1 g3 g2 g1
     . cases g1
   . rename_i t e;rw[e]at hv;have hb:ev n ρ c=.bool t:=hv;refine wpIn_cond_split (t:=t) (by rw[cg];exact hb) (fun ht=>?_) (fun ht=>?_)
     . subst ht;split at g1
       . rename_i ha hbn d _;have hg:=slot d _ rfl e nofun;exact goX ha _ (g3.ref (fun _ _ u hu=>by rw[hg]at hu;exact hu) (by rw[hg];nofun)) (g2.trans ⟨rfl,iL.2⟩) g1
       . exact goX _ σ1 g3 g2 g1
       . exact goX _ σ1 g3 g2 g1
     . subst ht;split at g1
       . rename_i ha hbn d _;have hg:=slot d _ rfl e nofun;exact goY hbn _ (g3.ref (fun _ _ u hu=>by rw[hg]at hu;exact hu) (by rw[hg];nofun)) (g2.trans ⟨rfl,iL.2⟩) g1
       . exact goY _ σ1 g3 g2 g1
       . exact goY _ σ1 g3 g2 g1
   . rename_i tp l ng e;rw[e]at hv;obtain⟨q,hb,hl⟩:=hv;refine wpIn_cond_split (t:=q ^^ ng) (by rw[cg];exact hb) (fun ht=>?_) (fun ht=>?_)
     . split at g1
       . rename_i ha hbn _;cases ng with
         | true =>
           rw[em0]at ht;simp only[cond_true]at g1;exact goX ha _ g3 g2 (zZ g1)
         | false =>
           rw[dY0]at ht;simp only[cond_false]at g1;exact goX ha _ g3 g2 (A7 (hl ht) g1)
       . cases g1
     . split at g1
       . rename_i ha hbn _;cases ng with
         | true =>
           rw[em0]at ht;simp only[cond_true]at g1;exact goY hbn _ g3 g2 (A7 (hl (by simpa using ht)) g1)
         | false =>
           rw[dY0]at ht;simp only[cond_false]at g1;exact goY hbn _ g3 g2 (zZ g1)
       . cases g1
   . cases g1
 | .block id b=>fun R E fr hrd h σ k r m K ρ w Q hh hr hQ=>by
   have blk:∀{R:Type} {k:Exit->Hn P->Zt->Option R} {r:R} {Q:Exit->Act->World->Prop} {fr:Frz} {σ:Zt},(∀e h' σ' m' K' ρ' w',Rel E fr σ' m' K' ρ' w'->Same σ σ'->k e h' σ'=some r->Q e (act1 n ρ') w') ->
       ∀e h' σ' m' K' ρ' w',Rel E fr σ' m' K' ρ' w'->Same σ σ'->gB id k e h' σ'=some r->Exit.inBlock id Q e (act1 n ρ') w':=by
     intro R k r Q fr σ hQ e h' σ' m' K' ρ' w' h1 h2 h3;cases e with
     | exit i =>
       change (bif Y3 i id then k .normal h' σ' else k (.exit i) h' σ')=some r at h3;show if i=id then _ else _
       cases hb:Y3 i id with
       | true =>
         rw[hb]at h3;rw[if_pos (Y0 hb)];exact hQ _ h' σ' m' K' ρ' w' h1 h2 h3
       | false =>
         rw[hb]at h3;rw[if_neg (fun e=>by rw[e,bY0]at hb;cases hb)];exact hQ _ h' σ' m' K' ρ' w' h1 h2 h3
     |normal=>exact hQ _ h' σ' m' K' ρ' w' h1 h2 h3
     |goto l=>exact hQ _ h' σ' m' K' ρ' w' h1 h2 h3
     |ret=>exact hQ _ h' σ' m' K' ρ' w' h1 h2 h3
     |panic i=>exact hQ _ h' σ' m' K' ρ' w' h1 h2 h3
     |outgrown=>exact hQ _ h' σ' m' K' ρ' w' h1 h2 h3
   have fb:Fok P n (.block id b) (fun h σ R k=>exec J n b h σ (gB id k)):=fun R E fr hrd h σ k r m K ρ w Q hh hr hQ=>by
     refine wpIn_block (cI hJ b R E fr hrd h σ _ r m K ρ w _ hh hr ?_);intro e h' σ' m' K' ρ' w' h1 h2 h3;cases e with
     | exit i =>
       change (bif Y3 i id then k .normal h' σ' else k (.exit i) h' σ')=some r at h3;show if i=id then _ else _
       cases hb:Y3 i id with
       | true =>
         rw[hb]at h3;rw[if_pos (Y0 hb)];exact hQ _ h' σ' m' K' ρ' w' h1 h2 h3
       | false =>
         rw[hb]at h3;rw[if_neg (fun e=>by rw[e,bY0]at hb;cases hb)];exact hQ _ h' σ' m' K' ρ' w' h1 h2 h3
     |normal=>exact hQ _ h' σ' m' K' ρ' w' h1 h2 h3
     |goto l=>exact hQ _ h' σ' m' K' ρ' w' h1 h2 h3
     |ret=>exact hQ _ h' σ' m' K' ρ' w' h1 h2 h3
     |panic i=>exact hQ _ h' σ' m' K' ρ' w' h1 h2 h3
     |outgrown=>exact hQ _ h' σ' m' K' ρ' w' h1 h2 h3
   have plain:∀h0,exec J n b h0 σ (gB id k)=some r->(Code.block id b).wpIn (aG E.rd) 0 P Q (act1 n ρ) w:=fun h0 hh=>fb R E fr hrd h0 σ k r m K ρ w Q hh hr hQ
   cases h with
   | jn mk s act ha hb =>
     have hh:(match Zt.mcs mk σ with|some σ=>kx (fun h σ R k=>exec J n b h σ (gB id k)) s act (s.sl.map (·.1)++b8 b) ha hb σ (k .normal)|none=>none)=some r:=hh;split at hh
     . rename_i σ1 hm;obtain⟨m1,k1,k2⟩:=nh hm hr;exact AE fb hrd hh k2 (fun h' σ' m' K' ρ' w' h1 h2 h3=>hQ _ h' σ' m' K' ρ' w' h1 (k1.trans h2) h3)
     . cases hh
   | jx mk s act ha hb =>
     have hh:(match Zt.mcs mk σ with|some σ=>kw (fun h σ R k=>exec J n b h σ (gB id k)) s act (s.sl.map (·.1)++b8 b) ha hb σ k|none=>none)=some r:=hh;split at hh
     . rename_i σ1 hm;obtain⟨m1,k1,k2⟩:=nh hm hr;exact Bj fb hrd hh k2 (fun e h' σ' m' K' ρ' w' q1 q2 q3=>hQ e h' σ' m' K' ρ' w' q1 (k1.trans q2) q3)
     . cases hh
   |pl h=>exact plain _ hh
   |nil=>exact plain _ hh
   |two _ _ _=>exact plain _ hh
   |tw _ _ _=>exact plain _ hh
   |sq _ _ _ _ _=>exact plain _ hh
   |sx _ _ _ _ _=>exact plain _ hh
   |lp _ _=>exact plain _ hh
   |un _ _=>exact plain _ hh
   |per _ _ _=>exact plain _ hh
   |perb _ _ _ _=>exact plain _ hh
   |mc _ _ _ _=>exact plain _ hh
   |ms _ _=>exact plain _ hh
   |wt _ _=>exact plain _ hh
   |cl _ _ _=>exact plain _ hh
   |c2 _ _ _ _=>exact plain _ hh
   |gp _ _=>exact plain _ hh
   |gj _ _ _ _ _=>exact plain _ hh
   |mix _ _ _ _ _=>exact plain _ hh
   |opn _ _ _=>exact plain _ hh
   |opb _ _ _=>exact plain _ hh
   |cls _ _ _=>exact plain _ hh
   |cld _ _ _=>exact plain _ hh
   |opp _ _ _ _=>exact plain _ hh
   |ot _ _=>exact plain _ hh
   |cm _ _ _ _=>exact plain _ hh
   |cm2 _ _ _ _ _=>exact plain _ hh
   |tr _ _ _ _ _=>exact plain _ hh
   |tru _=>exact plain _ hh
   |yl _ _=>exact plain _ hh
   |rg _ _=>exact plain _ hh
   |il _ _=>exact plain _ hh
 | .loop b=>fun R E fr hrd h σ k r m K ρ w Q hh hr hQ=>by
   obtain⟨h1,σ1,m1,K1,g1,g2,g3⟩:=aT h (show aD h σ (fun h σ=>match h with
     |.un m r=>na (fun h σ k=>exec J n b h σ k) k m r σ
     |.lp s ha=>rV (fun h σ R k=>exec J n b h σ k) s (s.sl.map (·.1)++b8 b) ha σ k
     |_=>none)=some r from hh) hr
   have hQ':∀e h' σ' m' K' ρ' w',Rel E fr σ' m' K' ρ' w'->Same σ1 σ'->k e h' σ'=some r->Q e (act1 n ρ') w':=fun e h'' σ'' m'' K'' ρ'' w'' p1 p2 p3=>hQ e h'' σ'' m'' K'' ρ'' w'' p1 (g2.trans p2) p3
   split at g1
   . exact wpIn_loop_rounds _ (Am (cI hJ b) hrd hQ' _ g1 g3 Same.rfl')
   . exact H9 (cI hJ b) hrd g1 g3 hQ'
   . cases g1
 | .rangeFunc g ps ao bo=>fun R E fr hrd h σ k r m K ρ w Q hh hr hQ=>by
   obtain⟨h1,σ1,m1,K1,g1,g2,g3⟩:=aT h (show aD h σ (fun h σ=>r6 J n g ps ao bo h σ k)=some r from hh) hr;exact HO hJ hrd g1 g3 (fun e h'' σ'' m'' K'' ρ'' w'' p1 p2 p3=>hQ e h'' σ'' m'' K'' ρ'' w'' p1 (g2.trans p2) p3)
 |.goto l=>fun R E fr hrd h σ k r m K ρ w Q hh hr hQ=>by cases hh
 |.refuse s=>fun R E fr hrd h σ k r m K ρ w Q hh hr hQ=>by cases hh
theorem A2:∀d:Nat,JOk (xL (P:=P) d)
 |0=>fun n c R E fr hrd h σ k r m K ρ w Q hh hr hQ=>by cases hh
 |d+1=>fun n c=>cI (A2 d) c
end
end
section
variable [BldA]
def eQ(P:Program)(n:Nat)(σ:Zt):List ResultVar->Option (List SV)
 |[]=>some []
 |.tmp t::r=>(match eQ P n σ r with|some vs=>some (σ.ev n (.tmp t)::vs)|none=>none)
 | .cell a ty :: r=>(match σ.ev n (.tmp a) with
   | .ptr i o=>(match aX (HA.blkR i) (σ.H++σ.Hf) with
     |some q=>(match ldv P ty q.cs o,eQ P n σ r with|some v,some vs=>some (v::vs)|_,_=>none)
     |none=>none)
   |_=>none)
def Es:List SV->SV
 |[v]=>v
 |vs=>.tup vs
def gR(σ:Zt)(rs:List SV)(o:Sh):Option (TL o.ts):=bif (match rs,o.sl with|[],[]=>true|_::_,[p]=>Y3 p.1 0|_,_=>false)then (match o.get (fun _=>Es rs) σ.H with|some g=>TL.of o.ts g.ds|none=>none)else none
def sV{P:Program}(σ:Zt)(rs:List SV):(os:List Sh)->Hn P->Option (c8 os)
 |[a],_=>gR σ rs a
 |[a,b],h=>(match h with|.pl _=>(gR σ rs b).map dk0|_=>(gR σ rs a).map dy0)
 |_,_=>none
def sM{P:Program}(n:Nat)(fn:Func)(os:List Sh)(h:Hn P)(σ:Zt):Option (c8 os):=aD h σ fun h σ=>match eQ P n σ fn.results.toList with|some rs=>sV σ rs os h|none=>none
def fin{P:Program}(n:Nat)(fn:Func)(os:List Sh)(e:Exit)(h:Hn P)(σ:Zt):Option (c8 os):=match e with
 |.normal=>sM n fn os h σ
 |.ret=>sM n fn os h σ
 |_=>none
def yF{P:Program}(n:Nat)(fn:Func)(c:Code)(inn:Sh)(os:List Sh)(h:Hn P)(x:TL inn.ts):Option (c8 os):=match inn.un (TL.list inn.ts x) 0 with
 |some (vs,u)=>aD h ⟨fun _=>.any,vs,u.H,[],u.nx,false⟩ fun h σ=>exec (xL 4) n c h σ (fin n fn os)
 |none=>none
section
variable {P:Program}{E:En}{n:Nat}{m:List M}{K:Hp}{fr:Frz}{σ:Zt}{ρ:Sl1}{w:World}
theorem wL(hr:Rel E fr σ m K ρ w):∀{l:List ResultVar} {rs:List SV},eQ P n σ l=some rs->∃us:List Value,SV.relL m K rs us/\l.length=us.length/\∀(j:Nat) (r:ResultVar) (v:Value),l[j]?=some r->us[j]?=some v->nL P n (Hold E K (σ.atoms fr m)) ρ r v
 |[],rs,h=>by cases h;exact⟨[],rfl,rfl,fun j r v h=>by simp at h⟩
 | .tmp t :: l,rs,h=>by
   unfold eQ at h;split at h
   . rename_i vs hvs;cases h;obtain⟨us,h1,h2,h3⟩:=wL hr hvs;refine⟨ev n ρ (.tmp t)::us,⟨_,us,rfl,hr.toPur.ev n (.tmp t),h1⟩,by simp[h2],fun j r v hj hv=>?_⟩;cases j with
     |zero=>simp at hj hv;subst hj hv;rfl
     |succ j=>exact h3 j r v (by simpa using hj) (by simpa using hv)
   . cases h
 | .cell a ty :: l,rs,h=>by
   unfold eQ at h;split at h
   . rename_i i o e;split at h
     . rename_i q hq;split at h
       . rename_i v vs hv hvs;cases h;obtain⟨us,h1,h2,h3⟩:=wL hr hvs;obtain⟨x,hx,hmem⟩:=bA hq;obtain rfl:=cH hx;obtain⟨b,ws,g1,g2,g3⟩:=hr.cls.blk hmem;obtain⟨u,g4,g5⟩:=nj (P:=P) (o0:=0) hv g2 (fun j u hu=>by rw[Y8];exact g3 j u hu);rw[Y8]at g4;have hev:=hr.toPur.ev n (.tmp a);rw[e]at hev;obtain⟨b',q1,q2⟩:=hev;rw[g1]at q1;cases q1;refine⟨u::us,⟨_,us,rfl,g5,h1⟩,by simp[h2],fun j r v hj hv=>?_⟩;cases j with
         |zero=>simp at hj hv;subst hj hv;exact⟨b,o,q2,g4⟩
         |succ j=>exact h3 j r v (by simpa using hj) (by simpa using hv)
       . cases h
     . cases h
   . cases h
theorem Bq{C:World->Prop}{w:World}(hw:C w):∀{l:List ResultVar} {us:List Value},l.length=us.length->(∀(j:Nat) (r:ResultVar) (v:Value),l[j]?=some r->us[j]?=some v->nL P n C ρ r v)->(l.mapM (rvS (frm n ρ))).run P w=.ok us w
 | [],us,h,_=>by
   obtain rfl:us=[]:=Z4.1 h.symm;simp
 | r :: l,us,h,hr=>by
   cases us with
   |nil=>cases h
   | cons u us =>
     have h1:=C3 (hr 0 r u rfl rfl) hw;have h2:=Bq hw (l:=l) (us:=us) (by simpa using h) (fun j r v hj hv=>hr (j+1) r v (by simpa using hj) (by simpa using hv));simp[List.mapM_cons,h1,h2]
def nH:List Value->Value
 |[v]=>v
 |vs=>.tuple vs.toArray
theorem J7{C:World->Prop}{w:World}(hw:C w){fn:Func}{us:List Value}(hl:fn.results.toList.length=us.length)(h:∀(j:Nat) (r:ResultVar) (v:Value),fn.results.toList[j]?=some r->us[j]?=some v->nL P n C ρ r v):(results fn (frm n ρ)).run P w=.ok (nH us) w:=by
 have h1:=Bq hw hl h;rw[zb];simp only[da0];simp only[Sem.run_bind,Sem.run_map,h1,Result.andThen_ok,Sem.run_pure]
 match us with
 |[]=>rfl
 |[u]=>rfl
 | u :: v :: r =>
   rw[dif_neg (by simp)];rfl
theorem H3{rs:List SV}{us:List Value}(h:SV.relL m K rs us)(hne:rs≠[]):SV.rel m K (Es rs) (nH us):=by
 match rs,us,h with
 |[],_,_=>exact absurd rfl hne
 | [v],us,h =>
   obtain⟨u,q,rfl,h1,h2⟩:=aM h;obtain rfl:=aU h2;exact h1
 | v :: v2 :: r,us,h =>
   obtain⟨u,q,rfl,h1,h2⟩:=aM h;obtain⟨u2,q2,rfl,h3,h4⟩:=aM h2;exact⟨_,rfl,u,_,rfl,h1,u2,q2,rfl,h3,h4⟩
theorem wg{rs:List SV}{us:List Value}{o:Sh}{x:TL o.ts}{K0:Hp}{m0:List M}(h:gR σ rs o=some x)(hr:Rel E fr σ m K ρ w)(hrel:SV.relL m K rs us)(hm:m0 <+: m)(ho:bM o.bl m0.length=true)(hF:σ.Hf=[]) :
   ∃vs' u' m',o.un (TL.list o.ts x) m0.length=some (vs',u')/\m0 <+: m'/\m'.length=u'.nx/\(∀a∈u'.H,HA.ok m' K a)/\kM m' K vs' (nH us)/\Sep E K (u'.H.map (HA.conc m')++fr.F) w:=by
 unfold gR at h;replace h:=ak h;obtain⟨hs,h⟩:=h;split at h
 . rename_i g hg;obtain⟨vs,u,ms,e1,e2,e3,e4,e5,e6,e7,e8⟩:=Sh.get_un hg hr.okH hm ho;rw[TL.of_list h];refine⟨vs,u,m0++ms,e1,ax _ _,e2,e4,?_,?_⟩
   . split at hs
     . rename_i hsl;rw[hsl]at e3;obtain rfl:vs=[]:=e3;obtain rfl:=aU hrel;rfl
     . rename_i v r p hsl;rw[hsl]at e3;obtain⟨sv,q,rfl,g1,g2⟩:=e3;obtain rfl:q=[]:=g2;exact g1 _ (H3 hrel (by simp))
     . cases hs
   . have:=e6 E _ w hr.toSep;have h2:σ.fz fr=fr.F:=by unfold Zt.fz;rw[hF];rfl
     rw[h2]at this;have h3:Sep E K (g.H.map (HA.conc m)++(u.H.map (HA.conc (m0++ms))++fr.F)) w:=Sep.perm (kA _ _ _) this;exact Sep.drops h3
 . cases h
theorem KE{rs:List SV}{us:List Value}{m0:List M}(hr:Rel E fr σ m K ρ w)(hrel:SV.relL m K rs us)(hm:m0 <+: m)(hF:σ.Hf=[]):∀{os:List Sh} {h0:Hn P} {r:c8 os},(∀o∈os,bM o.bl m0.length=true)->sV σ rs os h0=some r ->
   ∃vs' u' m',(dM os r).1.un (dM os r).2 m0.length=some (vs',u')/\m0 <+: m'/\m'.length=u'.nx/\(∀a∈u'.H,HA.ok m' K a)/\kM m' K vs' (nH us)/\Sep E K (u'.H.map (HA.conc m')++fr.F) w
 |[],h0,r,_,h=>fc0 r
 |[a],h0,r,ho,h=>wg (K0:=K) (show gR σ rs a=some r from h) hr hrel hm (ho a (by simp)) hF
 | [a,b],h0,r,ho,h=>by
   have key:(gR σ rs b).map dk0=some r\/(gR σ rs a).map dy0=some r:=by
     cases h0 <;> first |exact .inl h|exact .inr h
   clear h
   rcases key with h|h
   . rw[aW0]at h;obtain⟨x,h,rfl⟩:=h;exact wg (K0:=K) h hr hrel hm (ho b (by simp)) hF
   . rw[aW0]at h;obtain⟨x,h,rfl⟩:=h;exact wg (K0:=K) h hr hrel hm (ho a (by simp)) hF
 |a::b::c::os,h0,r,_,h=>by cases h
theorem Aa:∀{sl:List (Nat×Kd)} {vs:List (Nat×SV)} {us:List Value} {j N:Nat},slN j sl N=true->vs.map (·.1)=sl.map (·.1)->slR m K vs us->∀i sv,look vs i=some sv->∃k u,i=j+k/\us[k]?=some u/\SV.rel m K sv u
 | [],vs,us,j,N,h1,h2,h3,i,sv,hl=>by
   have:vs=[]:=by cases vs with|nil=>rfl|cons a b=>cases h2
   subst this;cases hl
 | p :: sl,vs,us,j,N,h1,h2,h3,i,sv,hl=>by
   cases vs with
   |nil=>cases h2
   | cons q vs =>
     simp only[X5,aQ0]at h2;simp only[slN,Y1]at h1;have hj:=Y0 h1.1;obtain⟨u,r,rfl,g1,g2⟩:=h3;change (bif Y3 q.1 i then some q.2 else look vs i)=some sv at hl;cases hb:Y3 q.1 i with
     | true =>
       rw[hb]at hl;cases hl;have:=Y0 hb;exact⟨0,u,by rw[<- this,h2.1,hj];rfl,rfl,g1⟩
     | false =>
       rw[hb]at hl;obtain⟨k,u',e1,e2,e3⟩:=Aa h1.2 h2.2 g2 i sv hl;exact⟨k+1,u',by omega,by simpa using e2,e3⟩
theorem Be{bi:List Nat}:∀{sl:List (Nat×Kd)} {u u':Un} {vs:List (Nat×SV)},unS bi sl u=some (vs,u')->vs.map (·.1)=sl.map (·.1)
 |[],u,u',vs,h=>by cases h;rfl
 | p :: sl,u,u',vs,h=>by
   unfold unS at h;split at h
   . split at h
     . rename_i h2;cases h;simp[Be h2]
     . cases h
   . cases h
theorem KK{s:Sh}{ds:List Dat}{nx:Nat}{vs:List (Nat×SV)}{u:Un}(h:s.un ds nx=some (vs,u)):vs.map (·.1)=s.sl.map (·.1):=by
 unfold Sh.un at h;replace h:=(ak h).2;split at h;split at h
 . rename_i h1;split at h
   . cases h;exact Be h1
   . cases h
 . cases h
theorem BT:∀{vs:List (Nat×SV)} {us:List Value},slR m K vs us->us.length=vs.length
 |[],us,h=>by obtain rfl:us=[]:=h;rfl
 |p::vs,us,⟨u,r,e,_,h⟩=>by subst e;simp[BT h]
end
section
variable {P:Program}{E:En}{n:Nat}{m:List M}{K:Hp}{fr:Frz}{σ:Zt}{ρ:Sl1}{w:World}
theorem wK{b:Bool}:∀l:List ResultVar,eQ P n ⟨σ.base,σ.top,σ.H,σ.Hf,σ.nx,b⟩ l=eQ P n σ l
 |[]=>rfl
 |.tmp t::r=>by unfold eQ;rw[wK r];rfl
 |.cell a ty::r=>by unfold eQ;rw[wK r];rfl
theorem KJ{b:Bool}{rs:List SV}:∀{os:List Sh} {h:Hn P},sV ⟨σ.base,σ.top,σ.H,σ.Hf,σ.nx,b⟩ rs os h=sV σ rs os h
 |[],h=>rfl
 |[a],h=>rfl
 |[a,b],h=>by cases h <;> rfl
 |a::b::c::os,h=>rfl
end
section
variable {P:Program}{n:Nat}
theorem Nz{s:Spec}{fn:Func}{c:Code}(hf:P.funcs[s.f]?=some fn)(hb:fn.body=some c)(hn:fn.ntmps=n)(h:Hn P)(hc:(slN 0 s.inn.sl s.inn.sl.length&&aT0 s.inn.sl.length n)=true)(hold:∀ds vs u,s.inn.un ds 0=some (vs,u)->∀o∈s.outs,bM o.bl u.nx=true)
   (hex:∀(x:TL s.inn.ts) r,s.fn x=some r->yF n fn c s.inn s.outs h x=some r):dj P s:=by
 intro x r hx vs u hu m K args hgk hm hok hsl E w F hs;rw[Y1]at hc;obtain⟨hc1,hc2⟩:=hc;have hkeys:=KK hu;have hlen:args.toArray.size<=n:=by
   have h1:=BT hsl;have h2:vs.length=s.inn.sl.length:=by have:=congrArg W4 hkeys;simpa using this
   simp only[aV0];have:=W9 hc2;omega
 refine callsIn_wide.1 (callsIn_of_wp_marks (F:=Fence.wide) (n:=0) hf hb trivial ?_);rw[hn,qD hlen];have hrun:=hex x r hx;unfold yF at hrun;rw[hu]at hrun;simp only at hrun;have hrel:Rel E.out0 ⟨m,K,cK args.toArray,fun _=>false,F,K⟩ ⟨fun _=>.any,vs,u.H,[],u.nx,false⟩ m K (cK args.toArray) w:=by
   refine⟨⟨bJ0 m,Hp.le_refl K,hm,fun e=>(by cases e),fun i=>trivial,fun i e=>rfl,fun i _=>.inr rfl,fun i sv hi=>?_,hok,fun a ha=>by simp at ha,MOk.nil hgk (Hp.le_refl K)⟩,?_⟩
   . obtain⟨k,v,e1,e2,e3⟩:=Aa hc1 hkeys hsl i sv hi;have:cK args.toArray i=v:=by
       show eG args.toArray i=v;unfold eG;rw[e1,Y8];simp[e2]
     rw[this];exact e3
   . exact hs.out0
 obtain⟨hp,σp,mp,Kp,p1,p2,p3⟩:=aT h hrun hrel;refine cI (A2 4) c (c8 s.outs) E.out0 ⟨m,K,cK args.toArray,fun _=>false,F,K⟩ (fun l e=>by cases e) hp σp (fin n fn s.outs) r mp Kp _ w _ p1 p3 (fun e h' σ' m' K' ρ' w' h1 h2 h3=>?_);have fini:sM n fn s.outs h' σ'=some r->LeavesInM Fence.wide 0 P fn (act1 n ρ').tmps (fun e w'=>∃v K' L',e=.returned v/\(∃vs' u' m',(dM s.outs r).1.un (dM s.outs r).2 u.nx=some (vs',u')/\m <+: m'/\m'.length=u'.nx/\(∀a∈u'.H,HA.ok m' K' a)/\kM m' K' vs' v/\L'=u'.H.map (HA.conc m'))/\K.le K'/\Sep E K' (L'++F) w') (act1 n ρ').defers .returning w':=fun h3=>by
   unfold sM at h3;obtain⟨h'',σ2,m2,K2,g1,g2,g3⟩:=aT h' h3 h1;split at g1
   . rename_i rs hrs;refine pW ρ'.ds g3.mks g3.toSep (fun K3 w3 c1 c2 c3=>?_);have g4:=g3.unmark c1 c2 c2 c3;rw[<- wK (b:=false)]at hrs;rw[<- KJ (b:=false)]at g1;obtain⟨us,q1,q2,q3⟩:=wL g4 hrs;refine⟨nH us,J7 (ρ:=(⟨ρ'.f,[]⟩:Sl1)) g4.hold q2 q3,?_⟩;obtain⟨vs',u',m'',z1,z2,z3,z4,z5,z6⟩:=KE (m0:=m) g4 q1 g4.hm (((p2.trans h2).trans g2).2) (fun o ho=>by rw[hm];exact hold _ _ _ hu o ho) g1;rw[hm]at z1;exact⟨_,K3,_,rfl,⟨vs',u',m'',z1,z2,z3,z4,z5,rfl⟩,g4.hK,z6.back⟩
   . cases g1
 cases e with
 |normal=>exact fini h3
 |ret=>exact fini h3
 |_=>cases h3
end
end
section
variable [BldA]
mutual
theorem sh{bi:List Nat}:∀(k:Kd) {u u':Un} {v:SV},Kd.un bi k u=some (v,u')->u.nx<=u'.nx
 |.any,u,u',v,h=>by cases h;exact X3 _
 |.dat t,u,u',v,h=>by unfold Kd.un at h;split at h <;> cases h;exact X3 _
 |.nilp,u,u',v,h=>by cases h;exact X3 _
 |.nils,u,u',v,h=>by cases h;exact X3 _
 |.nilf,u,u',v,h=>by cases h;exact X3 _
 |.ptr j o,u,u',v,h=>by unfold Kd.un at h;split at h <;> cases h;exact X3 _
 |.own e t,u,u',v,h=>by unfold Kd.un at h;split at h <;> cases h;exact fh0 _ _
 |.al j,u,u',v,h=>by unfold Kd.un at h;split at h <;> cases h;exact X3 _
 |.fsl j m,u,u',v,h=>by unfold Kd.un at h;split at h <;> cases h;exact X3 _
 | .agg ks,u,u',v,h=>by
   unfold Kd.un at h;split at h
   . cases h;exact kh ks (by assumption)
   . cases h
 | .tup ks,u,u',v,h=>by
   unfold Kd.un at h;split at h
   . cases h;exact kh ks (by assumption)
   . cases h
 | .fn f ks,u,u',v,h=>by
   unfold Kd.un at h;split at h
   . cases h;exact kh ks (by assumption)
   . cases h
 | .kat t o,u,u',v,h=>by
   unfold Kd.un at h;split at h
   . split at h
     . cases h;exact X3 _
     . cases h
   . cases h
 | .ifc t k,u,u',v,h=>by
   unfold Kd.un at h;split at h
   . cases h;exact sh k (by assumption)
   . cases h
 |.lit w,u,u',v,h=>by cases h;exact X3 _
 | .od o,u,u',v,h=>by
   unfold Kd.un at h;replace h:=(ak h).2;split at h
   . split at h
     . cases h;exact fh0 _ _
     . cases h
   . cases h
 |.rp j,u,u',v,h=>by unfold Kd.un at h;split at h <;> cases h;exact X3 _
 | .is j k,u,u',v,h=>by
   unfold Kd.un at h;split at h
   . split at h
     . cases h;exact sh k (by assumption)
     . cases h
   . cases h
theorem kh{bi:List Nat}:∀(ks:List Kd) {u u':Un} {vs:List SV},Kd.unL bi ks u=some (vs,u')->u.nx<=u'.nx
 |[],u,u',vs,h=>by cases h;exact X3 _
 | k :: ks,u,u',vs,h=>by
   unfold Kd.unL at h;split at h
   . rename_i h1;split at h
     . rename_i h2;cases h;exact Z7 (sh k h1) (kh ks h2)
     . cases h
   . cases h
end
theorem CX{bi:List Nat}:∀(sl:List (Nat×Kd)) {u u':Un} {vs:List (Nat×SV)},unS bi sl u=some (vs,u')->u.nx<=u'.nx
 |[],u,u',vs,h=>by cases h;exact X3 _
 | p :: sl,u,u',vs,h=>by
   unfold unS at h;split at h
   . rename_i h1;split at h
     . rename_i h2;cases h;exact Z7 (sh p.2 h1) (CX sl h2)
     . cases h
   . cases h
theorem CR {bi:List Nat}:∀ (bl:List Bk) (is:List Nat) {u u':Un},unB bi bl is u=some u'->u.nx<=u'.nx
 |[],[],u,u',h=>by cases h;exact X3 _
 |[],i::is,u,u',h=>by cases h
 |b::bl,[],u,u',h=>by cases h
 | b :: bl, i :: is, u, u', h => by
   unfold unB at h;split at h
   . rename_i u1 h1;refine Z7 ?_ (CR bl is h);unfold fy at h1;cases hn:b.nu with
     |true=>rw[hn]at h1;cases h1;exact X3 _
     | false =>
       rw[hn]at h1;simp only[cond_false]at h1;cases hlp:b.lp with
       |true=>rw[hlp]at h1;simp only[cond_true]at h1;cases h1;exact X3 _
       |false =>
       rw[hlp]at h1;simp only[cond_false]at h1;cases hr:b.rw with
       | some o =>
         rw[hr]at h1;dsimp only at h1;cases hb:b.bu with
         | true =>
           rw[hb]at h1;simp only[cond_true]at h1;split at h1
           . split at h1
             . split at h1
               . rename_i h2;cases h1;have h3:=kh b.ks h2;exact Z7 (show u.nx<=_ from h3) (eH0 _)
               . cases h1
             . cases h1
           . cases h1
         |false =>
         rw[hb]at h1;simp only[cond_false]at h1;split at h1
         . split at h1
           . cases h1;exact eH0 _
           . cases h1
         . cases h1
       |none =>
       rw[hr]at h1;dsimp only at h1;cases hb:b.bu with
       | true =>
         rw[hb]at h1;simp only[cond_true]at h1;split at h1 <;> cases h1
         exact X3 _
       | false =>
         rw[hb]at h1;simp only[cond_false]at h1;split at h1
         . rename_i h2;cases h1;exact Z7 (kh b.ks h2) (eH0 _)
         . cases h1
   . cases h
theorem Cb:∀(bl:List Bk) (nx:Nat),eo bl=true->(bh bl nx).2=nx+bl.length
 |[],nx,_=>rfl
 | b :: bl,nx,h=>by
   simp only[eo,Y1]at h;cases hb:b.old with
   |some i=>rw[hb]at h;cases h.1
   | none =>
     simp only[bh,hb,V9];rw[Cb bl (nx+1) h.2];omega
theorem Oz{s:Sh}{ds:List Dat}{vs:List (Nat×SV)}{u:Un}(h:s.un ds 0=some (vs,u))(ho:eo s.bl=true):s.bl.length<=u.nx:=by
 unfold Sh.un at h;replace h:=(ak h).2;have hn:=Cb s.bl 0 ho;split at h;rename_i bi nx he;rw[he]at hn;simp only[Y8]at hn;split at h
 . rename_i h1;split at h
   . rename_i h2;cases h;have:=CX s.sl h1;have:=CR s.bl bi h2;simp only at *;omega
   . cases h
 . cases h
theorem AU:∀(bl:List Bk) {a b:Nat},bM bl a=true->a<=b->bM bl b=true
 |[],a,b,h,hab=>rfl
 | x :: bl,a,b,h,hab=>by
   simp only[bM,Y1]at h ⊢;refine⟨?_,AU bl h.2 hab⟩;cases ho:x.old with
   |none=>rfl
   | some i =>
     have h1:=h.1;rw[ho]at h1;simp only[bj0]at h1 ⊢;omega
def w9(fn:Func):Code:=match fn.body with|some c=>c|none=>.skip
def Dg(s:Spec)(fn:Func):Bool:=fn.body.isSome&&(slN 0 s.inn.sl s.inn.sl.length&&aT0 s.inn.sl.length fn.ntmps)&&(eo s.inn.bl&&s.outs.all fun o=>bM o.bl s.inn.bl.length)
theorem ab{P:Program}{s:Spec}{fn:Func}(hf:P.funcs[s.f]?=some fn)(h:Hn P)(hc:Dg s fn=true)(hex:(fun x=>yF fn.ntmps fn (w9 fn) s.inn s.outs h x)=s.fn):dj P s:=by
 unfold Dg at hc;simp only[Y1]at hc;obtain⟨⟨h1,h2,h2'⟩,h3,h4⟩:=hc;have hb:fn.body=some (w9 fn):=by
   unfold w9;cases hbd:fn.body with
   |none=>rw[hbd]at h1;cases h1
   |some c=>rfl
 refine Nz hf hb rfl h (by rw[h2,h2'];rfl) (fun ds vs u hu o ho=>AU o.bl (aF0.1 h4 o ho) (Oz hu h3)) (fun x r hx=>?_);rw[<- hx];exact congrFun hex x
def re{P:Program}(s:Spec){fn:Func}(hf:P.funcs[s.f]?=some fn)(e:Enters P s.f)(h:Hn P)(hc:Dg s fn=true:=by kernel_rfl)(hex:(fun x=>yF fn.ntmps fn (w9 fn) s.inn s.outs h x)=s.fn:=by kernel_rfl):OkSpec P:=⟨s,ab hf h hc hex,e⟩
end
theorem NO[BldA]{P:Program}{s:Spec}{W:World}(hs:dj P s){x:TL s.inn.ts}{r:c8 s.outs}(hr:s.fn x=some r)(hgk:BldA.gk (Hp.of W)){vs:List (Nat×SV)}(hun:s.inn.un (TL.list _ x) 0=some (vs,⟨[],0,[],[]⟩))
   (hout:(dM s.outs r).1.un (dM s.outs r).2 0=some ([(0,.bool true)],⟨[],0,[],[]⟩)) {args:List Value} (hsl:slR [] (Hp.of W) vs args) :
   Calls P s.f args.toArray W fun e W'=>e=.returned (.bool true)/\Below W.heap.size W W':=by
 have h:=hs x r hr vs _ hun [] (Hp.of W) args hgk rfl (fun a ha=>by cases ha) hsl (En.of W) W [] (Sep.start W);refine h.mono fun e W' h=>?_
 obtain⟨v,K',L',rfl,⟨vs',u',m',h1,_,_,_,h2,_⟩,h3,h4⟩:=h;have h1:=h1.symm.trans hout;cases h1;obtain rfl:v=.bool true:=h2;exact⟨rfl,h4.below h3⟩
section
open Go.ChangeShapes Go.WideShapes Go.RowKit Go.Deep
namespace Tp
def flatW:Tp->Bool
 |.sl _=>false
 |.one a=>flatW a
 |.cons a r=>flatW a&&flatW r
 |_=>true
mutual
def heavy(P:Program):Tp->TypeId->Bool
 |.sl e,t=>match P.underlying t with|some (.slice e')=>decide (0<P.bytesOf e')&&heavy P e e'|_=>false
 |.one a,t=>match P.underlying t with|some (.struct fs)=>(match fs.toList with|[f]=>heavy P a f.type|_=>false)|some (.array _ _)=>flatW a|_=>false
 |.cons a r,t=>match P.underlying t with|some (.struct fs)=>(match fs.toList with|f::fs=>heavy P a f.type&&heavyAll P r fs|[]=>false)|some (.array _ _)=>flatW a&&flatW r|_=>false
 |_,_=>true
def heavyAll(P:Program):Tp->List Field->Bool
 |.emp,[]=>true
 |.one a,[f]=>heavy P a f.type
 |.cons a r,f::fs=>heavy P a f.type&&heavyAll P r fs
 |_,_=>false
end
def Fit:(t:Tp)->t.den->Prop
 |.sl e,l=>l.length<=140737488351232/\∀x∈l,Fit e x
 |.one a,d=>Fit a d
 |.cons a r,d=>Fit a d.1/\Fit r d.2
 |_,_=>True
theorem flat_fit:∀(t:Tp) (d:t.den),t.flatW=true->t.Fit d
 |.int _,_,_=>trivial
 |.bool,_,_=>trivial
 |.str,_,_=>trivial
 |.ptr _,_,_=>trivial
 |.emp,_,_=>trivial
 |.sl _,_,h=>by cases h
 |.one a,d,h=>flat_fit a d h
 | .cons a r,d,h=>by
   unfold flatW at h;rw[Y1]at h;exact⟨flat_fit a d.1 h.1,flat_fit r d.2 h.2⟩
end Tp
theorem G0(b o m:Nat):(⟨b,o,none⟩:Addr).add m=⟨b,o+m,none⟩:=by
 unfold Addr.add;split
 . rename_i h;subst h;rfl
 . rfl
section
variable {H:Type}{P:Program}{p:Nat->Bool}
theorem iK:∀(ts:List TypeId) (ds:List (DataW H)),(DataW.weightsEach P ts ds).all p=true->∀(i:Nat) t d,ts[i]?=some t->ds[i]?=some d->(d.weights P t).all p=true
 |[],ds,h,i,t,d,ht,hd=>by simp at ht
 |t::ts,[],h,i,t',d,ht,hd=>by simp at hd
 | t :: ts,d :: ds,h,0,t',d',ht,hd=>by
   simp at ht hd;subst ht;subst hd;unfold DataW.weightsEach at h;rw[dt0,Y1]at h;exact h.1
 | t :: ts,d :: ds,h,i + 1,t',d',ht,hd=>by
   unfold DataW.weightsEach at h;rw[dt0,Y1]at h;exact iK ts ds h.2 i t' d' (by simpa using ht) (by simpa using hd)
theorem Ed{e:TypeId}:∀(ds:List (DataW H)),(DataW.weightsAll P e ds).all p=true->∀d∈ds,(d.weights P e).all p=true
 |[],h,d,hd=>by cases hd
 | d :: ds,h,d',hd=>by
   unfold DataW.weightsAll at h;rw[dt0,Y1]at h
   rcases Y4.1 hd with rfl|hd
   . exact h.1
   . exact Ed ds h.2 d' hd
end
section
variable {H:Type}{enc:TypeId×Value->H}{P:Program}{W:World}{base:Nat}{spare:Nat->Bool}{held:Bool}
mutual
theorem Tp.fit:∀(ty:Tp) {t:TypeId} {fuel:Nat} {cs:List Value} {x:DataW H×List MemPlace} {d:ty.den},ty.has P t=true->ty.heavy P t=true->DataW.trod enc P W base spare held fuel t cs=some x->Is (Hp.of W) ty cs d->(x.1.weights P t).all (·<=reachBytes)=true->ty.Fit d
 |.int k,_,_,_,_,_,_,_,_,_,_=>trivial
 |.bool,_,_,_,_,_,_,_,_,_,_=>trivial
 |.str,_,_,_,_,_,_,_,_,_,_=>trivial
 |.ptr e,_,_,_,_,_,_,_,_,_,_=>trivial
 |.emp,_,_,_,_,_,_,_,_,_,_=>trivial
 | .sl e,t,fuel,cs,x,d,hh,hv,h,hi,hw=>by
   unfold Tp.has at hh;unfold Tp.heavy at hv;split at hh
   . rename_i e' ht;rw[ht]at hv;simp only[Y1,decide_eq_true_eq]at hh hv;obtain⟨⟨he,hc⟩,h0⟩:=hh;obtain⟨hb0,hv⟩:=hv;simp only[Is]at hi;obtain⟨ad,cp,hcs,hl1,hl2,hi⟩:=hi
     rcases open_slice ht h with⟨rfl,rfl⟩|⟨a,len,cap,m,n,D,Pl,rfl,hb,hl,hm,hmm,rfl,hx⟩
     . simp only[aQ0,Value.slice.injEq,and_true]at hcs;obtain⟨_,hz,_⟩:=hcs;obtain rfl:d=[]:=Z4.1 hz.symm;exact⟨by simp,fun x hx=>by simp at hx⟩
     . simp only[aQ0,Value.slice.injEq,and_true]at hcs;obtain⟨rfl,hlen,rfl⟩:=hcs;unfold DataW.weights at hw;rw[ht]at hw;simp only[dg0,dt0,Y1,decide_eq_true_eq,Y6,bk0]at hw;obtain⟨hw1,hw2,hw3⟩:=hw;have hle:len<=(len+(m-len))*P.bytesOf e':=by
         have:(len+(m-len))*1<=(len+(m-len))*P.bytesOf e':=Nat.mul_le_mul_left _ hb0;omega
       have hr:reachBytes=140737488351232:=by decide
       refine⟨by omega,fun y hy=>?_⟩;obtain⟨k,hk,rfl⟩:=Z8 hy;have hkl:k<len:=by omega
       obtain⟨b,o,hb',hes⟩:=hi (fun hn=>by rw[hn]at hk;simp at hk);simp only[Z3]at hb';subst hb';obtain⟨es,hel,hie,hce⟩:=hes k d[k] (Z0 hk);obtain⟨cs',hcs',ht'⟩:=hx k (by rw[hmm];split <;> omega);rw[hc]at hcs';obtain⟨_,hlen',hcell⟩:=World.cells?_some hcs';have e:cs'=es:=by
         apply eY0;intro j;by_cases hj:j<e.size
         . rw[<- hcell j hj];have h1:=hce j hj;rw[Z0 (by omega)]at h1 ⊢;have h2:=dX (w:=W) (Hp.le_refl _) h1;rw[<- h2,Go.Deep.add_add,G0]
           congr 2;omega
         . rw[ai0 (by omega),ai0 (by omega)]
       subst e;exact Tp.fit e he hv ht' hie (Ed _ hw2 _ (Y7.2 ⟨k,V7.2 hkl,rfl⟩))
   . simp at hh
 | .one a,t,fuel,cs,x,d,hh,hv,h,hi,hw=>by
   unfold Tp.has at hh;unfold Tp.heavy at hv;split at hh
   . rename_i fs ht;rw[ht]at hv;simp only[Y1,decide_eq_true_eq]at hh;obtain⟨hh,hC⟩:=hh;split at hh
     . rename_i f hfs;simp only[hfs]at hv;simp only[Y1,decide_eq_true_eq]at hh hv;obtain⟨⟨h1,h2⟩,h3⟩:=hh;obtain⟨xs,n,_,rfl,hlen,hxl,hf⟩:=DataW.trod_struct ht h;have hsz:fs.size=1:=by rw[<- Y5,hfs];simp
       have hget:∀i,fs[i]?=[f][i]?:=fun i=>by rw[<- hfs,bA0]
       have t0:=hf 0 f (by rw[hget];rfl);rw[h1,h2,ab0,Z0 (by omega),V8 (by omega)]at t0;unfold DataW.weights at hw;simp only[ht,hfs]at hw;exact Tp.fit a h3 hv t0 hi (iK _ _ hw 0 _ _ rfl (by simp[Z0 (show 0<xs.length by omega)]))
     . simp at hh
   . rename_i n e ht;rw[ht]at hv;exact Tp.flat_fit a d hv
   . simp at hh
 | .cons a r,t,fuel,cs,x,d,hh,hv,h,hi,hw=>by
   unfold Tp.has at hh;unfold Tp.heavy at hv;split at hh
   . rename_i fs ht;rw[ht]at hv;simp only[Y1,decide_eq_true_eq]at hh;obtain⟨hh,hC⟩:=hh;split at hh
     . rename_i f fs' hfs;simp only[hfs]at hv;simp only[Y1,decide_eq_true_eq]at hh hv;obtain⟨⟨⟨h1,h2⟩,h3⟩,h4⟩:=hh;obtain⟨xs,n,_,rfl,hlen,hxl,hf⟩:=DataW.trod_struct ht h;have hsz:fs.size=fs'.length+1:=by rw[<- Y5,hfs];simp
       have hget:∀i,fs[i]?=(f::fs')[i]?:=fun i=>by rw[<- hfs,bA0]
       have t0:=hf 0 f (by rw[hget];rfl);rw[h1,h2,ab0,Z0 (by omega)]at t0;unfold DataW.weights at hw;simp only[ht,hfs]at hw;simp only[Is]at hi;obtain⟨c1,c2,rfl,hl1,hi1,hi2⟩:=hi;rw[bZ0 hl1]at t0;refine⟨Tp.fit a h3 hv.1 t0 hi1 (iK _ _ hw 0 _ _ rfl (by simp[Z0 (show 0<xs.length by omega)])),?_⟩;refine Tp.fitAll a.size r fs' (cs:=c2) (all:=c1++c2) h4 hv.2 (fun i g hg=>?_) (by rw[fw0 hl1]) hi2;have t1:=hf (i+1) g (by rw[hget];exact hg);have hi':i<fs'.length:=(V4.1 hg).1;rw[Z0 (by omega)]at t1;exact⟨n,_,t1,iK _ _ hw (i+1) _ _ (by simp[hg]) (by simp[Z0 (show i+1<xs.length by omega)])⟩
     . simp at hh
   . rename_i n e ht;rw[ht]at hv;rw[Y1]at hv;exact⟨Tp.flat_fit a d.1 hv.1,Tp.flat_fit r d.2 hv.2⟩
   . simp at hh
theorem Tp.fitAll:∀(o:Nat) (ty:Tp) (fs:List Field) {cs all:List Value} {d:ty.den},ty.hasAll P o fs=true->ty.heavyAll P fs=true ->
   (∀(i:Nat) (f:Field),fs[i]?=some f->∃n x,DataW.trod enc P W base spare held n f.type ((all.drop f.offset).take (P.cellsOf f.type))=some x/\(x.1.weights P f.type).all (·<=reachBytes)=true)->cs=all.drop o->Is (Hp.of W) ty cs d->ty.Fit d
 |o,.emp,[],cs,all,d,hh,hv,hf,hc,hi=>trivial
 | o,.one a,[f],cs,all,d,hh,hv,hf,hc,hi=>by
   unfold Tp.hasAll at hh;unfold Tp.heavyAll at hv;simp only[Y1,decide_eq_true_eq]at hh;obtain⟨⟨h1,h2⟩,h3⟩:=hh;obtain⟨n,x,t0,w0⟩:=hf 0 f rfl;have hl:=Is.len (t:=.one a) hi;rw[h1,h2,<- hc,V8 (by rw[hl];exact X3 _)]at t0;exact Tp.fit a h3 hv t0 hi w0
 | o,.cons a r,f :: fs,cs,all,d,hh,hv,hf,hc,hi=>by
   unfold Tp.hasAll at hh;unfold Tp.heavyAll at hv;simp only[Y1,decide_eq_true_eq]at hh hv;obtain⟨⟨⟨h1,h2⟩,h3⟩,h4⟩:=hh;obtain⟨n,x,t0,w0⟩:=hf 0 f rfl;simp only[Is]at hi;obtain⟨c1,c2,rfl,hl1,hi1,hi2⟩:=hi;rw[h1,h2,<- hc,bZ0 hl1]at t0;refine⟨Tp.fit a h3 hv.1 t0 hi1 w0,Tp.fitAll (o+a.size) r fs (cs:=c2) (all:=all) h4 hv.2 (fun i g hg=>hf (i+1) g hg) (by rw[<- dw0,<- hc,fw0 hl1]) hi2⟩
 |_,.int _,_,_,_,_,hh,_,_,_,_=>by simp[Tp.hasAll]at hh
 |_,.bool,_,_,_,_,hh,_,_,_,_=>by simp[Tp.hasAll]at hh
 |_,.str,_,_,_,_,hh,_,_,_,_=>by simp[Tp.hasAll]at hh
 |_,.sl _,_,_,_,_,hh,_,_,_,_=>by simp[Tp.hasAll]at hh
 |_,.ptr _,_,_,_,_,hh,_,_,_,_=>by simp[Tp.hasAll]at hh
 |_,.emp,_::_,_,_,_,hh,_,_,_,_=>by simp[Tp.hasAll]at hh
 |_,.one _,[],_,_,_,hh,_,_,_,_=>by simp[Tp.hasAll]at hh
 |_,.one _,_::_::_,_,_,_,hh,_,_,_,_=>by simp[Tp.hasAll]at hh
 |_,.cons _ _,[],_,_,_,hh,_,_,_,_=>by simp[Tp.hasAll]at hh
end
theorem Tp.argFit(ty:Tp){r:Reach}{b:Nat}{t:TypeId}{v:Value}{d:DataW H}{p:List MemPlace}{x:ty.den}(hh:ty.has P t=true)(hv:ty.heavy P t=true)(h:DataW.Trod enc P W base spare held t v d p)(hx:IsV (Hp.of W) ty v x)(hw:(d.weights P t).all (·<=reachBytes)=true):ty.Fit x:=by
 obtain⟨f,hf⟩:=h;cases ty with
 |int k=>trivial
 |bool=>trivial
 |str=>trivial
 |ptr e=>trivial
 |emp=>trivial
 | sl e =>
   obtain⟨ad,cp,rfl⟩:=Is.slv hx;exact Tp.fit (.sl e) hh hv hf hx hw
 | one a =>
   obtain⟨cs,rfl,hi⟩:=hx;exact Tp.fit (.one a) hh hv (show DataW.trod enc P W base spare held f t cs=some (d,p)from hf) hi hw
 | cons a q =>
   obtain⟨cs,rfl,hi⟩:=hx;exact Tp.fit (.cons a q) hh hv (show DataW.trod enc P W base spare held f t cs=some (d,p)from hf) hi hw
end
end
section
section
variable {σ β:Type}{body:σ->Option (σ⊕β)}
theorem aC(st:Nat->σ)(n:Nat){b:β}(h:∀k,k<n->body (st k)=some (.inl (st (k+1))))(he:body (st n)=some (.inr b)):loop body (st 0)=some b:=by
 have:∀m k,k+m=n->loop body (st k)=some b:=by
   intro m
   induction m with
   | zero => intro k hk; have : k = n := by omega
             subst this;exact iA he
   |succ m ih=>intro k hk;rw[qh (h k (by omega))];exact ih (k+1) (by omega)
 exact this n 0 (by omega)
theorem least(p:Nat->Prop):∀n,(∃k,k<n/\p k/\∀j,j<k->¬ p j)\/∀j,j<n->¬ p j
 |0=>.inr (fun j hj=>by omega)
 | n + 1=>by
   rcases least p n with⟨k,h1,h2,h3⟩|h
   . exact .inl ⟨k,by omega,h2,h3⟩
   . by_cases hp:p n
     . exact .inl ⟨n,by omega,hp,h⟩
     . exact .inr (fun j hj=>if e:j=n then e ▸ hp else h j (by omega))
theorem jM(p:Nat->Prop)(st:Nat->σ)(n:Nat)(hit:Nat->β)(e:β)(hgo:∀k,k<n->¬ p k->body (st k)=some (.inl (st (k+1))))(hhit:∀k,k<n->p k->body (st k)=some (.inr (hit k)))(hend:body (st n)=some (.inr e)) :
   (∃k,k<n/\p k/\(∀j,j<k->¬ p j)/\loop body (st 0)=some (hit k))\/((∀j,j<n->¬ p j)/\loop body (st 0)=some e):=by
 rcases least p n with⟨k,h1,h2,h3⟩|h
 . exact .inl ⟨k,h1,h2,h3,aC st k (fun j hj=>hgo j (by omega) (h3 j hj)) (hhit k h1 h2)⟩
 . exact .inr ⟨h,aC st n (fun k hk=>hgo k hk (h k hk)) hend⟩
open Classical in
theorem Jp(p:Nat->Prop)(st:Nat->σ)(n:Nat)(b e:β)(hgo:∀k,k<n->¬ p k->body (st k)=some (.inl (st (k+1))))(hhit:∀k,k<n->p k->body (st k)=some (.inr b))(hend:body (st n)=some (.inr e)) :
   loop body (st 0)=some (if ∃k,k<n/\p k then b else e):=by
 rcases jM p st n (fun _=>b) e hgo hhit hend with⟨k,h1,h2,h3,h4⟩|⟨h1,h2⟩
 . rw[if_pos ⟨k,h1,h2⟩];exact h4
 . rw[if_neg (fun ⟨k,h3,h4⟩=>h1 k h3 h4)];exact h2
end
theorem w64{x:Int}(h1 : -9223372036854775808<=x)(h2:x<=9223372036854775807):IntKind.wrap .i64 x=x:=by
 rw[IntWalk.i64_left,IntWalk.wrap64_in _ ⟨h1,h2⟩]
theorem an{k n:Nat}(h:k<n)(hn:n<=9223372036854775807):IntKind.wrap .i64 ((k:Int)+1)=((k+1:Nat):Int):=by
 rw[w64 (by omega) (by omega)];rfl
theorem aj{α:Type}{l:List α}{k:Nat}(h:k<l.length):aa l (k:Int)=some l[k]:=BY rfl h
theorem Hm{α γ:Type}(xa:List α)(f:γ->α->γ)(c0:γ)(hn:xa.length<=9223372036854775807){body:γ×Int->Option ((γ×Int)⊕γ)}
   (hb:∀k x,xa[k]?=some x->body ((xa.take k).foldl f c0,(k:Int))=some (.inl (f ((xa.take k).foldl f c0) x,IntKind.wrap .i64 ((k:Int)+1)))) (he:body (xa.foldl f c0,(xa.length:Int))=some (.inr (xa.foldl f c0))):loop body (c0,0)=some (xa.foldl f c0):=by
 have h:=aC (body:=body) (fun k:Nat=>((xa.take k).foldl f c0,(k:Int))) xa.length (b:=xa.foldl f c0) ?_ ?_
 . simpa using h
 . intro k hk;rw[hb k xa[k] (by simp[hk]),an hk hn]
   congr 3
   rw[ay0 hk,dd0];rfl
 . simpa using he
theorem zz{α γ:Type}(g:α->γ)(xa:List α)(c:List γ):xa.foldl (fun c x=>c++[g x]) c=c++xa.map g:=by
 induction xa generalizing c with
 |nil=>simp
 |cons x xa ih=>simp[ih]
theorem qJ{α γ:Type}(xa:List α)(g:α->γ)(c0:List γ)(hn:c0.length+xa.length<=1073741824){body:List γ×Int->Option ((List γ×Int)⊕List γ)}
   (hb:∀(c:List γ) (i:Int),body (c,i)=cond (decide (i<((xa.length:Nat):Int))) ((aa xa i).bind fun x=>(app c [g x]).bind fun z=>some (.inl (z,IntKind.wrap .i64 (i+1)))) (some (.inr c))):loop body (c0,0)=some (c0++xa.map g):=by
 rw[<- zz];refine Hm xa (fun c x=>c++[g x]) c0 (by omega) (fun k x hx=>?_) ?_
 . have hk:=(V4.1 hx).1;rw[hb,zz];have hx':xa[k]=x:=by rw[Z0 hk]at hx;exact ap0 hx
   have ha:=aI (a:=c0++(xa.take k).map g) (b:=[g x]) (by simp;omega);simp only[V0,aj hk,hx',ha,bL0.2 hk,decide_true,cond_true]
 . rw[hb];simp
end
section
theorem sZ{α:Type}{l:List α}{i:Int}(h0:0<=i)(h1:i<(l.length:Nat)):aa l i=some (l[i.toNat]'(by omega)):=by
 unfold aa;rw[if_pos h0];simp
theorem DV{α:Type}{l:List α}{k:Nat}(h:k+1<l.length):aa l ((k:Int)+1)=some l[k+1]:=BY rfl h
theorem dlt{k n:Nat}(h:k<n):decide ((k:Int)<(n:Int))=true:=by simp;omega
theorem dge{k n:Nat}(h:¬ k<n):decide ((k:Int)<(n:Int))=false:=by simp;omega
theorem BR{α:Type}[DecidableEq α](a b:α):(a==b)=decide (a=b):=by0 a b
section
variable {α β γ σ:Type}
theorem dC{body:Int->Option (Int⊕β)}(xa:List α)(t:α->Bool)(hit:Nat->β)(e:β)(hb:∀(k:Nat) (h:k<xa.length),body (k:Int)=some (if t xa[k]then .inr (hit k)else .inl ((k+1:Nat):Int)))(he:body (xa.length:Int)=some (.inr e)) :
   loop body 0=some (match xa.findIdx? t with|some k=>hit k|none=>e):=by
 rcases jM (fun k=>∃h:k<xa.length,t xa[k]=true) (fun k:Nat=>(k:Int)) xa.length hit e (fun k hk hp=>by
     rw[hb k hk,if_neg (fun h=>hp ⟨hk,h⟩)]) (fun k hk ⟨_,hp⟩=>by rw[hb k hk,if_pos hp]) he with⟨k,h1,⟨_,h2⟩,h3,h4⟩|⟨h1,h2⟩
 . rw[show ((0:Int))=((0:Nat):Int)from rfl,h4];have:xa.findIdx? t=some k:=by
     rw[Z9];exact⟨h1,h2,fun j hj=>fun hc=>h3 j hj ⟨by omega,by simpa using hc⟩⟩
   rw[this]
 . rw[show ((0:Int))=((0:Nat):Int)from rfl,h2];have:xa.findIdx? t=none:=by
     rw[ar0];intro x hx;obtain⟨k,hk,rfl⟩:=Z8 hx;cases hc:t xa[k]with
     |false=>rfl
     |true=>exact absurd ⟨hk,hc⟩ (h1 k hk)
   rw[this]
theorem ga{body:Int->Option (Int⊕β)}(xa:List α)(t:α->Bool)(hit e:β)(hb:∀(k:Nat) (h:k<xa.length),body (k:Int)=some (if t xa[k]then .inr hit else .inl ((k+1:Nat):Int)))(he:body (xa.length:Int)=some (.inr e)) :
   loop body 0=some (if xa.any t then hit else e):=by
 rw[dC xa t (fun _=>hit) e hb he];cases h:xa.findIdx? t with
 | none =>
   have:xa.any t=false:=by
     rw[ao0];intro x hx;have:=ar0.1 h x hx;simp[this]
   rw[this];rfl
 | some k =>
   obtain⟨hk,h1,_⟩:=Z9.1 h;have:xa.any t=true:=av0.2 ⟨_,X2 hk,h1⟩;rw[this];rfl
theorem uZ{δ:Type}{body:(γ×Int)->Option ((γ×Int)⊕δ)}(xa:List α)(acc:Nat->γ)(out:δ)(hb:∀(k:Nat) (h:k<xa.length),body (acc k,(k:Int))=some (.inl (acc (k+1),((k+1:Nat):Int))))(he:body (acc xa.length,(xa.length:Int))=some (.inr out)) :
   loop body (acc 0,0)=some out:=aC (fun k=>(acc k,(k:Int))) xa.length hb he
theorem uS[DecidableEq α]{body:Int->Option (Int⊕β)}(xa xb:List α)(hit e:β)(hl:xa.length=xb.length)(hb:∀(k:Nat) (h:k<xa.length),body (k:Int)=some (if xa[k]=(xb[k]'(by omega))then .inl ((k+1:Nat):Int)else .inr hit))(he:body (xa.length:Int)=some (.inr e)) :
   loop body 0=some (if xa=xb then e else hit):=by
 rw[dC (Z1 xa.length) (fun k=>decide (xa[k]?≠xb[k]?)) (fun _=>hit) e (fun k h=>by
     simp at h;rw[hb k h];have h2:k<xb.length:=by omega
     by_cases hq:xa[k]=xb[k] <;> simp[h,h2,hq]) (by simpa using he)]
 by_cases hq:xa=xb
 . subst hq;have:(Z1 xa.length).findIdx? (fun k=>decide (xa[k]?≠xa[k]?))=none:=by rw[ar0];simp
   rw[this];simp
 . cases h:(Z1 xa.length).findIdx? (fun k=>decide (xa[k]?≠xb[k]?))with
   |some k=>simp[hq]
   | none =>
     exfalso;apply hq;rw[ar0]at h;apply eY0;intro k;by_cases hk:k<xa.length
     . simpa using h k (V7.2 hk)
     . rw[ai0 (by omega),ai0 (by omega)]
theorem aH{l:List α}{k:Nat}(h:k<l.length):l.take (k+1)=l.take k++[l[k]]:=ay0 h
theorem nN{a b:Nat}(h:a=b):(!decide ((a:Int)=(b:Int)))=false:=by simp[h]
theorem ky{a b:Nat}(h:¬ a=b):(!decide ((a:Int)=(b:Int)))=true:=by simp;omega
end
theorem iR{α:Type}{l:List α}(h:1<=l.length):subL l 1 ((l.length:Nat):Int)=some (l.drop 1):=by
 rw[dH (by omega) (by omega) (by omega)];simp
end
section
inductive Lv(E:List (Nat×Nat))(N:Nat)(R W:Nat->Bool):Nat->Prop
 |rd {n:Nat}:n<N->R n=true->Lv E N R W n
 |st {u v:Nat}:(u,v)∈E->Lv E N R W v->W u=false->Lv E N R W u
def cz(N:Nat)(V:Nat->Bool):Nat:=((Z1 N).filter (fun n=>!V n)).length
def cB(V:Nat->Bool)(u:Nat):Nat->Bool:=fun n=>V n||decide (n=u)
theorem Ae{α:Type}{p q:α->Bool}:∀(l:List α),(∀x,p x=true->q x=true)->(l.filter p).length<=(l.filter q).length
 |[],_=>X3 _
 | x :: l,h=>by
   have ih:=Ae l h;rw[aZ0,aZ0];cases hp:p x with
   |true=>rw[h x hp];simp only[if_true,V9];omega
   |false=>cases hq:q x <;> simp only[W7,if_false,if_true,V9] <;> omega
theorem Ah{α:Type}{p q:α->Bool}{y:α}:∀(l:List α),(∀x,p x=true->q x=true)->y∈l->p y=false->q y=true->(l.filter p).length<(l.filter q).length
 |[],_,hm,_,_=>by simp at hm
 | x :: l,h,hm,h1,h2=>by
   rw[aZ0,aZ0]
   rcases Y4.1 hm with rfl|hm
   . have:=Ae l h;rw[h1,h2];simp only[W7,if_false,if_true,V9];omega
   . have ih:=Ah l h hm h1 h2;cases hp:p x with
     |true=>rw[h x hp];simp only[if_true,V9];omega
     |false=>cases hq:q x <;> simp only[W7,if_false,if_true,V9] <;> omega
theorem Lg{N:Nat}{V:Nat->Bool}{u:Nat}(hu:u<N)(hv:V u=false):cz N (cB V u)<cz N V:=by
 unfold cz;refine Ah (y:=u) _ (fun x hx=>?_) (V7.2 hu) (by simp[cB]) (by simp[hv]);unfold cB at hx;cases h:V x with
 |true=>rw[h]at hx;simp at hx
 |false=>rfl
section
variable {E:List (Nat×Nat)}{N:Nat}{R W:Nat->Bool}
theorem Lv.least{V:Nat->Bool}(h1:∀n,n<N->R n=true->V n=true)(h2:∀a∈E,¬ (V a.1=false/\V a.2=true/\W a.1=false)){n:Nat}(h:Lv E N R W n):V n=true:=by
 induction h with
 |rd hn hr=>exact h1 _ hn hr
 | st he _ hw ih =>
   have:=h2 _ he;cases hv:V _ with
   |true=>rfl
   |false=>exact absurd ⟨hv,ih,hw⟩ this
theorem Lv.lt(hE:∀a∈E,a.1<N/\a.2<N){n:Nat}(h:Lv E N R W n):n<N:=by
 cases h with
 |rd hn _=>exact hn
 |st he _ _=>exact (hE _ he).1
def stW(W:Nat->Bool)(s:(Nat->Bool)×List Nat)(u:Nat):(Nat->Bool)×List Nat:=if s.1 u=false/\W u=false then (cB s.1 u,s.2++[u])else s
structure Wk25(E:List (Nat×Nat))(N:Nat)(R W:Nat->Bool)(V:Nat->Bool)(Q:List Nat)(D:Nat->Prop):Prop where
 lv:∀n,V n=true->Lv E N R W n
 q:∀n∈Q,V n=true
 nd:Q.Nodup
 cl:∀v,V v=true->v∈Q\/D v
def UY(E:List (Nat×Nat))(W:Nat->Bool)(V:Nat->Bool)(v:Nat):Prop:=∀u,(u,v)∈E->W u=false->V u=true
theorem qy(hE:∀a∈E,a.1<N/\a.2<N){v:Nat}(hv:Lv E N R W v):∀(A:List Nat) (V:Nat->Bool) (Q:List Nat),(∀u∈A,(u,v)∈E)->(∀n,V n=true->Lv E N R W n)->(∀n∈Q,V n=true)->Q.Nodup ->
   (∀n,V n=true->(A.foldl (stW W) (V,Q)).1 n=true)/\(∀n,(A.foldl (stW W) (V,Q)).1 n=true->Lv E N R W n)/\(∀n∈(A.foldl (stW W) (V,Q)).2,(A.foldl (stW W) (V,Q)).1 n=true)/\(A.foldl (stW W) (V,Q)).2.Nodup /\
   (∀n,(A.foldl (stW W) (V,Q)).1 n=true->V n=true\/n∈(A.foldl (stW W) (V,Q)).2)/\(∀n∈Q,n∈(A.foldl (stW W) (V,Q)).2)/\(∀u∈A,W u=false->(A.foldl (stW W) (V,Q)).1 u=true) /\
   2*cz N (A.foldl (stW W) (V,Q)).1+(A.foldl (stW W) (V,Q)).2.length<=2*cz N V+Q.length
 |[],V,Q,h,h1,h2,h3=>⟨fun n hn=>hn,h1,h2,h3,fun n hn=>.inl hn,fun n hn=>hn,by simp,X3 _⟩
 | u :: A,V,Q,h,h1,h2,h3=>by
   rw[bF0];have huE:=h u (aL0 ..);by_cases hc:V u=false/\W u=false
   . have e:stW W (V,Q) u=(cB V u,Q++[u]):=by unfold stW;rw[if_pos hc]
     rw[e];have hz:cz N (cB V u)<cz N V:=Lg (hE _ huE).1 hc.1;obtain⟨i1,i2,i3,i4,i5,i6,i7,i8⟩:=qy hE hv A (cB V u) (Q++[u]) (fun b hb=>h b (W5 _ hb))
       (fun n hn=>by
         simp only[cB,bw0,decide_eq_true_eq]at hn
         rcases hn with hn|rfl
         . exact h1 n hn
         . exact .st huE hv hc.2)
       (fun n hn=>by
         rcases V3.1 hn with hn|hn
         . simp[cB,h2 n hn]
         . simp at hn;subst hn;simp[cB])
       (aR0.2 ⟨h3,by simp,fun a ha b hb eab=>by
         simp only[Y2]at hb;have:=h2 _ ha;rw[eab,hb,hc.1]at this;cases this⟩)
     refine⟨fun n hn=>i1 n (by simp[cB,hn]),i2,i3,i4,fun n hn=>?_,fun n hn=>i6 n (af0 _ hn),fun w hw hww=>?_,?_⟩
     . rcases i5 n hn with h4|h4
       . simp only[cB,bw0,decide_eq_true_eq]at h4
         rcases h4 with h4|rfl
         . exact .inl h4
         . exact .inr (i6 _ (by simp))
       . exact .inr h4
     . rcases Y4.1 hw with rfl|hw
       . exact i1 _ (by simp[cB])
       . exact i7 w hw hww
     . rw[W3,bb0]at i8;omega
   . have e:stW W (V,Q) u=(V,Q):=by unfold stW;rw[if_neg hc]
     rw[e];obtain⟨i1,i2,i3,i4,i5,i6,i7,i8⟩:=qy hE hv A V Q (fun b hb=>h b (W5 _ hb)) h1 h2 h3;refine⟨i1,i2,i3,i4,i5,i6,fun w hw hww=>?_,i8⟩
     rcases Y4.1 hw with rfl|hw
     . cases hV:V w with
       |true=>exact i1 _ hV
       |false=>exact absurd ⟨hV,hww⟩ hc
     . exact i7 w hw hww
end
end
end
end Go.Proofs.YtpnmnbfbcgkcjaaGreatDoor
namespace Go.Proofs
open Go.Shelf
def Tryz.lays189_ren:Go.Shelf.Ren:=⟨fun|189=>60|125=>96|257=>95|128=>134|129=>135|294=>125|295=>126|296=>127|297=>128|298=>129|299=>130|216=>131|300=>132|301=>133|328=>153|329=>154|330=>155|331=>156|332=>157|215=>158|343=>165|n=>n,fun|28=>40|3=>3|46=>167|0=>0|51=>216|53=>163|4=>4|183=>209|182=>208|131=>126|5=>5|9=>9|218=>225|222=>229|228=>235|229=>236|n=>n,fun|n=>n⟩
theorem Tryz.lays189:Go.Proofs.Lays.n189 Tryz.prog Tryz.lays189_ren:={
  mixed:=by kernel_rfl
  f125:=Tryz.func96.trans (congrArg some (by kernel_rfl))
  f128:=Tryz.func134.trans (congrArg some (by kernel_rfl))
  f129:=Tryz.func135.trans (congrArg some (by kernel_rfl))
  f189:=Tryz.func60.trans (congrArg some (by kernel_rfl))
  f215:=Tryz.func158.trans (congrArg some (by kernel_rfl))
  f216:=Tryz.func131.trans (congrArg some (by kernel_rfl))
  f257:=Tryz.func95.trans (congrArg some (by kernel_rfl))
  f294:=Tryz.func125.trans (congrArg some (by kernel_rfl))
  f295:=Tryz.func126.trans (congrArg some (by kernel_rfl))
  f296:=Tryz.func127.trans (congrArg some (by kernel_rfl))
  f297:=Tryz.func128.trans (congrArg some (by kernel_rfl))
  f298:=Tryz.func129.trans (congrArg some (by kernel_rfl))
  f299:=Tryz.func130.trans (congrArg some (by kernel_rfl))
  f300:=Tryz.func132.trans (congrArg some (by kernel_rfl))
  f301:=Tryz.func133.trans (congrArg some (by kernel_rfl))
  f328:=Tryz.func153.trans (congrArg some (by kernel_rfl))
  f329:=Tryz.func154.trans (congrArg some (by kernel_rfl))
  f330:=Tryz.func155.trans (congrArg some (by kernel_rfl))
  f331:=Tryz.func156.trans (congrArg some (by kernel_rfl))
  f332:=Tryz.func157.trans (congrArg some (by kernel_rfl))
  f343:=Tryz.func165.trans (congrArg some (by kernel_rfl))
  t0:=Tryz.underlying0
  a0:=Tryz.isAgg0
  z0:=Tryz.sizeOf0
  v0:=Tryz.zeroValue0
  t3:=Tryz.underlying3
  a3:=Tryz.isAgg3
  z3:=Tryz.sizeOf3
  v3:=Tryz.zeroValue3
  t4:=Tryz.underlying4
  a4:=Tryz.isAgg4
  z4:=Tryz.sizeOf4
  v4:=Tryz.zeroValue4
  t5:=Tryz.underlying5
  a5:=Tryz.isAgg5
  z5:=Tryz.sizeOf5
  v5:=Tryz.zeroValue5
  t9:=Tryz.underlying9
  a9:=Tryz.isAgg9
  z9:=Tryz.sizeOf9
  v9:=Tryz.zeroValue9
  t28:=Tryz.underlying40
  a28:=Tryz.isAgg40
  z28:=Tryz.sizeOf40
  v28:=Tryz.zeroValue40
  t46:=Tryz.underlying167
  a46:=Tryz.isAgg167
  z46:=Tryz.sizeOf167
  v46:=Tryz.zeroValue167
  t51:=Tryz.underlying216
  a51:=Tryz.isAgg216
  z51:=Tryz.sizeOf216
  v51:=Tryz.zeroValue216
  t53:=Tryz.underlying163
  a53:=Tryz.isAgg163
  z53:=Tryz.sizeOf163
  v53:=Tryz.zeroValue163
  t131:=Tryz.underlying126
  a131:=Tryz.isAgg126
  z131:=Tryz.sizeOf126
  v131:=Tryz.zeroValue126
  t182:=Tryz.underlying208
  a182:=Tryz.isAgg208
  z182:=Tryz.sizeOf208
  v182:=Tryz.zeroValue208
  t183:=Tryz.underlying209
  a183:=Tryz.isAgg209
  z183:=Tryz.sizeOf209
  v183:=Tryz.zeroValue209
  t218:=Tryz.underlying225
  a218:=Tryz.isAgg225
  z218:=Tryz.sizeOf225
  v218:=Tryz.zeroValue225
  t222:=Tryz.underlying229
  a222:=Tryz.isAgg229
  z222:=Tryz.sizeOf229
  v222:=Tryz.zeroValue229
  t228:=Tryz.underlying235
  a228:=Tryz.isAgg235
  z228:=Tryz.sizeOf235
  v228:=Tryz.zeroValue235
  t229:=Tryz.underlying236
  a229:=Tryz.isAgg236
  z229:=Tryz.sizeOf236
  v229:=Tryz.zeroValue236 }
open Go.Sort Go.RowKit in
theorem Tryz.slices_Sort_int(blk off cap:Nat)(zs:List Int)(w:World)(hH:Holds (Value.int .i64) w blk off zs.toArray)(hblk:blk<w.heap.size)(hsz:zs.length<4611686018427387904) :
    Calls Tryz.prog 60 #[.slice (some ⟨blk,off,none⟩) zs.length cap] w fun e w' =>
      e=.returned (.tuple #[])/\∃n os,w'=grow (putRow (Value.int .i64) (Sort.ahead w n) blk off (zs.mergeSort fun x y=>decide (x<=y)).toArray) os:=Any.slices_Sort_int Tryz.lays189 blk off cap zs w hH hblk hsz
def Tryz.laysNm220_ren:Go.Shelf.Ren:=⟨fun|20=>79|n=>n,fun|22=>40|3=>3|4=>4|0=>0|n=>n,fun|n=>n⟩
theorem Tryz.laysNm220:Go.Proofs.Lays2.n20 Tryz.prog Tryz.laysNm220_ren:={
  mixed:=by kernel_rfl
  f20:=Tryz.func79.trans (congrArg some (by kernel_rfl))
  t0:=Tryz.underlying0
  a0:=Tryz.isAgg0
  z0:=Tryz.sizeOf0
  v0:=Tryz.zeroValue0
  t3:=Tryz.underlying3
  a3:=Tryz.isAgg3
  z3:=Tryz.sizeOf3
  v3:=Tryz.zeroValue3
  t4:=Tryz.underlying4
  a4:=Tryz.isAgg4
  z4:=Tryz.sizeOf4
  v4:=Tryz.zeroValue4
  t22:=Tryz.underlying40
  a22:=Tryz.isAgg40
  z22:=Tryz.sizeOf40
  v22:=Tryz.zeroValue40
  i3:=by kernel_rfl }
open Go.RowKit Go.Lib Go.Sort in
/-- slices.Compact at []int: "Compact replaces consecutive runs of equal elements with a single copy. This is like the uniq command found on Unix. Compact modifies the contents of the slice s and returns the modified slice, which may have a smaller length. Compact zeroes the elements between the new length and the original length. The result preserves the nilness of s.": IT RETURNS THE SLICE CUT TO 'Lib.compact zs'; ITS CELLS HOLD 'Lib.compact zs', THEN ZERO VALUES up to the old length; all else is as it was, but for the count of draws. IN THE WORDS OF slices.Sort's CONTRACT ('Holds', 'putRow'): so the everyday 'slices.Sort(xs); xs = slices.Compact(xs)' goes from the one Bp to the other. It asks 'zs.length <= cap' (every slice's: the reslicing 's[:k]' looks at it). Length 0, nil: '.._empty'. (LAID: no walk: one application.) -/
theorem Tryz.slices_Compact_int(blk off cap:Nat)(zs:List Int)(w:World)(hH:Holds (Value.int .i64) w blk off zs.toArray)(hsz:zs.length<=9223372036854775807)(hcap:zs.length<=cap) :
    Calls Tryz.prog 79 #[.slice (some ⟨blk,off,none⟩) zs.length cap] w fun e w'=>e=.returned (.slice (some ⟨blk,off,none⟩) (Lib.compact zs).length cap)/\∃q,w'=putRow (Value.int .i64) (Sort.ahead w q) blk off (Lib.compact zs++Z2 (zs.length-(Lib.compact zs).length) 0).toArray:=Any.slices_Compact_int Tryz.laysNm220 blk off cap zs w hH hsz hcap
open Go.RowKit Go.Lib Go.Sort in
/-- The same at a slice of length 0, a nil one too: it comes back as it is. (LAID: no walk: one application.) -/
theorem Tryz.slices_Compact_int_empty(a:Option Addr)(cap:Nat)(w:World) :
    Calls Tryz.prog 79 #[.slice a 0 cap] w fun e w'=>e=.returned (.slice a 0 cap)/\w'=w:=Any.slices_Compact_int_empty Tryz.laysNm220 a cap w
open Go.RowKit Go.Sort in
/-- .. and plain. (LAID: no walk: one application.) -/
theorem Tryz.slices_Sort_int_none(p:Option Addr)(cap:Nat)(w:World) :
    Calls Tryz.prog 60 #[.slice p 0 cap] w fun e w'=>e=.returned (.tuple #[])/\w'=w:=Any.slices_Sort_int_none Tryz.lays189 p cap w
end Go.Proofs
namespace Go.Proofs.YtpnmnbfbcgkcjaaGreatDoor
noncomputable section
set_option linter.unusedVariables false
open Go.RowKit
def srt(xs:List Int):Option (List Int):=if xs.length<=1073741824 then some (xs.mergeSort fun x y=>decide (x<=y))else none
theorem Il{xs r:List Int}(h:srt xs=some r):xs.length<=1073741824/\xs.mergeSort (fun x y=>decide (x<=y))=r:=by
 unfold srt at h;split at h
 . rename_i hh;cases h;exact⟨hh,rfl⟩
 . cases h
theorem qt(K:Hp):∀xs:List Int,Els K (.int .i64) (xs.map (Value.int .i64)) xs
 |[]=>rfl
 |x::xs=>⟨[.int .i64 x],_,rfl,rfl,qt K xs⟩
theorem mK{K:Hp}:∀{xs:List Int} {cs:List Value},Els K (.int .i64) cs xs->cs=xs.map (Value.int .i64)
 |[],cs,h=>h
 | x :: xs,cs,h=>by
   obtain⟨es,r,rfl,h1,h2⟩:=h;obtain rfl:es=[.int .i64 x]:=h1;rw[mK h2];rfl
theorem E9{K:Hp}{ad:Option Addr}{m cap:Nat}{xs r:List Int}(h:srt xs=some r) :
   Tr Tryz.prog 60 #[.slice ad m cap] K [Row Hp.nil 3 (.int .i64) (.slice ad m cap) xs] (fun v K' L'=>(∃(l:List Int),l=r/\v=.tuple #[]/\L'=[Row Hp.nil 3 (.int .i64) (.slice ad m cap) l])/\K=K'):=by
 obtain⟨hl,rfl⟩:=Il h;refine Tr.k (fun E w F hs=>?_);have hs':=hs;obtain⟨h0,⟨cs,h1,h2⟩,hd,hs2⟩:=hs;have hle:h0.le (Hp.of w):=fun n o e=>hs2.sub n o (Hp.join_right e (hd n o e))
 obtain rfl:=mK h1;have h2':=h2;obtain⟨h3,h4⟩:=h2
 rcases h4 with⟨h5,h6,_⟩|⟨g,cp,cur,h5,rfl,h6,h7,h8,h9⟩
 . cases h5;obtain rfl:xs=[]:=Z4.1 h6;refine (Tryz.slices_Sort_int_none none 0 w).mono ?_;rintro e w' ⟨rfl,rfl⟩;exact⟨_,K,_,rfl,⟨_,rfl,rfl,rfl⟩,Hp.le_refl K,by simpa using hs'⟩
 . cases h5;have hb:=hle g _ (bn g _);have ht:cur.toList.take xs.length=xs.map (Value.int .i64):=by simpa[Tp.size]using h9
   refine (Tryz.slices_Sort_int g 0 cap xs w (holds_of_blockI hb ht) (lt_of_block hb) (by omega)).mono ?_;rintro e w' ⟨rfl,n,os,rfl⟩;have hlen:(xs.mergeSort fun x y=>decide (x<=y)).length=xs.length:=dq0 xs;have ho:=ownsRow_sortedI (n:=n) (os:=os) (base:=0) (cap:=cap) hlen (ah0 g) hb h6 h7 (by simpa[Tp.size]using h8);refine⟨_,K,[Row Hp.nil 3 (.int .i64) (.slice (some ⟨g,0,none⟩) xs.length cap) (xs.mergeSort fun x y=>decide (x<=y))],rfl,⟨_,rfl,rfl,rfl⟩,Hp.le_refl K,?_⟩;exact hs'.grown hlen.symm (by simpa[hlen,Tp.size]using ho) (qt _ _) (grownBy_sortedI _) (.inl rfl)
def eM(xs:List Int):Option (List Int):=some (Lib.compact xs)
theorem ET{K:Hp}{ad:Option Addr}{m cap:Nat}{xs r:List Int}(h:eM xs=some r) :
   Tr Tryz.prog 79 #[.slice ad m cap] K [Row Hp.nil 3 (.int .i64) (.slice ad m cap) xs] (fun v K' L'=>(∃(l:List Int) (ad1:Option Addr) (cp1:Nat),l=r/\v=.slice ad1 l.length cp1/\L'=[Row Hp.nil 3 (.int .i64) (.slice ad1 l.length cp1) l])/\K=K'):=by
 cases h;refine Tr.k (fun E w F hs=>?_);have hs':=hs;obtain⟨h0,⟨cs,h1,h2⟩,hd,hs2⟩:=hs;have hle:h0.le (Hp.of w):=fun n o e=>hs2.sub n o (Hp.join_right e (hd n o e))
 obtain rfl:=mK h1;obtain⟨h3,h4⟩:=h2
 rcases h4 with⟨h5,h6,_⟩|⟨g,cp,cur,h5,rfl,h6,h7,h8,h9⟩
 . cases h5;obtain rfl:xs=[]:=Z4.1 h6;refine (Tryz.slices_Compact_int_empty none 0 w).mono ?_;rintro e w' ⟨rfl,rfl⟩;exact⟨_,K,_,rfl,⟨_,none,0,rfl,rfl,rfl⟩,Hp.le_refl K,hs'⟩
 . cases h5;have hb:=hle g _ (bn g _);have ht:cur.toList.take xs.length=xs.map (Value.int .i64):=by simpa[Tp.size]using h9
   have hcl:(Lib.compact xs).length<=xs.length:=Lib.compact_length_le xs;refine (Tryz.slices_Compact_int g 0 cap xs w (holds_of_blockI hb ht) (by unfold maxLen at h7;omega) h6).mono ?_;rintro e w' ⟨rfl,q,rfl⟩;have hlen:(Lib.compact xs++Z2 (xs.length-(Lib.compact xs).length) (0:Int)).length=xs.length:=by simp;omega
   have ho:=ownsRow_sortedI (n:=q) (os:=#[]) (base:=0) (cap:=cap) hlen (ah0 g) hb h6 h7 (by simpa[Tp.size]using h8);have hg:=grownBy_sortedI (w:=w) (g:=g) (n:=q) (os:=#[]) (Lib.compact xs++Z2 (xs.length-(Lib.compact xs).length) (0:Int)).toArray;rw[show ∀W:World,Sort.grow W #[]=W from fun W=>by simp[Sort.grow]]at ho hg;refine⟨_,K,[Row Hp.nil 3 (.int .i64) (.slice (some ⟨g,0,none⟩) (Lib.compact xs).length cap) (Lib.compact xs)],rfl,⟨_,_,_,rfl,rfl,rfl⟩,Hp.le_refl K,?_⟩;refine hs'.grown rfl ?_ (qt _ _) hg (.inl rfl);obtain⟨o1,o2⟩:=ho;refine⟨by simp[Tp.size],?_⟩
   rcases o2 with⟨o2,_⟩|⟨g',cp',cur',o2,o3,o4,o5,o6,o7,o8⟩
   . cases o2
   . simp only[Value.slice.injEq,Z3,Addr.mk.injEq,and_true]at o2;obtain⟨rfl,_,rfl⟩:=o2;refine .inr ⟨g,cap,cur',rfl,ah0 _,o4,by omega,o6,by simpa[Tp.size]using o7,?_⟩;have:cur'.toList.take (Lib.compact xs).length=(cur'.toList.take xs.length).take (Lib.compact xs).length:=by rw[bq0,an0 hcl]
     simp only[ba0]at o8;have hsz:(Tp.int IntKind.i64).size=1:=rfl;rw[hsz,ba0,this,o8,X6,au0 (by simp),V8 (by simp)]
set_option linter.unnecessarySimpa false
set_option linter.unusedSectionVars false
set_option linter.unusedSimpArgs false
section
variable [BldA]
theorem BV{m:List M}{K:Hp}{x:List Int}{e:TypeId}{args:List Value}{E:En}{w:World}{F:List ah}(hm:m.length=2)(hH:HA.ok m K (.row 0 1 e (.int .i64) x x.length))(hsl:slR m K [(0,.own 0)] args)(hs:Sep E K ([HA.row 0 1 e (.int .i64) x x.length].map (HA.conc m)++F) w) :
   ∃ad cap,args=[.slice ad x.length cap]/\m[0]?=some (.val (.slice ad x.length cap))/\Sep E K (Row Hp.nil e (.int .i64) (.slice ad x.length cap) x::F) w:=by
 obtain⟨ad,cap,cs,e0,e1,hE,_,h1,h2,h3⟩:=hH;obtain⟨u,r,rfl,⟨e2,e3⟩,rfl⟩:=hsl;rw[e0]at e2;cases e2;refine⟨ad,cap,rfl,e0,?_⟩;have hs':Sep E K (HA.conc m (.row 0 1 e (.int .i64) x x.length)::F) w:=hs;simp only[HA.conc,e0,e1]at hs';exact hs'.mono (fun h k=>⟨cs,Els.flat rfl hE,k⟩)
theorem vO{K:Hp}{e:TypeId}{ad:Option Addr}{n cap:Nat}{l:List Int}{E:En}{w:World}{F:List ah}(hs:Sep E K ([Row Hp.nil e (.int .i64) (.slice ad n cap) l]++F) w) :
   n=l.length/\l.length<=cap/\cap<=maxLen/\(l≠[]->∃g,ad=some ⟨g,0,none⟩)/\∃cs,Els K (.int .i64) cs l/\Sep E K (Rw e 1 (.slice ad l.length cap) l.length cs::F) w:=by
 have hs:Sep E K (Row Hp.nil e (.int .i64) (.slice ad n cap) l::F) w:=hs;obtain⟨ad',cap',h1,h2,h3,h4⟩:=hs.fact (fun h k=>Row.form h k);cases h1;obtain⟨h0,⟨cs,hE,hR⟩,hd,hs2⟩:=hs;exact⟨rfl,h2,h3,h4,cs,Els.flat rfl hE,h0,hR,hd,hs2⟩
def wn:Spec:=⟨60,⟨[(0,.rp 0)],[⟨none,0,[],false,false,some (.row 3 (.dat (.int .i64))),false⟩]⟩,[⟨[],[⟨some 0,0,[],false,false,some (.row 3 (.dat (.int .i64))),false⟩]⟩],fun x=>srt x⟩
theorem K6:dj Tryz.prog wn:=by
 intro x r hr vs u hu m K args hgk hm hH hsl E w F hs;have hu':wn.inn.un (TL.list _ x) 0=some ([(0,.own 0)],⟨[],2,[.row 0 1 3 (.int .i64) x (W4 (α:=Int) x)],[]⟩):=rfl;rw[hu']at hu;cases hu;replace hm:m.length=2:=hm;obtain⟨ad,cap,rfl,e0,hs'⟩:=BV hm (hH _ (by simp)) hsl hs;refine (E9 (K:=K) hr E w F hs').mono ?_;rintro e w' ⟨v,K',L',rfl,⟨⟨l,rfl,rfl,rfl⟩,rfl⟩,h1,h2⟩;obtain⟨g1,g2,g3,g4,cs,g5,g6⟩:=vO h2;have hm0:(m++[M.cont (.int .i64) l cs])[0]?=some (.val (.slice ad (W4 (α:=Int) l) cap)):=by
   rw[V6 (by omega),e0,g1]
 have hm1:(m++[M.cont (.int .i64) l cs])[2]?=some (.cont (.int .i64) l cs):=by
   rw[V5 (by omega),hm];rfl
 refine⟨_,K,_,rfl,⟨[],⟨[],3,[.row 0 2 3 (.int .i64) l (W4 (α:=Int) l)],[]⟩,m++[.cont (.int .i64) l cs],rfl,cr0 _ _,by simp[hm],?_,rfl,rfl⟩,h1,?_⟩
 . intro a ha;simp only[Y2]at ha;subst ha;exact⟨ad,cap,cs,hm0,hm1,g5,rfl,g2,g3,g4⟩
 . show Sep E K (HA.conc _ (.row 0 2 3 (.int .i64) l (W4 (α:=Int) l))::F) w';simp only[HA.conc,hm0,hm1];exact g6
def iE:OkSpec Tryz.prog:=⟨wn,K6,Tryz.call60⟩
def uX:Spec:=⟨79,⟨[(0,.own 3 (.int .i64))],[]⟩,[⟨[(0,.own 3 (.int .i64))],[]⟩],fun x=>eM x⟩
theorem GB:dj Tryz.prog uX:=by
 intro x r hr vs u hu m K args hgk hm hH hsl E w F hs;have hu':uX.inn.un (TL.list _ x) 0=some ([(0,.own 0)],⟨[],2,[.row 0 1 3 (.int .i64) x (W4 (α:=Int) x)],[0]⟩):=rfl;rw[hu']at hu;cases hu;replace hm:m.length=2:=hm;obtain⟨ad,cap,rfl,e0,hs'⟩:=BV hm (hH _ (by simp)) hsl hs;refine (ET (K:=K) hr E w F hs').mono ?_;rintro e w' ⟨v,K',L',rfl,⟨⟨l,ad1,cp1,rfl,rfl,rfl⟩,rfl⟩,h1,h2⟩;obtain⟨_,g2,g3,g4,cs,g5,g6⟩:=vO h2;have hm0:(m++[M.val (.slice ad1 (W4 (α:=Int) l) cp1),M.cont (.int .i64) l cs])[2]?=some (.val (.slice ad1 (W4 (α:=Int) l) cp1)):=by
   rw[V5 (by omega),hm];rfl
 have hm1:(m++[M.val (.slice ad1 (W4 (α:=Int) l) cp1),M.cont (.int .i64) l cs])[3]?=some (.cont (.int .i64) l cs):=by
   rw[V5 (by omega),hm];rfl
 refine⟨_,K,_,rfl,⟨[(0,.own 2)],⟨[],4,[.row 2 3 3 (.int .i64) l (W4 (α:=Int) l)],[2]⟩,m++[M.val (.slice ad1 (W4 (α:=Int) l) cp1),M.cont (.int .i64) l cs],rfl,cr0 _ _,by simp[hm],?_,⟨hm0,rfl⟩,rfl⟩,h1,?_⟩
 . intro a ha;simp only[Y2]at ha;subst ha;exact⟨ad1,cp1,cs,hm0,hm1,g5,rfl,g2,g3,g4⟩
 . show Sep E K (HA.conc _ (.row 2 3 3 (.int .i64) l (W4 (α:=Int) l))::F) w';simp only[HA.conc,hm0,hm1];exact g6
def mO:OkSpec Tryz.prog:=⟨uX,GB,Tryz.call79⟩
end
end
end Go.Proofs.YtpnmnbfbcgkcjaaGreatDoor
namespace Go.Proofs
open Go.Shelf
def Tryz.lays221_ren:Go.Shelf.Ren:=⟨fun|21=>116|27=>148|28=>149|35=>163|39=>173|n=>n,fun|22=>40|3=>3|4=>4|0=>0|n=>n,fun|n=>n⟩
theorem Tryz.lays221:Go.Proofs.Lays2.n21 Tryz.prog Tryz.lays221_ren:={
  mixed:=by kernel_rfl
  f21:=Tryz.func116.trans (congrArg some (by kernel_rfl))
  f27:=Tryz.func148.trans (congrArg some (by kernel_rfl))
  f28:=Tryz.func149.trans (congrArg some (by kernel_rfl))
  f35:=Tryz.func163.trans (congrArg some (by kernel_rfl))
  f39:=Tryz.func173.trans (congrArg some (by kernel_rfl))
  t0:=Tryz.underlying0
  a0:=Tryz.isAgg0
  z0:=Tryz.sizeOf0
  v0:=Tryz.zeroValue0
  t3:=Tryz.underlying3
  a3:=Tryz.isAgg3
  z3:=Tryz.sizeOf3
  v3:=Tryz.zeroValue3
  t4:=Tryz.underlying4
  a4:=Tryz.isAgg4
  z4:=Tryz.sizeOf4
  v4:=Tryz.zeroValue4
  t22:=Tryz.underlying40
  a22:=Tryz.isAgg40
  z22:=Tryz.sizeOf40
  v22:=Tryz.zeroValue40
  i3:=by kernel_rfl }
end Go.Proofs
namespace Go.Proofs.YtpnmnbfbcgkcjaaGreatDoor
noncomputable section
set_option linter.unusedVariables false
set_option linter.unnecessarySimpa false
set_option linter.unusedSectionVars false
set_option linter.unusedSimpArgs false
open Go.RowKit
section
theorem jl{g:Nat}{t:TypeId}:∀(vs:List Value) (o:Nat) (w:World) (cur:Array Value),w.heap[g]?=some (.cells cur t (0,0))->o+vs.length<=cur.size ->
   ∃cur':Array Value,(w.setCells g o vs).heap[g]?=some (.cells cur' t (0,0))/\cur'.toList=cur.toList.take o++vs++cur.toList.drop (o+vs.length)
 |[],o,w,cur,h,hl=>⟨cur,h,by simp⟩
 | v :: vs,o,w,cur,h,hl=>by
   simp only[V9]at hl;have h1:=Fq h o v;obtain⟨cur',h2,h3⟩:=jl vs (o+1) (w.setCell ⟨g,o,none⟩ v) _ h1 (by simp;omega);refine⟨cur',h2,?_⟩;have ho:o<cur.toList.length:=by simp;omega
   rw[h3,Array.toList_setIfInBounds];have e1:(cur.toList.set o v).take (o+1)=cur.toList.take o++[v]:=by
     rw[ay0 (by simpa using ho),List.take_set_of_le (X3 o)];simp
   have e2:(cur.toList.set o v).drop (o+1+vs.length)=cur.toList.drop (o+(v::vs).length):=by
     rw[List.drop_set_of_lt (by omega),V9]
     congr 1
     omega
   rw[e1,e2];simp
theorem Fr.setCells{S:List Nat}{a:World}(g:Nat)(hg:g∈S\/a.heap.size<=g):∀(vs:List Value) (o:Nat) (w:World),Fr S a w->Fr S a (w.setCells g o vs)
 |[],_,_,h=>h
 |v::vs,o,w,h=>Fr.setCells g hg vs (o+1) _ (h.setCell _ hg v)
section
variable {E:En}{L:List ah}{K:Hp}{w:World}
theorem Sep.rowAt{S:List Nat}{e:TypeId}{t:Tp}{v:Value}{xs zs:List t.den}{K0 K1:Hp}{w':World}{cs':List Value}{g cap m:Nat}{cur:Array Value}(hs:Sep E K (Row K0 e t v xs::L) w)
   (f:Fr S w w') (hS:∀x,x∈S->v.ownBlock=some x) (hb:w'.heap[g]?=some (.cells cur e (0,0))) (hg:v.ownBlock=some g\/w.heap.size<=g) (hm:m=zs.length) (hz:Els K1 t cs' zs) (hl:cs'.length=m*t.size)
   (hc1:m<=cap) (hc2:cap<=maxLen) (hc3:cur.size=cap*t.size) (ht:cur.toList.take (m*t.size)=cs'):Sep E K (Row K1 e t (.slice (some ⟨g,0,none⟩) m cap) zs::L) w':=by
 subst hm;refine Sep.turn hs (En.of_fr f) (fun h h2 hle=>?_);have hbl:∀n,h n=none↔v.ownBlock≠some n:=fun n=>by
   obtain⟨cs,_,h3⟩:=h2;exact h3.block n
 refine⟨one g (.cells cur e (0,0)),⟨cs',hz,hl,.inr ⟨g,cap,cur,rfl,rfl,hc1,hc2,hc3,ht⟩⟩,fun n o e'=>?_,fun n o e' hn=>?_⟩
 . obtain⟨rfl,rfl⟩:=cv e';refine⟨hb,fun hn=>?_⟩
   rcases hg with hg|hg
   . exact absurd hg ((hbl n).1 hn)
   . exact al0 hg
 . rw[f.block n (lt_of_block e') (fun hm=>(hbl n).1 hn (hS n hm))];exact e'
end
def dP(xs:List Int)(i:Int)(vs:List Int):Option (List Int):=if 0<=i/\i<=(xs.length:Nat)/\vs≠[]/\xs.length+vs.length<=1073741824 then some (xs.take i.toNat++vs++xs.drop i.toNat)else none
theorem BB{cs:List Value}{xs:List Int}(h:cs=xs.map (Value.int .i64)):∀v∈cs,v.oneCell'=true:=fun v hv=>by
 subst h;obtain⟨x,_,rfl⟩:=Y7.1 hv;rfl
theorem uJ{w:World}{g:Nat}{t:TypeId}{cur:Array Value}(h:w.heap[g]?=some (.cells cur t (0,0)))(j:Nat):w.cell? ⟨g,j,none⟩=cur[j]?:=by
 simp[World.cell?,h]
theorem pZ{w:World}{g:Nat}{t:TypeId}{cur:Array Value}(h:w.heap[g]?=some (.cells cur t (0,0)))(j:Nat):w.frozen? ⟨g,j,none⟩=false:=by
 simp[World.frozen?,h]
theorem yW{w:World}{g:Nat}{t:TypeId}{cur:Array Value}(h:w.heap[g]?=some (.cells cur t (0,0))):w.shape? g=some (t,cur.size):=by
 simp[World.shape?,h]
theorem CC{cur:Array Value}{cs:List Value}{n:Nat}(h:cur.toList.take n=cs):∀(j:Nat) (v:Value),cs[j]?=some v->cur[j]?=some v:=fun j v hj=>by
 subst h;rw[aM0]at hj;split at hj
 . simpa using hj
 . cases hj
theorem JU{cur c1 c2:List Value}{cs vs:List Value}{i n:Nat}(hn:cs.length=n)(hi:i<=n)(hc:cur.take n=cs)(h1:c1=cur.take (i+vs.length)++cs.drop i++cur.drop (i+vs.length+(cs.drop i).length))(hsz:n+vs.length<=cur.length)
   (h2:c2=c1.take i++vs++c1.drop (i+vs.length)):c2.take (n+vs.length)=cs.take i++vs++cs.drop i:=by
 have e1:c1.take i=cs.take i:=by
   rw[h1,X1,au0 (by simp;omega),bq0,an0 (by omega),<- hc,bq0,an0 hi]
 have e2:c1.drop (i+vs.length)=cs.drop i++cur.drop (i+vs.length+(cs.drop i).length):=by
   rw[h1,X1,cK0 (by simp;omega)];rw[bH0 (by simp;omega)];rfl
 rw[h2,e1,e2,<- X1];refine bZ0 ?_;simp;omega
theorem wH{l:List Value}{n:Nat}:(l.toArray++Builtin.zeroCells (Value.int .i64 0).cells n).size=l.length+n:=by
 simp[Builtin.zeroCells,Value.cells]
section
variable {K:Hp}{E:En}{F:List ah}{w:World}
theorem Jb{e:TypeId}{v1 v2:Value}{xs vs:List Int}(hv:vs≠[])(hs:Sep E K (Row Hp.nil e (.int .i64) v1 xs::Row Hp.nil e (.int .i64) v2 vs::F) w) :
   (∃(b c2:Nat) (cur2:Array Value),v2=.slice (some ⟨b,0,none⟩) vs.length c2/\w.heap[b]?=some (.cells cur2 e (0,0))/\vs.length<=cur2.size/\(∀(j:Nat) (u:Value),(vs.map (Value.int .i64))[j]?=some u->w.cell? ⟨b,0+j,none⟩=some u) /\
     ((v1=.slice none 0 0/\xs=[])\/∃(g c1:Nat) (cur:Array Value),v1=.slice (some ⟨g,0,none⟩) xs.length c1/\w.heap[g]?=some (.cells cur e (0,0))/\b≠g/\xs.length<=c1/\c1<=maxLen/\cur.size=c1/\cur.toList.take xs.length=xs.map (Value.int .i64))):=by
 have hle2:=hs.swap.sub;obtain⟨h1,⟨csA,eA,rA⟩,hd1,h2,⟨csB,eB,rB⟩,hd2,hs2⟩:=hs;obtain rfl:=mK eA;obtain rfl:=mK eB;have hh2:h2.le (Hp.of w):=fun n o q=>hs2.sub n o (Hp.join_right q (hd2 n o q))
 have hh1:h1.le (Hp.of w):=fun n o q=>hs2.sub n o (by
   have:=Hp.join_right q (hd1 n o q);unfold Hp.join at this ⊢;rw[this];rfl)
 obtain⟨_,rB⟩:=rB
 rcases rB with⟨_,rB,_⟩|⟨b,c2,cur2,rfl,rfl,b1,b2,b3,b4⟩
 . exact absurd (Z4.1 rB) hv
 . have hb:=hh2 b _ (by simp[one]:one b (.cells cur2 e (0,0)) b=some (.cells cur2 e (0,0)));simp only[Tp.size,ba0]at b3 b4;refine⟨b,c2,cur2,rfl,hb,by omega,fun j u hj=>by rw[Y8,uJ hb];exact CC b4 j u hj,?_⟩;obtain⟨_,rA⟩:=rA
   rcases rA with⟨rfl,rA,_⟩|⟨g,c1,cur,rfl,rfl,a1,a2,a3,a4⟩
   . have hx:=Z4.1 rA;subst hx;exact .inl ⟨rfl,rfl⟩
   . have hg:=hh1 g _ (by simp[one]:one g (.cells cur e (0,0)) g=some (.cells cur e (0,0)));simp only[Tp.size,ba0]at a3 a4;refine .inr ⟨g,c1,cur,rfl,hg,fun e'=>?_,a1,a2,a3,a4⟩;subst e';have:=(Hp.join_none (hd2 b (.cells cur2 e (0,0)) (by simp[one]))).2;simp[one]at this
end
theorem EZ{K:Hp}{v1 v2:Value}{i:Int}{xs vs r:List Int}(h:dP xs i vs=some r) :
   Tr Tryz.prog 116 #[v1,.int .i64 i,v2] K [Row Hp.nil 3 (.int .i64) v1 xs,Row Hp.nil 3 (.int .i64) v2 vs] (fun v K' L'=>(∃(l:List Int) (ad1:Option Addr) (cp1:Nat),l=r/\v=.slice ad1 l.length cp1/\L'=[Row Hp.nil 3 (.int .i64) (.slice ad1 l.length cp1) l])/\K=K'):=by
 unfold dP at h;split at h
 case isFalse=>cases h
 rename_i hh;obtain⟨q1,q2,q3,q4⟩:=hh;cases h;obtain⟨k,rfl⟩:=W6 q1;have hk:k<=xs.length:=by omega
 rw[W2];refine Tr.k (fun E w F hs=>?_);obtain⟨b,c2,cur2,rfl,hb,hb2,hvs,hv1⟩:=Jb q3 hs;have hm:0<vs.length:=by
   rcases eP0 vs.length with h|h
   . exact absurd (Z4.1 h) q3
   . exact h
 have hs1:Sep E K (Row Hp.nil 3 (.int .i64) v1 xs::F) w:=hs.swap.drop;have hlr:(xs.take k++vs++xs.drop k).length=xs.length+vs.length:=by simp;omega
 have hmap:∀n,(xs.map (Value.int .i64)).take n=(xs.take n).map (Value.int .i64)/\(xs.map (Value.int .i64)).drop n=(xs.drop n).map (Value.int .i64):=fun n=>⟨by rw[List.map_take],by rw[List.map_drop]⟩
 have fin:∀{S:List Nat} {w':World} {g cap:Nat} {cur:Array Value} (f:Fr S w w') (hS:∀x,x∈S->v1.ownBlock=some x) (hb:w'.heap[g]?=some (.cells cur 3 (0,0))) (hg:v1.ownBlock=some g\/w.heap.size<=g)
     (hc1:xs.length+vs.length<=cap) (hc2:cap<=maxLen) (hc3:cur.size=cap) (ht:cur.toList.take (xs.length+vs.length)=(xs.take k++vs++xs.drop k).map (Value.int .i64)),
     ∃v K' L',Ending.returned (.slice (some ⟨g,0,none⟩) (xs.length+vs.length) cap)=.returned v/\(∃(l:List Int) (ad1:Option Addr) (cp1:Nat),l=xs.take k++vs++xs.drop k/\v=.slice ad1 l.length cp1/\L'=[Row Hp.nil 3 (.int .i64) (.slice ad1 l.length cp1) l])/\K.le K'/\Sep E K' (L'++F) w':=by
   intro S w' g cap cur f hS hb hg hc1 hc2 hc3 ht;refine⟨_,K,_,rfl,⟨xs.take k++vs++xs.drop k,_,cap,rfl,by rw[hlr],rfl⟩,Hp.le_refl K,?_⟩;exact Sep.rowAt (t:=.int .i64) hs1 f hS hb hg rfl (qt _ _) (by simp[Tp.size]) (by rw[hlr];exact hc1) hc2 (by simpa[Tp.size]using hc3) (by rw[hlr];simpa[Tp.size]using ht)
 have hvo:∀u∈vs.map (Value.int .i64),u.oneCell'=true:=BB rfl
 have hxo:∀u∈xs.map (Value.int .i64),u.oneCell'=true:=BB rfl
 rcases hv1 with⟨rfl,rfl⟩|⟨g,c1,cur,rfl,hg,hne,a1,a2,a3,a4⟩
 . -- a nil slice
   obtain rfl:k=0:=by simpa using hk
   refine (Any2.slices_Insert_int_end_grow Tryz.lays221 none 0 0 b 0 vs.length c2 [] (vs.map (Value.int .i64)) w hm (X3 _) (by omega) (by simp at q4 ⊢;omega) rfl (by simp) (fun _=>rfl) (fun a h=>by cases h) hvs hvo).mono ?_;rintro e w' ⟨rfl,rfl⟩;rw[show Tryz.lays221_ren.t 3=3 from rfl];have hcap:=grownCap_le_maxLen w (0+vs.length) 0 3 (by unfold maxLen;simp at q4 ⊢;omega);have hge:=grownCap_ge w (0+vs.length) 0 3;simp only[do0]at fin;refine fin (S:=[]) ((Fr.refl [] w).drew.alloc _) (fun x hx=>by cases hx) (ge w.drew _) (.inr (X3 _)) hge hcap ?_ ?_
   . rw[wH];simp;simp at hge;omega
   . simp
 . have hcs:∀(j:Nat) (u:Value),(xs.map (Value.int .i64))[j]?=some u->w.cell? ⟨g,0+j,none⟩=some u:=fun j u hj=>by rw[Y8,uJ hg];exact CC a4 j u hj
   have hlx:(xs.map (Value.int .i64)).length=xs.length:=Y6 _;have hlv:(vs.map (Value.int .i64)).length=vs.length:=Y6 _;have hres:(xs.take k++vs++xs.drop k).map (Value.int .i64)=(xs.map (Value.int .i64)).take k++vs.map (Value.int .i64)++(xs.map (Value.int .i64)).drop k:=by
     rw[(hmap k).1,(hmap k).2,X6,X6]
   have hc63:c1<=9223372036854775807:=by unfold maxLen at a2;omega
   have hsp:∀j,j<c1->(w.cell? ⟨g,j,none⟩).isSome=true:=fun j hj=>by
     rw[uJ hg,br0 (by omega)];rfl
   have hF:∀{w1:World},Fr [g] w w1->∀x,x∈[g]->(Value.slice (some ⟨g,0,none⟩) xs.length c1).ownBlock=some x:=fun _ x hx=>by
     simp at hx;subst hx;rfl
   by_cases hroom:xs.length+vs.length<=c1
   . by_cases hkn:k<xs.length
     . -- in place
       refine (Any2.slices_Insert_int_shift Tryz.lays221 g 0 xs.length c1 k b 0 vs.length c2 (xs.map (Value.int .i64)) (vs.map (Value.int .i64)) w hkn hm hroom hc63 hne hlx hlv hcs (fun j hj=>by rw[Y8];exact hsp j (by omega)) (fun j hj=>pZ hg _) hvs hxo hvo _ _ _ _ (yW hb) (yW hg) (by omega) (pZ hb _) (pZ hb _)).mono ?_;rintro e w' ⟨rfl,rfl⟩;obtain⟨cu1,d1,d2⟩:=jl ((xs.map (Value.int .i64)).drop k) (0+(k+vs.length)) w.drew cur hg (by simp;omega);obtain⟨cu2,d3,d4⟩:=jl (vs.map (Value.int .i64)) (0+k) _ cu1 d1 (by
         have:=congrArg W4 d2;simp at this;simp;omega)
       have hfr:Fr [g] w ((w.drew.setCells g (0+(k+vs.length)) ((xs.map (Value.int .i64)).drop k)).setCells g (0+k) (vs.map (Value.int .i64))) :=
         Fr.setCells g (.inl (by simp)) _ _ _ (Fr.setCells g (.inl (by simp)) _ _ _ (Fr.refl [g] w).drew)
       have hz1:cu1.size=c1:=by
         have:=congrArg W4 d2;simp at this;omega
       have hz2:cu2.size=c1:=by
         have:=congrArg W4 d4;simp at this;omega
       refine fin hfr (hF hfr) d3 (.inl rfl) hroom a2 hz2 ?_;rw[hres];have:=JU (cur:=cur.toList) (c1:=cu1.toList) (c2:=cu2.toList) (cs:=xs.map (Value.int .i64)) (vs:=vs.map (Value.int .i64)) (i:=k) hlx hk a4 (by rw[d2,Y8,hlv]) (by simp;omega) (by rw[d4,Y8]);rw[hlv]at this;exact this
     . -- at the end, room
       obtain rfl:k=xs.length:=by omega
       refine (Any2.slices_Insert_int_end_room Tryz.lays221 g 0 xs.length c1 b 0 vs.length c2 (vs.map (Value.int .i64)) w hm hroom hc63 hlv (fun j hj=>by rw[Y8];exact hsp _ (by omega)) (fun j hj=>pZ hg _) hvs hvo).mono ?_;rintro e w' ⟨rfl,rfl⟩;obtain⟨cu2,d3,d4⟩:=jl (vs.map (Value.int .i64)) (0+xs.length) w cur hg (by simp;omega);have hfr:Fr [g] w (w.setCells g (0+xs.length) (vs.map (Value.int .i64))):=Fr.setCells g (.inl (by simp)) _ _ _ (Fr.refl [g] w);have hz2:cu2.size=c1:=by
         have:=congrArg W4 d4;simp at this;omega
       refine fin hfr (hF hfr) d3 (.inl rfl) hroom a2 hz2 ?_;have e1:(xs.map (Value.int .i64)).take xs.length=xs.map (Value.int .i64):=V8 (by simp);have e2:(xs.map (Value.int .i64)).drop xs.length=[]:=bH0 (by simp);rw[hres,d4,Y8,a4,e1,e2,Z6];exact bZ0 (by simp)
   . by_cases hkn:k<xs.length
     . -- a new row, in the midst
       refine (Any2.slices_Insert_int_grow Tryz.lays221 g 0 xs.length c1 k b 0 vs.length c2 (xs.map (Value.int .i64)) (vs.map (Value.int .i64)) w hkn hm a1 (by omega) (by omega) hlx hlv hcs hvs hxo hvo).mono ?_;rintro e w' ⟨rfl,rfl⟩;rw[show Tryz.lays221_ren.t 3=3 from rfl];have hcap:=grownCap_le_maxLen w (xs.length+vs.length) c1 3 (by unfold maxLen;omega);have hge:=grownCap_ge w (xs.length+vs.length) c1 3;have hrow:∀G:Nat,xs.length+vs.length<=G->∃ROW:Array Value,((((xs.map (Value.int .i64)).take k).toArray++Builtin.zeroCells (Value.int .i64 0).cells (xs.length+vs.length-k)++Builtin.zeroCells (Value.int .i64 0).cells (G-(xs.length+vs.length))))=ROW/\ROW.size=G/\ROW.toList.take k=(xs.map (Value.int .i64)).take k:=fun G hG=>by
         refine⟨_,rfl,?_,?_⟩
         . rw[fe0,wH];simp[Builtin.zeroCells,Value.cells];omega
         . simp;rw[au0 (by simp;omega)];rw[V8 (by simp;omega)]
       obtain⟨ROW,hR,hR2,hR3⟩:=hrow _ hge;rw[hR];have hR4:ROW.toList.length=ROW.size:=by simp
       obtain⟨cu1,d1,d2⟩:=jl (vs.map (Value.int .i64)) k (w.alloc (.cells ROW 3)).drew ROW (ge w _) (by rw[hlv,hR2];omega);have hz1:cu1.size=ROW.size:=by
         have:=congrArg W4 d2;simp at this;omega
       obtain⟨cu2,d3,d4⟩:=jl ((xs.map (Value.int .i64)).drop k) (k+vs.length) ((w.alloc (.cells ROW 3)).drew.setCells w.heap.size k (vs.map (Value.int .i64))).drew cu1 d1 (by
         simp;omega)
       have hz2:cu2.size=ROW.size:=by
         have:=congrArg W4 d4;simp at this;omega
       have hfr:Fr [] w ((((w.alloc (.cells ROW 3)).drew.setCells w.heap.size k (vs.map (Value.int .i64))).drew).setCells w.heap.size (k+vs.length) ((xs.map (Value.int .i64)).drop k)) :=
         Fr.setCells _ (.inr (X3 _)) _ _ _ (Fr.setCells _ (.inr (X3 _)) _ _ _ ((Fr.refl [] w).alloc _).drew).drew
       refine fin hfr (fun x hx=>by cases hx) d3 (.inr (X3 _)) hge hcap (hz2.trans hR2) ?_;rw[hres,d4,d2,hR3];have e2:∀R:List Value,((xs.map (Value.int .i64)).take k++vs.map (Value.int .i64)++R).take (k+vs.length)=(xs.map (Value.int .i64)).take k++vs.map (Value.int .i64):=fun R=>bZ0 (by simp;omega)
       rw[e2];exact bZ0 (by simp;omega)
     . -- a new row, at the end
       obtain rfl:k=xs.length:=by omega
       refine (Any2.slices_Insert_int_end_grow Tryz.lays221 (some ⟨g,0,none⟩) xs.length c1 b 0 vs.length c2 (xs.map (Value.int .i64)) (vs.map (Value.int .i64)) w hm a1 (by omega) (by omega) hlx hlv (fun h=>by cases h) (fun a h j u hj=>by
         cases h;rw[Addr.add_lit];exact hcs j u hj) hvs hvo).mono ?_
       rintro e w' ⟨rfl,rfl⟩;rw[show Tryz.lays221_ren.t 3=3 from rfl];have hcap:=grownCap_le_maxLen w (xs.length+vs.length) c1 3 (by unfold maxLen;omega);have hge:=grownCap_ge w (xs.length+vs.length) c1 3;refine fin (S:=[]) ((Fr.refl [] w).drew.alloc _) (fun x hx=>by cases hx) (ge w.drew _) (.inr (X3 _)) hge hcap ?_ ?_
       . rw[wH,W3,hlx,hlv];omega
       . have e1:(xs.map (Value.int .i64)).take xs.length=xs.map (Value.int .i64):=V8 (by simp);have e2:(xs.map (Value.int .i64)).drop xs.length=[]:=bH0 (by simp);rw[hres,e1,e2,Z6,eN0];exact bZ0 (by simp)
def vf:Spec:=⟨116,⟨[(0,.own 3 (.int .i64)),(1,.dat (.int .i64)),(2,.own 3 (.int .i64))],[]⟩,[⟨[(0,.own 3 (.int .i64))],[]⟩],fun x=>dP x.1 x.2.1 x.2.2⟩
theorem HK[BldA]:dj Tryz.prog vf:=by
 intro x r hr vv u hu m K args hgk hm hH hsl E w F hs;have hu':vf.inn.un (TL.list _ x) 0=some ([(0,.own 0),(1,.int .i64 x.2.1),(2,.own 2)],⟨[],4,[.row 2 3 3 (.int .i64) x.2.2 (W4 (α:=Int) x.2.2),.row 0 1 3 (.int .i64) x.1 (W4 (α:=Int) x.1)],[0,2]⟩):=rfl;rw[hu']at hu;cases hu;replace hm:m.length=4:=hm;obtain⟨v1,u1,rfl,⟨e1,_⟩,v2,u2,rfl,rfl,v3,u3,rfl,⟨e3,_⟩,rfl⟩:=hsl;obtain⟨ad,cap,cs,g0,g1,hE,_,g2,g3,g4⟩:=hH (.row 0 1 3 (.int .i64) x.1 (W4 (α:=Int) x.1)) (by simp);obtain⟨ad',cap',cs',g0',g1',hE',_,g2',g3',g4'⟩:=hH (.row 2 3 3 (.int .i64) x.2.2 (W4 (α:=Int) x.2.2)) (by simp);rw[g0]at e1;cases e1;rw[g0']at e3;cases e3;have hs':Sep E K (HA.conc m (.row 2 3 3 (.int .i64) x.2.2 (W4 (α:=Int) x.2.2))::HA.conc m (.row 0 1 3 (.int .i64) x.1 (W4 (α:=Int) x.1))::F) w:=hs;simp only[HA.conc,g0,g1,g0',g1']at hs';have hs2:Sep E K (Row Hp.nil 3 (.int .i64) (.slice ad (W4 (α:=Int) x.1) cap) x.1::Row Hp.nil 3 (.int .i64) (.slice ad' (W4 (α:=Int) x.2.2) cap') x.2.2::F) w :=
   (((hs'.mono (fun h k=>(⟨cs',Els.flat rfl hE',k⟩:Row Hp.nil 3 (.int .i64) (.slice ad' (W4 (α:=Int) x.2.2) cap') x.2.2 h))).swap).mono (fun h k=>⟨cs,Els.flat rfl hE,k⟩))
 refine (EZ (K:=K) hr E w F hs2).mono ?_;rintro e w' ⟨v,K',L',rfl,⟨⟨l,ad1,cp1,rfl,rfl,rfl⟩,rfl⟩,h1,h2⟩;obtain⟨_,b2,b3,b4,cs,b5,b6⟩:=vO h2;have hm0:(m++[M.val (.slice ad1 (W4 (α:=Int) l) cp1),M.cont (.int .i64) l cs])[4]?=some (.val (.slice ad1 (W4 (α:=Int) l) cp1)):=by
   rw[V5 (by omega),hm];rfl
 have hm1:(m++[M.val (.slice ad1 (W4 (α:=Int) l) cp1),M.cont (.int .i64) l cs])[5]?=some (.cont (.int .i64) l cs):=by
   rw[V5 (by omega),hm];rfl
 refine⟨_,K,_,rfl,⟨[(0,.own 4)],⟨[],6,[.row 4 5 3 (.int .i64) l (W4 (α:=Int) l)],[4]⟩,m++[M.val (.slice ad1 (W4 (α:=Int) l) cp1),M.cont (.int .i64) l cs],rfl,cr0 _ _,by simp[hm],?_,⟨hm0,rfl⟩,rfl⟩,h1,?_⟩
 . intro a ha;simp only[Y2]at ha;subst ha;exact⟨ad1,cp1,cs,hm0,hm1,b5,rfl,b2,b3,b4⟩
 . show Sep E K (HA.conc _ (.row 4 5 3 (.int .i64) l (W4 (α:=Int) l))::F) w';simp only[HA.conc,hm0,hm1];exact b6
def jK[BldA]:OkSpec Tryz.prog:=⟨vf,HK,Tryz.call116⟩
end
end
end Go.Proofs.YtpnmnbfbcgkcjaaGreatDoor
namespace Go.Proofs
open Go.Shelf
def Tryz.lays29_ren:Go.Shelf.Ren:=⟨fun|29=>164|n=>n,fun|22=>163|3=>3|4=>4|25=>167|54=>239|0=>0|5=>5|n=>n,fun|1=>0|n=>n⟩
theorem Tryz.lays29:Go.Proofs.Lays7.n29 Tryz.prog Tryz.lays29_ren:={
  mixed:=by kernel_rfl
  f29:=Tryz.func164.trans (congrArg some (by kernel_rfl))
  t0:=Tryz.underlying0
  a0:=Tryz.isAgg0
  z0:=Tryz.sizeOf0
  v0:=Tryz.zeroValue0
  i0:=by kernel_rfl
  t3:=Tryz.underlying3
  a3:=Tryz.isAgg3
  z3:=Tryz.sizeOf3
  v3:=Tryz.zeroValue3
  i3:=by kernel_rfl
  t4:=Tryz.underlying4
  a4:=Tryz.isAgg4
  z4:=Tryz.sizeOf4
  v4:=Tryz.zeroValue4
  i4:=by kernel_rfl
  t5:=Tryz.underlying5
  a5:=Tryz.isAgg5
  z5:=Tryz.sizeOf5
  v5:=Tryz.zeroValue5
  i5:=by kernel_rfl
  t22:=Tryz.underlying163
  a22:=Tryz.isAgg163
  z22:=Tryz.sizeOf163
  v22:=Tryz.zeroValue163
  i22:=by kernel_rfl
  t25:=Tryz.underlying167
  a25:=Tryz.isAgg167
  z25:=Tryz.sizeOf167
  v25:=Tryz.zeroValue167
  i25:=by kernel_rfl
  t54:=Tryz.underlying239
  a54:=Tryz.isAgg239
  z54:=Tryz.sizeOf239
  g1:=by kernel_rfl }
end Go.Proofs
namespace Go.Proofs.YtpnmnbfbcgkcjaaGreatDoor
noncomputable section
set_option linter.unusedVariables false
set_option linter.unnecessarySimpa false
set_option linter.unusedSectionVars false
set_option linter.unusedSimpArgs false
open Go.RowKit
def tzF(x:Int):Option Int:=if 0<=x/\x<18446744073709551616 then some ((Lib.ctz 64 x.toNat:Nat):Int)else none
def tzGk(K:Hp):Prop:=∀j,j<64->be K 0 j=some (.int .u8 ((Lib.deBruijn64tab.getD j 0:Nat):Int))
theorem tzGk.mono{K K':Hp}(h:K.cle K')(g:tzGk K):tzGk K':=fun j hj=>h _ _ _ (g j hj)
def xy:Spec:=⟨164,⟨[(0,.dat (.int .u64))],[]⟩,[⟨[(0,.dat (.int .i64))],[]⟩],tzF⟩
theorem Qe[BldA](hg:∀K,BldA.gk K->tzGk K):dj Tryz.prog xy:=by
 intro x r hr vs u hu m K args hgk hm hH hsl E w F hs;have hu':xy.inn.un (TL.list _ x) 0=some ([(0,.int .u64 x)],⟨[],0,[],[]⟩):=rfl;rw[hu']at hu;cases hu;obtain⟨v,q,rfl,h1,rfl⟩:=hsl;obtain rfl:v=.int .u64 x:=h1;replace hr:tzF x=some r:=hr;unfold tzF at hr;split at hr
 . rename_i hx;cases hr;have hxe:((x.toNat:Nat):Int)=x:=bn0 hx.1;have hc:=Any7.bits_TrailingZeros64 Tryz.lays29 x.toNat (by omega) w (fun _ j hj=>dX hs.sub (hg K hgk j hj));rw[hxe]at hc;refine Calls.mono (show Calls Tryz.prog 164 #[.int .u64 x] w _ from hc) ?_;rintro e w' ⟨rfl,rfl⟩;exact⟨_,K,[],rfl,⟨[(0,.int .i64 _)],⟨[],0,[],[]⟩,m,rfl,List.prefix_rfl,hm,fun a h=>(by cases h),rfl,rfl⟩,Hp.le_refl K,hs⟩
 . cases hr
set_option maxRecDepth 100000
set_option maxHeartbeats 4000000
section
theorem vp(w:World):(zeroValue 3).run Tryz.prog w=.ok (.int .i64 0) w:=by
 rfl
theorem va(p:Addr)(w:World) :
   CallsD Tryz.prog 160 #[.pointer (some p)] .returning w fun e u' w'=>e=.returned (.tuple #[])/\u'=.returning/\w'=w:=by
 refine callsD_of_wpS Tryz.func160 rfl fun c₀ cs hu=>?_
 apply wpS_seq;apply wpS_region;simp[wpOpsS,go_sem,recoverD,hu,Tryz.ntmps160,Exit.thenS];refine wpS_cond (t:=false) (by simp[Act.eval,bz0]) ?_;simp only[W7,if_false];refine wpS_of_wp (wp_skip ?_);cases c₀;simp_all[bodyPostS,results,Tryz.results160]
theorem zG(w:World) :
   CallsD Tryz.prog 162 #[] .returning w fun e u' w'=>e=.returned (.tuple #[])/\u'=.returning/\w'=w:=by
 refine callsD_of_wpS Tryz.func162 rfl fun c₀ cs hu=>?_
 apply wpS_region;simp[wpOpsS,go_sem,recoverD,hu,Tryz.ntmps162,Exit.thenS];cases c₀;simp_all[bodyPostS,results,Tryz.results162]
theorem wb(r:Option Nat)(w:World):(binOp .eql 190 (.map r) (.map none)).run Tryz.prog w=.ok (.bool r.isNone) w:=by
 have h:(Op.equal 190 (.map r) (.map none)).run Tryz.prog w=.ok r.isNone w:=by
   unfold Op.equal;rw[show Op.maxDepth=9999+1 from rfl,Op.equalIn];simp only[Sem.run_bind,run_underlying Tryz.underlying190,Result.andThen];cases r <;> rfl
 show (do pure (Value.bool (<- Op.equal 190 (.map r) (.map none))):Sem Value).run _ _=_;simp only[Sem.run_bind,h,Result.andThen,Sem.run_pure]
instance now_int:KeyNow Tryz.prog 3 (.int .i64):=⟨⟨_,Tryz.underlying3,fun a b=>by
 show some ((a:Int)==b)=some (decide ((b:Int)=a));exact congrArg some (H8 a b),fun e n a w=>by
 unfold Instr.checkKey;simp only[Sem.run_bind,run_underlying Tryz.underlying3,Result.andThen,ay];rfl,fun n a=>by simp[Instr.sameBits,ay]⟩⟩
section
variable (b r:Nat)(c0 c1 c2:Value)(k:Int){es:Array MapEntry}{cl:Nat}{l:List (Int×Int)}(w:World)
theorem FB(hb:w.heap[b]?=some (.cells #[c0,c1,c2,.map (some r)] 192 (0,0)))(hr:w.heap[r]?=some (.map es cl))
   (hl:es.toList.map (fun e=>(e.key,e.val))=l.map (fun p=>(ay (.int .i64) p.1,Value.int .i64 p.2))) (hp:aJ k l > 0) :
   Calls Tryz.prog 142 #[.pointer (some ⟨b,0,none⟩),.int .i64 k] w fun e w'=>e=.returned (.bool false)/\w'=(w.alloc (.cells #[.bool false] 4)).setCell ⟨w.heap.size,0,none⟩ (.bool false):=by
 have hmf:∀(fn:Fn) (first cap:Array Value) (w:World),(Instr.makeFunc fn first cap).run Tryz.prog w=.ok (.func fn first cap) w:=fun _ _ _ _=>rfl
 have hr1:(w.alloc (.cells #[.bool false] 4)).heap[r]?=some (.map es cl):=dZ hr;have hld:(w.alloc (.cells #[.bool false] 4)).cell? ⟨b,3,none⟩=some (.map (some r)):=by
   have hb1:(w.alloc (.cells #[.bool false] 4)).heap[b]?=some (.cells #[c0,c1,c2,.map (some r)] 192 (0,0)):=dZ hb;simp[World.cell?,hb1]
 have hlk:(Instr.lookup 190 (.map (some r)) (.int .i64 k) false).run Tryz.prog (w.alloc (.cells #[.bool false] 4))=.ok (.int .i64 (aJ k l)) (w.alloc (.cells #[.bool false] 4)):=pA (kt:=.int .i64) Tryz.underlying190 vp k hr1 hl;have heq:=wb (some r);simp only[aA0]at heq;have hgt:decide (aJ k l > 0)=true:=by simpa using hp
 go_enter_defers Tryz.func142,Tryz.ntmps142
 go_wp2
 refine leaves_cons (f:=160) (args:=#[.pointer (some ⟨w.heap.size,0,none⟩)]) (by simp) (by simp[go_sem]) ?_;refine (va ⟨w.heap.size,0,none⟩ _).mono ?_;rintro e u' w'' ⟨rfl,rfl,rfl⟩;simp[Leaves,settle,results,Tryz.results142,go_sem]
theorem Fy(hb:w.heap[b]?=some (.cells #[c0,c1,c2,.map (some r)] 192 (0,0)))(hr:w.heap[r]?=some (.map es cl))
   (hl:es.toList.map (fun e=>(e.key,e.val))=l.map (fun p=>(ay (.int .i64) p.1,Value.int .i64 p.2))) (hB:Brn es cl) (hp:¬ aJ k l > 0) :
   Calls Tryz.prog 142 #[.pointer (some ⟨b,0,none⟩),.int .i64 k] w fun e w'=>e=.returned (.bool true)/\Dx w w' r (.int .i64) (bI k (wrap64 (aJ k l+1)) l):=by
 have hmf:∀(fn:Fn) (first cap:Array Value) (w:World),(Instr.makeFunc fn first cap).run Tryz.prog w=.ok (.func fn first cap) w:=fun _ _ _ _=>rfl
 have hr1:(w.alloc (.cells #[.bool false] 4)).heap[r]?=some (.map es cl):=dZ hr;have hld:(w.alloc (.cells #[.bool false] 4)).cell? ⟨b,3,none⟩=some (.map (some r)):=by
   have hb1:(w.alloc (.cells #[.bool false] 4)).heap[b]?=some (.cells #[c0,c1,c2,.map (some r)] 192 (0,0)):=dZ hb;simp[World.cell?,hb1]
 have hlk:(Instr.lookup 190 (.map (some r)) (.int .i64 k) false).run Tryz.prog (w.alloc (.cells #[.bool false] 4))=.ok (.int .i64 (aJ k l)) (w.alloc (.cells #[.bool false] 4)):=pA (kt:=.int .i64) Tryz.underlying190 vp k hr1 hl;have heq:=wb (some r);simp only[aA0]at heq;have hgt:decide (aJ k l > 0)=false:=by simpa using hp
 obtain⟨es',cl',hup,hl',hB'⟩:=tZ (kt:=.int .i64) (P:=Tryz.prog) (mt:=190) Tryz.underlying190 k (wrap64 (aJ k l+1)) hr1 hl hB;obtain⟨w2,hup,hO1,hn⟩:∃w2:World,(Instr.mapUpdate 190 (.map (some r)) (.int .i64 k) (.int .i64 (wrap64 (aJ k l+1)))).run Tryz.prog (w.alloc (.cells #[.bool false] 4))=.ok () w2/\Onl w w2 r (.map es' cl')/\w2.heap[w.heap.size]?=some (.cells #[.bool false] 4):=by
   have hrs:=lt_of_block hr;refine⟨_,hup,⟨?_,fun n x hne hx=>?_,rfl,rfl,rfl⟩,?_⟩
   . simp only[az0];rw[if_pos trivial,if_pos (lt_of_block hr1)]
   . simp only[az0];rw[if_neg (fun e=>hne e.symm)];exact dZ hx
   . simp only[az0];rw[if_neg (by omega)];exact ge w _
 have hc2:w2.cell? ⟨w.heap.size,0,none⟩=some (.bool false):=by simp[World.cell?,hn]
 have hz2:w2.frozen? ⟨w.heap.size,0,none⟩=false:=by simp[World.frozen?,hn]
 go_enter_defers Tryz.func142,Tryz.ntmps142
 go_wp2
 refine leaves_cons (f:=160) (args:=#[.pointer (some ⟨w.heap.size,0,none⟩)]) (by simp) (by simp[go_sem]) ?_;refine (va ⟨w.heap.size,0,none⟩ _).mono ?_;rintro e u' w'' ⟨rfl,rfl,rfl⟩;have hc3:(w2.setCell ⟨w.heap.size,0,none⟩ (.bool true)).cell? ⟨w.heap.size,0,none⟩=some (.bool true):=by simp[World.cell?,World.setCell,cH0,hn]
 have hO:Onl w (w2.setCell ⟨w.heap.size,0,none⟩ (.bool true)) r (.map es' cl'):=by
   have hrs:=lt_of_block hr;obtain⟨o1,o2,o3⟩:=hO1;exact⟨by rw[eV (by omega)];exact o1,fun n x hne hx=>by have:=lt_of_block hx;rw[eV (by omega)];exact o2 n x hne hx,o3⟩
 simp[Leaves,settle,results,Tryz.results142,go_sem,hc3];exact⟨es',cl',hO,hl',hB'⟩
theorem Fw(hb:w.heap[b]?=some (.cells #[c0,c1,c2,.map none] 192 (0,0))) :
   Calls Tryz.prog 142 #[.pointer (some ⟨b,0,none⟩),.int .i64 k] w fun e w'=>e=.returned (.bool true)/\RM w w' b (fun r=>.cells #[c0,c1,c2,.map (some r)] 192 (0,0)) (.int .i64) (bI k (wrap64 (aJ k []+1)) []):=by
 have hmf:∀(fn:Fn) (first cap:Array Value) (w:World),(Instr.makeFunc fn first cap).run Tryz.prog w=.ok (.func fn first cap) w:=fun _ _ _ _=>rfl
 have hbs:=lt_of_block hb;have hb1:(w.alloc (.cells #[.bool false] 4)).heap[b]?=some (.cells #[c0,c1,c2,.map none] 192 (0,0)):=dZ hb;have hld:(w.alloc (.cells #[.bool false] 4)).cell? ⟨b,3,none⟩=some (.map none):=by simp[World.cell?,hb1]
 have heq:=wb none;simp only[eO0]at heq;have hsz:(w.alloc (.cells #[.bool false] 4)).heap.size=w.heap.size+1:=by simp
 have hmk:(Instr.makeMap 190 none).run Tryz.prog (w.alloc (.cells #[.bool false] 4))=.ok (.map (some (w.heap.size+1))) ((w.alloc (.cells #[.bool false] 4)).alloc (.map #[] 0)):=by
   simp only[Instr.makeMap,Sem.run_bind,Sem.run_pure,run_newObj_alloc,Result.andThen,hsz]
 obtain⟨w2,hw2,ho2,he2⟩:∃w2,(Instr.makeMap 190 none).run Tryz.prog (w.alloc (.cells #[.bool false] 4))=.ok (.map (some (w.heap.size+1))) w2/\(w2.heap[w.heap.size+1]?=some (.map #[] 0)/\w2.heap[w.heap.size]?=some (.cells #[.bool false] 4)/\∀n x,w.heap[n]?=some x->w2.heap[n]?=some x)/\w2.os=w.os/\w2.tape=w.tape/\w2.output=w.output:=by
   refine⟨_,hmk,⟨?_,dZ (ge w _),fun n x hx=>dZ (dZ hx)⟩,rfl,rfl,rfl⟩;rw[<- hsz];exact ge _ _
 clear hmk;obtain⟨ho2r,ho2n,ho2o⟩:=ho2;have hcb2:w2.cell? ⟨b,3,none⟩=some (.map none):=by simp[World.cell?,ho2o _ _ hb]
 have hzb2:w2.frozen? ⟨b,3,none⟩=false:=by simp[World.frozen?,ho2o _ _ hb]
 obtain⟨w3,hw3⟩:∃w3,w2.setCell ⟨b,3,none⟩ (.map (some (w.heap.size+1)))=w3:=⟨_,rfl⟩
 have h3r:w3.heap[w.heap.size+1]?=some (.map #[] 0):=by rw[<- hw3,eV (by omega)];exact ho2r
 have h3n:w3.heap[w.heap.size]?=some (.cells #[.bool false] 4):=by rw[<- hw3,eV (by omega)];exact ho2n
 have h3b:w3.heap[b]?=some (.cells #[c0,c1,c2,.map (some (w.heap.size+1))] 192 (0,0)):=by
   rw[<- hw3];simp[World.setCell,cH0,ho2o _ _ hb]
 have hc3:w3.cell? ⟨b,3,none⟩=some (.map (some (w.heap.size+1))):=by simp[World.cell?,h3b]
 have hlk:(Instr.lookup 190 (.map (some (w.heap.size+1))) (.int .i64 k) false).run Tryz.prog w3=.ok (.int .i64 0) w3:=pA (kt:=.int .i64) Tryz.underlying190 vp k h3r (l:=[]) rfl;obtain⟨es',cl',hup,hl',hB'⟩:=tZ (kt:=.int .i64) (P:=Tryz.prog) (mt:=190) Tryz.underlying190 k 1 h3r (l:=[]) rfl ⟨cD0,fun e he=>by cases he⟩;obtain⟨w4,hup,h4r,h4o,h4e⟩:∃w4:World,(Instr.mapUpdate 190 (.map (some (w.heap.size+1))) (.int .i64 k) (.int .i64 1)).run Tryz.prog w3=.ok () w4/\w4.heap[w.heap.size+1]?=some (.map es' cl')/\(∀n,n≠w.heap.size+1->w4.heap[n]?=w3.heap[n]?)/\w4.os=w3.os/\w4.tape=w3.tape/\w4.output=w3.output:=by
   refine⟨_,hup,?_,fun n hne=>?_,rfl,rfl,rfl⟩
   . simp only[az0];rw[if_pos trivial,if_pos (lt_of_block h3r)]
   . simp only[az0];rw[if_neg (fun e=>hne e.symm)]
 have h4n:w4.heap[w.heap.size]?=some (.cells #[.bool false] 4):=(h4o _ (by omega)).trans h3n;have hc4:w4.cell? ⟨w.heap.size,0,none⟩=some (.bool false):=by simp[World.cell?,h4n]
 have hz4:w4.frozen? ⟨w.heap.size,0,none⟩=false:=by simp[World.frozen?,h4n]
 go_enter_defers Tryz.func142,Tryz.ntmps142
 go_wp2
 refine leaves_cons (f:=160) (args:=#[.pointer (some ⟨w.heap.size,0,none⟩)]) (by simp) (by simp[go_sem]) ?_;refine (va ⟨w.heap.size,0,none⟩ _).mono ?_;rintro e u' w'' ⟨rfl,rfl,rfl⟩;have hc5:(w4.setCell ⟨w.heap.size,0,none⟩ (.bool true)).cell? ⟨w.heap.size,0,none⟩=some (.bool true):=by simp[World.cell?,World.setCell,cH0,h4n]
 have hO:yC w (w4.setCell ⟨w.heap.size,0,none⟩ (.bool true)) b (.cells #[c0,c1,c2,.map (some (w.heap.size+1))] 192 (0,0)) (w.heap.size+1) (.map es' cl'):=by
   obtain⟨e1,e2,e3⟩:=h4e;obtain⟨f1,f2,f3⟩:=he2;refine⟨by rw[eV (by omega),h4o _ (by omega)];exact h3b,by rw[eV (by omega)];exact h4r,al0 (by omega),fun n x hne hx=>?_,?_,?_,?_⟩
   . have:=lt_of_block hx;rw[eV (by omega),h4o _ (by omega),<- hw3,eV hne];exact ho2o _ _ hx
   . exact e1.trans ((congrArg World.os hw3.symm).trans f1)
   . exact e2.trans ((congrArg World.tape hw3.symm).trans f2)
   . exact e3.trans ((congrArg World.output hw3.symm).trans f3)
 have h1:wrap64 (aJ k []+1)=1:=IntWalk.wrap64_in (0+1) (by decide);rw[h1];simp only[Leaves,settle,results,Tryz.results142];simp[go_sem,hc5];exact⟨_,es',cl',hO,hl',hB'⟩
theorem Fa(hb:w.heap[b]?=some (.cells #[c0,c1,c2,.map (some r)] 192 (0,0)))(hr:w.heap[r]?=some (.map es cl))
   (hl:es.toList.map (fun e=>(e.key,e.val))=l.map (fun p=>(ay (.int .i64) p.1,Value.int .i64 p.2))) (hB:Brn es cl) :
   Calls Tryz.prog 146 #[.pointer (some ⟨b,0,none⟩),.int .i64 k] w fun e w'=>e=.returned (.tuple #[])/\Dx w w' r (.int .i64) (bV k l):=by
 have hld:w.cell? ⟨b,3,none⟩=some (.map (some r)):=by simp[World.cell?,hb]
 obtain⟨es',hd,hl',hB'⟩:=Fb (kt:=.int .i64) (P:=Tryz.prog) (mt:=190) (ts:=#[190,3]) (ty:=0) Tryz.underlying190 rfl k hr hl hB;obtain⟨w2,hd,hO⟩:∃w2:World,(Builtin.delete_ #[190,3] 0 #[.map (some r),.int .i64 k]).run Tryz.prog w=.ok (.tuple #[]) w2/\Onl w w2 r (.map es' cl):=by
   refine⟨_,hd,⟨?_,fun n x hne hx=>?_,rfl,rfl,rfl⟩⟩
   . simp only[az0];rw[if_pos trivial,if_pos (lt_of_block hr)]
   . simp only[az0];rw[if_neg (fun e=>hne e.symm)];exact hx
 go_enter_defers Tryz.func146,Tryz.ntmps146
 go_wp2
 refine leaves_cons (f:=162) (args:=#[]) (by simp) (by simp[go_sem]) ?_;refine (zG _).mono ?_;rintro e u' w'' ⟨rfl,rfl,rfl⟩;simp only[Leaves,settle,results,Tryz.results146];simp[go_sem];exact⟨es',cl,hO,hl',hB'⟩
theorem Ff(hb:w.heap[b]?=some (.cells #[c0,c1,c2,.map none] 192 (0,0))) :
   Calls Tryz.prog 146 #[.pointer (some ⟨b,0,none⟩),.int .i64 k] w fun e w'=>e=.returned (.tuple #[])/\w'=w:=by
 have hld:w.cell? ⟨b,3,none⟩=some (.map none):=by simp[World.cell?,hb]
 have hd:(Builtin.delete_ #[190,3] 0 #[.map none,.int .i64 k]).run Tryz.prog w=.ok (.tuple #[]) w:=Fc (kt:=.int .i64) (P:=Tryz.prog) (mt:=190) (ts:=#[190,3]) (ty:=0) Tryz.underlying190 rfl k
 go_enter_defers Tryz.func146,Tryz.ntmps146
 go_wp2
 refine leaves_cons (f:=162) (args:=#[]) (by simp) (by simp[go_sem]) ?_;refine (zG _).mono ?_;rintro e u' w'' ⟨rfl,rfl,rfl⟩;simp only[Leaves,settle,results,Tryz.results146];simp[go_sem]
end
abbrev bH:OT:=.obj 0 (.sl (.cons (.int .i64) (.one (.int .i64))))
theorem FQ{K K0:Hp}{b:Nat}{c0 c1 c2 mv:Value}(k:Int)(x:Option (List (Int×Int))) :
   Tr Tryz.prog 142 #[.pointer (some ⟨b,0,none⟩),.int .i64 k] K [Cl b 192 [c0,c1,c2,mv],OT.own K0 bH [mv] x] (fun v K' L'=>(∃mv',mv'.oneCell'=true/\bH.form mv' (some (dO k x):Option (List (Int×Int)))/\v=.bool (iN k x)/\L'=[Cl b 192 [c0,c1,c2,mv'],OT.own K0 bH [mv'] (some (dO k x):Option (List (Int×Int)))])/\K=K'):=by
 intro E w F hs;have hb:=hs.cl;cases x with
 | none =>
   have hm:=hs.swap.fact (p:=[mv]=[Value.map none]) (fun h k=>k.1);cases hm;refine (Fw b c0 c1 c2 k w hb).mono ?_;rintro e w' ⟨rfl,r,es',cl',hO,hl,hB'⟩;refine⟨_,K,_,rfl,⟨⟨.map (some r),rfl,.inr ⟨_,r,rfl,rfl⟩,rfl,rfl⟩,rfl⟩,Hp.le_refl K,?_⟩;exact ((Sep.onl2 hs.swap.drop hO).swap.mono (fun h k=>⟨r,_,rfl,⟨es',cl',rfl,hl,hB'⟩,k⟩)).swap
 | some l =>
   obtain⟨r,o,e1,⟨es,cl,rfl,hl,hB⟩⟩:=hs.swap.fact (p:=∃r o,[mv]=[Value.map (some r)]/\yc 0 (.sl (.cons (.int .i64) (.one (.int .i64)))) l o) (fun h k=>by obtain⟨r,o,a,b,_⟩:=k;exact⟨r,o,a,b⟩);cases e1;have hs1:Sep E K ((fun h=>∃es cl,h=one r (.map es cl)/\es.toList.map (fun e=>(e.key,e.val))=l.map (fun p=>(ay (.int .i64) p.1,Value.int .i64 p.2))/\Brn es cl)::Cl b 192 [c0,c1,c2,.map (some r)]::F) w :=
     hs.swap.mono (fun h k=>by obtain⟨r',o,a,⟨es,cl,rfl,hl⟩,c⟩:=k;cases a;exact⟨es,cl,c,hl⟩)
   obtain⟨h0,⟨es,cl,rfl,hl,hB⟩,hd,hs1⟩:=hs1;have hs2:Sep E K ((fun h=>h=one r (.map es cl))::Cl b 192 [c0,c1,c2,.map (some r)]::F) w:=⟨_,rfl,hd,hs1⟩;have hr:=hs2.obj;by_cases hp:aJ k l > 0
   . refine (FB b r c0 c1 c2 k w hb hr hl hp).mono ?_;rintro e w' ⟨rfl,rfl⟩;refine⟨_,K,_,rfl,⟨⟨.map (some r),rfl,.inr ⟨_,r,rfl,rfl⟩,by simp[iN,hp],rfl⟩,rfl⟩,Hp.le_refl K,?_⟩;rw[show dO k (some l)=l by simp[dO,hp]];refine Sep.grow (((hs2.mono (fun h k=>⟨r,_,rfl,⟨es,cl,rfl,hl,hB⟩,k⟩)).swap:Sep E K (Cl b 192 [c0,c1,c2,.map (some r)]::OT.own K0 bH [.map (some r)] (some l:Option (List (Int×Int)))::F) w)) (fun n x hx=>?_) ⟨rfl,rfl,rfl⟩;have:=lt_of_block hx;rw[eV (by omega)];exact dZ hx
   . refine (Fy b r c0 c1 c2 k w hb hr hl hB hp).mono ?_;rintro e w' ⟨rfl,es',cl',hO,hl',hB'⟩;refine⟨_,K,_,rfl,⟨⟨.map (some r),rfl,.inr ⟨_,r,rfl,rfl⟩,by simp[iN,hp],rfl⟩,rfl⟩,Hp.le_refl K,?_⟩;rw[show dO k (some l)=bI k (wrap64 (aJ k l+1)) l by simp[dO,hp]];exact ((hs2.onl hO).mono (fun h k=>⟨r,_,rfl,⟨es',cl',rfl,hl',hB'⟩,k⟩)).swap
theorem Fi{K K0:Hp}{b:Nat}{c0 c1 c2 mv:Value}(k:Int)(x:Option (List (Int×Int))) :
   Tr Tryz.prog 146 #[.pointer (some ⟨b,0,none⟩),.int .i64 k] K [Cl b 192 [c0,c1,c2,mv],OT.own K0 bH [mv] x] (fun v K' L'=>(∃mv',mv'.oneCell'=true/\bH.form mv' (x.map (bV k):Option (List (Int×Int)))/\v=.tuple #[]/\L'=[Cl b 192 [c0,c1,c2,mv'],OT.own K0 bH [mv'] (x.map (bV k):Option (List (Int×Int)))])/\K=K'):=by
 intro E w F hs;have hb:=hs.cl;cases x with
 | none =>
   have hm:=hs.swap.fact (p:=[mv]=[Value.map none]) (fun h k=>k.1);cases hm;refine (Ff b c0 c1 c2 k w hb).mono ?_;rintro e w' ⟨rfl,rfl⟩;exact⟨_,K,_,rfl,⟨⟨.map none,rfl,.inl ⟨rfl,rfl⟩,rfl,rfl⟩,rfl⟩,Hp.le_refl K,hs⟩
 | some l =>
   obtain⟨r,o,e1,⟨es,cl,rfl,hl,hB⟩⟩:=hs.swap.fact (p:=∃r o,[mv]=[Value.map (some r)]/\yc 0 (.sl (.cons (.int .i64) (.one (.int .i64)))) l o) (fun h k=>by obtain⟨r,o,a,b,_⟩:=k;exact⟨r,o,a,b⟩);cases e1;have hs1:Sep E K ((fun h=>∃es cl,h=one r (.map es cl)/\es.toList.map (fun e=>(e.key,e.val))=l.map (fun p=>(ay (.int .i64) p.1,Value.int .i64 p.2))/\Brn es cl)::Cl b 192 [c0,c1,c2,.map (some r)]::F) w :=
     hs.swap.mono (fun h k=>by obtain⟨r',o,a,⟨es,cl,rfl,hl⟩,c⟩:=k;cases a;exact⟨es,cl,c,hl⟩)
   obtain⟨h0,⟨es,cl,rfl,hl,hB⟩,hd,hs1⟩:=hs1;have hs2:Sep E K ((fun h=>h=one r (.map es cl))::Cl b 192 [c0,c1,c2,.map (some r)]::F) w:=⟨_,rfl,hd,hs1⟩;have hr:=hs2.obj;refine (Fa b r c0 c1 c2 k w hb hr hl hB).mono ?_;rintro e w' ⟨rfl,es',cl',hO,hl',hB'⟩;refine⟨_,K,_,rfl,⟨⟨.map (some r),rfl,.inr ⟨_,r,rfl,rfl⟩,rfl,rfl⟩,rfl⟩,Hp.le_refl K,?_⟩;exact ((hs2.onl hO).mono (fun h k=>⟨r,_,rfl,⟨es',cl',rfl,hl',hB'⟩,k⟩)).swap
def u9(k:Int)(ring:List (Int))(first many:Int)(x:Option (List (Int×Int))):Option (Bool×List (Int)×Int×Int×Option (List (Int×Int))):=some (iN k x,ring,first,many,some (dO k x))
def zi(k:Int)(ring:List (Int))(first many:Int)(x:Option (List (Int×Int))):Option (List (Int)×Int×Int×Option (List (Int×Int))):=some (ring,first,many,x.map (bV k))
def uQ:Spec:=⟨142,⟨[(0,.ptr 0 0),(1,.dat (.int .i64))],[⟨none,192,[.own 3 (.int .i64),.dat (.int .i64),.dat (.int .i64),.od bH],false,false,none,false⟩]⟩,[⟨[(0,.dat .bool)],[⟨some 0,192,[.own 3 (.int .i64),.dat (.int .i64),.dat (.int .i64),.od bH],false,false,none,false⟩]⟩],
 fun x=>u9 x.1 x.2.1 x.2.2.1 x.2.2.2.1 x.2.2.2.2⟩
theorem FO[BldA]:dj Tryz.prog uQ:=by
 intro x r hr vv u hu m K args hgk hm hH hsl E w F hs;have hu':uQ.inn.un (TL.list _ x) 0=some ([(0,.ptr 0 0),(1,.int .i64 x.1)],⟨[],6,[.blk 0 5 192 [.own 1,.int .i64 x.2.2.1,.int .i64 x.2.2.2.1,.own 3],.od 3 4 bH x.2.2.2.2,.row 1 2 3 (.int .i64) x.2.1 (W4 (α:=Int) x.2.1)],[1]⟩):=rfl;rw[hu']at hu;cases hu;replace hm:m.length=6:=hm;obtain⟨v1,u1,rfl,⟨b,e1,rfl⟩,v2,u2,rfl,rfl,rfl⟩:=hsl;obtain⟨b',vs,g0,g5,v0,r0,rfl,⟨h1,h1o⟩,v1,r1,rfl,rfl,v2,r2,rfl,rfl,v3,r3,rfl,⟨h3,h3o⟩,rfl⟩:=hH (.blk 0 5 192 [.own 1,.int .i64 x.2.2.1,.int .i64 x.2.2.2.1,.own 3]) (by simp);rw[g0]at e1;cases e1;obtain⟨mv,K0,g3,g4,hk,hf⟩:=hH (.od 3 4 bH x.2.2.2.2) (by simp);rw[g3]at h3;cases h3;obtain⟨ad,cap,cs,g1,g2,hE,_,q2,q3,q4⟩:=hH (.row 1 2 3 (.int .i64) x.2.1 (W4 (α:=Int) x.2.1)) (by simp);rw[g1]at h1;cases h1;have hs':Sep E K (HA.conc m (.blk 0 5 192 [.own 1,.int .i64 x.2.2.1,.int .i64 x.2.2.2.1,.own 3])::HA.conc m (.od 3 4 bH x.2.2.2.2)::HA.conc m (.row 1 2 3 (.int .i64) x.2.1 (W4 (α:=Int) x.2.1))::F) w:=hs;simp only[HA.conc,g0,g1,g2,g3,g4,g5]at hs';refine (FQ x.1 x.2.2.2.2 E w (Rw 3 (Tp.size (.int .i64)) (.slice ad (W4 (α:=Int) x.2.1) cap) (W4 (α:=Int) x.2.1) cs::F) hs').mono ?_;rintro e w' ⟨v,K',L',rfl,⟨⟨mv',hone,hform,rfl,rfl⟩,rfl⟩,hle,hs2⟩;obtain rfl:r=(iN x.1 x.2.2.2.2,x.2.1,x.2.2.1,x.2.2.2.1,(some (dO x.1 x.2.2.2.2):Option (List (Int×Int)))):=(ap0 hr).symm
 let ms:List M:=[M.val (.slice ad (W4 (α:=Int) x.2.1) cap),M.cont (.int .i64) x.2.1 cs,M.val mv',M.hp K0,M.cells [.slice ad (W4 (α:=Int) x.2.1) cap,.int .i64 x.2.2.1,.int .i64 x.2.2.2.1,mv']]
 have f0:(m++ms)[0]?=some (.val (.pointer (some ⟨b,0,none⟩))):=by rw[V6 (by omega)];exact g0
 have f6:(m++ms)[6]?=some (.val (.slice ad (W4 (α:=Int) x.2.1) cap)):=by rw[V5 (by omega),hm];rfl
 have f7:(m++ms)[7]?=some (.cont (.int .i64) x.2.1 cs):=by rw[V5 (by omega),hm];rfl
 have f8:(m++ms)[8]?=some (.val mv'):=by rw[V5 (by omega),hm];rfl
 have f9:(m++ms)[9]?=some (.hp K0):=by rw[V5 (by omega),hm];rfl
 have f10:(m++ms)[10]?=some (.cells [.slice ad (W4 (α:=Int) x.2.1) cap,.int .i64 x.2.2.1,.int .i64 x.2.2.2.1,mv']):=by rw[V5 (by omega),hm];rfl
 refine⟨_,K,_,rfl,⟨[(0,.bool (iN x.1 x.2.2.2.2))],⟨[],11,[.blk 0 10 192 [.own 6,.int .i64 x.2.2.1,.int .i64 x.2.2.2.1,.own 8],.od 8 9 bH (some (dO x.1 x.2.2.2.2):Option (List (Int×Int))),.row 6 7 3 (.int .i64) x.2.1 (W4 (α:=Int) x.2.1)],[6]⟩,m++ms,rfl,cr0 _ _,by simp[hm,ms],?_,rfl,rfl⟩,hle,?_⟩
 . intro a ha;simp only[Y4,fj0,or_false]at ha
   rcases ha with rfl |rfl|rfl
   . exact⟨b,_,f0,f10,_,_,rfl,⟨f6,rfl⟩,_,_,rfl,rfl,_,_,rfl,rfl,_,_,rfl,⟨f8,hone⟩,rfl⟩
   . exact⟨mv',K0,f8,f9,hk,hform⟩
   . exact⟨ad,cap,cs,f6,f7,hE,rfl,q2,q3,q4⟩
 . show Sep E K (HA.conc _ (.blk 0 10 192 [.own 6,.int .i64 x.2.2.1,.int .i64 x.2.2.2.1,.own 8])::HA.conc _ (.od 8 9 bH (some (dO x.1 x.2.2.2.2):Option (List (Int×Int))))::HA.conc _ (.row 6 7 3 (.int .i64) x.2.1 (W4 (α:=Int) x.2.1))::F) w';simp only[HA.conc,f0,f6,f7,f8,f9,f10];exact hs2
def FY[BldA]:OkSpec Tryz.prog:=⟨uQ,FO,Tryz.call142⟩
def uz:Spec:=⟨146,⟨[(0,.ptr 0 0),(1,.dat (.int .i64))],[⟨none,192,[.own 3 (.int .i64),.dat (.int .i64),.dat (.int .i64),.od bH],false,false,none,false⟩]⟩,[⟨[],[⟨some 0,192,[.own 3 (.int .i64),.dat (.int .i64),.dat (.int .i64),.od bH],false,false,none,false⟩]⟩],
 fun x=>zi x.1 x.2.1 x.2.2.1 x.2.2.2.1 x.2.2.2.2⟩
theorem Fg[BldA]:dj Tryz.prog uz:=by
 intro x r hr vv u hu m K args hgk hm hH hsl E w F hs;have hu':uz.inn.un (TL.list _ x) 0=some ([(0,.ptr 0 0),(1,.int .i64 x.1)],⟨[],6,[.blk 0 5 192 [.own 1,.int .i64 x.2.2.1,.int .i64 x.2.2.2.1,.own 3],.od 3 4 bH x.2.2.2.2,.row 1 2 3 (.int .i64) x.2.1 (W4 (α:=Int) x.2.1)],[1]⟩):=rfl;rw[hu']at hu;cases hu;replace hm:m.length=6:=hm;obtain⟨v1,u1,rfl,⟨b,e1,rfl⟩,v2,u2,rfl,rfl,rfl⟩:=hsl;obtain⟨b',vs,g0,g5,v0,r0,rfl,⟨h1,h1o⟩,v1,r1,rfl,rfl,v2,r2,rfl,rfl,v3,r3,rfl,⟨h3,h3o⟩,rfl⟩:=hH (.blk 0 5 192 [.own 1,.int .i64 x.2.2.1,.int .i64 x.2.2.2.1,.own 3]) (by simp);rw[g0]at e1;cases e1;obtain⟨mv,K0,g3,g4,hk,hf⟩:=hH (.od 3 4 bH x.2.2.2.2) (by simp);rw[g3]at h3;cases h3;obtain⟨ad,cap,cs,g1,g2,hE,_,q2,q3,q4⟩:=hH (.row 1 2 3 (.int .i64) x.2.1 (W4 (α:=Int) x.2.1)) (by simp);rw[g1]at h1;cases h1;have hs':Sep E K (HA.conc m (.blk 0 5 192 [.own 1,.int .i64 x.2.2.1,.int .i64 x.2.2.2.1,.own 3])::HA.conc m (.od 3 4 bH x.2.2.2.2)::HA.conc m (.row 1 2 3 (.int .i64) x.2.1 (W4 (α:=Int) x.2.1))::F) w:=hs;simp only[HA.conc,g0,g1,g2,g3,g4,g5]at hs';refine (Fi x.1 x.2.2.2.2 E w (Rw 3 (Tp.size (.int .i64)) (.slice ad (W4 (α:=Int) x.2.1) cap) (W4 (α:=Int) x.2.1) cs::F) hs').mono ?_;rintro e w' ⟨v,K',L',rfl,⟨⟨mv',hone,hform,rfl,rfl⟩,rfl⟩,hle,hs2⟩;obtain rfl:r=(x.2.1,x.2.2.1,x.2.2.2.1,(eT0 (bV x.1) x.2.2.2.2:Option (List (Int×Int)))):=(ap0 hr).symm
 let ms:List M:=[M.val (.slice ad (W4 (α:=Int) x.2.1) cap),M.cont (.int .i64) x.2.1 cs,M.val mv',M.hp K0,M.cells [.slice ad (W4 (α:=Int) x.2.1) cap,.int .i64 x.2.2.1,.int .i64 x.2.2.2.1,mv']]
 have f0:(m++ms)[0]?=some (.val (.pointer (some ⟨b,0,none⟩))):=by rw[V6 (by omega)];exact g0
 have f6:(m++ms)[6]?=some (.val (.slice ad (W4 (α:=Int) x.2.1) cap)):=by rw[V5 (by omega),hm];rfl
 have f7:(m++ms)[7]?=some (.cont (.int .i64) x.2.1 cs):=by rw[V5 (by omega),hm];rfl
 have f8:(m++ms)[8]?=some (.val mv'):=by rw[V5 (by omega),hm];rfl
 have f9:(m++ms)[9]?=some (.hp K0):=by rw[V5 (by omega),hm];rfl
 have f10:(m++ms)[10]?=some (.cells [.slice ad (W4 (α:=Int) x.2.1) cap,.int .i64 x.2.2.1,.int .i64 x.2.2.2.1,mv']):=by rw[V5 (by omega),hm];rfl
 refine⟨_,K,_,rfl,⟨[],⟨[],11,[.blk 0 10 192 [.own 6,.int .i64 x.2.2.1,.int .i64 x.2.2.2.1,.own 8],.od 8 9 bH (eT0 (bV x.1) x.2.2.2.2:Option (List (Int×Int))),.row 6 7 3 (.int .i64) x.2.1 (W4 (α:=Int) x.2.1)],[6]⟩,m++ms,rfl,cr0 _ _,by simp[hm,ms],?_,rfl,rfl⟩,hle,?_⟩
 . intro a ha;simp only[Y4,fj0,or_false]at ha
   rcases ha with rfl |rfl|rfl
   . exact⟨b,_,f0,f10,_,_,rfl,⟨f6,rfl⟩,_,_,rfl,rfl,_,_,rfl,rfl,_,_,rfl,⟨f8,hone⟩,rfl⟩
   . exact⟨mv',K0,f8,f9,hk,hform⟩
   . exact⟨ad,cap,cs,f6,f7,hE,rfl,q2,q3,q4⟩
 . show Sep E K (HA.conc _ (.blk 0 10 192 [.own 6,.int .i64 x.2.2.1,.int .i64 x.2.2.2.1,.own 8])::HA.conc _ (.od 8 9 bH (eT0 (bV x.1) x.2.2.2.2:Option (List (Int×Int))))::HA.conc _ (.row 6 7 3 (.int .i64) x.2.1 (W4 (α:=Int) x.2.1))::F) w';simp only[HA.conc,f0,f6,f7,f8,f9,f10];exact hs2
def Fu[BldA]:OkSpec Tryz.prog:=⟨uz,Fg,Tryz.call146⟩
end
end
end Go.Proofs.YtpnmnbfbcgkcjaaGreatDoor

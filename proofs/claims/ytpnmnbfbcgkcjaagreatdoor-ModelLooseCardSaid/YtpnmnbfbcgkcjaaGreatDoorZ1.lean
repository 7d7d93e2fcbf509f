/- A part of the proof: what lies ahead of the law. Nothing is claimed here. -/
import Derived.WalkKit
import Derived.WalkSpells
import Derived.WalkLawsBesides
import Derived.Lib.Hide
import Derived.OneCell
import Derived.ProofKit
import Derived.OpenShut
import Derived.Lib.SmallJoins
import Derived.Deep.RegionWith
import Derived.Deep.DeepMust
import Derived.Deep.QuietTactic
import Derived.BigQuiet
import Derived.Test.YtpnmnbfbcgkcjaaGreatDoorRows
import Derived.JoinedCond
import Derived.Deep.DeepHandedRow
import Derived.Deep.Slices
import Derived.Deep.AppendLies
import Derived.TacticsIn
import Derived.OrdersIn
import Derived.LoopNIn
import GoSem.Core.View
import Derived.Maps.AppendAt
import Derived.Laws.CopyRow
import Derived.Laws.MakeOwn
import Derived.Shelf.Abstract
import Derived.LoopN
import Derived.Laws.StructEq
import Derived.Laws.Cover3
import Derived.ChangeKeysEq
import Derived.Laws.BytesString
import Derived.Scope
import Derived.ControlIn
open Array renaming ext'→cN0,ext_getElem?→eS0,foldl_toList→eR0,getD_eq_getD_getElem?→cP0,getElem?_append→eA0,getElem?_eq_getElem→br0,getElem?_eq_none→al0,getElem?_setIfInBounds→az0,getElem?_toList→bA0,length_toList→Y5,mapM_eq_mapM_toList→da0,range→bT0,replicate→bz0,toList_modify→eM0,toList_push→fd0
open BitVec renaming ofInt→X0
open Bool renaming and_eq_true→Y1,beq_eq_decide_eq→by0,eq_false_iff→bo0,false_eq_true→W7,false_or→cw0,not_eq_true'→bN0,not_true→X7,or_eq_true→bw0
open ByteArray renaming size→dx0
open Int renaming eq_ofNat_of_zero_le→W6,mul_le_mul_of_nonneg_right→bP0,toNat→Z5,toNat_natCast→W2
open List renaming all_cons→dg0,all_eq_true→aF0,append_nil→Z6,cons_append→aK0,drop_drop→dw0,drop_take→dv0,drop_zero→ab0,foldl_cons→bF0,getD→ag0,getElem?_append_left→V6,getElem?_append_right→V5,getElem?_cons_succ→ei0,getElem?_cons_zero→eh0,getElem?_drop→bf0,getElem?_eq_getElem→Z0,getElem?_eq_none→ai0,getElem?_eq_some_iff→V4,getElem?_map→cB0,getElem?_take→aM0,getElem?_toArray→ew0,getElem_of_mem→Z8,length→W4,length_append→W3,length_cons→V9,length_drop→W8,length_eq_zero_iff→Z4,length_map→Y6,length_nil→do0,length_pos_iff→bl0,length_replicate→X9,length_set→ax0,length_take→X4,map→cE0,map_append→X6,map_cons→X5,mem_append→V3,mem_cons→Y4,mem_cons_of_mem→W5,mem_cons_self→aL0,mem_map→Y7,mem_of_getElem?→cf0,mem_singleton→Y2,nodup_append→aR0,nodup_cons→aw0,range→Z1,replicate→Z2,replicate_succ→dB0,set_append_right→bu0,size_toArray→aV0,take_append_drop→as0,take_length→Y9,take_length_add_append→bD0,take_of_length_le→V8,toArray→aN0
open List.cons renaming injEq→aQ0
open Nat renaming add_assoc→aG0,add_comm→bh0,add_mul→cz0,add_zero→aD0,beq→Y3,beq_refl→bY0,ble→aT0,blt→aO0,blt_eq→bj0,eq_of_beq_eq_true→Y0,le_mul_of_pos_right→eg0,le_of_ble_eq_true→W9,le_refl→X3,le_trans→Z7,lt_of_lt_of_le→bV0,lt_or_ge→aq0,lt_succ_self→fg0,lt_trichotomy→bi0,min_eq_left→an0,mod_eq_of_lt→ak0,mod_eq_sub_mod→co0,mod_lt→bM0,mul_eq_zero→ft0,mul_le_mul→cX0,strongRecOn→dP0,sub_zero→er0,succ_mul→aC0,testBit_or→dV0,testBit_two_pow→dA0,zero_add→Y8,zero_le→ah0,zero_mul→bO0
open Ne renaming symm→dz0
open Option renaming bind_some→V0,map_eq_some_iff→aW0,map_none→fs0,map_some→dl0
open Option.some renaming inj→ap0,injEq→Z3
open Prod.mk renaming injEq→bQ0
namespace Go.Proofs.YtpnmnbfbcgkcjaaGreatDoor
noncomputable section
set_option linter.unusedVariables false
open Go.RowKit
section
@[go_sem] theorem run_eqlNil {P:Program} (w:World) (t e:TypeId) (a:Option Addr) (l c:Nat) (h:P.underlying t=some (.slice e)):(binOp .eql t (.slice a l c) (.slice none 0 0)).run P w=.ok (.bool a.isNone) w:=by
 simp only[binOp];simp[run_equal_slice_nil w t e a l c h]
theorem Hx(a b:List UInt8):((⟨a.toArray⟩:ByteArray)++(⟨b.toArray⟩:ByteArray))=⟨(a++b).toArray⟩:=ByteArray.ext (by simp)
section
open Go.ChangeShapes Go.WideShapes Go.Joins
variable {H:Type}{enc:TypeId×Value->H}{P:Program}{w:World}{base:Nat}{spare:Nat->Bool}{held:Bool}
def fE(n:Int):Prop:=-9223372036854775808<=n/\n<=9223372036854775807
theorem uY{n:Int}(h:(Lit.int .i64 n).wf=true):fE n:=by
 simp only[Lit.wf,IntKind.min,IntKind.max,IntKind.signed,IntKind.bits,Y1,decide_eq_true_eq]at h;simp at h;exact⟨by omega,by omega⟩
end
structure Fr(S:List Nat)(w w':World):Prop where
 os:w'.os=w.os
 tape:w'.tape=w.tape
 output:w'.output=w.output
 size:w.heap.size<=w'.heap.size
 block:∀k,k<w.heap.size->k∉S->w'.heap[k]?=w.heap[k]?
theorem Fr.refl(S:List Nat)(w:World):Fr S w w:=⟨rfl,rfl,rfl,X3 _,fun _ _ _=>rfl⟩
theorem Fr.trans{S:List Nat}{a b c:World}(h:Fr S a b)(k:Fr S b c):Fr S a c :=
 ⟨k.os.trans h.os,k.tape.trans h.tape,k.output.trans h.output,Z7 h.size k.size,fun i hi hS=>(k.block i (bV0 hi h.size) hS).trans (h.block i hi hS)⟩
theorem Fr.mono{S T:List Nat}{a b:World}(h:Fr S a b)(hST:∀x,x∈S->x∈T):Fr T a b:=⟨h.os,h.tape,h.output,h.size,fun k hk hT=>h.block k hk (fun hs=>hT (hST k hs))⟩
theorem Fr.fresh{S T:List Nat}{a b c:World}(h:Fr S a b)(k:Fr T b c)(hT:∀x,x∈T->x∈S\/a.heap.size<=x):Fr S a c :=
 ⟨k.os.trans h.os,k.tape.trans h.tape,k.output.trans h.output,Z7 h.size k.size,fun i hi hS=>(k.block i (bV0 hi h.size) (fun hm=>by
   rcases hT i hm with h1|h1
   . exact hS h1
   . omega)).trans (h.block i hi hS)⟩
theorem Fr.drew{S:List Nat}{a w:World}(h:Fr S a w):Fr S a w.drew:=⟨h.os,h.tape,h.output,h.size,h.block⟩
theorem Fr.alloc{S:List Nat}{a w:World}(h:Fr S a w)(o:Obj):Fr S a (w.alloc o) :=
 h.trans ⟨rfl,rfl,rfl,by simp,fun k hk _=>Below.heap_alloc _ _ _ hk⟩
theorem Fr.setCell{S:List Nat}{a w:World}(h:Fr S a w)(p:Addr)(hp:p.block∈S\/a.heap.size<=p.block)(u:Value):Fr S a (w.setCell p u) :=
 h.fresh (T:=[p.block]) ⟨rfl,rfl,rfl,by simp[World.setCell],fun k _ hS=>Below.heap_setCell _ _ _ _ (fun e=>hS (by simp[e]))⟩ (fun x hx=>by simp at hx;subst hx;exact hp)
theorem Fr.cell{S:List Nat}{w w':World}(h:Fr S w w'){p:Addr}(hp:p.block<w.heap.size)(hS:p.block∉S):w'.cell? p=w.cell? p:=World.cell?_of_block (w:=w) (h.block p.block hp hS)
theorem Fr.keeps{S:List Nat}{w w':World}(h:Fr S w w'){b:Nat}{o:Obj}(hb:w.heap[b]?=some o)(hS:b∉S):w'.heap[b]?=some o:=by
 rw[h.block b (lt_of_block hb) hS];exact hb
theorem JH{w:World}{p:Addr}{v:Value}(h:w.cell? p=some v):p.block<w.heap.size:=by
 rcases aq0 p.block w.heap.size with h'|h'
 . exact h'
 . simp[World.cell?,al0 h']at h
theorem ge(w:World)(o:Obj):(w.alloc o).heap[w.heap.size]?=some o:=(MapKept.heap_alloc w o).1
structure Later(w0:World) where
 w:World
 fr:Fr [] w0 w
instance laterSome(w:World):Nonempty (Later w):=⟨⟨w,Fr.refl [] w⟩⟩
def Later.rest{w:World}(z:Later w)(p:Addr):Option Value:=z.w.cell? p
@[go_sem] theorem Later.cell {w:World} (z:Later w) (p:Addr):z.w.cell? p=(w.cell? p).or (z.rest p):=by
 cases h:w.cell? p with
 |none=>rfl
 | some v =>
   have hp:p.block<w.heap.size:=by
     rcases aq0 p.block w.heap.size with h'|h'
     . exact h'
     . simp[World.cell?,al0 h']at h
   rw[z.fr.cell hp (by simp),h];rfl
@[go_sem] theorem later_or (v:Value) (x:Option Value):(some v).or x=some v:=rfl
def ints(l:List Int):Array Value:=(l.map (Value.int .i64)).toArray
theorem Fq{w:World}{b:Nat}{c:Array Value}{t:TypeId}(h:w.heap[b]?=some (.cells c t (0,0)))(i:Nat)(v:Value):(w.setCell ⟨b,i,none⟩ v).heap[b]?=some (.cells (c.setIfInBounds i v) t (0,0)):=by
 have hlt:=lt_of_block h;have h':w.heap[b]=.cells c t (0,0):=by simpa[br0 hlt]using h
 show (w.heap.modify b _)[b]?=_;rw[br0 (by simpa using hlt),Array.getElem_modify_self,h'];rfl
end
section
open Go.ChangeShapes Go.WideShapes Go.ChangeAt Go.RowKit
section
variable {H:Type}{enc:TypeId×Value->H}{P:Program}
theorem yR(hl:laidOutB P=true){W W':World}(hb:Below W.heap.size W W'):∀(ts:List TypeId) (vs:List Value) (ds:List (DataW H)) (ps:List MemPlace),
   (∀t∈ts,P.readableRec t=true/\t<P.types.size)->DataW.TrodAll enc P W 0 (fun _=>true) true ts vs ds ps->(∀x∈ps,x.block<W.heap.size) ->
   DataW.TrodAll enc P W' 0 (fun b=>decide (b<W.heap.size)) true ts vs ds ps
 | [],vs,ds,ps,_,h,_=>by
   obtain⟨rfl,rfl,rfl⟩:=trodAll_nil h;exact trodAll_mk0
 | t :: ts,vs,ds,ps,hr,h,hlt=>by
   obtain⟨v,vs',d,ds',p,q,rfl,rfl,rfl,h0,r0⟩:=trodAll_cons h;refine trodAll_cons_mk (Below.trod hl (hr t (by simp)).1 (hr t (by simp)).2 h0 hb (fun x hx=>hlt x (by simp[hx]))) ?_;exact yR hl hb ts vs' ds' q (fun t ht=>hr t (by simp[ht])) r0 (fun x hx=>hlt x (by simp[hx]))
theorem IK{f:Func}{s:ChangeSpec}{W W':World}{args:Array Value}{ds gs:List (DataW H)}{before:List MemPlace}{tb:TypeId}
   (hv:s.vars=[]) (hW:DataW.Whole enc P f.params.toList s.vars false W args.toList ds gs before)
   (hfn:s.fn H ds={ results:=[.lit (.bool true)],args:=ds }) (hres:f.resultTypes = #[tb]) (htb:P.underlying tb=some .bool)
   (hl:laidOutB P=true) (hr:∀t∈f.params.toList,P.readableRec t=true/\t<P.types.size) (hb:Below W.heap.size W W') :
   s.post enc P f false true false false W args (.bool true) W':=by
 have hW':=hW;obtain⟨p,q,hA,hV,rfl,hfz,hnd⟩:=hW;have hlt:=hW'.lt;have hV':=hV;rw[hv]at hV;obtain⟨rfl,rfl⟩:=trodVars_none hV;have he:s.fn H (ds++[])={ results:=[.lit (.bool true)],args:=ds }:=by rw[Z6];exact hfn
 refine⟨ds,[],p++[],[],p,[],hW',?_,?_,?_,hb.frame _,fun h=>by cases h⟩
 . rw[he,hres];exact trodAll_cons_mk (shut_bool htb true) trodAll_mk0
 . rw[he];exact yR hl hb _ _ _ _ hr hA (fun x hx=>hlt x (by simp[hx]))
 . rw[he,hv];exact rfl
end
end
section
open Go.ChangeShapes Go.WideShapes Go.RowKit Go.Deep
open Go.ChangeMaps (open_string)
inductive Ty where
 |int (k:IntKind)
 |bool
 |str
 |sl (e:Ty)
 |emp
 |cons (a r:Ty)
namespace Ty
abbrev den:Ty->Type
 |.int _=>Int
 |.bool=>Bool
 |.str=>ByteArray
 |.sl e=>List e.den
 |.emp=>Unit
 |.cons a r=>a.den×r.den
def size:Ty->Nat
 |.emp=>0
 |.cons a r=>a.size+r.size
 |_=>1
mutual
def has(P:Program):Ty->TypeId->Bool
 |.int k,t=>match P.underlying t with|some (.int k')=>decide (k'=k)|_=>false
 |.bool,t=>match P.underlying t with|some .bool=>true|_=>false
 |.str,t=>match P.underlying t with|some .string=>true|_=>false
 |.sl e,t=>match P.underlying t with|some (.slice e')=>has P e e'&&decide (P.cellsOf e'=e.size)&&decide (0<e.size)|_=>false
 |.emp,t=>match P.underlying t with|some (.struct fs)=>fs.toList.isEmpty&&decide (P.cellsOf t=0)|_=>false
 | .cons a r,t=>match P.underlying t with
   |some (.struct fs)=>(match fs.toList with|f::fs=>decide (f.offset=0)&&decide (P.cellsOf f.type=a.size)&&has P a f.type&&hasAll P a.size r fs|[]=>false)&&decide (P.cellsOf t=a.size+r.size)
   |_=>false
def hasAll(P:Program):Nat->Ty->List Field->Bool
 |_,.emp,[]=>true
 |o,.cons a r,f::fs=>decide (f.offset=o)&&decide (P.cellsOf f.type=a.size)&&has P a f.type&&hasAll P (o+a.size) r fs
 |_,_,_=>false
end
def Is(W:World):(t:Ty)->List Value->t.den->Prop
 |.int k,cs,n=>cs=[.int k n]/\(Lit.int k n).wf=true
 |.bool,cs,b=>cs=[.bool b]
 |.str,cs,s=>cs=[.string s]/\s.size<=maxLen
 |.sl e,cs,l=>∃ad cap,cs=[.slice ad l.length cap]/\l.length<=maxLen/\(ad=none->l=[]/\cap=0)/\(l≠[]->∃b o,ad=some ⟨b,o,none⟩/\b<W.heap.size /\
     ∀k x,l[k]?=some x->∃es,es.length=e.size/\Is W e es x/\∀j,j<e.size->W.cell? ⟨b,o+k*e.size+j,none⟩=es[j]?)
 |.emp,cs,_=>cs=[]
 |.cons a r,cs,d=>∃c1 c2,cs=c1++c2/\c1.length=a.size/\Is W a c1 d.1/\Is W r c2 d.2
theorem Is.len{W:World}:∀{t:Ty} {cs:List Value} {d:t.den},Is W t cs d->cs.length=t.size
 |.int _,cs,d,h=>by simp only[Is]at h;rw[h.1];rfl
 |.bool,cs,d,h=>by simp only[Is]at h;rw[h];rfl
 |.str,cs,d,h=>by simp only[Is]at h;rw[h.1];rfl
 |.sl e,cs,d,h=>by simp only[Is]at h;obtain⟨_,_,h,_⟩:=h;rw[h];rfl
 |.emp,cs,d,h=>by simp only[Is]at h;rw[h];rfl
 | .cons a r,cs,d,h=>by
   simp only[Is]at h;obtain⟨c1,c2,rfl,h1,_,h2⟩:=h;simp[Ty.size,h1,Is.len h2]
theorem zd{α:Type}{R:Nat->α->Prop}:∀n:Nat,(∀k,k<n->∃x,R k x)->∃l:List α,l.length=n/\∀k x,l[k]?=some x->R k x
 |0,_=>⟨[],rfl,fun k x h=>by simp at h⟩
 | n + 1,h=>by
   obtain⟨l,hl,hr⟩:=zd n (fun k hk=>h k (by omega));obtain⟨x,hx⟩:=h n (by omega);refine⟨l++[x],by simp[hl],fun k y hy=>?_⟩
   rcases bi0 k n with hk |hk|hk
   . rw[V6 (by omega)]at hy;exact hr k y hy
   . subst hk;subst hl;simp at hy;subst hy;exact hx
   . rw[ai0 (by simp;omega)]at hy;simp at hy
section
variable {H:Type}{enc:TypeId×Value->H}{P:Program}{W:World}{base:Nat}{spare:Nat->Bool}{held:Bool}
mutual
theorem read:∀(ty:Ty) {t:TypeId} {fuel:Nat} {cs:List Value} {x:DataW H×List MemPlace},ty.has P t=true->DataW.trod enc P W base spare held fuel t cs=some x->∃d:ty.den,Is W ty cs d
 | .int k,t,fuel,cs,x,hh,h=>by
   unfold has at hh;split at hh
   . rename_i k' ht;simp at hh;subst hh;obtain⟨n,rfl,_,hw⟩:=DataW.trod_int ht h;exact⟨n,rfl,hw⟩
   . simp at hh
 | .bool,t,fuel,cs,x,hh,h=>by
   unfold has at hh;split at hh
   . rename_i ht;obtain⟨b,rfl,_⟩:=DataW.trod_bool ht h;exact⟨b,rfl⟩
   . simp at hh
 | .str,t,fuel,cs,x,hh,h=>by
   unfold has at hh;split at hh
   . rename_i ht;obtain⟨s,rfl,_,hs⟩:=DataW.trod_string ht h;exact⟨s,rfl,hs⟩
   . simp at hh
 | .sl e,t,fuel,cs,x,hh,h=>by
   unfold has at hh;split at hh
   . rename_i e' ht;simp only[Y1,decide_eq_true_eq]at hh;obtain⟨⟨he,hc⟩,h0⟩:=hh
     rcases open_slice ht h with⟨rfl,_⟩|⟨a,len,cap,m,n,D,Pl,rfl,hb,hl,hm,hmm,_,hi⟩
     . exact⟨[],none,0,rfl,by simp,fun _=>⟨rfl,rfl⟩,fun h=>absurd rfl h⟩
     . rw[hc]at hi;have hall:∀k,k<len->∃x:e.den,∃es,es.length=e.size/\Is W e es x/\∀j,j<e.size->W.cell? (a.add (k*e.size+j))=es[j]?:=fun k hk=>by
         have hkm:k<m:=by rw[hmm];split <;> omega
         obtain⟨cs',hcs,ht'⟩:=hi k hkm;obtain⟨d,hd⟩:=read e he ht';obtain⟨_,hlen,hcell⟩:=World.cells?_some hcs;refine⟨d,cs',hlen,hd,fun j hj=>?_⟩;rw[<- hcell j hj,Go.Deep.add_add]
       obtain⟨l,hlen,hl'⟩:=zd len hall;refine⟨l,some a,cap,by rw[hlen],by omega,fun h=>by simp at h,fun hne=>?_⟩;have hpos:0<len:=by rw[<- hlen];exact bl0.2 hne
       obtain⟨x0,es0,hes,_,hc0⟩:=hall 0 hpos;have hc00:=hc0 0 h0;have hsome:∃v,W.cell? a=some v:=by
         refine⟨es0[0]'(by omega),?_⟩;have:a.add (0*e.size+0)=a:=by simp[Addr.add]
         rw[this,Z0 (by omega)]at hc00;exact hc00
       obtain⟨v0,hv0⟩:=hsome;have hspot:a.spot=none:=by
         cases hs:a.spot with
         |none=>rfl
         |some s=>simp[World.cell?,hs]at hv0;split at hv0 <;> simp at hv0
       have hlt:a.block<W.heap.size:=by
         rcases aq0 a.block W.heap.size with h|h
         . exact h
         . simp[World.cell?,al0 h]at hv0
       obtain⟨b,o,s⟩:=a;simp only at hspot hlt;subst hspot;refine⟨b,o,rfl,hlt,fun k x hx=>?_⟩;obtain⟨es,h1,h2,h3⟩:=hl' k x hx;refine⟨es,h1,h2,fun j hj=>?_⟩;rw[<- h3 j hj];simp only[Addr.add];split
       . congr 2;omega
       . congr 2;omega
   . simp at hh
 | .emp,t,fuel,cs,x,hh,h=>by
   unfold has at hh;split at hh
   . rename_i fs ht;simp only[Y1,decide_eq_true_eq]at hh;obtain⟨_,_,_,_,hlen,_⟩:=DataW.trod_struct ht h;exact⟨(),Z4.1 (by omega)⟩
   . simp at hh
 | .cons a r,t,fuel,cs,x,hh,h=>by
   unfold has at hh;split at hh
   . rename_i fs ht;simp only[Y1,decide_eq_true_eq]at hh;obtain⟨hh,hC⟩:=hh;split at hh
     . rename_i f fs' hfs;simp only[Y1,decide_eq_true_eq]at hh;obtain⟨⟨⟨h1,h2⟩,h3⟩,h4⟩:=hh;obtain⟨xs,n,_,_,hlen,hxl,hf⟩:=DataW.trod_struct ht h;have hsz:fs.size=fs'.length+1:=by rw[<- Y5,hfs];simp
       have hget:∀i,fs[i]?=(f::fs')[i]?:=fun i=>by rw[<- hfs,bA0]
       have t0:=hf 0 f (by rw[hget];rfl);rw[h1,h2,ab0,Z0 (by omega)]at t0;obtain⟨d0,hd0⟩:=read a h3 t0;obtain⟨d1,hd1⟩:=readAll a.size r fs' (cs:=cs.drop a.size) (all:=cs) h4 (by rw[W8];omega) (fun i g hg=>by
         have t1:=hf (i+1) g (by rw[hget];exact hg);have hi:i<fs'.length:=(V4.1 hg).1;rw[Z0 (by omega)]at t1;exact⟨n,_,t1⟩) rfl
       exact⟨(d0,d1),cs.take a.size,cs.drop a.size,(as0 _ _).symm,by rw[X4];omega,hd0,hd1⟩
     . simp at hh
   . simp at hh
theorem readAll:∀(o:Nat) (ty:Ty) (fs:List Field) {cs all:List Value},ty.hasAll P o fs=true->cs.length=ty.size ->
   (∀(i:Nat) (f:Field),fs[i]?=some f->∃n x,DataW.trod enc P W base spare held n f.type ((all.drop f.offset).take (P.cellsOf f.type))=some x)->cs=all.drop o->∃d:ty.den,Is W ty cs d
 |o,.emp,[],cs,all,hh,hl,hf,hc=>⟨(),Z4.1 hl⟩
 | o,.cons a r,f :: fs,cs,all,hh,hl,hf,hc=>by
   unfold hasAll at hh;simp only[Y1,decide_eq_true_eq]at hh;obtain⟨⟨⟨h1,h2⟩,h3⟩,h4⟩:=hh;obtain⟨n,x,t0⟩:=hf 0 f rfl;rw[h1,h2,<- hc]at t0;obtain⟨d0,hd0⟩:=read a h3 t0;have hl':cs.length=a.size+r.size:=hl;obtain⟨d1,hd1⟩:=readAll (o+a.size) r fs (cs:=cs.drop a.size) (all:=all) h4 (by simp;omega) (fun i g hg=>hf (i+1) g hg) (by rw[hc,dw0]);exact⟨(d0,d1),cs.take a.size,cs.drop a.size,by simp,by simp;omega,hd0,hd1⟩
 |_,.int _,_,_,_,hh,_,_,_=>by simp[hasAll]at hh
 |_,.bool,_,_,_,hh,_,_,_=>by simp[hasAll]at hh
 |_,.str,_,_,_,hh,_,_,_=>by simp[hasAll]at hh
 |_,.sl _,_,_,_,hh,_,_,_=>by simp[hasAll]at hh
 |_,.emp,_::_,_,_,hh,_,_,_=>by simp[hasAll]at hh
 |_,.cons _ _,[],_,_,hh,_,_,_=>by simp[hasAll]at hh
end
end
section
variable {H:Type}{enc:TypeId×Value->H}{P:Program}{W:World}{base b:Nat}{spare:Nat->Bool}{held:Bool}{r:Reach}{t:TypeId}{v:Value}{d:DataW H}{p:List MemPlace}
end
abbrev pair:Ty:=.cons (.int .i64) (.cons (.int .i64) .emp)
end Ty
def IsInts(w:World)(v:Value)(l:List Int):Prop :=
 ∃ad cap,(v=.slice ad l.length cap)/\l.length<=9223372036854775807/\(∀k,fE (l.getD k 0))/\(l.length≠0->∃b o,ad=some ⟨b,o,none⟩/\b<w.heap.size/\∀k,k<l.length->w.cell? ⟨b,o+k,none⟩=some (.int .i64 (l.getD k 0)))
theorem IsInts.of{W:World}{v:Value}{l:List Int}(h:Ty.Is W (.sl (.int .i64)) [v] l):IsInts W v l:=by
 simp only[Ty.Is]at h;obtain⟨ad,cap,h1,h2,h3,h4⟩:=h;simp at h1;have hg:∀k,k<l.length->∃b o,ad=some ⟨b,o,none⟩/\b<W.heap.size/\W.cell? ⟨b,o+k,none⟩=some (.int .i64 (l.getD k 0))/\fE (l.getD k 0):=fun k hk=>by
   obtain⟨b,o,rfl,hb,hc⟩:=h4 (by intro e;rw[e]at hk;simp at hk);obtain⟨es,hl,⟨rfl,w1⟩,hj⟩:=hc k l[k] (Z0 hk);have j0:=hj 0 (by decide);refine⟨b,o,rfl,hb,?_,?_⟩
   . simpa[Ty.size,ag0,Z0 hk]using j0
   . simpa[ag0,Z0 hk]using uY w1
 refine⟨ad,cap,h1,by unfold maxLen at h2;omega,fun k=>?_,fun h0=>?_⟩
 . rcases aq0 k l.length with hk|hk
   . obtain⟨_,_,_,_,_,h⟩:=hg k hk;exact h
   . simp only[ag0,ai0 hk];exact⟨by simp,by simp⟩
 . obtain⟨b,o,rfl,hb,_⟩:=hg 0 (by omega);refine⟨b,o,rfl,hb,fun k hk=>?_⟩;obtain⟨b',o',e,_,h,_⟩:=hg k hk;simp at e;obtain⟨rfl,rfl⟩:=e;exact h
def IsPairs(w:World)(v:Value)(a:List (Int×Int)):Prop :=
 ∃ ad cap,(v = .slice ad a.length cap)/\a.length<=9223372036854775807/\(∀ k,fE (a.getD k (0,0)).1/\fE (a.getD k (0,0)).2)/\(a.length≠0->∃ b o,ad=some ⟨b,o,none⟩/\b < w.heap.size/\∀ k,k < a.length ->
   w.cell? ⟨b,o+k*2,none⟩=some (.int .i64 (a.getD k (0,0)).1)/\w.cell? ⟨b,o+k*2+1,none⟩=some (.int .i64 (a.getD k (0,0)).2))
theorem IsPairs.of{W:World}{v:Value}{l:List (Ty.den Ty.pair)}(h:Ty.Is W (.sl Ty.pair) [v] l):IsPairs W v (l.map fun x=>(x.1,x.2.1)):=by
 simp only[Ty.Is]at h;obtain⟨ad,cap,h1,h2,h3,h4⟩:=h;simp at h1;have hz:fE 0/\fE 0:=⟨⟨by omega,by omega⟩,⟨by omega,by omega⟩⟩;have hg:∀k,k<l.length->∃b o,ad=some ⟨b,o,none⟩/\b<W.heap.size/\W.cell? ⟨b,o+k*2,none⟩=some (.int .i64 ((l.map fun x=>(x.1,x.2.1)).getD k (0,0)).1) /\
     W.cell? ⟨b,o+k*2+1,none⟩=some (.int .i64 ((l.map fun x=>(x.1,x.2.1)).getD k (0,0)).2)/\fE ((l.map fun x=>(x.1,x.2.1)).getD k (0,0)).1/\fE ((l.map fun x=>(x.1,x.2.1)).getD k (0,0)).2:=fun k hk=>by
   obtain⟨b,o,rfl,hb,hc⟩:=h4 (by intro e;rw[e]at hk;simp at hk);obtain⟨es,hl,he,hj⟩:=hc k l[k] (Z0 hk);obtain⟨c1,c2,rfl,_,⟨rfl,w1⟩,c3,c4,rfl,_,⟨rfl,w2⟩,rfl⟩:=he;have j0:=hj 0 (by decide);have j1:=hj 1 (by decide);refine⟨b,o,rfl,hb,?_,?_,?_,?_⟩
   . simpa[Ty.size,ag0,Z0 hk]using j0
   . simpa[Ty.size,ag0,Z0 hk]using j1
   . simpa[ag0,Z0 hk]using uY w1
   . simpa[ag0,Z0 hk]using uY w2
 refine⟨ad,cap,by simpa using h1,by simp;unfold maxLen at h2;omega,fun k=>?_,fun h0=>?_⟩
 . rcases aq0 k l.length with hk|hk
   . obtain⟨_,_,_,_,_,_,h⟩:=hg k hk;exact h
   . simpa[ag0,ai0 (show (l.map fun x=>(x.1,x.2.1)).length<=k by simpa using hk)]using hz
 . simp at h0;obtain⟨b,o,rfl,hb,_⟩:=hg 0 (bl0.2 h0);refine⟨b,o,rfl,hb,fun k hk=>?_⟩;obtain⟨b',o',e,_,h,h',_⟩:=hg k (by simpa using hk);simp at e;obtain⟨rfl,rfl⟩:=e;exact⟨h,h'⟩
end
section
section
variable {α:Type}
def Sl(f:α->List Value)(k:Nat)(w:World)(v:Value)(l:List α):Prop :=
 ∃ad cap,(v=.slice ad l.length cap)/\l.length<=cap/\cap<=9223372036854775807/\(l.length≠0->∃b o,ad=some ⟨b,o,none⟩/\b<w.heap.size/\∀i x,l[i]?=some x->∀j,j<k->w.cell? ⟨b,o+i*k+j,none⟩=(f x)[j]?)
theorem Sl.open{f:α->List Value}{k:Nat}{w:World}{v:Value}{l:List α}(h:Sl f k w v l):∃ad cap,v=.slice ad l.length cap/\l.length<=cap/\cap<=9223372036854775807:=by
 obtain⟨ad,cap,h,h1,h2,_⟩:=h;exact⟨ad,cap,h,h1,h2⟩
theorem Sl.drop{f:α->List Value}{k:Nat}{w:World}{b o:Nat}{n cap:Nat}{l:List α}(h:Sl f k w (.slice (some ⟨b,o,none⟩) n cap) l)(m:Nat)(hm:m<=n):Sl f k w (.slice (some ⟨b,o+m*k,none⟩) (n-m) (cap-m)) (l.drop m):=by
 obtain⟨ad,cap',h0,h1,h2,hc⟩:=h;simp only[Value.slice.injEq]at h0;obtain⟨rfl,rfl,rfl⟩:=h0;refine⟨_,_,by rw[W8],by rw[W8];omega,by omega,fun h0=>?_⟩;rw[W8]at h0;obtain⟨b',o',e,hb,hc⟩:=hc (by omega);simp at e;obtain⟨rfl,rfl⟩:=e;refine⟨b,_,rfl,hb,fun i x hx j hj=>?_⟩;rw[bf0]at hx;have:=hc (m+i) x hx j hj;rw[cz0]at this;rw[<- this]
 congr 2
 omega
theorem Sl.take{f:α->List Value}{k:Nat}{w:World}{ad:Option Addr}{n cap:Nat}{l:List α}(h:Sl f k w (.slice ad n cap) l)(m c:Nat)(hm:m<=n)(hc:m<=c)(hc':c<=9223372036854775807):Sl f k w (.slice ad m c) (l.take m):=by
 obtain⟨ad',cap',h0,h1,h2,hc⟩:=h;simp only[Value.slice.injEq]at h0;obtain⟨rfl,rfl,rfl⟩:=h0;refine⟨_,_,by rw[X4,an0 hm],by rw[X4];omega,hc',fun h0=>?_⟩;rw[X4]at h0;obtain⟨b,o,rfl,hb,hc⟩:=hc (by omega);exact⟨b,o,rfl,hb,fun i x hx j hj=>hc i x (by rw[aM0]at hx;split at hx <;> simp_all) j hj⟩
def Own(e:TypeId)(f:α->List Value)(k:Nat)(B:Nat)(w:World)(v:Value)(l:List α):Prop:=w.ownsRow B e k v l.length (l.flatMap f)/\l.length<=9223372036854775807
theorem Own.base{e:TypeId}{f:α->List Value}{k B:Nat}{w:World}{v:Value}{l:List α}(h:Own e f k B w v l):∀x,v.ownBlock=some x->B<=x/\x<w.heap.size:=h.1.lt
theorem Own.snoc{e:TypeId}{f:α->List Value}{k B:Nat}{w:World}{v:Value}{l m:List α}{n:Nat}(h:w.ownsRow B e k v n (l.flatMap f++m.flatMap f))(hn:n=l.length+m.length)(hl:n<=9223372036854775807):Own e f k B w v (l++m):=by
 subst hn;exact⟨by simpa using h,by simpa using hl⟩
end
end
section
structure Past(S:List Nat)(w0:World) where
 w:World
 fr:Fr S w0 w
instance pastSome(S:List Nat)(w:World):Nonempty (Past S w):=⟨⟨w,Fr.refl S w⟩⟩
def Past.rest{S:List Nat}{w:World}(z:Past S w)(p:Addr):Option Value:=z.w.cell? p
theorem Past.or{S:List Nat}{w:World}(z:Past S w)(p:Addr)(hp:p.block∉S):z.w.cell? p=(w.cell? p).or (z.rest p):=by
 cases h:w.cell? p with
 |none=>rfl
 |some v=>rw[z.fr.cell (JH h) hp,h];rfl
@[go_sem] theorem Past.cell0 {w:World} (z:Past [] w) (p:Addr):z.w.cell? p=(w.cell? p).or (z.rest p):=z.or p (by simp)
@[go_sem] theorem Past.cell1 {x:Nat} {w:World} (z:Past [x] w) (b o:Nat) (t:Option Nat):z.w.cell? ⟨b,o,t⟩=if b=x then z.rest ⟨b,o,t⟩else (w.cell? ⟨b,o,t⟩).or (z.rest ⟨b,o,t⟩):=by
 split
 . rfl
 . exact z.or _ (by simpa)
@[go_sem] theorem Past.cell2 {x y:Nat} {w:World} (z:Past [x,y] w) (b o:Nat) (t:Option Nat):z.w.cell? ⟨b,o,t⟩=if b=x\/b=y then z.rest ⟨b,o,t⟩else (w.cell? ⟨b,o,t⟩).or (z.rest ⟨b,o,t⟩):=by
 split
 . rfl
 . exact z.or _ (by simp;omega)
section
variable {P:Program}{ops:Array Oper}{md:Region.Mode}{C:World->Prop}{T:Nat->Bool}{Q:Exit->Act->World->Prop}
def kd:Exit->Act->World->Prop:=fun _ _ _=>False
def qK(o:Oper):Bool:=match o.op with
 |.move _ |.assign _ |.pick .. |.build .. |.buildSlice .. |.load .. |.nilCheck _ |.binOp .. |.unOp .. |.convert .. |.sliceToArrayPointer .. |.makeInterface .. |.makeFunc .. |.slice .. |.fieldAddr .. |.field .. |.indexAddr .. |.index .. |.lookup .. |.typeAssert .. |.extract ..=>true
 |.call c=>match c.callee with|.builtin .len=>true|.builtin .cap=>true|_=>false
 |_=>false
theorem vm{s:Sem Value}{w w':World}{n:Next}(h:(do pure (Next.value (<- s)):Sem Next).run P w=.ok n w'):∃u,n=.value u:=by
 rw[Sem.run_bind]at h;cases hs:s.run P w with
 |ok u w1=>rw[hs]at h;simp[Result.andThen,Sem.run_pure]at h;exact⟨u,h.1.symm⟩
 |halt x w1=>rw[hs]at h;simp[Result.andThen]at h
theorem Gv{α:Type}{s:Sem α}{f:α->Value}{w w':World}{n:Next}(h:(do pure (Next.value (f (<- s))):Sem Next).run P w=.ok n w'):∃u,n=.value u:=by
 rw[Sem.run_bind]at h;cases hs:s.run P w with
 |ok u w1=>rw[hs]at h;simp[Result.andThen,Sem.run_pure]at h;exact⟨_,h.1.symm⟩
 |halt x w1=>rw[hs]at h;simp[Result.andThen]at h
def OnlyV(P:Program)(s:Sem Next):Prop:=∀w w' n,s.run P w=.ok n w'->∃u,n=.value u
theorem OnlyV.pure(u:Value):OnlyV P (Pure.pure (.value u)):=fun w w' n h=>by simp[Sem.run_pure]at h;exact⟨u,h.1.symm⟩
theorem OnlyV.bind{α:Type}{s:Sem α}{f:α->Sem Next}(h:∀x,OnlyV P (f x)):OnlyV P (s >>= f):=fun w w' n hr=>by
 rw[Sem.run_bind]at hr;cases hs:s.run P w with
 |ok u w1=>rw[hs]at hr;exact h u w1 w' n (by simpa[Result.andThen]using hr)
 |halt x w1=>rw[hs]at hr;simp[Result.andThen]at hr
theorem OnlyV.nilp:OnlyV P (runtimePanic .nilDeref):=fun w w' n h=>by
 have e : (runtimePanic .nilDeref : Sem Next).run P w = .halt (.panic (.iface P.rt.errorString (strVal "invalid memory address or nil pointer dereference"))) w := by
   simp[runtimePanic,goPanic,go_sem]
 rw[e]at h;cases h
theorem FN{ρ:Operand->Value}{o:Oper}{w w':World}{n:Next}(ho:qK o=true)(h:(execOp ρ o).run P w=.ok n w'):∃u,n=.value u:=by
 obtain⟨dst,op,type,pos,after,guard⟩:=o;cases op <;> simp only[qK,W7]at ho <;> simp only[execOp]at h
 case move x=>simp[Sem.run_pure]at h;exact⟨_,h.1.symm⟩
 case assign x=>simp[Sem.run_pure]at h;exact⟨_,h.1.symm⟩
 case call c =>
   obtain⟨cal,args,ats⟩:=c;cases cal with
   | builtin b =>
     cases b <;> simp only[W7]at ho
     . exact vm (s:=Builtin.cap_ ats type (args.map ρ)) h
     . exact vm (s:=Builtin.len_ ats type (args.map ρ)) h
   |_=>simp at ho
 case nilCheck x =>
   have key:∀s:Sem Next,OnlyV P s->s.run P w=.ok n w'->∃u,n=.value u:=fun s hs hr=>hs w w' n hr
   refine key _ ?_ h;split
   . exact OnlyV.nilp
   . exact OnlyV.nilp
   . exact OnlyV.nilp
   . split
     . exact OnlyV.nilp
     . refine OnlyV.bind (fun p=>OnlyV.bind (fun b=>?_));split
       . exact OnlyV.bind (fun _=>OnlyV.pure _)
       . exact OnlyV.pure _
     . exact OnlyV.pure _
   . exact OnlyV.pure _
 case pick c x y=>exact Gv (s:=asBool (ρ c)) (f:=fun b=>if b=true then ρ x else ρ y) h
 all_goals exact vm h
def FirmAt(P:Program)(ops:Array Oper)(C:World->Prop)(o:Oper)(v:Value)(a:Act):Prop :=
 (Region.wanted o (yielded ops a.tmps)=true/\∀w,C w->(execOp a.eval o).run P w=.ok (.value v) w) \/
 (Region.wanted o (yielded ops a.tmps)=false/\v=undef)
theorem FirmAt.of_same{o:Oper}{v:Value}{a a':Act}(hy:FirmAt P ops C o v a)(he:execOp a'.eval o=execOp a.eval o)
   (hw:Region.wanted o (yielded ops a'.tmps)=Region.wanted o (yielded ops a.tmps)):FirmAt P ops C o v a':=by
 unfold FirmAt at *;rw[he,hw];exact hy
def aG(r:Option Nat):Fence:={ Fence.wide with round:=r }
def cy(o:Oper):Bool:=match o.op with|.defer _=>false|_=>true
def aw(P:Program)(ops:Array Oper)(Q:Exit->Act->World->Prop):List Oper->Act->World->Prop
 |[],a,w=>Q .normal a w
 |o::rest,a,w=>if Region.wanted o (yielded ops a.tmps)then o.wp P a w (aw P ops Q rest) Q else aw P ops Q rest (a.put o.dst undef) w
theorem Gc{P:Program}{ops:Array Oper}{Q:Exit->Act->World->Prop}{a:Act}{w:World}{rest:List Oper}{o:Oper}(hg:o.guard=none)
   (h:∀K:Act->World->Prop,(∀a w,aw P ops Q rest a w->K a w)->o.wp P a w K Q):aw P ops Q (o::rest) a w:=by
 unfold aw;rw[if_pos (by simp[Region.wanted,hg])];exact h _ (fun _ _ h=>h)
theorem Hi{P:Program}{ops:Array Oper}{Q:Exit->Act->World->Prop}{a:Act}{w:World}{rest:List Oper}{o:Oper}(hw:Region.wanted o (yielded ops a.tmps)=false)(h:aw P ops Q rest (a.put o.dst undef) w):aw P ops Q (o::rest) a w:=by
 unfold aw;rw[if_neg (by simp[hw])];exact h
theorem yq{r:Option Nat}{ρ:Operand->Value}{o:Oper}(hd:cy o=true):o.semAt r ρ=execOp ρ o:=by
 have h:∀c,o.op≠.defer c:=fun c e=>by unfold cy at hd;rw[e]at hd;cases hd
 cases r with
 |none=>exact Oper.semAt_none ρ o
 |some l=>exact Oper.semAt_some l ρ o h
theorem G5{r:Option Nat}{n:Nat}{P:Program}{row:String}{args:Array Value}{w:World}{R:Value->World->Prop}(h:Rows P row args w R):RowsIn (aG r) n P row args w R :=
 fun c cs _=>let ⟨v,w',x,s⟩:=h c cs;⟨v,w',x,stepsIn_wide.2 s⟩
theorem p9{r:Option Nat}{n:Nat}{P:Program}{o:Oper}{a:Act}{w:World}{K:Act->World->Prop}{Q:Exit->Act->World->Prop}(hd:cy o=true)(h:o.wp P a w K Q):o.wpIn (aG r) n P a w K Q:=by
 refine⟨fun _ _=>trivial,?_⟩;rw[show o.semAt (aG r).round a.eval=execOp a.eval o from yq hd];unfold Oper.wp at h;generalize (execOp a.eval o).run P w=x at h ⊢;cases x with
 | ok nx w' =>
   cases nx with
   |value v=>exact h
   |skip=>exact h
   |defer d=>exact h
   |enter f args=>exact⟨fun hh=>by simp[aG,Fence.wide]at hh,(callsIn_wide (n:=n-1)).2 h⟩
   |row row args=>exact⟨fun hh=>by simp[aG,Fence.wide]at hh,G5 h⟩
   |_=>exact h.elim
 | halt x w' =>
   cases x with
   |panic v=>exact h
   |_=>exact h.elim
theorem jG{r:Option Nat}{n:Nat}{P:Program}{ops:Array Oper}{Q:Exit->Act->World->Prop}:∀{l:List Oper} {a:Act} {w:World},l.all cy=true->aw P ops Q l a w->wpListIn (aG r) n P ops Q l a w
 |[],a,w,_,h=>h
 | o :: l,a,w,hd,h=>by
   simp only[dg0,Y1]at hd;unfold aw at h;unfold wpListIn;split
   . rename_i hw;rw[if_pos hw]at h;exact Oper.wpIn_mono (fun a w h=>jG hd.2 h) (p9 hd.1 h)
   . rename_i hw;rw[if_neg hw]at h;exact⟨fun _ _=>trivial,jG hd.2 h⟩
def mixOp(P:Program)(ops:Array Oper)(C:World->Prop)(T:Nat->Bool)(Q:Exit->Act->World->Prop)(i:Nat)(K:Act->World->Prop)(a:Act)(w:World):Prop :=
 match ops[i]? with
 |none=>K a w
 |some o=>if Region.wanted o (yielded ops a.tmps)then (if T i then o.wp P a w K Q else o.wp P a w (fun a' w'=>C w'/\K a' w') kd)else K (a.put o.dst undef) w
theorem Hr {o:Oper} {a:Act} {w:World} {K:Act->World->Prop} (h:o.wp P a w K kd):o.wp P a w K Q:=by
 unfold Oper.wp at *;generalize (execOp a.eval o).run P w=r at *;cases r with
 | ok n w' =>
   cases n <;> simp only[Oper.upon]at h ⊢ <;>
     first
       |exact h
       |exact Calls.mono h (fun e w'' he=>by
           cases e
           . exact he
           . exact he.elim
           . obtain⟨_,_,hf⟩:=he;exact hf.elim)
 |halt x w'=>cases x <;> simp only[Oper.upon]at h ⊢ <;> first |exact h.elim|exact h
theorem zA{i:Nat}{a:Act}{w:World}{K K':Act->World->Prop}(h:∀a w,K a w->K' a w)(hh:mixOp P ops C T Q i K a w):mixOp P ops C T Q i K' a w:=by
 unfold mixOp at *;split
 . exact h _ _ (by simpa[*]using hh)
 . rename_i o ho;simp only[ho]at hh;split
   . rename_i hw;simp only[hw,if_true]at hh;split
     . rename_i ht;simp only[ht,if_true]at hh;exact Oper.wp_mono h hh
     . rename_i ht;simp only[ht]at hh;exact Oper.wp_mono (fun a w k=>⟨k.1,h a w k.2⟩) hh
   . rename_i hw;simp only[hw]at hh;exact h _ _ hh
def cJ(P:Program)(md:Region.Mode)(ops:Array Oper)(C:World->Prop)(T:Nat->Bool)(Q:Exit->Act->World->Prop):Nat->Array Bool->Act->World->Prop
 |0,listed,a,w=>Region.ready md ops listed=[]/\Q .normal a w
 | fuel + 1,listed,a,w =>
   (Region.ready md ops listed=[]->Q .normal a w) /\
   ∀i∈Region.ready md ops listed,mixOp P ops C T Q i (cJ P md ops C T Q fuel (listed.setIfInBounds i true)) a w
theorem ur{r:Option Nat}{n:Nat}(hd:∀(i:Nat) o,ops[i]?=some o->cy o=true):∀(fuel:Nat) (listed:Array Bool) (a:Act) (w:World),cJ P md ops C T Q fuel listed a w->wpAnyIn (aG r) n P md ops Q fuel listed a w
 |0,_,_,_,h=>h
 |fuel+1,_,_,_,h=>⟨h.1,fun i hi=>by
     have h1:=zA (fun a w k=>ur (r:=r) (n:=n) hd fuel _ a w k) (h.2 i hi);unfold mixOp at h1;unfold wpOpIn;split
     . rename_i ho;simpa[ho]using h1
     . rename_i o ho;simp only[ho]at h1;split
       . rename_i hw;simp only[hw,if_true]at h1;split at h1
         . exact p9 (hd _ _ ho) h1
         . exact p9 (hd _ _ ho) (Hr (Oper.wp_mono (fun a w k=>k.2) h1))
       . rename_i hw;exact⟨fun _ _=>trivial,by simpa[hw]using h1⟩⟩
theorem BG{l:List Oper}(h:l.all cy=true):∀(i:Nat) o,l.toArray[i]?=some o->cy o=true:=fun i o ho=>aF0.1 h o (cf0 (by simpa using ho))
theorem FirmAt.mixOp{i:Nat}{o:Oper}{v:Value}{a:Act}{w:World}(hi:ops[i]?=some o)(hT:T i=false)(hC:C w)(hy:FirmAt P ops C o v a){K:Act->World->Prop}(h:K (a.put o.dst v) w):mixOp P ops C T Q i K a w:=by
 unfold Go.Proofs.YtpnmnbfbcgkcjaaGreatDoor.mixOp;simp only[hi]
 rcases hy with⟨hw,hv⟩|⟨hw,rfl⟩
 . simp only[hw,if_true,hT,W7,if_false,Oper.wp,hv w hC,Oper.upon];exact⟨hC,h⟩
 . simp only[hw,W7,if_false];exact h
theorem GZ{j:Nat}{oi oj:Oper}{v:Value}(hj:ops[j]?=some oj)(hT:T j=false)(hap:oi.apart ops oj=true)
   (hsi:∀cs b,oi.op≠.select cs b) (hsj:∀cs b,oj.op≠.select cs b) {K:Act->World->Prop} {a:Act} {w:World} (hC:C w)
   (hy:FirmAt P ops C oi v a) (h:mixOp P ops C T Q j K (a.put oi.dst v) w) :
   mixOp P ops C T Q j (fun a' w'=>FirmAt P ops C oi v a'/\C w'/\K (a'.put oi.dst v) w') a w:=by
 obtain⟨h1,h2,h3⟩:=Oper.apart_spec hap;have keep:∀(a:Act),FirmAt P ops C oi v a->∀u,FirmAt P ops C oi v (a.put oj.dst u):=fun a hy u =>
   hy.of_same (execOp_put oi hsi a oj.dst u h3) (wanted_put oi a oj.dst u h3)
 have keepD:∀d,FirmAt P ops C oi v { a with defers:=d::a.defers }:=fun d=>hy.of_same rfl rfl
 unfold mixOp at *;simp only[hj,hT,W7,if_false]at *;rw[wanted_put oj a oi.dst v h1]at h;split
 . rename_i hw;simp only[hw,if_true]at h;unfold Oper.wp at *;rw[execOp_put oj hsj a oi.dst v h1]at h;generalize (execOp a.eval oj).run P w=r at *;cases r with
   | ok n w' =>
     cases n <;> simp only[Oper.upon]at h ⊢
     case value u=>exact⟨h.1,keep a hy u,h.1,by rw[<- Act.put_comm a v u h2];exact h.2⟩
     case skip=>exact⟨h.1,keep a hy _,h.1,by rw[<- Act.put_comm a v undef h2];exact h.2⟩
     case defer d =>
       refine⟨h.1,keep _ (keepD d) _,h.1,?_⟩;rw[<- Act.put_comm _ v undef h2,<- Act.put_defers];exact h.2
     case enter f args =>
       refine Calls.mono h fun e w'' he=>?_
       cases e with
       |returned u=>exact⟨he.1,keep a hy u,he.1,by rw[<- Act.put_comm a v u h2];exact he.2⟩
       |panicked c=>exact he.elim
       |outgrown=>exact he
     case row row args=>exact Rows.mono h fun u w'' he=>⟨he.1,keep a hy u,he.1,by rw[<- Act.put_comm a v u h2];exact he.2⟩
   | halt x w' =>
     cases x <;> simp only[Oper.upon]at h ⊢
     case panic u=>exact h.elim
 . rename_i hw;simp only[hw]at h;exact⟨keep a hy _,hC,by rw[<- Act.put_comm a v undef h2];exact h⟩
def cu(md:Region.Mode)(ops:Array Oper)(listed:Array Bool):Prop:=∀j o,ops[j]?=some o->listed.getD j false=true->∀e∈o.after,Region.binds md e=true->listed.getD e.on false=true
def Ps(md:Region.Mode)(ops:Array Oper):Nat->Nat->Nat->Bool
 |0,_,_=>false
 | n + 1,j,i=>match ops[j]? with
   | some o=>o.after.any fun e=>Region.binds md e&&(e.on==i||Ps md ops n e.on i)
   |none=>false
def sa(md:Region.Mode):List Edge->Nat->Nat
 |[],m=>m
 | e::r,m=>sa md r (if Region.binds md e then m ||| (1 <<< e.on)else m)
def wgo(md:Region.Mode)(ops:Array Oper):Nat->Nat->Nat
 |0,m=>m
 |t+1,m=>wgo md ops t (if m.testBit t then (match ops[t]? with|some o=>sa md o.after.toList m|none=>m)else m)
def rL(md:Region.Mode)(ops:Array Oper)(j i:Nat):Bool:=(wgo md ops ops.size (1 <<< j)).testBit i&&!Y3 i j
theorem zg(a k:Nat):(1 <<< a).testBit k=decide (a=k):=by
 rw[Nat.one_shiftLeft,dA0]
theorem AM{md:Region.Mode}{p:Nat->Prop}:∀(l:List Edge) {m:Nat},(∀e∈l,Region.binds md e=true->p e.on)->(∀k,m.testBit k=true->p k)->∀k,(sa md l m).testBit k=true->p k
 |[],m,_,hm=>hm
 | e :: r,m,hl,hm=>by
   unfold sa;refine AM r (fun e' he'=>hl e' (W5 _ he')) (fun k hk=>?_);split at hk
   . rename_i hb;rw[dV0,bw0,zg]at hk
     rcases hk with hk|hk
     . exact hm k hk
     . have:e.on=k:=by simpa using hk
       rw[<- this];exact hl e aL0 hb
   . exact hm k hk
theorem Dd{md:Region.Mode}{ops:Array Oper}{p:Nat->Prop}(hp:∀t o,p t->ops[t]?=some o->∀e∈o.after.toList,Region.binds md e=true->p e.on):∀(t:Nat) {m:Nat},(∀k,m.testBit k=true->p k)->∀k,(wgo md ops t m).testBit k=true->p k
 |0,m,hm=>hm
 | t + 1,m,hm=>by
   unfold wgo;refine Dd hp t (fun k hk=>?_);split at hk
   . rename_i hb;split at hk
     . rename_i o ho;exact AM _ (hp t o (hm t hb) ho) hm k hk
     . exact hm k hk
   . exact hm k hk
theorem Fj{md:Region.Mode}{ops:Array Oper}{listed:Array Bool}(hS:cu md ops listed){i j:Nat}(h:rL md ops j i=true)(hj:∀o,ops[j]?=some o->∀e∈o.after,Region.binds md e=true->listed.getD e.on false=true):listed.getD i false=true:=by
 unfold rL at h;rw[Y1]at h;have key:=Dd (md:=md) (ops:=ops) (p:=fun k=>k=j\/listed.getD k false=true) (fun t o ht ho e he hb=>by
   rcases ht with rfl|ht
   . exact .inr (hj o ho e (by simpa using he) hb)
   . exact .inr (hS t o ho ht e (by simpa using he) hb)) ops.size (m:=1 <<< j) (fun k hk=>by rw[zg]at hk;exact .inl ((by simpa using hk:j=k).symm)) i h.1
 rcases key with rfl|hk
 . have:=h.2;rw[bY0]at this;cases this
 . exact hk
theorem gg{listed:Array Bool}{j:Nat}(hS:cu md ops listed)(hj:j∈Region.ready md ops listed):cu md ops (listed.setIfInBounds j true):=by
 obtain⟨_,oj,hoj,hall⟩:=mem_ready.1 hj;intro k o hk hl e he hb;by_cases hkj:j=k
 . subst hkj;rw[hoj]at hk;obtain rfl:=ap0 hk;exact getD_set_true (hall e he hb)
 . rw[getD_set_ne false hkj]at hl;exact getD_set_true (hS k o hk hl e he hb)
theorem AP{listed:Array Bool}{i:Nat}(h:i∈Region.ready md ops listed):listed.getD i false=true->False:=by
 have h0:=(mem_ready.1 h).1;intro h1
 rcases aq0 i listed.size with h'|h'
 . simp[h']at h0 h1;rw[h0]at h1;cases h1
 . simp[al0 h']at h1
theorem FI{i:Nat}{oi:Oper}{v:Value}(hi:ops[i]?=some oi)(hTi:T i=false)(hsel:∀(j:Nat) (o:Oper) cs b,ops[j]?=some o->o.op≠.select cs b)
   (hwait:∀j,T j=true->rL md ops j i=true) :
   ∀ (fuel:Nat) (listed:Array Bool) (a:Act) (w:World),C w->cu md ops listed ->
     (∀j oj,ops[j]?=some oj->j≠i->listed.getD j true=false->(∀e∈oj.after,Region.binds md e=true->e.on≠i)->oi.apart ops oj=true) ->
     i∈Region.ready md ops listed->FirmAt P ops C oi v a ->
     cJ P md ops C T Q fuel (listed.setIfInBounds i true) (a.put oi.dst v) w->cJ P md ops C T Q (fuel+1) listed a w:=by
 intro fuel
 induction fuel with
 | zero =>
   intro listed a w hC hS _ hr hy H;refine⟨fun h=>(by rw[h]at hr;cases hr),fun j hj=>?_⟩;by_cases hji:j=i
   . subst hji;exact hy.mixOp hi hTi hC H
   . have:=ready_mono hj hji;rw[H.1]at this;cases this
 | succ fuel ih =>
   intro listed a w hC hS hfree hr hy H;refine⟨fun h=>(by rw[h]at hr;cases hr),fun j hj=>?_⟩;by_cases hji:j=i
   . subst hji;exact hy.mixOp hi hTi hC H
   . have h1:=H.2 j (ready_mono hj hji);obtain⟨hjun,oj,hoj,hall⟩:=mem_ready.1 hj;have hTj:T j=false:=by
       cases ht:T j with
       |false=>rfl
       |true=>exact (AP hr (Fj hS (hwait j ht) (fun o ho=>by rw[hoj]at ho;obtain rfl:=ap0 ho;exact hall))).elim
     have hnot:∀e∈oj.after,Region.binds md e=true->e.on≠i:=fun e he hb heq=>AP hr (heq ▸ hall e he hb)
     have h2:=GZ hoj hTj (hfree j oj hoj hji hjun hnot) (fun cs b=>hsel i oi cs b hi) (fun cs b=>hsel j oj cs b hoj) hC hy h1;have hfree':∀k ok,ops[k]?=some ok->k≠i->(listed.setIfInBounds j true).getD k true=false ->
         (∀e∈ok.after,Region.binds md e=true->e.on≠i)->oi.apart ops ok=true:=fun k ok hk hki hun hno=>by
       refine hfree k ok hk hki ?_ hno;by_cases hjk:j=k
       . subst hjk;exact hjun
       . rw[getD_set_ne true hjk]at hun;exact hun
     refine zA (fun a' w' h3=>ih (listed.setIfInBounds j true) a' w' h3.2.1 (gg hS hj) hfree' (ready_mono hr (dz0 hji)) h3.1 ?_) h2;rw[Array.setIfInBounds_comm _ _ hji];exact h3.2.2
def cF(md:Region.Mode)(ops:Array Oper)(tail:List Nat):List Nat->Array Bool->Option (Array Bool)
 |[],l=>some l
 |i::r,l=>if (Region.ready md ops l).contains i&&Region.free md ops l i&&!tail.contains i&&tail.all (fun j=>rL md ops j i)&&((ops[i]?).map qK).getD false then cF md ops tail r (l.setIfInBounds i true)else none
def iD(md:Region.Mode)(ops:Array Oper)(tail:List Nat):List (List Nat×Nat)->Array Bool->Option (Array Bool)
 |[],l=>some l
 | (s,k) :: r,l=>match cF md ops tail s l with
   |some l'=>if Region.ready md ops l'==[k]&&!tail.contains k then iD md ops tail r (l'.setIfInBounds k true)else none
   |none=>none
def j4(md:Region.Mode)(ops:Array Oper)(tail:List Nat):List Nat->Array Bool->Bool
 |[],l=>(Region.ready md ops l).isEmpty
 |t::r,l=>Region.ready md ops l==[t]&&tail.contains t&&j4 md ops tail r (l.setIfInBounds t true)
def nI(md:Region.Mode)(ops:Array Oper)(plan:List (List Nat×Nat))(fin tail:List Nat):Bool :=
 Region.noSelect ops&&(plan.map (fun p=>p.1.length+1)).sum+fin.length+tail.length==ops.size&&match iD md ops tail plan (bz0 ops.size false)with
   | some l=>match cF md ops tail fin l with
     |some l'=>j4 md ops tail tail l'
     |none=>false
   |none=>false
def bq(l:List Oper):List Nat->List Oper
 |[]=>[]
 |i::r=>match l[i]? with|some o=>o::bq l r|none=>bq l r
def eL(l:List Oper):List (List Nat×Nat)->List (List Oper×Oper)
 |[]=>[]
 |(s,k)::r=>match l[k]? with|some o=>(bq l s,o)::eL l r|none=>eL l r
theorem uV{l:List Oper}{i:Nat}{o:Oper}{r:List Nat}(h:l[i]?=some o):bq l (i::r)=o::bq l r:=by simp[bq,h]
theorem zX{l:List Oper}{s:List Nat}{k:Nat}{o:Oper}{r:List (List Nat×Nat)}(h:l[k]?=some o):eL l ((s,k)::r)=(bq l s,o)::eL l r:=by simp[eL,h]
def dh(P:Program)(ops:Array Oper)(C:World->Prop)(o:Oper)(K:Act->World->Prop)(a:Act)(w:World):Prop :=
 if Region.wanted o (yielded ops a.tmps)then o.wp P a w (fun a' w'=>C w'/\K a' w') kd else K (a.put o.dst undef) w
def dL(P:Program)(ops:Array Oper)(C:World->Prop)(F:Act->World->Prop):List (List Oper×Oper)->Act->World->Prop
 |[],a,w=>F a w
 |(s,o)::r,a,w=>wpQuiet P ops C (fun a'=>dh P ops C o (dL P ops C F r) a' w) s a
theorem Fl{o:Oper}{a:Act}{K:Act->Prop}(ho:qK o=true)(hne:∃w,C w)(h:if Region.wanted o (yielded ops a.tmps)then o.quiet P a C K else K (a.put o.dst undef)):∃v,FirmAt P ops C o v a/\K (a.put o.dst v):=by
 by_cases hw:Region.wanted o (yielded ops a.tmps)=true
 . simp only[hw,if_true]at h;obtain⟨v,h1,h2⟩:=h;refine⟨v,.inl ⟨hw,fun w hC=>?_⟩,h2⟩;have h3:=h1 w hC;unfold Oper.quietAt at h3;cases hr:(execOp a.eval o).run P w with
   | ok n w' =>
     obtain⟨u,rfl⟩:=FN ho hr;rw[hr]at h3;obtain⟨rfl,rfl⟩:=h3;rfl
   |halt x w'=>rw[hr]at h3;exact h3.elim
 . simp only[hw]at h;exact⟨undef,.inr ⟨by simpa using hw,rfl⟩,h⟩
theorem jN{l:List Oper}{tail:List Nat}(hs:Region.noSelect l.toArray=true):∀(s:List Nat) (k:Nat) (listed listed':Array Bool) (a:Act) (w:World) (K:Act->Prop),cF md l.toArray tail s listed=some listed'->C w->cu md l.toArray listed ->
   (∀a',K a'->cJ P md l.toArray C (tail.contains ·) Q k listed' a' w)->wpQuiet P l.toArray C K (bq l s) a->(cu md l.toArray listed'/\cJ P md l.toArray C (tail.contains ·) Q (k+s.length) listed a w)
 |[],k,listed,listed',a,w,K,hm,hC,hS,hK,h=>by
     simp only[cF,Z3]at hm;subst hm;exact⟨hS,hK a h⟩
 | i :: s,k,listed,listed',a,w,K,hm,hC,hS,hK,h=>by
     simp only[cF]at hm;split at hm
     case isFalse=>cases hm
     case isTrue hb =>
       simp only[Y1,bN0,aF0]at hb;obtain⟨⟨⟨⟨hr,hf⟩,ht⟩,hw⟩,hp⟩:=hb;have hmem:i∈Region.ready md l.toArray listed:=by simpa using hr
       obtain⟨_,oi,ho,_⟩:=mem_ready.1 hmem;rw[ho]at hp;have ho':l[i]?=some oi:=by simpa using ho
       rw[uV ho']at h;obtain⟨v,hy,hn⟩:=Fl (by simpa using hp) ⟨w,hC⟩ h;have h1:=jN hs s k (listed.setIfInBounds i true) listed' (a.put oi.dst v) w K hm hC (gg hS hmem) hK hn;refine⟨h1.1,?_⟩;have h2:=FI (T:=(tail.contains ·)) (Q:=Q) ho ht (Region.noSelect_spec hs) (fun j hj=>hw j (by simpa using hj)) (k+s.length) listed a w hC hS (Region.free_spec ho hf) hmem hy h1.2;simpa[aG0]using h2
theorem Hy{l:List Oper}{tail:List Nat}{k fuel:Nat}{o:Oper}{listed:Array Bool}{a:Act}{w:World}(hr:Region.ready md l.toArray listed=[k])(ho:l[k]?=some o)(ht:tail.contains k=false)
   (h:dh P l.toArray C o (cJ P md l.toArray C (tail.contains ·) Q fuel (listed.setIfInBounds k true)) a w):cJ P md l.toArray C (tail.contains ·) Q (fuel+1) listed a w:=by
 refine⟨fun h0=>by rw[hr]at h0;simp at h0,fun i hi=>?_⟩;rw[hr]at hi;obtain rfl:=Y2.1 hi;unfold mixOp;have ho':l.toArray[i]?=some o:=by simpa using ho
 simp only[ho',ht,W7,if_false];exact h
theorem vB{l:List Oper}{tail:List Nat}:∀(r:List Nat) (listed:Array Bool) (a:Act) (w:World),j4 md l.toArray tail r listed=true->aw P l.toArray Q (bq l r) a w->cJ P md l.toArray C (tail.contains ·) Q r.length listed a w
 |[],listed,a,w,hm,h=>⟨by simpa[j4]using hm,h⟩
 | t :: r,listed,a,w,hm,h=>by
     simp only[j4,Y1,beq_iff_eq]at hm;obtain⟨⟨hr,ht⟩,hm⟩:=hm;have hmem:t∈Region.ready md l.toArray listed:=by rw[hr];simp
     obtain⟨_,o,ho,_⟩:=mem_ready.1 hmem;have ho':l[t]?=some o:=by simpa using ho
     rw[uV ho']at h;have ih:=fun a w=>vB r (listed.setIfInBounds t true) a w hm
     refine⟨fun h0=>by rw[hr]at h0;simp at h0,fun i hi=>?_⟩;rw[hr]at hi;obtain rfl:=Y2.1 hi;unfold mixOp;simp only[ho,ht,if_true];unfold aw at h;split
     . rename_i hw;simp only[hw,if_true]at h;exact Oper.wp_mono ih h
     . rename_i hw;simp only[hw]at h;exact ih _ _ h
theorem vP {l:List Oper} {tail:List Nat} {F:Act->World->Prop} (hs:Region.noSelect l.toArray=true):∀ (plan:List (List Nat×Nat)) (k:Nat) (listed listed':Array Bool) (a:Act) (w:World),iD md l.toArray tail plan listed=some listed'->C w->cu md l.toArray listed ->
   (∀a' w',C w'->cu md l.toArray listed'->F a' w'->cJ P md l.toArray C (tail.contains ·) Q k listed' a' w')->dL P l.toArray C F (eL l plan) a w->cJ P md l.toArray C (tail.contains ·) Q (k+(plan.map (fun p=>p.1.length+1)).sum) listed a w
 |[],k,listed,listed',a,w,hm,hC,hS,hK,h=>by
     simp only[iD,Z3]at hm;subst hm;exact hK a w hC hS h
 | (s, i) :: r, k, listed, listed', a, w, hm, hC, hS, hK, h => by
     simp only[iD]at hm;split at hm
     case h_2=>cases hm
     case h_1 l1 h1 =>
       split at hm
       case isFalse=>cases hm
       case isTrue hb =>
         simp only[Y1,beq_iff_eq,bN0]at hb;have hmem:i∈Region.ready md l.toArray l1:=by rw[hb.1];simp
         obtain⟨_,o,ho,_⟩:=mem_ready.1 hmem;have ho':l[i]?=some o:=by simpa using ho
         rw[zX ho']at h;have hS1:cu md l.toArray l1:=(jN (P:=P) (Q:=kd) (md:=md) (tail:=tail) (C:=C) hs s 0 listed l1 a w (fun _=>False) h1 hC hS (fun _ h=>h.elim)) |> fun f=>by
           have:∀(s:List Nat) (listed l1:Array Bool),cF md l.toArray tail s listed=some l1->cu md l.toArray listed->cu md l.toArray l1:=by
             intro s
             induction s with
             |nil=>intro a b h1 h2;simp only[cF,Z3]at h1;subst h1;exact h2
             | cons i s ih =>
               intro a b h1 h2;simp only[cF]at h1;split at h1
               case isFalse=>cases h1
               case isTrue hb =>
                 simp only[Y1]at hb;exact ih _ _ h1 (gg h2 (by simpa using hb.1.1.1.1))
           exact this s listed l1 h1 hS
         have h2:=(jN (P:=P) (Q:=Q) (md:=md) (tail:=tail) (C:=C) hs s (k+(r.map (fun p=>p.1.length+1)).sum+1) listed l1 a w _ h1 hC hS (fun a' hk=>by
           refine Hy hb.1 ho' hb.2 ?_;unfold dh at *;split
           . rename_i hw;simp only[hw,if_true]at hk;exact Oper.wp_mono (fun a2 w2 hk2=>⟨hk2.1,vP hs r k (l1.setIfInBounds i true) listed' a2 w2 hm hk2.1 (gg hS1 hmem) hK hk2.2⟩) hk
           . rename_i hw;simp only[hw]at hk;exact vP hs r k (l1.setIfInBounds i true) listed' _ w hm hC (gg hS1 hmem) hK hk) h).2
         have e:k+(r.map (fun p=>p.1.length+1)).sum+1+s.length=k+(((s,i)::r).map (fun p=>p.1.length+1)).sum:=by simp;omega
         rw[e]at h2;exact h2
theorem Fv{id:Nat}{a:Act}{w:World}{l:List Oper}(plan:List (List Nat×Nat))(fin tail:List Nat)(hm:P.follows .mixedOrders=true)(hB:nI .any l.toArray plan fin tail=true)(C:World->Prop)(hC:C w.drew)
   {ss:List (List Oper×Oper)} (hss:eL l plan=ss) {fs ts:List Oper} (hfs:bq l fin=fs) (hts:bq l tail=ts)
   (h:dL P l.toArray C (fun a' w'=>wpQuiet P l.toArray C (fun a'=>aw P l.toArray Q ts a' w') fs a') ss a w.drew) (hnd:l.all cy=true:=by rfl) {r:Option Nat} {n:Nat}:(Code.region id l.toArray true).wpIn (aG r) n P Q a w:=by
 subst hss hfs hts;unfold nI at hB;simp only[Y1,beq_iff_eq]at hB;obtain⟨⟨hs,hn⟩,hB⟩:=hB;split at hB
 case h_2=>cases hB
 case h_1 l1 h1 =>
   split at hB
   case h_2=>cases hB
   case h_1 l2 h2 =>
     refine wpIn_region_any hm (ur (C:=C) (T:=(tail.contains ·)) (BG hnd) _ _ _ _ ?_);have hS0:cu Region.Mode.any l.toArray (bz0 l.toArray.size false):=by
       intro j o _ hl;exfalso
       rcases aq0 j (bz0 l.toArray.size false).size with h'|h'
       . simp at h';simp[h']at hl
       . rw[cP0,al0 h']at hl;cases hl
     have h3:=vP (P:=P) (Q:=Q) (C:=C) (md:=.any) (tail:=tail) hs plan (tail.length+fin.length) (bz0 l.toArray.size false) l1 a w.drew h1 hC hS0
       (fun a' w' hC' hS' hF=>(jN (P:=P) (Q:=Q) (md:=.any) (tail:=tail) (C:=C) hs fin tail.length l1 l2 a' w' _ h2 hC' hS' (fun a2 hk=>vB tail l2 a2 w' hB hk) hF).2) h
     rw[show tail.length+fin.length+(plan.map (fun p=>p.1.length+1)).sum=l.toArray.size by omega]at h3;exact h3
theorem zS{F:Act->World->Prop}{s:List Oper}{o:Oper}{r:List (List Oper×Oper)}{a:Act}{w:World}(h:wpQuiet P ops C (fun a'=>dh P ops C o (dL P ops C F r) a' w) s a):dL P ops C F ((s,o)::r) a w:=h
theorem Hw{F:Act->World->Prop}{a:Act}{w:World}(h:F a w):dL P ops C F [] a w:=h
end
end
section
abbrev Hp:=Nat->Option Obj
def Hp.le(a b:Hp):Prop:=∀n o,a n=some o->b n=some o
def Hp.join(a b:Hp):Hp:=fun n=>(a n).or (b n)
theorem Hp.le_refl(a:Hp):a.le a:=fun _ _ h=>h
theorem Hp.le.trans{a b c:Hp}(h:a.le b)(k:b.le c):a.le c:=fun n o e=>k n o (h n o e)
theorem Hp.le_join(a b:Hp):a.le (a.join b):=fun n o e=>by simp[Hp.join,e]
theorem Hp.join_le{a b c:Hp}(h:a.le c)(k:b.le c):(a.join b).le c:=fun n o e=>by
 unfold Hp.join at e;cases ha:a n with
 |none=>rw[ha]at e;exact k n o (by simpa using e)
 |some x=>rw[ha]at e;simp at e;subst e;exact h n x ha
theorem Hp.join_right{a b:Hp}{n:Nat}{o:Obj}(h:b n=some o)(ha:a n=none):a.join b n=some o:=by simp[Hp.join,h,ha]
theorem Hp.join_some{a b:Hp}{n:Nat}{o:Obj}(h:a.join b n=some o):a n=some o\/(a n=none/\b n=some o):=by
 unfold Hp.join at h;cases ha:a n with
 |none=>rw[ha]at h;exact .inr ⟨rfl,by simpa using h⟩
 |some x=>rw[ha]at h;exact .inl (by simpa using h)
theorem Hp.join_none{a b:Hp}{n:Nat}(h:a.join b n=none):a n=none/\b n=none:=by
 unfold Hp.join at h;cases ha:a n with
 |none=>rw[ha]at h;exact⟨rfl,by simpa using h⟩
 |some x=>rw[ha]at h;simp at h
def Hp.of(w:World):Hp:=fun n=>w.heap[n]?
def Hp.nil:Hp:=fun _=>none
theorem Hp.nil_le(a:Hp):Hp.nil.le a:=fun _ _ h=>by cases h
structure En where
 os:Os
 tape:Nat->Question->Nat
 out:Array (Nat×ByteArray)
 rd:Option Nat:=none
def En.of(w:World):En:=⟨w.os,w.tape,w.output,none⟩
def En.at(E:En)(w:World):Prop:=w.os=E.os/\w.tape=E.tape/\w.output=E.out
abbrev ah:=Hp->Prop
def Sep(E:En):Hp->List ah->World->Prop
 |K,[],w=>E.at w/\K.le (Hp.of w)
 |K,A::L,w=>∃h:Hp,A h/\(∀n o,h n=some o->K n=none)/\Sep E (K.join h) L w
section
variable {E:En}
theorem Sep.sub:∀{L:List ah} {K:Hp} {w:World},Sep E K L w->K.le (Hp.of w)
 |[],K,w,h=>h.2
 |A::L,K,w,⟨h,_,_,hs⟩=>(Hp.le_join K h).trans (Sep.sub hs)
theorem Sep.env:∀{L:List ah} {K:Hp} {w:World},Sep E K L w->E.at w
 |[],K,w,h=>h.1
 |A::L,K,w,⟨h,_,_,hs⟩=>Sep.env hs
theorem Sep.move{w w':World}(he:E.at w->E.at w'):∀{L:List ah} {K1 K2:Hp},Sep E K1 L w->K2.le (Hp.of w') ->
   (∀n o,w.heap[n]?=some o->K1 n=none->K2 n=none/\w'.heap[n]?=some o)->Sep E K2 L w'
 |[],K1,K2,h,h2,_=>⟨he h.1,h2⟩
 | A :: L,K1,K2,⟨h,ha,hd,hs⟩,h2,h3=>by
   have hle:=(show Hp.le h (Hp.of w)from fun n o e=>Sep.sub hs n o (Hp.join_right e (hd n o e)));refine⟨h,ha,fun n o e=>(h3 n o (hle n o e) (hd n o e)).1,Sep.move he hs ?_ ?_⟩
   . exact Hp.join_le h2 (fun n o e=>(h3 n o (hle n o e) (hd n o e)).2)
   . intro n o e k;obtain⟨k1,k2⟩:=Hp.join_none k;obtain⟨k3,k4⟩:=h3 n o e k1;exact⟨by simp[Hp.join,k3,k2],k4⟩
theorem Sep.weaken{L:List ah}{K1 K2:Hp}{w:World}(h:Sep E K1 L w)(k:K2.le K1):Sep E K2 L w :=
 Sep.move id h (k.trans h.sub) (fun n o e h1=>by
   refine⟨?_,e⟩;cases h2:K2 n with
   |none=>rfl
   |some x=>rw[k n x h2]at h1;cases h1)
theorem Sep.drop{A:ah}{L:List ah}{K:Hp}{w:World}(h:Sep E K (A::L) w):Sep E K L w:=by
 obtain⟨h,_,_,hs⟩:=h;exact hs.weaken (Hp.le_join K h)
theorem Hp.join_swap{a b c:Hp}(h:∀n o,c n=some o->a.join b n=none):(a.join b).join c=(a.join c).join b:=by
 funext n
 unfold Hp.join;cases ha:a n with
 |some x=>simp
 | none =>
   cases hc:c n with
   |none=>simp
   | some y =>
     have:=h n y hc;simp[Hp.join,ha]at this;simp[this]
theorem Sep.swap{A B:ah}{L:List ah}{K:Hp}{w:World}(h:Sep E K (A::B::L) w):Sep E K (B::A::L) w:=by
 obtain⟨h1,ha,hd,h2,hb,hd2,hs⟩:=h;refine⟨h2,hb,fun n o e=>(Hp.join_none (hd2 n o e)).1,h1,ha,fun n o e=>?_,?_⟩
 . have:=hd n o e;cases h':h2 n with
   |none=>simp[Hp.join,this,h']
   | some x =>
     have:=(Hp.join_none (hd2 n x h')).2;rw[e]at this;cases this
 . rw[Hp.join_swap hd2]at hs;exact hs
theorem Sep.front:∀(i:Nat) {A:ah} {L:List ah} {K:Hp} {w:World},L[i]?=some A->Sep E K L w->Sep E K (A::L.eraseIdx i) w
 |0,A,B::L,K,w,h,hs=>by simp at h;subst h;exact hs
 | i + 1,A,B :: L,K,w,h,hs=>by
   obtain⟨hb,h1,h2,h3⟩:=hs;exact Sep.swap ⟨hb,h1,h2,Sep.front i (by simpa using h) h3⟩
 |i,A,[],K,w,h,hs=>by simp at h
theorem Sep.turn{A B:ah}{L:List ah}{K:Hp}{w w':World}(hs:Sep E K (A::L) w)(he:E.at w->E.at w')
   (h:∀h,A h->h.le (Hp.of w)->∃h',B h'/\(∀n o,h' n=some o->w'.heap[n]?=some o/\(h n=none->w.heap[n]?=none))/\∀n o,w.heap[n]?=some o->h n=none->w'.heap[n]?=some o):Sep E K (B::L) w':=by
 obtain⟨h1,ha,hd,hs⟩:=hs;have hle:=(show Hp.le h1 (Hp.of w)from fun n o e=>hs.sub n o (Hp.join_right e (hd n o e)));obtain⟨h2,hb,hn,hk⟩:=h h1 ha hle;have hK:=(Hp.le_join K h1).trans hs.sub;have hd2:∀n o,h2 n=some o->K n=none:=fun n o e=>by
   cases hKn:K n with
   |none=>rfl
   | some x =>
     have e1:h1 n=none:=by
       cases e1:h1 n with
       |none=>rfl
       |some y=>rw[hd n y e1]at hKn;cases hKn
     have:=(hn n o e).2 e1;have h3:=hK n x hKn;unfold Hp.of at h3;rw[this]at h3;cases h3
 refine⟨h2,hb,hd2,Sep.move he hs ?_ ?_⟩
 . refine Hp.join_le (fun n o e=>?_) (fun n o e=>(hn n o e).1);refine hk n o (hK n o e) ?_;cases e1:h1 n with
   |none=>rfl
   |some y=>rw[hd n y e1]at e;cases e
 . intro n o e k;obtain⟨k1,k2⟩:=Hp.join_none k;refine⟨?_,hk n o e k2⟩;cases e2:h2 n with
   |none=>simp[Hp.join,k1,e2]
   |some y=>rw[(hn n y e2).2 k2]at e;cases e
theorem Hp.join_nil(K:Hp):K.join Hp.nil=K:=by funext n;simp[Hp.join,Hp.nil]
def emp:ah:=fun h=>h=Hp.nil
theorem Sep.emp{L:List ah}{K:Hp}{w:World}(h:Sep E K L w):Sep E K (emp::L) w :=
 ⟨Hp.nil,rfl,fun _ _ e=>(by cases e),(by rw[Hp.join_nil];exact h)⟩
def cq(A B:ah):ah:=fun h=>∃h1 h2,A h1/\B h2/\(∀n o,h2 n=some o->h1 n=none)/\h=h1.join h2
theorem Hp.join_assoc(a b c:Hp):(a.join b).join c=a.join (b.join c):=by
 funext n;unfold Hp.join;cases a n <;> simp
theorem Sep.split{A B:ah}{L:List ah}{K:Hp}{w:World}(h:Sep E K (cq A B::L) w):Sep E K (A::B::L) w:=by
 obtain⟨h,⟨h1,h2,ha,hb,hd,rfl⟩,hK,hs⟩:=h;refine⟨h1,ha,fun n o e=>hK n o (Hp.le_join h1 h2 n o e),h2,hb,fun n o e=>?_,?_⟩
 . have e1:=hd n o e;simp[Hp.join,e1,hK n o (Hp.join_right e e1)]
 . rw[Hp.join_assoc];exact hs
theorem Sep.join{A B:ah}{L:List ah}{K:Hp}{w:World}(h:Sep E K (A::B::L) w):Sep E K (cq A B::L) w:=by
 obtain⟨h1,ha,hd,h2,hb,hd2,hs⟩:=h;refine⟨h1.join h2,⟨h1,h2,ha,hb,fun n o e=>(Hp.join_none (hd2 n o e)).2,rfl⟩,fun n o e=>?_,?_⟩
 . rcases Hp.join_some e with e|⟨_,e⟩
   . exact hd n o e
   . exact (Hp.join_none (hd2 n o e)).1
 . rw[<- Hp.join_assoc];exact hs
def exA{α:Type}(A:α->ah):ah:=fun h=>∃x,A x h
theorem Sep.open{α:Type}{A:α->ah}{L:List ah}{K:Hp}{w:World}(h:Sep E K (exA A::L) w):∃x,Sep E K (A x::L) w:=by
 obtain⟨h,⟨x,ha⟩,hd,hs⟩:=h;exact⟨x,h,ha,hd,hs⟩
theorem Sep.mono{A B:ah}{L:List ah}{K:Hp}{w:World}(h:Sep E K (A::L) w)(k:∀h,A h->B h):Sep E K (B::L) w:=by
 obtain⟨h,ha,hd,hs⟩:=h;exact⟨h,k h ha,hd,hs⟩
theorem Sep.fact{A:ah}{p:Prop}{L:List ah}{K:Hp}{w:World}(h:Sep E K (A::L) w)(k:∀h,A h->p):p:=by
 obtain⟨h,ha,_⟩:=h;exact k h ha
theorem En.of_fr{S:List Nat}{w w':World}(f:Fr S w w')(h:E.at w):E.at w':=⟨f.os.trans h.1,f.tape.trans h.2.1,f.output.trans h.2.2⟩
theorem Hp.of_fr{w w':World}(f:Fr [] w w'):(Hp.of w).le (Hp.of w'):=fun n o e=>f.keeps e (by simp)
theorem Sep.fr{L:List ah}{K:Hp}{w w':World}(h:Sep E K L w)(f:Fr [] w w'):Sep E K L w' :=
 Sep.move (En.of_fr f) h (h.sub.trans (Hp.of_fr f)) (fun n o e k=>⟨k,Hp.of_fr f n o e⟩)
theorem Sep.drew{L:List ah}{K:Hp}{w:World}(h:Sep E K L w):Sep E K L w.drew:=h.fr (Fr.refl [] w).drew
theorem Sep.start(w:World):Sep (En.of w) (Hp.of w) [] w:=⟨⟨rfl,rfl,rfl⟩,Hp.le_refl _⟩
theorem Sep.below{w w':World}{K:Hp}{L:List ah}(h:Sep (En.of w) K L w')(k:(Hp.of w).le K):Below w.heap.size w w':=by
 obtain⟨h1,h2,h3⟩:=h.env;have hk:=k.trans h.sub;have hb:∀n,n<w.heap.size->w'.heap[n]?=w.heap[n]?:=fun n hn=>by
   have e:w.heap[n]?=some w.heap[n]:=br0 hn;rw[e];exact hk n _ e
 refine⟨h1,h2,h3,?_,hb⟩
 rcases aq0 w'.heap.size w.heap.size with h'|h'
 . have:=hb _ h';rw[al0 (X3 _),br0 h']at this;cases this
 . exact h'
def En.out0(E:En):En:={ E with rd:=none }
theorem Sep.rd{E E':En}(h:∀w,E.at w->E'.at w):∀{L:List ah} {K:Hp} {w:World},Sep E K L w->Sep E' K L w
 |[],K,w,hs=>⟨h w hs.1,hs.2⟩
 |A::L,K,w,⟨h1,ha,hd,hs⟩=>⟨h1,ha,hd,Sep.rd h hs⟩
theorem Sep.out0{E:En}{L:List ah}{K:Hp}{w:World}(h:Sep E K L w):Sep E.out0 K L w:=Sep.rd (E:=E) (E':=E.out0) (fun w h=>h) h
theorem Sep.back{E:En}{L:List ah}{K:Hp}{w:World}(h:Sep E.out0 K L w):Sep E K L w:=Sep.rd (E:=E.out0) (E':=E) (fun w h=>h) h
end
def one(b:Nat)(o:Obj):Hp:=fun n=>if n=b then some o else none
theorem cv{b n:Nat}{o x:Obj}(h:one b o n=some x):n=b/\x=o:=by
 unfold one at h;split at h
 . simp at h;exact⟨by assumption,h.symm⟩
 . cases h
def Cl(b:Nat)(t:TypeId)(cs:List Value):ah:=fun h=>h=one b (.cells cs.toArray t (0,0))
def Rw(e:TypeId)(k:Nat)(v:Value)(n:Nat)(cs:List Value):ah:=fun h =>
 cs.length=n*k/\((v=.slice none n 0/\n=0/\h=Hp.nil) \/
   ∃g cap,∃cur:Array Value,v=.slice (some ⟨g,0,none⟩) n cap/\h=one g (.cells cur e (0,0))/\n<=cap/\cap<=maxLen/\cur.size=cap*k/\cur.toList.take (n*k)=cs)
section
variable {E:En}{L:List ah}{K:Hp}{w:World}
theorem Sep.alloc(h:Sep E K L w)(t:TypeId)(cs:Array Value):Sep E K (Cl w.heap.size t cs.toList::L) (w.alloc (.cells cs t)) :=
 Sep.turn h.emp (fun e=>e) (fun h0 ha _=>by
   unfold _root_.Go.Proofs.YtpnmnbfbcgkcjaaGreatDoor.emp at ha;subst ha;refine⟨_,rfl,fun n o e=>?_,fun n o e _=>?_⟩
   . obtain⟨rfl,rfl⟩:=cv e;exact⟨by simpa using ge w _,fun _=>al0 (X3 _)⟩
   . rw[Below.heap_alloc _ _ _ (lt_of_block e)];exact e)
theorem Sep.cl{b:Nat}{t:TypeId}{cs:List Value}(h:Sep E K (Cl b t cs::L) w):w.heap[b]?=some (.cells cs.toArray t (0,0)):=by
 obtain⟨h,rfl,hd,hs⟩:=h;exact hs.sub b _ (Hp.join_right (by simp[one]) (hd b (.cells cs.toArray t (0,0)) (by simp[one])))
end
end
section
abbrev Sl0:=Nat->Value
def upd(ρ:Sl0)(d:Nat)(v:Value):Sl0:=fun i=>bif Y3 i d then v else ρ i
def ups:List (Nat×Value)->Sl0->Sl0
 |[],ρ=>ρ
 |p::l,ρ=>upd (ups l ρ) p.1 p.2
def Fits:List (Nat×Value)->Sl0->Prop
 |[],ρ=>True
 |p::l,ρ=>ρ p.1=p.2/\Fits l ρ
theorem AK{ρ:Sl0}{d:Nat}{v:Value}(h:ρ d=v):upd ρ d v=ρ:=by
 funext i
 unfold upd;cases hb:Y3 i d with
 |false=>rfl
 |true=>rw[Y0 hb,h];rfl
theorem Fits.eq:∀{l:List (Nat×Value)} {ρ:Sl0},Fits l ρ->ups l ρ=ρ
 |[],ρ,_=>rfl
 | p :: l,ρ,h=>by
   unfold ups;rw[Fits.eq h.2,AK h.1]
theorem Fits.ex{l:List (Nat×Value)}{ρ:Sl0}(h:Fits l ρ):∃σ,ρ=ups l σ:=⟨ρ,h.eq.symm⟩
def frm(n:Nat)(ρ:Sl0):Array Value:=Array.ofFn fun i:Fin n=>ρ i
def act(n:Nat)(ρ:Sl0):Act:=⟨frm n ρ,[]⟩
def ev(n:Nat)(ρ:Sl0):Operand->Value
 |.tmp t=>bif aO0 t n then ρ t else undef
 |.const v=>v
 |.global g=>.pointer (some ⟨g,0,none⟩)
 |.func f=>.func (.func f) #[] #[]
theorem jY(n:Nat)(ρ:Sl0)(t:Nat):(frm n ρ)[t]?=if t<n then some (ρ t)else none:=by
 unfold frm;simp[Array.getElem?_ofFn]
theorem vx{a b:Nat}(h:a<b):aO0 a b=true:=by rw[bj0];exact h
theorem Au{a b:Nat}(h:¬ a<b):aO0 a b=false:=by rw[bo0];intro h';rw[bj0]at h';exact h h'
theorem eval_act(n:Nat)(ρ:Sl0):(act n ρ).eval=ev n ρ:=by
 funext x
 cases x with
 | tmp t =>
   show (frm n ρ).getD t undef=_;rw[cP0,jY];unfold ev;by_cases h:t<n
   . simp[h,vx h]
   . simp[h,Au h]
 |const v=>rfl
 |global g=>rfl
 |func f=>rfl
theorem put_act(n:Nat)(ρ:Sl0)(d:Nat)(v:Value):(act n ρ).put (some d) v=act n (upd ρ d v):=by
 unfold act Act.put;simp only[Act.mk.injEq,and_true];apply eS0;intro i;rw[jY,az0,jY];have hs:(frm n ρ).size=n:=by unfold frm;simp
 rw[hs];by_cases hi:i<n
 . by_cases hd:d=i
   . subst hd;simp[hi,upd]
   . have:Y3 i d=false:=by
       rw[bo0];intro h;exact hd (Y0 h).symm
     simp[hd,hi,upd,this]
 . by_cases hd:d=i
   . subst hd;simp[hi]
   . simp[hd,hi]
abbrev Post:=Exit->Sl0->Hp->List ah->Prop
def Ec(E:En)(n:Nat)(Φ:Post):Exit->Act->World->Prop:=fun e a w=>∃ρ K L,a=act n ρ/\Sep E K L w/\Φ e ρ K L
structure CJ(P:Program)(E:En)(n:Nat)(c:Code)(Φ:Post)(ρ:Sl0)(K:Hp)(L:List ah):Prop where
 go:∀w,Sep E K L w->c.wpIn (aG E.rd) 0 P (Ec E n Φ) (act n ρ) w
structure J(P:Program)(E:En)(n:Nat)(ops:Array Oper)(l:List Oper)(Φ:Post)(ρ:Sl0)(K:Hp)(L:List ah):Prop where
 go:∀w,Sep E K L w->aw P ops (Ec E n Φ) l (act n ρ) w
def Post.block(id:Nat)(Φ:Post):Post
 |.exit id',ρ,K,L=>bif Y3 id' id then Φ .normal ρ K L else Φ (.exit id') ρ K L
 |e,ρ,K,L=>Φ e ρ K L
section
variable {P:Program}{E:En}{n:Nat}{Φ:Post}{ρ:Sl0}{K:Hp}{L:List ah}
theorem CJ.block{id:Nat}{c:Code}(h:CJ P E n c (Post.block id Φ) ρ K L):CJ P E n (.block id c) Φ ρ K L:=⟨fun w hs =>
 wpIn_block (wpIn_mono (h.go w hs) (fun e a w ⟨ρ,K,L,ha,hs,hΦ⟩=>by
   subst ha;cases e with
   | exit id' =>
     show if id'=id then _ else _
     unfold Post.block at hΦ;by_cases hid:id'=id
     . subst hid;rw[if_pos rfl];simp only[show Y3 id' id'=true from bY0 id',cond_true]at hΦ;exact⟨ρ,K,L,rfl,hs,hΦ⟩
     . rw[if_neg hid];have:Y3 id' id=false:=by rw[bo0];intro h;exact hid (Y0 h)
       simp only[this,cond_false]at hΦ;exact⟨ρ,K,L,rfl,hs,hΦ⟩
   |_=>exact⟨ρ,K,L,rfl,hs,hΦ⟩))⟩
theorem CJ.cond{c:Operand}{x y:Code}{t:Bool}(hc:ev n ρ c=.bool t)(ht:t=true->CJ P E n x Φ ρ K L)(hf:t=false->CJ P E n y Φ ρ K L):CJ P E n (.cond c x y) Φ ρ K L:=⟨fun w hs =>
 wpIn_cond_split (by rw[eval_act];exact hc) (fun h=>(ht h).go w hs) (fun h=>(hf h).go w hs)⟩
theorem CJ.mono{c:Code}{Φ':Post}(h:CJ P E n c Φ' ρ K L)(k:∀e ρ K L,Φ' e ρ K L->Φ e ρ K L):CJ P E n c Φ ρ K L:=⟨fun w hs =>
 wpIn_mono (h.go w hs) (fun e a w ⟨ρ,K,L,ha,hs,hΦ⟩=>⟨ρ,K,L,ha,hs,k _ _ _ _ hΦ⟩)⟩
theorem CJ.ex{α:Type}{A:α->ah}{c:Code}(h:∀x,CJ P E n c Φ ρ K (A x::L)):CJ P E n c Φ ρ K (exA A::L):=⟨fun w hs=>let ⟨x,hx⟩:=hs.open;(h x).go w hx⟩
def Hold(E:En)(K:Hp)(R:List ah)(w:World):Prop:=∃K' L',K.le K'/\Sep E K' (R++L') w
theorem Hold.of_sep{w:World}(h:Sep E K L w):Hold E K L w:=⟨K,[],Hp.le_refl K,by simpa using h⟩
def Val(P:Program)(n:Nat)(C:World->Prop)(ρ:Sl0)(o:Oper)(v:Value):Prop:=∀w,C w->(execOp (ev n ρ) o).run P w=.ok (.value v) w
theorem J.val{ops:Array Oper}{rest:List Oper}{o:Oper}{d:Nat}{v:Value}(hg:o.guard=none)(hd:o.dst=some d)(hv:Val P n (Hold E K L) ρ o v)(h:J P E n ops rest Φ (upd ρ d v) K L):J P E n ops (o::rest) Φ ρ K L:=⟨fun w hs =>
 Gc hg (fun X hX=>by
   unfold Oper.wp;rw[eval_act,hv w (Hold.of_sep hs),Oper.upon_value,hd,put_act];exact hX _ _ (h.go w hs))⟩
structure Ao(P:Program)(E:En)(n:Nat)(o:Oper)(ρ:Sl0)(K:Hp)(L:List ah)(N:Sl0->Hp->List ah->Prop):Prop where
 go:∀w,Sep E K L w->∀(X:Act->World->Prop) (Q:Exit->Act->World->Prop),(∀ρ' K' L' w',N ρ' K' L'->Sep E K' L' w'->X (act n ρ') w')->o.wp P (act n ρ) w X Q
theorem zm{ops:Array Oper}{g d:Nat}{b:Bool}(hg:(ops[g]?).bind (·.dst)=some d)(hv:ev n ρ (.tmp d)=.bool b):yielded ops (frm n ρ) g=some b:=by
 unfold yielded;rw[hg];simp only[V0];rw[jY];replace hv:(bif aO0 d n then ρ d else undef)=.bool b:=hv;by_cases h:d<n
 . rw[vx h]at hv;simp only[cond_true]at hv;simp[h,hv]
 . rw[Au h]at hv;simp[undef]at hv
theorem A8 {P:Program} {ops:Array Oper} {Q:Exit->Act->World->Prop}:∀ {l1 l2:List Oper} {a:Act} {w:World},aw P ops (Exit.then (aw P ops Q l2) Q) l1 a w->aw P ops Q (l1++l2) a w
 |[],l2,a,w,h=>h
 | o :: l1,l2,a,w,h=>by
   unfold aw at h;rw[aK0];unfold aw;have hm:∀a' w',aw P ops (Exit.then (aw P ops Q l2) Q) l1 a' w'->aw P ops Q (l1++l2) a' w':=fun a' w' h'=>A8 h'
   split
   . rename_i hw;rw[if_pos hw]at h
     . skip
       unfold Oper.wp at h ⊢;generalize (execOp a.eval o).run P w=r at h ⊢;cases r with
       | ok nx w' =>
         cases nx with
         |value v=>exact hm _ _ h
         |skip=>exact hm _ _ h
         |defer d=>exact hm _ _ h
         | enter f args =>
           refine Calls.mono (R:=_) h ?_;intro e w'' hh;cases e with
           |returned v=>exact hm _ _ hh
           |panicked ch=>exact hh
           |outgrown=>obtain⟨a',w',hh⟩:=hh;exact⟨a',w',hh⟩
         |row r args=>exact Rows.mono h (fun v w'' hh=>hm _ _ hh)
         |_=>exact h.elim
       | halt x w' =>
         cases x with
         |panic v=>exact h
         |_=>exact h.elim
   . rename_i hw;rw[if_neg hw]at h;exact hm _ _ h
end
end
section
open Go.ChangeShapes Go.WideShapes Go.RowKit Go.Deep
open Go.ChangeMaps (open_string)
inductive Tp where
 |int (k:IntKind)
 |bool
 |str
 |sl (e:Tp)
 |ptr (e:Tp)
 |emp
 |one (a:Tp)
 |cons (a r:Tp)
namespace Tp
abbrev den:Tp->Type
 |.int _=>Int
 |.bool=>Bool
 |.str=>List UInt8
 |.sl e=>List e.den
 |.ptr e=>Option e.den
 |.emp=>Unit
 |.one a=>a.den
 |.cons a r=>a.den×r.den
def size:Tp->Nat
 |.emp=>0
 |.one a=>a.size
 |.cons a r=>a.size+r.size
 |_=>1
mutual
def has(P:Program):Tp->TypeId->Bool
 |.int k,t=>match P.underlying t with|some (.int k')=>decide (k'=k)|_=>false
 |.bool,t=>match P.underlying t with|some .bool=>true|_=>false
 |.str,t=>match P.underlying t with|some .string=>true|_=>false
 |.sl e,t=>match P.underlying t with|some (.slice e')=>has P e e'&&decide (P.cellsOf e'=e.size)&&decide (0<e.size)|_=>false
 |.ptr _,_=>false
 |.emp,t=>match P.underlying t with|some (.struct fs)=>fs.toList.isEmpty&&decide (P.cellsOf t=0)|_=>false
 | .one a,t=>match P.underlying t with
   |some (.struct fs)=>(match fs.toList with|[f]=>decide (f.offset=0)&&decide (P.cellsOf f.type=a.size)&&has P a f.type|_=>false)&&decide (P.cellsOf t=a.size)
   |some (.array n e)=>decide (n=1)&&decide (P.cellsOf e=a.size)&&has P a e&&decide (P.cellsOf t=a.size)
   |_=>false
 | .cons a r,t=>match P.underlying t with
   |some (.struct fs)=>(match fs.toList with|f::fs=>decide (f.offset=0)&&decide (P.cellsOf f.type=a.size)&&has P a f.type&&hasAll P a.size r fs|[]=>false)&&decide (P.cellsOf t=a.size+r.size)
   |some (.array n e)=>decide (n≠0)&&decide (P.cellsOf e=a.size)&&has P a e&&hasArr P e r (n-1)&&decide (P.cellsOf t=a.size+r.size)
   |_=>false
def hasAll(P:Program):Nat->Tp->List Field->Bool
 |_,.emp,[]=>true
 |o,.one a,[f]=>decide (f.offset=o)&&decide (P.cellsOf f.type=a.size)&&has P a f.type
 |o,.cons a r,f::fs=>decide (f.offset=o)&&decide (P.cellsOf f.type=a.size)&&has P a f.type&&hasAll P (o+a.size) r fs
 |_,_,_=>false
def hasArr(P:Program)(e:TypeId):Tp->Nat->Bool
 |.one a,n=>decide (n=1)&&decide (P.cellsOf e=a.size)&&has P a e
 |.cons a r,n=>decide (n≠0)&&decide (P.cellsOf e=a.size)&&has P a e&&hasArr P e r (n-1)
 |_,_=>false
end
def Ok:(t:Tp)->t.den->Prop
 |.int k,n=>(Lit.int k n).wf=true
 |.bool,_=>True
 |.str,s=>s.length<=maxLen
 |.sl e,l=>l.length<=maxLen/\∀x∈l,Ok e x
 |.ptr e,o=>∀x,o=some x->Ok e x
 |.emp,_=>True
 |.one a,d=>Ok a d
 |.cons a r,d=>Ok a d.1/\Ok r d.2
end Tp
def be(K:Hp)(b o:Nat):Option Value:=match K b with|some (.cells c _ _)=>c[o]? |_=>none
theorem gt{K K':Hp}(h:K.le K'){b o:Nat}{v:Value}(k:be K b o=some v):be K' b o=some v:=by
 unfold be at *;cases hK:K b with
 |none=>rw[hK]at k;cases k
 |some x=>rw[h b x hK];rw[hK]at k;exact k
theorem dX{K:Hp}{w:World}(h:K.le (Hp.of w)){b o:Nat}{v:Value}(k:be K b o=some v):w.cell? ⟨b,o,none⟩=some v:=by
 unfold be at k;cases hK:K b with
 |none=>rw[hK]at k;cases k
 | some x =>
   rw[hK]at k;have:=h b x hK;unfold Hp.of at this;cases x <;> simp_all[World.cell?]
theorem Bz{w:World}{b o:Nat}{v:Value}(k:w.cell? ⟨b,o,none⟩=some v):be (Hp.of w) b o=some v:=by
 unfold World.cell? at k;unfold be Hp.of;simp only at k ⊢;split at k
 . rename_i e;rw[e];simpa using k
 . cases k
def Is(K:Hp):(t:Tp)->List Value->t.den->Prop
 |.int k,cs,n=>cs=[.int k n]
 |.bool,cs,b=>cs=[.bool b]
 |.str,cs,s=>cs=[.string ⟨s.toArray⟩]
 |.sl e,cs,l=>∃ad cap,cs=[.slice ad l.length cap]/\l.length<=cap/\cap<=maxLen/\(l≠[]->∃b o,ad=some ⟨b,o,none⟩ /\
     ∀k x,l[k]?=some x->∃es,es.length=e.size/\Is K e es x/\∀j,j<e.size->be K b (o+k*e.size+j)=es[j]?)
 |.ptr e,cs,d=>(d=none/\cs=[.pointer none])\/∃x b o,d=some x/\cs=[.pointer (some ⟨b,o,none⟩)]/\∃es,es.length=e.size/\Is K e es x/\∀j,j<e.size->be K b (o+j)=es[j]?
 |.emp,cs,_=>cs=[]
 |.one a,cs,d=>Is K a cs d
 |.cons a r,cs,d=>∃c1 c2,cs=c1++c2/\c1.length=a.size/\Is K a c1 d.1/\Is K r c2 d.2
theorem Is.len{K:Hp}:∀{t:Tp} {cs:List Value} {d:t.den},Is K t cs d->cs.length=t.size
 |.int _,cs,d,h=>by simp only[Is]at h;rw[h];rfl
 |.bool,cs,d,h=>by simp only[Is]at h;rw[h];rfl
 |.str,cs,d,h=>by simp only[Is]at h;rw[h];rfl
 |.sl e,cs,d,h=>by simp only[Is]at h;obtain⟨_,_,h,_⟩:=h;rw[h];rfl
 |.ptr e,cs,d,h=>by simp only[Is]at h;rcases h with⟨_,h⟩|⟨_,_,_,_,h,_⟩ <;> (rw[h];rfl)
 |.emp,cs,d,h=>by simp only[Is]at h;rw[h];rfl
 |.one a,cs,d,h=>Is.len (t:=a) (by simpa only[Is]using h)
 | .cons a r,cs,d,h=>by
   simp only[Is]at h;obtain⟨c1,c2,rfl,h1,_,h2⟩:=h;simp[Tp.size,h1,Is.len h2]
theorem Is.mono{K K':Hp}(f:K.le K'):∀{t:Tp} {cs:List Value} {d:t.den},Is K t cs d->Is K' t cs d
 |.int _,cs,d,h=>h
 |.bool,cs,d,h=>h
 |.str,cs,d,h=>h
 |.emp,cs,d,h=>h
 |.one a,cs,d,h=>by simp only[Is]at h ⊢;exact Is.mono f h
 | .sl e,cs,d,h=>by
   simp only[Is]at h ⊢;obtain⟨ad,cap,h1,h2,h3,h4⟩:=h;refine⟨ad,cap,h1,h2,h3,fun hne=>?_⟩;obtain⟨b,o,hb,hk⟩:=h4 hne;refine⟨b,o,hb,fun k x hx=>?_⟩;obtain⟨es,hl,hi,hj⟩:=hk k x hx;refine⟨es,hl,Is.mono f hi,fun j hjl=>?_⟩;have:=hj j hjl;rw[Z0 (by omega)]at this ⊢;exact gt f this
 | .ptr e,cs,d,h=>by
   simp only[Is]at h ⊢
   rcases h with h|⟨x,b,o,h1,h2,es,hl,hi,hj⟩
   . exact .inl h
   . refine .inr ⟨x,b,o,h1,h2,es,hl,Is.mono f hi,fun j hjl=>?_⟩;have:=hj j hjl;rw[Z0 (by omega)]at this ⊢;exact gt f this
 | .cons a r,cs,d,h=>by
   simp only[Is]at h ⊢;obtain⟨c1,c2,rfl,h1,h2,h3⟩:=h;exact⟨c1,c2,rfl,h1,Is.mono f h2,Is.mono f h3⟩
def At(K:Hp)(e:Tp)(b o:Nat)(x:e.den):Prop:=∃es,es.length=e.size/\Is K e es x/\∀j,j<e.size->be K b (o+j)=es[j]?
theorem Is.at{K:Hp}{e:Tp}{ad:Option Addr}{n cap:Nat}{l:List e.den}(h:Is K (.sl e) [.slice ad n cap] l){i:Nat}{x:e.den}(hx:l[i]?=some x):∃b o,ad=some ⟨b,o,none⟩/\At K e b (o+i*e.size) x:=by
 simp only[Is]at h;obtain⟨ad',cap',h0,_,_,h⟩:=h;simp at h0;obtain⟨rfl,rfl,rfl⟩:=h0;obtain⟨b,o,rfl,h4⟩:=h (fun e=>by rw[e]at hx;simp at hx);obtain⟨es,h1,h2,h3⟩:=h4 i x hx;exact⟨b,o,rfl,es,h1,h2,h3⟩
theorem At.mono{K K':Hp}(f:K.le K'){e:Tp}{b o:Nat}{x:e.den}(h:At K e b o x):At K' e b o x:=by
 obtain⟨es,h1,h2,h3⟩:=h;refine⟨es,h1,h2.mono f,fun j hj=>?_⟩;have:=h3 j hj;rw[Z0 (by omega)]at this ⊢;exact gt f this
theorem At.int{K:Hp}{k:IntKind}{b o:Nat}{x:Int}(h:At K (.int k) b o x):be K b o=some (.int k x):=by
 obtain⟨es,h1,h2,h3⟩:=h;simp only[Is]at h2;subst h2;simpa using h3 0 (by simp[Tp.size])
theorem Is.ptr{K:Hp}{e:Tp}{v:Value}{x:e.den}(h:Is K (.ptr e) [v] (some x)):∃b o,v=.pointer (some ⟨b,o,none⟩)/\At K e b o x:=by
 simp only[Is]at h
 rcases h with⟨h,_⟩|⟨y,b,o,h1,h2,h3⟩
 . cases h
 . cases h1;simp at h2;exact⟨b,o,h2,h3⟩
theorem Is.ptr0{K:Hp}{e:Tp}{v:Value}(h:Is K (.ptr e) [v] none):v=.pointer none:=by
 simp only[Is]at h
 rcases h with⟨_,h⟩|⟨y,b,o,h1,h2,h3⟩
 . simpa using h
 . cases h1
theorem Is.slv{K:Hp}{e:Tp}{v:Value}{l:List e.den}(h:Is K (.sl e) [v] l):∃ad cap,v=.slice ad l.length cap:=by
 simp only[Is]at h;obtain⟨ad,cap,h,_⟩:=h;exact⟨ad,cap,by simpa using h⟩
section
variable {H:Type}{enc:TypeId×Value->H}{P:Program}{W:World}{base:Nat}{spare:Nat->Bool}{held:Bool}
theorem Tp.list_ex{α:Type}{R:Nat->α->Prop}:∀n:Nat,(∀k,k<n->∃x,R k x)->∃l:List α,l.length=n/\∀k x,l[k]?=some x->R k x
 |0,_=>⟨[],rfl,fun k x h=>by simp at h⟩
 | n + 1,h=>by
   obtain⟨l,hl,hr⟩:=Tp.list_ex n (fun k hk=>h k (by omega));obtain⟨x,hx⟩:=h n (by omega);refine⟨l++[x],by simp[hl],fun k y hy=>?_⟩
   rcases bi0 k n with hk |hk|hk
   . rw[V6 (by omega)]at hy;exact hr k y hy
   . subst hk;subst hl;simp at hy;subst hy;exact hx
   . rw[ai0 (by simp;omega)]at hy;simp at hy
mutual
theorem Tp.read:∀(ty:Tp) {t:TypeId} {fuel:Nat} {cs:List Value} {x:DataW H×List MemPlace},ty.has P t=true->DataW.trod enc P W base spare held fuel t cs=some x->∃d:ty.den,Is (Hp.of W) ty cs d/\ty.Ok d
 | .int k,t,fuel,cs,x,hh,h=>by
   unfold Tp.has at hh;split at hh
   . rename_i k' ht;simp at hh;subst hh;obtain⟨n,rfl,_,hw⟩:=DataW.trod_int ht h;exact⟨n,rfl,hw⟩
   . simp at hh
 | .bool,t,fuel,cs,x,hh,h=>by
   unfold Tp.has at hh;split at hh
   . rename_i ht;obtain⟨b,rfl,_⟩:=DataW.trod_bool ht h;exact⟨b,rfl,trivial⟩
   . simp at hh
 | .str,t,fuel,cs,x,hh,h=>by
   unfold Tp.has at hh;split at hh
   . rename_i ht;obtain⟨s,rfl,_,hs⟩:=DataW.trod_string ht h;exact⟨s.data.toList,rfl,by simpa[Tp.Ok]using hs⟩
   . simp at hh
 |.ptr e,t,fuel,cs,x,hh,h=>by simp[Tp.has]at hh
 | .sl e,t,fuel,cs,x,hh,h=>by
   unfold Tp.has at hh;split at hh
   . rename_i e' ht;simp only[Y1,decide_eq_true_eq]at hh;obtain⟨⟨he,hc⟩,h0⟩:=hh
     rcases open_slice ht h with⟨rfl,_⟩|⟨a,len,cap,m,n,D,Pl,rfl,hb,hl,hm,hmm,_,hi⟩
     . exact⟨[],⟨none,0,rfl,by simp,by simp,fun h=>absurd rfl h⟩,by simp,fun x hx=>by simp at hx⟩
     . rw[hc]at hi;have hall:∀k,k<len->∃x:e.den,e.Ok x/\∃es,es.length=e.size/\Is (Hp.of W) e es x/\∀j,j<e.size->W.cell? (a.add (k*e.size+j))=es[j]?:=fun k hk=>by
         have hkm:k<m:=by rw[hmm];split <;> omega
         obtain⟨cs',hcs,ht'⟩:=hi k hkm;obtain⟨d,hd,hok⟩:=Tp.read e he ht';obtain⟨_,hlen,hcell⟩:=World.cells?_some hcs;refine⟨d,hok,cs',hlen,hd,fun j hj=>?_⟩;rw[<- hcell j hj,Go.Deep.add_add]
       obtain⟨l,hlen,hl'⟩:=Tp.list_ex len hall;refine⟨l,⟨some a,cap,by rw[hlen],by omega,hm,fun hne=>?_⟩,by omega,fun x hx=>?_⟩
       . have hpos:0<len:=by rw[<- hlen];exact bl0.2 hne
         obtain⟨x0,_,es0,hes,_,hc0⟩:=hall 0 hpos;have hc00:=hc0 0 h0;have hsome:∃v,W.cell? a=some v:=by
           refine⟨es0[0]'(by omega),?_⟩;have:a.add (0*e.size+0)=a:=by simp[Addr.add]
           rw[this,Z0 (by omega)]at hc00;exact hc00
         obtain⟨v0,hv0⟩:=hsome;have hspot:a.spot=none:=by
           cases hs:a.spot with
           |none=>rfl
           |some s=>simp[World.cell?,hs]at hv0;split at hv0 <;> simp at hv0
         obtain⟨b,o,s⟩:=a;simp only at hspot;subst hspot;refine⟨b,o,rfl,fun k x hx=>?_⟩;obtain⟨_,es,h1,h2,h3⟩:=hl' k x hx;refine⟨es,h1,h2,fun j hj=>?_⟩;have h4:=h3 j hj;rw[Z0 (by omega)]at h4 ⊢;refine Bz ?_;rw[<- h4];simp only[Addr.add];split
         . congr 2;omega
         . congr 2;omega
       . obtain⟨i,hi,rfl⟩:=Z8 hx;exact (hl' i _ (Z0 hi)).1
   . simp at hh
 | .emp,t,fuel,cs,x,hh,h=>by
   unfold Tp.has at hh;split at hh
   . rename_i fs ht;simp only[Y1,decide_eq_true_eq]at hh;obtain⟨_,_,_,_,hlen,_⟩:=DataW.trod_struct ht h;exact⟨(),Z4.1 (by omega),trivial⟩
   . simp at hh
 | .one a,t,fuel,cs,x,hh,h=>by
   unfold Tp.has at hh;split at hh
   . rename_i fs ht;simp only[Y1,decide_eq_true_eq]at hh;obtain⟨hh,hC⟩:=hh;split at hh
     . rename_i f hfs;simp only[Y1,decide_eq_true_eq]at hh;obtain⟨⟨h1,h2⟩,h3⟩:=hh;obtain⟨xs,n,_,_,hlen,hxl,hf⟩:=DataW.trod_struct ht h;have hsz:fs.size=1:=by rw[<- Y5,hfs];simp
       have hget:∀i,fs[i]?=[f][i]?:=fun i=>by rw[<- hfs,bA0]
       have t0:=hf 0 f (by rw[hget];rfl);rw[h1,h2,ab0,Z0 (by omega),V8 (by omega)]at t0;exact Tp.read a h3 t0
     . simp at hh
   . rename_i n e ht;simp only[Y1,decide_eq_true_eq]at hh;obtain⟨⟨⟨h1,h2⟩,h3⟩,hC⟩:=hh;obtain⟨xs,m,_,_,hlen,hxl,hf⟩:=DataW.trod_array ht h;have t0:=hf 0 (by omega);rw[h2,bO0,ab0,Z0 (by omega),V8 (by omega)]at t0;exact Tp.read a h3 t0
   . simp at hh
 | .cons a r,t,fuel,cs,x,hh,h=>by
   unfold Tp.has at hh;split at hh
   . rename_i fs ht;simp only[Y1,decide_eq_true_eq]at hh;obtain⟨hh,hC⟩:=hh;split at hh
     . rename_i f fs' hfs;simp only[Y1,decide_eq_true_eq]at hh;obtain⟨⟨⟨h1,h2⟩,h3⟩,h4⟩:=hh;obtain⟨xs,n,_,_,hlen,hxl,hf⟩:=DataW.trod_struct ht h;have hsz:fs.size=fs'.length+1:=by rw[<- Y5,hfs];simp
       have hget:∀i,fs[i]?=(f::fs')[i]?:=fun i=>by rw[<- hfs,bA0]
       have t0:=hf 0 f (by rw[hget];rfl);rw[h1,h2,ab0,Z0 (by omega)]at t0;obtain⟨d0,hd0,ok0⟩:=Tp.read a h3 t0;obtain⟨d1,hd1,ok1⟩:=Tp.readAll a.size r fs' (cs:=cs.drop a.size) (all:=cs) h4 (by rw[W8];omega) (fun i g hg=>by
         have t1:=hf (i+1) g (by rw[hget];exact hg);have hi:i<fs'.length:=(V4.1 hg).1;rw[Z0 (by omega)]at t1;exact⟨n,_,t1⟩) rfl
       exact⟨(d0,d1),⟨cs.take a.size,cs.drop a.size,(as0 _ _).symm,by rw[X4];omega,hd0,hd1⟩,ok0,ok1⟩
     . simp at hh
   . rename_i n e ht;simp only[Y1,decide_eq_true_eq]at hh;obtain⟨⟨⟨⟨h1,h2⟩,h3⟩,h4⟩,hC⟩:=hh;obtain⟨xs,m,_,_,hlen,hxl,hf⟩:=DataW.trod_array ht h;have t0:=hf 0 (by omega);rw[h2,bO0,ab0,Z0 (by omega)]at t0;obtain⟨d0,hd0,ok0⟩:=Tp.read a h3 t0;obtain⟨d1,hd1,ok1⟩:=Tp.readArr 1 (n-1) r (e:=e) (cs:=cs.drop a.size) (all:=cs) h4 (by rw[W8];omega) (fun i hi=>by
       have t1:=hf (1+i) (by omega);rw[Z0 (by omega)]at t1;exact⟨m,_,t1⟩) (by rw[Nat.one_mul,h2])
     exact⟨(d0,d1),⟨cs.take a.size,cs.drop a.size,(as0 _ _).symm,by rw[X4];omega,hd0,hd1⟩,ok0,ok1⟩
   . simp at hh
theorem Tp.readAll:∀(o:Nat) (ty:Tp) (fs:List Field) {cs all:List Value},ty.hasAll P o fs=true->cs.length=ty.size ->
   (∀(i:Nat) (f:Field),fs[i]?=some f->∃n x,DataW.trod enc P W base spare held n f.type ((all.drop f.offset).take (P.cellsOf f.type))=some x)->cs=all.drop o->∃d:ty.den,Is (Hp.of W) ty cs d/\ty.Ok d
 |o,.emp,[],cs,all,hh,hl,hf,hc=>⟨(),Z4.1 hl,trivial⟩
 | o,.one a,[f],cs,all,hh,hl,hf,hc=>by
   unfold Tp.hasAll at hh;simp only[Y1,decide_eq_true_eq]at hh;obtain⟨⟨h1,h2⟩,h3⟩:=hh;obtain⟨n,x,t0⟩:=hf 0 f rfl;rw[h1,h2,<- hc,V8 (by rw[hl];exact X3 _)]at t0;exact Tp.read a h3 t0
 | o,.cons a r,f :: fs,cs,all,hh,hl,hf,hc=>by
   unfold Tp.hasAll at hh;simp only[Y1,decide_eq_true_eq]at hh;obtain⟨⟨⟨h1,h2⟩,h3⟩,h4⟩:=hh;obtain⟨n,x,t0⟩:=hf 0 f rfl;rw[h1,h2,<- hc]at t0;obtain⟨d0,hd0,ok0⟩:=Tp.read a h3 t0;have hl':cs.length=a.size+r.size:=hl;obtain⟨d1,hd1,ok1⟩:=Tp.readAll (o+a.size) r fs (cs:=cs.drop a.size) (all:=all) h4 (by simp;omega) (fun i g hg=>hf (i+1) g hg) (by rw[hc,dw0]);exact⟨(d0,d1),⟨cs.take a.size,cs.drop a.size,by simp,by simp;omega,hd0,hd1⟩,ok0,ok1⟩
 |_,.int _,_,_,_,hh,_,_,_=>by simp[Tp.hasAll]at hh
 |_,.bool,_,_,_,hh,_,_,_=>by simp[Tp.hasAll]at hh
 |_,.str,_,_,_,hh,_,_,_=>by simp[Tp.hasAll]at hh
 |_,.sl _,_,_,_,hh,_,_,_=>by simp[Tp.hasAll]at hh
 |_,.ptr _,_,_,_,hh,_,_,_=>by simp[Tp.hasAll]at hh
 |_,.emp,_::_,_,_,hh,_,_,_=>by simp[Tp.hasAll]at hh
 |_,.one _,[],_,_,hh,_,_,_=>by simp[Tp.hasAll]at hh
 |_,.one _,_::_::_,_,_,hh,_,_,_=>by simp[Tp.hasAll]at hh
 |_,.cons _ _,[],_,_,hh,_,_,_=>by simp[Tp.hasAll]at hh
theorem Tp.readArr:∀(k n:Nat) (ty:Tp) {e:TypeId} {cs all:List Value},ty.hasArr P e n=true->cs.length=ty.size ->
   (∀i,i<n->∃m x,DataW.trod enc P W base spare held m e ((all.drop ((k+i)*P.cellsOf e)).take (P.cellsOf e))=some x)->cs=all.drop (k*P.cellsOf e)->∃d:ty.den,Is (Hp.of W) ty cs d/\ty.Ok d
 | k,n,.one a,e,cs,all,hh,hl,hf,hc=>by
   unfold Tp.hasArr at hh;simp only[Y1,decide_eq_true_eq]at hh;obtain⟨⟨h1,h2⟩,h3⟩:=hh;obtain⟨m,x,t0⟩:=hf 0 (by omega);rw[aD0,<- hc,V8 (by rw[hl,h2];exact X3 _)]at t0;exact Tp.read a h3 t0
 | k,n,.cons a r,e,cs,all,hh,hl,hf,hc=>by
   unfold Tp.hasArr at hh;simp only[Y1,decide_eq_true_eq]at hh;obtain⟨⟨⟨h1,h2⟩,h3⟩,h4⟩:=hh;obtain⟨m,x,t0⟩:=hf 0 (by omega);rw[aD0,<- hc,h2]at t0;obtain⟨d0,hd0,ok0⟩:=Tp.read a h3 t0;have hl':cs.length=a.size+r.size:=hl;obtain⟨d1,hd1,ok1⟩:=Tp.readArr (k+1) (n-1) r (e:=e) (cs:=cs.drop a.size) (all:=all) h4 (by simp;omega) (fun i hi=>by
     have:=hf (i+1) (by omega);rw[show k+(i+1)=k+1+i by omega]at this;exact this) (by rw[hc,dw0,cz0,Nat.one_mul,h2])
   exact⟨(d0,d1),⟨cs.take a.size,cs.drop a.size,by simp,by simp;omega,hd0,hd1⟩,ok0,ok1⟩
 |_,_,.int _,_,_,_,hh,_,_,_=>by simp[Tp.hasArr]at hh
 |_,_,.bool,_,_,_,hh,_,_,_=>by simp[Tp.hasArr]at hh
 |_,_,.str,_,_,_,hh,_,_,_=>by simp[Tp.hasArr]at hh
 |_,_,.sl _,_,_,_,hh,_,_,_=>by simp[Tp.hasArr]at hh
 |_,_,.ptr _,_,_,_,hh,_,_,_=>by simp[Tp.hasArr]at hh
 |_,_,.emp,_,_,_,hh,_,_,_=>by simp[Tp.hasArr]at hh
end
end
def IsV(K:Hp):(t:Tp)->Value->t.den->Prop
 |.emp,v,x=>∃cs:List Value,v=.agg cs.toArray/\Is K .emp cs x
 |.one a,v,x=>∃cs:List Value,v=.agg cs.toArray/\Is K (.one a) cs x
 |.cons a r,v,x=>∃cs:List Value,v=.agg cs.toArray/\Is K (.cons a r) cs x
 |.int k,v,x=>Is K (.int k) [v] x
 |.bool,v,x=>Is K .bool [v] x
 |.str,v,x=>Is K .str [v] x
 |.sl e,v,x=>Is K (.sl e) [v] x
 |.ptr e,v,x=>Is K (.ptr e) [v] x
theorem IsV.mono{K K':Hp}(f:K.le K'):∀{t:Tp} {v:Value} {d:t.den},IsV K t v d->IsV K' t v d
 |.int _,v,d,h=>Is.mono f (t:=.int _) h
 |.bool,v,d,h=>Is.mono f (t:=.bool) h
 |.str,v,d,h=>Is.mono f (t:=.str) h
 |.sl e,v,d,h=>Is.mono f (t:=.sl e) h
 |.ptr e,v,d,h=>Is.mono f (t:=.ptr e) h
 |.emp,v,d,h=>let ⟨cs,h1,h2⟩:=h;⟨cs,h1,h2.mono f⟩
 |.one a,v,d,h=>let ⟨cs,h1,h2⟩:=h;⟨cs,h1,h2.mono f⟩
 |.cons a r,v,d,h=>let ⟨cs,h1,h2⟩:=h;⟨cs,h1,h2.mono f⟩
section
variable {H:Type}{enc:TypeId×Value->H}{P:Program}{W:World}{base b:Nat}{spare:Nat->Bool}{held:Bool}{r:Reach}{t:TypeId}{v:Value}{d:DataW H}{p:List MemPlace}
theorem zQ{n:Nat}{e:TypeId}(ht:P.underlying t=some (.array n e))(h:Value.okWide P W r b t v):∃cs,v=.agg cs:=by
 simp only[Value.okWide,ht]at h;obtain⟨cs,h1,_⟩:=h;exact⟨cs,h1⟩
theorem Tp.arg(ty:Tp)(hh:ty.has P t=true)(hv:Value.okWide P W r b t v)(h:DataW.Trod enc P W base spare held t v d p):∃x:ty.den,IsV (Hp.of W) ty v x/\ty.Ok x:=by
 obtain⟨f,hf⟩:=h;have h2:=hh;cases ty with
 | int k =>
   unfold Tp.has at hh;split at hh
   . rename_i k' ht;obtain⟨n,rfl⟩:=okWide_int ht hv;exact Tp.read (.int k) h2 hf
   . simp at hh
 | bool =>
   unfold Tp.has at hh;split at hh
   . rename_i ht;obtain⟨n,rfl⟩:=okWide_bool ht hv;exact Tp.read .bool h2 hf
   . simp at hh
 | str =>
   unfold Tp.has at hh;split at hh
   . rename_i ht;obtain⟨n,rfl⟩:=okWide_string ht hv;exact Tp.read .str h2 hf
   . simp at hh
 |ptr e=>simp[Tp.has]at hh
 | sl e =>
   unfold Tp.has at hh;split at hh
   . rename_i e' ht;obtain⟨a,n,c,rfl⟩:=okWide_slice ht hv;exact Tp.read (.sl e) h2 hf
   . simp at hh
 | emp =>
   unfold Tp.has at hh;split at hh
   . rename_i fs ht;obtain⟨cs,rfl,_⟩:=okWide_struct ht hv;obtain⟨x,hx,ok⟩:=Tp.read .emp h2 hf;exact⟨x,⟨cs.toList,by simp,hx⟩,ok⟩
   . simp at hh
 | one a =>
   unfold Tp.has at hh;split at hh
   . rename_i fs ht;obtain⟨cs,rfl,_⟩:=okWide_struct ht hv;obtain⟨x,hx,ok⟩:=Tp.read (.one a) h2 hf;exact⟨x,⟨cs.toList,by simp,hx⟩,ok⟩
   . rename_i n e ht;obtain⟨cs,rfl⟩:=zQ ht hv;obtain⟨x,hx,ok⟩:=Tp.read (.one a) h2 hf;exact⟨x,⟨cs.toList,by simp,hx⟩,ok⟩
   . simp at hh
 | cons a q =>
   unfold Tp.has at hh;split at hh
   . rename_i fs ht;obtain⟨cs,rfl,_⟩:=okWide_struct ht hv;obtain⟨x,hx,ok⟩:=Tp.read (.cons a q) h2 hf;exact⟨x,⟨cs.toList,by simp,hx⟩,ok⟩
   . rename_i n e ht;obtain⟨cs,rfl⟩:=zQ ht hv;obtain⟨x,hx,ok⟩:=Tp.read (.cons a q) h2 hf;exact⟨x,⟨cs.toList,by simp,hx⟩,ok⟩
   . simp at hh
end
end
theorem ob{α β:Type}{m:Option α}{k:α->Option β}{r:β}(h:m.bind k=some r):∃x,m=some x/\k x=some r:=by
 cases m with
 |none=>cases h
 |some x=>exact⟨x,rfl,h⟩
theorem ct{α:Type}{c:Bool}{x y:Option α}{r:α}(hc:c=true)(h:cond c x y=some r):x=some r:=by subst hc;exact h
theorem cf{α:Type}{c:Bool}{x y:Option α}{r:α}(hc:c=false)(h:cond c x y=some r):y=some r:=by subst hc;exact h
def aa{α:Type}(l:List α)(i:Int):Option α:=if 0<=i then l[i.toNat]? else none
theorem dY{α:Type}{l:List α}{i:Int}{x:α}(h:aa l i=some x):0<=i/\l[i.toNat]?=some x/\i<(l.length:Nat):=by
 unfold aa at h;split at h
 . have:=(V4.1 h).1;exact⟨by assumption,h,by omega⟩
 . cases h
theorem BY{α:Type}{l:List α}{i:Int}{k:Nat}(hi:i=k)(h:k<l.length):aa l i=some l[k]:=by
 subst hi;unfold aa;rw[if_pos (by omega)];simp[h]
def nz(b:Int):Option Unit:=if b=0 then none else some ()
theorem Cc{b:Int}{u:Unit}(h:nz b=some u):b≠0:=by unfold nz at h;split at h;cases h;assumption
theorem xK{b:Int}(h:b≠0):nz b=some ():=by unfold nz;rw[if_neg h]
def ge0(b:Int):Option Unit:=if 0<=b then some ()else none
theorem AV{b:Int}{u:Unit}(h:ge0 b=some u):0<=b:=by unfold ge0 at h;split at h;assumption;cases h
theorem xf{b:Int}(h:0<=b):ge0 b=some ():=by unfold ge0;rw[if_pos h]
def subL{α:Type}(l:List α)(lo hi:Int):Option (List α):=if 0<=lo/\lo<=hi/\hi<=(l.length:Nat)then some ((l.take hi.toNat).drop lo.toNat)else none
theorem jJ{α:Type}{l y:List α}{lo hi:Int}(h:subL l lo hi=some y):0<=lo/\lo<=hi/\hi<=(l.length:Nat)/\y=(l.take hi.toNat).drop lo.toNat:=by
 unfold subL at h;split at h
 . rename_i hh;cases h;exact⟨hh.1,hh.2.1,hh.2.2,rfl⟩
 . cases h
theorem dH{α:Type}{l:List α}{lo hi:Int}(h1:0<=lo)(h2:lo<=hi)(h3:hi<=(l.length:Nat)):subL l lo hi=some ((l.take hi.toNat).drop lo.toNat):=by unfold subL;rw[if_pos ⟨h1,h2,h3⟩]
def app{α:Type}(a b:List α):Option (List α):=if a.length+b.length<=1073741824 then some (a++b)else none
theorem jV{α:Type}{a b y:List α}(h:app a b=some y):a.length+b.length<=1073741824/\a++b=y:=by
 unfold app at h;split at h
 . rename_i hh;cases h;exact⟨hh,rfl⟩
 . cases h
theorem aI{α:Type}{a b:List α}(h:a.length+b.length<=1073741824):app a b=some (a++b):=by unfold app;rw[if_pos h]
def lim{α:Type}(g:Nat->Option α):Option α:=open Classical in if h:∃n,(g n).isSome then g h.choose else none
theorem IQ{α:Type}{g:Nat->Option α}{r:α}(h:lim g=some r):∃n,g n=some r:=by
 unfold lim at h;split at h
 . exact⟨_,h⟩
 . cases h
theorem Lw{α:Type}{g:Nat->Option α}{r:α}{n:Nat}(h:g n=some r)(hu:∀m x,g m=some x->x=r):lim g=some r:=by
 unfold lim;have hex:∃n,(g n).isSome:=⟨n,by rw[h];rfl⟩
 rw[dif_pos hex];have:=hex.choose_spec;cases hg:g hex.choose with
 |none=>rw[hg]at this;cases this
 |some x=>rw[hu _ x hg]
def cN{σ β:Type}(body:σ->Option (σ⊕β)):Nat->σ->Option β
 |0,_=>none
 |n+1,s=>(body s).bind fun r=>match r with|.inl s'=>cN body n s'|.inr b=>some b
def loop{σ β:Type}(body:σ->Option (σ⊕β))(s:σ):Option β:=lim (fun n=>cN body n s)
theorem A0{σ β:Type}{body:σ->Option (σ⊕β)}:∀{n m:Nat} {s:σ} {x y:β},cN body n s=some x->cN body m s=some y->x=y
 |0,_,_,_,_,h,_=>by cases h
 |_+1,0,_,_,_,_,h=>by cases h
 | n + 1,m + 1,s,x,y,h,k=>by
   unfold cN at h k;cases hb:body s with
   |none=>rw[hb]at h;cases h
   | some r =>
     rw[hb]at h k;cases r with
     |inl s'=>exact A0 (n:=n) (m:=m) h k
     |inr b=>cases h;cases k;rfl
theorem vb{σ β:Type}{body:σ->Option (σ⊕β)}{s:σ}{r:β}(h:loop body s=some r):∃n,cN body n s=some r:=IQ h
theorem wM{σ β:Type}{body:σ->Option (σ⊕β)}{s:σ}{r:β}{n:Nat}(h:cN body n s=some r):loop body s=some r:=Lw (n:=n) h (fun m x hx=>A0 hx h)
theorem qh{σ β:Type}{body:σ->Option (σ⊕β)}{s s':σ}(h:body s=some (.inl s')):loop body s=loop body s':=by
 cases hl:loop body s' with
 | some r =>
   obtain⟨n,hn⟩:=vb hl;exact wM (n:=n+1) (by unfold cN;rw[h];exact hn)
 | none =>
   cases hl2:loop body s with
   |none=>rfl
   | some r =>
     obtain⟨n,hn⟩:=vb hl2;cases n with
     |zero=>cases hn
     | succ n =>
       unfold cN at hn;rw[h]at hn;rw[wM (n:=n) hn]at hl;cases hl
theorem iA{σ β:Type}{body:σ->Option (σ⊕β)}{s:σ}{b:β}(h:body s=some (.inr b)):loop body s=some b:=wM (n:=1) (by unfold cN;rw[h];rfl)
theorem aW{σ β:Type}{body:σ->Option (σ⊕β)}(I:σ->Prop)(μ:σ->Nat){Q:β->Prop}(hb:∀s,I s->(∃s',body s=some (.inl s')/\I s'/\μ s'<μ s)\/∃b,body s=some (.inr b)/\Q b){s:σ}(h:I s):∃b,loop body s=some b/\Q b:=by
 generalize hm:μ s=m
 induction m using dP0 generalizing s with
 | _ m ih =>
   rcases hb s h with⟨s',h1,h2,h3⟩|⟨b,h1,h2⟩
   . rw[qh h1];exact ih _ (by omega) h2 rfl
   . exact⟨b,iA h1,h2⟩
theorem Bx{σ β:Type}{body:σ->Option (σ⊕β)}(I:σ->Prop)(μ:σ->Nat){b:β}(hb:∀s,I s->(∃s',body s=some (.inl s')/\I s'/\μ s'<μ s)\/body s=some (.inr b)){s:σ}(h:I s):loop body s=some b:=by
 obtain⟨b',h1,rfl⟩:=aW I μ (Q:=fun x=>x=b) (fun s hs=>by
   rcases hb s hs with h|h
   . exact .inl h
   . exact .inr ⟨b,h,rfl⟩) h
 exact h1
section
section
variable {P:Program}{n:Nat}{C:World->Prop}{ρ:Sl0}{d:Option Nat}{t:TypeId}{pos:String}{af:Array Edge}{g:Option (Nat×Bool)}{x y c:Operand}{u v:Value}
theorem V.mv(hx:ev n ρ x=v):Val P n C ρ ⟨d,.move x,t,pos,af,g⟩ v:=fun w _=>by subst hx;rfl
theorem V.as(hx:ev n ρ x=v):Val P n C ρ ⟨d,.assign x,t,pos,af,g⟩ v:=fun w _=>by subst hx;rfl
theorem V.pick{b:Bool}(hc:ev n ρ c=.bool b)(hv:(bif b then ev n ρ x else ev n ρ y)=v):Val P n C ρ ⟨d,.pick c x y,t,pos,af,g⟩ v:=fun w _=>by
 subst hv;cases b <;> simp[execOp,hc,asBool]
theorem V.pickT{b:Bool}(hc:ev n ρ c=.bool b)(hb:b=true)(hv:ev n ρ x=v):Val P n C ρ ⟨d,.pick c x y,t,pos,af,g⟩ v:=V.pick hc (by rw[hb];exact hv)
theorem V.pickF{b:Bool}(hc:ev n ρ c=.bool b)(hb:b=false)(hv:ev n ρ y=v):Val P n C ρ ⟨d,.pick c x y,t,pos,af,g⟩ v:=V.pick hc (by rw[hb];exact hv)
section
variable {k:IntKind}{a b:Int}{tx ty:TypeId}
theorem V.add(hx:ev n ρ x=.int k a)(hy:ev n ρ y=.int k b):Val P n C ρ ⟨d,.binOp .add tx x y ty,t,pos,af,g⟩ (.int k (k.wrap (a+b))):=fun w _=>by
 simp[execOp,eqGuard,binOp,hx,hy,Op.intArith]
theorem V.sub(hx:ev n ρ x=.int k a)(hy:ev n ρ y=.int k b):Val P n C ρ ⟨d,.binOp .sub tx x y ty,t,pos,af,g⟩ (.int k (k.wrap (a-b))):=fun w _=>by
 simp[execOp,eqGuard,binOp,hx,hy,Op.intArith]
theorem V.mul(hx:ev n ρ x=.int k a)(hy:ev n ρ y=.int k b):Val P n C ρ ⟨d,.binOp .mul tx x y ty,t,pos,af,g⟩ (.int k (k.wrap (a*b))):=fun w _=>by
 simp[execOp,eqGuard,binOp,hx,hy,Op.intArith]
theorem V.quo(hx:ev n ρ x=.int k a)(hy:ev n ρ y=.int k b)(hb:b≠0):Val P n C ρ ⟨d,.binOp .quo tx x y ty,t,pos,af,g⟩ (.int k (k.wrap (a.tdiv b))):=fun w _=>by
 simp[execOp,eqGuard,binOp,hx,hy,Op.intDiv,hb]
theorem V.rem(hx:ev n ρ x=.int k a)(hy:ev n ρ y=.int k b)(hb:b≠0):Val P n C ρ ⟨d,.binOp .rem tx x y ty,t,pos,af,g⟩ (.int k (a.tmod b)):=fun w _=>by
 simp[execOp,eqGuard,binOp,hx,hy,Op.intDiv,hb]
theorem V.and(hx:ev n ρ x=.int k a)(hy:ev n ρ y=.int k b):Val P n C ρ ⟨d,.binOp .and tx x y ty,t,pos,af,g⟩ (.int k (k.wrap ((X0 k.bits a &&& X0 k.bits b).toNat:Int))):=fun w _=>by
 simp[execOp,eqGuard,binOp,hx,hy,Op.intBits]
theorem V.or(hx:ev n ρ x=.int k a)(hy:ev n ρ y=.int k b):Val P n C ρ ⟨d,.binOp .or tx x y ty,t,pos,af,g⟩ (.int k (k.wrap ((X0 k.bits a ||| X0 k.bits b).toNat:Int))):=fun w _=>by
 simp[execOp,eqGuard,binOp,hx,hy,Op.intBits]
theorem V.xor(hx:ev n ρ x=.int k a)(hy:ev n ρ y=.int k b):Val P n C ρ ⟨d,.binOp .xor tx x y ty,t,pos,af,g⟩ (.int k (k.wrap ((X0 k.bits a ^^^ X0 k.bits b).toNat:Int))):=fun w _=>by
 simp[execOp,eqGuard,binOp,hx,hy,Op.intBits]
theorem V.andNot(hx:ev n ρ x=.int k a)(hy:ev n ρ y=.int k b):Val P n C ρ ⟨d,.binOp .andNot tx x y ty,t,pos,af,g⟩ (.int k (k.wrap ((X0 k.bits a &&& ~~~X0 k.bits b).toNat:Int))):=fun w _=>by
 simp[execOp,eqGuard,binOp,hx,hy,Op.intBits]
theorem V.lss(hx:ev n ρ x=.int k a)(hy:ev n ρ y=.int k b):Val P n C ρ ⟨d,.binOp .lss tx x y ty,t,pos,af,g⟩ (.bool (decide (a<b))):=fun w _=>by
 simp[execOp,eqGuard,binOp,hx,hy,Op.intCmp]
theorem V.leq(hx:ev n ρ x=.int k a)(hy:ev n ρ y=.int k b):Val P n C ρ ⟨d,.binOp .leq tx x y ty,t,pos,af,g⟩ (.bool (decide (a<=b))):=fun w _=>by
 simp[execOp,eqGuard,binOp,hx,hy,Op.intCmp]
theorem V.gtr(hx:ev n ρ x=.int k a)(hy:ev n ρ y=.int k b):Val P n C ρ ⟨d,.binOp .gtr tx x y ty,t,pos,af,g⟩ (.bool (decide (b<a))):=fun w _=>by
 simp[execOp,eqGuard,binOp,hx,hy,Op.intCmp]
theorem V.geq(hx:ev n ρ x=.int k a)(hy:ev n ρ y=.int k b):Val P n C ρ ⟨d,.binOp .geq tx x y ty,t,pos,af,g⟩ (.bool (decide (b<=a))):=fun w _=>by
 simp[execOp,eqGuard,binOp,hx,hy,Op.intCmp]
theorem V.eql(hx:ev n ρ x=.int k a)(hy:ev n ρ y=.int k b):Val P n C ρ ⟨d,.binOp .eql tx x y ty,t,pos,af,g⟩ (.bool (decide (a=b))):=fun w _=>by
 simp[execOp,eqGuard,binOp,hx,hy,Op.intCmp];exact by0 a b
theorem V.neq(hx:ev n ρ x=.int k a)(hy:ev n ρ y=.int k b):Val P n C ρ ⟨d,.binOp .neq tx x y ty,t,pos,af,g⟩ (.bool (!decide (a=b))):=fun w _=>by
 simp[execOp,eqGuard,binOp,hx,hy,Op.intCmp];rw[bne,by0]
theorem V.shl{k':IntKind}(hx:ev n ρ x=.int k a)(hy:ev n ρ y=.int k' b)(hb:0<=b):Val P n C ρ ⟨d,.binOp .shl tx x y ty,t,pos,af,g⟩ (.int k (k.wrap (a*2 ^ (min b.toNat k.bits)))):=fun w _=>by
 have:¬ b<0:=by omega
 simp[execOp,eqGuard,binOp,hx,hy,Op.shift,this]
theorem V.shr{k':IntKind}(hx:ev n ρ x=.int k a)(hy:ev n ρ y=.int k' b)(hb:0<=b):Val P n C ρ ⟨d,.binOp .shr tx x y ty,t,pos,af,g⟩ (.int k (a.fdiv (2 ^ (min b.toNat k.bits)))):=fun w _=>by
 have:¬ b<0:=by omega
 simp[execOp,eqGuard,binOp,hx,hy,Op.shift,this]
theorem V.neg(hx:ev n ρ x=.int k a):Val P n C ρ ⟨d,.unOp .neg tx x,t,pos,af,g⟩ (.int k (k.wrap (0-a))):=fun w _=>by
 simp[execOp,Op.unary,hx,Op.intArith]
theorem V.conv{k':IntKind}{src dst:TypeId}(hs:P.underlying src=some (.int k))(hd:P.underlying dst=some (.int k'))(hx:ev n ρ x=.int k a):Val P n C ρ ⟨d,.convert src dst x,t,pos,af,g⟩ (.int k' (k'.wrap a)):=fun w _=>by
 simp[execOp,hx,convert,run_underlying hs,run_underlying hd,Conv.intToInt]
end
section
variable {a b:Bool}{tx ty:TypeId}
theorem V.not(hx:ev n ρ x=.bool a):Val P n C ρ ⟨d,.unOp .not tx x,t,pos,af,g⟩ (.bool (!a)):=fun w _=>by
 simp[execOp,Op.unary,hx]
theorem V.eqb(ht:P.underlying tx=some .bool)(hx:ev n ρ x=.bool a)(hy:ev n ρ y=.bool b):Val P n C ρ ⟨d,.binOp .eql tx x y ty,t,pos,af,g⟩ (.bool (a==b)):=fun w _=>by
 have:=run_eql_bool (P:=P) (w:=w) tx a b ht;simp only[execOp,hx,hy];simp[eqGuard,this]
theorem V.neb(ht:P.underlying tx=some .bool)(hx:ev n ρ x=.bool a)(hy:ev n ρ y=.bool b):Val P n C ρ ⟨d,.binOp .neq tx x y ty,t,pos,af,g⟩ (.bool (!(a==b))):=fun w _=>by
 have:=run_neq_bool (P:=P) (w:=w) tx a b ht;simp only[execOp,hx,hy];simp[eqGuard,this]
end
section
variable {a b:List UInt8}{tx ty:TypeId}
theorem bsl(a:List UInt8):(⟨a.toArray⟩:ByteArray).toList=a:=by rw[ByteArray.toList_eq]
theorem V.eqs(hx:ev n ρ x=.string ⟨a.toArray⟩)(hy:ev n ρ y=.string ⟨b.toArray⟩):Val P n C ρ ⟨d,.binOp .eql tx x y ty,t,pos,af,g⟩ (.bool (decide (a=b))):=fun w _=>by
 simp[execOp,eqGuard,binOp,hx,hy,Op.stringOp];exact by0 a b
theorem V.nes(hx:ev n ρ x=.string ⟨a.toArray⟩)(hy:ev n ρ y=.string ⟨b.toArray⟩):Val P n C ρ ⟨d,.binOp .neq tx x y ty,t,pos,af,g⟩ (.bool (!decide (a=b))):=fun w _=>by
 simp[execOp,eqGuard,binOp,hx,hy,Op.stringOp];rw[by0 a b]
theorem V.cat{z:List UInt8}(hx:ev n ρ x=.string ⟨a.toArray⟩)(hy:ev n ρ y=.string ⟨b.toArray⟩)(hz:app a b=some z):Val P n C ρ ⟨d,.binOp .add tx x y ty,t,pos,af,g⟩ (.string ⟨z.toArray⟩):=fun w _=>by
 obtain⟨h,rfl⟩:=jV hz;have h1:¬ ((9223372036854775807:Int)<(a.length:Int)+(b.length:Int)):=by omega
 have h2:(⟨a.toArray⟩++⟨b.toArray⟩:ByteArray)=⟨(a++b).toArray⟩:=Hx a b;have h3:((IntKind.i64.max:Int))=9223372036854775807:=rfl;simp[execOp,eqGuard,binOp,hx,hy,Op.stringOp,dx0,h1,h2,h3]
theorem V.lens(ht:P.underlying tx=some .string)(hx:ev n ρ x=.string ⟨a.toArray⟩):Val P n C ρ ⟨d,.call ⟨.builtin .len,#[x],#[tx]⟩,t,pos,af,g⟩ (.int .i64 (a.length:Nat)):=fun w _=>by
 simp[execOp,resolve,invoke,builtin,hx,Builtin.len_,run_underlying ht,goInt];rfl
end
theorem V.len{tx e:TypeId}{ad:Option Addr}{m cp:Nat}(ht:P.underlying tx=some (.slice e))(hx:ev n ρ x=.slice ad m cp):Val P n C ρ ⟨d,.call ⟨.builtin .len,#[x],#[tx]⟩,t,pos,af,g⟩ (.int .i64 (m:Nat)):=fun w _=>by
 simp[execOp,resolve,invoke,builtin,hx,Builtin.len_,run_underlying ht,goInt]
theorem V.cap{tx e:TypeId}{ad:Option Addr}{m cp:Nat}(ht:P.underlying tx=some (.slice e))(hx:ev n ρ x=.slice ad m cp):Val P n C ρ ⟨d,.call ⟨.builtin .cap,#[x],#[tx]⟩,t,pos,af,g⟩ (.int .i64 (cp:Nat)):=fun w _=>by
 simp[execOp,resolve,invoke,builtin,hx,Builtin.cap_,run_underlying ht,goInt]
theorem V.ext{i:Nat}{vs:Array Value}(hx:ev n ρ x=.tuple vs)(hv:vs[i]?=some v):Val P n C ρ ⟨d,.extract x i,t,pos,af,g⟩ v:=fun w _=>by
 simp[execOp,hx,Instr.extract,hv]
theorem bB(b o m:Nat):(⟨b,o,none⟩:Addr).add m=⟨b,o+m,none⟩:=by
 unfold Addr.add;split
 . rename_i h;subst h;rfl
 . rfl
theorem V.fad{s:TypeId}{fs:Array Field}{f:Field}{i b o:Nat}(hs:P.underlying s=some (.struct fs))(hf:fs[i]?=some f)(hz:P.cellsOf f.type≠0)(hx:ev n ρ x=.pointer (some ⟨b,o,none⟩)) :
   Val P n C ρ ⟨d,.fieldAddr s x i,t,pos,af,g⟩ (.pointer (some ⟨b,o+f.offset,none⟩)):=fun w _=>by
 unfold Program.cellsOf at hz;cases hi:P.info? f.type with
 |none=>rw[hi]at hz;simp at hz
 | some i' =>
   rw[hi]at hz;simp at hz;simp[execOp,hx,Instr.fieldAt,run_underlying hs,hf,Instr.sureAddr,fieldPlace,sizeOf,typeInfo,hi,hz,bB]
theorem V.iad{tx e:TypeId}{ad:Option Addr}{b o m cp:Nat}{i:Int}{k:IntKind}{sz:Nat}(ht:P.underlying tx=some (.slice e))(hz:(P.info? e).map (·.size)=some sz)(hx:ev n ρ x=.slice ad m cp)(he:ad=some ⟨b,o,none⟩)(hy:ev n ρ y=.int k i)(h0:0<=i)(h1:i<(m:Int)) :
   Val P n C ρ ⟨d,.indexAddr tx x y,t,pos,af,g⟩ (.pointer (some ⟨b,o+i.toNat*sz,none⟩)):=fun w _=>by
 subst he;cases hi:P.info? e with
 |none=>rw[hi]at hz;simp at hz
 | some i' =>
   rw[hi]at hz;simp at hz;simp[execOp,hx,hy,Instr.indexAt,asIntOf,run_underlying ht,h0,h1,sizeOf,typeInfo,hi,hz,bB]
theorem V.ixs{tx:TypeId}{s:List UInt8}{i:Int}{k:IntKind}{q:UInt8}(ht:P.underlying tx=some .string)(hx:ev n ρ x=.string ⟨s.toArray⟩)(hy:ev n ρ y=.int k i)(h0:0<=i)(h1:s[i.toNat]?=some q) :
   Val P n C ρ ⟨d,.index tx x y,t,pos,af,g⟩ (.int .u8 (q.toNat:Nat)):=fun w _=>by
 have hl:i.toNat<s.length:=(V4.1 h1).1;have hq:s[i.toNat]=q:=(V4.1 h1).2;have h2:(⟨s.toArray⟩:ByteArray)[i.toNat]?=some q:=by
   show (if h:i.toNat<(⟨s.toArray⟩:ByteArray).size then some ((⟨s.toArray⟩:ByteArray)[i.toNat])else none)=some q;rw[dif_pos (show i.toNat<(⟨s.toArray⟩:ByteArray).size by simpa[dx0]using hl)];show some (s.toArray[i.toNat])=_;simp[hq]
 simp[execOp,hx,hy,Instr.index,asIntOf,run_underlying ht,h0,h2]
theorem V.slc{tx e:TypeId}{lo hi:Option Operand}{b o m cp l h sz:Nat}(ht:P.underlying tx=some (.slice e))(hz:(P.info? e).map (·.size)=some sz)(hx:ev n ρ x=.slice (some ⟨b,o,none⟩) m cp)
   (hl:∀q,lo=some q->∃k,ev n ρ q=.int k (l:Nat)) (hl0:lo=none->l=0) (hh:∀q,hi=some q->∃k,ev n ρ q=.int k (h:Nat)) (hh0:hi=none->h=m) (h1:l<=h) (h2:h<=m) (h3:m<=cp) :
   Val P n C ρ ⟨d,.slice tx x lo hi none,t,pos,af,g⟩ (.slice (some (if cp=l then⟨b,o,none⟩else⟨b,o+l*sz,none⟩)) (h-l) (cp-l)):=fun w _=>by
 cases hi':P.info? e with
 |none=>rw[hi']at hz;simp at hz
 | some i' =>
   rw[hi']at hz;simp at hz;have a2:h<=cp:=by omega
   cases lo with
   | none =>
     obtain rfl:=hl0 rfl;cases hi with
     | none =>
       obtain rfl:=hh0 rfl;simp[execOp,hx,Instr.sliceAt,run_underlying ht,Instr.slice,Instr.sliceBounds,sizeOf,typeInfo,hi',bB]
     | some q =>
       obtain⟨k,hq⟩:=hh q rfl;simp[execOp,hx,hq,Instr.sliceAt,run_underlying ht,Instr.slice,Instr.sliceBounds,Instr.sliceBound,asIntOf,a2,sizeOf,typeInfo,hi',bB]
       try (by_cases q:cp=l <;> simp[q])
   | some ql =>
     obtain⟨k1,hq1⟩:=hl ql rfl;cases hi with
     | none =>
       obtain rfl:=hh0 rfl;simp[execOp,hx,hq1,Instr.sliceAt,run_underlying ht,Instr.slice,Instr.sliceBounds,Instr.sliceBound,asIntOf,h1,sizeOf,typeInfo,hi',hz,bB]
       try (by_cases q:cp=l <;> simp[q])
     | some q =>
       obtain⟨k,hq⟩:=hh q rfl;simp[execOp,hx,hq,hq1,Instr.sliceAt,run_underlying ht,Instr.slice,Instr.sliceBounds,Instr.sliceBound,asIntOf,h1,a2,sizeOf,typeInfo,hi',hz,bB]
       try (by_cases q:cp=l <;> simp[q])
theorem V.nck{b o:Nat}(hx:ev n ρ x=.pointer (some ⟨b,o,none⟩)):Val P n C ρ ⟨d,.nilCheck x,t,pos,af,g⟩ (.pointer (some ⟨b,o,none⟩)):=fun w _=>by
 simp[execOp,hx]
theorem V.mkf{f:FuncId}{xs:Array Operand}{caps:Array Value}(h':xs.toList.map (ev n ρ)=caps.toList):Val P n C ρ ⟨d,.makeFunc (.func f) #[] xs,t,pos,af,g⟩ (.func (.func f) #[] caps):=fun w _=>by
 have h:xs.map (ev n ρ)=caps:=cN0 (by simpa using h');simp[execOp,Instr.makeFunc,h]
theorem zP{P:Program}{tx e:TypeId}(ht:P.underlying tx=some (.pointer e)):P.underlying tx=some (.pointer (P.pointee tx)):=by
 rw[ht];simp[Program.pointee,ht]
theorem V.pn_eql{tx ty e:TypeId}{p:Option Addr}(ht:P.underlying tx=some (.pointer e))(hx:ev n ρ x=.pointer p)(hy:ev n ρ y=.pointer none):Val P n C ρ ⟨d,.binOp .eql tx x y ty,t,pos,af,g⟩ (.bool p.isNone):=fun w _=>by
 have:=run_eql_pointer_nil (P:=P) (w:=w) tx p (zP ht);simp only[execOp,hx,hy];simp[eqGuard,this]
theorem V.pn_neq{tx ty e:TypeId}{p:Option Addr}(ht:P.underlying tx=some (.pointer e))(hx:ev n ρ x=.pointer p)(hy:ev n ρ y=.pointer none):Val P n C ρ ⟨d,.binOp .neq tx x y ty,t,pos,af,g⟩ (.bool (!p.isNone)):=fun w _=>by
 have:=run_neq_pointer_nil (P:=P) (w:=w) tx p (zP ht);simp only[execOp,hx,hy];simp[eqGuard,this]
theorem V.subs{tx:TypeId}{s z:List UInt8}{lo hi:Option Operand}{l h:Int}(ht:P.underlying tx=some .string)(hx:ev n ρ x=.string ⟨s.toArray⟩)(hl:∀q,lo=some q->∃k,ev n ρ q=.int k l)(hl0:lo=none->l=0)(hh:∀q,hi=some q->∃k,ev n ρ q=.int k h)(hh0:hi=none->h=(s.length:Nat))(hz:subL s l h=some z) :
   Val P n C ρ ⟨d,.slice tx x lo hi none,t,pos,af,g⟩ (.string ⟨z.toArray⟩):=fun w _=>by
 obtain⟨a1,a2,a3,rfl⟩:=jJ hz;obtain⟨l,rfl⟩:=W6 a1;obtain⟨h,rfl⟩:=W6 (show 0<=h by omega);have b1:l<=h:=by omega
 have b2:h<=s.length:=by omega
 have e:(⟨s.toArray⟩:ByteArray).extract l h=⟨((s.take h).drop l).toArray⟩:=by
   apply ByteArray.ext;simp[ByteArray.data_extract];rw[dv0]
 have hsz:(⟨s.toArray⟩:ByteArray).size=s.length:=by simp[dx0]
 simp only[W2];cases lo with
 | none =>
   have h0:=hl0 rfl;obtain rfl:l=0:=by omega
   cases hi with
   | none =>
     have h1:=hh0 rfl;obtain rfl:h=s.length:=by omega
     rw[<- hsz]at e ⊢;simp[execOp,hx,Instr.sliceAt,run_underlying ht,Instr.slice,Instr.sliceBounds];rw[hsz,Y9]
   | some q =>
     obtain⟨k,hq⟩:=hh q rfl;simp[execOp,hx,hq,Instr.sliceAt,run_underlying ht,Instr.slice,Instr.sliceBounds,Instr.sliceBound,asIntOf,hsz,b2,e]
 | some ql =>
   obtain⟨k1,hq1⟩:=hl ql rfl;cases hi with
   | none =>
     have h1:=hh0 rfl;obtain rfl:h=s.length:=by omega
     simp[execOp,hx,hq1,Instr.sliceAt,run_underlying ht,Instr.slice,Instr.sliceBounds,Instr.sliceBound,asIntOf,hsz,b1,e]
   | some q =>
     obtain⟨k,hq⟩:=hh q rfl;simp[execOp,hx,hq,hq1,Instr.sliceAt,run_underlying ht,Instr.slice,Instr.sliceBounds,Instr.sliceBound,asIntOf,hsz,b1,b2,e]
end
end
section
def Els(K:Hp)(t:Tp):List Value->List t.den->Prop
 |cs,[]=>cs=[]
 |cs,x::xs=>∃es r,cs=es++r/\Is K t es x/\Els K t r xs
theorem Els.len{K:Hp}{t:Tp}:∀{xs:List t.den} {cs:List Value},Els K t cs xs->cs.length=xs.length*t.size
 |[],cs,h=>by subst h;simp
 | x :: xs,cs,h=>by
   obtain⟨es,r,rfl,h1,h2⟩:=h;rw[W3,h1.len,Els.len h2,V9,aC0];omega
theorem Els.mono{K K':Hp}(f:K.le K'){t:Tp}:∀{xs:List t.den} {cs:List Value},Els K t cs xs->Els K' t cs xs
 |[],cs,h=>h
 | x :: xs,cs,h=>by
   obtain⟨es,r,rfl,h1,h2⟩:=h;exact⟨es,r,rfl,h1.mono f,Els.mono f h2⟩
theorem Els.app{K:Hp}{t:Tp}:∀{xs:List t.den} {cs:List Value} {ys:List t.den} {ds:List Value},Els K t cs xs->Els K t ds ys->Els K t (cs++ds) (xs++ys)
 |[],cs,ys,ds,h,k=>by subst h;exact k
 | x :: xs,cs,ys,ds,h,k=>by
   obtain⟨es,r,rfl,h1,h2⟩:=h;exact⟨es,r++ds,by simp,h1,Els.app h2 k⟩
theorem Els.get{K:Hp}{t:Tp}:∀{xs:List t.den} {cs:List Value},Els K t cs xs->∀(i:Nat) x,xs[i]?=some x->∃es,es.length=t.size/\Is K t es x/\∀j,j<t.size->cs[i*t.size+j]?=es[j]?
 |[],cs,h,i,x,hx=>by simp at hx
 | y :: xs,cs,h,0,x,hx=>by
   obtain⟨es,r,rfl,h1,h2⟩:=h;simp at hx;subst hx;exact⟨es,h1.len,h1,fun j hj=>by rw[bO0,Y8,V6 (by rw[h1.len];exact hj)]⟩
 | y :: xs,cs,h,i + 1,x,hx=>by
   obtain⟨es,r,rfl,h1,h2⟩:=h;obtain⟨es',l',h3,h4⟩:=Els.get h2 i x (by simpa using hx);refine⟨es',l',h3,fun j hj=>?_⟩;rw[V5 (by rw[h1.len,aC0];omega),h1.len,<- h4 j hj]
   congr 1;rw[aC0];omega
theorem Els.set{K:Hp}{t:Tp}:∀{xs:List t.den} {cs:List Value},Els K t cs xs->∀(i:Nat) (x y:t.den),xs[i]?=some x->∀(j:Nat) (u:Value),j<t.size->(∀es,Is K t es x->Is K t (es.set j u) y)->Els K t (cs.set (i*t.size+j) u) (xs.set i y)
 |[],cs,h,i,x,y,hx,_,_,_,_=>by simp at hx
 | z :: xs,cs,h,0,x,y,hx,j,u,hj,hs=>by
   obtain⟨es,r,rfl,h1,h2⟩:=h;simp at hx;subst hx;refine⟨es.set j u,r,?_,hs es h1,h2⟩;rw[bO0,Y8,List.set_append_left _ _ (by rw[h1.len];exact hj)]
 | z :: xs,cs,h,i + 1,x,y,hx,j,u,hj,hs=>by
   obtain⟨es,r,rfl,h1,h2⟩:=h;refine⟨es,r.set (i*t.size+j) u,?_,h1,Els.set h2 i x y (by simpa using hx) j u hj hs⟩;rw[bu0 _ _ (by rw[h1.len,aC0];omega),h1.len]
   congr 2;rw[aC0];omega
def Tp.flat:Tp->Bool
 |.sl _|.ptr _=>false
 |.one a=>a.flat
 |.cons a r=>a.flat&&r.flat
 |_=>true
theorem Is.flat{K K':Hp}:∀{t:Tp} (h:t.flat=true) {cs:List Value} {d:t.den},Is K t cs d->Is K' t cs d
 |.int _,_,_,_,h=>h
 |.bool,_,_,_,h=>h
 |.str,_,_,_,h=>h
 |.emp,_,_,_,h=>h
 |.sl _,hf,_,_,_=>by cases hf
 |.ptr _,hf,_,_,_=>by cases hf
 |.one a,hf,_,_,h=>Is.flat (t:=a) hf h
 | .cons a r,hf,_,_,h=>by
   simp only[Tp.flat,Y1]at hf;simp only[Is]at h ⊢;obtain⟨c1,c2,rfl,h1,h2,h3⟩:=h;exact⟨c1,c2,rfl,h1,Is.flat hf.1 h2,Is.flat hf.2 h3⟩
theorem Els.flat{K K':Hp}{t:Tp}(hf:t.flat=true):∀{xs:List t.den} {cs:List Value},Els K t cs xs->Els K' t cs xs
 |[],cs,h=>h
 | x :: xs,cs,h=>by
   obtain⟨es,r,rfl,h1,h2⟩:=h;exact⟨es,r,rfl,h1.flat hf,Els.flat hf h2⟩
def Row(K:Hp)(e:TypeId)(t:Tp)(v:Value)(xs:List t.den):ah:=fun h=>∃cs,Els K t cs xs/\Rw e t.size v xs.length cs h
section
variable {K K':Hp}{e:TypeId}{t:Tp}{v:Value}{xs:List t.den}{E:En}{L:List ah}{w:World}
theorem Row.mono(f:K.le K'):∀h,Row K e t v xs h->Row K' e t v xs h:=fun h ⟨cs,h1,h2⟩=>⟨cs,h1.mono f,h2⟩
def Cells(K:Hp)(b:Nat):Nat->List Value->Prop
 |_,[]=>True
 |o,v::vs=>be K b o=some v/\Cells K b (o+1) vs
theorem Row.form:∀h,Row K e t v xs h->∃ad cap,v=.slice ad xs.length cap/\xs.length<=cap/\cap<=maxLen/\(xs≠[]->∃g,ad=some ⟨g,0,none⟩):=by
 rintro h ⟨cs,h1,h2,h3⟩
 rcases h3 with⟨h3,h4,_⟩|⟨g,cap,cur,h3,_,h4,h5,_⟩
 . exact⟨none,0,h3,by omega,by simp,fun hne=>absurd (Z4.1 h4) hne⟩
 . exact⟨_,cap,h3,h4,h5,fun _=>⟨g,rfl⟩⟩
theorem Row.nil:Row K e t (.slice none 0 0) [] Hp.nil:=⟨[],rfl,by simp,.inl ⟨rfl,rfl,rfl⟩⟩
theorem Sep.rowNil(h:Sep E K L w):Sep E K (Row Hp.nil e t (.slice none 0 0) []::L) w:=h.emp.mono (fun h e=>by obtain rfl:h=Hp.nil:=e;exact Row.nil)
theorem Rw.cells{k n:Nat}{cs:List Value}{K0:Hp}(h:Rw e k v n cs K0):∀i u,cs[i]?=some u->∃g cap,v=.slice (some ⟨g,0,none⟩) n cap/\be K0 g i=some u:=by
 intro i u hu;obtain⟨hl,h⟩:=h;have hi:i<cs.length:=(V4.1 hu).1
 rcases h with⟨_,h0,_⟩|⟨g,cap,cur,rfl,rfl,hn,hm,hs,ht⟩
 . rw[h0,bO0]at hl;omega
 . refine⟨g,cap,rfl,?_⟩;simp only[be,one,if_true];rw[<- ht,aM0]at hu;split at hu
   . simpa using hu
   . cases hu
theorem Row.is{K0:Hp}(h:Row K e t v xs K0)(k1:K.le K')(k2:K0.le K')(h0:0<t.size):Is K' (.sl t) [v] xs:=by
 obtain⟨ad,cap,rfl,h1,h2,h3⟩:=Row.form K0 h;obtain⟨cs,h4,h5⟩:=h;simp only[Is];refine⟨ad,cap,rfl,h1,h2,fun hne=>?_⟩;obtain⟨g,rfl⟩:=h3 hne;refine⟨g,0,rfl,fun k x hx=>?_⟩;obtain⟨es,hl,hi,hc⟩:=h4.get k x hx;refine⟨es,hl,hi.mono k1,fun j hj=>?_⟩;have:=hc j hj;rw[Z0 (show j<es.length by omega)]at this ⊢;obtain⟨g',cap',hv,hcell⟩:=h5.cells _ _ this;simp at hv;obtain⟨rfl,rfl⟩:=hv;rw[Y8];exact gt k2 hcell
theorem Sep.persistCl{b:Nat}{cs:List Value}(hs:Sep E K (Cl b e cs::L) w):∃K',K.le K'/\(∀i u,cs[i]?=some u->be K' b i=some u)/\Sep E K' L w:=by
 obtain⟨h,rfl,hd,hs⟩:=hs;refine⟨_,Hp.le_join K _,fun i u hu=>?_,hs⟩;have:K.join (one b (.cells cs.toArray e (0,0))) b=some (.cells cs.toArray e (0,0)):=Hp.join_right (by simp[one]) (hd b (.cells cs.toArray e (0,0)) (by simp[one]));simp[be,this,hu]
end
section
variable {P:Program}{E:En}{n:Nat}{C:World->Prop}{ρ:Sl0}{K:Hp}{R L:List ah}{d:Option Nat}{t:TypeId}{pos:String}{af:Array Edge}{g:Option (Nat×Bool)}{x y c:Operand}{u v:Value}
def Rd(C:World->Prop)(b o:Nat)(v:Value):Prop:=∀w,C w->w.cell? ⟨b,o,none⟩=some v
theorem Rd.k{b o:Nat}{v:Value}{K0:Hp}(h:be K0 b o=some v)(k:K0.le K):Rd (Hold E K R) b o v:=fun w ⟨K',L',h1,h2⟩=>dX ((k.trans h1).trans h2.sub) h
theorem notAgg_int{P:Program}{t:TypeId}{k:IntKind}(h:P.underlying t=some (.int k)):(P.underlying t).any (fun d=>match d with |.struct _|.array _ _=>true|_=>false)=false:=by rw[h];rfl
def cV(P:Program)(t:TypeId):Bool:=match P.underlying t with|some (.struct _)|some (.array _ _)|none=>false|_=>true
theorem Aq{P:Program}{t:TypeId}(w:World)(h:cV P t=true):(isAgg t).run P w=.ok false w:=by
 unfold cV at h;cases ht:P.underlying t with
 |none=>rw[ht]at h;simp at h
 |some dsc=>rw[ht]at h;simp[isAgg,run_underlying ht];cases dsc <;> simp_all
end
end
section
def Inf(P:Program)(e:TypeId)(z:Value)(size bytes:Nat):Prop:=(P.info? e).map (fun i=>(i.zero,i.size,i.bytes))=some (some z,size,bytes)
theorem Inf.open{P:Program}{e:TypeId}{z:Value}{size bytes:Nat}(h:Inf P e z size bytes):∃i,P.info? e=some i/\i.zero=some z/\i.size=size/\i.bytes=bytes:=by
 unfold Inf at h;cases hi:P.info? e with
 |none=>rw[hi]at h;simp at h
 |some i=>rw[hi]at h;simp at h;exact⟨i,rfl,h⟩
theorem Is.one'{K:Hp}:∀{t:Tp} {cs:List Value} {d:t.den},Is K t cs d->∀u∈cs,u.oneCell'=true
 |.int _,cs,d,h=>by simp only[Is]at h;subst h;intro u hu;simp at hu;subst hu;rfl
 |.bool,cs,d,h=>by simp only[Is]at h;subst h;intro u hu;simp at hu;subst hu;rfl
 |.str,cs,d,h=>by simp only[Is]at h;subst h;intro u hu;simp at hu;subst hu;rfl
 |.sl e,cs,d,h=>by simp only[Is]at h;obtain⟨_,_,rfl,_⟩:=h;intro u hu;simp at hu;subst hu;rfl
 |.ptr e,cs,d,h=>by simp only[Is]at h;rcases h with⟨_,rfl⟩|⟨_,_,_,_,rfl,_⟩ <;> (intro u hu;simp at hu;subst hu;rfl)
 |.emp,cs,d,h=>by simp only[Is]at h;subst h;intro u hu;simp at hu
 |.one a,cs,d,h=>Is.one' (t:=a) (by simpa only[Is]using h)
 | .cons a r,cs,d,h=>by
   simp only[Is]at h;obtain⟨c1,c2,rfl,h1,h2,h3⟩:=h;intro u hu
   rcases V3.1 hu with hu|hu
   . exact Is.one' h2 u hu
   . exact Is.one' h3 u hu
theorem Els.one'{K:Hp}{t:Tp}:∀{xs:List t.den} {cs:List Value},Els K t cs xs->∀u∈cs,u.oneCell'=true
 |[],cs,h=>by subst h;intro u hu;simp at hu
 | x :: xs,cs,h=>by
   obtain⟨es,r,rfl,h1,h2⟩:=h;intro u hu
   rcases V3.1 hu with hu|hu
   . exact h1.one' u hu
   . exact Els.one' h2 u hu
section
variable {E:En}{L:List ah}{K:Hp}{w:World}
theorem bn(b:Nat)(o:Obj):one b o b=some o:=by simp[one]
theorem Sep.setRow{b:Nat}{t:TypeId}{cs:List Value}(h:Sep E K (Cl b t cs::L) w)(ds:List Value):Sep E K (Cl b t ds::L) (w.setRow b ds.toArray):=by
 have hb:=h.cl;refine Sep.turn h (fun e=>e) (fun h0 ha _=>?_);obtain rfl:h0=_:=ha;refine⟨_,rfl,fun n o e=>?_,fun n o e h1=>?_⟩
 . obtain⟨rfl,rfl⟩:=cv e;exact⟨setRow_heap w n _ _ t (0,0) hb,fun h=>by rw[bn]at h;cases h⟩
 . have hn:n≠b:=fun e=>by subst e;rw[bn]at h1;cases h1
   rw[setRow_other w b n _ hn];exact e
end
def dk:List Value->Nat->List Value->List Value
 |cs,_,[]=>cs
 |cs,o,v::vs=>dk (cs.set o v) (o+1) vs
def br(place:Nat->Option (Nat×Nat)):List Value->List (Nat×Value)->Option (List Value)
 |cs,[]=>some cs
 | cs,(i,v) :: r=>match place i with
   |none=>none
   |some (off,size)=>bif Y3 v.cells.toList.length size&&aT0 (off+v.cells.toList.length) cs.length then br place (dk cs off v.cells.toList) r else none
theorem zN{f g:Nat->Option (Nat×Nat)}(h:∀i p,f i=some p->g i=some p):∀{l:List (Nat×Value)} {z cs:List Value},br f z l=some cs->br g z l=some cs
 |[],z,cs,e=>e
 | (i,v) :: r,z,cs,e=>by
   unfold br at e ⊢;cases hf:f i with
   |none=>rw[hf]at e;cases e
   | some p =>
     rw[hf]at e;rw[h i p hf];dsimp only at e ⊢;cases hb:Y3 v.cells.toList.length p.snd&&aT0 (p.fst+v.cells.toList.length) z.length with
     |false=>rw[hb]at e;cases e
     |true=>rw[hb]at e;exact zN h e
theorem yY(off:Nat):∀(vs:List Value) (k:Nat) (cells:Array Value),((vs.zipIdx k).foldl (fun cs x=>cs.setIfInBounds (off+x.2) x.1) cells).toList=dk cells.toList (off+k) vs
 |[],k,cells=>rfl
 | v :: vs,k,cells=>by
   rw[List.zipIdx_cons,bF0,yY off vs (k+1)];simp[dk,aG0]
theorem jZ{place:Nat->Option (Nat×Nat)}:∀{parts:List (Nat×Value)} {cells:Array Value} {ds:List Value},br place cells.toList parts=some ds->Instr.fill place cells parts=some ds.toArray
 | [],cells,ds,h=>by
   unfold br at h;cases h;unfold Instr.fill;simp
 | (i, v) :: r, cells, ds, h => by
   unfold br at h;unfold Instr.fill;cases hp:place i with
   |none=>rw[hp]at h;cases h
   | some q =>
     obtain⟨off,size⟩:=q;rw[hp]at h;simp only at h ⊢;cases hb:(Y3 v.cells.toList.length size&&aT0 (off+v.cells.toList.length) cells.toList.length)with
     |false=>rw[hb]at h;cases h
     | true =>
       rw[hb]at h;simp only[cond_true]at h;rw[Y1]at hb;have h1:=Y0 hb.1;have h2:=W9 hb.2;simp only[Y5]at h1 h2;have hn:¬ ((decide (v.cells.size≠size)||decide (off+v.cells.size > cells.size))=true):=by simp;omega
       rw[if_neg hn];apply jZ;have e:(Array.foldl (fun cs (x:Value×Nat)=>cs.setIfInBounds (off+x.2) x.1) cells v.cells.zipIdx).toList=dk cells.toList off v.cells.toList:=by
         rw[<- eR0,Array.toList_zipIdx];exact yY off v.cells.toList 0 cells
       rw[e];exact h
def zrow:Nat->List Value->List Value
 |0,_=>[]
 |n+1,z=>z++zrow n z
theorem ix(z:List Value):∀n,(zrow n z).length=n*z.length
 |0=>by simp[zrow]
 |n+1=>by simp[zrow,ix z n,aC0];omega
theorem Bl(z:List Value)(hz:0<z.length):∀(n i:Nat),i<n*z.length->(zrow n z)[i]?=z[i % z.length]?
 |0,i,h=>by simp at h
 | n + 1,i,h=>by
   unfold zrow;rw[aC0]at h
   rcases aq0 i z.length with hi|hi
   . rw[V6 hi,ak0 hi]
   . rw[V5 hi,Bl z hz n (i-z.length) (by omega),co0 hi]
theorem ka(z:Array Value)(hz:0<z.size)(n:Nat):(bT0 (n*z.size)).map (z[· % z.size]!)=(zrow n z.toList).toArray:=by
 have hl:(zrow n z.toList).length=n*z.size:=by rw[ix,Y5]
 apply Array.ext
 . simp[hl]
 . intro i h1 h2;simp at h1;have h3:=Bl z.toList (by simpa using hz) n i (by simpa using h1);have hm:i % z.size<z.size:=bM0 _ hz;simp only[Y5,bA0,br0 hm,Z0 (show i<(zrow n z.toList).length by omega)]at h3;simp only[Array.getElem_map,Array.getElem_range,List.getElem_toArray];rw[getElem!_pos z (i % z.size) hm];exact (ap0 h3).symm
section
variable {P:Program}{E:En}{n:Nat}{ρ:Sl0}{K:Hp}{L:List ah}{d:Nat}{t:TypeId}{pos:String}{af:Array Edge}{g:Option (Nat×Bool)}{x y c:Operand}{u v:Value}
theorem Ao.of{o:Oper}{N:Sl0->Hp->List ah->Prop}(ho:o.dst=some d)(h:∀w,Sep E K L w->∃v w' K' L',(execOp (ev n ρ) o).run P w=.ok (.value v) w'/\Sep E K' L' w'/\N (upd ρ d v) K' L'):Ao P E n o ρ K L N:=by
 refine⟨fun w hs X Q hX=>?_⟩;obtain⟨v,w',K',L',h1,h2,h3⟩:=h w hs;unfold Oper.wp;rw[eval_act,h1,Oper.upon_value,ho,put_act];exact hX _ _ _ _ h3 h2
theorem A.alloc{e:TypeId}{z:Value}{sz bt:Nat}{cs:List Value}(hi:Inf P e z sz bt)(hcs:z.cells.toList=cs):Ao P E n ⟨some d,.alloc e,t,pos,af,g⟩ ρ K L (fun ρ' K' L'=>∃b,ρ'=upd ρ d (.pointer (some ⟨b,0,none⟩))/\K=K'/\L'=Cl b e cs::L) :=
 Ao.of rfl (fun w hs=>by
   subst hcs;obtain⟨i,h1,h2,_,_⟩:=hi.open;refine⟨_,_,K,_,?_,Sep.alloc hs e z.cells,w.heap.size,rfl,rfl,rfl⟩;simp[execOp,Instr.alloc,zeroValue,typeInfo,h1,h2,newVar,newRow])
theorem A.box{e:TypeId}{cs:List Value}(hx:ev n ρ x=v)(hcs:v.cells.toList=cs):Ao P E n ⟨some d,.box e x,t,pos,af,g⟩ ρ K L (fun ρ' K' L'=>∃b,ρ'=upd ρ d (.pointer (some ⟨b,0,none⟩))/\K=K'/\L'=Cl b e cs::L) :=
 Ao.of rfl (fun w hs=>by
   subst hcs;refine⟨_,_,K,_,?_,Sep.alloc hs e v.cells,w.heap.size,rfl,rfl,rfl⟩;simp[execOp,Instr.box,hx,newVar,newRow])
theorem Ao.ofU{o:Oper}{N:Sl0->Hp->List ah->Prop}(ho:o.dst=none)(h:∀w,Sep E K L w->∃w' K' L',(execOp (ev n ρ) o).run P w=.ok .skip w'/\Sep E K' L' w'/\N ρ K' L'):Ao P E n o ρ K L N:=by
 refine⟨fun w hs X Q hX=>?_⟩;obtain⟨w',K',L',h1,h2,h3⟩:=h w hs;unfold Oper.wp;rw[eval_act,h1,Oper.upon_skip,ho];exact hX _ _ _ _ h3 h2
theorem A.store{s e:TypeId}{b o sz:Nat}{cs:List Value}(hz:(P.info? s).map (·.size)=some sz)(hx:ev n ρ x=.pointer (some ⟨b,o,none⟩))(hy:ev n ρ y=v)(hl:v.cells.size=sz)(hl2':aT0 (o+sz) cs.length=true)(h1':v.cells.toList.all (fun u=>u.oneCell')=true){cs':List Value}(hcs:cs.take o++v.cells.toList++cs.drop (o+sz)=cs') :
   Ao P E n ⟨none,.store s x y,t,pos,af,g⟩ ρ K (Cl b e cs::L) (fun ρ' K' L'=>ρ=ρ'/\K=K'/\L'=Cl b e cs'::L):=by
 subst hcs;have hl2:=W9 hl2';have h1:∀u∈v.cells.toList,u.oneCell'=true:=aF0.1 h1'
 exact Ao.ofU rfl (fun w hs=>by
   refine⟨_,K,_,?_,Sep.setRow hs _,rfl,rfl,rfl⟩;cases hi:P.info? s with
   |none=>rw[hi]at hz;simp at hz
   | some i' =>
     rw[hi]at hz;simp at hz;have h2:=run_storeCells_at P b o e v.cells.toList 0 cs.toArray w hs.cl (by simp[hl];omega) h1;simp only[aD0,Y5,hl]at h2;simp[execOp,hx,hy,Instr.storeAt,Instr.sureAddr,storeVar,sizeOf,typeInfo,hi,hz,hl,h2])
theorem A.lit{s e:TypeId}{z:Value}{sz bt len:Nat}{parts:Array (Nat×Operand)}{cs0:List Value}{K0:Hp}{ty:Tp}{xs:List ty.den}(hs:P.underlying s=some (.slice e))(hi:Inf P e z sz bt)(hty:ty.size=sz)(hbig:len*sz<=16777216)
   (hzs:z.cells.size=sz) (hc0:br (fun i=>some (i*sz,sz)) (zrow len z.cells.toList) (parts.toList.map fun (i,x)=>(i,ev n ρ x))=some cs0) (hcs0:cs0.length=len*sz) (he0:Els K0 ty cs0 xs) (hlen:xs.length=len) (hpos:0<sz) :
   Ao P E n ⟨some d,.buildSlice s len parts,t,pos,af,g⟩ ρ K L (fun ρ' K' L'=>∃b,ρ'=upd ρ d (.slice (some ⟨b,0,none⟩) xs.length len)/\K=K'/\L'=Row K0 e ty (.slice (some ⟨b,0,none⟩) xs.length len) xs::L) :=
 Ao.of rfl (fun w hsep=>by
   obtain⟨i,h1,h2,h3,_⟩:=hi.open;obtain⟨cs,hcs',hcs,he⟩:∃cs:Array Value,cs=cs0.toArray/\cs.size=len*sz/\Els K0 ty cs.toList xs:=⟨_,rfl,by simpa using hcs0,by simpa using he0⟩
   have hc:Instr.fill (fun i=>some (i*sz,sz)) ((bT0 (len*sz)).map (z.cells[· % z.cells.size]!)) (parts.map fun (i,x)=>(i,ev n ρ x)).toList=some cs:=by
     have e:=ka z.cells (by omega) len;rw[hzs]at e;simp only[hzs];rw[e,hcs'];apply jZ;simpa using hc0
   refine⟨.slice (some ⟨w.heap.size,0,none⟩) xs.length len,_,K,_,?_,(Sep.alloc hsep e cs).mono (fun h hh=>?_),w.heap.size,rfl,rfl,rfl⟩
   . have hb:¬ (2 ^ 24<len*sz):=by omega
     by_cases h0:len*sz=0
     . have hl0:len=0:=by rcases ft0.1 h0 with h|h <;> omega
       subst hl0;simp only[bO0]at hc;have:Instr.fill (fun i=>some (i*sz,sz)) #[] (cE0 (fun x=>(x.1,ev n ρ x.2)) parts.toList)=some cs:=by simpa[bT0]using hc
       simp[execOp,Instr.buildSlice,run_underlying hs,sizeOf,typeInfo,h1,h3,newRow,hlen,this,(show bT0 0 = #[]from rfl)]
     . have hc':Instr.fill (fun i=>some (i*sz,sz)) ((bT0 (len*sz)).map (z.cells[· % z.cells.size]!)) (cE0 (fun x=>(x.1,ev n ρ x.2)) parts.toList)=some cs:=by simpa using hc
       have hm:len≠0/\sz≠0:=⟨fun h=>h0 (by simp[h]),fun h=>h0 (by simp[h])⟩;simp[execOp,Instr.buildSlice,run_underlying hs,sizeOf,typeInfo,h1,h2,h3,zeroValue,newRow,hlen,hb,hc']
       try (intro h;exact absurd h h0)
   . obtain rfl:h=_:=hh;exact⟨cs.toList,he,by simp[hcs,hlen,hty],.inr ⟨w.heap.size,len,cs,rfl,by simp,by omega,by unfold maxLen;have:len<=len*sz:=eg0 _ hpos;omega,by rw[hcs,hty],by rw[hlen,hty,<- hcs,<- Y5,Y9]⟩⟩)
end
end
section
section
variable {E:En}{L:List ah}{K:Hp}{w:World}
theorem Rw.owns{e:TypeId}{k n:Nat}{v:Value}{cs:List Value}{h:Hp}(hr:Rw e k v n cs h)(hle:h.le (Hp.of w)):w.ownsRow 0 e k v n cs:=by
 obtain⟨h1,h2⟩:=hr;refine⟨h1,?_⟩
 rcases h2 with⟨rfl,rfl,_⟩|⟨g,cap,cur,rfl,rfl,h3,h4,h5,h6⟩
 . exact .inl ⟨rfl,rfl⟩
 . exact .inr ⟨g,cap,cur,rfl,ah0 _,hle g _ (bn g _),h3,h4,h5,h6⟩
theorem Rw.block{e:TypeId}{k n:Nat}{v:Value}{cs:List Value}{h:Hp}(hr:Rw e k v n cs h)(b:Nat):h b=none↔v.ownBlock≠some b:=by
 obtain⟨h1,h2⟩:=hr
 rcases h2 with⟨rfl,rfl,rfl⟩|⟨g,cap,cur,rfl,rfl,h3,h4,h5,h6⟩
 . simp[Hp.nil,Value.ownBlock]
 . simp only[one,Value.ownBlock,ne_eq,Z3];constructor
   . intro h e;subst e;simp at h
   . intro h;rw[if_neg (fun e=>h e.symm)]
theorem Sep.grown{e:TypeId}{t:Tp}{v v':Value}{xs zs:List t.den}{K0 K1:Hp}{w':World}{cs':List Value}{m:Nat}(hs:Sep E K (Row K0 e t v xs::L) w)(hn:m=zs.length)
   (ho:w'.ownsRow 0 e t.size v' m cs') (hz:Els K1 t cs' zs) (hg:w.grownBy w' v.ownBlock) (hb:v'.ownBlock=v.ownBlock\/v'.ownBlock=some w.heap.size):Sep E K (Row K1 e t v' zs::L) w':=by
 subst hn;refine Sep.turn hs (fun he=>⟨hg.os.trans he.1,hg.tape.trans he.2.1,hg.output.trans he.2.2⟩) (fun h ⟨cs,h1,h2⟩ hle=>?_);have hkeep:∀n o,w.heap[n]?=some o->h n=none->w'.heap[n]?=some o:=fun n o e hn=>by
   rw[hg.block n (lt_of_block e) (fun e'=>(h2.block n).1 hn e'.symm)];exact e
 obtain⟨h3,h4⟩:=ho
 rcases h4 with⟨rfl,h4⟩|⟨g,cap,cur,rfl,_,h5,h6,h7,h8,h9⟩
 . exact⟨Hp.nil,⟨cs',hz,h3,.inl ⟨by rw[h4],h4,rfl⟩⟩,fun n o e=>(by cases e),hkeep⟩
 . refine⟨one g (.cells cur e (0,0)),⟨cs',hz,h3,.inr ⟨g,cap,cur,rfl,rfl,h6,h7,h8,h9⟩⟩,fun n o e'=>?_,hkeep⟩;obtain⟨rfl,rfl⟩:=cv e';refine⟨h5,fun hn=>?_⟩
   rcases hb with hb|hb
   . exact absurd hb.symm (by have:=(h2.block n).1 hn;simpa[Value.ownBlock]using this)
   . simp[Value.ownBlock]at hb;rw[hb];exact al0 (X3 _)
end
theorem Is.nil_len{K:Hp}{t:Tp}{m cap:Nat}{l:List t.den}(h:Is K (.sl t) [.slice none m cap] l):l=[]/\m=0:=by
 simp only[Is]at h;obtain⟨ad,cap',h1,h2,h3,h4⟩:=h;simp at h1;obtain⟨rfl,rfl,rfl⟩:=h1;by_cases hl:l=[]
 . exact⟨hl,by rw[hl];rfl⟩
 . obtain⟨b,o,h5,_⟩:=h4 hl;cases h5
theorem Is.cells{K:Hp}{t:Tp}(h0:0<t.size){b:Addr}{m cap:Nat}:∀{l:List t.den},Is K (.sl t) [.slice (some b) m cap] l->∃cs,Els K t cs l/\m=l.length/\∀w:World,K.le (Hp.of w)->∀j u,cs[j]?=some u->w.cell? (b.add j)=some u:=by
 intro l h;simp only[Is]at h;obtain⟨ad,cap',h1,h2,h3,h4⟩:=h;simp only[aQ0,Value.slice.injEq,and_true]at h1;obtain⟨rfl,rfl,rfl⟩:=h1;by_cases hl:l=[]
 . subst hl;exact⟨[],rfl,rfl,fun w hw j u hu=>by simp at hu⟩
 . obtain⟨b',o,h5,h6⟩:=h4 hl;simp only[Z3]at h5;subst h5;have gen:∀(l:List t.den) (o:Nat),(∀k x,l[k]?=some x->∃es,es.length=t.size/\Is K t es x/\∀j,j<t.size->be K b' (o+k*t.size+j)=es[j]?) ->
       ∃cs,Els K t cs l/\∀w:World,K.le (Hp.of w)->∀j u,cs[j]?=some u->w.cell? ⟨b',o+j,none⟩=some u:=by
     intro l
     induction l with
     |nil=>exact fun o _=>⟨[],rfl,fun w hw j u hu=>by simp at hu⟩
     | cons x l ih =>
       intro o hh;obtain⟨es,hl1,hi1,hc1⟩:=hh 0 x rfl;obtain⟨cs,he,hc⟩:=ih (o+t.size) (fun k y hy=>by
         obtain⟨es',a1,a2,a3⟩:=hh (k+1) y (by simpa using hy);refine⟨es',a1,a2,fun j hj=>?_⟩;rw[<- a3 j hj];congr 1;rw[aC0];omega)
       refine⟨es++cs,⟨es,cs,rfl,hi1,he⟩,fun w hw j u hu=>?_⟩
       rcases aq0 j t.size with hj|hj
       . rw[V6 (by omega)]at hu;have:=hc1 j hj;rw[hu,bO0,aD0]at this;exact dX hw this
       . rw[V5 (by omega)]at hu;have:=hc w hw _ u hu;rw[<- this];congr 2;omega
   obtain⟨cs,he,hc⟩:=gen l o h6;exact⟨cs,he,rfl,fun w hw j u hu=>by rw[bB];exact hc w hw j u hu⟩
section
variable {P:Program}{E:En}{n:Nat}{ρ:Sl0}{K:Hp}{L:List ah}{d:Nat}{t:TypeId}{pos:String}{af:Array Edge}{g:Option (Nat×Bool)}{x y c:Operand}{u v:Value}
theorem E8{w:World}{s e ty:TypeId}{z:Value}{sz bt:Nat}{k n:Nat}{cs:List Value}{v:Value}{cap:Nat}(hs:P.underlying s=some (.slice e))(hi:Inf P e z sz bt)(ho:w.ownsRow 0 e k v n cs) :
   (Builtin.append_ #[s,s] ty #[v,.slice none 0 cap]).run P w=.ok v w:=by
 obtain⟨i,h1,h2,h3,_⟩:=hi.open
 rcases ho.2 with⟨rfl,rfl⟩|⟨g,cp,cur,rfl,_,h5,h6,_⟩
 . simp[Builtin.append_,run_underlying hs,sizeOf,typeInfo,h1,Builtin.lenOf,Builtin.firstCells]
 . simp[Builtin.append_,run_underlying hs,sizeOf,typeInfo,h1,Builtin.lenOf,Builtin.firstCells,h6,storeCells]
theorem wG{w:World}{s e ty:TypeId}{z:Value}{sz bt m cap:Nat}{ad:Option Addr}{v:Value}{N:Nat}{cs ds:List Value}(hs:P.underlying s=some (.slice e))(hi:Inf P e z sz bt)(hzs:z.cells.size=sz)(hpos:0<sz)(hbt:bt<=100000)
   (ho:w.ownsRow 0 e sz v N cs) (hm:ds.length=m*sz) (hd:∀b,ad=some b->∀j u,ds[j]?=some u->w.cell? (b.add j)=some u) (hn:ad=none->m=0) (h1:∀u∈ds,u.oneCell'=true) (hlen:N+m<=1073741824) :
   ∃v' w',(Builtin.append_ #[s,s] ty #[v,.slice ad m cap]).run P w=.ok v' w'/\w'.ownsRow 0 e sz v' (N+m) (cs++ds)/\w.grownBy w' v.ownBlock/\(v'.ownBlock=v.ownBlock\/v'.ownBlock=some w.heap.size):=by
 cases ad with
 | none =>
   obtain rfl:=hn rfl;obtain rfl:ds=[]:=Z4.1 (by simpa using hm);refine⟨v,w,E8 (P:=P) (ty:=ty) (cap:=cap) hs hi ho,by simpa using ho,⟨rfl,rfl,rfl,X3 _,fun _ _ _=>rfl⟩,.inl rfl⟩
 | some b =>
   obtain⟨i,i1,i2,i3,i4⟩:=hi.open;have hb:(N+m)*bt<=1073741824*100000:=cX0 hlen hbt;obtain⟨v',w',r1,r2,r3,_,r5⟩:=run_append_own_at (P:=P) w 0 s ty e i z sz bt hs i1 i2 i3 i4 hzs hpos v N cs ho b m cap ds hm (hd b rfl) h1 (by unfold maxLen;omega) (by omega) (ah0 _);exact⟨v',w',r1,r2,r3,r5⟩
theorem A.appP{s e:TypeId}{z:Value}{sz bt m cap:Nat}{K0 K1:Hp}{ad:Option Addr}{ty:Tp}{xs ys:List ty.den}(hs:P.underlying s=some (.slice e))(hi:Inf P e z sz bt)(hty:ty.size=sz)(hzs:z.cells.size=sz)(hpos:0<sz)(hbt:bt<=100000)
   (hx:ev n ρ x=v) (hy:ev n ρ y=.slice ad m cap) (hys:Is K1 (.sl ty) [.slice ad m cap] ys) (hk1:K1.le K) {Kr:Hp} (f0:∀{xs cs},Els K0 ty cs xs->Els Kr ty cs xs) (f1:∀{xs cs},Els K1 ty cs xs->Els Kr ty cs xs) {zs:List ty.den} (hz:Go.Proofs.YtpnmnbfbcgkcjaaGreatDoor.app xs ys=some zs) :
   Ao P E n ⟨some d,.call ⟨.builtin .append,#[x,y],#[s,s]⟩,t,pos,af,g⟩ ρ K (Row K0 e ty v xs::L) (fun ρ' K' L'=>∃v',ρ'=upd ρ d v'/\K=K'/\L'=Row Kr e ty v' zs::L) :=
 Ao.of rfl (fun w hsep=>by
   obtain⟨hlen,rfl⟩:=jV hz;have hsep':=hsep;obtain⟨h,⟨cs,h1,h2⟩,h3,h4⟩:=hsep;have hown:=h2.owns (w:=w) (fun n o e=>h4.sub n o (Hp.join_right e (h3 n o e)));rw[hty]at hown;have hds:∃ds,Els K1 ty ds ys/\m=ys.length/\∀b,ad=some b->∀j u,ds[j]?=some u->w.cell? (b.add j)=some u:=by
     cases ad with
     | none =>
       obtain⟨rfl,rfl⟩:=hys.nil_len;exact⟨[],rfl,rfl,fun b hb=>by cases hb⟩
     | some b =>
       obtain⟨ds,h5,h6,h7⟩:=hys.cells (by omega);exact⟨ds,h5,h6,fun b' hb=>by cases hb;exact h7 w (hk1.trans hsep'.sub)⟩
   obtain⟨ds,h5,rfl,h7⟩:=hds;obtain⟨v',w',r1,r2,r3,r5⟩:=wG (P:=P) (w:=w) (ty:=t) (cap:=cap) hs hi hzs hpos hbt hown (by rw[h5.len,hty]) h7 (fun e=>by subst e;exact hys.nil_len.2) h5.one' hlen;refine⟨v',w',K,_,?_,hsep'.grown (K1:=Kr) List.length_append.symm (by rw[hty];exact r2) ((f0 h1).app (f1 h5)) r3 r5,v',rfl,rfl,rfl⟩;simp[execOp,resolve,invoke,builtin,hx,hy,r1])
theorem A.appR{s e:TypeId}{z:Value}{sz bt:Nat}{K0 K1:Hp}{ty:Tp}{xs ys:List ty.den}(hs:P.underlying s=some (.slice e))(hi:Inf P e z sz bt)(hty:ty.size=sz)(hzs:z.cells.size=sz)(hpos:0<sz)(hbt:bt<=100000)
   (hx:ev n ρ x=v) (hy:ev n ρ y=u) {Kr:Hp} (f0:∀{xs cs},Els K0 ty cs xs->Els Kr ty cs xs) (f1:∀{xs cs},Els K1 ty cs xs->Els Kr ty cs xs) {zs:List ty.den} (hz:Go.Proofs.YtpnmnbfbcgkcjaaGreatDoor.app xs ys=some zs) :
   Ao P E n ⟨some d,.call ⟨.builtin .append,#[x,y],#[s,s]⟩,t,pos,af,g⟩ ρ K (Row K0 e ty v xs::Row K1 e ty u ys::L) (fun ρ' K' L'=>∃v',ρ'=upd ρ d v'/\K=K'/\L'=Row Kr e ty v' zs::L) :=
 Ao.of rfl (fun w hsep=>by
   obtain⟨hlen,rfl⟩:=jV hz;have hsep':=hsep;obtain⟨h0,hr0,hd0,hs0⟩:=hsep.swap;obtain⟨h,⟨cs,h1,h2⟩,h3,h4⟩:=hsep;have hown:=h2.owns (w:=w) (fun n o e=>h4.sub n o (Hp.join_right e (h3 n o e)));rw[hty]at hown;have hle0:h0.le (Hp.of w):=fun n o e=>hs0.sub n o (Hp.join_right e (hd0 n o e))
   obtain⟨ad,cap,rfl,_⟩:=Row.form h0 hr0;obtain⟨ds,h5,h6⟩:=hr0;have h7:∀b,ad=some b->∀j u,ds[j]?=some u->w.cell? (b.add j)=some u:=fun b hb j u hu=>by
     obtain⟨g,cap',hv,hc⟩:=h6.cells j u hu;rw[hb]at hv;simp only[Value.slice.injEq,Z3]at hv;rw[hv.1,bB,Y8];exact dX hle0 hc
   obtain⟨v',w',r1,r2,r3,r5⟩:=wG (P:=P) (w:=w) (ty:=t) (cap:=cap) hs hi hzs hpos hbt hown (by rw[h5.len,hty]) h7 (fun e=>by
     subst e
     rcases h6.2 with⟨_,h,_⟩|⟨g,cap',cur,hv,_⟩
     . exact h
     . cases hv) h5.one' hlen
   refine⟨v',w',K,_,?_,(hsep'.grown (K1:=Kr) List.length_append.symm (by rw[hty];exact r2) ((f0 h1).app (f1 h5)) r3 r5).swap.drop,v',rfl,rfl,rfl⟩;simp[execOp,resolve,invoke,builtin,hx,hy,r1])
def Tr(P:Program)(f:FuncId)(args:Array Value)(K:Hp)(L:List ah)(R:Value->Hp->List ah->Prop):Prop :=
 ∀E w F,Sep E K (L++F) w->Calls P f args w fun e w'=>∃v K' L',e=.returned v/\R v K' L'/\K.le K'/\Sep E K' (L'++F) w'
theorem Tr.mono{f:FuncId}{args:Array Value}{L1:List ah}{R R':Value->Hp->List ah->Prop}(h:Tr P f args K L1 R)(k:∀v K' L',R v K' L'->R' v K' L'):Tr P f args K L1 R':=fun E w F hs =>
 (h E w F hs).mono (fun e w' ⟨v,K',L',h1,h2,h3,h4⟩=>⟨v,K',L',h1,k _ _ _ h2,h3,h4⟩)
theorem Tr.k{f:FuncId}{args:Array Value}{p:Value->List ah->Prop}{L1:List ah}(h:Tr P f args K L1 (fun u _ L'=>p u L')):Tr P f args K L1 (fun u K' L'=>p u L'/\K=K'):=fun E w F hs =>
 (h E w F hs).mono (fun e w' ⟨v,K',L',h1,h2,h3,h4⟩=>⟨v,K,L',h1,⟨h2,rfl⟩,Hp.le_refl K,h4.weaken h3⟩)
end
end
section
section
variable {P:Program}{E:En}{n:Nat}{C:World->Prop}{Φ:Post}{ρ:Sl0}{K:Hp}{L R:List ah}{v:Value}
def Ld(P:Program)(C:World->Prop)(t:TypeId)(b o:Nat)(v:Value):Prop:=∀w,C w->(loadVar t ⟨b,o,none⟩).run P w=.ok v w
theorem Ld.sc{t:TypeId}{b o:Nat}(ht:cV P t=true)(h:Rd C b o v):Ld P C t b o v:=fun w hw=>by
 have hc:=h w hw;simp[loadVar,Aq w ht,hc]
theorem Ld.agg{t:TypeId}{fs:Array Field}{b o:Nat}{cs:List Value}{sz:Nat}(ht:P.underlying t=some (.struct fs))(hz:(P.info? t).map (·.size)=some sz)(hl:cs.length=sz)(h:∀j u,cs[j]?=some u->Rd C b (o+j) u):Ld P C t b o (.agg cs.toArray):=fun w hw=>by
 cases hi:P.info? t with
 |none=>rw[hi]at hz;simp at hz
 | some i' =>
   rw[hi]at hz;simp at hz;have h2:=run_loadCells_list (P:=P) w ⟨b,o,none⟩ cs (fun j u hu=>by rw[bB];exact h j u hu w hw);have h3:(isAgg t).run P w=.ok true w:=by simp[isAgg,run_underlying ht]
   rw[hl]at h2;simp[loadVar,h3,sizeOf,typeInfo,hi,hz,h2]
theorem Ld.arr{t e:TypeId}{len:Nat}{b o:Nat}{cs:List Value}{sz:Nat}(ht:P.underlying t=some (.array len e))(hz:(P.info? t).map (·.size)=some sz)(hl:cs.length=sz)(h:∀j u,cs[j]?=some u->Rd C b (o+j) u):Ld P C t b o (.agg cs.toArray):=fun w hw=>by
 cases hi:P.info? t with
 |none=>rw[hi]at hz;simp at hz
 | some i' =>
   rw[hi]at hz;simp at hz;have h2:=run_loadCells_list (P:=P) w ⟨b,o,none⟩ cs (fun j u hu=>by rw[bB];exact h j u hu w hw);have h3:(isAgg t).run P w=.ok true w:=by simp[isAgg,run_underlying ht]
   rw[hl]at h2;simp[loadVar,h3,sizeOf,typeInfo,hi,hz,h2]
theorem V.ld{t ty:TypeId}{b o:Nat}{d:Option Nat}{pos:String}{af:Array Edge}{g:Option (Nat×Bool)}{x:Operand}(hx:ev n ρ x=.pointer (some ⟨b,o,none⟩))(h:Ld P C t b o v):Val P n C ρ ⟨d,.load t x,ty,pos,af,g⟩ v:=fun w hw=>by
 have hc:=h w hw;simp[execOp,hx,Instr.loadAt,Instr.sureAddr,hc]
def nL(P:Program)(n:Nat)(C:World->Prop)(ρ:Sl0):ResultVar->Value->Prop
 |.tmp t,v=>ev n ρ (.tmp t)=v
 |.cell a ty,v=>∃b o,ev n ρ (.tmp a)=.pointer (some ⟨b,o,none⟩)/\Ld P C ty b o v
def rvS(tmps:Array Value):ResultVar->Sem Value
 |.tmp t=>pure (tmps.getD t undef)
 |.cell a t=>do loadVar t (<- asAddr (tmps.getD a undef))
theorem zb(fn:Func)(tmps:Array Value):results fn tmps=(do let vs <- fn.results.mapM (rvS tmps);pure (if h:vs.size=1 then vs[0]else .tuple vs)):=by
 unfold results
 congr 2
theorem C3{r:ResultVar}(h:nL P n C ρ r v){w:World}(hw:C w):(rvS (frm n ρ) r).run P w=.ok v w:=by
 cases r with
 | tmp t =>
   have h':(act n ρ).eval (.tmp t)=v:=by rw[eval_act];exact h
   have h2:(frm n ρ).getD t undef=v:=h';simp only[rvS,h2,Sem.run_pure]
 | cell a t =>
   obtain⟨b,o,h1,h3⟩:=h;have h':(act n ρ).eval (.tmp a)=.pointer (some ⟨b,o,none⟩):=by rw[eval_act];exact h1
   have h2:(frm n ρ).getD a undef=.pointer (some ⟨b,o,none⟩):=h';have:=h3 w hw;simp only[rvS,h2,asAddr];simpa using this
def Res(P:Program)(n:Nat)(C:World->Prop)(ρ:Sl0)(fn:Func)(v:Value):Prop:=∀w,C w->(results fn (frm n ρ)).run P w=.ok v w
theorem Res.one{fn:Func}{r1:ResultVar}{v1:Value}(h:fn.results = #[r1])(h1:nL P n C ρ r1 v1):Res P n C ρ fn v1:=fun w hw=>by
 have k1:=C3 h1 hw;rw[zb,h];simp only[da0,List.mapM_cons,List.mapM_nil];simp[k1]
def Ee(P:Program)(E:En)(n:Nat)(fn:Func)(K0:Hp)(F:List ah)(R:Value->Hp->List ah->Prop)(ρ:Sl0)(K:Hp)(L:List ah):Prop:=∃v L',Res P n (Hold E K L) ρ fn v/\R v K L'/\K0.le K/\∀w,Sep E K L w->Sep E K (L'++F) w
def RG(P:Program)(E:En)(n:Nat)(fn:Func)(K0:Hp)(F:List ah)(R:Value->Hp->List ah->Prop):Post
 |.normal,ρ,K,L|.ret,ρ,K,L=>Ee P E n fn K0 F R ρ K L
 |_,_,_,_=>False
def eG(args:Array Value):Sl0:=fun i=>(args.toList)[i]?.getD undef
theorem qD{n:Nat}{args:Array Value}(h:args.size<=n):args++bz0 (n-args.size) undef=frm n (eG args):=by
 apply eS0;intro i;rw[jY,eA0];unfold eG;by_cases hi:i<args.size
 . rw[if_pos hi,if_pos (by omega)];simp[hi]
 . rw[if_neg hi,Array.getElem?_replicate];by_cases h2:i<n
   . rw[if_pos (by omega),if_pos h2];simp[show args.toList[i]?=none from ai0 (by simpa using hi)]
   . rw[if_neg (by omega),if_neg h2]
theorem Tr.of{f:FuncId}{fn:Func}{c:Code}{args:Array Value}{R:Value->Hp->List ah->Prop}(hf:P.funcs[f]?=some fn)(hb:fn.body=some c)(hn:fn.ntmps=n)(ha:aT0 args.size n=true)
   (h:∀E F,CJ P E n c (RG P E n fn K F R) (eG args) K (L++F)):Tr P f args K L R:=fun E w F hs=>by
 refine calls_of_wp hf hb ?_;rw[hn,qD (W9 ha)];refine wp_mono (wpIn_wide.1 ((h E.out0 F).go w hs.out0)) ?_;rintro e a w' ⟨ρ,K',L',rfl,h1,h2⟩;have key:Ee P E.out0 n fn K F R ρ K' L'->(act n ρ).defers=[]/\∃v,(results fn (act n ρ).tmps).run P w'=.ok v w'/\∃v' K'' L'',Ending.returned v=.returned v'/\R v' K'' L''/\K.le K''/\Sep E K'' (L''++F) w':=by
   rintro⟨v,L2,h3,h4,h5,h6⟩;exact⟨rfl,v,h3 w' (Hold.of_sep h1),v,K',L2,rfl,h4,h5,(h6 w' h1).back⟩
 cases e with
 |normal=>exact key h2
 |ret=>exact key h2
 |_=>exact h2.elim
end
section
variable {P:Program}{E:En}{n:Nat}{Φ:Post}{ρ:Sl0}{K:Hp}{L:List ah}
end
end
section
section
variable {P:Program}{E:En}{n:Nat}{Φ:Post}{ρ:Sl0}{K:Hp}{L:List ah}{ops:Array Oper}{C:World->Prop}{X:Act->World->Prop}
structure JQ(P:Program)(n:Nat)(ops:Array Oper)(C:World->Prop)(s:List Oper)(N:Sl0->Prop)(ρ:Sl0):Prop where
 go:wpQuiet P ops C (fun a=>∃ρ',a=act n ρ'/\N ρ') s (act n ρ)
structure JM(P:Program)(E:En)(n:Nat)(ops:Array Oper)(C:World->Prop)(X:Act->World->Prop)(ss:List (List Oper×Oper))(ρ:Sl0)(K:Hp)(L:List ah):Prop where
 go:∀w,Sep E K L w->dL P ops C X ss (act n ρ) w
structure JA(P:Program)(E:En)(n:Nat)(ops:Array Oper)(C:World->Prop)(X:Act->World->Prop)(o:Oper)(r:List (List Oper×Oper))(ρ:Sl0)(K:Hp)(L:List ah):Prop where
 go:∀w,Sep E K L w->dh P ops C o (dL P ops C X r) (act n ρ) w
theorem uE{Q Q':Act->Prop}(k:∀a,Q a->Q' a):∀{l:List Oper} {a:Act},wpQuiet P ops C Q l a->wpQuiet P ops C Q' l a
 |[],a,h=>k a h
 | o :: l,a,h=>by
   unfold wpQuiet at h ⊢;split
   . rename_i hw;rw[if_pos hw]at h;exact Oper.quiet_mono (fun a h=>uE k h) h
   . rename_i hw;rw[if_neg hw]at h;exact uE k h
theorem JQ.val{rest:List Oper}{o:Oper}{d:Nat}{v:Value}{N:Sl0->Prop}(hg:o.guard=none)(hd:o.dst=some d)(hv:Val P n C ρ o v)(h:JQ P n ops C rest N (upd ρ d v)):JQ P n ops C (o::rest) N ρ:=by
 constructor;unfold wpQuiet;rw[if_pos (by simp[Region.wanted,hg])];refine⟨v,fun w hw=>?_,?_⟩
 . unfold Oper.quietAt;rw[eval_act,hv w hw];exact⟨rfl,rfl⟩
 . rw[hd,put_act];exact h.go
theorem p8{o:Oper}{g d:Nat}{b c:Bool}(hg:o.guard=some (g,c))(hd:(ops[g]?).bind (·.dst)=some d)(hv:ev n ρ (.tmp d)=.bool b)(hb:b=c):Region.wanted o (yielded ops (act n ρ).tmps)=true:=by
 unfold Region.wanted;rw[hg];show (yielded ops (frm n ρ) g==some c)=true;rw[zm hd hv,hb];simp
theorem uM{o:Oper}{g d:Nat}{b c:Bool}(hg:o.guard=some (g,c))(hd:(ops[g]?).bind (·.dst)=some d)(hv:ev n ρ (.tmp d)=.bool b)(hb:b = !c):Region.wanted o (yielded ops (act n ρ).tmps)=false:=by
 unfold Region.wanted;rw[hg];show (yielded ops (frm n ρ) g==some c)=false;rw[zm hd hv,hb];cases c <;> rfl
theorem yZ{o:Oper}{g d:Nat}{c:Bool}(hg:o.guard=some (g,c))(hd:(ops[g]?).bind (·.dst)=some d)(hv:ev n ρ (.tmp d)=undef):Region.wanted o (yielded ops (act n ρ).tmps)=false:=by
 unfold Region.wanted;rw[hg];show (yielded ops (frm n ρ) g==some c)=false;have:yielded ops (frm n ρ) g=none:=by
   unfold yielded;rw[hd];simp only[V0];rw[jY];replace hv:(bif aO0 d n then ρ d else undef)=undef:=hv;by_cases h:d<n
   . rw[vx h]at hv;simp only[cond_true]at hv;simp[h,hv,undef]
   . simp[h]
 rw[this];rfl
theorem JM.cons{s:List Oper}{o:Oper}{r:List (List Oper×Oper)}(h:JQ P n ops C s (fun ρ'=>JA P E n ops C X o r ρ' K L) ρ):JM P E n ops C X ((s,o)::r) ρ K L:=⟨fun w hs =>
 zS (uE (fun a ⟨ρ',ha,hJ⟩=>by subst ha;exact hJ.go w hs) h.go)⟩
end
end
section
theorem DT{K:Hp}{t:Tp}:Is K (.sl t) [.slice none 0 0] []:=⟨none,0,rfl,by simp,by simp,fun h=>absurd rfl h⟩
structure PJ(E:En)(N:Sl0->Hp->List ah->Prop)(ρ:Sl0)(K:Hp)(L:List ah):Prop where
 go:∀w,Sep E K L w->∃K' L',Sep E K' L' w/\N ρ K' L'
section
variable {P:Program}{E:En}{n:Nat}{Φ:Post}{N:Sl0->Hp->List ah->Prop}{ρ:Sl0}{K K0:Hp}{L:List ah}{e:TypeId}{t:Tp}{v:Value}{xs:List t.den}
end
theorem bt(b:Bool):b=true\/b=false:=by cases b <;> simp
section
variable {P:Program}{E:En}{n:Nat}{Φ:Post}{ρ:Sl0}{K K0:Hp}{L R:List ah}{ops:Array Oper}{C:World->Prop}{X:Act->World->Prop}{e:TypeId}{t:Tp}{v:Value}{xs:List t.den}
end
section
variable {P:Program}{E:En}{n:Nat}{C:World->Prop}{ρ:Sl0}{K K0:Hp}{R:List ah}{d:Option Nat}{t:TypeId}{pos:String}{af:Array Edge}{g:Option (Nat×Bool)}{x y c:Operand}{u v:Value}
theorem Is.part{tp:Tp}{b o m cp:Nat}{s:List tp.den}(hs:Is K0 (.sl tp) [.slice (some ⟨b,o,none⟩) m cp] s)(l h:Nat)(h1:l<=h)(h2:h<=s.length) :
   Is K0 (.sl tp) [.slice (some (if cp=l then⟨b,o,none⟩else⟨b,o+l*tp.size,none⟩)) (h-l) (cp-l)] ((s.take h).drop l):=by
 simp only[Is]at hs ⊢;obtain⟨ad',cap',h0,a1,a2,a3⟩:=hs;simp only[aQ0,Value.slice.injEq,and_true]at h0;obtain⟨rfl,rfl,rfl⟩:=h0;have hlen:((s.take h).drop l).length=h-l:=by rw[W8,X4];omega
 refine⟨_,_,by rw[hlen],by omega,by omega,fun hne=>?_⟩;have hlt:l<h:=by
   rcases aq0 l h with h'|h'
   . exact h'
   . exact absurd (Z4.1 (by omega)) hne
 obtain⟨b',o',e,a4⟩:=a3 (fun e=>by rw[e]at h2;simp at h2;omega);simp only[Z3,Addr.mk.injEq,and_true]at e;obtain⟨rfl,rfl⟩:=e;rw[if_neg (by omega)];refine⟨b,o+l*tp.size,rfl,fun k x hx=>?_⟩;rw[bf0,aM0]at hx;split at hx
 . obtain⟨es,a5,a6,a7⟩:=a4 (l+k) x hx;refine⟨es,a5,a6,fun j hj=>?_⟩;rw[<- a7 j hj,cz0]
   congr 1;omega
 . cases hx
theorem V.subI{tx e:TypeId}{tp:Tp}{ad:Option Addr}{m cp:Nat}{s z:List tp.den}{l h:Int}(ht:P.underlying tx=some (.slice e))(hz:(P.info? e).map (·.size)=some tp.size)(hs:Is K0 (.sl tp) [.slice ad m cp] s)(hy:subL s l h=some z) :
   ∃ ad' cp',(∀ {n:Nat} {C:World->Prop} {ρ:Sl0} {d:Option Nat} {t:TypeId} {pos:String} {af:Array Edge} {g:Option (Nat×Bool)} {x:Operand} {lo hi:Option Operand},ev n ρ x = .slice ad m cp->(∀ q,lo=some q->∃ k,ev n ρ q = .int k l)->(lo=none->l=0)->(∀ q,hi=some q->∃ k,ev n ρ q = .int k h)->(hi=none->h=(m:Nat)) ->
     Val P n C ρ ⟨d,.slice tx x lo hi none,t,pos,af,g⟩ (.slice ad' z.length cp'))/\Is K0 (.sl tp) [.slice ad' z.length cp'] z:=by
 obtain⟨a1,a2,a3,rfl⟩:=jJ hy;obtain⟨l,rfl⟩:=W6 a1;obtain⟨h,rfl⟩:=W6 (show 0<=h by omega);have b1:l<=h:=by omega
 have b2:h<=s.length:=by omega
 simp only[W2];have hm:m=s.length/\s.length<=cp:=by
   simp only[Is]at hs;obtain⟨ad',cap',h0,a4,_⟩:=hs;simp only[aQ0,Value.slice.injEq,and_true]at h0;obtain⟨_,rfl,rfl⟩:=h0;exact⟨rfl,a4⟩
 obtain⟨rfl,hcp⟩:=hm;have hlen:((s.take h).drop l).length=h-l:=by rw[W8,X4];omega
 cases ad with
 | none =>
   obtain⟨rfl,_⟩:=hs.nil_len;simp only[do0]at b2 hlen hcp ⊢;obtain rfl:h=0:=by omega
   obtain rfl:l=0:=by omega
   refine⟨none,cp,?_,by simpa using hs⟩;intro n C ρ d t pos af g x lo hi hx hl hl0 hh hh0 w _;cases hi':P.info? e with
   |none=>rw[hi']at hz;simp at hz
   | some i' =>
     cases lo with
     | none =>
       cases hi with
       |none=>simp[execOp,hx,Instr.sliceAt,run_underlying ht,Instr.slice,Instr.sliceBounds,sizeOf,typeInfo,hi']
       | some q =>
         obtain⟨k,hq⟩:=hh q rfl;simp[execOp,hx,hq,Instr.sliceAt,run_underlying ht,Instr.slice,Instr.sliceBounds,Instr.sliceBound,asIntOf,sizeOf,typeInfo,hi']
     | some ql =>
       obtain⟨k1,hq1⟩:=hl ql rfl;cases hi with
       |none=>simp[execOp,hx,hq1,Instr.sliceAt,run_underlying ht,Instr.slice,Instr.sliceBounds,Instr.sliceBound,asIntOf,sizeOf,typeInfo,hi']
       | some q =>
         obtain⟨k,hq⟩:=hh q rfl;simp[execOp,hx,hq,hq1,Instr.sliceAt,run_underlying ht,Instr.slice,Instr.sliceBounds,Instr.sliceBound,asIntOf,sizeOf,typeInfo,hi']
 | some a =>
   by_cases hs0:s=[]
   . subst hs0;simp only[do0]at b2 hlen hcp ⊢;obtain rfl:h=0:=by omega
     obtain rfl:l=0:=by omega
     refine⟨some (if cp=0 then a else a.add (0*tp.size)),cp,?_,?_⟩
     . intro n C ρ d t pos af g x lo hi hx hl hl0 hh hh0 w _;cases hi':P.info? e with
       |none=>rw[hi']at hz;simp at hz
       | some i' =>
         cases lo with
         | none =>
           cases hi with
           |none=>(simp[execOp,hx,Instr.sliceAt,run_underlying ht,Instr.slice,Instr.sliceBounds,sizeOf,typeInfo,hi'];by_cases q0:cp=0 <;> simp[q0])
           | some q =>
             obtain⟨k,hq⟩:=hh q rfl
             (simp[execOp,hx,hq,Instr.sliceAt,run_underlying ht,Instr.slice,Instr.sliceBounds,Instr.sliceBound,asIntOf,sizeOf,typeInfo,hi'];by_cases q0:cp=0 <;> simp[q0])
         | some ql =>
           obtain⟨k1,hq1⟩:=hl ql rfl;cases hi with
           |none=>(simp[execOp,hx,hq1,Instr.sliceAt,run_underlying ht,Instr.slice,Instr.sliceBounds,Instr.sliceBound,asIntOf,sizeOf,typeInfo,hi'];by_cases q0:cp=0 <;> simp[q0])
           | some q =>
             obtain⟨k,hq⟩:=hh q rfl
             (simp[execOp,hx,hq,hq1,Instr.sliceAt,run_underlying ht,Instr.slice,Instr.sliceBounds,Instr.sliceBound,asIntOf,sizeOf,typeInfo,hi'];by_cases q0:cp=0 <;> simp[q0])
     . simp only[Is]at hs ⊢;obtain⟨_,_,h0,a4,a5,_⟩:=hs;simp only[aQ0,Value.slice.injEq,and_true]at h0;obtain⟨_,_,rfl⟩:=h0;exact⟨_,_,rfl,by simp,a5,fun hne=>absurd rfl hne⟩
   . obtain⟨x0,hx0⟩:∃x,s[0]?=some x:=by
       cases s with
       |nil=>exact absurd rfl hs0
       |cons x r=>exact⟨x,rfl⟩
     obtain⟨b,o,he,_⟩:=hs.at hx0;simp only[Z3]at he;subst he;have hp:=hs.part l h b1 b2;rw[<- hlen]at hp;refine⟨_,_,?_,hp⟩;intro n C ρ d t pos af g x lo hi hx hl hl0 hh hh0;rw[hlen];exact V.slc (o:=o) ht hz hx hl (fun e=>by have:=hl0 e;omega) hh (fun e=>by have:=hh0 e;omega) b1 b2 hcp
theorem V.fld{s ft:TypeId}{fs:Array Field}{f:Field}{i:Nat}{cs:Array Value}(hs:P.underlying s=some (.struct fs))(hf:fs[i]?=some f)(h:∀w,(part f.type cs f.offset).run P w=.ok v w)(hx:ev n ρ x=.agg cs):Val P n C ρ ⟨d,.field s x i,t,pos,af,g⟩ v:=fun w _=>by
 simp[execOp,hx,Instr.field,run_underlying hs,hf,asAgg,h w]
theorem Ld0.sc{ft:TypeId}{cs:Array Value}{o:Nat}(ht:cV P ft=true)(h:cs[o]?=some v):∀w,(part ft cs o).run P w=.ok v w:=fun w=>by
 simp[part,Aq w ht,h]
theorem Ld0.agg{ft:TypeId}{fs:Array Field}{cs ds:Array Value}{o sz:Nat}(ht:P.underlying ft=some (.struct fs))(hz:(P.info? ft).map (·.size)=some sz)(h:cs.extract o (o+sz)=ds):∀w,(part ft cs o).run P w=.ok (.agg ds) w:=fun w=>by
 cases hi:P.info? ft with
 |none=>rw[hi]at hz;simp at hz
 | some i' =>
   rw[hi]at hz;simp at hz;have h3:(isAgg ft).run P w=.ok true w:=by simp[isAgg,run_underlying ht]
   simp[part,h3,sizeOf,typeInfo,hi,hz,h]
theorem Ld0.arr{ft e:TypeId}{len:Nat}{cs ds:Array Value}{o sz:Nat}(ht:P.underlying ft=some (.array len e))(hz:(P.info? ft).map (·.size)=some sz)(h:cs.extract o (o+sz)=ds):∀w,(part ft cs o).run P w=.ok (.agg ds) w:=fun w=>by
 cases hi:P.info? ft with
 |none=>rw[hi]at hz;simp at hz
 | some i' =>
   rw[hi]at hz;simp at hz;have h3:(isAgg ft).run P w=.ok true w:=by simp[isAgg,run_underlying ht]
   simp[part,h3,sizeOf,typeInfo,hi,hz,h]
def Lf(P:Program)(s:TypeId)(ps:List (Nat×Nat)):Prop:=∃fs,P.underlying s=some (.struct fs)/\fs.toList.mapM (fun f=>(P.info? f.type).map fun i=>(f.offset,i.size))=some ps
theorem V.build{s:TypeId}{z:Value}{sz bt:Nat}{ps:List (Nat×Nat)}{parts:Array (Nat×Operand)}{cs:List Value}(hi:Inf P s z sz bt)(hp:Lf P s ps)(hc:br (fun i=>ps[i]?) z.cells.toList (parts.toList.map fun (i,x)=>(i,ev n ρ x))=some cs)(hcs : .agg cs.toArray=v):Val P n C ρ ⟨d,.build s parts,t,pos,af,g⟩ v:=fun w _=>by
 subst hcs;obtain⟨i,h1,h2,_,_⟩:=hi.open;obtain⟨fs,h3,h4⟩:=hp;have hc':Instr.fill (fun i=>ps[i]?) z.cells (cE0 (fun x=>(x.1,ev n ρ x.2)) parts.toList)=some cs.toArray:=jZ hc;simp[execOp,Instr.build,zeroValue,typeInfo,h1,h2,run_underlying h3,da0,run_places w _ _ h4,hc']
theorem V.max{k:IntKind}{a b:Int}{ts:Array TypeId}(hx:ev n ρ x=.int k a)(hy:ev n ρ y=.int k b):Val P n C ρ ⟨d,.call ⟨.builtin .max,#[x,y],ts⟩,t,pos,af,g⟩ (.int k (if a<b then b else a)):=fun w _=>by
 have:=run_max_int2 (P:=P) (w:=w) ts t k k a b;simp[execOp,resolve,invoke,builtin,hx,hy,this]
theorem V.min{k:IntKind}{a b:Int}{ts:Array TypeId}(hx:ev n ρ x=.int k a)(hy:ev n ρ y=.int k b):Val P n C ρ ⟨d,.call ⟨.builtin .min,#[x,y],ts⟩,t,pos,af,g⟩ (.int k (if b<a then b else a)):=fun w _=>by
 have:=run_min_int2 (P:=P) (w:=w) ts t k k a b;simp[execOp,resolve,invoke,builtin,hx,hy,this]
end
end
section
structure EqIn(P:Program)(d:Nat)(t:TypeId)(x y:Value)(b:Bool):Prop where
 go:∀w,(Op.equalIn d t x y).run P w=.ok b w
structure EqFs(P:Program)(d:Nat)(xs ys:Array Value)(fs:List Field)(b:Bool):Prop where
 go:∀w,(Op.eqFields d xs ys fs).run P w=.ok b w
section
variable {P:Program}{m d:Nat}{t:TypeId}
theorem EqIn.int{k k':IntKind}{a b:Int}(hd:m=d+1)(ht:P.underlying t=some (.int k')):EqIn P m t (.int k a) (.int k b) (decide (a=b)):=⟨fun w=>by
 subst hd;rw[run_equalIn_int w d t k k' a b ht,by0]⟩
theorem EqIn.bool{a b:Bool}(hd:m=d+1)(ht:P.underlying t=some .bool):EqIn P m t (.bool a) (.bool b) (a==b):=⟨fun w=>by
 subst hd;exact run_equalIn_bool w d t a b ht⟩
theorem EqIn.str{a b:List UInt8}(hd:m=d+1)(ht:P.underlying t=some .string):EqIn P m t (.string ⟨a.toArray⟩) (.string ⟨b.toArray⟩) (decide (a=b)):=⟨fun w=>by
 subst hd;rw[run_equalIn_string w d t _ _ ht,bsl,bsl,by0]⟩
theorem EqIn.st{fs:Array Field}{xs ys:Array Value}{b:Bool}(hd:m=d+1)(ht:P.underlying t=some (.struct fs))(hp:P.stoodInHeld t=false)(h:EqFs P d xs ys fs.toList b):EqIn P m t (.agg xs) (.agg ys) b:=⟨fun w=>by
 have hf:P.fieldsOf t=fs:=by simp[Program.fieldsOf,ht]
 subst hd;rw[run_equalIn_struct w d t xs ys (by rw[hf];exact ht) hp,hf];exact h.go w⟩
structure EqIs(P:Program)(d:Nat)(e:TypeId)(c:Nat)(xs ys:Array Value)(is:List Nat)(b:Bool):Prop where
 go:∀w,(Op.eqItems d e c xs ys is).run P w=.ok b w
theorem EqIn.arr{e:TypeId}{len z:Nat}{xs ys:Array Value}{b:Bool}(hd:m=d+1)(ht:P.underlying t=some (.array len e))(hz:(P.info? e).map (·.size)=some z)(h:EqIs P d e z xs ys (Z1 len) b):EqIn P m t (.agg xs) (.agg ys) b:=⟨fun w=>by
 subst hd;cases hi:P.info? e with
 |none=>rw[hi]at hz;cases hz
 | some i =>
   rw[run_equalIn_array w d xs ys ht hi];have hc:P.cellsOf e=z:=by rw[hi]at hz;simpa[Program.cellsOf,hi]using hz
   rw[hc];exact h.go w⟩
theorem EqIs.nil{e:TypeId}{c:Nat}{xs ys:Array Value}:EqIs P d e c xs ys [] true:=⟨fun w=>by simp[Op.eqItems]⟩
theorem EqIs.cons{e:TypeId}{c i:Nat}{is:List Nat}{xs ys:Array Value}{a b:Bool}{x y:Value}(hx:∀w,(part e xs (i*c)).run P w=.ok x w)(hy:∀w,(part e ys (i*c)).run P w=.ok y w)(h:EqIn P d e x y a)(hr:EqIs P d e c xs ys is b):EqIs P d e c xs ys (i::is) (a&&b):=⟨fun w=>by
 unfold Op.eqItems;simp only[Sem.run_bind,hx w,Result.andThen_ok,hy w,h.go w];cases a
 . simp
 . simpa using hr.go w⟩
theorem EqFs.nil{xs ys:Array Value}:EqFs P d xs ys [] true:=⟨fun w=>by simp[Op.eqFields]⟩
theorem EqFs.cons {xs ys : Array Value} {f : Field} {fs : List Field} {a b : Bool} {x y : Value} (hn : f.name ≠ "_") (hx : ∀ w, (part f.type xs f.offset).run P w = .ok x w) (hy : ∀ w, (part f.type ys f.offset).run P w = .ok y w)
   (h:EqIn P d f.type x y a) (hr:EqFs P d xs ys fs b):EqFs P d xs ys (f::fs) (a&&b):=⟨fun w=>by
 unfold Op.eqFields;rw[if_pos hn];simp only[Sem.run_bind,hx w,Result.andThen_ok,hy w,h.go w];cases a
 . simp
 . simpa using hr.go w⟩
theorem EqFs.last {xs ys : Array Value} {f : Field} {a : Bool} {x y : Value} (hn : f.name ≠ "_") (hx : ∀ w, (part f.type xs f.offset).run P w = .ok x w) (hy : ∀ w, (part f.type ys f.offset).run P w = .ok y w)
   (h:EqIn P d f.type x y a):EqFs P d xs ys [f] a:=by simpa using EqFs.cons hn hx hy h EqFs.nil
end
section
variable {P:Program}{n:Nat}{C:World->Prop}{ρ:Sl0}{d:Option Nat}{t:TypeId}{pos:String}{af:Array Edge}{g:Option (Nat×Bool)}{x y:Operand}{tx ty:TypeId}
theorem V.eqst{cs ds:Array Value}{b:Bool}(hg:P.eqGuardType P.depth tx=false)(h:EqIn P 10000 tx (.agg cs) (.agg ds) b)(hx:ev n ρ x=.agg cs)(hy:ev n ρ y=.agg ds):Val P n C ρ ⟨d,.binOp .eql tx x y ty,t,pos,af,g⟩ (.bool b):=fun w _=>by
 have e1:=run_eqGuard_agg (w:=w) (P:=P) .eql tx x y cs ds hg;have e2:=run_eql_struct (w:=w) (P:=P) tx cs ds;rw[h.go w]at e2;simp only[execOp,hx,hy];simp[e1,e2]
theorem V.nest{cs ds:Array Value}{b:Bool}(hg:P.eqGuardType P.depth tx=false)(h:EqIn P 10000 tx (.agg cs) (.agg ds) b)(hx:ev n ρ x=.agg cs)(hy:ev n ρ y=.agg ds):Val P n C ρ ⟨d,.binOp .neq tx x y ty,t,pos,af,g⟩ (.bool (!b)):=fun w _=>by
 have e1:=run_eqGuard_agg (w:=w) (P:=P) .neq tx x y cs ds hg;have e2:=run_neq_struct (w:=w) (P:=P) tx cs ds;rw[h.go w]at e2;simp only[execOp,hx,hy];simp[e1,e2]
theorem V.sn_eql{e:TypeId}{p:Option Addr}{l c:Nat}(ht:P.underlying tx=some (.slice e))(hx:ev n ρ x=.slice p l c)(hy:ev n ρ y=.slice none 0 0):Val P n C ρ ⟨d,.binOp .eql tx x y ty,t,pos,af,g⟩ (.bool p.isNone):=fun w _=>by
 have:=run_equal_slice_nil (P:=P) (w:=w) tx e p l c ht;simp only[execOp,hx,hy];simp only[binOp];simp[eqGuard,this]
theorem V.sn_neq{e:TypeId}{p:Option Addr}{l c:Nat}(ht:P.underlying tx=some (.slice e))(hx:ev n ρ x=.slice p l c)(hy:ev n ρ y=.slice none 0 0):Val P n C ρ ⟨d,.binOp .neq tx x y ty,t,pos,af,g⟩ (.bool (!p.isNone)):=fun w _=>by
 have:=run_neq_slice_nil (P:=P) (w:=w) tx e p l c ht;simp only[execOp,hx,hy];simp[eqGuard,this]
end
section
variable {α β:Type}
def nG(a b:Option α):Option α:=open Classical in if a=b then a else none
theorem Aw{a b:Option α}{r:α}(h:nG a b=some r):a=some r/\b=some r:=by
 unfold nG at h;split at h
 . rename_i e;exact⟨h,e ▸ h⟩
 . cases h
theorem Hs(a:Option α):nG a a=a:=by simp[nG]
def dS(x:List β)(a b:Option α):Option α:=if x.isEmpty then nG a b else b
theorem A7{x:List β}{a b:Option α}{r:α}(hx:x=[])(h:dS x a b=some r):a=some r:=by
 subst hx;exact (Aw h).1
theorem zZ{x:List β}{a b:Option α}{r:α}(h:dS x a b=some r):b=some r:=by
 unfold dS at h;split at h
 . exact (Aw h).2
 . exact h
theorem wh{x:List β}{a b:Option α}(h:x=[]->a=b):dS x a b=b:=by
 unfold dS;split
 . rename_i e;rw[h (by simpa using e),Hs]
 . rfl
end
theorem IsV.int_eq{K:Hp}{k:IntKind}{v:Value}{x:Int}(h:IsV K (.int k) v x):v=.int k x:=by simpa only[IsV,Is,aQ0,and_true]using h
theorem IsV.bool_eq{K:Hp}{v:Value}{x:Bool}(h:IsV K .bool v x):v=.bool x:=by simpa only[IsV,Is,aQ0,and_true]using h
theorem IsV.str_eq{K:Hp}{v:Value}{x:List UInt8}(h:IsV K .str v x):v=.string ⟨x.toArray⟩:=by simpa only[IsV,Is,aQ0,and_true]using h
theorem Row.len{K:Hp}{e:TypeId}{t:Tp}{ad:Option Addr}{n c:Nat}{xs:List t.den}:∀h,Row K e t (.slice ad n c) xs h->xs.length=n:=fun h hr=>by
 obtain⟨ad',c',e1,_⟩:=Row.form h hr;simp only[Value.slice.injEq]at e1;exact e1.2.1.symm
theorem Is.nil_of{K:Hp}{t:Tp}{n c:Nat}{x:List t.den}(h:Is K (.sl t) [.slice none n c] x):x=[]:=by
 obtain⟨ad,c',h1,h2,h3,h4⟩:=h;cases h1;exact Z4.1 (by first|exact (h2 rfl)|exact (h2 rfl).1|simp_all)
theorem C1{α:Type}{x:List α}(h:x≠[]->∃g,(none:Option Addr)=some ⟨g,0,none⟩):x=[]:=by
 cases x with
 |nil=>rfl
 |cons a x=>obtain⟨g,e⟩:=h (by simp);cases e
end
section
section
variable {P:Program}{n:Nat}{C:World->Prop}{ρ:Sl0}{d:Option Nat}{t:TypeId}{pos:String}{af:Array Edge}{g:Option (Nat×Bool)}{x y:Operand}{tx ty:TypeId}
theorem yK{w:World}(t:TypeId){a b c}(f:Fn)(u v:Array Value)(h:P.underlying t=some (.func a b c)):(Op.equal t (.func f u v) .nilFunc).run P w=.ok false w:=by
 show (Op.equalIn (9999+1) t (.func f u v) .nilFunc).run P w=.ok false w;rw[Op.equalIn];simp[run_underlying h]
theorem V.fn_eql{a b c}{f:Fn}{u v:Array Value}(ht:P.underlying tx=some (.func a b c))(hx:ev n ρ x=.func f u v)(hy:ev n ρ y=.nilFunc):Val P n C ρ ⟨d,.binOp .eql tx x y ty,t,pos,af,g⟩ (.bool false):=fun w _=>by
 have:=yK (P:=P) (w:=w) tx f u v ht;simp only[execOp,hx,hy];simp only[binOp];simp[eqGuard,this]
theorem V.fn_neq{a b c}{f:Fn}{u v:Array Value}(ht:P.underlying tx=some (.func a b c))(hx:ev n ρ x=.func f u v)(hy:ev n ρ y=.nilFunc):Val P n C ρ ⟨d,.binOp .neq tx x y ty,t,pos,af,g⟩ (.bool true):=fun w _=>by
 have:=yK (P:=P) (w:=w) tx f u v ht;simp only[execOp,hx,hy];simp only[binOp];simp[eqGuard,this]
end
def mk{α:Type}(len cap:Int)(z:α):Option (List α):=if 0<=len/\len<=cap/\cap<=1073741824 then some (Z2 len.toNat z)else none
theorem m4{α:Type}{len cap:Int}{z:α}{r:List α}(h:mk len cap z=some r):0<=len/\len<=cap/\cap<=1073741824/\Z2 len.toNat z=r:=by
 unfold mk at h;split at h
 . rename_i hh;cases h;exact⟨hh.1,hh.2.1,hh.2.2,rfl⟩
 . cases h
theorem MM{α:Type}{len cap:Int}{z:α}(h1:0<=len)(h2:len<=cap)(h3:cap<=1073741824):mk len cap z=some (Z2 len.toNat z):=by unfold mk;rw[if_pos ⟨h1,h2,h3⟩]
theorem mkN{α:Type}{k:Nat}{z:α}(h:k<=1073741824):mk (k:Int) (k:Int) z=some (Z2 k z):=by rw[MM (by omega) (by omega) (by omega)];simp
theorem Els.zrow{K:Hp}{t:Tp}{z:List Value}{x:t.den}(h:Is K t z x):∀n,Els K t (zrow n z) (Z2 n x)
 |0=>rfl
 |n+1=>⟨z,_,rfl,h,Els.zrow h n⟩
theorem vk(z:List Value):∀(n m:Nat),n<=m->(zrow m z).take (n*z.length)=zrow n z
 |0,m,_=>by simp[zrow]
 | n + 1,m + 1,h=>by
   unfold zrow;rw[aC0,bh0,bD0,vk z n m (by omega)]
section
variable {P:Program}{E:En}{n:Nat}{ρ:Sl0}{K:Hp}{L:List ah}{d:Nat}{t:TypeId}{pos:String}{af:Array Edge}{g:Option (Nat×Bool)}{x y c:Operand}{u v:Value}
theorem A.make{s e:TypeId}{z:Value}{sz bt:Nat}{len cap:Int}{k1 k2:IntKind}{K0:Hp}{ty:Tp}{x0:ty.den}(hs:P.underlying s=some (.slice e))(hi:Inf P e z sz bt)(hty:ty.size=sz)(hz0:Is K0 ty z.cells.toList x0)(hpos:0<sz)(hbt:bt<=100000)
   (hx:ev n ρ x=.int k1 len) (hy:ev n ρ y=.int k2 cap) {zs:List ty.den} (hz:mk len cap x0=some zs) :
   Ao P E n ⟨some d,.makeSlice s x y,t,pos,af,g⟩ ρ K L (fun ρ' K' L'=>∃b,ρ'=upd ρ d (.slice (some ⟨b,0,none⟩) zs.length cap.toNat)/\K=K'/\L'=Row K0 e ty (.slice (some ⟨b,0,none⟩) zs.length cap.toNat) zs::L) :=
 Ao.of rfl (fun w hsep=>by
   obtain⟨h1,h2,h3,rfl⟩:=m4 hz;obtain⟨i,i1,i2,i3,i4⟩:=hi.open;have hzl:z.cells.toList.length=sz:=by rw[hz0.len,hty]
   have hb:(i.bytes:Int)*cap<=281474976710656:=by
     have a1:(i.bytes:Int)<=100000:=by omega
     have a2:(i.bytes:Int)*cap<=100000*cap:=bP0 a1 (by omega);omega
   have hr:=run_make (P:=P) w s e i z hs i1 i2 k1 k2 len cap h1 h2 hb (by omega);have hc:madeCells z.cells (cap.toNat*i.size)=(zrow cap.toNat z.cells.toList).toArray:=by
     have e:=ka z.cells (by rw[<- Y5];omega) cap.toNat;unfold madeCells;rw[i3];rw[show sz=z.cells.size by rw[<- Y5];omega];exact e
   rw[hc]at hr;have hsz:i.size=sz:=i3;have hrow:Sep E K (Row K0 e ty (.slice (some ⟨w.heap.size,0,none⟩) (Z2 len.toNat x0).length cap.toNat) (Z2 len.toNat x0)::L) (w.alloc (.cells (zrow cap.toNat z.cells.toList).toArray e)):=by
     refine (Sep.alloc hsep e (zrow cap.toNat z.cells.toList).toArray).mono (fun h hh=>?_);obtain rfl:h=_:=hh;refine⟨zrow len.toNat z.cells.toList,Els.zrow hz0 _,by rw[ix,X9,hzl,hty],.inr ⟨w.heap.size,cap.toNat,(zrow cap.toNat z.cells.toList).toArray,by simp,by simp,by simp;omega,by unfold maxLen;omega,by rw[aV0,ix,hzl,hty],?_⟩⟩;rw[X9,hty,<- hzl];exact vk _ _ _ (by omega)
   refine⟨.slice (some ⟨w.heap.size,0,none⟩) len.toNat cap.toNat,_,K,_,?_,hrow,w.heap.size,by simp,rfl,rfl⟩;simp[execOp,hx,hy,hr])
end
section
variable {P:Program}{E:En}{n:Nat}{ρ:Sl0}{K:Hp}{L:List ah}{d:Nat}{t:TypeId}{pos:String}{af:Array Edge}{g:Option (Nat×Bool)}{x y c:Operand}{u v:Value}
end
def fB(l:List Int):List UInt8:=l.map fun n=>UInt8.ofNat n.toNat
theorem zr:∀(ns:List Int) (s:ByteArray),ns.foldl (fun r n=>r.push (UInt8.ofNat n.toNat)) s=⟨s.data++(fB ns).toArray⟩
 |[],s=>by simp[fB]
 | n :: ns,s=>by
   rw[bF0,zr ns];simp[ByteArray.push,fB]
theorem CQ{K:Hp}{k:IntKind}:∀{cs:List Value} {xs:List Int},Els K (.int k) cs xs->cs=xs.map (Value.int k)
 |cs,[],h=>h
 | cs,x :: xs,h=>by
   obtain⟨es,r,rfl,h1,h2⟩:=h;simp only[Is]at h1;subst h1;rw[CQ h2];rfl
section
variable {P:Program}{E:En}{n:Nat}{C:World->Prop}{ρ:Sl0}{K K0:Hp}{R L:List ah}{d:Option Nat}{t:TypeId}{pos:String}{af:Array Edge}{g:Option (Nat×Bool)}{x y c:Operand}{u v:Value}
theorem wm{w:World}{src dst e:TypeId}{ad:Option Addr}{m cp:Nat}{xs:List Int}(hs:P.underlying src=some (.slice e))(he:P.underlying e=some (.int .u8))(hd:P.underlying dst=some .string)(hl:m=xs.length)
   (h:∀b,ad=some b->∀j u,(xs.map (Value.int .u8))[j]?=some u->w.cell? (b.add j)=some u) (hn:ad=none->xs=[]):(convert src dst (.slice ad m cp)).run P w=.ok (.string ⟨(fB xs).toArray⟩) w:=by
 rw[run_convert_bytes_string w src dst e ad m cp hs he hd];cases ad with
 |none=>rw[hn rfl];rfl
 | some b =>
   have h1:=run_loadCells_list (P:=P) w b (xs.map (Value.int .u8)) (fun j u hj=>h b rfl j u hj);rw[Y6,<- hl]at h1;rw[run_bytesToString w b m cp xs h1,zr];simp
end
theorem Is.ptr_nil{K:Hp}{t:Tp}:Is K (.ptr t) [.pointer none] (none:Option t.den):=.inl ⟨rfl,rfl⟩
theorem At.is_ptr{K:Hp}{t:Tp}{b o:Nat}{y:t.den}(h:At K t b o y):Is K (.ptr t) [.pointer (some ⟨b,o,none⟩)] (some y):=by
 obtain⟨es,h1,h2,h3⟩:=h;exact .inr ⟨y,b,o,rfl,rfl,es,h1,h2,h3⟩
theorem Sep.persistAt{E:En}{K:Hp}{L:List ah}{w:World}{b:Nat}{e:TypeId}{t:Tp}{cs:List Value}{x:t.den}(h:Is K t cs x)(hs:Sep E K (Cl b e cs::L) w):∃K',K.le K'/\At K' t b 0 x/\Sep E K' L w:=by
 obtain⟨K',h1,h2,h3⟩:=hs.persistCl;refine⟨K',h1,⟨cs,h.len,h.mono h1,fun j hj=>?_⟩,h3⟩;have hj':j<cs.length:=by rw[h.len];exact hj
 rw[Z0 hj',Y8];exact h2 j _ (Z0 hj')
section
variable {P:Program}{E:En}{n:Nat}{Φ:Post}{N:Sl0->Hp->List ah->Prop}{ρ:Sl0}{K K0:Hp}{L R:List ah}{ops:Array Oper}{C:World->Prop}{X:Act->World->Prop}{e:TypeId}{t:Tp}{b:Nat}{cs:List Value}{x:t.den}
end
section
variable {P:Program}{n:Nat}{C:World->Prop}{ρ:Sl0}{d:Option Nat}{t:TypeId}{pos:String}{af:Array Edge}{g:Option (Nat×Bool)}{x y:Operand}{tx ty e:TypeId}{K:Hp}{tp:Tp}{v:Value}
end
end
section
theorem A.val{P:Program}{E:En}{n d:Nat}{ρ:Sl0}{K:Hp}{L:List ah}{o:Oper}{v:Value}(ho:o.dst=some d)(hv:Val P n (Hold E K L) ρ o v):Ao P E n o ρ K L (fun ρ' K' L'=>ρ'=upd ρ d v/\K=K'/\L=L') :=
 Ao.of ho (fun w hs=>⟨v,w,K,L,hv w (Hold.of_sep hs),hs,rfl,rfl,rfl⟩)
inductive MT
 |leaf (fin:List Nat)
 |still (s:List Nat) (t:MT)
 |alt (k:Nat) (t r:MT)
 |done
def MT.keys:MT->List Nat
 |.alt k _ r=>k::r.keys
 |_=>[]
def mtB(md:Region.Mode)(ops:Array Oper)(tail:List Nat):Bool->MT->Nat->Array Bool->Bool
 |_,.leaf fin,n,l=>Y3 n (fin.length+tail.length)&&match cF md ops tail fin l with|some l'=>j4 md ops tail tail l'|none=>false
 |_,.still s t,n,l=>aT0 s.length n&&match cF md ops tail s l with|some l'=>mtB md ops tail true t (n-s.length) l'|none=>false
 | top,.alt k t r,n,l=>(!top||Region.ready md ops l==k::r.keys)&&aT0 1 n&&!tail.contains k&&(Region.ready md ops l).contains k&&mtB md ops tail true t (n-1) (l.setIfInBounds k true)&&mtB md ops tail false r n l
 |top,.done,_,_=>!top
def wpT(P:Program)(C:World->Prop)(F:Act->World->Prop)(l:List Oper):MT->Act->World->Prop
 |.leaf fin,a,w=>wpQuiet P l.toArray C (fun a'=>F a' w) (bq l fin) a
 |.still s t,a,w=>wpQuiet P l.toArray C (fun a'=>wpT P C F l t a' w) (bq l s) a
 |.alt k t r,a,w=>(∀o,l[k]?=some o->dh P l.toArray C o (wpT P C F l t) a w)/\wpT P C F l r a w
 |.done,_,_=>True
section
variable {P:Program}{C:World->Prop}{Q:Exit->Act->World->Prop}{md:Region.Mode}
theorem yQ{ops:Array Oper}{tail:List Nat}:∀(s:List Nat) (listed l1:Array Bool),cF md ops tail s listed=some l1->cu md ops listed->cu md ops l1
 |[],a,b,h1,h2=>by simp only[cF,Z3]at h1;subst h1;exact h2
 | i :: s,a,b,h1,h2=>by
   simp only[cF]at h1;split at h1
   case isFalse=>cases h1
   case isTrue hb =>
     simp only[Y1]at hb;exact yQ s _ _ h1 (gg h2 (by simpa using hb.1.1.1.1))
theorem np{l:List Oper}{tail:List Nat}(hs:Region.noSelect l.toArray=true):∀(t:MT) (top:Bool) (n:Nat) (listed:Array Bool) (a:Act) (w:World),mtB md l.toArray tail top t n listed=true->C w->cu md l.toArray listed ->
   wpT P C (fun a' w'=>aw P l.toArray Q (bq l tail) a' w') l t a w ->
   (top=true->cJ P md l.toArray C (tail.contains ·) Q n listed a w)/\(top=false->∀i∈t.keys,mixOp P l.toArray C (tail.contains ·) Q i (cJ P md l.toArray C (tail.contains ·) Q (n-1) (listed.setIfInBounds i true)) a w)
 | .leaf fin,top,n,listed,a,w,hB,hC,hS,h=>by
   refine⟨fun _=>?_,fun _ i hi=>by simp[MT.keys]at hi⟩;simp only[mtB,Y1]at hB;obtain⟨hn,hB⟩:=hB;have hn:=Y0 hn;split at hB
   case h_2=>cases hB
   case h_1 l2 h2 =>
     have:=(jN (P:=P) (Q:=Q) (md:=md) (tail:=tail) (C:=C) hs fin tail.length listed l2 a w _ h2 hC hS (fun a2 hk=>vB tail l2 a2 w hB hk) h).2;rw[hn,bh0];exact this
 | .still s t,top,n,listed,a,w,hB,hC,hS,h=>by
   refine⟨fun _=>?_,fun _ i hi=>by simp[MT.keys]at hi⟩;simp only[mtB,Y1]at hB;obtain⟨hn,hB⟩:=hB;have hn:=W9 hn;split at hB
   case h_2=>cases hB
   case h_1 l2 h2 =>
     have hS2:=yQ s listed l2 h2 hS;have:=(jN (P:=P) (Q:=Q) (md:=md) (tail:=tail) (C:=C) hs s (n-s.length) listed l2 a w _ h2 hC hS (fun a2 hk=>(np hs t true (n-s.length) l2 a2 w hB hC hS2 hk).1 rfl) h).2;rw[show n-s.length+s.length=n by omega]at this;exact this
 | .alt k t r,top,n,listed,a,w,hB,hC,hS,h=>by
   simp only[mtB,Y1]at hB;obtain⟨⟨⟨⟨⟨h1,h2⟩,h3⟩,h4⟩,h5⟩,h6⟩:=hB;have h2:=W9 h2;have hmem:k∈Region.ready md l.toArray listed:=by simpa using h4
   obtain⟨_,o,ho,_⟩:=mem_ready.1 hmem;have ho':l[k]?=some o:=by simpa using ho
   have key:∀i∈k::r.keys,mixOp P l.toArray C (tail.contains ·) Q i (cJ P md l.toArray C (tail.contains ·) Q (n-1) (listed.setIfInBounds i true)) a w:=by
     intro i hi
     rcases Y4.1 hi with rfl|hi
     . have hk:=h.1 o ho';unfold mixOp;have h3':tail.contains i=false:=by simpa using h3
       simp only[ho,h3',W7,if_false];unfold dh at hk;split
       . rename_i hw;simp only[hw,if_true]at hk;exact Oper.wp_mono (fun a2 w2 hk2=>⟨hk2.1,(np hs t true (n-1) _ a2 w2 h5 hk2.1 (gg hS hmem) hk2.2).1 rfl⟩) hk
       . rename_i hw;simp only[hw]at hk;exact (np hs t true (n-1) _ _ w h5 hC (gg hS hmem) hk).1 rfl
     . exact (np hs r false n listed a w h6 hC hS h.2).2 rfl i hi
   refine⟨fun ht=>?_,fun _=>key⟩;subst ht;simp only[X7,cw0,beq_iff_eq]at h1;obtain⟨m,rfl⟩:∃m,n=m+1:=⟨n-1,by omega⟩
   exact⟨fun h0=>(by rw[h1]at h0;cases h0),fun i hi=>key i (by rw[<- h1];exact hi)⟩
 | .done,top,n,listed,a,w,hB,hC,hS,h=>by
   simp only[mtB,bN0]at hB;subst hB;exact⟨fun h=>(by cases h),fun _ i hi=>(by simp[MT.keys]at hi)⟩
theorem Fd{id:Nat}{a:Act}{w:World}{l:List Oper}(tr:MT)(tail:List Nat)(hm:P.follows .mixedOrders=true)(hB:(Region.noSelect l.toArray&&mtB .any l.toArray tail true tr l.length (bz0 l.length false))=true)(C:World->Prop)(hC:C w.drew){ts:List Oper}(hts:bq l tail=ts)
   (h:wpT P C (fun a' w'=>aw P l.toArray Q ts a' w') l tr a w.drew) (hnd:l.all cy=true) {r:Option Nat} {n:Nat}:(Code.region id l.toArray true).wpIn (aG r) n P Q a w:=by
 subst hts;simp only[Y1]at hB;refine wpIn_region_any hm (ur (C:=C) (T:=(tail.contains ·)) (BG hnd) _ _ _ _ ?_);have hS0:cu Region.Mode.any l.toArray (bz0 l.length false):=by
   intro j o _ hl;exfalso
   rcases aq0 j (bz0 l.length false).size with h'|h'
   . simp at h';simp[h']at hl
   . rw[cP0,al0 h']at hl;cases hl
 have:=(np (P:=P) (Q:=Q) (C:=C) hB.1 tr true l.length _ a w.drew hB.2 hC hS0 h).1 rfl;simpa using this
end
section
variable {P:Program}{E:En}{n:Nat}{Φ:Post}{ρ:Sl0}{K K0:Hp}{L:List ah}{l:List Oper}{C:World->Prop}{F:Act->World->Prop}{e:TypeId}{t:Tp}{v:Value}{xs:List t.den}{b:Nat}{cs:List Value}{x:t.den}{tr rr:MT}
structure JT(P:Program)(E:En)(n:Nat)(l:List Oper)(C:World->Prop)(F:Act->World->Prop)(tr:MT)(ρ:Sl0)(K:Hp)(L:List ah):Prop where
 go:∀w,Sep E K L w->wpT P C F l tr (act n ρ) w
structure JB(P:Program)(E:En)(n:Nat)(l:List Oper)(C:World->Prop)(F:Act->World->Prop)(o:Oper)(tr:MT)(ρ:Sl0)(K:Hp)(L:List ah):Prop where
 go:∀w,Sep E K L w->dh P l.toArray C o (wpT P C F l tr) (act n ρ) w
end
end
section
theorem Val.eq{P:Program}{n:Nat}{C:World->Prop}{ρ:Sl0}{o:Oper}{v v':Value}(h:Val P n C ρ o v')(e:v'=v):Val P n C ρ o v:=e ▸ h
section
variable {P:Program}{E:En}{n:Nat}{Φ:Post}{ρ:Sl0}{K:Hp}{L:List ah}{ops:Array Oper}{rest:List Oper}{d i:Nat}{op:Op}{t:TypeId}{pos:String}{af:Array Edge}{x y:Operand}{vs:Array Value}{C:World->Prop}{N:Sl0->Prop}
theorem jm(v:Value)(hx:ev n ρ x=v)(h:J P E n ops rest Φ (upd ρ d v) K L):J P E n ops (⟨some d,.move x,t,pos,af,none⟩::rest) Φ ρ K L:=J.val rfl rfl (V.mv hx) h
theorem jx(v:Value)(hx:ev n ρ x=.tuple vs)(hv:vs[i]?=some v)(h:J P E n ops rest Φ (upd ρ d v) K L):J P E n ops (⟨some d,.extract x i,t,pos,af,none⟩::rest) Φ ρ K L:=J.val rfl rfl (V.ext hx hv) h
theorem cc{α:Type}{c:Operand}{a b:Code}{u:Bool}{m1 m2:Option α}{r:α}(hc:ev n ρ c=.bool u)(h:cond u m1 m2=some r)(ht:u=true->m1=some r->CJ P E n a Φ ρ K L)(hf:u=false->m2=some r->CJ P E n b Φ ρ K L):CJ P E n (.cond c a b) Φ ρ K L :=
 CJ.cond hc (fun e=>ht e (ct e h)) (fun e=>hf e (cf e h))
end
end
section
section
variable {P:Program}{E:En}{n:Nat}{Φ:Post}{ρ:Sl0}{K:Hp}{L:List ah}
end
section
variable {P:Program}{E:En}{n:Nat}{ρ:Sl0}{K:Hp}{L:List ah}{d:Nat}{t:TypeId}{pos:String}{af:Array Edge}{g:Option (Nat×Bool)}{x y c:Operand}{u v:Value}
theorem A.litC{s e:TypeId}{z:Value}{sz bt len:Nat}{parts:Array (Nat×Operand)}{cs:List Value}(hs:P.underlying s=some (.slice e))(hi:Inf P e z sz bt)(hbig:len*sz<=16777216)
   (hzs:z.cells.size=sz) (hc0:br (fun i=>some (i*sz,sz)) (zrow len z.cells.toList) (parts.toList.map fun (i,x)=>(i,ev n ρ x))=some cs) (hpos:0<len*sz) :
   Ao P E n ⟨some d,.buildSlice s len parts,t,pos,af,g⟩ ρ K L (fun ρ' K' L'=>∃b,ρ'=upd ρ d (.slice (some ⟨b,0,none⟩) len len)/\K=K'/\L'=Cl b e cs::L) :=
 Ao.of rfl (fun w hsep=>by
   obtain⟨i,h1,h2,h3,_⟩:=hi.open;have h0:0<sz:=Nat.pos_of_ne_zero (fun h=>by rw[h,Nat.mul_zero]at hpos;omega);have hc:Instr.fill (fun i=>some (i*sz,sz)) ((bT0 (len*sz)).map (z.cells[· % z.cells.size]!)) (parts.map fun (i,x)=>(i,ev n ρ x)).toList=some cs.toArray:=by
     have e:=ka z.cells (by omega) len;rw[hzs]at e;simp only[hzs];rw[e];apply jZ;simpa using hc0
   refine⟨.slice (some ⟨w.heap.size,0,none⟩) len len,_,K,_,?_,Sep.alloc hsep e cs.toArray,w.heap.size,rfl,rfl,by simp⟩;have hb:¬ (2 ^ 24<len*sz):=by omega
   have hc':Instr.fill (fun i=>some (i*sz,sz)) ((bT0 (len*sz)).map (z.cells[· % z.cells.size]!)) (cE0 (fun x=>(x.1,ev n ρ x.2)) parts.toList)=some cs.toArray:=by simpa using hc
   have hm:len≠0/\sz≠0:=⟨fun h=>by rw[h,bO0]at hpos;omega,by omega⟩;have hn:¬ len*sz=0:=by omega
   simp[execOp,Instr.buildSlice,run_underlying hs,sizeOf,typeInfo,h1,h2,h3,zeroValue,newRow,hb,hc']
   try (intro h;exact absurd h hn))
end
end
section
section
variable {P:Program}{b:Frame}{a:Act}{k:List Item}{cs:List Frame}{w:World}{F:Fence}{m:Nat}{Q:Exit->Act->World->Prop}
theorem jE{c:Code}:step P (lone (b.atR a (.code (.scope c)::k)) cs w)=.next (lone (b.atR a (.code c::.inScope c::k)) cs w) :=
 step_lone_go (by simp[stepG,stepG.exec,Frame.atR])
theorem Fm{c:Code}:step P (lone (b.atR a (.inScope c::k)) cs w)=.next (lone (b.atR a k) cs w) :=
 step_lone_go (by simp[stepG,stepG.exec,Frame.atR])
theorem EI{c:Code}(h:c.wpIn F m P (Exit.noGoto Q) a w):(Code.scope c).wpIn F m P Q a w:=by
 intro b k cs hro hb hr;have h0:(lone (b.atR a (.code (.scope c)::k)) cs w).fenced P F:=fenced_calm hb hr rfl;obtain⟨e,a₁,w₁,hq,harr⟩:=h b (.inScope c::k) cs hro hb hr;cases e with
 |normal=>exact⟨.normal,a₁,w₁,hq,.head h0 jE (StepsIn.trans harr (.one (fenced_calm hb hr rfl) Fm))⟩
 | exit id =>
   have hx:exitTo id (.inScope c::k)=exitTo id k:=by simp[exitTo]
   exact⟨.exit id,a₁,w₁,hq,fun k' hk=>.head h0 jE (harr.1 k' (by rw[hx];exact hk)),
     fun hr' hk=>let ⟨k₁,h1,h2⟩:=harr.2 hr' (by rw[hx];exact hk);⟨k₁,h1,.head h0 jE h2⟩⟩
 |goto l=>exact hq.elim
 |ret=>exact⟨_,a₁,w₁,hq,.of_steps (.one h0 jE) harr⟩
 |panic ch=>exact⟨_,a₁,w₁,hq,.of_steps (.one h0 jE) harr⟩
 |outgrown=>exact⟨_,a₁,w₁,hq,.of_steps (.one h0 jE) harr⟩
end
section
variable {P:Program}{E:En}{n:Nat}{Φ:Post}{ρ:Sl0}{K:Hp}{L:List ah}
end
end
set_option linter.unusedSectionVars false
set_option linter.unusedSimpArgs false
set_option linter.unnecessarySimpa false
section
theorem Sep.allocN{E:En}{K:Hp}{L:List ah}{w:World}(h:Sep E K L w)(ob:Obj):Sep E K ((fun h=>h=Go.Proofs.YtpnmnbfbcgkcjaaGreatDoor.one w.heap.size ob)::L) (w.alloc ob) :=
 Sep.turn h.emp (fun e=>e) (fun h0 ha _=>by
   unfold _root_.Go.Proofs.YtpnmnbfbcgkcjaaGreatDoor.emp at ha;subst ha;refine⟨_,rfl,fun n o e=>?_,fun n o e _=>?_⟩
   . obtain⟨rfl,rfl⟩:=cv e;exact⟨by simpa using ge w _,fun _=>al0 (X3 _)⟩
   . rw[Below.heap_alloc _ _ _ (lt_of_block e)];exact e)
inductive OT where
 |dat (t:Tp)
 |row (e:TypeId) (a:OT)
 |box (e:TypeId) (a:OT)
 |one (a:OT)
 |cons (a r:OT)
 |obj (n:Nat) (u:Tp)
 |chn (a:OT)
 |lbx (e:TypeId) (a:OT)
def OT.tp:OT->Tp
 |.dat t=>t
 |.row _ a=>.sl a.tp
 |.box _ a=>.ptr a.tp
 |.one a=>.one a.tp
 |.cons a r=>.cons a.tp r.tp
 |.obj _ u=>.ptr u
 |.chn a=>.ptr (.cons (.int .i64) (.one (.sl a.tp)))
 |.lbx _ a=>.ptr a.tp
def EEls{α:Type}(f:List Value->α->ah):List Value->List α->ah
 |cs,[]=>fun h=>cs=[]/\h=Hp.nil
 |cs,x::xs=>fun h=>∃es r,cs=es++r/\cq (f es x) (EEls f r xs) h
def tcs:(t:Tp)->t.den->List Value
 |.int k,x=>[.int k x]
 |.bool,x=>[.bool x]
 |.str,x=>[.string ⟨aN0 (α:=UInt8) x⟩]
 |.one a,x=>tcs a x
 |.cons a r,x=>tcs a x.1++tcs r x.2
 |_,_=>[]
def ay:(t:Tp)->t.den->Value
 |.int k,x=>.int k x
 |.bool,x=>.bool x
 |.str,x=>.string ⟨aN0 (α:=UInt8) x⟩
 |t,x=>.agg (tcs t x).toArray
def Brn(es:Array MapEntry)(clock:Nat):Prop:=(es.toList.map (·.born)).Nodup/\∀e∈es.toList,e.born<clock
def yc:Nat->(u:Tp)->u.den->Obj->Prop
 |0,.sl (.cons kt (.one (.int .i64))),l,o=>∃es clock,o=.map es clock/\es.toList.map (fun e=>(e.key,e.val))=cE0 (fun p:kt.den×Int=>(ay kt p.1,Value.int .i64 p.2)) l/\Brn es clock
 |1,.cons (.int .i64) (.one (.sl t)),x,o=>∃buf sent rcvd,o=.chan (Z5 x.1) buf false sent rcvd false/\(0:Int)<=x.1/\buf.toList=cE0 (ay t) x.2
 |_,_,_,_=>False
def rQ:Nat->Value
 |0=>.map none
 |_=>.chan none
def fq:Nat->Nat->Value
 |0,r=>.map (some r)
 |_,r=>.chan (some r)
theorem zD(n:Nat):(rQ n).oneCell'=true:=by unfold rQ;split <;> rfl
theorem zy(n r:Nat):(fq n r).oneCell'=true:=by unfold fq;split <;> rfl
def OT.own(K0:Hp):(o:OT)->List Value->o.tp.den->ah
 |.dat t,cs,x=>fun h=>Is K0 t cs x/\h=Hp.nil
 |.row e a,cs,x=>fun h=>∃v vs,cs=[v]/\cq (Rw e a.tp.size v (W4 (α:=a.tp.den) x) vs) (EEls (OT.own K0 a) vs x) h
 | .box e a,cs,x=>fun h=>match (x:Option a.tp.den) with
   |none=>cs=[.pointer none]/\h=Hp.nil
   |some y=>∃b vs,cs=[.pointer (some ⟨b,0,none⟩)]/\cq (Cl b e vs) (OT.own K0 a vs y) h
 |.one a,cs,x=>OT.own K0 a cs x
 |.cons a r,cs,x=>fun h=>∃c1 c2,cs=c1++c2/\c1.length=a.tp.size/\cq (OT.own K0 a c1 x.1) (OT.own K0 r c2 x.2) h
 | .obj n u,cs,x=>fun h=>match (x:Option u.den) with
   |none=>cs=[rQ n]/\h=Hp.nil
   |some y=>∃r o,cs=[fq n r]/\yc n u y o/\h=Go.Proofs.YtpnmnbfbcgkcjaaGreatDoor.one r o
 | .chn a,cs,x=>fun h=>match (x:Option (Int×List a.tp.den)) with
   |none=>cs=[.chan none]/\h=Hp.nil
   |some y=>∃r buf sent rcvd,cs=[.chan (some r)]/\(0:Int)<=y.1/\a.tp.size=1/\cq (fun h=>h=Go.Proofs.YtpnmnbfbcgkcjaaGreatDoor.one r (.chan (Z5 y.1) buf false sent rcvd false)) (EEls (OT.own K0 a) buf.toList y.2) h
 | .lbx e a,cs,x=>fun h=>match (x:Option a.tp.den) with
   |none=>∃p,cs=[.pointer p]/\h=Hp.nil
   |some y=>∃b vs,cs=[.pointer (some ⟨b,0,none⟩)]/\cq (Cl b e vs) (OT.own K0 a vs y) h
def OT.pos:OT->Bool
 |.dat _=>true
 |.row _ a=>aO0 0 a.tp.size&&a.pos
 |.box _ a=>a.pos
 |.one a=>a.pos
 |.cons a r=>a.pos&&r.pos
 |.obj _ _=>false
 |.chn _=>false
 |.lbx _ _=>false
def OT.flat:OT->Bool
 |.dat t=>t.flat
 |.row _ a=>a.flat
 |.box _ a=>a.flat
 |.one a=>a.flat
 |.cons a r=>a.flat&&r.flat
 |.obj _ _=>true
 |.chn a=>a.flat
 |.lbx _ a=>a.flat
theorem jS{A B:ah}(ha:A Hp.nil)(hb:B Hp.nil):cq A B Hp.nil:=⟨Hp.nil,Hp.nil,ha,hb,(fun n o e=>by cases e),(Hp.join_nil Hp.nil).symm⟩
theorem ci{A B A' B':ah}{h:Hp}(ha:∀h,A h->A' h)(hb:∀h,B h->B' h):cq A B h->cq A' B' h:=fun ⟨h1,h2,a,b,d,e⟩=>⟨h1,h2,ha _ a,hb _ b,d,e⟩
theorem OT.own_len{K0:Hp}:∀(o:OT) {cs:List Value} {x:o.tp.den} {h:Hp},o.own K0 cs x h->cs.length=o.tp.size
 |.dat t,cs,x,h,k=>k.1.len
 |.row e a,cs,x,h,k=>by obtain⟨v,vs,rfl,_⟩:=k;rfl
 | .box e a,cs,x,h,k=>by
   unfold OT.own at k;split at k
   . rw[k.1];rfl
   . obtain⟨b,vs,rfl,_⟩:=k;rfl
 | .lbx e a,cs,x,h,k=>by
   unfold OT.own at k;split at k
   . obtain⟨p,rfl,_⟩:=k;rfl
   . obtain⟨b,vs,rfl,_⟩:=k;rfl
 | .obj n u,cs,x,h,k=>by
   unfold OT.own at k;split at k
   . rw[k.1];rfl
   . obtain⟨r,o,rfl,_⟩:=k;rfl
 | .chn a,cs,x,h,k=>by
   unfold OT.own at k;split at k
   . rw[k.1];rfl
   . obtain⟨r,b,s,c,rfl,_⟩:=k;rfl
 |.one a,cs,x,h,k=>by have:=OT.own_len a (x:=x) k;simpa[OT.tp,Tp.size]using this
 | .cons a r,cs,x,h,k=>by
   obtain⟨c1,c2,rfl,h1,p,q,_,h2,_⟩:=k;have:=OT.own_len r h2;simp[OT.tp,Tp.size,h1,this]
section
variable {α:Type}{f g:List Value->α->ah}{E:En}{K:Hp}{L:List ah}{w:World}
theorem EEls.mono(hf:∀es x h,f es x h->g es x h):∀{xs:List α} {cs:List Value} {h:Hp},EEls f cs xs h->EEls g cs xs h
 |[],cs,h,k=>k
 |x::xs,cs,h,⟨es,r,e,k⟩=>⟨es,r,e,ci (hf es x) (fun h k=>EEls.mono hf k) k⟩
theorem EEls.len{k:Nat}(hf:∀es x h,f es x h->es.length=k):∀{xs:List α} {cs:List Value} {h:Hp},EEls f cs xs h->cs.length=xs.length*k
 |[],cs,h,q=>by rw[q.1];simp
 | x :: xs,cs,h,⟨es,r,e,h1,h2,a,b,_,_⟩=>by
   rw[e,W3,hf es x h1 a,EEls.len hf b,V9,aC0];omega
theorem Sep.rot3{A B C:ah}(h:Sep E K (A::B::C::L) w):Sep E K (B::C::A::L) w:=Sep.front 2 rfl (Sep.front 2 rfl h)
theorem Sep.rot4{A B C D:ah}(h:Sep E K (A::B::C::D::L) w):Sep E K (B::C::D::A::L) w:=Sep.front 3 rfl (Sep.front 3 rfl (Sep.front 3 rfl h))
theorem Sep.openEls{k:Nat}(hf:∀es x h,f es x h->es.length=k):∀{xs:List α} {cs:List Value} {L:List ah} (j:Nat) {x:α},xs[j]?=some x->Sep E K (EEls f cs xs::L) w ->
   ∃c1 es c2,cs=c1++(es++c2)/\c1.length=j*k/\es.length=k/\Sep E K (EEls f c1 (xs.take j)::f es x::EEls f c2 (xs.drop (j+1))::L) w
 |[],cs,L,j,x,hx,h=>by simp at hx
 | y :: xs,cs,L,0,x,hx,h=>by
   simp at hx;subst hx;obtain⟨h0,⟨es,r,rfl,hst⟩,hd,hs⟩:=h;have h1:Sep E K (f es y::EEls f r xs::L) w:=Sep.split ⟨h0,hst,hd,hs⟩;have hl:=h1.fact (fun h k=>hf es y h k);refine⟨[],es,r,rfl,by simp,hl,?_⟩;exact h1.emp.mono (fun h k=>⟨rfl,k⟩)
 | y :: xs,cs,L,j + 1,x,hx,h=>by
   obtain⟨h0,⟨ey,r,rfl,hst⟩,hd,hs⟩:=h;have h1:Sep E K (f ey y::EEls f r xs::L) w:=Sep.split ⟨h0,hst,hd,hs⟩;have hl:=h1.fact (fun h k=>hf ey y h k);obtain⟨c1,es,c2,rfl,h2,h3,h4⟩:=Sep.openEls hf (L:=f ey y::L) j (by simpa using hx) h1.swap;refine⟨ey++c1,es,c2,by simp,by rw[W3,hl,h2,aC0];omega,h3,?_⟩;have h5:Sep E K (cq (f ey y) (EEls f c1 (xs.take j))::f es x::EEls f c2 (xs.drop (j+1))::L) w:=Sep.join (Sep.front 3 rfl h4);exact h5.mono (fun h k=>⟨ey,c1,rfl,k⟩)
theorem Sep.closeEls:∀{pre:List α} {c1 es c2:List Value} {x:α} {post:List α} {L:List ah},Sep E K (EEls f c1 pre::f es x::EEls f c2 post::L) w->Sep E K (EEls f (c1++(es++c2)) (pre++x::post)::L) w
 | [],c1,es,c2,x,post,L,h=>by
   have hc:c1=[]:=h.fact (fun h k=>k.1);subst hc;exact (Sep.join h.drop).mono (fun h k=>⟨es,c2,rfl,k⟩)
 | y :: pre,c1,es,c2,x,post,L,h=>by
   obtain⟨h0,⟨a,r,rfl,hst⟩,hd,hs⟩:=h;have h1:Sep E K (f a y::EEls f r pre::f es x::EEls f c2 post::L) w:=Sep.split ⟨h0,hst,hd,hs⟩;have h2:=Sep.closeEls (L:=f a y::L) h1.rot4;exact (Sep.join h2.swap).mono (fun h k=>⟨a,r++(es++c2),by simp,k⟩)
theorem Sep.appEls:∀{xs:List α} {c1 c2:List Value} {ys:List α} {L:List ah},Sep E K (EEls f c1 xs::EEls f c2 ys::L) w->Sep E K (EEls f (c1++c2) (xs++ys)::L) w
 | [],c1,c2,ys,L,h=>by
   have hc:c1=[]:=h.fact (fun h k=>k.1);subst hc;exact h.drop
 | x :: xs,c1,c2,ys,L,h=>by
   obtain⟨h0,⟨a,r,rfl,hst⟩,hd,hs⟩:=h;have h1:Sep E K (f a x::EEls f r xs::EEls f c2 ys::L) w:=Sep.split ⟨h0,hst,hd,hs⟩;have h2:=Sep.appEls (L:=f a x::L) h1.rot3;exact (Sep.join h2.swap).mono (fun h k=>⟨a,r++c2,by simp,k⟩)
theorem EEls.zero{z:List Value}{x:α}(h:f z x Hp.nil):∀n,EEls f ((Z2 n z).flatten) (Z2 n x) Hp.nil
 |0=>⟨rfl,rfl⟩
 |n+1=>⟨z,(Z2 n z).flatten,by simp[dB0],jS h (EEls.zero h n)⟩
end
theorem OT.own_flat{K0 K1:Hp}:∀(o:OT) (hf:o.flat=true) {cs:List Value} {x:o.tp.den} {h:Hp},o.own K0 cs x h->o.own K1 cs x h
 |.dat t,hf,cs,x,h,k=>⟨Is.flat hf k.1,k.2⟩
 |.row e a,hf,cs,x,h,⟨v,vs,e1,k⟩=>⟨v,vs,e1,ci (fun _ k=>k) (fun h k=>EEls.mono (fun es x h k=>OT.own_flat a hf k) k) k⟩
 | .box e a,hf,cs,x,h,k=>by
   unfold OT.own at k ⊢;split at k
   . exact k
   . obtain⟨b,vs,e1,k⟩:=k;exact⟨b,vs,e1,ci (fun _ k=>k) (fun h k=>OT.own_flat a hf k) k⟩
 | .lbx e a,hf,cs,x,h,k=>by
   unfold OT.own at k ⊢;split at k
   . exact k
   . obtain⟨b,vs,e1,k⟩:=k;exact⟨b,vs,e1,ci (fun _ k=>k) (fun h k=>OT.own_flat a hf k) k⟩
 |.obj n u,hf,cs,x,h,k=>by unfold OT.own at k ⊢;exact k
 | .chn a,hf,cs,x,h,k=>by
   unfold OT.own at k ⊢;split at k
   . exact k
   . obtain⟨r,b,s,c,e1,e2,e3,k⟩:=k;exact⟨r,b,s,c,e1,e2,e3,ci (fun _ k=>k) (fun h k=>EEls.mono (fun es x h k=>OT.own_flat a hf k) k) k⟩
 |.one a,hf,cs,x,h,k=>OT.own_flat a hf (x:=x) k
 | .cons a r,hf,cs,x,h,⟨c1,c2,e1,e2,k⟩=>by
   simp only[OT.flat,Y1]at hf;exact⟨c1,c2,e1,e2,ci (fun _ k=>OT.own_flat a hf.1 k) (fun _ k=>OT.own_flat r hf.2 k) k⟩
theorem EEls.els{K':Hp}{t:Tp}{f:List Value->t.den->ah}(hf:∀es x h,f es x h->h.le K'->Is K' t es x):∀{xs:List t.den} {cs:List Value} {h:Hp},EEls f cs xs h->h.le K'->Els K' t cs xs
 |[],cs,h,k,_=>k.1
 | x :: xs,cs,h,⟨es,r,e,h1,h2,a,b,d,e2⟩,hl=>by
   subst e2;refine⟨es,r,e,hf es x h1 a ((Hp.le_join h1 h2).trans hl),EEls.els hf b (fun n o q=>hl n o (Hp.join_right q (d n o q)))⟩
theorem OT.own_is{K0 K':Hp}(hk:K0.le K'):∀(o:OT) (hp:o.pos=true) {cs:List Value} {x:o.tp.den} {h:Hp},o.own K0 cs x h->h.le K'->Is K' o.tp cs x
 |.dat t,hp,cs,x,h,k,hl=>k.1.mono hk
 | .row e a,hp,cs,x,h,⟨v,vs,e1,h1,h2,k1,k2,d,e2⟩,hl=>by
   subst e1 e2;simp only[OT.pos,Y1,bj0]at hp;have he:=EEls.els (K':=K') (fun es x h k hl=>OT.own_is hk a hp.2 k hl) k2 (fun n o q=>hl n o (Hp.join_right q (d n o q)));exact Row.is (K:=K') (e:=e) (K0:=h1) ⟨vs,he,k1⟩ (Hp.le_refl _) ((Hp.le_join h1 h2).trans hl) hp.1
 | .box e a,hp,cs,x,h,k,hl=>by
   unfold OT.own at k;split at k
   . exact .inl ⟨rfl,k.1⟩
   . rename_i y;obtain⟨b,vs,rfl,h1,h2,k1,k2,d,rfl⟩:=k;have hi:=OT.own_is hk a hp k2 (fun n o q=>hl n o (Hp.join_right q (d n o q)));refine .inr ⟨y,b,0,rfl,rfl,vs,hi.len,hi,fun j hj=>?_⟩;have hj':j<vs.length:=by rw[hi.len];exact hj
     have hb:K' b=some (.cells vs.toArray e (0,0)):=((Hp.le_join h1 h2).trans hl) b _ (by obtain rfl:h1=Go.Proofs.YtpnmnbfbcgkcjaaGreatDoor.one b (.cells vs.toArray e (0,0)):=k1;simp[Go.Proofs.YtpnmnbfbcgkcjaaGreatDoor.one]);simp[be,hb]
 |.obj n u,hp,cs,x,h,k,hl=>by simp[OT.pos]at hp
 |.chn a,hp,cs,x,h,k,hl=>by simp[OT.pos]at hp
 |.lbx e a,hp,cs,x,h,k,hl=>by simp[OT.pos]at hp
 |.one a,hp,cs,x,h,k,hl=>OT.own_is hk a hp (x:=x) k hl
 | .cons a r,hp,cs,x,h,⟨c1,c2,e1,e2,h1,h2,k1,k2,d,e3⟩,hl=>by
   subst e1 e3;simp only[OT.pos,Y1]at hp;exact⟨c1,c2,rfl,e2,OT.own_is hk a hp.1 k1 ((Hp.le_join h1 h2).trans hl),OT.own_is hk r hp.2 k2 (fun n o q=>hl n o (Hp.join_right q (d n o q)))⟩
theorem EEls.dat{K0:Hp}{t:Tp}:∀{xs:List t.den} {cs:List Value} {h:Hp},EEls (OT.own K0 (.dat t)) cs xs h->Els K0 t cs xs/\h=Hp.nil
 |[],cs,h,k=>k
 | x :: xs,cs,h,⟨es,r,e,h1,h2,a,b,d,e2⟩=>by
   obtain⟨q1,q2⟩:=EEls.dat b;obtain⟨a1,a2⟩:=a;refine⟨⟨es,r,e,a1,q1⟩,?_⟩;rw[e2,a2,q2];exact Hp.join_nil _
theorem EEls.dat'{K0:Hp}{t:Tp}:∀{xs:List t.den} {cs:List Value},Els K0 t cs xs->EEls (OT.own K0 (.dat t)) cs xs Hp.nil
 |[],cs,k=>⟨k,rfl⟩
 |x::xs,cs,⟨es,r,e,a,b⟩=>⟨es,r,e,jS ⟨a,rfl⟩ (EEls.dat' b)⟩
section
variable {E:En}{K K0:Hp}{L:List ah}{w:World}{e:TypeId}{v:Value}
theorem Sep.ownRow{a:OT}{cs:List Value}{xs:List a.tp.den}(h:Sep E K (OT.own K0 (.row e a) cs (xs:(OT.row e a).tp.den)::L) w):∃v vs,cs=[v]/\Sep E K (Rw e a.tp.size v xs.length vs::EEls (OT.own K0 a) vs xs::L) w:=by
 obtain⟨h0,⟨v,vs,e1,hst⟩,hd,hs⟩:=h;exact⟨v,vs,e1,Sep.split ⟨h0,hst,hd,hs⟩⟩
theorem Sep.ownRow'{a:OT}{vs:List Value}{xs:List a.tp.den}(h:Sep E K (Rw e a.tp.size v xs.length vs::EEls (OT.own K0 a) vs xs::L) w):Sep E K (OT.own K0 (.row e a) [v] (xs:(OT.row e a).tp.den)::L) w :=
 (Sep.join h).mono (fun h k=>⟨v,vs,rfl,k⟩)
theorem Sep.ownDat{t:Tp}{cs:List Value}{x:t.den}(h:Sep E K (OT.own K0 (.dat t) cs (x:(OT.dat t).tp.den)::L) w):Is K0 t cs x/\Sep E K L w:=⟨h.fact (fun h k=>k.1),h.drop⟩
theorem Sep.ownDat'{t:Tp}{cs:List Value}{x:t.den}(hi:Is K0 t cs x)(h:Sep E K L w):Sep E K (OT.own K0 (.dat t) cs (x:(OT.dat t).tp.den)::L) w:=h.emp.mono (fun h k=>⟨hi,k⟩)
theorem Sep.ownLeaf{t:Tp}{cs:List Value}{xs:List t.den}(h:Sep E K (OT.own K0 (.row e (.dat t)) cs (xs:(OT.row e (.dat t)).tp.den)::L) w):∃v vs,cs=[v]/\Els K0 t vs xs/\Sep E K (Rw e t.size v xs.length vs::L) w:=by
 obtain⟨v,vs,e1,h1⟩:=Sep.ownRow h;exact⟨v,vs,e1,h1.swap.fact (fun h k=>(EEls.dat k).1),h1.swap.drop⟩
theorem Sep.ownLeaf'{t:Tp}{vs:List Value}{xs:List t.den}(hi:Els K0 t vs xs)(h:Sep E K (Rw e t.size v xs.length vs::L) w):Sep E K (OT.own K0 (.row e (.dat t)) [v] (xs:(OT.row e (.dat t)).tp.den)::L) w :=
 Sep.ownRow' (a:=.dat t) (vs:=vs) (h.emp.mono (fun h (e:h=Hp.nil)=>by subst e;exact EEls.dat' hi)).swap
theorem Sep.ownCons{a r:OT}{cs:List Value}{x:(OT.cons a r).tp.den}(h:Sep E K ((OT.cons a r).own K0 cs x::L) w):∃c1 c2,cs=c1++c2/\c1.length=a.tp.size/\Sep E K (a.own K0 c1 x.1::r.own K0 c2 x.2::L) w:=by
 obtain⟨h0,⟨c1,c2,rfl,hl,hst⟩,hd,hs⟩:=h;exact⟨c1,c2,rfl,hl,Sep.split ⟨h0,hst,hd,hs⟩⟩
theorem Sep.ownCons'{a r:OT}{c1 c2:List Value}{x:a.tp.den}{y:r.tp.den}(h:Sep E K (a.own K0 c1 x::r.own K0 c2 y::L) w):Sep E K ((OT.cons a r).own K0 (c1++c2) ((x,y):(OT.cons a r).tp.den)::L) w:=by
 have hl:=h.fact (fun h k=>OT.own_len a k);exact (Sep.join h).mono (fun h k=>⟨c1,c2,rfl,hl,k⟩)
theorem Sep.ownBox{a:OT}{cs:List Value}{y:a.tp.den}(h:Sep E K (OT.own K0 (.box e a) cs (some y:(OT.box e a).tp.den)::L) w):∃b vs,cs=[.pointer (some ⟨b,0,none⟩)]/\Sep E K (Cl b e vs::a.own K0 vs y::L) w:=by
 obtain⟨h0,⟨b,vs,e1,hst⟩,hd,hs⟩:=h;exact⟨b,vs,e1,Sep.split ⟨h0,hst,hd,hs⟩⟩
theorem Sep.ownBox'{a:OT}{b:Nat}{vs:List Value}{y:a.tp.den}(h:Sep E K (Cl b e vs::a.own K0 vs y::L) w):Sep E K (OT.own K0 (.box e a) [.pointer (some ⟨b,0,none⟩)] (some y:(OT.box e a).tp.den)::L) w :=
 (Sep.join h).mono (fun h k=>⟨b,vs,rfl,k⟩)
theorem Sep.ownNil{a:OT}(h:Sep E K L w):Sep E K (OT.own K0 (.box e a) [.pointer none] (none:(OT.box e a).tp.den)::L) w:=h.emp.mono (fun h k=>⟨rfl,k⟩)
theorem Sep.ownLbx{a:OT}{cs:List Value}{y:a.tp.den}(h:Sep E K (OT.own K0 (.lbx e a) cs (some y:(OT.lbx e a).tp.den)::L) w):∃b vs,cs=[.pointer (some ⟨b,0,none⟩)]/\Sep E K (Cl b e vs::a.own K0 vs y::L) w:=by
 obtain⟨h0,⟨b,vs,e1,hst⟩,hd,hs⟩:=h;exact⟨b,vs,e1,Sep.split ⟨h0,hst,hd,hs⟩⟩
theorem Sep.ownLbx'{a:OT}{b:Nat}{vs:List Value}{y:a.tp.den}(h:Sep E K (Cl b e vs::a.own K0 vs y::L) w):Sep E K (OT.own K0 (.lbx e a) [.pointer (some ⟨b,0,none⟩)] (some y:(OT.lbx e a).tp.den)::L) w :=
 (Sep.join h).mono (fun h k=>⟨b,vs,rfl,k⟩)
theorem Sep.ownDead{a:OT}{p:Option Addr}(h:Sep E K L w):Sep E K (OT.own K0 (.lbx e a) [.pointer p] (none:(OT.lbx e a).tp.den)::L) w:=h.emp.mono (fun h k=>⟨p,rfl,k⟩)
theorem OT.own_lax1{a:OT}{cs:List Value}{x:Option a.tp.den}{h:Hp}(k:OT.own K0 (.box e a) cs x h):OT.own K0 (.lbx e a) cs x h:=by
 cases x with
 |none=>exact⟨none,k⟩
 |some y=>exact k
theorem OT.own_lax{e':TypeId}{a:OT}{cs:List Value}{l:(OT.row e (.box e' a)).tp.den}{h:Hp}(k:OT.own K0 (.row e (.box e' a)) cs l h):OT.own K0 (.row e (.lbx e' a)) cs l h:=by
 obtain⟨v,vs,e1,k⟩:=k;exact⟨v,vs,e1,ci (fun _ k=>k) (fun h k=>EEls.mono (fun es x h k=>OT.own_lax1 k) k) k⟩
def fu(K0:Hp)(e:TypeId)(o:OT)(v:Value)(l:List o.tp.den)(j:Nat)(es:List Value):ah:=fun h =>
 ∃c1 c2,c1.length=j*o.tp.size/\cq (Rw e o.tp.size v l.length (c1++(es++c2))) (cq (EEls (o.own K0) c1 (l.take j)) (EEls (o.own K0) c2 (l.drop (j+1)))) h
theorem Sep.openH{o:OT}{xs:List o.tp.den}{j:Nat}{x:o.tp.den}(hx:xs[j]?=some x)(h:Sep E K (OT.own K0 (.row e o) [v] (xs:(OT.row e o).tp.den)::L) w) :
   ∃es,es.length=o.tp.size/\Sep E K (fu K0 e o v xs j es::o.own K0 es x::L) w:=by
 obtain⟨v',vs,e1,h1⟩:=Sep.ownRow h;cases e1;obtain⟨c1,es,c2,rfl,h2,h3,h4⟩:=Sep.openEls (L:=Rw e o.tp.size v xs.length vs::L) (fun es x h k=>OT.own_len o k) j hx h1.swap;refine⟨es,h3,?_⟩;have h5:Sep E K (cq (EEls (o.own K0) c1 (xs.take j)) (EEls (o.own K0) c2 (xs.drop (j+1)))::o.own K0 es x::Rw e o.tp.size v xs.length (c1++(es++c2))::L) w:=Sep.join (Sep.front 2 rfl h4).swap;exact (Sep.join (Sep.front 2 rfl h5)).mono (fun h k=>⟨c1,c2,h2,k⟩)
theorem Sep.closeH{o:OT}{xs:List o.tp.den}{j:Nat}{y:o.tp.den}{es:List Value}(hj:j<xs.length)(h:Sep E K (fu K0 e o v xs j es::o.own K0 es y::L) w) :
   Sep E K (OT.own K0 (.row e o) [v] (xs.set j y:(OT.row e o).tp.den)::L) w:=by
 obtain⟨h0,⟨c1,c2,hc,hst⟩,hd,hs⟩:=h;have h1:Sep E K (Rw e o.tp.size v xs.length (c1++(es++c2))::cq (EEls (o.own K0) c1 (xs.take j)) (EEls (o.own K0) c2 (xs.drop (j+1)))::o.own K0 es y::L) w:=Sep.split ⟨h0,hst,hd,hs⟩;have h2:Sep E K (EEls (o.own K0) c1 (xs.take j)::EEls (o.own K0) c2 (xs.drop (j+1))::Rw e o.tp.size v xs.length (c1++(es++c2))::o.own K0 es y::L) w:=by
   obtain⟨h0,hst,hd,hs⟩:=h1.swap;exact Sep.split ⟨h0,hst,hd,hs⟩
 have h3:=Sep.closeEls (L:=Rw e o.tp.size v xs.length (c1++(es++c2))::L) (Sep.front 3 rfl h2).swap;have hset:xs.take j++y::xs.drop (j+1)=xs.set j y:=by rw[List.set_eq_take_append_cons_drop,if_pos hj]
 rw[hset]at h3;refine (Sep.join h3.swap).mono (fun h k=>⟨v,c1++(es++c2),rfl,?_⟩);rw[ax0];exact k
end
end
inductive SV where
 |any
 |raw (v:Value)
 |int (k:IntKind) (n:Int)
 |bool (b:Bool)
 |str (s:List UInt8)
 |nilp
 |nils
 |row (t:Tp) (l:List t.den) (n:Nat)
 |pk (t:Tp) (x:Option t.den)
 |kat (t:Tp) (x:t.den) (o:Nat)
 |own (i:Nat)
 |ptr (i o:Nat)
 |rat (i c:Nat) (t:Tp) (j:Int) (x:t.den) (o:Nat)
 |fsl (i m:Nat)
 |fsa (i o n cap:Nat)
 |nlt (t:Tp) (l:List t.den) (neg:Bool)
 |agg (vs:List SV)
 |tup (vs:List SV)
 |fn (f:Nat) (cs:List SV)
 |is (j:Nat) (v:SV)
 |hat (i:Nat) (o:OT) (j:Int) (off:Nat)
 |prt (i z:Nat) (lo hi:Int)
 |yld (i n:Nat) (vs:Nat->SV) (ps:Array Nat) (ao bo:Code)
 |ifc (t:TypeId) (v:SV)
inductive LSt where
 |ready
 |ret
 |exit (id:Nat)
inductive HA where
 |blk (i c:Nat) (e:TypeId) (cs:List SV)
 |row (i c:Nat) (e:TypeId) (t:Tp) (l:List t.den) (n:Nat)
 |bld (i:Nat) (l:List UInt8)
 |od (i c:Nat) (o:OT) (x:o.tp.den)
 |hole (i c:Nat) (e:TypeId) (o:OT) (l:List o.tp.den) (j:Int) (cs:List SV)
 |lp (i:Nat) (s:LSt)
def HA.id:HA->Nat
 |.blk i _ _ _=>i
 |.row i _ _ _ _ _=>i
 |.bld i _=>i
 |.od i _ _ _=>i
 |.hole i _ _ _ _ _ _=>i
 |.lp i _=>i
def HA.lpR(i:Nat):HA->Option LSt
 |.lp j s=>bif Y3 j i then some s else none
 |_=>none
structure Dat where
 t:Tp
 x:t.den
def Tp.same:(a b:Tp)->Option (PLift (a=b))
 |.int k,.int k'=>if h:k=k' then some ⟨by rw[h]⟩else none
 |.bool,.bool=>some ⟨rfl⟩
 |.str,.str=>some ⟨rfl⟩
 |.sl a,.sl b=>match Tp.same a b with|some h=>some ⟨by rw[h.down]⟩|none=>none
 |.ptr a,.ptr b=>match Tp.same a b with|some h=>some ⟨by rw[h.down]⟩|none=>none
 |.emp,.emp=>some ⟨rfl⟩
 |.one a,.one b=>match Tp.same a b with|some h=>some ⟨by rw[h.down]⟩|none=>none
 | .cons a r,.cons b s=>match Tp.same a b with
   |some h=>(match Tp.same r s with|some k=>some ⟨by rw[h.down,k.down]⟩|none=>none)
   |none=>none
 |_,_=>none
def OT.same:(a b:OT)->Option (PLift (a=b))
 |.dat t,.dat u=>match Tp.same t u with|some h=>some ⟨by rw[h.down]⟩|none=>none
 |.row e a,.row e' b=>if h:e=e' then (match OT.same a b with|some k=>some ⟨by rw[h,k.down]⟩|none=>none)else none
 |.box e a,.box e' b=>if h:e=e' then (match OT.same a b with|some k=>some ⟨by rw[h,k.down]⟩|none=>none)else none
 |.lbx e a,.lbx e' b=>if h:e=e' then (match OT.same a b with|some k=>some ⟨by rw[h,k.down]⟩|none=>none)else none
 |.one a,.one b=>match OT.same a b with|some h=>some ⟨by rw[h.down]⟩|none=>none
 |.chn a,.chn b=>match OT.same a b with|some h=>some ⟨by rw[h.down]⟩|none=>none
 |.obj n u,.obj n' u'=>if h:n=n' then (match Tp.same u u' with|some k=>some ⟨by rw[h,k.down]⟩|none=>none)else none
 | .cons a r,.cons b s=>match OT.same a b with
   |some h=>(match OT.same r s with|some k=>some ⟨by rw[h.down,k.down]⟩|none=>none)
   |none=>none
 |_,_=>none
def Dat.as(d:Dat)(t:Tp):Option t.den:=match Tp.same d.t t with
 |some h=>some (h.down ▸ d.x)
 |none=>none
abbrev TL:List Tp->Type
 |[]=>Unit
 |[t]=>t.den
 |t::u::r=>t.den×TL (u::r)
def TL.list:(ts:List Tp)->TL ts->List Dat
 |[],_=>[]
 |[t],x=>[⟨t,x⟩]
 |t::u::r,x=>⟨t,x.1⟩::TL.list (u::r) x.2
def TL.of:(ts:List Tp)->List Dat->Option (TL ts)
 |[],[]=>some ()
 |[t],[d]=>d.as t
 | t :: u :: r,d :: ds=>match d.as t,TL.of (u :: r) ds with
   |some x,some y=>some (x,y)
   |_,_=>none
 |_,_=>none
namespace SV
def lv:(t:Tp)->t.den->List SV
 |.int k,n=>[.int k n]
 |.bool,b=>[.bool b]
 |.str,s=>[.str s]
 |.sl e,l=>[.row e l l.length]
 |.ptr e,x=>[.pk e x]
 |.emp,_=>[]
 |.one a,d=>lv a d
 |.cons a r,d=>lv a d.1++lv r d.2
def of:(t:Tp)->t.den->SV
 |.int k,n=>.int k n
 |.bool,b=>.bool b
 |.str,s=>.str s
 |.sl e,l=>.row e l l.length
 |.ptr e,x=>.pk e x
 |.emp,_=>.agg []
 |.one a,d=>.agg (lv a d)
 |.cons a r,d=>.agg (lv a d.1++lv r d.2)
def con1:Value->SV
 |.int k n=>.int k n
 |.bool b=>.bool b
 |.string s=>.str s.data.toList
 |.pointer none=>.nilp
 |.slice none 0 0=>.nils
 |v=>.raw v
def con:Value->SV
 |.agg cs=>.agg (cs.toList.map con1)
 |.tuple vs=>.tup (vs.toList.map con1)
 |.func (.func f) fs cs=>bif fs.isEmpty then .fn f (cs.toList.map con1)else .raw (.func (.func f) fs cs)
 |v=>con1 v
mutual
def st:SV->SV
 |.is _ v=>v.st
 |.agg vs=>.agg (stL vs)
 |.tup vs=>.tup (stL vs)
 |.fn f vs=>.fn f (stL vs)
 |v=>v
def stL:List SV->List SV
 |[]=>[]
 |v::vs=>v.st::stL vs
end
def leaf:SV->Bool
 |.any |.tup _|.agg _=>false
 |.raw v=>v.oneCell'
 |.is _ v=>v.leaf
 |_=>true
def cells:SV->Option (List SV)
 |.any|.tup _=>none
 |.agg vs=>some vs
 |.raw v=>bif v.oneCell' then some [.raw v]else none
 |.is j v=>bif v.leaf then some [.is j v]else none
 |v=>some [v]
end SV
def OT.nl:OT->Bool
 |.row _ (.dat _)=>false
 |.row _ _=>true
 |.box _ _=>true
 |.obj _ _=>true
 |.chn _=>true
 |.lbx _ _=>true
 |_=>false
def OT.ex(c:Nat):(o:OT)->o.tp.den->Nat->List SV×List HA×Nat
 |.dat t,x,nx=>(SV.lv t x,[],nx)
 | .row e a,l,nx=>(match a,l with
   |.dat t,l=>([.own nx],[.row nx (nx+1) e t l (W4 (α:=t.den) l)],nx+2)
   |a,l=>([.own nx],[.od nx c (.row e a) l],nx+1))
 |.box e a,x,nx=>([.own nx],[.od nx c (.box e a) x],nx+1)
 |.obj n u,x,nx=>([.own nx],[.od nx c (.obj n u) x],nx+1)
 |.chn a,x,nx=>([.own nx],[.od nx c (.chn a) x],nx+1)
 |.lbx e a,x,nx=>([.own nx],[.od nx c (.lbx e a) x],nx+1)
 |.one a,x,nx=>OT.ex c a x nx
 | .cons a r,x,nx=>match OT.ex c a x.1 nx with
   | (v1,H1,n1)=>match OT.ex c r x.2 n1 with
     |(v2,H2,n2)=>(v1++v2,H1++H2,n2)
def OT.rv:(o:OT)->o.tp.den->List SV
 |.dat t,x=>SV.lv t x
 |.row _ _,_=>[.any]
 |.box _ _,_=>[.any]
 |.obj _ _,_=>[.any]
 |.chn _,_=>[.any]
 |.lbx _ _,_=>[.any]
 |.one a,x=>OT.rv a x
 |.cons a r,x=>OT.rv a x.1++OT.rv r x.2
structure RowsR where
 c:Nat
 e:TypeId
 o:OT
 l:List o.tp.den
structure BoxR where
 c:Nat
 e:TypeId
 o:OT
 x:Option o.tp.den
structure HolR where
 c:Nat
 e:TypeId
 o:OT
 l:List o.tp.den
 j:Int
 cs:List SV
def OT.rowOf(c:Nat):(o:OT)->o.tp.den->Option RowsR
 |.row e a,l=>some ⟨c,e,a,l⟩
 |_,_=>none
def OT.boxOf(c:Nat):(o:OT)->o.tp.den->Option BoxR
 |.box e a,x=>some ⟨c,e,a,x⟩
 |_,_=>none
def OT.lbxOf(c:Nat):(o:OT)->o.tp.den->Option BoxR
 |.lbx e a,x=>some ⟨c,e,a,x⟩
 |_,_=>none
def HA.lbxR(i:Nat):HA->Option BoxR
 |.od j c o x=>bif Y3 j i then OT.lbxOf c o x else none
 |_=>none
def HA.rowsR(i:Nat):HA->Option RowsR
 |.od j c o x=>bif Y3 j i then OT.rowOf c o x else none
 |_=>none
def HA.boxR(i:Nat):HA->Option BoxR
 |.od j c o x=>bif Y3 j i then OT.boxOf c o x else none
 |_=>none
def HA.holR(i:Nat):HA->Option HolR
 |.hole j c e o l k cs=>bif Y3 j i then some ⟨c,e,o,l,k,cs⟩else none
 |_=>none
def az(a b:Int):Option Unit:=bif decide (a=b)then some ()else none
structure Zt where
 base:Nat->SV
 top:List (Nat×SV)
 H:List HA
 Hf:List HA
 nx:Nat
 kq:Bool
def look:List (Nat×SV)->Nat->Option SV
 |[],_=>none
 |p::l,i=>bif Y3 p.1 i then some p.2 else look l i
def Zt.get(σ:Zt)(i:Nat):SV:=match look σ.top i with|some v=>v|none=>σ.base i
def Zt.set(σ:Zt)(i:Nat)(v:SV):Zt:=⟨σ.base,(i,v)::σ.top,σ.H,σ.Hf,σ.nx,σ.kq⟩
def Zt.ref(σ:Zt)(i:Nat)(v:SV):Zt:=match look σ.top i with
 |some _=>σ.set i v
 |none=>⟨fun j=>bif Y3 j i then v else σ.base j,σ.top,σ.H,σ.Hf,σ.nx,σ.kq⟩
def Zt.evr(n:Nat)(σ:Zt):Operand->SV
 |.tmp t=>bif aO0 t n then σ.get t else .any
 |.const v=>SV.con v
 |.func f=>.fn f []
 |.global _=>.any
def Zt.ev(n:Nat)(σ:Zt)(o:Operand):SV:=(σ.evr n o).st
def pick{α β:Type}(f:α->Option β):List α->Option (β×List α)
 |[]=>none
 | a :: l=>match f a with
   |some b=>some (b,l)
   | none=>match pick f l with
     |some (b,r)=>some (b,a::r)
     |none=>none
structure BlkR where
 c:Nat
 e:TypeId
 cs:List SV
structure RowR where
 c:Nat
 e:TypeId
 t:Tp
 l:List t.den
 n:Nat
def HA.blkR(i:Nat):HA->Option BlkR
 |.blk j c e cs=>bif Y3 j i then some ⟨c,e,cs⟩else none
 |_=>none
def HA.rowR(i:Nat):HA->Option RowR
 |.row j c e t l n=>bif Y3 j i then some ⟨c,e,t,l,n⟩else none
 |_=>none
def HA.bldR(i:Nat):HA->Option (List UInt8)
 |.bld j l=>bif Y3 j i then some l else none
 |_=>none
def SV.same:SV->SV->Bool
 |.int k n,.int k' n'=>decide (k=k')&&decide (n=n')
 |.bool a,.bool b=>a==b
 |.str a,.str b=>decide (a=b)
 |.raw (.map none),.raw (.map none)=>true
 |.raw (.chan none),.raw (.chan none)=>true
 |_,_=>false
inductive Kd where
 |any
 |dat (t:Tp)
 |nilp
 |nils
 |nilf
 |ptr (j o:Nat)
 |own (e:TypeId) (t:Tp)
 |al (j:Nat)
 |fsl (j m:Nat)
 |agg (ks:List Kd)
 |tup (ks:List Kd)
 |fn (f:Nat) (ks:List Kd)
 |is (j:Nat) (k:Kd)
 |lit (v:SV)
 |od (o:OT)
 |rp (j:Nat)
 |ifc (t:TypeId) (k:Kd)
 |kat (t:Tp) (o:Nat)
structure Bk where
 old:Option Nat
 e:TypeId
 ks:List Kd
 bu:Bool:=false
 nu:Bool:=false
 rw:Option OT:=none
 lp:Bool:=false
structure Sh where
 sl:List (Nat×Kd)
 bl:List Bk
mutual
def Kd.ts:Kd->List Tp
 |.dat t=>[t]
 |.own _ t=>[.sl t]
 |.agg ks=>Kd.tsL ks
 |.tup ks=>Kd.tsL ks
 |.fn _ ks=>Kd.tsL ks
 |.is _ k=>k.ts
 |.ifc _ k=>k.ts
 |.kat t _=>[t]
 |.od o=>[o.tp]
 |_=>[]
def Kd.tsL:List Kd->List Tp
 |[]=>[]
 |k::ks=>Kd.ts k++Kd.tsL ks
end
def tsS:List (Nat×Kd)->List Tp
 |[]=>[]
 |p::r=>p.2.ts++tsS r
def tsB:List Bk->List Tp
 |[]=>[]
 |b::r=>(bif b.nu then []else bif b.lp then []else match b.rw with|some o=>(bif b.bu then .sl o.tp::.int .i64::Kd.tsL b.ks else [o.tp])|none=>bif b.bu then [.str]else Kd.tsL b.ks)++tsB r
def Sh.ts(s:Sh):List Tp:=tsS s.sl++tsB s.bl
structure Un where
 ds:List Dat
 nx:Nat
 H:List HA
 rs:List Nat
mutual
def Kd.un(bi:List Nat):Kd->Un->Option (SV×Un)
 |.any,u=>some (.any,u)
 |.dat _,u=>match u.ds with|d::ds=>some (.of d.t d.x,⟨ds,u.nx,u.H,u.rs⟩)|[]=>none
 |.nilp,u=>some (.nilp,u)
 |.nils,u=>some (.nils,u)
 |.nilf,u=>some (.raw .nilFunc,u)
 |.ptr j o,u=>match bi[j]? with|some i=>some (.ptr i o,u)|none=>none
 |.own e _,u=>match u.ds with|⟨.sl t,l⟩::ds=>some (.own u.nx,⟨ds,u.nx+2,.row u.nx (u.nx+1) e t l l.length::u.H,u.rs++[u.nx]⟩)|_=>none
 |.al j,u=>match u.rs[j]? with|some i=>some (.own i,u)|none=>none
 |.fsl j m,u=>match bi[j]? with|some i=>some (.fsl i m,u)|none=>none
 |.agg ks,u=>match Kd.unL bi ks u with|some (vs,u)=>some (.agg vs,u)|none=>none
 |.tup ks,u=>match Kd.unL bi ks u with|some (vs,u)=>some (.tup vs,u)|none=>none
 |.fn f ks,u=>match Kd.unL bi ks u with|some (vs,u)=>some (.fn f vs,u)|none=>none
 |.lit v,u=>some (v,u)
 | .od o,u=>bif o.nl then (match u.ds with
   | d :: ds=>(match d.as o.tp with
     |some x=>some (.own u.nx,⟨ds,u.nx+2,.od u.nx (u.nx+1) o x::u.H,u.rs⟩)
     |none=>none)
   |[]=>none)else none
 |.rp j,u=>match bi[j]? with|some i=>some (.own i,u)|none=>none
 |.kat t o,u=>match u.ds with|d::ds=>(match d.as t with|some x=>some (.kat t x o,⟨ds,u.nx,u.H,u.rs⟩)|none=>none)|[]=>none
 |.ifc t k,u=>match Kd.un bi k u with|some (v,u)=>some (.ifc t v,u)|none=>none
 |.is j k,u=>match bi[j]? with|some i=>(match Kd.un bi k u with|some (v,u)=>some (.is i v,u)|none=>none)|none=>none
def Kd.unL(bi:List Nat):List Kd->Un->Option (List SV×Un)
 |[],u=>some ([],u)
 | k :: ks,u=>match Kd.un bi k u with
   |some (v,u)=>(match Kd.unL bi ks u with|some (vs,u)=>some (v::vs,u)|none=>none)
   |none=>none
end
def unS(bi:List Nat):List (Nat×Kd)->Un->Option (List (Nat×SV)×Un)
 |[],u=>some ([],u)
 | p :: r,u=>match p.2.un bi u with
   |some (v,u)=>(match unS bi r u with|some (vs,u)=>some ((p.1,v)::vs,u)|none=>none)
   |none=>none
def bh:List Bk->Nat->List Nat×Nat
 |[],nx=>([],nx)
 | b :: r,nx=>match b.old with
   |some i=>let q:=bh r nx;(i::q.1,q.2)
   |none=>let q:=bh r (nx+1);(nx::q.1,q.2)
def OT.at1(i c:Nat):(o:OT)->o.tp.den->HA
 | .row e a,l=>(match a,l with
   |.dat t,l=>.row i c e t l (W4 (α:=t.den) l)
   |a,l=>.od i c (.row e a) l)
 |o,x=>.od i c o x
def fy (bi:List Nat) (b:Bk) (i:Nat) (u:Un):Option (Unit×Un):=bif b.nu then some ((),u) else bif b.lp then some ((),⟨u.ds,u.nx,.lp i .ready :: u.H,u.rs⟩) else match b.rw with
 | some o=>bif b.bu then (match u.ds with
   | d :: d2 :: ds=>(match d.as (.sl o.tp),d2.as (.int .i64) with
     | some l,some j=>(match Kd.unL bi b.ks ⟨ds,u.nx,u.H,u.rs⟩ with
       |some (vs,u)=>some ((),⟨u.ds,u.nx+1,.hole i u.nx b.e o l j vs::u.H,u.rs⟩)
       |none=>none)
     |_,_=>none)
   |_=>none)else (match u.ds with
   | d :: ds=>(match d.as o.tp with
     |some x=>some ((),⟨ds,u.nx+1,OT.at1 i u.nx o x::u.H,u.rs⟩)
     |none=>none)
   |[]=>none)
 | none=>bif b.bu then (match u.ds with
   |⟨.str,s⟩::ds=>some ((),⟨ds,u.nx,.bld i s::u.H,u.rs⟩)
   |_=>none)else match Kd.unL bi b.ks u with
   |some (vs,u)=>some ((),⟨u.ds,u.nx+1,.blk i u.nx b.e vs::u.H,u.rs⟩)
   |none=>none
def unB(bi:List Nat):List Bk->List Nat->Un->Option Un
 |b::r,i::is,u=>(match fy bi b i u with|some (_,u)=>unB bi r is u|none=>none)
 |[],[],u=>some u
 |_,_,_=>none
def bM:List Bk->Nat->Bool
 |[],_=>true
 |b::r,nx=>(match b.old with|some i=>aO0 i nx|none=>true)&&bM r nx
def Sh.un(s:Sh)(ds:List Dat)(nx:Nat):Option (List (Nat×SV)×Un) :=
 bif bM s.bl nx then match bh s.bl nx with
 | (bi,nx)=>match unS bi s.sl ⟨ds,nx,[],[]⟩ with
   |some (vs,u)=>(match unB bi s.bl bi u with|some u=>some (vs,u)|none=>none)
   |none=>none
 else none
def eJ{t e:Tp}(h:PLift (t=e))(l:List t.den):List e.den:=h.down ▸ l
def El{t e:Tp}(h:PLift (t=e))(l:Option t.den):Option e.den:=h.down ▸ l
def cst{t e:Tp}(h:PLift (t=e))(x:t.den):e.den:=h.down ▸ x
def yr{a b:OT}(h:PLift (a=b))(l:List a.tp.den):List b.tp.den:=h.down ▸ l
def xU(k:IntKind):List SV->Option (Int×List SV)
 |.int k' n::r=>if k'=k then some (n,r)else none
 |_=>none
def xJ:List SV->Option (Bool×List SV)
 |.bool b::r=>some (b,r)
 |_=>none
def yd:List SV->Option (List UInt8×List SV)
 |.str s::r=>some (s,r)
 |_=>none
def dSl(e:Tp):List SV->Option (List e.den×List SV)
 |.row t l _::r=>match Tp.same t e with|some h=>some (eJ h l,r)|none=>none
 |.nils::r=>some ([],r)
 |_=>none
def yE(e:Tp):List SV->Option (Option e.den×List SV)
 |.pk t x::r=>match Tp.same t e with|some h=>some (El h x,r)|none=>none
 |.nilp::r=>some (none,r)
 |.kat t x 0::r=>match Tp.same t e with|some h=>some (some (cst h x),r)|none=>none
 |_=>none
def dt:(t:Tp)->List SV->Option (t.den×List SV)
 |.int k,vs=>xU k vs
 |.bool,vs=>xJ vs
 |.str,vs=>yd vs
 |.sl e,vs=>dSl e vs
 |.ptr e,vs=>yE e vs
 |.emp,r=>some ((),r)
 |.one a,r=>dt a r
 | .cons a b,r=>match dt a r with
   |some (x,r)=>(match dt b r with|some (y,r)=>some ((x,y),r)|none=>none)
   |none=>none
def Tp.st:Tp->Bool
 |.emp |.one _|.cons _ _=>true
 |_=>false
def dtv(t:Tp):SV->Option t.den
 |.agg vs=>bif t.st then (match dt t vs with|some (x,[])=>some x|_=>none)else none
 |v=>bif t.st then none else match dt t [v]with|some (x,[])=>some x|_=>none
def HA.odX(i:Nat)(o:OT):HA->Option o.tp.den
 |.od j c o' x=>bif Y3 j i then (match OT.same o' o with|some h=>some (h.down ▸ x)|none=>none)else none
 |_=>none
def HA.rowX(i:Nat)(e:TypeId)(t:Tp):HA->Option (List t.den)
 |.row j c e' t' l n=>bif Y3 j i&&Y3 e' e then (match Tp.same t' t with|some h=>some (eJ h l)|none=>none)else none
 |_=>none
def eE(i:Nat)(o:OT)(H:List HA):Option (o.tp.den×List HA):=match o with
 | .row e a=>(match a with
   |.dat t=>pick (HA.rowX i e t) H
   |a=>pick (HA.odX i (.row e a)) H)
 |o=>pick (HA.odX i o) H
def OT.col:(o:OT)->List SV->List HA->Option (o.tp.den×List SV×List HA)
 |.dat t,vs,H=>(match dt t vs with|some (x,r)=>some (x,r,H)|none=>none)
 | .row e a,vs,H=>(match vs with
   | v :: r=>(match v with
     |.nils=>some (([]:List a.tp.den),r,H)
     |.own i=>(match eE i (.row e a) H with|some (x,H)=>some (x,r,H)|none=>none)
     |_=>none)
   |[]=>none)
 | .box e a,vs,H=>(match vs with
   | v :: r=>(match v with
     |.nilp=>some ((none:Option a.tp.den),r,H)
     | .ptr i o=>bif Y3 o 0 then (match pick (HA.blkR i) H with
       | some (q,H)=>bif Y3 q.e e then (match OT.col a (SV.stL q.cs) H with
         |some (y,[],H)=>some ((some y:Option a.tp.den),r,H)
         |_=>none)else none
       |none=>none)else none
     |.own i=>(match eE i (.box e a) H with|some (x,H)=>some (x,r,H)|none=>none)
     |_=>none)
   |[]=>none)
 | .lbx e a,vs,H=>(match vs with
   | v :: r=>(match v with
     | .ptr i o=>bif Y3 o 0 then (match pick (HA.blkR i) H with
       | some (q,H)=>bif Y3 q.e e then (match OT.col a (SV.stL q.cs) H with
         |some (y,[],H)=>some ((some y:Option a.tp.den),r,H)
         |_=>none)else none
       |none=>none)else none
     |.own i=>(match eE i (.lbx e a) H with|some (x,H)=>some (x,r,H)|none=>none)
     |_=>none)
   |[]=>none)
 | .chn a,vs,H=>(match vs with
   | v :: r=>(match v with
     |.raw (.chan none)=>some ((none:Option (Int×List a.tp.den)),r,H)
     |.own i=>(match eE i (.chn a) H with|some (x,H)=>some (x,r,H)|none=>none)
     |_=>none)
   |[]=>none)
 | .obj n u,vs,H=>(match vs with
   | v :: r=>(match v with
     |.raw (.map none)=>bif Y3 n 0 then some ((none:Option u.den),r,H)else none
     |.raw (.chan none)=>bif Y3 n 0 then none else some ((none:Option u.den),r,H)
     |.own i=>(match eE i (.obj n u) H with|some (x,H)=>some (x,r,H)|none=>none)
     |_=>none)
   |[]=>none)
 |.one a,vs,H=>OT.col a vs H
 | .cons a b,vs,H=>match OT.col a vs H with
   |some (x,r,H)=>(match OT.col b r H with|some (y,r,H)=>some ((x,y),r,H)|none=>none)
   |none=>none
structure Gt where
 ds:List Dat
 bm:List (Nat×Nat)
 rs:List (Option Nat)
 H:List HA
def aB:List (Nat×Nat)->Nat->Option Nat
 |[],_=>none
 |p::l,i=>bif Y3 p.1 i then some p.2 else aB l i
def Gt.bind(g:Gt)(j i:Nat):Option Gt:=match aB g.bm j with
 |some i'=>bif Y3 i' i then some g else none
 |none=>some ⟨g.ds,(j,i)::g.bm,g.rs,g.H⟩
mutual
def Kd.get:Kd->SV->Gt->Option Gt
 |.any,_,g=>some g
 |.dat t,v,g=>(match dtv t v.st with|some x=>some ⟨g.ds++[⟨t,x⟩],g.bm,g.rs,g.H⟩|none=>none)
 |.nilp,v,g=>(match v.st with|.nilp=>some g|_=>none)
 |.nils,v,g=>(match v.st with|.nils=>some g|_=>none)
 |.nilf,v,g=>(match v.st with|.raw .nilFunc=>some g|_=>none)
 |.ptr j o,v,g=>(match v.st with|.ptr i o'=>bif Y3 o o' then g.bind j i else none|_=>none)
 | .own e t,v,g=>(match v.st with
   | .own i=>(match pick (HA.rowR i) g.H with
     |some (r,H)=>bif Y3 r.e e then (match Tp.same r.t t with|some h=>some ⟨g.ds++[⟨.sl t,eJ h r.l⟩],g.bm,g.rs++[some i],H⟩|none=>none)else none
     |none=>none)
   |.nils=>some ⟨g.ds++[⟨.sl t,([]:List t.den)⟩],g.bm,g.rs++[none],g.H⟩
   |_=>none)
 |.al j,v,g=>(match v.st,g.rs[j]? with|.own i,some (some i')=>bif Y3 i' i then some g else none|_,_=>none)
 |.fsl j m,v,g=>(match v.st with|.fsl i m'=>bif Y3 m m' then g.bind j i else none|_=>none)
 |.agg ks,v,g=>(match v with|.agg vs=>Kd.getL ks vs g|_=>none)
 |.tup ks,v,g=>(match v with|.tup vs=>Kd.getL ks vs g|_=>none)
 |.fn f ks,v,g=>(match v with|.fn f' vs=>bif Y3 f f' then Kd.getL ks vs g else none|_=>none)
 |.lit w,v,g=>bif SV.same w v.st then some g else none
 |.od o,v,g=>bif o.nl then (match OT.col o [v.st] g.H with|some (x,[],H)=>some ⟨g.ds++[⟨o.tp,x⟩],g.bm,g.rs,H⟩|_=>none)else none
 |.rp j,v,g=>(match v.st with|.own i=>g.bind j i|_=>none)
 |.kat t o,v,g=>(match v.st with|.kat t' x o'=>bif Y3 o o' then (match Tp.same t' t with|some h=>some ⟨g.ds++[⟨t,cst h x⟩],g.bm,g.rs,g.H⟩|none=>none)else none|_=>none)
 |.ifc t k,v,g=>(match v.st with|.ifc t' w=>bif Y3 t t' then Kd.get k w g else none|_=>none)
 |.is j k,v,g=>(match v with|.is i w=>(match g.bind j i with|some g=>Kd.get k w g|none=>none)|_=>none)
def Kd.getL:List Kd->List SV->Gt->Option Gt
 |[],vs,g=>(match vs with|[]=>some g|_=>none)
 |k::ks,vs,g=>(match vs with|v::vs=>(match Kd.get k v g with|some g=>Kd.getL ks vs g|none=>none)|[]=>none)
end
def kO(f:Nat->SV):List (Nat×Kd)->Gt->Option Gt
 |[],g=>some g
 |p::r,g=>match p.2.get (f p.1) g with|some g=>kO f r g|none=>none
def nq (j:Nat) (b:Bk) (g:Gt):Option Gt:=match (match b.old with | some i=>g.bind j i | none=>some g) with
   | some g=>(match aB g.bm j with
     | some i=>bif b.nu then some g else bif b.lp then (match pick (HA.lpR i) g.H with
       |some (.ready,H)=>some ⟨g.ds,g.bm,g.rs,H⟩
       |_=>none)else match b.rw with
       | some o=>bif b.bu then (match pick (HA.holR i) g.H with
         | some (q,H)=>bif Y3 q.e b.e then (match OT.same q.o o with
           |some h=>Kd.getL b.ks q.cs ⟨g.ds++[⟨.sl o.tp,yr h q.l⟩,⟨.int .i64,q.j⟩],g.bm,g.rs,H⟩
           |none=>none)else none
         |none=>none)else (match eE i o g.H with|some (x,H)=>some ⟨g.ds++[⟨o.tp,x⟩],g.bm,g.rs,H⟩|none=>none)
       |none=>bif b.bu then (match pick (HA.bldR i) g.H with
       |some (s,H)=>some ⟨g.ds++[⟨.str,s⟩],g.bm,g.rs,H⟩
       |none=>none)else (match pick (HA.blkR i) g.H with
       |some (q,H)=>bif Y3 q.e b.e then Kd.getL b.ks q.cs ⟨g.ds,g.bm,g.rs,H⟩else none
       |none=>none)
     |none=>none)
   |none=>none
def kH:Nat->List Bk->Gt->Option Gt
 |_,[],g=>some g
 |j,b::r,g=>match nq j b g with|some g=>kH (j+1) r g|none=>none
def rK(n:Nat):List (Nat×Nat)->Bool
 |[]=>true
 |p::r=>aO0 p.1 n&&rK n r
def Sh.get(s:Sh)(f:Nat->SV)(H:List HA):Option Gt :=
 match kO f s.sl ⟨[],[],[],H⟩with
 |some g=>(match kH 0 s.bl g with|some g=>bif rK s.bl.length g.bm then some g else none|none=>none)
 |none=>none
abbrev c8:List Sh->Type
 |[]=>Empty
 |[a]=>TL a.ts
 |a::b::r=>TL a.ts⊕c8 (b::r)
structure Spec where
 f:Nat
 inn:Sh
 outs:List Sh
 fn:TL inn.ts->Option (c8 outs)
section
section
variable {E:En}{L:List ah}{K:Hp}{w:World}
theorem Rw.form{e:TypeId}{k n:Nat}{v:Value}{cs:List Value}:∀h,Rw e k v n cs h->∃ad cap,v=.slice ad n cap/\n<=cap/\cap<=maxLen/\(n≠0->∃g,ad=some ⟨g,0,none⟩):=by
 rintro h ⟨h2,h3⟩
 rcases h3 with⟨h3,h4,_⟩|⟨g,cap,cur,h3,_,h4,h5,_⟩
 . exact⟨none,0,h3,by omega,by simp,fun hne=>absurd h4 hne⟩
 . exact⟨_,cap,h3,h4,h5,fun _=>⟨g,rfl⟩⟩
theorem Sep.grownW{e:TypeId}{k n n':Nat}{v v':Value}{cs cs':List Value}{w':World}(hs:Sep E K (Rw e k v n cs::L) w)
   (ho:w'.ownsRow 0 e k v' n' cs') (hg:w.grownBy w' v.ownBlock) (hb:v'.ownBlock=v.ownBlock\/v'.ownBlock=some w.heap.size):Sep E K (Rw e k v' n' cs'::L) w':=by
 refine Sep.turn hs (fun he=>⟨hg.os.trans he.1,hg.tape.trans he.2.1,hg.output.trans he.2.2⟩) (fun h h2 hle=>?_);have hkeep:∀n o,w.heap[n]?=some o->h n=none->w'.heap[n]?=some o:=fun n o e hn=>by
   rw[hg.block n (lt_of_block e) (fun e'=>(h2.block n).1 hn e'.symm)];exact e
 obtain⟨h3,h4⟩:=ho
 rcases h4 with⟨rfl,h4⟩|⟨g,cap,cur,rfl,_,h5,h6,h7,h8,h9⟩
 . exact⟨Hp.nil,⟨h3,.inl ⟨by rw[h4],h4,rfl⟩⟩,fun n o e=>(by cases e),hkeep⟩
 . refine⟨one g (.cells cur e (0,0)),⟨h3,.inr ⟨g,cap,cur,rfl,rfl,h6,h7,h8,h9⟩⟩,fun n o e'=>?_,hkeep⟩;obtain⟨rfl,rfl⟩:=cv e';refine⟨h5,fun hn=>?_⟩
   rcases hb with hb|hb
   . exact absurd hb.symm (by have:=(h2.block n).1 hn;simpa[Value.ownBlock]using this)
   . simp[Value.ownBlock]at hb;rw[hb];exact al0 (X3 _)
end
section
variable {P:Program}{E:En}{n:Nat}{ρ:Sl0}{K:Hp}{L:List ah}{d:Nat}{t:TypeId}{pos:String}{af:Array Edge}{g:Option (Nat×Bool)}{x y c:Operand}{u v:Value}
theorem A.litW{s e:TypeId}{z:Value}{sz bt len:Nat}{parts:Array (Nat×Operand)}{cs0:List Value}(hs:P.underlying s=some (.slice e))(hi:Inf P e z sz bt)(hbig:len*sz<=16777216)
   (hzs:z.cells.size=sz) (hc0:br (fun i=>some (i*sz,sz)) (zrow len z.cells.toList) (parts.toList.map fun (i,x)=>(i,ev n ρ x))=some cs0) (hcs0:cs0.length=len*sz) (hpos:0<sz) :
   Ao P E n ⟨some d,.buildSlice s len parts,t,pos,af,g⟩ ρ K L (fun ρ' K' L'=>∃b,ρ'=upd ρ d (.slice (some ⟨b,0,none⟩) len len)/\K=K'/\L'=Rw e sz (.slice (some ⟨b,0,none⟩) len len) len cs0::L) :=
 Ao.of rfl (fun w hsep=>by
   obtain⟨i,h1,h2,h3,_⟩:=hi.open;obtain⟨cs,hcs',hcs⟩:∃cs:Array Value,cs=cs0.toArray/\cs.size=len*sz:=⟨_,rfl,by simpa using hcs0⟩
   have hc:Instr.fill (fun i=>some (i*sz,sz)) ((bT0 (len*sz)).map (z.cells[· % z.cells.size]!)) (parts.map fun (i,x)=>(i,ev n ρ x)).toList=some cs:=by
     have e:=ka z.cells (by omega) len;rw[hzs]at e;simp only[hzs];rw[e,hcs'];apply jZ;simpa using hc0
   refine⟨.slice (some ⟨w.heap.size,0,none⟩) len len,_,K,_,?_,(Sep.alloc hsep e cs).mono (fun h hh=>?_),w.heap.size,rfl,rfl,rfl⟩
   . have hb:¬ (2 ^ 24<len*sz):=by omega
     by_cases h0:len*sz=0
     . have hl0:len=0:=by rcases ft0.1 h0 with h|h <;> omega
       subst hl0;simp only[bO0]at hc;have:Instr.fill (fun i=>some (i*sz,sz)) #[] (cE0 (fun x=>(x.1,ev n ρ x.2)) parts.toList)=some cs:=by simpa[bT0]using hc
       simp[execOp,Instr.buildSlice,run_underlying hs,sizeOf,typeInfo,h1,h3,newRow,this,(show bT0 0 = #[]from rfl)]
     . have hc':Instr.fill (fun i=>some (i*sz,sz)) ((bT0 (len*sz)).map (z.cells[· % z.cells.size]!)) (cE0 (fun x=>(x.1,ev n ρ x.2)) parts.toList)=some cs:=by simpa using hc
       have hm:len≠0/\sz≠0:=⟨fun h=>h0 (by simp[h]),fun h=>h0 (by simp[h])⟩;simp[execOp,Instr.buildSlice,run_underlying hs,sizeOf,typeInfo,h1,h2,h3,zeroValue,newRow,hb,hc']
       try (intro h;exact absurd h h0)
   . obtain rfl:h=_:=hh;exact⟨hcs0,.inr ⟨w.heap.size,len,cs,rfl,by simp,by omega,by unfold maxLen;have:len<=len*sz:=eg0 _ hpos;omega,hcs,by rw[hcs',<- hcs0];simp⟩⟩)
theorem A.makeW{s e:TypeId}{z:Value}{sz bt:Nat}{len cap:Int}{k1 k2:IntKind}(hs:P.underlying s=some (.slice e))(hi:Inf P e z sz bt)(hzs:z.cells.toList.length=sz)(hpos:0<sz)(hbt:bt<=100000)
   (hx:ev n ρ x=.int k1 len) (hy:ev n ρ y=.int k2 cap) (h1:0<=len) (h2:len<=cap) (h3:cap<=1073741824) :
   Ao P E n ⟨some d,.makeSlice s x y,t,pos,af,g⟩ ρ K L (fun ρ' K' L'=>∃b,ρ'=upd ρ d (.slice (some ⟨b,0,none⟩) len.toNat cap.toNat)/\K=K'/\L'=Rw e sz (.slice (some ⟨b,0,none⟩) len.toNat cap.toNat) len.toNat (zrow len.toNat z.cells.toList)::L) :=
 Ao.of rfl (fun w hsep=>by
   obtain⟨i,i1,i2,i3,i4⟩:=hi.open;have hzl:=hzs;have hb:(i.bytes:Int)*cap<=281474976710656:=by
     have a1:(i.bytes:Int)<=100000:=by omega
     have a2:(i.bytes:Int)*cap<=100000*cap:=bP0 a1 (by omega);omega
   have hr:=run_make (P:=P) w s e i z hs i1 i2 k1 k2 len cap h1 h2 hb (by omega);have hc:madeCells z.cells (cap.toNat*i.size)=(zrow cap.toNat z.cells.toList).toArray:=by
     have e:=ka z.cells (by rw[<- Y5];omega) cap.toNat;unfold madeCells;rw[i3];rw[show sz=z.cells.size by rw[<- Y5];omega];exact e
   rw[hc]at hr;have hsz:i.size=sz:=i3;have hrow:Sep E K (Rw e sz (.slice (some ⟨w.heap.size,0,none⟩) len.toNat cap.toNat) len.toNat (zrow len.toNat z.cells.toList)::L) (w.alloc (.cells (zrow cap.toNat z.cells.toList).toArray e)):=by
     refine (Sep.alloc hsep e (zrow cap.toNat z.cells.toList).toArray).mono (fun h hh=>?_);obtain rfl:h=_:=hh;refine⟨by rw[ix,hzl],.inr ⟨w.heap.size,cap.toNat,(zrow cap.toNat z.cells.toList).toArray,by simp,by simp,by omega,by unfold maxLen;omega,by rw[aV0,ix,hzl],?_⟩⟩;rw[<- hzl];exact vk _ _ _ (by omega)
   refine⟨.slice (some ⟨w.heap.size,0,none⟩) len.toNat cap.toNat,_,K,_,?_,hrow,w.heap.size,rfl,rfl,rfl⟩;simp[execOp,hx,hy,hr])
theorem A.appW{s e:TypeId}{z:Value}{sz bt nx ny:Nat}{cs ds:List Value}(hs:P.underlying s=some (.slice e))(hi:Inf P e z sz bt)(hzs:z.cells.size=sz)(hpos:0<sz)(hbt:bt<=100000)
   (hx:ev n ρ x=v) (hy:ev n ρ y=u) (h1:∀c∈ds,c.oneCell'=true) (hlen:nx+ny<=1073741824) :
   Ao P E n ⟨some d,.call ⟨.builtin .append,#[x,y],#[s,s]⟩,t,pos,af,g⟩ ρ K (Rw e sz v nx cs::Rw e sz u ny ds::L) (fun ρ' K' L'=>∃v',ρ'=upd ρ d v'/\K=K'/\L'=Rw e sz v' (nx+ny) (cs++ds)::L) :=
 Ao.of rfl (fun w hsep=>by
   have hsep':=hsep;obtain⟨h0,hr0,hd0,hs0⟩:=hsep.swap;obtain⟨h,h2,h3,h4⟩:=hsep;have hown:=h2.owns (w:=w) (fun n o e=>h4.sub n o (Hp.join_right e (h3 n o e)));have hle0:h0.le (Hp.of w):=fun n o e=>hs0.sub n o (Hp.join_right e (hd0 n o e))
   obtain⟨ad,cap,rfl,_,_,_⟩:=Rw.form h0 hr0;have h7:∀b,ad=some b->∀j u,ds[j]?=some u->w.cell? (b.add j)=some u:=fun b hb j u hu=>by
     obtain⟨g,cap',hv,hc⟩:=hr0.cells j u hu;rw[hb]at hv;simp only[Value.slice.injEq,Z3]at hv;rw[hv.1,bB,Y8];exact dX hle0 hc
   obtain⟨v',w',r1,r2,r3,r5⟩:=wG (P:=P) (w:=w) (ty:=t) (cap:=cap) hs hi hzs hpos hbt hown hr0.1 h7 (fun e=>by
     subst e
     rcases hr0.2 with⟨_,h,_⟩|⟨g,cap',cur,hv,_⟩
     . exact h
     . cases hv) h1 hlen
   refine⟨v',w',K,_,?_,(hsep'.grownW r2 r3 r5).swap.drop,v',rfl,rfl,rfl⟩;simp[execOp,resolve,invoke,builtin,hx,hy,r1])
end
theorem OT.own_one{K0:Hp}:∀(o:OT) {cs:List Value} {x:o.tp.den} {h:Hp},o.own K0 cs x h->∀u∈cs,u.oneCell'=true
 |.dat t,cs,x,h,k=>k.1.one'
 | .row e a,cs,x,h,k=>by
   obtain⟨v,vs,rfl,h1,h2,k1,_⟩:=k;obtain⟨ad,cap,rfl,_⟩:=Rw.form h1 k1;intro u hu;simp only[Y2]at hu;subst hu;rfl
 | .box e a,cs,x,h,k=>by
   unfold OT.own at k;split at k
   . rw[k.1];intro u hu;simp only[Y2]at hu;subst hu;rfl
   . obtain⟨b,vs,rfl,_⟩:=k;intro u hu;simp only[Y2]at hu;subst hu;rfl
 | .lbx e a,cs,x,h,k=>by
   unfold OT.own at k;split at k
   . obtain⟨p,rfl,_⟩:=k;intro u hu;simp only[Y2]at hu;subst hu;rfl
   . obtain⟨b,vs,rfl,_⟩:=k;intro u hu;simp only[Y2]at hu;subst hu;rfl
 | .obj n u,cs,x,h,k=>by
   unfold OT.own at k;split at k
   . rw[k.1];intro u hu;simp only[Y2]at hu;subst hu;exact zD n
   . obtain⟨r,o,rfl,_⟩:=k;intro u hu;simp only[Y2]at hu;subst hu;exact zy n r
 | .chn a,cs,x,h,k=>by
   unfold OT.own at k;split at k
   . rw[k.1];intro u hu;simp only[Y2]at hu;subst hu;rfl
   . obtain⟨r,b,s,c,rfl,_⟩:=k;intro u hu;simp only[Y2]at hu;subst hu;rfl
 |.one a,cs,x,h,k=>OT.own_one a (x:=x) k
 | .cons a r,cs,x,h,k=>by
   obtain⟨c1,c2,rfl,h1,p,q,k1,h2,_⟩:=k;intro u hu
   rcases V3.1 hu with hu|hu
   . exact OT.own_one a k1 u hu
   . exact OT.own_one r h2 u hu
theorem EEls.one'{α:Type}{f:List Value->α->ah}(hf:∀es x h,f es x h->∀u∈es,u.oneCell'=true):∀{xs:List α} {cs:List Value} {h:Hp},EEls f cs xs h->∀u∈cs,u.oneCell'=true
 |[],cs,h,k,u,hu=>by rw[k.1]at hu;cases hu
 | x :: xs,cs,h,⟨es,r,e,h1,h2,a,b,_⟩,u,hu=>by
   subst e
   rcases V3.1 hu with hu|hu
   . exact hf es x h1 a u hu
   . exact EEls.one' hf b u hu
end
section
section
variable {α:Type}[DecidableEq α]
def aN(k:α):List (α×Int)->Nat->Option (Nat×Int)
 |[],_=>none
 |p::l,i=>if p.1=k then some (i,p.2)else aN k l (i+1)
def aJ(k:α)(l:List (α×Int)):Int:=match aN k l 0 with|some q=>q.2|none=>0
def bI(k:α)(v:Int)(l:List (α×Int)):List (α×Int):=match aN k l 0 with
 |some q=>l.modify q.1 (fun p=>(p.1,v))
 |none=>l++[(k,v)]
def bV(k:α)(l:List (α×Int)):List (α×Int):=match aN k l 0 with
 |some q=>l.eraseIdx q.1
 |none=>l
theorem zE{k:α}:∀{l:List (α×Int)} {i j:Nat} {c:Int},aN k l i=some (j,c)->i<=j/\l[j-i]?=some (k,c)
 |[],i,j,c,h=>by cases h
 | p :: l,i,j,c,h=>by
   unfold aN at h;split at h
   . rename_i hk;cases h;exact⟨X3 _,by simp[<- hk]⟩
   . obtain⟨h1,h2⟩:=zE h;refine⟨by omega,?_⟩;rw[show j-i=(j-(i+1))+1 by omega];simpa using h2
end
section
variable {α:Type}[DecidableEq α]
theorem qa(k:α):∀(l:List (α×Int)) (i:Nat),aN k l (i+1)=(aN k l i).map (fun q=>(q.1+1,q.2))
 |[],i=>rfl
 | p :: l,i=>by
   unfold aN;by_cases h:p.1=k
   . simp[h]
   . simp only[h,if_false];exact qa k l (i+1)
theorem By(k:α):aJ k []=0:=rfl
theorem eZ(k:α)(p:α×Int)(l:List (α×Int)):aJ k (p::l)=if p.1=k then p.2 else aJ k l:=by
 unfold aJ;by_cases h:p.1=k
 . simp[aN,h]
 . rw[show aN k (p::l) 0=aN k l (0+1)by simp[aN,h],qa,if_neg h];cases aN k l 0 <;> rfl
theorem vy(k:α)(v:Int):bI k v []=[(k,v)]:=rfl
theorem vc(k:α)(v:Int)(p:α×Int)(l:List (α×Int)):bI k v (p::l)=if p.1=k then (p.1,v)::l else p::bI k v l:=by
 unfold bI;by_cases h:p.1=k
 . simp[aN,h]
 . rw[show aN k (p::l) 0=aN k l (0+1)by simp[aN,h],qa,if_neg h];cases aN k l 0 <;> simp
theorem I0(k:α):bV k ([]:List (α×Int))=[]:=rfl
theorem AA(k:α)(p:α×Int)(l:List (α×Int)):bV k (p::l)=if p.1=k then l else p::bV k l:=by
 unfold bV;by_cases h:p.1=k
 . simp[aN,h]
 . rw[show aN k (p::l) 0=aN k l (0+1)by simp[aN,h],qa,if_neg h];cases aN k l 0 <;> simp
theorem A3(k k':α)(v:Int):∀l:List (α×Int),aJ k' (bI k v l)=if k'=k then v else aJ k' l
 | []=>by
   rw[vy,eZ,By];by_cases h:k'=k
   . simp[h]
   . have h2:¬ k=k':=fun e=>h e.symm
     simp[h,h2]
 | p :: l=>by
   rw[vc];by_cases h:p.1=k
   . rw[if_pos h,eZ,eZ];by_cases h2:k'=k
     . simp[h,h2]
     . have h3:¬ p.1=k':=fun e=>h2 (by rw[<- e,h])
       simp[h2,h3]
   . rw[if_neg h,eZ,eZ,A3 k k' v l];by_cases h2:k'=k
     . have h3:¬ p.1=k':=fun e=>h (by rw[e,h2])
       simp[h2,h]
     . simp[h2]
theorem BP(k x:α)(v:Int):∀l:List (α×Int),x∈(bI k v l).map (·.1)↔x∈l.map (·.1)\/x=k
 |[]=>by simp[vy]
 | p :: l=>by
   rw[vc];by_cases h:p.1=k
   . rw[if_pos h];simp only[X5,Y4];constructor
     . exact fun h1=>.inl h1
     . rintro (h1|h1)
       . exact h1
       . exact .inl (h1.trans h.symm)
   . rw[if_neg h];simp only[X5,Y4,BP k x v l,or_assoc]
theorem Ag(k:α)(v:Int):∀l:List (α×Int),(l.map (·.1)).Nodup->((bI k v l).map (·.1)).Nodup
 |[],_=>by simp[vy]
 | p :: l,hn=>by
   rw[vc];simp only[X5,aw0]at hn;by_cases h:p.1=k
   . rw[if_pos h];simp only[X5,aw0];exact hn
   . rw[if_neg h];simp only[X5,aw0];refine⟨fun hm=>?_,Ag k v l hn.2⟩
     rcases (BP k p.1 v l).1 hm with h1|h1
     . exact hn.1 h1
     . exact h h1
theorem Bc{k:α}:∀{l:List (α×Int)},k∉l.map (·.1)->aJ k l=0
 |[],_=>rfl
 | p :: l,h=>by
   simp only[X5,Y4,not_or]at h;rw[eZ,if_neg (fun e=>h.1 e.symm)];exact Bc h.2
theorem Bu(k k':α):∀l:List (α×Int),(l.map (·.1)).Nodup->aJ k' (bV k l)=if k'=k then 0 else aJ k' l
 |[],_=>by rw[I0,By];simp
 | p :: l,hn=>by
   simp only[X5,aw0]at hn;rw[AA];by_cases h:p.1=k
   . rw[if_pos h,eZ];by_cases h2:k'=k
     . rw[if_pos h2];exact Bc (by rw[h2,<- h];exact hn.1)
     . rw[if_neg h2,if_neg (fun e=>h2 (by rw[<- e,h]))]
   . rw[if_neg h,eZ,eZ,Bu k k' l hn.2];by_cases h2:k'=k
     . simp[h2,h]
     . simp[h2]
theorem AB(k:α):∀l:List (α×Int),(l.map (·.1)).Nodup->((bV k l).map (·.1)).Nodup/\∀x,x∈(bV k l).map (·.1)->x∈l.map (·.1)
 |[],h=>⟨h,fun _ h=>h⟩
 | p :: l,hn=>by
   simp only[X5,aw0]at hn;rw[AA];by_cases h:p.1=k
   . rw[if_pos h];exact⟨hn.2,fun x hx=>W5 _ hx⟩
   . obtain⟨h1,h2⟩:=AB k l hn.2;rw[if_neg h];simp only[X5,aw0,Y4];exact⟨⟨fun hm=>hn.1 (h2 _ hm),h1⟩,fun x hx=>hx.imp id (h2 x)⟩
end
theorem vi{β:Type}{f:β->β}:∀{l:List β} {j:Nat} {e:β},l[j]?=some e->l.modify j f=l.set j (f e)
 |[],j,e,h=>by simp at h
 |x::l,0,e,h=>by simp at h;subst h;rfl
 | x :: l,j + 1,e,h=>by
   have:=vi (f:=f) (l:=l) (j:=j) (by simpa using h);simp[this]
theorem zK(es:Array MapEntry)(j:Nat):(es.eraseIdxIfInBounds j).toList=es.toList.eraseIdx j:=by
 unfold Array.eraseIdxIfInBounds;split
 . simp
 . rename_i hj;rw[List.eraseIdx_of_length_le (by simpa using hj)]
theorem Brn.push{es:Array MapEntry}{cl:Nat}(h:Brn es cl)(k v:Value):Brn (es.push { key:=k,val:=v,born:=cl }) (cl+1):=by
 obtain⟨h1,h2⟩:=h;refine⟨?_,fun e he=>?_⟩
 . rw[fd0,X6,aR0];refine⟨h1,by simp,fun a ha b hb e=>?_⟩;obtain⟨x,hx,rfl⟩:=Y7.1 ha;simp at hb;have:=h2 x hx;omega
 . rw[fd0,V3]at he
   rcases he with he|he
   . have:=h2 e he;omega
   . simp at he;subst he;exact fg0 _
theorem zh{β γ:Type}(g:β->γ)(f:β->β)(hf:∀e,g (f e)=g e):∀(l:List β) (j:Nat),(l.modify j f).map g=l.map g
 |[],j=>by simp
 |x::l,0=>by simp[hf]
 |x::l,j+1=>by simp[zh g f hf l j]
theorem Brn.modify{es:Array MapEntry}{cl:Nat}(h:Brn es cl)(j:Nat)(f:MapEntry->MapEntry)(hf:∀e,(f e).born=e.born):Brn (es.modify j f) cl:=by
 have h0:((es.modify j f).toList.map (·.born))=es.toList.map (·.born):=by rw[eM0];exact zh (·.born) f hf _ _
 refine⟨by rw[h0];exact h.1,fun e he=>?_⟩;have:e.born∈(es.modify j f).toList.map (·.born):=Y7.2 ⟨e,he,rfl⟩;rw[h0]at this;obtain⟨x,hx,hxe⟩:=Y7.1 this;rw[<- hxe];exact h.2 x hx
theorem Brn.erase{es:Array MapEntry}{cl:Nat}(h:Brn es cl)(j:Nat):Brn (es.eraseIdxIfInBounds j) cl:=by
 unfold Brn;rw[zK];have hs:=List.eraseIdx_sublist es.toList j;exact⟨h.1.sublist (hs.map _),fun e he=>h.2 e (hs.subset he)⟩
class KeyNow (P:Program) (t:TypeId) (kt:Tp) [DecidableEq kt.den]:Prop where
 d:∃d,P.underlying t=some d/\(∀a b:kt.den,Instr.sameNow d (ay kt a) (ay kt b)=some (decide (b=a)))/\(∀e n (a:kt.den) (w:World),(Instr.checkKey e (n+1) t (ay kt a)).run P w=.ok () w)/\∀n (a:kt.den),Instr.sameBits (n+1) (ay kt a) (ay kt a)=true
class KeyOk (P:Program) (t:TypeId) (kt:Tp) [DecidableEq kt.den]:Prop where
 find:∀(k:kt.den) (es:List MapEntry) (l:List (kt.den×Int)) (w:World),es.map (fun e=>(e.key,e.val))=l.map (fun p=>(ay kt p.1,Value.int .i64 p.2))->(Instr.findKey t (ay kt k) es).run P w=.ok ((aN k l 0).map fun q=>(q.1,Value.int .i64 q.2)) w
 check:∀e n (a:kt.den) (w:World),(Instr.checkKey e (n+2) t (ay kt a)).run P w=.ok () w
 stays:∀n (a:kt.den),Instr.sameBits (n+2) (ay kt a) (ay kt a)=true
section
variable {P:Program}{t mt:TypeId}{kt:Tp}[DecidableEq kt.den]{w:World}{r:Nat}
theorem rR{es:Array MapEntry}{cl:Nat}(hr:w.heap[r]?=some (.map es cl)):(getObj r).run P w=.ok (.map es cl) w:=by simp[getObj,Sem.run,hr]
theorem rP{es:Array MapEntry}{cl:Nat}(o:Obj)(hr:w.heap[r]?=some (.map es cl)):(setObj r o).run P w=.ok () { w with heap:=w.heap.setIfInBounds r o }:=by simp[setObj,Sem.run,hr]
theorem zI{d:TypeDesc}(hd:∀a b:kt.den,Instr.sameNow d (ay kt a) (ay kt b)=some (decide (b=a)))(k:kt.den):∀(es:List MapEntry) (l:List (kt.den×Int)) (i:Nat),es.map (fun e=>(e.key,e.val))=l.map (fun p=>(ay kt p.1,Value.int .i64 p.2)) ->
   Instr.findNow d (ay kt k) es i=some ((aN k l i).map fun q=>(q.1,Value.int .i64 q.2))
 |[],[],i,h=>rfl
 |[],_::_,i,h=>by simp at h
 |_::_,[],i,h=>by simp at h
 | e :: es,p :: l,i,h=>by
   simp only[X5,aQ0,bQ0]at h;obtain⟨⟨h1,h2⟩,h3⟩:=h;unfold Instr.findNow aN;rw[h1,hd];by_cases hk:p.1=k
   . simp[hk,h2]
   . simp only[hk,decide_false,if_false];exact zI hd k es l (i+1) h3
theorem FH[hk:KeyNow P t kt](k:kt.den){es:List MapEntry}{l:List (kt.den×Int)}(h:es.map (fun e=>(e.key,e.val))=l.map (fun p=>(ay kt p.1,Value.int .i64 p.2))) :
   (Instr.findKey t (ay kt k) es).run P w=.ok ((aN k l 0).map fun q=>(q.1,Value.int .i64 q.2)) w:=by
 obtain⟨d,h1,h2,h3,h4⟩:=hk.d;unfold Instr.findKey;simp only[Sem.run_bind,run_underlying h1,Result.andThen,zI h2 k es l 0 h,Sem.run_pure]
instance [hk:KeyNow P t kt]:KeyOk P t kt where
 find:=fun k es l w h=>FH k h
 check:=by obtain⟨d,h1,h2,h3,h4⟩:=hk.d;exact fun e n a w=>h3 e (n+1) a w
 stays:=by obtain⟨d,h1,h2,h3,h4⟩:=hk.d;exact fun n a=>h4 (n+1) a
theorem pV[hk:KeyOk P t kt](k:kt.den){es:List MapEntry}{l:List (kt.den×Int)}(h:es.map (fun e=>(e.key,e.val))=l.map (fun p=>(ay kt p.1,Value.int .i64 p.2))) :
   (Instr.findKey t (ay kt k) es).run P w=.ok ((aN k l 0).map fun q=>(q.1,Value.int .i64 q.2)) w:=hk.find k es l w h
theorem pA[hk:KeyOk P t kt]{et:TypeId}(hm:P.underlying mt=some (.map t et))(hz:∀w,(zeroValue et).run P w=.ok (.int .i64 0) w)(k:kt.den){es:Array MapEntry}{cl:Nat}{l:List (kt.den×Int)}(hr:w.heap[r]?=some (.map es cl))
   (h:es.toList.map (fun e=>(e.key,e.val))=l.map (fun p=>(ay kt p.1,Value.int .i64 p.2))) :
   (Instr.lookup mt (.map (some r)) (ay kt k) false).run P w=.ok (.int .i64 (aJ k l)) w:=by
 have h3:=hk.check;have h4:=hk.stays;unfold Instr.lookup;simp only[Sem.run_bind,run_underlying hm,Result.andThen,Sem.run_pure,rR hr,h3,pV k h];unfold aJ;cases hf:aN k l 0 with
 |none=>simp[hz,Result.andThen]
 |some q=>simp
theorem Ft[hk:KeyOk P t kt]{et:TypeId}(hm:P.underlying mt=some (.map t et))(hz:∀w,(zeroValue et).run P w=.ok (.int .i64 0) w)(k:kt.den){es:Array MapEntry}{cl:Nat}{l:List (kt.den×Int)}(hr:w.heap[r]?=some (.map es cl))
   (h:es.toList.map (fun e=>(e.key,e.val))=l.map (fun p=>(ay kt p.1,Value.int .i64 p.2))) :
   (Instr.lookup mt (.map (some r)) (ay kt k) true).run P w=.ok (.tuple #[.int .i64 (aJ k l),.bool (aN k l 0).isSome]) w:=by
 have h3:=hk.check;have h4:=hk.stays;unfold Instr.lookup;simp only[Sem.run_bind,run_underlying hm,Result.andThen,Sem.run_pure,rR hr,h3,pV k h];unfold aJ;cases hf:aN k l 0 with
 |none=>simp[hz,Result.andThen]
 |some q=>simp
theorem tZ[hk:KeyOk P t kt]{et:TypeId}(hm:P.underlying mt=some (.map t et))(k:kt.den)(c:Int){es:Array MapEntry}{cl:Nat}{l:List (kt.den×Int)}(hr:w.heap[r]?=some (.map es cl))
   (h:es.toList.map (fun e=>(e.key,e.val))=l.map (fun p=>(ay kt p.1,Value.int .i64 p.2))) (hB:Brn es cl) :
   ∃ es' cl',(Instr.mapUpdate mt (.map (some r)) (ay kt k) (.int .i64 c)).run P w = .ok () { w with heap:=w.heap.setIfInBounds r (.map es' cl') } /\
     es'.toList.map (fun e=>(e.key,e.val))=(bI k c l).map (fun p=>(ay kt p.1,Value.int .i64 p.2))/\Brn es' cl':=by
 have h3:=hk.check;have h4:=hk.stays;unfold Instr.mapUpdate;simp only[Sem.run_bind,run_underlying hm,Result.andThen,Sem.run_pure,rR hr,h3,pV k h];unfold bI;cases hf:aN k l 0 with
 | none =>
   refine⟨_,_,by simp only[fs0];exact rP _ hr,?_,hB.push _ _⟩;simp[h]
 | some q =>
   obtain⟨j,c0⟩:=q;obtain⟨_,hq⟩:=zE hf;rw[er0]at hq;have hj:(es.toList.map (fun e=>(e.key,e.val)))[j]?=some (ay kt k,Value.int .i64 c0):=by rw[h,cB0,hq];rfl
   rw[cB0]at hj;obtain⟨e,he,hej⟩:=aW0.1 hj;simp only[bQ0]at hej;have he':es[j]?=some e:=by rw[<- bA0];exact he
   have hkey:((es[j]?).map (·.key)).getD (ay kt k)=ay kt k:=by rw[he'];exact hej.1
   refine⟨es.modify j (fun e=>{ e with key:=ay kt k,val:=.int .i64 c }),cl,?_,?_,hB.modify _ _ (fun e=>rfl)⟩
   . simp only[dl0,Sem.run_bind,hkey,Instr.keyThatStays,h4,if_true,Sem.run_pure,Result.andThen];exact rP _ hr
   . show _=cE0 _ (l.modify j _);rw[eM0,vi he,vi hq,List.map_set,List.map_set,h]
theorem Fb[hk:KeyOk P t kt]{et ty:TypeId}{ts:Array TypeId}(hm:P.underlying mt=some (.map t et))(ht:ts[0]?=some mt)(k:kt.den){es:Array MapEntry}{cl:Nat}{l:List (kt.den×Int)}(hr:w.heap[r]?=some (.map es cl))
   (h:es.toList.map (fun e=>(e.key,e.val))=l.map (fun p=>(ay kt p.1,Value.int .i64 p.2))) (hB:Brn es cl) :
   ∃ es',(Builtin.delete_ ts ty #[.map (some r),ay kt k]).run P w = .ok (.tuple #[]) { w with heap:=w.heap.setIfInBounds r (.map es' cl) } /\
     es'.toList.map (fun e=>(e.key,e.val))=(bV k l).map (fun p=>(ay kt p.1,Value.int .i64 p.2))/\Brn es' cl:=by
 have h3:=hk.check;have h4:=hk.stays;unfold Builtin.delete_;simp only[ht,ew0,eh0,ei0,Sem.run_bind,run_underlying hm,Result.andThen,Sem.run_pure,rR hr,h3,pV k h];unfold bV;cases hf:aN k l 0 with
 |none=>exact⟨es,by simp only[fs0,Sem.run_bind,rP _ hr,Result.andThen,Sem.run_pure],h,hB⟩
 | some q =>
   obtain⟨j,c0⟩:=q;refine⟨es.eraseIdxIfInBounds j,by simp only[dl0,Sem.run_bind,rP _ hr,Result.andThen,Sem.run_pure],?_,hB.erase j⟩;show _=cE0 _ (l.eraseIdx j);have hsub:=zK es j;have hmap:∀{β γ:Type} (g:β->γ) (l:List β) (j:Nat),(l.eraseIdx j).map g=(l.map g).eraseIdx j:=by
     intro β γ g l
     induction l with
     |nil=>intro j;rfl
     | cons x l ih=>intro j; cases j with
       |zero=>rfl
       |succ j=>simp[ih]
   rw[hsub,hmap,hmap,h]
theorem Fc[hk:KeyOk P t kt]{et ty:TypeId}{ts:Array TypeId}(hm:P.underlying mt=some (.map t et))(ht:ts[0]?=some mt)(k:kt.den) :
   (Builtin.delete_ ts ty #[.map none,ay kt k]).run P w=.ok (.tuple #[]) w:=by
 have h3:=hk.check;have h4:=hk.stays;unfold Builtin.delete_;simp only[ht,ew0,eh0,ei0,Sem.run_bind,run_underlying hm,Result.andThen,Sem.run_pure,h3]
end
end
end
end Go.Proofs.YtpnmnbfbcgkcjaaGreatDoor

/- A part of the proof: what lies ahead of the law. Nothing is claimed here. -/
import Derived.Test.YtpnmnbfbcgkcjaaGreatDoorZ1
import Derived.Lib.AppendStr
import Derived.Lib.AppendZerosOnto
import Derived.Laws.CopyRow
import Derived.Laws.IdiomCopy
open Array renaming length_toList→Y5,replicate→bz0,size_append→fe0,toList_append→eN0,toList_map→dO0
open BitVec renaming ofInt→X0
open Bool renaming and_eq_true→Y1,and_true→en0,eq_false_iff→bo0,false_eq_true→W7,true_and→cd0,xor_false→dY0,xor_true→em0
open ByteArray renaming size→dx0
open Classical renaming propDecidable→dh0
open Empty renaming elim→fc0
open Int renaming eq_ofNat_of_zero_le→W6,fdiv→X8,natCast_mul→fy0,natCast_nonneg→aj0,ofNat→ey0,ofNat_lt→bL0,tdiv→bc0,tmod→bK0,toNat→Z5,toNat_natCast→W2,toNat_of_nonneg→bn0
open List renaming all_cons→dg0,all_eq_true→aF0,append_assoc→X1,append_nil→Z6,drop_append→fp0,drop_append_of_le_length→cK0,drop_length_add_append→cO0,drop_of_length_le→eq0,drop_take→dv0,extract_eq_take_drop→ci0,extract_toArray→cL0,getElem?_append_left→V6,getElem?_append_right→V5,getElem?_drop→bf0,getElem?_eq_getElem→Z0,getElem?_eq_some_iff→V4,getElem?_map→cB0,getElem?_take→aM0,getElem_of_mem→Z8,length→W4,length_append→W3,length_cons→V9,length_drop→W8,length_eq_zero_iff→Z4,length_map→Y6,length_nil→do0,length_replicate→X9,length_set→ax0,length_take→X4,map→cE0,map_cons→X5,mem_append→V3,mem_append_left→af0,mem_append_right→ae0,mem_cons→Y4,mem_cons_of_mem→W5,mem_map→Y7,mem_map_of_mem→dC0,mem_of_mem_take→bg0,nil_append→aH0,nodup_nil→cD0,perm_append_comm→bv0,range→Z1,replicate→Z2,set_append_right→bu0,size_toArray→aV0,take_append→bU0,take_append_drop→as0,take_append_of_le_length→au0,take_length_add_append→bD0,take_of_length_le→V8,take_succ_eq_append_getElem→ay0,take_take→bq0,toArray→aN0
open List.Perm renaming swap→bd0
open List.cons renaming injEq→aQ0
open Nat renaming add_assoc→aG0,add_comm→bh0,add_left_comm→eW0,add_mul→cz0,add_sub_cancel→cq0,add_sub_cancel_left→cp0,add_zero→aD0,beq→Y3,beq_refl→bY0,ble→aT0,ble_eq_true_of_le→et0,blt→aO0,blt_eq→bj0,eq_of_beq_eq_true→Y0,le_of_ble_eq_true→W9,le_refl→X3,min_eq_left→an0,min_eq_right→cJ0,mod_lt→bM0,mul_le_mul→cX0,mul_le_mul_right→aI0,mul_one→ba0,sub_self→bs0,sub_sub→eG0,succ_mul→aC0,zero_add→Y8,zero_le→ah0,zero_mul→bO0
open Option renaming bind_some→V0,isSome_iff_exists→eb0,map_eq_some_iff→aW0,map_some→dl0
open Option.some renaming inj→ap0,injEq→Z3
open Prod.mk renaming injEq→bQ0
open Sum renaming inl→dy0,inr→dk0
namespace Go.Proofs.YtpnmnbfbcgkcjaaGreatDoor
noncomputable section
set_option linter.unusedVariables false
set_option linter.unusedSimpArgs false
set_option linter.unnecessarySimpa false
set_option linter.unusedSectionVars false
open Go.RowKit
section
variable {R:Type}
def bx(P:Program)(t:TypeId):Option Nat:=(P.info? t).map (·.size)
def Du:Nat->Tp->Tp
 |0,_=>.emp
 |1,a=>.one a
 |n+2,a=>.cons a (Du (n+1) a)
def gM(P:Program):Nat->TypeId->Option Tp
 |0,_=>none
 | f + 1,t=>match P.underlying t with
   |some (.int k)=>some (.int k)
   |some .bool=>some .bool
   |some .string=>some .str
   |some (.slice e)=>(gM P f e).map .sl
   |some (.pointer e)=>(gM P f e).map .ptr
   |some (.struct fs)=>go (fun g=>gM P f g) fs.toList
   |some (.array n e)=>(gM P f e).map (Du n)
   |_=>none
where
 go (q:TypeId->Option Tp):List Field->Option Tp
   |[]=>some .emp
   |[g]=>(q g.type).map .one
   | g :: gs=>match q g.type,go q gs with
     |some a,some r=>some (.cons a r)
     |_,_=>none
mutual
def SV.sub(f:SV->Option SV):SV->SV
 |.agg vs=>.agg (SV.subL f vs)
 |.tup vs=>.tup (SV.subL f vs)
 |.fn g cs=>.fn g (SV.subL f cs)
 |.is j v=>match f (.is j v)with|some u=>u|none=>.is j (v.sub f)
 |v=>match f v with|some u=>u|none=>v
def SV.subL(f:SV->Option SV):List SV->List SV
 |[]=>[]
 |v::vs=>v.sub f::SV.subL f vs
end
def HA.sub(f:SV->Option SV):HA->HA
 |.blk i c e cs=>.blk i c e (SV.subL f cs)
 |.hole i c e o l j cs=>.hole i c e o l j (SV.subL f cs)
 |a=>a
def bc(f:SV->Option SV):List (Nat×SV)->List (Nat×SV)
 |[]=>[]
 |p::r=>(p.1,p.2.sub f)::bc f r
def nM(j:Nat)(v:SV):SV->Option SV
 |.is i _=>bif Y3 i j then some (.is i v)else none
 |_=>none
def Zt.fix(σ:Zt)(j:Nat)(v:SV):Zt:=⟨σ.base,bc (nM j v) σ.top,σ.H.map (HA.sub (nM j v)),σ.Hf,σ.nx,σ.kq⟩
def der(σ:Zt)(x:Operand)(v:SV)(k:Zt->SV->Option R):Option R:=match v with
 |.pk t y=>y.bind fun z=>k (match x with|.tmp i=>σ.ref i (.kat t z 0)|_=>σ) (.kat t z 0)
 | .is j w=>(match w with
   |.pk t y=>y.bind fun z=>k (σ.fix j (.kat t z 0)) (.kat t z 0)
   |w=>k σ w.st)
 |v=>k σ v.st
def fitOk(P:Program)(o:Nat)(t:Tp)(s:TypeId):Bool:=match bx P s with | some z=>aT0 (o+z) t.size&&(cV P s||(match P.underlying s with | some (.struct _)=>true | _=>false)) | none=>false
def ldv(P:Program)(s:TypeId)(cs:List SV)(o:Nat):Option SV :=
 bif cV P s then cs[o]? else match P.underlying s,bx P s with
   |some (.struct _),some z=>bif aT0 (o+z) cs.length then some (.agg ((cs.drop o).take z))else none
   |some (.array _ _),some z=>bif aT0 (o+z) cs.length then some (.agg ((cs.drop o).take z))else none
   |_,_=>none
def aX{α β:Type}(f:α->Option β):List α->Option β
 |[]=>none
 |a::l=>match f a with|some b=>some b|none=>aX f l
def SV.plain:SV->Bool
 |.int _ _ |.bool _|.str _=>true
 |_=>false
def load(P:Program)(A:List HA)(σ:Zt)(s:TypeId)(v:SV)(k:Zt->SV->Option R):Option R:=match v with
 | .ptr i o=>match aX (HA.blkR i) A with
   |some q=>(match ldv P s q.cs o with|some v=>k σ v|none=>none)
   |none=>none
 |.kat t x o=>(match ldv P s (SV.lv t x) o with|some v=>k σ v|none=>none)
 | .rat i c t j x o=>match aX (HA.rowR i) A with
   |some q=>bif Y3 q.c c then (match ldv P s (SV.lv t x) o with|some v=>k σ v|none=>none)else none
   |none=>none
 | .hat i o j off=>match aX (HA.holR i) A with
   |some q=>bif Y3 o.tp.size q.o.tp.size then (az j q.j).bind fun _=>(match ldv P s q.cs off with|some v=>k σ v|none=>none)else none
   | none=>match aX (HA.rowsR i) A with
     |some q=>bif Y3 o.tp.size q.o.tp.size&&cV P s then (aa q.l j).bind fun x=>(match (OT.rv q.o x)[off]? with|some v=>bif v.plain then k σ v else none|none=>none)else none
     |none=>none
 |_=>none
def fieldAt(P:Program)(s:TypeId)(i:Nat):Option Field:=match P.underlying s with|some (.struct fs)=>fs[i]? |_=>none
def yy:SV->Nat->Option SV
 |.ptr i o,d=>some (.ptr i (o+d))
 |.kat t x o,d=>some (.kat t x (o+d))
 |.rat i c t j x o,d=>some (.rat i c t j x (o+d))
 |.hat i o j off,d=>some (.hat i o j (off+d))
 |_,_=>none
def lenOf(A:List HA):SV->Option Int
 |.nils=>some 0
 |.row _ _ n=>some ((n:Nat):Int)
 |.str s=>some ((s.length:Nat):Int)
 |.fsl _ m=>some ((m:Nat):Int)
 |.fsa _ _ m _=>some ((m:Nat):Int)
 | .own i=>match aX (HA.rowR i) A with
   |some q=>some ((q.n:Nat):Int)
   | none=>match aX (HA.rowsR i) A with
     |some q=>some ((q.l.length:Nat):Int)
     |none=>match aX (HA.holR i) A with|some q=>some ((q.l.length:Nat):Int)|none=>none
 |_=>none
def rW(place:Nat->Option (Nat×Nat)):List SV->List (Nat×SV)->Option (List SV)
 |cs,[]=>some cs
 | cs,(i,v) :: r=>match place i,v.cells with
   |some (off,size),some vs=>bif Y3 vs.length size&&aT0 (off+size) cs.length then rW place (cs.take off++vs++cs.drop (off+size)) r else none
   |_,_=>none
def eC(P:Program)(t:TypeId):Option (List SV):=match P.info? t with
 |some i=>(match i.zero with|some z=>(SV.con z).cells|none=>none)
 |none=>none
def vX(P:Program)(s:TypeId):Option (List (Nat×Nat)):=match P.underlying s with
 |some (.struct fs)=>fs.toList.mapM fun f=>(P.info? f.type).map fun i=>(f.offset,i.size)
 |some (.array n e)=>(P.info? e).map fun i=>(Z1 n).map fun j=>(j*i.size,i.size)
 |_=>none
def eqI:List SV->List SV->Option Bool
 |[.int k a],[.int k' b]=>if k=k' then some (decide (a=b))else none
 |_,_=>none
def eqB:List SV->List SV->Option Bool
 |[.bool a],[.bool b]=>some (a==b)
 |_,_=>none
def eqT:List SV->List SV->Option Bool
 |[.str a],[.str b]=>some (decide (a=b))
 |_,_=>none
def eqA(q:List SV->List SV->Option Bool)(z:Nat)(x y:List SV):Nat->Nat->Option Bool
 |0,_=>some true
 |1,i=>q ((x.drop (i*z)).take z) ((y.drop (i*z)).take z)
 |n+2,i=>match q ((x.drop (i*z)).take z) ((y.drop (i*z)).take z),eqA q z x y (n+1) (i+1)with|some a,some b=>some (a&&b)|_,_=>none
def eqS(P:Program):Nat->TypeId->List SV->List SV->Option Bool
 |0,_,_,_=>none
 | f + 1,t,x,y=>match P.underlying t with
   |some (.int _)=>eqI x y
   |some .bool=>eqB x y
   |some .string=>eqT x y
   |some (.struct fs)=>bif P.stoodInHeld t then none else go (fun g a b=>eqS P f g a b) fs.toList x y
   |some (.array n e)=>(match bx P e with|some z=>eqA (fun a b=>eqS P f e a b) z x y n 0|none=>none)
   |_=>none
where
 go (q:TypeId->List SV->List SV->Option Bool):List Field->List SV->List SV->Option Bool
   |[],_,_=>some true
   | [g], x, y => bif g.name == "_" then none else match bx P g.type with
     |some z=>q g.type ((x.drop g.offset).take z) ((y.drop g.offset).take z)
     |none=>none
   | g :: gs, x, y => bif g.name == "_" then none else match bx P g.type with
     |some z=>(match q g.type ((x.drop g.offset).take z) ((y.drop g.offset).take z),go q gs x y with|some a,some b=>some (a&&b)|_,_=>none)
     |none=>none
def xw:BinOp->IntKind->Int->Int->Option SV
 |.add,q,a,b=>some (.int q (IntKind.wrap q (a+b)))
 |.sub,q,a,b=>some (.int q (IntKind.wrap q (a-b)))
 |.mul,q,a,b=>some (.int q (IntKind.wrap q (a*b)))
 |.and,q,a,b=>some (.int q (IntKind.wrap q ((X0 (IntKind.bits q) a &&& X0 (IntKind.bits q) b).toNat:Int)))
 | .or,q,a,b=>some (.int q (IntKind.wrap q ((X0 (IntKind.bits q) a ||| X0 (IntKind.bits q) b).toNat:Int)))
 |.xor,q,a,b=>some (.int q (IntKind.wrap q ((X0 (IntKind.bits q) a ^^^ X0 (IntKind.bits q) b).toNat:Int)))
 |.andNot,q,a,b=>some (.int q (IntKind.wrap q ((X0 (IntKind.bits q) a &&& ~~~X0 (IntKind.bits q) b).toNat:Int)))
 |.lss,_,a,b=>some (.bool (decide (a<b)))
 |.leq,_,a,b=>some (.bool (decide (a<=b)))
 |.gtr,_,a,b=>some (.bool (decide (b<a)))
 |.geq,_,a,b=>some (.bool (decide (b<=a)))
 |.eql,_,a,b=>some (.bool (decide (a=b)))
 |.neq,_,a,b=>some (.bool (!decide (a=b)))
 |_,_,_,_=>none
def yk(σ:Zt)(op:BinOp)(q:IntKind)(a:Int)(q':IntKind)(b:Int)(k:Zt->SV->Option R):Option R:=match op with
 |.shl=>(ge0 b).bind fun _=>k σ (.int q (IntKind.wrap q (a*2 ^ (min (Z5 b) (IntKind.bits q)))))
 |.shr=>(ge0 b).bind fun _=>k σ (.int q (X8 a (2 ^ (min (Z5 b) (IntKind.bits q)))))
 |.quo=>if q=q' then (nz b).bind fun _=>k σ (.int q (IntKind.wrap q (bc0 a b)))else none
 |.rem=>if q=q' then (nz b).bind fun _=>k σ (.int q (bK0 a b))else none
 |op=>if q=q' then (match xw op q a b with|some v=>k σ v|none=>none)else none
def yD(P:Program)(σ:Zt)(op:BinOp)(t:TypeId)(a b:Bool)(k:Zt->SV->Option R):Option R:=match P.underlying t with
 | some .bool=>(match op with
   |.eql=>k σ (.bool (a==b))
   |.neq=>k σ (.bool (!(a==b)))
   |_=>none)
 |_=>none
def yi(σ:Zt)(op:BinOp)(a b:List UInt8)(k:Zt->SV->Option R):Option R:=match op with
 |.eql=>k σ (.bool (decide (a=b)))
 |.neq=>k σ (.bool (!decide (a=b)))
 |.add=>(app a b).bind fun z=>k σ (.str z)
 |_=>none
def yp(P:Program)(σ:Zt)(op:BinOp)(t:TypeId)(a b:List SV)(k:Zt->SV->Option R):Option R:=bif P.eqGuardType P.depth t then none else match P.underlying t,eqS P 10 t a b with
 | some (.struct _),some e=>(match op with
   |.eql=>k σ (.bool e)
   |.neq=>k σ (.bool (!e))
   |_=>none)
 | some (.array _ _),some e=>(match op with
   |.eql=>k σ (.bool e)
   |.neq=>k σ (.bool (!e))
   |_=>none)
 |_,_=>none
def xm(A:List HA):SV->Option Bool
 |.own i=>(match aX (HA.boxR i) A with|some q=>some q.x.isNone|none=>none)
 |.hat _ _ _ _=>some false
 |.nilp=>some true
 |.ptr _ _=>some false
 |.kat _ _ _=>some false
 |.pk _ x=>some x.isNone
 |_=>none
def yz(P:Program)(σ:Zt)(op:BinOp)(t:TypeId)(x:SV)(k:Zt->SV->Option R):Option R:=match P.underlying t,xm (σ.H++σ.Hf) x with
 | some (.pointer _),some b=>(match op with
   |.eql=>k σ (.bool b)
   |.neq=>k σ (.bool (!b))
   |_=>none)
 |_,_=>none
def xR(P:Program)(σ:Zt)(op:BinOp)(t:TypeId)(k:Zt->SV->Option R):Option R:=match P.underlying t with
 | some (.func ..)=>(match op with
   |.eql=>k σ (.bool false)
   |.neq=>k σ (.bool true)
   |_=>none)
 |_=>none
def rF(σ:Zt)(neg:Bool):SV->Option SV
 |.nils=>some (.bool (!neg))
 |.row t l _=>some (.nlt t l neg)
 | .own i=>match aX (HA.rowR i) (σ.H++σ.Hf) with
   |some q=>some (.nlt q.t q.l neg)
   |none=>match aX (HA.rowsR i) (σ.H++σ.Hf)with|some q=>some (.nlt q.o.tp q.l neg)|none=>none
 |_=>none
def xX(P:Program)(σ:Zt)(op:BinOp)(t:TypeId)(k:Zt->SV->Option R):Option R:=match P.underlying t with
 | some (.interface _)=>(match op with
   |.eql=>k σ (.bool false)
   |.neq=>k σ (.bool true)
   |_=>none)
 |_=>none
def ye(P:Program)(σ:Zt)(op:BinOp)(t:TypeId)(x:SV)(k:Zt->SV->Option R):Option R:=match P.underlying t with
 | some (.slice _)=>(match op with
   |.eql=>(match rF σ false x with|some v=>k σ v|none=>none)
   |.neq=>(match rF σ true x with|some v=>k σ v|none=>none)
   |_=>none)
 |_=>none
def bin(P:Program)(σ:Zt)(op:BinOp)(t:TypeId)(x y:SV)(k:Zt->SV->Option R):Option R:=match x,y with
 |.int q a,.int q' b=>yk σ op q a q' b k
 |.bool a,.bool b=>yD P σ op t a b k
 |.str a,.str b=>yi σ op a b k
 |.agg a,.agg b=>yp P σ op t a b k
 |.fn _ _,.raw .nilFunc=>xR P σ op t k
 |.ifc _ _,.raw .nilIface=>xX P σ op t k
 |x,.nilp=>yz P σ op t x k
 |x,.nils=>ye P σ op t x k
 |_,_=>none
def iU(σ:Zt)(n:Nat)(lo hi:Option Operand)(len:Int):Option (Int×Int) :=
 match (match lo with|none=>some 0|some q=>(match σ.ev n q with|.int _ l=>some l|_=>none)),(match hi with|none=>some len|some q=>(match σ.ev n q with|.int _ l=>some l|_=>none))with
 |some l,some h=>some (l,h)
 |_,_=>none
def vun(σ:Zt)(op:UnOp)(x:SV)(k:Zt->SV->Option R):Option R:=match op,x with
 |.not,.bool b=>k σ (.bool (!b))
 |.neg,.int q a=>k σ (.int q (IntKind.wrap q (0-a)))
 |_,_=>none
def xO(P:Program)(mem:Bool)(A:List HA)(σ:Zt)(s d:TypeId)(x:SV)(k:Zt->SV->Option R):Option R:=match P.underlying s,P.underlying d,x with
 |some (.int q0),some (.int q),.int q1 a=>if q0=q1 then k σ (.int q (IntKind.wrap q a))else none
 | some (.slice e),some .string,v=>(match P.underlying e,v with
   |some (.int .u8),.nils=>k σ (.str [])
   |some (.int .u8),.row (.int .u8) l _=>bif mem then k σ (.str (fB l))else none
   |some (.int .u8),.own i=>(match aX (HA.rowR i) A with|some ⟨_,_,.int .u8,l,_⟩=>k σ (.str (fB l))|_=>none)
   |_,_=>none)
 |_,_,_=>none
def sD(P:Program)(n:Nat)(σ:Zt)(c:Call)(k:Zt->SV->Option R):Option R:=match c.callee,c.args.toList,c.argTypes.toList with
 | .builtin .len,[x],[t]=>(match P.underlying t with
   |some .string=>(match σ.ev n x with|.str s=>k σ (.int .i64 ((s.length:Nat):Int))|_=>none)
   |some (.slice _)=>(match σ.ev n x with|.str _=>none|v=>match lenOf (σ.H++σ.Hf) v with|some z=>k σ (.int .i64 z)|none=>none)
   |_=>none)
 |.builtin .max,[x,y],_=>(match σ.ev n x,σ.ev n y with|.int q a,.int q' b=>if q=q' then k σ (.int q (if a<b then b else a))else none|_,_=>none)
 |.builtin .min,[x,y],_=>(match σ.ev n x,σ.ev n y with|.int q a,.int q' b=>if q=q' then k σ (.int q (if b<a then b else a))else none|_,_=>none)
 |_,_,_=>none
structure ChR where
 t:Tp
 x:Option (Int×List t.den)
def HA.chR(i:Nat):HA->Option ChR
 |.od j _ (.obj 1 (.cons (.int .i64) (.one (.sl t)))) x=>bif Y3 j i then some ⟨t,x⟩else none
 |.od j _ (.chn a) x=>bif Y3 j i then some ⟨a.tp,x⟩else none
 |_=>none
def chS(n:Nat)(A:List HA)(σ:Zt)(cap:Bool)(x:Operand)(k:Zt->SV->Option R):Option R:=match σ.ev n x with
 | .own i=>(match aX (HA.chR i) A with
   | some q=>(match q.x with
     |some y=>k σ (.int .i64 (bif cap then y.1 else ((y.2.length:Nat):Int)))
     |none=>none)
   |none=>none)
 |_=>none
def HA.mapR(i:Nat):HA->Option (Option (List (Int×Int)))
 |.od j _ (.obj 0 (.sl (.cons (.int .i64) (.one (.int .i64))))) x=>bif Y3 j i then some x else none
 |_=>none
def rT(P:Program)(mt:TypeId):Bool:=match P.underlying mt with
 | some (.map t et)=>(match P.underlying t,P.info? et with
   |some (.int .i64),some i=>(match i.zero with|some (.int .i64 0)=>true|_=>false)
   |_,_=>false)
 |_=>false
def xP(P:Program)(n:Nat)(A:List HA)(σ:Zt)(mt:TypeId)(x y:Operand)(ok:Bool)(k:Zt->SV->Option R):Option R:=bif rT P mt then (match σ.ev n x,σ.ev n y with
 | .own i,.int .i64 c=>(match aX (HA.mapR i) A with
   |some q=>q.bind fun l=>k σ (bif ok then .tup [.int .i64 (aJ c l),.bool (aN c l 0).isSome]else .int .i64 (aJ c l))
   |none=>none)
 |_,_=>none)else none
def xo(P:Program)(n:Nat)(A:List HA)(σ:Zt)(c:Call)(k:Zt->SV->Option R):Option R:=match c.callee,c.args.toList,c.argTypes.toList with
 | .builtin .len,[x],[t]=>(match P.underlying t with
   |some (.chan _ _)=>chS n A σ false x k
   |_=>sD P n σ c k)
 | .builtin .cap,[x],[t]=>(match P.underlying t with
   |some (.chan _ _)=>chS n A σ true x k
   |some (.slice _)=>(match σ.ev n x with|.nils=>k σ (.int .i64 0)|_=>none)
   |_=>none)
 |_,_,_=>sD P n σ c k
def ixa:Nat->Nat->Int->(Nat->Option R)->Option R
 |0,_,_,_=>none
 |n+1,j,i,f=>cond (decide (i=((j:Nat):Int))) (f j) (ixa n (j+1) i f)
def yf (P:Program) (σ:Zt) (t:TypeId) (x y:SV) (k:Zt->SV->Option R):Option R:=match P.underlying t with
 | some (.slice e)=>(match bx P e,x,y with
   |some z,.row tp l _,.int _ i=>bif Y3 z tp.size then (aa l i).bind fun x=>k σ (.kat tp x 0)else none
   | some z,.own r,.int _ i=>(match aX (HA.rowR r) (σ.H++σ.Hf) with
     |some q=>bif Y3 z q.t.size then (aa q.l i).bind fun x=>k σ (.rat r q.c q.t i x 0)else none
     | none=>match aX (HA.rowsR r) (σ.H++σ.Hf) with
       |some q=>bif Y3 z q.o.tp.size then (aa q.l i).bind fun _=>k σ (.hat r q.o i 0)else none
       | none=>match aX (HA.holR r) (σ.H++σ.Hf) with
         |some q=>bif Y3 z q.o.tp.size then (aa q.l i).bind fun _=>k σ (.hat r q.o i 0)else none
         |none=>none)
   |some z,.fsl b m,.int _ i=>(match i with|.ofNat j=>bif aO0 j m then k σ (.ptr b (j*z))else none|_=>none)
   |some z,.fsa b o m _,.int _ i=>ixa m 0 i fun j=>k σ (.ptr b (o+j*z))
   |_,_,_=>none)
 | some (.array len e)=>(match bx P e,x,y with
   |some z,.ptr b o,.int _ i=>ixa len 0 i fun j=>k σ (.ptr b (o+j*z))
   |_,_,_=>none)
 |_=>none
def yx(P:Program)(n:Nat)(σ:Zt)(t:TypeId)(x:SV)(lo hi:Option Operand)(k:Zt->SV->Option R):Option R:=match P.underlying t,x with
 |some .string,.str s=>(match iU σ n lo hi ((s.length:Nat):Int)with|some (l,h)=>(subL s l h).bind fun y=>k σ (.str y)|none=>none)
 | some (.slice e),.own i=>(match aX (HA.rowR i) (σ.H++σ.Hf) with
   |some q=>if bx P e=some q.t.size then (match iU σ n lo hi ((q.n:Nat):Int)with|some (a,b)=>(subL q.l a b).bind fun _=>k σ (.prt i q.t.size a b)|none=>none)else none
   |none=>none)
 |some (.slice e),.nils=>if (bx P e).isSome then (match iU σ n lo hi 0 with|some (a,b)=>(subL ([]:List Unit) a b).bind fun _=>k σ .nils|none=>none)else none
 |some (.slice e),.row tp l z=>if bx P e=some tp.size then (match iU σ n lo hi ((z:Nat):Int)with|some (a,b)=>(subL l a b).bind fun y=>k σ (.row tp y y.length)|none=>none)else none
 | some (.array len e),.ptr b o=>(match bx P e,iU σ n lo hi ((len:Nat):Int) with
   |some z,some (.ofNat a,.ofNat h)=>bif aT0 a h&&aT0 h len&&aO0 a len then k σ (.fsa b (o+a*z) (h-a) (len-a))else none
   |_,_=>none)
 |_,_=>none
def vop(P:Program)(n:Nat)(mem:Bool)(A:List HA)(σ:Zt)(o:Op)(k:Zt->SV->Option R):Option R:=match o with
 |.move x=>k σ (σ.evr n x)
 |.assign x=>k σ (σ.evr n x)
 |.pick c x y=>(match σ.ev n c with|.bool t=>cond t (k σ (σ.ev n x)) (k σ (σ.ev n y))|_=>none)
 |.binOp op t x y _=>bin P σ op t (σ.ev n x) (σ.ev n y) k
 |.unOp op _ x=>vun σ op (σ.ev n x) k
 |.convert s d x=>xO P mem A σ s d (σ.ev n x) k
 |.extract x i=>(match σ.ev n x with|.tup vs=>(match vs[i]? with|some v=>k σ v|none=>none)|_=>none)
 |.call c=>xo P n A σ c k
 | .fieldAddr s x i=>(match fieldAt P s i with
   |some f=>bif Y3 (P.cellsOf f.type) 0 then none else der σ x (σ.evr n x) fun σ v=>match yy v f.offset with|some v=>k σ v|none=>none
   |none=>none)
 | .field s x i=>(match fieldAt P s i,σ.ev n x with
   |some f,.agg cs=>(match ldv P f.type cs f.offset with|some v=>k σ v|none=>none)
   |_,_=>none)
 | .build s ps=>(match eC P s,vX P s with
   |some z,some pl=>(match rW (fun i=>pl[i]?) z (ps.toList.map fun p=>(p.1,σ.evr n p.2))with|some cs=>k σ (.agg cs)|none=>none)
   |_,_=>none)
 |.indexAddr t x y=>yf P σ t (σ.ev n x) (σ.ev n y) k
 | .index t x y=>(match P.underlying t,σ.ev n x,σ.ev n y with
   |some .string,.str s,.int _ i=>(aa s i).bind fun q=>k σ (.int .u8 ((q.toNat:Nat):Int))
   |_,_,_=>none)
 |.lookup t x y ok=>xP P n A σ t x y ok k
 |.load s x=>der σ x (σ.evr n x) fun σ v=>(match v with|.kat _ _ _=>(bif mem then load P A σ s v k else none)|v=>load P A σ s v k)
 |.slice t x lo hi mx=>(match mx with|none=>yx P n σ t (σ.ev n x) lo hi k|some _=>none)
 |.nilCheck x=>der σ x (σ.evr n x) fun σ v=>(match v with|.ptr _ _=>k σ v|.kat _ _ _=>k σ v|.rat _ _ _ _ _ _=>k σ v|.hat _ _ _ _=>k σ v|_=>none)
 |.makeInterface t x=>(match P.underlying t with|some (.interface _)=>none|some _=>k σ (.ifc t (σ.ev n x))|none=>none)
 | .typeAssert x _ t true=>(match σ.ev n x,P.underlying t with
   |.ifc u v,some d=>bif Y3 u t&&(match d with|.interface _=>false|_=>true)then k σ (.tup [v,.bool true])else none
   |_,_=>none)
 |.makeFunc f fs xs=>(match f with|.func f=>bif fs.isEmpty then k σ (.fn f (xs.toList.map (σ.ev n)))else none|_=>none)
 |_=>none
end
section
def kT(s:List UInt8):List Int:=s.map fun x=>(x.toNat:Int)
theorem CV{K:Hp}:∀(s:List UInt8),Els K (.int .u8) (Lib.strCells ⟨s.toArray⟩) (kT s)
 |[]=>rfl
 |x::s=>⟨[.int .u8 (x.toNat:Int)],Lib.strCells ⟨s.toArray⟩,by simp[Lib.strCells],rfl,CV s⟩
section
variable {P:Program}{E:En}{n:Nat}{ρ:Sl0}{K:Hp}{L:List ah}{d:Nat}{t:TypeId}{pos:String}{af:Array Edge}{g:Option (Nat×Bool)}{x y c:Operand}{u v:Value}
theorem HX{w:World}{s e tu ty:TypeId}{v:Value}{N:Nat}{cs:List Value}{z:List UInt8}(hs:P.underlying s=some (.slice e))(hu:P.underlying tu=some .string)(hi:Inf P e (.int .u8 0) 1 1)
   (ho:w.ownsRow 0 e 1 v N cs) (hlen:N+z.length<=1073741824) :
   ∃v' w',(Builtin.append_ #[s,tu] ty #[v,.string ⟨z.toArray⟩]).run P w=.ok v' w'/\w'.ownsRow 0 e 1 v' (N+z.length) (cs++Lib.strCells ⟨z.toArray⟩)/\w.grownBy w' v.ownBlock/\(v'.ownBlock=v.ownBlock\/v'.ownBlock=some w.heap.size):=by
 obtain⟨i,i1,i2,i3,i4⟩:=hi.open;have hz:(⟨z.toArray⟩:ByteArray).size=z.length:=by simp[dx0]
 obtain⟨v',w',h1,h2,h3,h4⟩:=Lib.run_append_own_string (P:=P) w 0 s tu ty e i hs hu i1 i2 i3 i4 v N cs ho ⟨z.toArray⟩ (by rw[hz];unfold maxLen;omega) (by rw[hz];omega) (ah0 _);rw[hz]at h2;refine⟨v',w',h1,h2,h3,?_⟩;have hxl:cs.length=N:=by simpa using ho.1
 rcases ho.2 with⟨rfl,rfl⟩|⟨g,cap,cur,rfl,hbg,hg,hnc,hcm,hcs,htake⟩
 . by_cases hm:z.length=0
   . have:=h4.2 ⟨rfl,by rw[hz];exact hm⟩;subst this;exact .inl rfl
   . have hr:=run_append_nil_string (P:=P) w s tu ty e i (.int .u8 0) hs hu i1 i2 ⟨z.toArray⟩ (by rw[hz];omega) (by rw[hz];omega) (by rw[i4,hz];omega);rw[hr]at h1;simp only[Result.ok.injEq]at h1;rw[<- h1.1];exact .inr rfl
 . by_cases hroom:N+z.length<=cap
   . have hcs':cur.size=cap:=by simpa using hcs
     have hr:=Lib.run_append_room_string (P:=P) w s tu ty e i hs hu i1 i3 g N cap cur hg ⟨z.toArray⟩ (by rw[hz];exact hroom) (by rw[hz];omega);rw[hr]at h1;simp only[Result.ok.injEq]at h1;rw[<- h1.1];exact .inl rfl
   . have holds:∀j u,cs[j]?=some u->w.cell? ((⟨g,0,none⟩:Addr).add j)=some u:=ho.cells (g:=g) rfl
     have hr:=Lib.run_append_grow_string (P:=P) w s tu ty e i (.int .u8 0) hs hu i1 i2 ⟨g,0,none⟩ N cap cs (by rw[i3];simpa using hxl) holds ⟨z.toArray⟩ (by rw[hz];omega) (by rw[hz];omega) (by rw[i4,hz];exact growslice_fits (by omega) (by omega));rw[hr]at h1;simp only[Result.ok.injEq]at h1;rw[<- h1.1];exact .inr rfl
theorem A.appS{s e tu:TypeId}{K0:Hp}{xs:List Int}{ys:List UInt8}(hs:P.underlying s=some (.slice e))(hu:P.underlying tu=some .string)(hi:Inf P e (.int .u8 0) 1 1)
   (hx:ev n ρ x=v) (hy:ev n ρ y=.string ⟨ys.toArray⟩) {zs:List Int} (hz:Go.Proofs.YtpnmnbfbcgkcjaaGreatDoor.app xs (kT ys)=some zs) :
   Ao P E n ⟨some d,.call ⟨.builtin .append,#[x,y],#[s,tu]⟩,t,pos,af,g⟩ ρ K (Row K0 e (.int .u8) v xs::L) (fun ρ' K' L'=>∃v',ρ'=upd ρ d v'/\K=K'/\L'=Row Hp.nil e (.int .u8) v' zs::L) :=
 Ao.of rfl (fun w hsep=>by
   obtain⟨hlen,rfl⟩:=jV hz;have hsep':=hsep;obtain⟨h,⟨cs,h1,h2⟩,h3,h4⟩:=hsep;have hown:=h2.owns (w:=w) (fun n o e=>h4.sub n o (Hp.join_right e (h3 n o e)));have hl:(kT ys).length=ys.length:=by simp[kT]
   obtain⟨v',w',r1,r2,r3,r5⟩:=HX (P:=P) (w:=w) (ty:=t) hs hu hi hown (by rw[hl]at hlen;exact hlen);refine⟨v',w',K,_,?_,hsep'.grown (K1:=Hp.nil) (t:=.int .u8) (zs:=xs++kT ys) (by rw[W3,hl]) r2 ((Els.flat rfl h1).app (CV ys)) r3 r5,v',rfl,rfl,rfl⟩;simp[execOp,resolve,invoke,builtin,hx,hy,r1])
end
end
def Hp.cle(a b:Hp):Prop:=∀(g o:Nat) (v:Value),be a g o=some v->be b g o=some v
theorem Hp.le.cle{a b:Hp}(h:a.le b):a.cle b:=fun _ _ _ k=>gt h k
theorem Hp.cle.trans{a b c:Hp}(h:a.cle b)(k:b.cle c):a.cle c:=fun g o v e=>k g o v (h g o v e)
theorem Hp.cle_refl(a:Hp):a.cle a:=fun _ _ _ h=>h
theorem Is.monoC{K K':Hp}(f:K.cle K'):∀{t:Tp} {cs:List Value} {d:t.den},Is K t cs d->Is K' t cs d
 |.int _,cs,d,h=>h
 |.bool,cs,d,h=>h
 |.str,cs,d,h=>h
 |.emp,cs,d,h=>h
 |.one a,cs,d,h=>by simp only[Is]at h ⊢;exact Is.monoC f h
 | .sl e,cs,d,h=>by
   simp only[Is]at h ⊢;obtain⟨ad,cap,h1,h2,h3,h4⟩:=h;refine⟨ad,cap,h1,h2,h3,fun hne=>?_⟩;obtain⟨b,o,hb,hk⟩:=h4 hne;refine⟨b,o,hb,fun k x hx=>?_⟩;obtain⟨es,hl,hi,hj⟩:=hk k x hx;refine⟨es,hl,Is.monoC f hi,fun j hjl=>?_⟩;have:=hj j hjl;rw[Z0 (by omega)]at this ⊢;exact f _ _ _ this
 | .ptr e,cs,d,h=>by
   simp only[Is]at h ⊢
   rcases h with h|⟨x,b,o,h1,h2,es,hl,hi,hj⟩
   . exact .inl h
   . refine .inr ⟨x,b,o,h1,h2,es,hl,Is.monoC f hi,fun j hjl=>?_⟩;have:=hj j hjl;rw[Z0 (by omega)]at this ⊢;exact f _ _ _ this
 | .cons a r,cs,d,h=>by
   simp only[Is]at h ⊢;obtain⟨c1,c2,rfl,h1,h2,h3⟩:=h;exact⟨c1,c2,rfl,h1,Is.monoC f h2,Is.monoC f h3⟩
theorem At.monoC{K K':Hp}(f:K.cle K'){e:Tp}{b o:Nat}{x:e.den}(h:At K e b o x):At K' e b o x:=by
 obtain⟨es,hl,hi,hj⟩:=h;refine⟨es,hl,Is.monoC f hi,fun j hjl=>?_⟩;have:=hj j hjl;rw[Z0 (by omega)]at this ⊢;exact f _ _ _ this
theorem Els.monoC{K K':Hp}(f:K.cle K'){t:Tp}:∀{xs:List t.den} {cs:List Value},Els K t cs xs->Els K' t cs xs
 |[],cs,h=>h
 | x :: xs,cs,h=>by
   obtain⟨es,r,rfl,h1,h2⟩:=h;exact⟨es,r,rfl,h1.monoC f,Els.monoC f h2⟩
theorem OT.own_monoC{K0 K1:Hp}(hk:K0.cle K1):∀(o:OT) {cs:List Value} {x:o.tp.den} {h:Hp},o.own K0 cs x h->o.own K1 cs x h
 |.dat t,cs,x,h,k=>⟨k.1.monoC hk,k.2⟩
 |.row e a,cs,x,h,⟨v,vs,e1,k⟩=>⟨v,vs,e1,ci (fun _ k=>k) (fun h k=>EEls.mono (fun es x h k=>OT.own_monoC hk a k) k) k⟩
 | .box e a,cs,x,h,k=>by
   unfold OT.own at k ⊢;split at k
   . exact k
   . obtain⟨b,vs,e1,k⟩:=k;exact⟨b,vs,e1,ci (fun _ k=>k) (fun h k=>OT.own_monoC hk a k) k⟩
 | .lbx e a,cs,x,h,k=>by
   unfold OT.own at k ⊢;split at k
   . exact k
   . obtain⟨b,vs,e1,k⟩:=k;exact⟨b,vs,e1,ci (fun _ k=>k) (fun h k=>OT.own_monoC hk a k) k⟩
 |.obj n u,cs,x,h,k=>by unfold OT.own at k ⊢;exact k
 | .chn a,cs,x,h,k=>by
   unfold OT.own at k ⊢;split at k
   . exact k
   . obtain⟨r,b,s,c,e1,e2,e3,k⟩:=k;exact⟨r,b,s,c,e1,e2,e3,ci (fun _ k=>k) (fun h k=>EEls.mono (fun es x h k=>OT.own_monoC hk a k) k) k⟩
 |.one a,cs,x,h,k=>OT.own_monoC hk a (x:=x) k
 |.cons a r,cs,x,h,⟨c1,c2,e1,e2,k⟩=>⟨c1,c2,e1,e2,ci (fun _ k=>OT.own_monoC hk a k) (fun _ k=>OT.own_monoC hk r k) k⟩
class BldA where
 t:TypeId
 bat:Nat->List UInt8->ah
 fresh:∀{E:En} {K:Hp} {L:List ah} {w:World} {b:Nat},Sep E K (Cl b t [.pointer none,.slice none 0 0]::L) w->Sep E K (bat b []::L) w
 /-- What is known of the globals. -/
 gk:Hp->Prop
 gkm:∀{K K':Hp},K.cle K'->gk K->gk K'
inductive M where
 |val (v:Value)
 |cells (vs:List Value)
 |cont (t:Tp) (l:List t.den) (cs:List Value)
 |hp (K:Hp)
 |hol (K:Hp) (es:List Value)
 |loop (l:Nat) (r:Loop)
mutual
def SV.rel(m:List M)(K:Hp):SV->Value->Prop
 |.any,_=>True
 |.raw v,u=>u=v
 |.int k n,u=>u=.int k n
 |.bool b,u=>u=.bool b
 |.str s,u=>u=.string ⟨s.toArray⟩
 |.nilp,u=>u=.pointer none
 |.nils,u=>u=.slice none 0 0
 |.row t l n,u=>Is K (.sl t) [u] l/\l.length=n
 |.pk t x,u=>Is K (.ptr t) [u] x
 |.kat t x o,u=>∃b o0,u=.pointer (some ⟨b,o0+o,none⟩)/\At K t b o0 x
 |.own i,u=>m[i]?=some (.val u)/\u.oneCell'=true
 |.hat i o j off,u=>∃g n cap,m[i]?=some (.val (.slice (some ⟨g,0,none⟩) n cap))/\0<=j/\j.toNat<n/\u=.pointer (some ⟨g,j.toNat*o.tp.size+off,none⟩)
 |.prt i z lo hi,u=>∃ad n cap ad',m[i]?=some (.val (.slice ad n cap))/\0<=lo/\lo<=hi/\hi.toNat<=n/\(∀g,lo<hi->ad=some ⟨g,0,none⟩->ad'=some ⟨g,lo.toNat*z,none⟩)/\u=.slice ad' (hi.toNat-lo.toNat) (cap-lo.toNat)
 |.ptr i o,u=>∃b,m[i]?=some (.val (.pointer (some ⟨b,0,none⟩)))/\u=.pointer (some ⟨b,o,none⟩)
 |.rat i c t j x o,u=>∃g n cap l cs,m[i]?=some (.val (.slice (some ⟨g,0,none⟩) n cap))/\m[c]?=some (.cont t l cs)/\aa l j=some x/\u=.pointer (some ⟨g,j.toNat*t.size+o,none⟩)
 |.fsl i k,u=>∃b,m[i]?=some (.val (.pointer (some ⟨b,0,none⟩)))/\u=.slice (some ⟨b,0,none⟩) k k
 |.fsa i o k cap,u=>∃b,m[i]?=some (.val (.pointer (some ⟨b,0,none⟩)))/\u=.slice (some ⟨b,o,none⟩) k cap
 |.nlt t l neg,u=>∃q:Bool,u=.bool (q ^^ neg)/\(q=true->l=[])
 |.agg vs,u=>∃us:List Value,u=.agg us.toArray/\SV.relL m K vs us
 |.tup vs,u=>∃us:List Value,u=.tuple us.toArray/\SV.relL m K vs us
 |.fn f cs,u=>∃us:List Value,u=.func (.func f) #[] us.toArray/\SV.relL m K cs us
 |.is j v,u=>m[j]?=some (.val u)/\SV.rel m K v u
 |.yld i n vs ps ao bo,u=>∃l r ρ,u=.func (.yield l) #[] #[]/\m[i]?=some (.loop l r)/\r.tmps=frm n ρ/\r.params=ps/\r.assign=ao/\r.body=bo/\∀j,SV.rel m K (vs j) (ρ j)
 |.ifc t v,u=>∃w,u=.iface t w/\SV.rel m K v w
def SV.relL(m:List M)(K:Hp):List SV->List Value->Prop
 |[],us=>us=[]
 |v::vs,us=>∃u r,us=u::r/\SV.rel m K v u/\SV.relL m K vs r
end
def OT.form:(o:OT)->Value->o.tp.den->Prop
 |.row e a,v,l=>∃ad cap,v=.slice ad (W4 (α:=a.tp.den) l) cap/\(∀(h:W4 (α:=a.tp.den) l≠0),∃g,ad=some ⟨g,0,none⟩)
 |.box e a,v,x=>((x:Option a.tp.den)=none/\v=.pointer none)\/∃y b,(x:Option a.tp.den)=some y/\v=.pointer (some ⟨b,0,none⟩)
 |.obj n u,v,x=>((x:Option u.den)=none/\v=rQ n)\/∃y r,(x:Option u.den)=some y/\v=fq n r
 |.chn a,v,x=>((x:Option (Int×List a.tp.den))=none/\v=.chan none)\/∃y r,(x:Option (Int×List a.tp.den))=some y/\v=.chan (some r)
 |.lbx e a,v,x=>((x:Option a.tp.den)=none/\∃p,v=.pointer p)\/∃y b,(x:Option a.tp.den)=some y/\v=.pointer (some ⟨b,0,none⟩)
 |_,_,_=>False
def KOk(K0 K:Hp)(o:OT):Prop:=K0.cle K\/o.flat=true
theorem KOk.monoC{K0 K K':Hp}{o:OT}(h:KOk K0 K o)(hK:K.cle K'):KOk K0 K' o:=h.imp (fun h=>h.trans hK) id
theorem KOk.mono{K0 K K':Hp}{o:OT}(h:KOk K0 K o)(hK:K.le K'):KOk K0 K' o:=h.monoC hK.cle
theorem KOk.own{K0 K:Hp}{o:OT}(h:KOk K0 K o){cs:List Value}{x:o.tp.den}{h0:Hp}(k:o.own K0 cs x h0):o.own K cs x h0:=h.elim (fun h=>OT.own_monoC h o k) (fun h=>OT.own_flat o h k)
theorem KOk.is{K0 K:Hp}{t:Tp}(h:KOk K0 K (.dat t)){cs:List Value}{x:t.den}(k:Is K0 t cs x):Is K t cs x:=h.elim (fun h=>k.monoC h) (fun h=>Is.flat h k)
theorem KOk.els{K0 K:Hp}{t:Tp}(h:KOk K0 K (.dat t)){cs:List Value}{xs:List t.den}(k:Els K0 t cs xs):Els K t cs xs:=h.elim (fun h=>k.monoC h) (fun h=>Els.flat h k)
theorem KOk.refl{K:Hp}{o:OT}:KOk K K o:=.inl (Hp.cle_refl K)
theorem KOk.car{K0 K:Hp}{a b:OT}(h:KOk K0 K (.cons a b)):KOk K0 K a/\KOk K0 K b:=⟨h.imp id (fun h=>by simp only[OT.flat,Y1]at h;exact h.1),h.imp id (fun h=>by simp only[OT.flat,Y1]at h;exact h.2)⟩
def HA.ok(m:List M)(K:Hp):HA->Prop
 |.blk i c e cs=>∃b vs,m[i]?=some (.val (.pointer (some ⟨b,0,none⟩)))/\m[c]?=some (.cells vs)/\SV.relL m K cs vs
 |.row i c e t l n=>∃ad cap cs,m[i]?=some (.val (.slice ad n cap))/\m[c]?=some (.cont t l cs)/\Els K t cs l/\l.length=n/\n<=cap/\cap<=maxLen/\(l≠[]->∃g,ad=some ⟨g,0,none⟩)
 |.bld i l=>∃b,m[i]?=some (.val (.pointer (some ⟨b,0,none⟩)))
 |.od i c o x=>∃v K0,m[i]?=some (.val v)/\m[c]?=some (.hp K0)/\KOk K0 K o/\o.form v x
 |.hole i c e o l j cs=>∃ad cap K0 es,m[i]?=some (.val (.slice ad l.length cap))/\m[c]?=some (.hol K0 es)/\KOk K0 K o/\SV.relL m K cs es/\0<=j/\j.toNat<l.length/\es.length=o.tp.size/\∃g,ad=some ⟨g,0,none⟩
 |.lp i s=>∃l r,m[i]?=some (.loop l r)
def LpA(l:Nat)(r:Loop):ah:=fun h=>h=one l (.loop r)
def LSt.cr(s:LSt)(r:Loop):Loop:=match s with
 |.ready=>{ r with state:=.ready,pending:=none }
 |.ret=>{ r with state:=.done,pending:=some .ret }
 |.exit id=>{ r with state:=.done,pending:=some (.exit id) }
def HA.conc[BldA](m:List M):HA->ah
 | .blk i c e cs=>match m[i]?,m[c]? with
   |some (.val (.pointer (some ⟨b,_,_⟩))),some (.cells vs)=>Cl b e vs
   |_,_=>emp
 | .row i c e t l n=>match m[i]?,m[c]? with
   |some (.val v),some (.cont _ _ cs)=>Rw e t.size v n cs
   |_,_=>emp
 | .bld i l=>match m[i]? with
   |some (.val (.pointer (some ⟨b,_,_⟩)))=>BldA.bat b l
   |_=>emp
 | .od i c o x=>match m[i]?,m[c]? with
   |some (.val v),some (.hp K0)=>o.own K0 [v] x
   |_,_=>emp
 | .hole i c e o l j cs=>match m[i]?,m[c]? with
   |some (.val v),some (.hol K0 es)=>fu K0 e o v l j.toNat es
   |_,_=>emp
 | .lp i s=>match m[i]? with
   |some (.loop l r)=>LpA l (s.cr r)
   |_=>emp
def kM(m:List M)(K:Hp):List (Nat×SV)->Value->Prop
 |[],v=>v=.tuple #[]
 |[(_,sv)],v=>SV.rel m K sv v
 |_,_=>False
def slR(m:List M)(K:Hp):List (Nat×SV)->List Value->Prop
 |[],us=>us=[]
 |p::vs,us=>∃u r,us=u::r/\SV.rel m K p.2 u/\slR m K vs r
def dM:(os:List Sh)->c8 os->Sh×List Dat
 |[],x=>fc0 x
 |[a],x=>(a,TL.list a.ts x)
 |a::b::r,.inl x=>(a,TL.list a.ts x)
 |a::b::r,.inr x=>dM (b::r) x
def dj[BldA](P:Program)(s:Spec):Prop:=∀(x:TL s.inn.ts) (r:c8 s.outs),s.fn x=some r ->
 ∀ vs u,s.inn.un (TL.list _ x) 0=some (vs,u)->∀ (m:List M) (K:Hp) (args:List Value),BldA.gk K->m.length=u.nx->(∀ a∈u.H,HA.ok m K a)->slR m K vs args ->
   Tr P s.f args.toArray K (u.H.map (HA.conc m)) (fun v K' L'=>∃vs' u' m',(dM s.outs r).1.un (dM s.outs r).2 u.nx=some (vs',u')/\m <+: m'/\m'.length=u'.nx /\
     (∀a∈u'.H,HA.ok m' K' a)/\kM m' K' vs' v/\L'=u'.H.map (HA.conc m'))
structure OkSpec[BldA](P:Program) where
 s:Spec
 ok:dj P s
 ent:Enters P s.f
section
section
variable {P:Program}{E:En}{n:Nat}{ρ:Sl0}{K:Hp}{L:List ah}{d:Nat}{t:TypeId}{pos:String}{af:Array Edge}{g:Option (Nat×Bool)}{x y c:Operand}{u v:Value}
theorem yS{z:Value}(h1:∀u∈z.cells.toList,u.oneCell'=true)(m:Nat)(hp:0<z.cells.size):∀u∈(Builtin.zeroCells z.cells m).toList,u.oneCell'=true:=by
 intro u hu;simp only[Builtin.zeroCells,dO0,Y7]at hu;obtain⟨i,_,rfl⟩:=hu;apply h1;have:i % z.cells.size<z.cells.size:=bM0 _ hp;rw[getElem!_pos z.cells _ this];exact Array.getElem_mem_toList _
theorem EG(w:World)(s tn ty e:TypeId)(i:TypeInfo)(z:Value)(kq kn:IntKind)(ht:P.underlying s=some (.slice e))(htn:P.underlying tn=some (.int kn))(hi:P.info? e=some i)(hz:i.zero=some z)(hsz:z.cells.size=i.size)
   (gb sLen sCap:Nat) (cur:Array Value) (hg:w.heap[gb]?=some (.cells cur e (0,0))) (k:Nat) (hs:0<i.size) (h1:∀u∈z.cells.toList,u.oneCell'=true) (h63:k<=9223372036854775807) (h48:k*i.bytes<=281474976710656)
   (hroom:sLen+k<=sCap) (h0:0<k) (hfit:(sLen+k)*i.size<=cur.size) :
   (Builtin.append_ #[s,tn] ty #[.slice (some ⟨gb,0,none⟩) sLen sCap,.int kq k]).run P w =
     .ok (.slice (some ⟨gb,0,none⟩) (sLen+k) sCap) (w.setRow gb (cur.toList.take (sLen*i.size)++(Builtin.zeroCells z.cells k).toList++cur.toList.drop (sLen*i.size+k*i.size)).toArray):=by
 have hw:IntKind.i64.wrap (k:Int)=k:=by rw[IntKind.wrap_i64];omega
 have h48i:¬ (281474976710656<(k:Int)*(i.bytes:Int)):=by rw[<- fy0];omega
 have hneg:¬ ((k:Int)<0):=by omega
 have hzl:(Builtin.zeroCells z.cells k).toList.length=k*i.size:=by rw[Y5,size_zeroCells,hsz]
 have hst:=run_storeCells_at P gb (sLen*i.size) e (Builtin.zeroCells z.cells k).toList 0 cur w hg (by rw[hzl,aD0,<- cz0];exact hfit) (yS h1 k (by rw[hsz];exact hs));simp only[aD0,hzl]at hst;have hns:¬ (k*i.size=0):=Nat.mul_ne_zero (by omega) (by omega);simp[Builtin.append_,run_underlying ht,run_underlying htn,sizeOf,typeInfo,zeroValue,hi,hz,asInt,asIntOf,hw,hneg,h48i,hroom,hns,Addr.add_lit,hst]
theorem yG(w:World)(s tn ty e:TypeId)(i:TypeInfo)(kq kn:IntKind)(ht:P.underlying s=some (.slice e))(htn:P.underlying tn=some (.int kn))(hi:P.info? e=some i)
   (b:Option Addr) (sLen sCap:Nat) (hroom:sLen<=sCap):(Builtin.append_ #[s,tn] ty #[.slice b sLen sCap,.int kq 0]).run P w=.ok (.slice b sLen sCap) w:=by
 have hw:IntKind.i64.wrap 0=0:=rfl;cases b <;> simp[Builtin.append_,run_underlying ht,run_underlying htn,sizeOf,typeInfo,hi,asInt,asIntOf,hw,hroom,storeCells]
theorem Iu{w:World}{s e ti ty:TypeId}{kn kq:IntKind}{z:Value}{sz bt m:Nat}{v:Value}{N:Nat}{cs:List Value}(hs:P.underlying s=some (.slice e))(hti:P.underlying ti=some (.int kn))(hi:Inf P e z sz bt)(hzs:z.cells.size=sz)(hpos:0<sz)(hbt:bt<=100000)
   (h1:∀u∈z.cells.toList,u.oneCell'=true) (ho:w.ownsRow 0 e sz v N cs) (hlen:N+m<=1073741824) :
   ∃v' w',(Builtin.append_ #[s,ti] ty #[v,.int kq m]).run P w=.ok v' w'/\w'.ownsRow 0 e sz v' (N+m) (cs++(Builtin.zeroCells z.cells m).toList)/\w.grownBy w' v.ownBlock/\(v'.ownBlock=v.ownBlock\/v'.ownBlock=some w.heap.size):=by
 obtain⟨i,i1,i2,i3,i4⟩:=hi.open;have hb:(N+m)*bt<=1073741824*100000:=cX0 hlen hbt;have hmb:m*bt<=(N+m)*bt:=aI0 _ (by omega);have hxl:cs.length=N*sz:=ho.1;have hzl:(Builtin.zeroCells z.cells m).toList.length=m*sz:=by rw[Y5,size_zeroCells,hzs]
 have hll:(cs++(Builtin.zeroCells z.cells m).toList).length=(N+m)*sz:=by rw[W3,hxl,hzl,cz0]
 have hml:N+m<=maxLen:=by unfold maxLen;omega
 have grown:∀(old:Nat),old<N+m->∀(row:Option Nat),
     (w.drew.alloc (.cells (cs.toArray++Builtin.zeroCells z.cells m++Builtin.zeroCells z.cells (grownCap w (N+m) old e-(N+m))) e)).ownsRow 0 e sz
       (.slice (some ⟨w.heap.size,0,none⟩) (N+m) (grownCap w (N+m) old e)) (N+m) (cs++(Builtin.zeroCells z.cells m).toList) /\
     w.grownBy (w.drew.alloc (.cells (cs.toArray++Builtin.zeroCells z.cells m++Builtin.zeroCells z.cells (grownCap w (N+m) old e-(N+m))) e)) row:=by
   intro old ho' row;have hge:=grownCap_ge w (N+m) old e;have hcm:grownCap w (N+m) old e<=maxLen:=grownCap_le_maxLen w (N+m) old e hml;refine⟨⟨hll,.inr ⟨w.heap.size,_,_,rfl,ah0 _,heap_alloc_new w.drew _,hge,hcm,?_,?_⟩⟩,⟨rfl,rfl,rfl,by simp,fun k hk _=>heap_alloc_old w.drew _ (by simpa using hk)⟩⟩
   . simp only[fe0,aV0,size_zeroCells,hxl,hzs];rw[<- cz0,<- cz0];congr 1;omega
   . simp only[eN0,X1];rw[<- X1,<- hll];exact List.take_left
 rcases ho.2 with⟨rfl,rfl⟩|⟨gb,cap,cur,rfl,hbg,hg,hnc,hcm,hcs,htake⟩
 . obtain rfl:cs=[]:=List.eq_nil_of_length_eq_zero (by simpa using hxl);by_cases hm:m=0
   . subst hm;refine⟨.slice none 0 0,w,yG w s ti ty e i kq kn hs hti i1 none 0 0 (X3 _),?_,⟨rfl,rfl,rfl,X3 _,fun _ _ _=>rfl⟩,.inl rfl⟩;have:Builtin.zeroCells z.cells 0 = #[]:=by simp[Builtin.zeroCells]
     rw[this];exact World.ownsRow_nil w 0 e sz
   . have hr:=Lib.run_append_nil_zeros (P:=P) w s ti ty e i z kq kn hs hti i1 i2 m (by omega) (by omega) (by omega) (by rw[i4];omega);have hgr:=grown 0 (by omega) (Value.ownBlock (.slice none 0 0));simp only[Y8,aH0,Array.empty_append]at hgr ⊢;exact⟨_,_,hr,hgr.1,hgr.2,.inr rfl⟩
 . by_cases hm:m=0
   . subst hm;refine⟨_,w,yG w s ti ty e i kq kn hs hti i1 _ N cap hnc,?_,⟨rfl,rfl,rfl,X3 _,fun _ _ _=>rfl⟩,.inl rfl⟩;have:Builtin.zeroCells z.cells 0 = #[]:=by simp[Builtin.zeroCells]
     rw[this];simpa using ho
   . by_cases hroom:N+m<=cap
     . have hr:=EG (P:=P) w s ti ty e i z kq kn hs hti i1 i2 (by rw[hzs,i3]) gb N cap cur hg m (by omega) h1 (by omega) (by rw[i4];omega) hroom (by omega) (by rw[i3,hcs];exact aI0 _ hroom);refine⟨_,_,hr,⟨hll,.inr ⟨gb,cap,_,rfl,hbg,setRow_heap w gb cur _ e _ hg,hroom,hcm,?_,?_⟩⟩,⟨rfl,rfl,rfl,by simp,fun k _ hk=>setRow_other w gb k _ (fun e=>hk (by simp[Value.ownBlock,e]))⟩,.inl rfl⟩
       . have hle:(N+m)*sz<=cap*sz:=aI0 _ hroom;rw[cz0]at hle;simp only[aV0,W3,X4,W8,hzl,i3];rw[Y5];omega
       . rw[i3,htake,<- hll];exact List.take_left
     . have holds:∀j u,cs[j]?=some u->w.cell? ((⟨gb,0,none⟩:Addr).add j)=some u:=ho.cells (g:=gb) rfl
       have hfo:=run_firstCells_some (P:=P) w.drew i.size N ⟨gb,0,none⟩ N cap cs (by rw[i3];exact hxl) (by simpa using holds);have hr:=Lib.run_append_grow_zeros (P:=P) w s ti ty e i z kq kn hs hti i1 i2 (some ⟨gb,0,none⟩) N cap cs hfo m (by omega) (by omega) (by omega) (by omega) (by rw[i4];omega) (by rw[i4];exact growslice_fits (by omega) (by omega));have hgr:=grown cap (by omega) (Value.ownBlock (.slice (some ⟨gb,0,none⟩) N cap));exact⟨_,_,hr,hgr.1,hgr.2,.inr rfl⟩
theorem uq{z:Value}(hp:0<z.cells.size)(m:Nat):(Builtin.zeroCells z.cells m).toList=zrow m z.cells.toList:=by
 have e:=ka z.cells hp m;unfold madeCells at e;have h2:(zrow m z.cells.toList).toArray.toList=zrow m z.cells.toList:=rfl;rw[<- h2,<- e];unfold Builtin.zeroCells;rfl
theorem A.appZ{s e ti:TypeId}{kn kq:IntKind}{z:Value}{sz bt:Nat}{len:Int}{K0:Hp}{ty:Tp}{x0:ty.den}{xs ys:List ty.den}(hs:P.underlying s=some (.slice e))(hti:P.underlying ti=some (.int kn))(hi:Inf P e z sz bt)(hty:ty.size=sz)(hz0:Is K0 ty z.cells.toList x0)(hzs:z.cells.size=sz)(hpos:0<sz)(hbt:bt<=100000)
   (hx:ev n ρ x=v) (hy:ev n ρ y=.int kq len) (hm:mk len len x0=some ys) {zs:List ty.den} (hz:Go.Proofs.YtpnmnbfbcgkcjaaGreatDoor.app xs ys=some zs) :
   Ao P E n ⟨some d,.call ⟨.builtin .append,#[x,y],#[s,ti]⟩,t,pos,af,g⟩ ρ K (Row K0 e ty v xs::L) (fun ρ' K' L'=>∃v',ρ'=upd ρ d v'/\K=K'/\L'=Row K0 e ty v' zs::L) :=
 Ao.of rfl (fun w hsep=>by
   obtain⟨hlen,rfl⟩:=jV hz;obtain⟨m0,_,_,rfl⟩:=m4 hm;obtain⟨m,rfl⟩:=W6 m0;have hsep':=hsep;obtain⟨h,⟨cs,h1,h2⟩,h3,h4⟩:=hsep;have hown:=h2.owns (w:=w) (fun n o e=>h4.sub n o (Hp.join_right e (h3 n o e)));rw[hty]at hown;rw[X9]at hlen;obtain⟨v',w',r1,r2,r3,r5⟩:=Iu (P:=P) (w:=w) (ty:=t) (kq:=kq) (m:=m) hs hti hi hzs hpos hbt hz0.one' hown (by simpa using hlen);rw[uq (by omega)]at r2;refine⟨v',w',K,_,?_,hsep'.grown (K1:=K0) (by rw[W3,X9]) (by rw[hty];exact r2) (h1.app (Els.zrow hz0 m)) r3 r5,v',rfl,rfl,rfl⟩;simp[execOp,resolve,invoke,builtin,hx,hy,r1])
end
end
section
mutual
def SV.ren(φ:Nat->Nat):SV->SV
 |.own i=>.own (φ i)
 |.ptr i o=>.ptr (φ i) o
 |.rat i c t j x o=>.rat (φ i) (φ c) t j x o
 |.fsl i m=>.fsl (φ i) m
 |.fsa i o m cap=>.fsa (φ i) o m cap
 |.agg vs=>.agg (SV.renL φ vs)
 |.tup vs=>.tup (SV.renL φ vs)
 |.fn f cs=>.fn f (SV.renL φ cs)
 |.is j v=>.is (φ j) (v.ren φ)
 |.hat i o j off=>.hat (φ i) o j off
 |.prt i z lo hi=>.prt (φ i) z lo hi
 |.yld _ _ _ _ _ _=>.any
 |.ifc t v=>.ifc t (v.ren φ)
 |v=>v
def SV.renL(φ:Nat->Nat):List SV->List SV
 |[]=>[]
 |v::vs=>v.ren φ::SV.renL φ vs
end
def HA.ren(φ:Nat->Nat):HA->HA
 |.blk i c e cs=>.blk (φ i) (φ c) e (SV.renL φ cs)
 |.row i c e t l n=>.row (φ i) (φ c) e t l n
 |.bld i l=>.bld (φ i) l
 |.od i c o x=>.od (φ i) (φ c) o x
 |.hole i c e o l j cs=>.hole (φ i) (φ c) e o l j (SV.renL φ cs)
 |.lp i s=>.lp (φ i) s
def gN(i:Nat)(t:Tp)(l:List t.den)(n:Nat):SV->Option SV
 |.own j=>bif Y3 j i then some (.row t l n)else none
 |_=>none
def fG(i:Nat)(t:Tp)(x:t.den):SV->Option SV
 |.ptr j o=>bif Y3 j i then some (.kat t x o)else none
 |_=>none
def svF(i:Nat)(w:SV):SV->Option SV
 |.own j=>bif Y3 j i then some w else none
 |_=>none
def OT.kn:(o:OT)->o.tp.den->Option SV
 |.row e (.one (.dat t)),l=>some (.row t l (W4 (α:=t.den) l))
 |.row e a,l=>some (.row a.tp l (W4 (α:=a.tp.den) l))
 |.box e a,x=>some (.pk a.tp x)
 |_,_=>none
structure OdR where
 c:Nat
 o:OT
 x:o.tp.den
def HA.odR(i:Nat):HA->Option OdR
 |.od j c o x=>bif Y3 j i then some ⟨c,o,x⟩else none
 |_=>none
def Zt.per(σ:Zt)(i:Nat):Option Zt:=match pick (HA.rowR i) σ.H with
 |some (q,H)=>bif aO0 0 q.t.size then some ⟨σ.base,bc (gN i q.t q.l q.n) σ.top,H.map (HA.sub (gN i q.t q.l q.n)),σ.Hf,σ.nx,false⟩else none
 | none=>match pick (HA.odR i) σ.H with
   | some (q,H)=>bif q.o.pos then (match OT.kn q.o q.x with
     |some w=>some ⟨σ.base,bc (svF i w) σ.top,H.map (HA.sub (svF i w)),σ.Hf,σ.nx,false⟩
     |none=>none)else none
   |none=>none
def Zt.opn{R:Type}(σ:Zt)(i:Nat)(j:Int)(k:Zt->Option R):Option R:=match pick (HA.rowsR i) σ.H with
 | some (q,H)=>(aa q.l j).bind fun x=>(match OT.ex q.c q.o x (σ.nx + 1) with
   |(vs,Hn,nx)=>k ⟨σ.base,σ.top,.hole i σ.nx q.e q.o q.l j vs::(Hn++H),σ.Hf,nx,σ.kq⟩)
 |none=>none
def Zt.opb{R:Type}(σ:Zt)(i:Nat)(k:Zt->Option R):Option R:=match pick (HA.boxR i) σ.H with
 | some (q,H)=>q.x.bind fun y=>(match OT.ex q.c q.o y (σ.nx + 1) with
   |(vs,Hn,nx)=>k ⟨σ.base,bc (svF i (.ptr i 0)) σ.top,.blk i σ.nx q.e vs::(Hn++H.map (HA.sub (svF i (.ptr i 0)))),σ.Hf,nx,σ.kq⟩)
 |none=>none
def Zt.opl{R:Type}(σ:Zt)(i:Nat)(k:Zt->Option R):Option R:=match pick (HA.lbxR i) σ.H with
 | some (q,H)=>q.x.bind fun y=>(match OT.ex q.c q.o y (σ.nx + 1) with
   |(vs,Hn,nx)=>k ⟨σ.base,bc (svF i (.ptr i 0)) σ.top,.blk i σ.nx q.e vs::(Hn++H.map (HA.sub (svF i (.ptr i 0)))),σ.Hf,nx,σ.kq⟩)
 |none=>σ.opb i k
def OT.dead(i c:Nat)(e:TypeId)(j:Nat)(cs:List SV):(o:OT)->List o.tp.den->Option HA
 | .lbx e' a,l=>(match cs with
   |[.ptr _ _]=>some (.od i c (.row e (.lbx e' a)) (l.set j (none:Option a.tp.den)))
   |_=>none)
 |_,_=>none
def OT.lax(i c:Nat)(e:TypeId):(o:OT)->List o.tp.den->Option HA
 |.box e' a,l=>some (.od i c (.row e (.lbx e' a)) l)
 |_,_=>none
def Zt.cld(σ:Zt)(i:Nat):Option Zt:=match pick (HA.holR i) σ.H with
 | some (q,H)=>(match OT.dead i σ.nx q.e q.j.toNat q.cs q.o q.l with
   |some a=>some ⟨σ.base,σ.top,a::H,σ.Hf,σ.nx+1,σ.kq⟩
   |none=>none)
 | none=>match pick (HA.rowsR i) σ.H with
   | some (q,H)=>(match OT.lax i σ.nx q.e q.o q.l with
     |some a=>some ⟨σ.base,σ.top,a::H,σ.Hf,σ.nx+1,σ.kq⟩
     |none=>none)
   |none=>none
def Zt.cls(σ:Zt)(i:Nat):Option Zt:=match pick (HA.holR i) σ.H with
 | some (q,H)=>(match OT.col q.o (SV.stL q.cs) H with
   |some (y,[],H)=>some ⟨σ.base,σ.top,.od i σ.nx (.row q.e q.o) (q.l.set q.j.toNat y)::H,σ.Hf,σ.nx+1,σ.kq⟩
   |_=>none)
 | none=>match pick (HA.rowR i) σ.H with
   |some (q,H)=>some ⟨σ.base,σ.top,.od i σ.nx (.row q.e (.one (.dat q.t))) q.l::H,σ.Hf,σ.nx+1,σ.kq⟩
   |none=>none
def Zt.intAt(σ:Zt)(d:Nat):Option Int:=match (σ.get d).st with|.int _ j=>some j|_=>none
def Zt.perb(σ:Zt)(i:Nat)(t:Tp):Option Zt:=match pick (HA.blkR i) σ.H with
 |some (q,H)=>(match dt t q.cs with|some (x,[])=>some ⟨σ.base,bc (fG i t x) σ.top,H.map (HA.sub (fG i t x)),σ.Hf,σ.nx,false⟩|_=>none)
 |none=>none
def Zt.mc(σ:Zt)(i q:Nat):Option Zt:=match pick (HA.blkR i) σ.H with
 |some (b,H)=>(match b.cs[q]? with|some v=>some ⟨σ.base,σ.top,.blk i b.c b.e (b.cs.set q (.is σ.nx v))::H,σ.Hf,σ.nx+1,σ.kq⟩|none=>none)
 |none=>none
def Zt.mcs:List (Nat×Nat)->Zt->Option Zt
 |[],σ=>some σ
 |p::r,σ=>match σ.mc p.1 p.2 with|some σ=>Zt.mcs r σ|none=>none
def Zt.ms(σ:Zt)(d:Nat):Zt:=⟨σ.base,(d,.is σ.nx (σ.get d))::σ.top,σ.H,σ.Hf,σ.nx+1,σ.kq⟩
def SV.mkOf(i:Nat):SV->Option SV
 |.is j v=>bif Y3 j i then (match v with|.any=>none|v=>some v)else none
 |_=>none
def HA.mkOf(i:Nat):HA->Option SV
 |.blk _ _ _ cs=>aX (SV.mkOf i) cs
 |.hole _ _ _ _ _ _ cs=>aX (SV.mkOf i) cs
 |_=>none
def Zt.mark(σ:Zt)(i:Nat):Option SV:=match aX (fun p=>SV.mkOf i (σ.get p.1)) σ.top with
 |some v=>some v
 |none=>aX (HA.mkOf i) (σ.H++σ.Hf)
def bR(σ:Zt):SV->Option SV
 |.is i v=>(match v with|.any=>(match σ.mark i with|some w=>some (.is i w)|none=>none)|_=>none)
 |_=>none
variable [BldA]
structure ItFn(P:Program) where
 f:Nat
 fn:Func
 at_:P.funcs[f]?=some fn
 ent:Enters P f
inductive Hn(P:Program) where
 |nil
 |two (d:Nat) (a b:Hn P)
 |tw (d:Nat) (a b:Hn P)
 |sq (mk:List (Nat×Nat)) (s:Sh) (act:List Nat) (a b:Hn P)
 |sx (mk:List (Nat×Nat)) (s:Sh) (act:List Nat) (a b:Hn P)
 |pl (r:Hn P)
 |jn (mk:List (Nat×Nat)) (s:Sh) (act:List Nat) (a b:Hn P)
 |jx (mk:List (Nat×Nat)) (s:Sh) (act:List Nat) (a b:Hn P)
 |lp (s:Sh) (a:Hn P)
 |un (m:Nat) (r:Hn P)
 |per (i c:Nat) (r:Hn P)
 |perb (i c:Nat) (t:Tp) (r:Hn P)
 |mc (i q c:Nat) (r:Hn P)
 |ms (d:Nat) (r:Hn P)
 |wt (d:Nat) (r:Hn P)
 |cl (q:OkSpec P) (lend:List Nat) (r:Hn P)
 |c2 (q:OkSpec P) (lend:List Nat) (a b:Hn P)
 |gp (m:Nat) (r:Hn P)
 |gj (m:Nat) (s:Sh) (act:List Nat) (a b:Hn P)
 |mix (plan:List (List Nat×Nat)) (fin tail:List Nat) (act:List Nat) (r:Hn P)
 |opn (i d:Nat) (r:Hn P)
 |opb (i c:Nat) (r:Hn P)
 |cls (i c:Nat) (r:Hn P)
 |cld (i c:Nat) (r:Hn P)
 |opp (s:List Nat) (i d:Nat) (r:Hn P)
 |ot (o:OT) (r:Hn P)
 |cm (q:OkSpec P) (lend act:List Nat) (r:Hn P)
 |cm2 (q:OkSpec P) (lend act:List Nat) (a b:Hn P)
 |tr (t:MT) (s:Sh) (act:List Nat) (a b:Hn P)
 |tru (r:Hn P)
 |yl (q:Nat) (r:Hn P)
 |rg (q:ItFn P) (r:Hn P)
 |il (q:ItFn P) (r:Hn P)
variable {P:Program}{R:Type}
def HA.hasC(i c:Nat):HA->Bool
 |.blk j c' _ _=>Y3 j i&&Y3 c' c
 |.row j c' _ _ _ _=>Y3 j i&&Y3 c' c
 |.bld _ _=>false
 |.od j c' _ _=>Y3 j i&&Y3 c' c
 |.hole j c' _ _ _ _ _=>Y3 j i&&Y3 c' c
 |.lp _ _=>false
def Zt.hasC(σ:Zt)(i c:Nat):Bool:=σ.H.any (HA.hasC i c)
def Zt.hasS(σ:Zt)(d:Nat):Bool:=match look σ.top d with|some v=>(match v with|.any=>false|_=>true)|none=>false
def Zt.hasW(σ:Zt)(d:Nat):Bool:=σ.hasS d||(aT0 1000000 d&&aT0 d (1000000+σ.nx))
def noO(d:Nat):Nat:=bif aT0 1000000 d then d-1000000 else d
def Zt.hasO(σ:Zt)(d:Nat):Bool:=aT0 1000000 d||σ.hasS d
def aD:Hn P->Zt->(Hn P->Zt->Option R)->Option R
 |.per i c r,σ,k=>bif σ.hasC i c then (match σ.per i with|some σ=>aD r σ k|none=>none)else k (.per i c r) σ
 |.perb i c t r,σ,k=>bif σ.hasC i c then (match σ.perb i t with|some σ=>aD r σ k|none=>none)else k (.perb i c t r) σ
 |.mc i q c r,σ,k=>bif σ.hasC i c then (match σ.mc i q with|some σ=>aD r σ k|none=>none)else k (.mc i q c r) σ
 |.ms d r,σ,k=>bif σ.hasS d then aD r (σ.ms d) k else k (.ms d r) σ
 |.wt d r,σ,k=>bif σ.hasW d then aD r σ k else k (.wt d r) σ
 | .opn i d r,σ,k=>(match pick (HA.rowsR i) σ.H,σ.hasO d,σ.intAt (noO d) with
   |some _,true,some j=>σ.opn i j fun σ=>aD r σ k
   |_,_,_=>k (.opn i d r) σ)
 |.opb i c r,σ,k=>bif σ.hasC i c then σ.opl i fun σ=>aD r σ k else k (.opb i c r) σ
 |.cls i c r,σ,k=>bif σ.hasC i c then (match σ.cls i with|some σ=>aD r σ k|none=>none)else k (.cls i c r) σ
 |.cld i c r,σ,k=>bif σ.hasC i c then (match σ.cld i with|some σ=>aD r σ k|none=>none)else k (.cld i c r) σ
 |h,σ,k=>k h σ
def splice(cs:List SV)(o:Nat)(vs:List SV):List SV:=cs.take o++vs++cs.drop (o+vs.length)
def DO(P:Program)(e:TypeId):Bool:=match P.info? e with|some i=>(match i.zero with|some (.agg cs)=>(match cs.toList with|[.pointer none,.slice none 0 0]=>true|_=>false)|_=>false)|none=>false
def newB(σ:Zt)(d:Option Nat)(e:TypeId)(cs:List SV)(k:Zt->Option R):Option R:=match d with
 |some d=>k ⟨σ.base,(d,.ptr σ.nx 0)::σ.top,.blk σ.nx (σ.nx+1) e cs::σ.H,σ.Hf,σ.nx+2,σ.kq⟩
 |none=>none
def newR(σ:Zt)(d:Option Nat)(H:List HA)(e:TypeId)(t:Tp)(l:List t.den)(k:Zt->Option R):Option R:=match d with
 |some d=>k ⟨σ.base,(d,.own σ.nx)::σ.top,.row σ.nx (σ.nx+1) e t l l.length::H,σ.Hf,σ.nx+2,σ.kq⟩
 |none=>none
def cj(P:Program)(e:TypeId)(sz:Nat):Bool:=match P.info? e with|some i=>Y3 i.size sz&&aT0 i.bytes 100000&&aO0 0 sz&&(match i.zero with|some z=>Y3 z.cells.size sz|none=>false)|none=>false
def nJ(sz:Nat):List (List SV)->List (Nat×SV)->Option (List (List SV))
 |rs,[]=>some rs
 | rs,p :: r=>match p.2.cells with
   |some cs=>bif aO0 p.1 rs.length&&Y3 cs.length sz then nJ sz (rs.set p.1 cs) r else none
   |none=>none
def sf(t:Tp):List (List SV)->Option (List t.den)
 |[]=>some []
 | cs :: r=>match dt t cs,sf t r with
   |some (x,[]),some xs=>some (x::xs)
   |_,_=>none
def sF:List (List SV)->Option (List SV)
 |[]=>some []
 |[.fn f cs]::r=>(match sF r with|some l=>some (.fn f cs::l)|none=>none)
 |_=>none
def yv(P:Program)(e:TypeId):Bool:=match P.info? e with|some i=>Y3 i.size 1&&Y3 i.bytes 1&&(match i.zero with|some (.int .u8 0)=>true|_=>false)|none=>false
def DZ(P:Program)(σ:Zt)(H:List HA)(d:Option Nat)(e u:TypeId)(l:List Int)(s:List UInt8)(k:Zt->Option R):Option R:=match P.underlying u with
 |some .string=>bif yv P e then (app l (kT s)).bind fun z=>newR σ d H e (.int .u8) z k else none
 |_=>none
def appS(P:Program)(σ:Zt)(H:List HA)(d:Option Nat)(e s u:TypeId)(t:Tp)(l:List t.den)(y:SV)(k:Zt->Option R):Option R:=match y with
 |.str z=>(match t,l with|.int .u8,l=>DZ P σ H d e u l z k|_,_=>none)
 |.nils=>bif cj P e t.size&&Y3 s u then (app l []).bind fun z=>newR σ d H e t z k else none
 |.row t' l' _=>bif cj P e t.size&&Y3 s u then (match Tp.same t' t with|some h=>(app l (eJ h l')).bind fun z=>newR σ d H e t z k|none=>none)else none
 | .own j=>bif cj P e t.size&&Y3 s u then (match pick (HA.rowR j) H with
   |some (q,H)=>bif Y3 q.e e then (match Tp.same q.t t with|some h=>(app l (eJ h q.l)).bind fun z=>newR σ d H e t z k|none=>none)else none
   |none=>none)else none
 | .int _ c=>bif cj P e t.size then (match P.underlying u,eC P e with
   |some (.int _),some z=>(match dt t z with|some (x0,[])=>(mk c c x0).bind fun l'=>(app l l').bind fun z=>newR σ d H e t z k|_=>none)
   |_,_=>none)else none
 |_=>none
def sto(P:Program)(σ:Zt)(s:TypeId)(p:SV)(v:SV)(k:Zt->Option R):Option R:=match v.cells,bx P s with
 | some vs,some z=>bif Y3 vs.length z&&vs.all SV.leaf then (match p with
   | .ptr i o=>(match pick (HA.blkR i) σ.H with
     |some (q,H)=>bif aT0 (o+z) q.cs.length then k ⟨σ.base,σ.top,.blk i σ.nx q.e (splice q.cs o vs)::H,σ.Hf,σ.nx+1,σ.kq⟩else none
     |none=>none)
   | .rat i c t j x o=>(match pick (HA.rowR i) σ.H with
     | some (q,H)=>bif Y3 q.c c&&aT0 (o + z) t.size then (match Tp.same q.t t,dt t (splice (SV.lv t x) o (SV.stL vs)) with
       |some h,some (y,[])=>(some ((eJ h q.l).set j.toNat y)).bind fun zs=>k ⟨σ.base,σ.top,.row i σ.nx q.e t zs q.n::H,σ.Hf,σ.nx+1,σ.kq⟩
       |_,_=>none)else none
     |none=>none)
   | .hat i o j off=>(match pick (HA.holR i) σ.H with
     |some (q,H)=>(az j q.j).bind fun _=>bif aT0 (off+z) q.cs.length&&Y3 o.tp.size q.o.tp.size then k ⟨σ.base,σ.top,.hole i σ.nx q.e q.o q.l q.j (splice q.cs off vs)::H,σ.Hf,σ.nx+1,σ.kq⟩else none
     |none=>none)
   |_=>none)else none
 |_,_=>none
def sS(vs:List SV)(i:Nat):SV:=match vs[i]? with|some v=>v|none=>.any
def gO(bm:List (Nat×Nat))(nb nx j:Nat):Nat:=bif aO0 j nb then (match aB bm j with|some i=>i|none=>0)else nx+(j-nb)
mutual
def SV.kf:SV->Bool
 |.row _ _ _ |.pk _ _ |.kat _ _ _|.yld _ _ _ _ _ _=>false
 |.agg vs=>SV.kfL vs
 |.tup vs=>SV.kfL vs
 |.fn _ vs=>SV.kfL vs
 |.is _ v=>v.kf
 |.ifc _ v=>v.kf
 |_=>true
def SV.kfL:List SV->Bool
 |[]=>true
 |v::vs=>v.kf&&SV.kfL vs
end
def HA.kf:HA->Bool
 |.blk _ _ _ cs=>SV.kfL cs
 |.row _ _ _ t _ _=>t.flat
 |.bld _ _=>true
 |.od _ _ o _=>o.flat
 |.hole _ _ _ o _ _ cs=>o.flat&&SV.kfL cs
 |.lp _ _=>true
def gE(vs:List (Nat×SV))(H:List HA):Bool:=vs.all (fun p=>p.2.kf)&&H.all HA.kf
def after(nin:Nat)(σ:Zt)(H:List HA)(bm:List (Nat×Nat))(nb:Nat)(d:Option Nat)(ln:Bool)(o:Sh)(ds:List Dat)(k:Zt->Option R):Option R:=match o.un ds nin with
 | some (vs,u)=>bif ln&&!gE vs u.H then none else (match d,vs with
   |some d,[(_,v)]=>k ⟨σ.base,(d,(v.ren (gO bm nb σ.nx)).sub (bR σ))::σ.top,(u.H.map (HA.ren (gO bm nb σ.nx))).map (HA.sub (bR σ))++H,σ.Hf,σ.nx+(u.nx-nb),σ.kq&&gE vs u.H⟩
   |some d,[]=>k ⟨σ.base,(d,.tup [])::σ.top,(u.H.map (HA.ren (gO bm nb σ.nx))).map (HA.sub (bR σ))++H,σ.Hf,σ.nx+(u.nx-nb),σ.kq&&gE vs u.H⟩
   |none,_=>k ⟨σ.base,σ.top,(u.H.map (HA.ren (gO bm nb σ.nx))).map (HA.sub (bR σ))++H,σ.Hf,σ.nx+(u.nx-nb),σ.kq&&gE vs u.H⟩
   |_,_=>none)
 |none=>none
def Ej(nin:Nat)(σ:Zt)(H:List HA)(bm:List (Nat×Nat))(nb:Nat)(d:Option Nat)(ln:Bool)(os:List Sh)(r:c8 os)(h1 h2:Hn P)(k:Hn P->Zt->Option R):Option R:=match os,r with
 |[a],r=>after nin σ H bm nb d ln a (TL.list a.ts r) (k h1)
 | [a,b],r=>(match r with
   |.inl r=>after nin σ H bm nb d ln a (TL.list a.ts r) (k h1)
   |.inr r=>after nin σ H bm nb d ln b (TL.list b.ts r) (k h2))
 |_,_=>none
def eo:List Bk->Bool
 |[]=>true
 |b::r=>(match b.old with|none=>true|some _=>false)&&eo r
def slN:Nat->List (Nat×Kd)->Nat->Bool
 |j,[],m=>Y3 j m
 |j,p::r,m=>Y3 p.1 j&&slN (j+1) r m
def nf(n:Nat):List (Nat×Nat)->Bool
 |[]=>true
 |p::r=>aO0 p.2 n&&nf n r
def si(σ:Zt)(d:Option Nat)(vs:List SV)(H back:List HA)(ln em:Bool)(q:OkSpec P)(h1 h2:Hn P)(k:Hn P->Zt->Option R):Option R:=match q.s.inn.get (sS vs) H with
 | some g=>(match TL.of q.s.inn.ts g.ds,q.s.inn.un g.ds 0 with
   | some x,some (_,u)=>bif !nf σ.nx g.bm||(em&&!g.H.isEmpty)then none else (q.s.fn x).bind fun r=>Ej u.nx σ (g.H++back) g.bm q.s.inn.bl.length d ln q.s.outs r h1 h2 k
   |_,_=>none)
 |none=>none
def knB(P:Program)(i:Nat):HA->Option Dat
 | .blk j _ e cs=>bif Y3 j i then (match gM P 10 e with
   |some t=>(match dt t (SV.stL cs)with|some (x,[])=>some ⟨t,x⟩|_=>none)
   |none=>none)else none
 |_=>none
def dp (σ : Zt) (d : Option Nat) (ln : Bool) (am : Option (List Nat)) (q : OkSpec P) (h1 h2 : Hn P) (k : Hn P -> Zt -> Option R) : List Nat -> List SV -> List HA -> List HA -> List HA -> (HA -> HA) -> Option R
 | [],vs,H,_,back,Fh=>(match am with
   |none=>si σ d vs H back ln false q h1 h2 k
   |some act=>si σ d vs ((H.filter fun a=>act.contains a.id).map Fh) ((H.filter fun a=>!act.contains a.id)++back) ln true q h1 h2 k)
 | i :: is,vs,H,Hf,back,Fh=>match pick (HA.rowR i) H with
   |some (r,H)=>bif aO0 0 r.t.size then dp σ d ln am q h1 h2 k is (SV.subL (gN i r.t r.l r.n) vs) H Hf (.row i r.c r.e r.t r.l r.n::back) (fun a=>HA.sub (gN i r.t r.l r.n) (Fh a))else none
   | none => match pick (HA.rowR i) Hf with
     |some (r,Hf)=>bif aO0 0 r.t.size then dp σ d ln am q h1 h2 k is (SV.subL (gN i r.t r.l r.n) vs) H Hf back (fun a=>HA.sub (gN i r.t r.l r.n) (Fh a))else none
     | none => match pick (HA.odR i) H with
       | some (r,H)=>bif r.o.pos then (match OT.kn r.o r.x with
         |some w=>dp σ d ln am q h1 h2 k is (SV.subL (svF i w) vs) H Hf (.od i r.c r.o r.x::back) (fun a=>HA.sub (svF i w) (Fh a))
         |none=>none)else none
       | none=>match pick (HA.odR i) Hf with
         | some (r,Hf)=>bif r.o.pos then (match OT.kn r.o r.x with
           |some w=>dp σ d ln am q h1 h2 k is (SV.subL (svF i w) vs) H Hf back (fun a=>HA.sub (svF i w) (Fh a))
           |none=>none)else none
         | none=>match pick (HA.blkR i) H with
           | some (r,H)=>(match knB P i (Fh (.blk i r.c r.e r.cs)) with
             |some d0=>dp σ d ln am q h1 h2 k is (SV.subL (fG i d0.t d0.x) vs) H Hf (.blk i r.c r.e r.cs::back) (fun a=>HA.sub (fG i d0.t d0.x) (Fh a))
             |none=>none)
           | none=>match pick (HA.blkR i) Hf with
             | some (r,Hf)=>(match knB P i (Fh (.blk i r.c r.e r.cs)) with
               |some d0=>dp σ d ln am q h1 h2 k is (SV.subL (fG i d0.t d0.x) vs) H Hf back (fun a=>HA.sub (fG i d0.t d0.x) (Fh a))
               |none=>none)
             |none=>none
def eH(σ:Zt)(d:Option Nat)(f:Nat)(vs:List SV)(q:OkSpec P)(lend:List Nat)(am:Option (List Nat))(h1 h2:Hn P)(k:Hn P->Zt->Option R):Option R :=
 bif Y3 q.s.f f&&eo q.s.inn.bl&&slN 0 q.s.inn.sl vs.length then dp σ d (!lend.isEmpty||am.isSome) am q h1 h2 k lend vs σ.H σ.Hf [] (fun a=>a)else none
def kv(n:Nat)(o:Oper)(h:Hn P)(σ:Zt)(k:Hn P->Zt->Option R):Option R:=match o.dst with
 |some d=>vop P n true (σ.H++σ.Hf) σ o.op fun σ v=>k h (σ.set d v)
 |none=>none
def xE(P:Program)(σ:Zt)(d:Option Nat)(s u:TypeId)(x y:SV)(k:Zt->Option R):Option R:=match P.underlying s,x with
 | some (.slice e),.own i=>(match pick (HA.rowR i) σ.H with
   |some (q,H)=>bif Y3 q.e e then appS P σ H d e s u q.t q.l y k else none
   |none=>none)
 |some (.slice e),.nils=>(match gM P 10 e with|some t=>appS P σ σ.H d e s u t [] y k|none=>none)
 |_,_=>none
def qL(P:Program)(σ:Zt)(d:Option Nat)(e:TypeId)(k:Zt->Option R):Option R:=bif Y3 e BldA.t then (match d with
   |some d=>bif DO P e then k ⟨σ.base,(d,.ptr σ.nx 0)::σ.top,.bld σ.nx []::σ.H,σ.Hf,σ.nx+1,σ.kq⟩else none
   |none=>none)
 else match eC P e with|some cs=>newB σ d e cs k|none=>none
def rY (P:Program) (n:Nat) (σ:Zt) (d:Option Nat) (s:TypeId) (len:Nat) (ps:List (Nat×SV)) (k:Zt->Option R):Option R:=match P.underlying s with
 | some (.slice e)=>(match eC P e with
   | some z=>(match nJ z.length (Z2 len z) ps with
     | some cs=>(match sF cs,cs with
       |some fs,_::_=>bif cj P e 1&&aT0 len 16777216 then (match d with
           |some d=>k ⟨σ.base,(d,.fsl σ.nx len)::σ.top,.blk σ.nx (σ.nx+1) e fs::σ.H,σ.Hf,σ.nx+2,σ.kq⟩
           |none=>none)else none
       | _,_=>(match gM P 10 e with
         |some t=>bif cj P e t.size&&aT0 (len*t.size) 16777216 then (match sf t cs with|some l=>newR σ d σ.H e t l k|none=>none)else none
         |none=>none))
     |none=>none)
   |none=>none)
 |_=>none
def kc(P:Program)(σ:Zt)(d:Option Nat)(s:TypeId)(x y:SV)(k:Zt->Option R):Option R:=match P.underlying s,x,y with
 | some (.slice e),.int _ a,.int _ b=>(match eC P e,gM P 10 e with
   |some z,some t=>bif cj P e t.size then (match dt t z with|some (x0,[])=>(mk a b x0).bind fun l=>newR σ d σ.H e t l k|_=>none)else none
   |_,_=>none)
 |_,_,_=>none
def newO(σ:Zt)(d:Option Nat)(H:List HA)(e:TypeId)(o:OT)(l:List o.tp.den)(k:Zt->Option R):Option R:=match d with
 |some d=>k ⟨σ.base,(d,.own σ.nx)::σ.top,.od σ.nx (σ.nx+1) (.row e o) l::H,σ.Hf,σ.nx+2,σ.kq⟩
 |none=>none
def OT.z0:(o:OT)->List SV->Option (o.tp.den×List SV)
 |.dat t,vs=>dt t vs
 |.row e a,vs=>(match vs with|.nils::r=>some (([]:List a.tp.den),r)|_=>none)
 |.box e a,vs=>(match vs with|.nilp::r=>some ((none:Option a.tp.den),r)|_=>none)
 |.lbx _ _,_=>none
 | .chn a,vs=>(match vs with
   |.raw (.chan none)::r=>some ((none:Option (Int×List a.tp.den)),r)
   |_=>none)
 | .obj n u,vs=>(match vs with
   |.raw (.map none)::r=>bif Y3 n 0 then some ((none:Option u.den),r)else none
   |.raw (.chan none)::r=>bif Y3 n 0 then none else some ((none:Option u.den),r)
   |_=>none)
 |.one a,vs=>OT.z0 a vs
 | .cons a b,vs=>match OT.z0 a vs with
   |some (x,r)=>(match OT.z0 b r with|some (y,r)=>some ((x,y),r)|none=>none)
   |none=>none
def nr(σ:Zt)(d:Option Nat)(u:Tp)(k:Zt->Option R):Option R:=match d,u with
 |some d,.sl (.cons kt (.one (.int .i64)))=>k ⟨σ.base,(d,.own σ.nx)::σ.top,.od σ.nx (σ.nx+1) (.obj 0 (.sl (.cons kt (.one (.int .i64))))) (some ([]:List (kt.den×Int)))::σ.H,σ.Hf,σ.nx+2,σ.kq⟩
 |_,_=>none
def OT.colA(o:OT):List (List SV)->List HA->Option (List o.tp.den×List HA)
 |[],H=>some ([],H)
 | cs :: r,H=>match OT.col o (SV.stL cs) H with
   |some (x,[],H)=>(match OT.colA o r H with|some (xs,H)=>some (x::xs,H)|none=>none)
   |_=>none
def rm(P:Program)(σ:Zt)(d:Option Nat)(s:TypeId)(len:Nat)(ps:List (Nat×SV))(o:OT)(k:Zt->Option R):Option R:=match P.underlying s with
 | some (.slice e)=>(match eC P e with
   | some z=>(match nJ z.length (Z2 len z) ps with
     |some cs=>bif cj P e o.tp.size&&aT0 (len*o.tp.size) 16777216&&cs.all (fun c=>c.all SV.leaf)then (match OT.colA o cs σ.H with|some (l,H)=>newO σ d H e o l k|none=>none)else none
     |none=>none)
   |none=>none)
 |_=>none
def rf(P:Program)(σ:Zt)(d:Option Nat)(s:TypeId)(x y:SV)(o:OT)(k:Zt->Option R):Option R:=match P.underlying s,x,y with
 | some (.slice e),.int _ a,.int _ b=>(match eC P e with
   |some z=>bif cj P e o.tp.size then (match OT.z0 o z with|some (x0,[])=>(mk a b x0).bind fun l=>newO σ d σ.H e o l k|_=>none)else none
   |none=>none)
 |_,_,_=>none
def sY(P:Program)(σ:Zt)(d:Option Nat)(H:List HA)(e:TypeId)(o:OT)(l:List o.tp.den)(y:SV)(k:Zt->Option R):Option R:=match y with
 | .own j=>bif cj P e o.tp.size then (match pick (HA.odX j (.row e o)) H with
   |some (l',H)=>(app (l:List o.tp.den) (l':List o.tp.den)).bind fun z=>newO σ d H e o z k
   |none=>none)else none
 |_=>none
def wT(P:Program)(σ:Zt)(d:Option Nat)(s u:TypeId)(x y:SV)(o:OT)(k:Zt->Option R):Option R:=match P.underlying s,x with
 | some (.slice e),.own i=>bif Y3 s u then (match pick (HA.odX i (.row e o)) σ.H with
   |some (l,H)=>sY P σ d H e o l y k
   |none=>none)else none
 |some (.slice e),.nils=>bif Y3 s u then sY P σ d σ.H e o [] y k else none
 |_,_=>none
def sN:SV->Option (Nat×Int×Option Int)
 |.own i=>some (i,0,none)
 |.prt i z lo hi=>bif Y3 z 1 then some (i,lo,some hi)else none
 |_=>none
def sB(t:Tp)(i:Nat)(A:List HA):Option (List t.den):=match aX (HA.rowR i) A with
 |some q=>(match Tp.same q.t t with|some h=>some (eJ h q.l)|none=>none)
 |none=>none
def rD(t:Tp)(A:List HA):SV->Option (List t.den)
 |.nils=>some []
 |.row u l _=>(match Tp.same u t with|some h=>some (eJ h l)|none=>none)
 |.own i=>sB t i A
 |.prt i z lo hi=>bif !Y3 z 1 then none else (match sB t i A with|some l=>some ((l.take hi.toNat).drop lo.toNat)|none=>none)
 |_=>none
def cpy{α:Type}(xs:List α)(lo:Nat)(ys:List α):List α:=xs.take lo++(ys++xs.drop (lo+ys.length))
def bv(n:Nat):Option Int->Nat
 |none=>n
 |some h=>h.toNat
def xp(P:Program)(σ:Zt)(d:Option Nat)(s:TypeId)(x y:SV)(k:Zt->Option R):Option R:=match P.underlying s,sN x with
 | some (.slice e),some (i,lo,hi)=>(match pick (HA.rowR i) σ.H with
   | some (q,H)=>bif Y3 q.e e&&(cj P e 1&&Y3 q.t.size 1) then (match rD q.t (σ.H++σ.Hf) y with
     |some ys=>(some (cpy q.l lo.toNat (ys.take (bv q.n hi-lo.toNat)))).bind fun zs=>k ⟨σ.base,(match d with|some d=>[(d,.int .i64 ((min ys.length (bv q.n hi-lo.toNat):Nat):Int))]|none=>[])++σ.top,.row i σ.nx q.e q.t zs q.n::H,σ.Hf,σ.nx+1,σ.kq⟩
     |none=>none)else none
   |none=>none)
 |_,_=>none
def nE(P:Program)(σ:Zt)(d:Option Nat)(s:TypeId)(x y:SV)(k:Zt->Option R):Option R:=match P.underlying s,x,y with
 | some (.slice e),.own i,.int _ b=>(match pick (HA.rowR i) σ.H with
   |some (q,H)=>if bx P e=some q.t.size then (subL q.l 0 b).bind fun z=>newR σ d H q.e q.t z k else none
   |none=>none)
 |_,_,_=>none
def xx(P:Program)(σ:Zt)(d:Option Nat)(s:TypeId)(x:SV)(k:Zt->Option R):Option R:=match P.underlying s,x with
 | some (.slice e),.prt i z lo hi=>(match pick (HA.rowR i) σ.H,eC P e with
   | some (q,H),some zc=>bif (Y3 z 1&&Y3 q.e e)&&(cj P e 1&&Y3 q.t.size 1) then (match dt q.t zc with
     |some (x0,[])=>(some (cpy q.l lo.toNat (Z2 (hi.toNat-lo.toNat) x0))).bind fun zs=>k ⟨σ.base,(match d with|some d=>[(d,.tup [])]|none=>[])++σ.top,.row i σ.nx q.e q.t zs q.n::H,σ.Hf,σ.nx+1,σ.kq⟩
     |_=>none)else none
   |_,_=>none)
 |_,_=>none
def sA(P:Program)(σ:Zt)(d:Option Nat)(s:TypeId)(i j:Nat)(k:Zt->Option R):Option R:=match P.underlying s,d with
 | some (.pointer e),some d=>bif (match bx P e with | some z=>aO0 0 z | none=>false) then (bif Y3 i j then k (σ.set d (.bool true)) else (match pick (HA.blkR i) σ.H with
   |some (_,H)=>(match pick (HA.blkR j) H with|some _=>k (σ.set d (.bool false))|none=>none)
   |none=>none))else none
 |_,_=>none
def sW(P:Program)(σ:Zt)(d:Option Nat)(s:TypeId)(k:Zt->Option R):Option R:=match P.underlying s,d with
 |some (.pointer _),some d=>k (σ.set d (.bool false))
 |_,_=>none
def qO(P:Program)(σ:Zt)(d:Option Nat)(mt:TypeId)(x y z:SV)(k:Zt->Option R):Option R:=bif rT P mt then (match d,x,y,z with
 | none,.own i,.int .i64 c,.int .i64 v=>(match pick (HA.mapR i) σ.H with
   |some (q,H)=>q.bind fun l=>k ⟨σ.base,σ.top,.od i σ.nx (.obj 0 (.sl (.cons (.int .i64) (.one (.int .i64))))) (some (bI c v l))::H,σ.Hf,σ.nx+1,σ.kq⟩
   |none=>none)
 |_,_,_,_=>none)else none
def m9(P:Program)(σ:Zt)(d:Option Nat)(s:TypeId)(u:Tp)(x:SV)(k:Zt->Option R):Option R:=match d,u,x with
 | some d,.cons (.int .i64) (.one (.sl t)),.int _ c=>(match P.underlying s with
   | some (.chan _ e)=>(match P.info? e with
     |some i=>bif aT0 i.bytes 100000 then (mk c c ()).bind fun _=>k ⟨σ.base,(d,.own σ.nx)::σ.top,.od σ.nx (σ.nx+1) (.obj 1 (.cons (.int .i64) (.one (.sl t)))) (some ((c:Int),([]:List t.den)))::σ.H,σ.Hf,σ.nx+2,σ.kq⟩else none
     |none=>none)
   |_=>none)
 |_,_,_=>none
def nk(P:Program)(σ:Zt)(d:Option Nat)(s:TypeId)(a:OT)(x:SV)(k:Zt->Option R):Option R:=match d,x with
 | some d,.int _ c=>(match P.underlying s with
   | some (.chan _ e)=>(match P.info? e with
     |some i=>bif aT0 i.bytes 100000&&Y3 a.tp.size 1 then (mk c c ()).bind fun _=>k ⟨σ.base,(d,.own σ.nx)::σ.top,.od σ.nx (σ.nx+1) (.chn a) (some ((c:Int),([]:List a.tp.den)))::σ.H,σ.Hf,σ.nx+2,σ.kq⟩else none
     |none=>none)
   |_=>none)
 |_,_=>none
def DB(P:Program)(s:TypeId)(q:OT):Bool:=match P.underlying s with
 | some (.slice el)=>(match q with
   |.row e _=>(match P.underlying el with|some (.slice e')=>Y3 e e'|_=>false)
   |_=>true)
 |_=>true
def sb(P:Program)(t:TypeId)(nm:String)(f:Nat):Bool:=match P.info? t,P.underlying t with
 | some i,some d=>(match i.methods.find? (·.name == nm) with
   |some m=>m.path.isEmpty&&(match m.func with|some (g,p)=>Y3 g f&&(match d with|.pointer _=>p|_=>!p)|_=>false)
   |none=>false)
 |_,_=>false
def xt(P:Program)(t:TypeId)(nm:String)(f:Nat):Option TypeId:=match P.info? t,P.underlying t with
 | some i,some (.pointer e)=>(match i.methods.find? (·.name == nm) with
   |some m=>bif m.path.isEmpty&&(match m.func with|some (g,p)=>Y3 g f&&!p|_=>false)then some e else none
   |none=>none)
 |_,_=>none
def rU(n:Nat)(o:Oper)(xs:List Operand)(nm:String)(t:TypeId)(v:SV)(q:OkSpec P)(lend:List Nat)(a b:Hn P)(σ:Zt)(k:Hn P->Zt->Option R):Option R :=
 bif sb P t nm q.s.f then eH σ o.dst q.s.f (v::xs.map (σ.evr n)) q lend none a b k else match xt P t nm q.s.f with
   |some e=>load P (σ.H++σ.Hf) σ e v fun σ v=>eH σ o.dst q.s.f (v::xs.map (σ.evr n)) q lend none a b k
   |none=>none
def op1(n:Nat)(o:Oper)(h:Hn P)(σ:Zt)(k:Hn P->Zt->Option R):Option R:=match o.op with
 |.alloc e=>qL P σ o.dst e (k h)
 |.box e x=>(match (σ.evr n x).cells with|some cs=>newB σ o.dst e cs (k h)|none=>none)
 |.store s x y=>(match o.dst with|none=>der σ x (σ.evr n x) fun σ v=>sto P σ s v (σ.evr n y) (k h)|some _=>none)
 | .buildSlice s len ps=>(match h with
   |.ot q r=>rm P σ o.dst s len (ps.toList.map fun p=>(p.1,σ.ev n p.2)) q (k r)
   |h=>rY P n σ o.dst s len (ps.toList.map fun p=>(p.1,σ.ev n p.2)) (k h))
 | .makeMap s none=>(match h with
   |.ot (.obj 0 u) r=>nr σ o.dst u (k r)
   |_=>none)
 |.mapUpdate s x y z=>qO P σ o.dst s (σ.ev n x) (σ.ev n y) (σ.ev n z) (k h)
 | .makeChan s x=>(match h with
   |.ot (.obj 1 u) r=>m9 P σ o.dst s u (σ.ev n x) (k r)
   |.ot (.chn a) r=>nk P σ o.dst s a (σ.ev n x) (k r)
   |_=>none)
 | .binOp .eql s x y _=>(match σ.ev n x,σ.ev n y with
   |.ptr i 0,.ptr j 0=>sA P σ o.dst s i j (k h)
   |.nilp,.ptr _ 0=>sW P σ o.dst s (k h)
   |_,_=>kv n o h σ k)
 | .slice s x none (some y) none=>(match h with
   |.tru r=>nE P σ o.dst s (σ.ev n x) (σ.ev n y) (k r)
   |h=>kv n o h σ k)
 | .makeSlice s x y=>(match h with
   |.ot q r=>bif DB P s q then rf P σ o.dst s (σ.ev n x) (σ.ev n y) q (k r)else kc P σ o.dst s (σ.ev n x) (σ.ev n y) (k (.ot q r))
   |h=>kc P σ o.dst s (σ.ev n x) (σ.ev n y) (k h))
 | .call c=>(match c.callee,c.args.toList,c.argTypes.toList with
   | .builtin .append,[x,y],[s,u]=>(match o.dst with
     | some d=>(match h with
       |.ot q r=>wT P σ (some d) s u (σ.ev n x) (σ.ev n y) q (k r)
       |h=>xE P σ (some d) s u (σ.ev n x) (σ.ev n y) (k h))
     |none=>none)
   |.builtin .copy,[x,y],[s,_]=>xp P σ o.dst s (σ.ev n x) (σ.ev n y) (k h)
   |.builtin .clear,[x],[s]=>xx P σ o.dst s (σ.ev n x) (k h)
   | .value fo,xs,_=>(match σ.ev n fo with
     | .fn f cs=>(match h with
       |.cl q lend r=>eH σ o.dst f (xs.map (σ.evr n)++cs) q lend none r r k
       |.c2 q lend a b=>eH σ o.dst f (xs.map (σ.evr n)++cs) q lend none a b k
       |.cm q lend act r=>eH σ o.dst f (xs.map (σ.evr n)++cs) q lend (some act) r r k
       |.cm2 q lend act a b=>eH σ o.dst f (xs.map (σ.evr n)++cs) q lend (some act) a b k
       |_=>none)
     |_=>none)
   | .invoke x nm,xs,_=>(match σ.ev n x with
     | .ifc t v=>(match h with
       |.cl q lend r=>rU n o xs nm t v q lend r r σ k
       |.c2 q lend a b=>rU n o xs nm t v q lend a b σ k
       |_=>none)
     |_=>none)
   |_,_,_=>kv n o h σ k)
 |_=>kv n o h σ k
def aA(l:List Oper):List Nat:=l.filterMap (·.dst)
def b8:Code->List Nat
 |.region _ ops _=>aA ops.toList
 |.seq a b=>b8 a++b8 b
 |.cond _ a b=>b8 a++b8 b
 |.block _ b=>b8 b
 |.loop b=>b8 b
 |.scope b=>b8 b
 |_=>[]
def bU(H:List HA)(act:List Nat):List HA:=H.filter fun a=>!act.contains a.id
def only(H:List HA)(act:List Nat):List HA:=H.filter fun a=>act.contains a.id
def Zt.frz(σ:Zt)(act:List Nat):Zt:=⟨σ.get,[],only σ.H act,bU σ.H act++σ.Hf,σ.nx,true⟩
def rM(W:List Nat):List (Nat×SV)->Bool
 |[]=>true
 |p::r=>W.contains p.1&&rM W r
def Zt.pack(σ:Zt)(s:Sh)(W:List Nat):Option (TL s.ts):=bif rM W σ.top then (match s.get σ.get σ.H with|some g=>TL.of s.ts g.ds|none=>none)else none
def anys:List Nat->List (Nat×SV)
 |[]=>[]
 |i::r=>(i,.any)::anys r
def Zt.lay(σ:Zt)(s:Sh)(W:List Nat)(rest:List HA)(x:TL s.ts)(k:Zt->Option R):Option R:=match s.un (TL.list _ x) σ.nx with
 |some (vs,u)=>k ⟨σ.base,bc (bR σ) vs++(anys W++σ.top),u.H.map (HA.sub (bR σ))++rest,σ.Hf,u.nx,false⟩
 |none=>none
def Zt.thaw(σ σ':Zt)(rest:List HA)(W:List Nat):Zt:=⟨σ.base,σ'.top++(anys W++σ.top),σ'.H++rest,σ.Hf,σ'.nx,false⟩
def Hn.tk(d:Nat):Hn P->Option (Bool×Hn P×Hn P)
 |.two e a b=>bif Y3 e d then some (true,a,b)else none
 |.tw e a b=>bif Y3 e d then some (false,a,b)else none
 |_=>none
def Hn.tko(c:Operand)(h:Hn P):Option (Bool×Hn P×Hn P):=match c with|.tmp d=>Hn.tk d h|_=>none
def fx (n:Nat) (ops:Array Oper) (σ:Zt) (o:Oper) (h:Hn P) (run skip:Hn P->Zt->Option R):Option R:=match o.guard with
 |none=>run h σ
 | some (g,c)=>match (ops[g]?).bind (·.dst) with
   |none=>none
   | some d=>match σ.evr n (.tmp d) with
     |.raw (.tuple vs)=>bif vs.isEmpty then skip h σ else none
     | .bool b=>(match Hn.tk d h with
       |some (true,h1,h2)=>cond b (bif c then run h1 (σ.ref d (.bool true))else skip h1 (σ.ref d (.bool true))) (bif c then skip h2 (σ.ref d (.bool false))else run h2 (σ.ref d (.bool false)))
       |some (false,h1,h2)=>cond b (bif c then run h1 σ else skip h1 σ) (bif c then skip h2 σ else run h2 σ)
       |none=>cond b (bif c then run h σ else skip h σ) (bif c then skip h σ else run h σ))
     | .is j w=>(match w with
       | .bool b=>(match Hn.tk d h with
         |some (true,h1,h2)=>cond b (bif c then run h1 (σ.fix j (.bool true))else skip h1 (σ.fix j (.bool true))) (bif c then skip h2 (σ.fix j (.bool false))else run h2 (σ.fix j (.bool false)))
         |some (false,h1,h2)=>cond b (bif c then run h1 σ else skip h1 σ) (bif c then skip h2 σ else run h2 σ)
         |none=>cond b (bif c then run h σ else skip h σ) (bif c then skip h σ else run h σ))
       |_=>none)
     |_=>none
def iQ(d:Option Nat)(σ:Zt):Zt:=match d with|some d=>σ.set d (.raw undef)|none=>σ
def kU(n:Nat)(ops:Array Oper):List Oper->Hn P->Zt->(Hn P->Zt->Option R)->Option R
 |[],h,σ,k=>aD h σ k
 |o::rest,h,σ,k=>aD h σ fun h σ=>fx n ops σ o h (fun h σ=>aD h σ fun h σ=>op1 n o h σ fun h σ=>kU n ops rest h σ k) (fun h σ=>kU n ops rest h (iQ o.dst σ) k)
def gEq:Option (Nat×Bool)->Option (Nat×Bool)->Bool
 |none,none=>true
 |some a,some b=>Y3 a.1 b.1&&(a.2==b.2)
 |_,_=>false
def Dh(og:Option (Nat×Bool))(t:Nat):List Oper->Option Nat
 |[]=>none
 |o::r=>bif (match o.op with|.pick (.tmp u) _ _=>Y3 u t&&gEq o.guard og|_=>false)then some 0 else (match Dh og t r with|some m=>some (m+1)|none=>none)
def nv (P:Program) (n:Nat) (ops:Array Oper) (sp:(Nat×Bool)->List Oper->List Nat->Nat->Zt->(Zt->Option R)->Option R) (og:Option (Nat×Bool)) (l:List Oper) (m:Nat) (σ:Zt) (k:Zt->Option R):Option R:=match l,l.drop m with
 | o :: _,⟨some d,.pick (.tmp t) x y,_,_,_,pg⟩ :: _=>bif gEq pg og then (match o.guard with
   | some (g,c)=>(match (ops[g]?).bind (·.dst),σ.ev n (.tmp t) with
     | some t',.bool b=>bif Y3 t t'&&!(aA (l.take m)).contains t then sp (g,c) (l.take m) [] 0 σ fun σ1 =>
         match (bif c then σ1.ev n x else ((⟨σ.base,anys (aA (l.take m))++σ.top,σ.H,σ.Hf,σ.nx,σ.kq⟩:Zt).ev n x)),(bif c then ((⟨σ.base,anys (aA (l.take m))++σ.top,σ.H,σ.Hf,σ.nx,σ.kq⟩:Zt).ev n y)else σ1.ev n y)with
         |.bool p,.bool q=>k ⟨σ.base,(d,.bool (cond b p q))::(anys (aA (l.take m))++σ.top),σ.H,σ.Hf,σ.nx,σ.kq⟩
         |_,_=>none
       else none
     |_,_=>none)
   |none=>none)else none
 |_,_=>none
def fj (P:Program) (n:Nat) (ops:Array Oper) (sp:(Nat×Bool)->List Oper->List Nat->Nat->Zt->(Zt->Option R)->Option R) (g:Nat×Bool):List Oper->List Nat->Nat->Zt->(Zt->Option R)->Option R
 |[],_,_,σ,k=>k σ
 |_::r,seen,s+1,σ,k=>fj P n ops sp g r seen s σ k
 | o :: r,seen,0,σ,k=>match o.dst,o.guard with
   | some d,some g'=>bif Y3 g.1 g'.1&&(g.2 == g'.2) then vop P n true (σ.H++σ.Hf) σ o.op fun σ v=>fj P n ops sp g r (d :: seen) 0 (σ.set d v) k
     else (match (ops[g'.1]?).bind (·.dst)with
       | some t=>bif seen.contains t then (match Dh (some g) t (o :: r) with
         |some m=>nv P n ops sp (some g) (o::r) m σ fun σ'=>fj P n ops sp g r (aA ((o::r).take (m+1))++seen) m σ' k
         |none=>none)else none
       |none=>none)
   |_,_=>none
def sC(P:Program)(n:Nat)(ops:Array Oper):Nat->(Nat×Bool)->List Oper->List Nat->Nat->Zt->(Zt->Option R)->Option R
 |0=>fj P n ops (fun _ _ _ _ _ _=>none)
 |d+1=>fj P n ops (sC P n ops d)
def yh (P:Program) (n:Nat) (ops:Array Oper) (l:List Oper) (m:Nat) (σ:Zt) (k:Zt->Option R):Option R:=match l.drop m with
 | ⟨_, _, _, _, _, pg⟩ :: _ => (match pg with
   |none=>nv P n ops (sC P n ops 6) none l m σ k
   | some (g,c)=>(match (ops[g]?).bind (·.dst) with
     | some t=>(match σ.ev n (.tmp t) with
       |.bool b=>bif (b==c)&&!(aA (l.take (m+1))).contains t then nv P n ops (sC P n ops 6) (some (g,c)) l m σ k else none
       |_=>none)
     |none=>none))
 |[]=>none
def DR(ops:Array Oper)(h:Hn P)(l:List Oper):Bool :=
 match (match h with|.gp m _=>some m|.gj m _ _ _ _=>some m|_=>none),l with
 | some m,o :: r=>(match (o :: r).drop m,o.guard with
   |⟨_,.pick (.tmp t) _ _,_,_,_,_⟩::_,some (g,_)=>(match (ops[g]?).bind (·.dst)with|some t'=>Y3 t t'|none=>false)
   |_,_=>false)
 |_,_=>false
def cw(n:Nat)(ops:Array Oper)(sub:(R:Type)->List Oper->Hn P->Zt->(Hn P->Zt->Option R)->Option R):List Oper->Nat->Hn P->Zt->(Hn P->Zt->Option R)->Option R
 |[],_,h,σ,k=>aD h σ k
 |_::rest,s+1,h,σ,k=>cw n ops sub rest s h σ k
 | o :: rest,0,h,σ,k=>aD h σ fun h σ=>match (bif DR ops h (o :: rest) then h else .nil) with
   |.gp m r=>yh P n ops (o::rest) m σ fun σ=>cw n ops sub rest m r σ k
   |.gj m s act ha hb=>(sub _ ((o::rest).take (m+1)) ha (σ.frz act) (fun h σ'=>σ'.pack s (aA ((o::rest).take (m+1))))).bind fun x=>σ.lay s (aA ((o::rest).take (m+1))) (bU σ.H act) x fun σ=>cw n ops sub rest m hb σ k
   |_=>fx n ops σ o h (fun h σ=>aD h σ fun h σ=>op1 n o h σ fun h σ=>cw n ops sub rest 0 h σ k) (fun h σ=>cw n ops sub rest 0 h (iQ o.dst σ) k)
def xD(n:Nat)(ops:Array Oper):Nat->(R:Type)->List Oper->Hn P->Zt->(Hn P->Zt->Option R)->Option R
 |0=>fun R l h σ k=>kU n ops l h σ k
 |d+1=>fun R l h σ k=>cw n ops (xD n ops d) l 0 h σ k
def kP(n:Nat)(ops:Array Oper)(l:List Oper)(s:Nat)(h:Hn P)(σ:Zt)(k:Hn P->Zt->Option R):Option R:=cw n ops (xD n ops 4) l s h σ k
def fC(n:Nat)(l:List Oper):List Nat->Hn P->Zt->(Hn P->Zt->Option R)->Option R
 |[],h,σ,k=>k h σ
 | i :: is,h,σ,k=>match l[i]? with
   |some o=>fx n l.toArray σ o h (fun h σ=>match o.dst with|some d=>vop P n σ.kq σ.Hf σ o.op fun σ v=>fC n l is h (σ.set d v) k|none=>none) (fun h σ=>fC n l is h (iQ o.dst σ) k)
   |none=>none
def kI(n:Nat)(l:List Oper)(fin:List Nat):List (List Nat×Nat)->Hn P->Zt->(Hn P->Zt->Option R)->Option R
 |[],h,σ,k=>fC n l fin h σ k
 | (s,i) :: r,h,σ,k=>fC n l s h σ fun h σ=>aD h σ fun h σ=>match l[i]? with
   |some o=>fx n l.toArray σ o h (fun h σ=>aD h σ fun h σ=>op1 n o h σ fun h σ=>kI n l fin r h σ k) (fun h σ=>kI n l fin r h (iQ o.dst σ) k)
   |none=>none
def kF(n:Nat)(l:List Oper):Hn P->Zt->(Hn P->Zt->Option R)->Option R
 | .opp s i d r,σ,k=>fC n l s (Hn.nil:Hn P) (σ.frz []) fun _ σ1=>(match σ1.intAt d with
   |some j=>σ.opn i j fun σ=>kF n l r σ k
   |none=>none)
 |h,σ,k=>k h σ
def agr{α β:Type}(x y:α)(k:Option β):Option β:=@ite _ (x=y) (dh0 _) k none
theorem jU{α β:Type}(x:α)(k:Option β):agr x x k=k:=by unfold agr;rw[if_pos rfl]
def MT.over:MT->Bool
 |.done=>true
 |_=>false
def nD(n:Nat)(l:List Oper)(i:Nat)(h:Hn P)(σ:Zt)(k:Hn P->Zt->Option R):Option R:=aD h σ fun h σ=>match l[i]? with
 |some o=>fx n l.toArray σ o h (fun h σ=>aD h σ fun h σ=>op1 n o h σ k) (fun h σ=>k h (iQ o.dst σ))
 |none=>none
def fD(n:Nat)(l:List Oper):MT->Hn P->Zt->(Hn P->Zt->Option R)->Option R
 |.leaf fin,h,σ,k=>fC n l fin h σ k
 |.still s t,h,σ,k=>fC n l s h σ fun h σ=>fD n l t h σ k
 | .alt i t r,h,σ,k=>bif r.over then nD n l i h σ fun h σ=>fD n l t h σ k else (match h with
   |.two _ a b=>(nD n l i a σ fun h σ=>fD n l t h σ k).bind fun x=>(fD n l r b σ k).bind fun y=>agr x y (some x)
   |_=>none)
 |.done,_,_,_=>none
abbrev Rn(P:Program):=Nat->Code->(R:Type)->Hn P->Zt->(Exit->Hn P->Zt->Option R)->Option R
def sd:List Nat->List SV->(Nat->SV)->Nat->SV
 |p::ps,x::xs,f=>sd ps xs (fun j=>bif Y3 j p then x else f j)
 |_,_,f=>f
def Dy:Exit->Option (Bool×LSt)
 |.normal=>some (true,.ready)
 |.ret=>some (false,.ret)
 |.exit id=>some (false,.exit id)
 |_=>none
def w6 (J:Rn P) (σ:Zt) (c:SV) (xs:List SV) (h:Hn P) (k:Hn P->Zt->Bool->Option R):Option R:=match c with
 | .yld i n vs ps ao bo=>bif Y3 xs.length ps.size then (match pick (HA.lpR i) σ.H with
   | some (.ready,H)=>J n ao R h ⟨sd ps.toList xs vs,[],H,σ.Hf,σ.nx,false⟩ fun e h σ1=>match e with
     | .normal=>J n bo R h σ1 fun e h σ2=>(match Dy e with
       |some (b,s)=>k h ⟨σ.base,σ.top,.lp i s::σ2.H,σ.Hf,σ2.nx,false⟩ b
       |none=>none)
     |_=>none
   |_=>none)else none
 |_=>none
def slA:Nat->List SV->List (Nat×SV)
 |_,[]=>[]
 |j,v::r=>(j,v)::slA (j+1) r
def rI:Exit->Bool
 |.normal=>true
 |.ret=>true
 |_=>false
def Hn.unw{P:Program}:Hn P->Hn P
 |.wt d h=>bif Y3 d 999999 then h else .wt d h
 |h=>h
def CU(J:Rn P)(q:ItFn P)(f d:Nat)(vs:List SV)(h:Hn P)(σ:Zt)(k:Hn P->Zt->Option R):Option R:=match q.fn.body,q.fn.results.toList with
 |some c,[.tmp j]=>bif Y3 f q.f&&aT0 vs.length q.fn.ntmps then
     J q.fn.ntmps c R h ⟨fun _=>.any,slA 0 vs,σ.H,σ.Hf,σ.nx,false⟩ fun e h σ'=>bif rI e then k h.unw (Zt.set ⟨σ.base,σ.top,σ'.H,σ.Hf,σ'.nx,false⟩ d (σ'.ev q.fn.ntmps (.tmp j)))else none else none
 |_,_=>none
def yop(J:Rn P)(n:Nat)(o:Oper)(h:Hn P)(σ:Zt)(k:Hn P->Zt->Option R):Option R:=match o with
 | ⟨some d,.call ⟨.value c,args,_⟩,_,_,_,_⟩=>(match h with
   | .il q h=>(match σ.ev n c with
     |.fn f []=>CU J q f d (args.toList.map (σ.evr n)) h σ k
     |_=>none)
   |h=>w6 J σ (σ.ev n c) (args.toList.map (σ.evr n)) h fun h σ b=>k h (σ.set d (.bool b)))
 |_=>none
def LSt.go(s:LSt)(k:Exit->Hn P->Zt->Option R)(h:Hn P)(σ:Zt):Option R:=match s with
 |.ready=>k .normal h σ
 |.ret=>k .ret h σ
 |.exit id=>k (.exit id) h σ
def r6 (J:Rn P) (n:Nat) (g:Operand) (ps:Array Nat) (ao bo:Code) (h:Hn P) (σ:Zt) (k:Exit->Hn P->Zt->Option R):Option R:=match h with
 | .rg q h => (match σ.ev n g with
   | .fn f cs=>(match q.fn.body with
     | some c=>bif Y3 f q.f&&(q.fn.results.isEmpty&&aT0 (cs.length + 1) q.fn.ntmps) then
       J q.fn.ntmps c R h ⟨fun _=>.any,slA 0 (.yld σ.nx n σ.get ps ao bo::cs),.lp σ.nx .ready::σ.H,σ.Hf,σ.nx+1,false⟩ fun e h σ' =>
         bif rI e then (match pick (HA.lpR σ.nx) σ'.H with
           |some (s,H)=>LSt.go s k h ⟨σ.base,σ.top,H,σ.Hf,σ'.nx,false⟩
           |none=>none)else none
       else none
     |none=>none)
   |_=>none)
 |_=>none
section
variable (J:Rn P)(n:Nat)
def xZ(ops:Array Oper)(plan:List (List Nat×Nat))(fin tail act:List Nat)(h:Hn P)(σ:Zt)(k:Hn P->Zt->Option R):Option R :=
 bif P.follows .mixedOrders&&nI .any ops plan fin tail then kI n ops.toList fin plan h (σ.frz act) (fun h σ'=>kP n ops (bq ops.toList tail) 0 h (σ.thaw σ' (bU σ.H act) []) k)else none
def trS(ops:Array Oper)(t:MT)(s:Sh)(act:List Nat)(a b:Hn P)(σ:Zt)(k:Hn P->Zt->Option R):Option R :=
 bif P.follows .mixedOrders&&(Region.noSelect ops.toList.toArray&&mtB .any ops.toList.toArray [] true t ops.toList.length (bz0 ops.toList.length false))then
   (fD n ops.toList t a (σ.frz act) fun h σ'=>aD h σ' fun _ σ'=>σ'.pack s (s.sl.map (·.1)++aA ops.toList)).bind fun x=>σ.lay s (s.sl.map (·.1)++aA ops.toList) (bU σ.H act) x (k b)else none
def na(f:Hn P->Zt->(Exit->Hn P->Zt->Option R)->Option R)(k:Exit->Hn P->Zt->Option R):Nat->Hn P->Zt->Option R
 |0,_,_=>none
 |m+1,h,σ=>f h σ fun e h σ=>match e with|.normal=>na f k m h σ|e=>k e h σ
def kx(f:Hn P->Zt->(R:Type)->(Exit->Hn P->Zt->Option R)->Option R)(s:Sh)(act W:List Nat)(a b:Hn P)(σ:Zt)(k:Hn P->Zt->Option R):Option R :=
 (f a (σ.frz act) _ (fun e h σ'=>match e with|.normal=>aD h σ' fun _ σ'=>σ'.pack s W|_=>none)).bind fun x=>σ.lay s W (bU σ.H act) x (k b)
def kw(f:Hn P->Zt->(R:Type)->(Exit->Hn P->Zt->Option R)->Option R)(s:Sh)(act W:List Nat)(a b:Hn P)(σ:Zt)(k:Exit->Hn P->Zt->Option R):Option R :=
 (f a (σ.frz act) _ (fun e h σ'=>match e with|.normal=>aD h σ' fun _ σ'=>(σ'.pack s W).map dy0|e=>(k e h (σ.thaw σ' (bU σ.H act) [])).map dk0)).bind fun o=>match o with
   |.inr r=>some r
   |.inl x=>σ.lay s W (bU σ.H act) x (k .normal b)
def mZ(f:Hn P->Zt->(R:Type)->(Exit->Hn P->Zt->Option R)->Option R)(s:Sh)(W:List Nat)(g:Gt)(a:Hn P)(σ:Zt)(k:Exit->Hn P->Zt->Option R)(x:TL s.ts):Option (TL s.ts⊕R):=match s.un (TL.list s.ts x) σ.nx with
 | some (vs,u)=>f a ⟨fun i=>bif W.contains i then .any else σ.get i,bc (bR σ) vs,u.H.map (HA.sub (bR σ)),g.H++σ.Hf,u.nx,false⟩ _ fun e h σ'=>match e with
   |.normal=>aD h σ' fun _ σ'=>(σ'.pack s W).map dy0
   |e=>(k e h (σ.thaw σ' g.H W)).map dk0
 |none=>none
def rV(f:Hn P->Zt->(R:Type)->(Exit->Hn P->Zt->Option R)->Option R)(s:Sh)(W:List Nat)(a:Hn P)(σ:Zt)(k:Exit->Hn P->Zt->Option R):Option R:=match s.get σ.get σ.H with
 | some g=>(match TL.of s.ts g.ds with
   |some x0=>loop (mZ f s W g a σ k) x0
   |none=>none)
 |none=>none
def ke(k:Exit->Hn P->Zt->Option R)(f:Hn P->Zt->Option R)(e:Exit)(h:Hn P)(σ:Zt):Option R:=match e with|.normal=>f h σ|e=>k e h σ
def gB(id:Nat)(k:Exit->Hn P->Zt->Option R)(e:Exit)(h:Hn P)(σ:Zt):Option R:=match e with|.exit i=>bif Y3 i id then k .normal h σ else k (.exit i) h σ|e=>k e h σ
def Ck(k:Exit->Hn P->Zt->Option R)(e:Exit)(h:Hn P)(σ:Zt):Option R:=match e with|.goto _=>none|e=>k e h σ
def xC(c:Operand)(v:SV)(h:Hn P)(σ:Zt)(x y:Hn P->Zt->Option R):Option R:=match v with
 | .is j w=>(match w with
   | .bool t=>(match Hn.tko c h with
     |some (true,ha,hb)=>cond t (x ha (σ.fix j (.bool true))) (y hb (σ.fix j (.bool false)))
     |some (false,ha,hb)=>cond t (x ha σ) (y hb σ)
     |none=>cond t (x h σ) (y h σ))
   |_=>none)
 | .bool t=>(match Hn.tko c h,c with
   |some (true,ha,hb),.tmp d=>cond t (x ha (σ.ref d (.bool true))) (y hb (σ.ref d (.bool false)))
   |some (false,ha,hb),_=>cond t (x ha σ) (y hb σ)
   |_,_=>cond t (x h σ) (y h σ))
 | .nlt _ l ng=>(match Hn.tko c h with
   |some (_,ha,hb)=>bif ng then dS l (y hb σ) (x ha σ)else dS l (x ha σ) (y hb σ)
   |_=>none)
 |_=>none
def xY(ops:Array Oper)(h:Hn P)(σ:Zt)(k:Hn P->Zt->Option R):Option R:=match h with
 | .yl q r=>kP n ops (ops.toList.take q) 0 r σ fun h σ=>(match ops.toList.drop q with
   |o::rest=>fx n ops σ o h (fun h σ=>yop J n o h σ fun h σ=>kP n ops rest 0 h σ k) (fun h σ=>kP n ops rest 0 h (iQ o.dst σ) k)
   |[]=>none)
 |h=>kP n ops ops.toList 0 h σ k
def exec(c:Code){R:Type}(h:Hn P)(σ:Zt)(k:Exit->Hn P->Zt->Option R):Option R:=match c with
 |.skip=>k .normal h σ
 |.ret=>k .ret h σ
 |.exit id=>k (.exit id) h σ
 |.label _=>k .normal h σ
 |.scope b=>exec b h σ (Ck k)
 |.region _ ops draw=>bif !ops.toList.all cy then none else bif draw then aD h σ fun h σ=>kF n ops.toList h σ fun h σ=>(match h with|.mix plan fin tail act r=>xZ n ops plan fin tail act r σ (k .normal)|.tr t s act a b=>trS n ops t s act a b σ (k .normal)|_=>none)else aD h σ fun h σ=>xY J n ops h σ (k .normal)
 | .seq a b=>(match h with
   |.sq mk s act ha hb=>(match Zt.mcs mk σ with|some σ=>kx (fun h σ R k=>exec a h σ k) s act (s.sl.map (·.1)++b8 a) ha hb σ (fun h σ=>exec b h σ k)|none=>none)
   |.sx mk s act ha hb=>(match Zt.mcs mk σ with|some σ=>kw (fun h σ R k=>exec a h σ k) s act (s.sl.map (·.1)++b8 a) ha hb σ (ke k (fun h σ=>exec b h σ k))|none=>none)
   |.pl h=>exec a h σ (ke k (fun h σ=>exec b h σ k))
   |h=>exec a h σ (ke k (fun h σ=>exec b h σ k)))
 |.cond c a b=>aD h σ fun h σ=>xC c (σ.evr n c) h σ (fun h σ=>exec a h σ k) (fun h σ=>exec b h σ k)
 | .block id b=>(match h with
   |.jn mk s act ha hb=>(match Zt.mcs mk σ with|some σ=>kx (fun h σ R k=>exec b h σ (gB id k)) s act (s.sl.map (·.1)++b8 b) ha hb σ (k .normal)|none=>none)
   |.jx mk s act ha hb=>(match Zt.mcs mk σ with|some σ=>kw (fun h σ R k=>exec b h σ (gB id k)) s act (s.sl.map (·.1)++b8 b) ha hb σ k|none=>none)
   |h=>exec b h σ (gB id k))
 | .loop b=>aD h σ fun h σ=>(match h with
   |.un m r=>na (fun h σ k=>exec b h σ k) k m r σ
   |.lp s ha=>rV (fun h σ R k=>exec b h σ k) s (s.sl.map (·.1)++b8 b) ha σ k
   |_=>none)
 |.rangeFunc g ps ao bo=>aD h σ fun h σ=>r6 J n g ps ao bo h σ k
 |_=>none
end
def xL:Nat->Rn P
 |0=>fun _ _ _ _ _ _=>none
 |d+1=>fun n c R h σ k=>exec (xL d) n c h σ k
end
section
theorem aq{m m':List M}(h:m <+: m'){i:Nat}{x:M}(k:m[i]?=some x):m'[i]?=some x:=by
 obtain⟨r,rfl⟩:=h;rw[V6 (V4.1 k).1];exact k
mutual
theorem SV.monoC{m m':List M}{K K':Hp}(hm:∀(i:Nat) (x:M),m[i]?=some x->m'[i]?=some x)(hK:K.cle K'):∀(sv:SV) {v:Value},SV.rel m K sv v->SV.rel m' K' sv v
 |.any,v,h=>trivial
 |.raw _,v,h=>h
 |.int _ _,v,h=>h
 |.bool _,v,h=>h
 |.str _,v,h=>h
 |.nilp,v,h=>h
 |.nils,v,h=>h
 |.row t l n,v,h=>⟨h.1.monoC hK,h.2⟩
 |.pk t x,v,h=>Is.monoC hK (t:=.ptr t) h
 |.kat t x o,v,⟨b,o0,h1,h2⟩=>⟨b,o0,h1,h2.monoC hK⟩
 |.own i,v,h=>⟨hm _ _ h.1,h.2⟩
 |.hat i o j off,v,⟨g,n,cap,h1,h2⟩=>⟨g,n,cap,hm _ _ h1,h2⟩
 |.prt i z lo hi,v,⟨g,n,cap,o,h1,h2⟩=>⟨g,n,cap,o,hm _ _ h1,h2⟩
 |.ptr i o,v,⟨b,h1,h2⟩=>⟨b,hm _ _ h1,h2⟩
 |.rat i c t j x o,v,⟨g,n,cap,l,cs,h1,h2,h3,h4⟩=>⟨g,n,cap,l,cs,hm _ _ h1,hm _ _ h2,h3,h4⟩
 |.fsl i k,v,⟨b,h1,h2⟩=>⟨b,hm _ _ h1,h2⟩
 |.fsa i o k cap,v,⟨b,h1,h2⟩=>⟨b,hm _ _ h1,h2⟩
 |.nlt t l neg,v,h=>h
 |.agg vs,v,⟨us,h1,h2⟩=>⟨us,h1,SV.monoLC hm hK vs h2⟩
 |.tup vs,v,⟨us,h1,h2⟩=>⟨us,h1,SV.monoLC hm hK vs h2⟩
 |.fn f vs,v,⟨us,h1,h2⟩=>⟨us,h1,SV.monoLC hm hK vs h2⟩
 |.is j w,v,⟨h1,h2⟩=>⟨hm _ _ h1,SV.monoC hm hK w h2⟩
 |.ifc t w,v,⟨u,h1,h2⟩=>⟨u,h1,SV.monoC hm hK w h2⟩
 |.yld i n vs ps ao bo,v,⟨l,r,ρ,h1,h2,h3,h4,h5,h6,h7⟩=>⟨l,r,ρ,h1,hm _ _ h2,h3,h4,h5,h6,fun j=>SV.monoC hm hK (vs j) (h7 j)⟩
theorem SV.monoLC{m m':List M}{K K':Hp}(hm:∀(i:Nat) (x:M),m[i]?=some x->m'[i]?=some x)(hK:K.cle K'):∀(vs:List SV) {us:List Value},SV.relL m K vs us->SV.relL m' K' vs us
 |[],us,h=>h
 |v::vs,us,⟨u,r,h1,h2,h3⟩=>⟨u,r,h1,SV.monoC hm hK v h2,SV.monoLC hm hK vs h3⟩
end
theorem SV.mono{m m':List M}{K K':Hp}(hm:∀(i:Nat) (x:M),m[i]?=some x->m'[i]?=some x)(hK:K.le K'):∀(sv:SV) {v:Value},SV.rel m K sv v->SV.rel m' K' sv v:=fun sv {_} h=>SV.monoC hm hK.cle sv h
theorem SV.monoL{m m':List M}{K K':Hp}(hm:∀(i:Nat) (x:M),m[i]?=some x->m'[i]?=some x)(hK:K.le K'):∀(vs:List SV) {us:List Value},SV.relL m K vs us->SV.relL m' K' vs us:=fun vs {_} h=>SV.monoLC hm hK.cle vs h
section
variable {m:List M}{K:Hp}
mutual
theorem iG:∀(sv:SV) {v:Value},SV.rel m K sv v->SV.rel m K sv.st v
 |.any,v,h=>h
 |.raw _,v,h=>h
 |.int _ _,v,h=>h
 |.bool _,v,h=>h
 |.str _,v,h=>h
 |.nilp,v,h=>h
 |.nils,v,h=>h
 |.row _ _ _,v,h=>h
 |.pk _ _,v,h=>h
 |.kat _ _ _,v,h=>h
 |.own _,v,h=>h
 |.hat _ _ _ _,v,h=>h
 |.prt _ _ _ _,v,h=>h
 |.yld _ _ _ _ _ _,v,h=>h
 |.ptr _ _,v,h=>h
 |.rat _ _ _ _ _ _,v,h=>h
 |.fsl _ _,v,h=>h
 |.fsa _ _ _ _,v,h=>h
 |.nlt _ _ _,v,h=>h
 |.agg vs,v,⟨us,h1,h2⟩=>⟨us,h1,ef vs h2⟩
 |.tup vs,v,⟨us,h1,h2⟩=>⟨us,h1,ef vs h2⟩
 |.fn f vs,v,⟨us,h1,h2⟩=>⟨us,h1,ef vs h2⟩
 |.is j w,v,h=>iG w h.2
 |.ifc _ _,v,h=>h
theorem ef:∀(vs:List SV) {us:List Value},SV.relL m K vs us->SV.relL m K (SV.stL vs) us
 |[],us,h=>h
 |v::vs,us,⟨u,r,h1,h2,h3⟩=>⟨u,r,h1,iG v h2,ef vs h3⟩
end
mutual
theorem fg{f:SV->Option SV}(hf:∀a b v,f a=some b->SV.rel m K a v->SV.rel m K b v):∀(sv:SV) {v:Value},SV.rel m K sv v->SV.rel m K (sv.sub f) v
 |.agg vs,v,⟨us,h1,h2⟩=>⟨us,h1,gq hf vs h2⟩
 |.tup vs,v,⟨us,h1,h2⟩=>⟨us,h1,gq hf vs h2⟩
 |.fn g vs,v,⟨us,h1,h2⟩=>⟨us,h1,gq hf vs h2⟩
 |.is j w,v,h=>by unfold SV.sub;split;exact hf _ _ _ (by assumption) h;exact⟨h.1,fg hf w h.2⟩
 |.any,v,h=>by unfold SV.sub;split;exact hf _ _ _ (by assumption) h;exact h
 |.raw _,v,h=>by unfold SV.sub;split;exact hf _ _ _ (by assumption) h;exact h
 |.int _ _,v,h=>by unfold SV.sub;split;exact hf _ _ _ (by assumption) h;exact h
 |.bool _,v,h=>by unfold SV.sub;split;exact hf _ _ _ (by assumption) h;exact h
 |.str _,v,h=>by unfold SV.sub;split;exact hf _ _ _ (by assumption) h;exact h
 |.nilp,v,h=>by unfold SV.sub;split;exact hf _ _ _ (by assumption) h;exact h
 |.nils,v,h=>by unfold SV.sub;split;exact hf _ _ _ (by assumption) h;exact h
 |.row t l n,v,h=>by unfold SV.sub;split;exact hf _ _ _ (by assumption) h;exact h
 |.pk t x,v,h=>by unfold SV.sub;split;exact hf _ _ _ (by assumption) h;exact h
 |.kat t x o,v,h=>by unfold SV.sub;split;exact hf _ _ _ (by assumption) h;exact h
 |.own i,v,h=>by unfold SV.sub;split;exact hf _ _ _ (by assumption) h;exact h
 |.hat i o j off,v,h=>by unfold SV.sub;split;exact hf _ _ _ (by assumption) h;exact h
 |.prt i z lo hi,v,h=>by unfold SV.sub;split;exact hf _ _ _ (by assumption) h;exact h
 |.yld _ _ _ _ _ _,v,h=>by unfold SV.sub;split;exact hf _ _ _ (by assumption) h;exact h
 |.ptr i o,v,h=>by unfold SV.sub;split;exact hf _ _ _ (by assumption) h;exact h
 |.rat i c t j x o,v,h=>by unfold SV.sub;split;exact hf _ _ _ (by assumption) h;exact h
 |.fsl i k,v,h=>by unfold SV.sub;split;exact hf _ _ _ (by assumption) h;exact h
 |.fsa i o k cap,v,h=>by unfold SV.sub;split;exact hf _ _ _ (by assumption) h;exact h
 |.nlt t l neg,v,h=>by unfold SV.sub;split;exact hf _ _ _ (by assumption) h;exact h
 |.ifc _ _,v,h=>by unfold SV.sub;split;exact hf _ _ _ (by assumption) h;exact h
theorem gq{f:SV->Option SV}(hf:∀a b v,f a=some b->SV.rel m K a v->SV.rel m K b v):∀(vs:List SV) {us:List Value},SV.relL m K vs us->SV.relL m K (SV.subL f vs) us
 |[],us,h=>h
 |v::vs,us,⟨u,r,h1,h2,h3⟩=>⟨u,r,h1,fg hf v h2,gq hf vs h3⟩
end
theorem vw{f:SV->Option SV}:∀vs:List SV,(SV.subL f vs).length=vs.length
 |[]=>rfl
 |v::vs=>by simp[SV.subL,vw vs]
theorem cG:∀{vs:List SV} {us:List Value},SV.relL m K vs us->us.length=vs.length
 |[],us,h=>by simp only[SV.relL]at h;subst h;rfl
 |v::vs,us,h=>by simp only[SV.relL]at h;obtain⟨u,r,rfl,_,h⟩:=h;simp[cG h]
theorem iy:∀{vs:List SV} {us:List Value},SV.relL m K vs us->∀{i:Nat} {v:SV},vs[i]?=some v->∃u,us[i]?=some u/\SV.rel m K v u
 |[],us,h,i,v,hv=>by simp at hv
 | w :: vs,us,h,0,v,hv=>by
   simp only[SV.relL]at h;obtain⟨u,r,rfl,h1,h⟩:=h;simp at hv;subst hv;exact⟨u,rfl,h1⟩
 | w :: vs,us,h,i + 1,v,hv=>by
   simp only[SV.relL]at h;obtain⟨u,r,rfl,h1,h⟩:=h;simpa using iy h (i:=i) (v:=v) (by simpa using hv)
theorem fc:∀{vs ws:List SV} {us xs:List Value},SV.relL m K vs us->SV.relL m K ws xs->SV.relL m K (vs++ws) (us++xs)
 |[],ws,us,xs,h,k=>by simp only[SV.relL]at h;subst h;exact k
 | v :: vs,ws,us,xs,h,k=>by
   simp only[SV.relL]at h;obtain⟨u,r,rfl,h1,h⟩:=h;exact⟨u,r++xs,rfl,h1,fc h k⟩
theorem eW:∀{vs:List SV} {us:List Value} (n:Nat),SV.relL m K vs us->SV.relL m K (vs.take n) (us.take n)
 |[],us,n,h=>by simp only[SV.relL]at h;subst h;simp[SV.relL]
 |v::vs,us,0,h=>by simp[SV.relL]
 | v :: vs,us,n + 1,h=>by
   simp only[SV.relL]at h;obtain⟨u,r,rfl,h1,h⟩:=h;exact⟨u,r.take n,rfl,h1,eW n h⟩
theorem eX:∀{vs:List SV} {us:List Value} (n:Nat),SV.relL m K vs us->SV.relL m K (vs.drop n) (us.drop n)
 |[],us,n,h=>by simp only[SV.relL]at h;subst h;simp[SV.relL]
 |v::vs,us,0,h=>h
 | v :: vs,us,n + 1,h=>by
   simp only[SV.relL]at h;obtain⟨u,r,rfl,h1,h⟩:=h;exact eX n h
theorem aM{v:SV}{vs:List SV}{us:List Value}(h:SV.relL m K (v::vs) us):∃u r,us=u::r/\SV.rel m K v u/\SV.relL m K vs r:=h
theorem aU{us:List Value}(h:SV.relL m K [] us):us=[]:=h
theorem uO{vs ws:List SV}{us xs:List Value}(o:Nat)(h:SV.relL m K vs us)(k:SV.relL m K ws xs):SV.relL m K (splice vs o ws) (us.take o++xs++us.drop (o+xs.length)):=by
 unfold splice;rw[cG k];exact fc (fc (eW o h) k) (eX _ h)
theorem en:∀(t:Tp) {cs:List Value} {x:t.den},Is K t cs x->SV.relL m K (SV.lv t x) cs
 |.int k,cs,x,h=>by simp only[Is]at h;subst h;exact⟨_,_,rfl,rfl,rfl⟩
 |.bool,cs,x,h=>by simp only[Is]at h;subst h;exact⟨_,_,rfl,rfl,rfl⟩
 |.str,cs,x,h=>by simp only[Is]at h;subst h;exact⟨_,_,rfl,rfl,rfl⟩
 | .sl e,cs,x,h=>by
   have h':=h;simp only[Is]at h;obtain⟨ad,cap,rfl,_⟩:=h;exact⟨_,_,rfl,⟨h',rfl⟩,rfl⟩
 | .ptr e,cs,x,h=>by
   have hl:=h.len
   match cs,hl with
   |[v],_=>exact⟨_,_,rfl,h,rfl⟩
 |.emp,cs,x,h=>by simp only[Is]at h;subst h;exact rfl
 |.one a,cs,x,h=>en a (by simpa only[Is]using h)
 | .cons a r,cs,x,h=>by
   simp only[Is]at h;obtain⟨c1,c2,rfl,h1,h2,h3⟩:=h;exact fc (en a h2) (en r h3)
theorem rC:∀(t:Tp) {v:Value} {x:t.den},IsV K t v x->SV.rel m K (SV.of t x) v
 |.int k,v,x,h=>by obtain rfl:=IsV.int_eq h;rfl
 |.bool,v,x,h=>by obtain rfl:=IsV.bool_eq h;rfl
 |.str,v,x,h=>by obtain rfl:=IsV.str_eq h;rfl
 |.sl e,v,x,h=>⟨h,rfl⟩
 |.ptr e,v,x,h=>h
 |.emp,v,x,⟨cs,h1,h2⟩=>⟨cs,h1,by simp only[Is]at h2;exact h2⟩
 |.one a,v,x,⟨cs,h1,h2⟩=>⟨cs,h1,en a (by simpa only[Is]using h2)⟩
 |.cons a r,v,x,⟨cs,h1,h2⟩=>⟨cs,h1,en (.cons a r) h2⟩
theorem B5{t e:Tp}(h:PLift (t=e)){l:List t.den}{u:Value}(k:Is K (.sl t) [u] l):Is K (.sl e) [u] (eJ h l):=by obtain⟨rfl⟩:=h;exact k
theorem KZ{t e:Tp}(h:PLift (t=e)){l:Option t.den}{u:Value}(k:Is K (.ptr t) [u] l):Is K (.ptr e) [u] (El h l):=by obtain⟨rfl⟩:=h;exact k
theorem LG{t e:Tp}(h:PLift (t=e)){x:t.den}{b o:Nat}(k:At K t b o x):At K e b o (cst h x):=by obtain⟨rfl⟩:=h;exact k
theorem cL:∀(t:Tp) {vs:List SV} {us:List Value} {x:t.den} {r:List SV},dt t vs=some (x,r)->SV.relL m K vs us->∃c1 c2,us=c1++c2/\Is K t c1 x/\SV.relL m K r c2
 | .int k,vs,us,x,r,h,hr=>by
   change xU k vs=some (x,r)at h;unfold xU at h;split at h
   . split at h
     . rename_i hk;cases h;subst hk;obtain⟨u,q,rfl,h1,h2⟩:=aM hr;exact⟨[u],q,rfl,by simp only[SV.rel]at h1;subst h1;rfl,h2⟩
     . cases h
   . cases h
 | .bool,vs,us,x,r,h,hr=>by
   change xJ vs=some (x,r)at h;unfold xJ at h;split at h
   . cases h;obtain⟨u,q,rfl,h1,h2⟩:=aM hr;exact⟨[u],q,rfl,by simp only[SV.rel]at h1;subst h1;rfl,h2⟩
   . cases h
 | .str,vs,us,x,r,h,hr=>by
   change yd vs=some (x,r)at h;unfold yd at h;split at h
   . cases h;obtain⟨u,q,rfl,h1,h2⟩:=aM hr;exact⟨[u],q,rfl,by simp only[SV.rel]at h1;subst h1;rfl,h2⟩
   . cases h
 | .sl e,vs,us,x,r,h,hr=>by
   change dSl e vs=some (x,r)at h;unfold dSl at h;split at h
   . split at h
     . cases h;obtain⟨u,q,rfl,h1,h2⟩:=aM hr;exact⟨[u],q,rfl,B5 _ h1.1,h2⟩
     . cases h
   . cases h;obtain⟨u,q,rfl,h1,h2⟩:=aM hr;exact⟨[u],q,rfl,by simp only[SV.rel]at h1;subst h1;exact DT,h2⟩
   . cases h
 | .ptr e,vs,us,x,r,h,hr=>by
   change yE e vs=some (x,r)at h;unfold yE at h;split at h
   . split at h
     . cases h;obtain⟨u,q,rfl,h1,h2⟩:=aM hr;exact⟨[u],q,rfl,KZ _ h1,h2⟩
     . cases h
   . cases h;obtain⟨u,q,rfl,h1,h2⟩:=aM hr;exact⟨[u],q,rfl,by simp only[SV.rel]at h1;subst h1;exact Is.ptr_nil,h2⟩
   . split at h
     . cases h;obtain⟨u,q,rfl,⟨b,o0,rfl,h1⟩,h2⟩:=aM hr;exact⟨_,q,rfl,(LG _ h1).is_ptr,h2⟩
     . cases h
   . cases h
 | .emp,vs,us,x,r,h,hr=>by
   cases h;exact⟨[],us,rfl,rfl,hr⟩
 | .one a,vs,us,x,r,h,hr=>by
   obtain⟨c1,c2,h1,h2,h3⟩:=cL a (show dt a vs=some (x,r)from h) hr;exact⟨c1,c2,h1,by simpa only[Is]using h2,h3⟩
 | .cons a b,vs,us,x,r,h,hr=>by
   unfold dt at h;split at h
   . rename_i y q hq;split at h
     . rename_i z q2 hq2;cases h;obtain⟨c1,c2,rfl,h2,h3⟩:=cL a hq hr;obtain⟨c3,c4,rfl,h5,h6⟩:=cL b hq2 h3;exact⟨c1++c3,c4,by simp,⟨c1,c3,rfl,h2.len,h2,h5⟩,h6⟩
     . cases h
   . cases h
theorem A6:∀(v:Value),SV.rel m K (SV.con1 v) v:=fun v=>by
 unfold SV.con1;split <;> simp[SV.rel]
theorem qp:∀(vs:List Value),SV.relL m K (vs.map SV.con1) vs
 |[]=>rfl
 |v::vs=>⟨v,vs,rfl,A6 v,qp vs⟩
theorem Cw(v:Value):SV.rel m K (SV.con v) v:=by
 unfold SV.con;split
 . exact⟨_,by simp,qp _⟩
 . exact⟨_,by simp,qp _⟩
 . rename_i f fs cs;cases h:fs.isEmpty with
   | true =>
     obtain rfl:fs = #[]:=by simpa using h
     exact⟨_,by simp,qp _⟩
   |false=>rfl
 . exact A6 _
theorem bK{sv:SV}{v:Value}(hn:∀j w,sv≠.is j w)(h:sv.leaf=true)(hr:SV.rel m K sv v):v.oneCell'=true:=by
 cases sv <;> first|(exact absurd rfl (hn _ _);done)|(simp only[SV.leaf,W7]at h;done)|(simp only[SV.leaf]at h;simp only[SV.rel]at hr)
 . subst hr;exact h
 . subst hr;rfl
 . subst hr;rfl
 . subst hr;rfl
 . subst hr;rfl
 . subst hr;rfl
 . obtain⟨ad,cap,rfl⟩:=hr.1.slv;rfl
 . rename_i t x;cases x with
   |none=>obtain rfl:=Is.ptr0 hr;rfl
   |some y=>obtain⟨b,o,rfl,_⟩:=Is.ptr hr;rfl
 . obtain⟨b,o0,rfl,_⟩:=hr;rfl
 . exact hr.2
 . obtain⟨b,_,rfl⟩:=hr;rfl
 . obtain⟨g,n,cap,l,cs,_,_,_,rfl⟩:=hr;rfl
 . obtain⟨b,_,rfl⟩:=hr;rfl
 . obtain⟨b,_,rfl⟩:=hr;rfl
 . obtain⟨q,rfl,_⟩:=hr;rfl
 . obtain⟨us,rfl,_⟩:=hr;rfl
 . obtain⟨g,n,cap,_,_,_,rfl⟩:=hr;rfl
 . obtain⟨g,n,cap,o,_,_,_,_,_,rfl⟩:=hr;rfl
 . obtain⟨l,r,ρ,rfl,_⟩:=hr;rfl
 . obtain⟨w,rfl,_⟩:=hr;rfl
theorem vA:∀(sv:SV) {v:Value},sv.leaf=true->SV.rel m K sv v->v.oneCell'=true
 |.is j w,v,h,hr=>vA w h hr.2
 |.any,v,h,hr=>by cases h
 |.raw x,v,h,hr=>bK (by intro _ _ e;cases e) h hr
 |.int _ _,v,h,hr=>bK (by intro _ _ e;cases e) h hr
 |.bool _,v,h,hr=>bK (by intro _ _ e;cases e) h hr
 |.str _,v,h,hr=>bK (by intro _ _ e;cases e) h hr
 |.nilp,v,h,hr=>bK (by intro _ _ e;cases e) h hr
 |.nils,v,h,hr=>bK (by intro _ _ e;cases e) h hr
 |.row _ _ _,v,h,hr=>bK (by intro _ _ e;cases e) h hr
 |.pk _ _,v,h,hr=>bK (by intro _ _ e;cases e) h hr
 |.kat _ _ _,v,h,hr=>bK (by intro _ _ e;cases e) h hr
 |.own _,v,h,hr=>bK (by intro _ _ e;cases e) h hr
 |.hat _ _ _ _,v,h,hr=>bK (by intro _ _ e;cases e) h hr
 |.prt _ _ _ _,v,h,hr=>bK (by intro _ _ e;cases e) h hr
 |.ptr _ _,v,h,hr=>bK (by intro _ _ e;cases e) h hr
 |.rat _ _ _ _ _ _,v,h,hr=>bK (by intro _ _ e;cases e) h hr
 |.fsl _ _,v,h,hr=>bK (by intro _ _ e;cases e) h hr
 |.fsa _ _ _ _,v,h,hr=>bK (by intro _ _ e;cases e) h hr
 |.nlt _ _ _,v,h,hr=>bK (by intro _ _ e;cases e) h hr
 |.ifc _ _,v,h,hr=>bK (by intro _ _ e;cases e) h hr
 |.agg _,v,h,hr=>by cases h
 |.tup _,v,h,hr=>by cases h
 |.yld _ _ _ _ _ _,v,h,hr=>bK (by intro _ _ e;cases e) h hr
 |.fn _ _,v,h,hr=>bK (by intro _ _ e;cases e) h hr
theorem Ay{v:Value}(h:v.oneCell'=true):v.cells.toList=[v]:=by cases v <;> first |rfl|cases h
theorem kz{α:Type}{c:Bool}{x:Option α}{r:α}(h:(bif c then x else none)=some r):c=true/\x=some r:=by
 cases c with
 |true=>exact⟨rfl,h⟩
 |false=>cases h
theorem mR{sv:SV}{vs:List SV}{v:Value}(h:sv.cells=some vs)(hr:SV.rel m K sv v):SV.relL m K vs v.cells.toList:=by
 unfold SV.cells at h;split at h
 . cases h
 . cases h
 . cases h;obtain⟨us,rfl,h⟩:=hr;simpa[Value.cells]using h
 . rename_i w;simp only[SV.rel]at hr;subst hr;cases ho:v.oneCell' with
   |false=>rw[ho]at h;cases h
   | true =>
     rw[ho]at h;cases h;refine⟨v,[],?_,rfl,rfl⟩;cases v <;> first |rfl|cases ho
 . rename_i j w;replace h:=kz h;obtain⟨hl,h⟩:=h;cases h;exact⟨v,[],Ay (vA _ hl hr.2),hr,rfl⟩
 . rename_i h1 h2 h3 h4 h5;cases h;refine⟨v,[],?_,hr,rfl⟩;cases sv <;> simp only[SV.rel]at hr <;> first
     |(exact absurd rfl h1;done)
     |(exact absurd rfl (h2 _);done)
     |(exact absurd rfl (h3 _);done)
     |(exact absurd rfl (h4 _);done)
     |(exact absurd rfl (h5 _);done)
     |(exact absurd rfl (h5 _ _);done)
     |(subst hr;rfl)
     |skip
   . obtain⟨ad,cap,rfl⟩:=hr.1.slv;rfl
   . rename_i t x;cases x with
     |none=>obtain rfl:=Is.ptr0 hr;rfl
     |some y=>obtain⟨b,o,rfl,_⟩:=Is.ptr hr;rfl
   . obtain⟨b,o0,rfl,_⟩:=hr;rfl
   . exact Ay hr.2
   . obtain⟨b,_,rfl⟩:=hr;rfl
   . obtain⟨g,n,cap,l,cs,_,_,_,rfl⟩:=hr;rfl
   . obtain⟨b,_,rfl⟩:=hr;rfl
   . obtain⟨b,_,rfl⟩:=hr;rfl
   . obtain⟨q,rfl,_⟩:=hr;rfl
   . obtain⟨us,rfl,_⟩:=hr;rfl
   . obtain⟨g,n,cap,_,_,_,rfl⟩:=hr;rfl
   . obtain⟨g,n,cap,o,_,_,_,_,_,rfl⟩:=hr;rfl
   . obtain⟨l,r,ρ,rfl,_⟩:=hr;rfl
   . obtain⟨w,rfl,_⟩:=hr;rfl
end
end
section
theorem Sep.perm{E:En}{w:World}{L1 L2:List ah}(h:L1.Perm L2):∀{K:Hp},Sep E K L1 w->Sep E K L2 w:=by
 induction h with
 |nil=>exact fun h=>h
 |cons a _ ih=>exact fun ⟨x,h1,h2,h3⟩=>⟨x,h1,h2,ih h3⟩
 |swap a b l=>exact fun h=>h.swap
 |trans _ _ ih1 ih2=>exact fun h=>ih2 (ih1 h)
theorem kA{α:Type _}(A B C:List α):(A++(B++C)).Perm (B++(A++C)):=by
 rw[<- X1,<- X1];exact (bv0).append_right C
theorem Sep.drops{E:En}{w:World}{L2:List ah}:∀{L1:List ah} {K:Hp},Sep E K (L1++L2) w->Sep E K L2 w
 |[],K,h=>h
 |A::L1,K,h=>Sep.drops (L1:=L1) h.drop
theorem bJ{α β:Type}{f:α->Option β}:∀{l:List α} {b:β} {r:List α},pick f l=some (b,r)->∃a,f a=some b/\a∈l/\l.Perm (a::r)
 |[],b,r,h=>by cases h
 | x :: l,b,r,h=>by
   unfold pick at h;split at h
   . rename_i y hy;cases h;exact⟨x,hy,by simp,List.Perm.refl _⟩
   . split at h
     . rename_i y q hq;cases h;obtain⟨a,h1,h2,h3⟩:=bJ hq;exact⟨a,h1,by simp[h2],(h3.cons x).trans (bd0 _ _ _)⟩
     . cases h
theorem bA{α β:Type}{f:α->Option β}:∀{l:List α} {b:β},aX f l=some b->∃a,f a=some b/\a∈l
 |[],b,h=>by cases h
 | x :: l,b,h=>by
   unfold aX at h;split at h
   . rename_i y hy;cases h;exact⟨x,hy,by simp⟩
   . obtain⟨a,h1,h2⟩:=bA h;exact⟨a,h1,by simp[h2]⟩
theorem cH{i:Nat}{a:HA}{q:BlkR}(h:a.blkR i=some q):a=.blk i q.c q.e q.cs:=by
 cases a <;> simp only[HA.blkR]at h <;> try (cases h;done)
 rename_i j c e cs;cases hb:Y3 j i with
 |false=>rw[hb]at h;cases h
 |true=>rw[hb]at h;cases h;rw[Y0 hb]
theorem bP{i:Nat}{a:HA}{q:RowR}(h:a.rowR i=some q):a=.row i q.c q.e q.t q.l q.n:=by
 cases a <;> simp only[HA.rowR]at h <;> try (cases h;done)
 rename_i j c e t l n;cases hb:Y3 j i with
 |false=>rw[hb]at h;cases h
 |true=>rw[hb]at h;cases h;rw[Y0 hb]
theorem Kb{i:Nat}{a:HA}{l:List UInt8}(h:a.bldR i=some l):a=.bld i l:=by
 cases a <;> simp only[HA.bldR]at h <;> try (cases h;done)
 rename_i j l';cases hb:Y3 j i with
 |false=>rw[hb]at h;cases h
 |true=>rw[hb]at h;cases h;rw[Y0 hb]
theorem jT{i:Nat}{a:HA}{q:RowsR}(h:a.rowsR i=some q):a=.od i q.c (.row q.e q.o) q.l:=by
 cases a <;> simp only[HA.rowsR]at h <;> try (cases h;done)
 rename_i j c o x;cases hb:Y3 j i with
 |false=>rw[hb]at h;cases h
 | true =>
   rw[hb]at h;have:=Y0 hb;subst this;cases o <;> simp only[cond_true,OT.rowOf]at h <;> cases h
   rfl
theorem BX{i:Nat}{a:HA}{q:BoxR}(h:a.boxR i=some q):a=.od i q.c (.box q.e q.o) q.x:=by
 cases a <;> simp only[HA.boxR]at h <;> try (cases h;done)
 rename_i j c o x;cases hb:Y3 j i with
 |false=>rw[hb]at h;cases h
 | true =>
   rw[hb]at h;have:=Y0 hb;subst this;cases o <;> simp only[cond_true,OT.boxOf]at h <;> cases h
   rfl
theorem KM{i:Nat}{a:HA}{q:BoxR}(h:a.lbxR i=some q):a=.od i q.c (.lbx q.e q.o) q.x:=by
 cases a <;> simp only[HA.lbxR]at h <;> try (cases h;done)
 rename_i j c o x;cases hb:Y3 j i with
 |false=>rw[hb]at h;cases h
 | true =>
   rw[hb]at h;have:=Y0 hb;subst this;cases o <;> simp only[cond_true,OT.lbxOf]at h <;> cases h
   rfl
theorem iC{i:Nat}{a:HA}{q:HolR}(h:a.holR i=some q):a=.hole i q.c q.e q.o q.l q.j q.cs:=by
 cases a <;> simp only[HA.holR]at h <;> try (cases h;done)
 rename_i j c e o l k cs;cases hb:Y3 j i with
 |false=>rw[hb]at h;cases h
 |true=>rw[hb]at h;cases h;rw[Y0 hb]
theorem wY{i:Nat}{a:HA}{s:LSt}(h:a.lpR i=some s):a=.lp i s:=by
 cases a <;> simp only[HA.lpR]at h <;> try (cases h;done)
 rename_i j s';cases hb:Y3 j i with
 |false=>rw[hb]at h;cases h
 |true=>rw[hb]at h;cases h;rw[Y0 hb]
theorem xq{i:Nat}{a:HA}{q:OdR}(h:a.odR i=some q):a=.od i q.c q.o q.x:=by
 cases a <;> simp only[HA.odR]at h <;> try (cases h;done)
 rename_i j c o x;cases hb:Y3 j i with
 |false=>rw[hb]at h;cases h
 |true=>rw[hb]at h;cases h;rw[Y0 hb]
theorem rH{i:Nat}{o:OT}{a:HA}{x:o.tp.den}(h:a.odX i o=some x):∃c,a=.od i c o x:=by
 cases a <;> simp only[HA.odX]at h <;> try (cases h;done)
 rename_i j c o' x';cases hb:Y3 j i with
 |false=>rw[hb]at h;cases h
 | true =>
   rw[hb]at h;have:=Y0 hb;subst this;simp only[cond_true]at h;split at h
   . rename_i hs _;obtain⟨hs⟩:=hs;subst hs;cases h;exact⟨c,rfl⟩
   . cases h
theorem Cj{i:Nat}{e:TypeId}{t:Tp}{a:HA}{x:List t.den}(h:a.rowX i e t=some x):∃c n,a=.row i c e t x n:=by
 cases a <;> simp only[HA.rowX]at h <;> try (cases h;done)
 rename_i j c e' t' l n;replace h:=kz h;obtain⟨hb,h⟩:=h;rw[Y1]at hb;have h1:=Y0 hb.1;have h2:=Y0 hb.2;subst h1 h2;split at h
 . rename_i hs _;obtain⟨hs⟩:=hs;subst hs;cases h;exact⟨c,n,rfl⟩
 . cases h
theorem HA.ok_monoC{m m':List M}{K K':Hp}(hm:∀(i:Nat) (x:M),m[i]?=some x->m'[i]?=some x)(hK:K.cle K'):∀{a:HA},a.ok m K->a.ok m' K'
 |.blk i c e cs,⟨b,vs,h1,h2,h3⟩=>⟨b,vs,hm _ _ h1,hm _ _ h2,SV.monoLC hm hK _ h3⟩
 |.row i c e t l n,⟨ad,cap,cs,h1,h2,h3,h4⟩=>⟨ad,cap,cs,hm _ _ h1,hm _ _ h2,h3.monoC hK,h4⟩
 |.bld i l,⟨b,h1⟩=>⟨b,hm _ _ h1⟩
 |.od i c o x,⟨v,K0,h1,h2,h3,h4⟩=>⟨v,K0,hm _ _ h1,hm _ _ h2,h3.monoC hK,h4⟩
 | .hole i c e o l j cs,h=>by
   obtain⟨ad,cap,K0,es,h1,h2,h3,h4,h5⟩:=h;exact⟨ad,cap,K0,es,hm _ _ h1,hm _ _ h2,h3.monoC hK,SV.monoLC hm hK _ h4,h5⟩
 |.lp i s,⟨l,r,h⟩=>⟨l,r,hm _ _ h⟩
theorem HA.ok_mono{m m':List M}{K K':Hp}(hm:∀(i:Nat) (x:M),m[i]?=some x->m'[i]?=some x)(hK:K.le K'){a:HA}(h:a.ok m K):a.ok m' K':=HA.ok_monoC hm hK.cle h
theorem HA.conc_mono[BldA]{m m':List M}{K:Hp}(hm:∀(i:Nat) (x:M),m[i]?=some x->m'[i]?=some x):∀{a:HA},a.ok m K->a.conc m'=a.conc m
 |.blk i c e cs,⟨b,vs,h1,h2,h3⟩=>by simp only[HA.conc,h1,h2,hm _ _ h1,hm _ _ h2]
 |.row i c e t l n,⟨ad,cap,cs,h1,h2,h3,h4⟩=>by simp only[HA.conc,h1,h2,hm _ _ h1,hm _ _ h2]
 |.bld i l,⟨b,h1⟩=>by simp only[HA.conc,h1,hm _ _ h1]
 |.od i c o x,⟨v,K0,h1,h2,h3,h4⟩=>by simp only[HA.conc,h1,h2,hm _ _ h1,hm _ _ h2]
 | .hole i c e o l j cs,h=>by
   obtain⟨ad,cap,K0,es,h1,h2,h3⟩:=h;simp only[HA.conc,h1,h2,hm _ _ h1,hm _ _ h2]
 |.lp i s,⟨l,r,h⟩=>by simp only[HA.conc,h,hm _ _ h]
theorem dz[BldA]{m m':List M}{K:Hp}(hm:∀(i:Nat) (x:M),m[i]?=some x->m'[i]?=some x):∀{H:List HA},(∀a∈H,HA.ok m K a)->H.map (HA.conc m')=H.map (HA.conc m)
 |[],_=>rfl
 |a::H,h=>by rw[X5,X5,HA.conc_mono hm (h a (by simp)),dz hm (fun b hb=>h b (by simp[hb]))]
structure Sl1 where
 f:Sl0
 ds:List Deferred
instance:CoeFun Sl1 (fun _=>Nat->Value):=⟨Sl1.f⟩
instance:Coe Sl1 Sl0:=⟨Sl1.f⟩
theorem Sl1.ext'{a b:Sl1}(h:∀i,a i=b i)(hd:a.ds=b.ds):a=b:=by
 cases a;cases b;obtain rfl:=hd;simp only[Sl1.mk.injEq,and_true];exact funext h
def aY(ρ:Sl1)(d:Nat)(v:Value):Sl1:=⟨upd ρ.f d v,ρ.ds⟩
theorem GV{ρ:Sl1}{d:Nat}{v:Value}(h:ρ d=v):aY ρ d v=ρ:=by
 unfold aY;rw[AK h]
def act1(n:Nat)(ρ:Sl1):Act:=⟨frm n ρ.f,ρ.ds⟩
theorem cg(n:Nat)(ρ:Sl1):(act1 n ρ).eval=Go.Proofs.YtpnmnbfbcgkcjaaGreatDoor.ev n ρ.f:=by
 have:(act1 n ρ).eval=(act n ρ.f).eval:=by
   funext x
   cases x <;> rfl
 rw[this,Go.Proofs.YtpnmnbfbcgkcjaaGreatDoor.eval_act]
theorem bT(n:Nat)(ρ:Sl1)(d:Nat)(v:Value):(act1 n ρ).put (some d) v=act1 n (aY ρ d v):=by
 have h:=Go.Proofs.YtpnmnbfbcgkcjaaGreatDoor.put_act n ρ.f d v;unfold act Act.put at h;unfold act1 Act.put aY;simp only[Act.mk.injEq,and_true]at h ⊢;exact h
def cK(args:Array Value):Sl1:=⟨eG args,[]⟩
variable [BldA]
def MOk(k0 K:Hp)(ds:List Deferred):Prop:=(BldA.gk k0/\k0.le K)/\(∀d∈ds,∃D,d={ target:=.collected D,args:=#[] }/\K D=some (.deferred (some []))/\k0 D=none)/\ds.Nodup
theorem MOk.mono{k0 K K':Hp}{ds:List Deferred}(h:MOk k0 K ds)(k:K.le K'):MOk k0 K' ds:=⟨⟨h.1.1,h.1.2.trans k⟩,fun d hd=>let ⟨D,h1,h2,h3⟩:=h.2.1 d hd;⟨D,h1,k _ _ h2,h3⟩,h.2.2⟩
theorem MOk.gk{k0 K:Hp}{ds:List Deferred}(h:MOk k0 K ds):BldA.gk K:=BldA.gkm h.1.2.cle h.1.1
theorem MOk.nil{k0 K:Hp}(hg:BldA.gk k0)(hk:k0.le K):MOk k0 K []:=⟨⟨hg,hk⟩,fun d h=>(by cases h),cD0⟩
structure Frz where
 m:List M
 K:Hp
 ρ:Sl1
 dead:Nat->Bool
 F:List ah
 k0:Hp
structure Pur(fr:Frz)(σ:Zt)(m:List M)(K:Hp)(ρ:Sl1):Prop where
 hm:fr.m <+: m
 hK:fr.K.le K
 nx:m.length=σ.nx
 kq:σ.kq=true->K=fr.K
 base:∀i,SV.rel fr.m fr.K (σ.base i) (fr.ρ i)
 dead:∀i,fr.dead i=true->σ.base i=.any
 old:∀i,look σ.top i=none->fr.dead i=true\/ρ i=fr.ρ i
 top:∀i sv,look σ.top i=some sv->SV.rel m K sv (ρ i)
 okH:∀a∈σ.H,HA.ok m K a
 okF:∀a∈σ.Hf,HA.ok fr.m fr.K a
 mks:MOk fr.k0 K ρ.ds
def Zt.fz(σ:Zt)(fr:Frz):List ah:=σ.Hf.map (HA.conc fr.m)++fr.F
def Zt.atoms(σ:Zt)(fr:Frz)(m:List M):List ah:=σ.H.map (HA.conc m)++σ.fz fr
structure Rel(E:En)(fr:Frz)(σ:Zt)(m:List M)(K:Hp)(ρ:Sl1)(w:World):Prop extends Pur fr σ m K ρ where
 sep:Sep E K (σ.atoms fr m) w
section
variable {E:En}{fr:Frz}{σ:Zt}{m:List M}{K:Hp}{ρ:Sl1}{w:World}
theorem Pur.mono(h:Pur fr σ m K ρ):∀(i:Nat) (x:M),fr.m[i]?=some x->m[i]?=some x:=fun i x k=>aq h.hm k
theorem Pur.get(h:Pur fr σ m K ρ)(i:Nat):SV.rel m K (σ.get i) (ρ i):=by
 unfold Zt.get;cases hl:look σ.top i with
 |some sv=>exact h.top i sv hl
 | none =>
   rcases h.old i hl with hd|he
   . show SV.rel m K (σ.base i) (ρ i);rw[h.dead i hd];trivial
   . show SV.rel m K (σ.base i) (ρ i);rw[he];exact (h.base i |> fun q=>SV.mono h.mono h.hK _ q)
theorem Pur.all(h:Pur fr σ m K ρ):∀a∈σ.H++σ.Hf,HA.ok m K a:=fun a ha=>by
 rcases V3.1 ha with ha|ha
 . exact h.okH a ha
 . exact HA.ok_mono h.mono h.hK (h.okF a ha)
theorem Pur.evr(h:Pur fr σ m K ρ)(n:Nat)(x:Operand):SV.rel m K (σ.evr n x) (Go.Proofs.YtpnmnbfbcgkcjaaGreatDoor.ev n ρ x):=by
 cases x with
 | tmp t =>
   show SV.rel m K (bif aO0 t n then σ.get t else .any) (bif aO0 t n then ρ t else undef);cases hb:aO0 t n with
   |true=>exact h.get t
   |false=>exact trivial
 |const v=>exact Cw v
 |func f=>exact⟨[],rfl,rfl⟩
 |global g=>trivial
theorem Pur.ev(h:Pur fr σ m K ρ)(n:Nat)(x:Operand):SV.rel m K (σ.ev n x) (Go.Proofs.YtpnmnbfbcgkcjaaGreatDoor.ev n ρ x):=iG _ (h.evr n x)
theorem Af{i j:Nat}{v:SV}{l:List (Nat×SV)}:look ((j,v)::l) i=if j=i then some v else look l i:=by
 show (bif Y3 j i then some v else look l i)=_;by_cases hj:j=i
 . subst hj;simp
 . have:Y3 j i=false:=by rw[bo0];intro h;exact hj (Y0 h)
   simp[this,hj]
theorem Pur.set(h:Pur fr σ m K ρ){d:Nat}{sv:SV}{v:Value}(hv:SV.rel m K sv v):Pur fr (σ.set d sv) m K (aY ρ d v) where
 hm:=h.hm
 hK:=h.hK
 nx:=h.nx
 kq:=h.kq
 base:=h.base
 dead:=h.dead
 old := fun i hi => by
   rw[show (σ.set d sv).top=(d,sv)::σ.top from rfl,Af]at hi;split at hi
   . cases hi
   . rename_i hne;have:Y3 i d=false:=by rw[bo0];intro h;exact hne (Y0 h).symm
     simpa[aY,upd,this]using h.old i hi
 top := fun i s hi => by
   rw[show (σ.set d sv).top=(d,sv)::σ.top from rfl,Af]at hi;split at hi
   . rename_i he;subst he;cases hi;simpa[aY,upd,bY0]using hv
   . rename_i hne;have:Y3 i d=false:=by rw[bo0];intro h;exact hne (Y0 h).symm
     simpa[aY,upd,this]using h.top i s hi
 okH:=h.okH
 okF:=h.okF
 mks:=h.mks
theorem Pur.fine(h:Pur fr σ m K ρ){d:Nat}{sv:SV}(hv:SV.rel m K sv (ρ d)):Pur fr (σ.set d sv) m K ρ:=by
 have:=h.set (d:=d) hv
 rwa [GV rfl]at this
theorem Pur.ref(h:Pur fr σ m K ρ){d:Nat}{sv:SV}(hv:∀m K u,SV.rel m K (σ.get d) u->SV.rel m K sv u)(hn:σ.get d≠.any):Pur fr (σ.ref d sv) m K ρ:=by
 unfold Zt.ref;split
 . exact h.fine (hv m K _ (h.get d))
 . rename_i hl;have hg:σ.get d=σ.base d:=by unfold Zt.get;rw[hl]
   rw[hg]at hv hn;have eq:∀i,(bif Y3 i d then sv else σ.base i)=if i=d then sv else σ.base i:=fun i=>by
     by_cases e:i=d
     . subst e;simp
     . have:Y3 i d=false:=by rw[bo0];intro h;exact e (Y0 h)
       simp[this,e]
   refine⟨h.hm,h.hK,h.nx,h.kq,fun i=>?_,fun i hi=>?_,h.old,h.top,h.okH,h.okF,h.mks⟩
   . show SV.rel fr.m fr.K (bif Y3 i d then sv else σ.base i) (fr.ρ i);rw[eq];split
     . rename_i e;subst e;exact hv _ _ _ (h.base i)
     . exact h.base i
   . show (bif Y3 i d then sv else σ.base i)=.any;rw[eq];split
     . rename_i e;subst e;exact absurd (h.dead i hi) hn
     . exact h.dead i hi
theorem iL{d:Nat}{sv:SV}:(σ.ref d sv).H=σ.H/\(σ.ref d sv).Hf=σ.Hf:=by
 unfold Zt.ref;split <;> exact⟨rfl,rfl⟩
theorem Rel.ref(h:Rel E fr σ m K ρ w){d:Nat}{sv:SV}(hv:∀m K u,SV.rel m K (σ.get d) u->SV.rel m K sv u)(hn:σ.get d≠.any):Rel E fr (σ.ref d sv) m K ρ w:=⟨h.toPur.ref hv hn,by
 have:=h.sep;unfold Zt.atoms Zt.fz at this ⊢;rw[iL.1,iL.2];exact this⟩
theorem Rel.set(h:Rel E fr σ m K ρ w){d:Nat}{sv:SV}{v:Value}(hv:SV.rel m K sv v):Rel E fr (σ.set d sv) m K (aY ρ d v) w:=⟨h.toPur.set hv,h.sep⟩
theorem Rel.fine(h:Rel E fr σ m K ρ w){d:Nat}{sv:SV}(hv:SV.rel m K sv (ρ d)):Rel E fr (σ.set d sv) m K ρ w:=⟨h.toPur.fine hv,h.sep⟩
theorem vC{f:SV->Option SV}:∀{a:HA},(a.sub f).conc m=a.conc m
 |.blk i c e cs=>rfl
 |.row i c e t l n=>rfl
 |.bld i l=>rfl
 |.od i c o x=>rfl
 |.hole i c e o l j cs=>rfl
 |.lp i s=>rfl
theorem fU{f:SV->Option SV}:∀(H:List HA),(H.map (HA.sub f)).map (HA.conc m)=H.map (HA.conc m)
 |[]=>rfl
 |a::H=>by rw[X5,X5,X5,vC,fU H]
theorem fp{f:SV->Option SV}(hf:∀a b v,f a=some b->SV.rel m K a v->SV.rel m K b v):∀{a:HA},a.ok m K->(a.sub f).ok m K
 |.blk i c e cs,⟨b,vs,h1,h2,h3⟩=>⟨b,vs,h1,h2,gq hf _ h3⟩
 |.row i c e t l n,h=>h
 |.bld i l,h=>h
 |.od i c o x,h=>h
 | .hole i c e o l j cs,h=>by
   obtain⟨ad,cap,K0,es,h1,h2,h3,h4,h5⟩:=h;exact⟨ad,cap,K0,es,h1,h2,h3,gq hf _ h4,h5⟩
 |.lp i s,h=>h
theorem dg{f:SV->Option SV}:∀(l:List (Nat×SV)) (i:Nat),look (bc f l) i=(look l i).map (SV.sub f)
 |[],i=>rfl
 | p :: l,i=>by
   show (bif Y3 p.1 i then some (p.2.sub f)else look (bc f l) i)=(bif Y3 p.1 i then some p.2 else look l i).map (SV.sub f);cases Y3 p.1 i with
   |true=>rfl
   |false=>exact dg l i
theorem AY{j:Nat}{v:SV}{u:Value}(h1:m[j]?=some (.val u))(h2:SV.rel m K v u):∀a b w,nM j v a=some b->SV.rel m K a w->SV.rel m K b w:=by
 intro a b w hf hr;unfold nM at hf;split at hf
 . rename_i i x;cases hb:Y3 i j with
   |false=>rw[hb]at hf;cases hf
   | true =>
     rw[hb]at hf;have hb:=Y0 hb;subst hb;cases hf;obtain⟨h3,h4⟩:=hr;rw[h1]at h3;cases h3;exact⟨h1,h2⟩
 . cases hf
theorem Pur.fix(h:Pur fr σ m K ρ){j:Nat}{v:SV}{u:Value}(h1:m[j]?=some (.val u))(h2:SV.rel m K v u):Pur fr (σ.fix j v) m K ρ where
 hm:=h.hm
 hK:=h.hK
 nx:=h.nx
 kq:=h.kq
 base:=h.base
 dead:=h.dead
 old:=fun i hi=>by
   rw[show look (σ.fix j v).top i=_ from dg σ.top i]at hi;cases hl:look σ.top i with
   |none=>exact h.old i hl
   |some x=>rw[hl]at hi;cases hi
 top := fun i sv hi => by
   rw[show look (σ.fix j v).top i=_ from dg σ.top i]at hi;cases hl:look σ.top i with
   |none=>rw[hl]at hi;cases hi
   | some x =>
     rw[hl]at hi;cases hi;exact fg (AY h1 h2) x (h.top i x hl)
 okH:=fun a ha=>by
   obtain⟨a0,h0,rfl⟩:=Y7.1 ha;exact fp (AY h1 h2) (h.okH a0 h0)
 okF:=h.okF
 mks:=h.mks
theorem Rel.fix(h:Rel E fr σ m K ρ w){j:Nat}{v:SV}{u:Value}(h1:m[j]?=some (.val u))(h2:SV.rel m K v u):Rel E fr (σ.fix j v) m K ρ w:=⟨h.toPur.fix h1 h2,by
 have:=h.sep;unfold Zt.atoms at this ⊢;rw[show (σ.fix j v).H=σ.H.map (HA.sub (nM j v))from rfl,fU];exact this⟩
def Fine(m:List M)(K:Hp)(ρ:Sl1)(σ σ':Zt):Prop:=σ'=σ\/(∃d sv,σ'=σ.ref d sv/\(∀m K u,SV.rel m K (σ.get d) u->SV.rel m K sv u)/\σ.get d≠.any)\/∃j v u,σ'=σ.fix j v/\m[j]?=some (.val u)/\SV.rel m K v u
theorem Fine.rel{σ':Zt}(f:Fine m K ρ σ σ')(h:Rel E fr σ m K ρ w):Rel E fr σ' m K ρ w:=by
 rcases f with rfl|⟨d,sv,rfl,hv,hn⟩|⟨j,v,u,rfl,h1,h2⟩
 . exact h
 . exact h.ref hv hn
 . exact h.fix h1 h2
end
end
section
variable [BldA]
structure Cls(E:En)(C:World->Prop)(mem:Bool)(A:List HA)(m:List M)(K:Hp):Prop where
 rd:∀a∈A,HA.ok m K a/\∀w,C w->∃K' L',Sep E K' (HA.conc m a::L') w
 kn:mem=true->∀b o v,be K b o=some v->Rd C b o v
section
variable {R:Type}{P:Program}{E:En}{n:Nat}{C:World->Prop}{mem:Bool}{A:List HA}{m:List M}{K:Hp}{fr:Frz}{σ:Zt}{ρ:Sl1}
theorem nj{s:TypeId}{cs:List SV}{o b o0:Nat}{sv:SV}{us:List Value}(h:ldv P s cs o=some sv)(hr:SV.relL m K cs us)(hrd:∀j u,us[j]?=some u->Rd C b (o0+j) u):∃v,Ld P C s b (o0+o) v/\SV.rel m K sv v:=by
 unfold ldv at h;cases hs:cV P s with
 | true =>
   rw[hs]at h;obtain⟨u,hu,hr⟩:=iy hr (show cs[o]?=some sv from h);exact⟨u,Ld.sc hs (hrd o u hu),hr⟩
 | false =>
   rw[hs]at h;simp only[cond_false]at h;split at h
   . rename_i fs z hu hz;cases hb:aT0 (o+z) cs.length with
     |false=>rw[hb]at h;cases h
     | true =>
       rw[hb]at h;cases h;have hb:=W9 hb;have hl:=cG hr;refine⟨.agg ((us.drop o).take z).toArray,Ld.agg hu hz (by rw[X4,W8];omega) (fun j u hj=>?_),_,rfl,eW z (eX o hr)⟩;rw[aM0]at hj;split at hj
       . rw[bf0]at hj;have:=hrd (o+j) u hj
         rwa [<- aG0]at this
       . cases hj
   . rename_i len e z hu hz;cases hb:aT0 (o+z) cs.length with
     |false=>rw[hb]at h;cases h
     | true =>
       rw[hb]at h;cases h;have hb:=W9 hb;have hl:=cG hr;refine⟨.agg ((us.drop o).take z).toArray,Ld.arr hu hz (by rw[X4,W8];omega) (fun j u hj=>?_),_,rfl,eW z (eX o hr)⟩;rw[aM0]at hj;split at hj
       . rw[bf0]at hj;have:=hrd (o+j) u hj
         rwa [<- aG0]at this
       . cases hj
   . cases h
theorem Mi{s:TypeId}{cs:List SV}{o:Nat}{sv:SV}{us:List Value}(h:ldv P s cs o=some sv)(hr:SV.relL m K cs us):∃v,(∀w,(part s us.toArray o).run P w=.ok v w)/\SV.rel m K sv v:=by
 unfold ldv at h;cases hs:cV P s with
 | true =>
   rw[hs]at h;obtain⟨u,hu,hr⟩:=iy hr (show cs[o]?=some sv from h);exact⟨u,Ld0.sc hs (by simpa using hu),hr⟩
 | false =>
   rw[hs]at h;simp only[cond_false]at h;split at h
   . rename_i fs z hu hz;cases hb:aT0 (o+z) cs.length with
     |false=>rw[hb]at h;cases h
     | true =>
       rw[hb]at h;cases h;refine⟨.agg ((us.drop o).take z).toArray,Ld0.agg hu hz ?_,_,rfl,eW z (eX o hr)⟩;rw[cL0];simp[ci0]
   . rename_i len e z hu hz;cases hb:aT0 (o+z) cs.length with
     |false=>rw[hb]at h;cases h
     | true =>
       rw[hb]at h;cases h;refine⟨.agg ((us.drop o).take z).toArray,Ld0.arr hu hz ?_,_,rfl,eW z (eX o hr)⟩;rw[cL0];simp[ci0]
   . cases h
theorem rO{x:Operand}{k:Zt->SV->Option R}{r:R}(h:der σ x (σ.evr n x) k=some r)(hp:Pur fr σ m K ρ):∃σ' v',k σ' v'=some r/\Fine m K ρ σ σ'/\SV.rel m K v' (ev n ρ x):=by
 have hx:=hp.evr n x;unfold der at h;split at h
 . rename_i t y hy;obtain⟨z,rfl,h⟩:=ob h;rw[hy]at hx;obtain⟨b,o,hv,hat⟩:=Is.ptr hx;have hk:SV.rel m K (.kat t z 0) (ev n ρ x):=⟨b,o,hv,hat⟩;cases x with
   | tmp i =>
     have hb:aO0 i n=true:=by
       cases hb:aO0 i n with
       |true=>rfl
       | false =>
         have:σ.evr n (.tmp i)=.any:=by show (bif aO0 i n then σ.get i else .any)=_;rw[hb];rfl
         rw[this]at hy;cases hy
     have hg:σ.get i=.pk t (some z):=by
       have:σ.evr n (.tmp i)=σ.get i:=by show (bif aO0 i n then σ.get i else .any)=_;rw[hb];rfl
       rw[<- this];exact hy
     refine⟨_,_,h,.inr (.inl ⟨i,_,rfl,fun m K u hu=>?_,by rw[hg];nofun⟩),hk⟩;rw[hg]at hu;obtain⟨b,o,hv,hat⟩:=Is.ptr hu;exact⟨b,o,hv,hat⟩
   |_=>exact⟨_,_,h,.inl rfl,hk⟩
 . rename_i j w hy;rw[hy]at hx;obtain⟨hj,hx⟩:=hx;split at h
   . obtain⟨z,rfl,h⟩:=ob h;obtain⟨b,o,hv,hat⟩:=Is.ptr hx;have hk:SV.rel m K (.kat _ z 0) (ev n ρ x):=⟨b,o,hv,hat⟩;exact⟨_,_,h,.inr (.inr ⟨j,_,_,rfl,hj,hk⟩),hk⟩
   . exact⟨_,_,h,.inl rfl,iG _ hx⟩
 . exact⟨_,_,h,.inl rfl,iG _ hx⟩
theorem Cls.blk(hc:Cls E C mem A m K){i c:Nat}{e:TypeId}{cs:List SV}(ha:HA.blk i c e cs∈A):∃b vs,m[i]?=some (.val (.pointer (some ⟨b,0,none⟩)))/\SV.relL m K cs vs/\∀j u,vs[j]?=some u->Rd C b j u:=by
 obtain⟨⟨b,vs,h1,h2,h3⟩,h4⟩:=hc.rd _ ha;refine⟨b,vs,h1,h3,fun j u hu w hw=>?_⟩;obtain⟨K',L',hs⟩:=h4 w hw;simp only[HA.conc,h1,h2]at hs;have:=hs.cl;simp[World.cell?,this,hu]
theorem Cls.row(hc:Cls E C mem A m K){i c:Nat}{e:TypeId}{t:Tp}{l:List t.den}{k:Nat}(ha:HA.row i c e t l k∈A):∃ad cap cs,m[i]?=some (.val (.slice ad k cap))/\m[c]?=some (.cont t l cs)/\Els K t cs l/\(∀g,ad=some ⟨g,0,none⟩->∀j u,cs[j]?=some u->Rd C g j u):=by
 obtain⟨⟨ad,cap,cs,h1,h2,h3,h5⟩,h4⟩:=hc.rd _ ha;refine⟨ad,cap,cs,h1,h2,h3,fun g hg j u hu w hw=>?_⟩;obtain⟨K',L',h0,hr,hd,hs⟩:=h4 w hw;simp only[HA.conc,h1,h2]at hr;obtain⟨g',cap',hv,hcell⟩:=hr.cells j u hu;simp only[Value.slice.injEq]at hv;obtain⟨rfl,_⟩:=hv;cases hg;exact dX hs.sub (gt (fun n o e=>Hp.join_right e (hd n o e)) hcell)
theorem Cls.hol(hc:Cls E C mem A m K){i c:Nat}{e:TypeId}{o:OT}{l:List o.tp.den}{j:Int}{cs:List SV}(ha:HA.hole i c e o l j cs∈A):∃g cap es,m[i]?=some (.val (.slice (some ⟨g,0,none⟩) l.length cap))/\SV.relL m K cs es/\es.length=o.tp.size/\(∀q u,es[q]?=some u->Rd C g (j.toNat*o.tp.size+q) u):=by
 obtain⟨⟨ad,cap,K0,es,h1,h2,h3,h5,h6,h7,h8,g,rfl⟩,h4⟩:=hc.rd _ ha;refine⟨g,cap,es,h1,h5,h8,fun q u hu w hw=>?_⟩;obtain⟨K',L',hs⟩:=h4 w hw;simp only[HA.conc,h1,h2]at hs;obtain⟨h0,⟨c1,c2,hl,hst⟩,hd,hs⟩:=hs;have hs:=Sep.split ⟨h0,hst,hd,hs⟩;obtain⟨h0,hr,hd,hs⟩:=hs;obtain⟨g',cap',hv,hcell⟩:=hr.cells (j.toNat*o.tp.size+q) u (by
   rw[V5 (by omega),hl,cp0,V6 (V4.1 hu).1];exact hu)
 simp only[Value.slice.injEq]at hv;obtain⟨hg,_⟩:=hv;cases hg;exact dX hs.sub (gt (fun n o e=>Hp.join_right e (hd n o e)) hcell)
theorem OT.rv_rel:∀(o:OT) {es:List Value} {x:o.tp.den} {h:Hp},o.own K es x h->SV.relL m K (o.rv x) es
 |.dat t,es,x,h,k=>en t k.1
 |.row e a,es,x,h,⟨v,vs,e1,k⟩=>by subst e1;exact⟨v,[],rfl,trivial,rfl⟩
 | .box e a,es,x,h,k=>by
   unfold OT.own at k;split at k
   . rw[k.1];exact⟨_,[],rfl,trivial,rfl⟩
   . obtain⟨b,vs,rfl,k⟩:=k;exact⟨_,[],rfl,trivial,rfl⟩
 | .lbx e a,es,x,h,k=>by
   unfold OT.own at k;split at k
   . obtain⟨p,rfl,_⟩:=k;exact⟨_,[],rfl,trivial,rfl⟩
   . obtain⟨b,vs,rfl,k⟩:=k;exact⟨_,[],rfl,trivial,rfl⟩
 | .obj n u,es,x,h,k=>by
   unfold OT.own at k;split at k
   . rw[k.1];exact⟨_,[],rfl,trivial,rfl⟩
   . obtain⟨r,o,rfl,k⟩:=k;exact⟨_,[],rfl,trivial,rfl⟩
 | .chn a,es,x,h,k=>by
   unfold OT.own at k;split at k
   . rw[k.1];exact⟨_,[],rfl,trivial,rfl⟩
   . obtain⟨r,b,s,c,rfl,k⟩:=k;exact⟨_,[],rfl,trivial,rfl⟩
 |.one a,es,x,h,k=>OT.rv_rel a (x:=x) k
 | .cons a r,es,x,h,⟨c1,c2,e1,e2,h1,h2,k1,k2,d,e3⟩=>by
   subst e1;exact fc (OT.rv_rel a k1) (OT.rv_rel r k2)
theorem Hv{sv:SV}(h:sv.plain=true):∃u,∀v,SV.rel m K sv v↔v=u:=by
 unfold SV.plain at h;split at h <;> first|exact⟨_,fun _=>Iff.rfl⟩|cases h
theorem Cls.rows(hc:Cls E C mem A m K){i c:Nat}{e:TypeId}{o:OT}{l:List o.tp.den}(ha:HA.od i c (.row e o) l∈A):∃ad cap,m[i]?=some (.val (.slice ad l.length cap))/\(l.length≠0->∃g,ad=some ⟨g,0,none⟩)/\∀(j:Nat) (x:o.tp.den),l[j]?=some x->∀(q:Nat) (sv:SV) (u:Value),(o.rv x)[q]?=some sv->(∀v,SV.rel m K sv v↔v=u)->∀g,ad=some ⟨g,0,none⟩->Rd C g (j*o.tp.size+q) u:=by
 obtain⟨⟨v,K0,h1,h2,h3,ad,cap,rfl,h5⟩,h4⟩:=hc.rd _ ha;refine⟨ad,cap,h1,h5,fun j x hx q sv u hq hsv g hg w hw=>?_⟩;subst hg;obtain⟨K',L',hs⟩:=h4 w hw;simp only[HA.conc,h1,h2]at hs;obtain⟨v',vs,e1,hs⟩:=Sep.ownRow (a:=o) (xs:=l) hs;cases e1;obtain⟨c1,es,c2,rfl,k1,k2,k3⟩:=Sep.openEls (fun es x h k=>OT.own_len o k) j hx hs.swap;have h3':KOk K0 K o:=h3;have hes:SV.relL m K (o.rv x) es:=k3.swap.fact (fun h k=>OT.rv_rel o (KOk.own h3' k));obtain⟨u',hu',hr'⟩:=iy hes hq;obtain rfl:=(hsv u').1 hr';obtain⟨h0,hr,hd,hs⟩:=hs;obtain⟨g',cap',hv,hcell⟩:=hr.cells (j*o.tp.size+q) u' (by
   rw[V5 (by omega),k1,cp0,V6 (V4.1 hu').1];exact hu')
 simp only[Value.slice.injEq]at hv;obtain⟨hg,_⟩:=hv;cases hg;exact dX hs.sub (gt (fun n o e=>Hp.join_right e (hd n o e)) hcell)
theorem vZ{s:TypeId}{v:SV}{u:Value}{k:Zt->SV->Option R}{r:R}(h:load P A σ s v k=some r)(hmem:∀t x o,v=.kat t x o->mem=true)(hc:Cls E C mem A m K)(hv:SV.rel m K v u):∃sv b o u',k σ sv=some r/\u=.pointer (some ⟨b,o,none⟩)/\Ld P C s b o u'/\SV.rel m K sv u':=by
 unfold load at h;split at h
 . rename_i i o;split at h
   . rename_i q hq;split at h
     . rename_i sv hsv;obtain⟨a,ha,hmem⟩:=bA hq;obtain rfl:=cH ha;obtain⟨b,vs,h1,h2,h3⟩:=hc.blk hmem;obtain⟨b',h4,rfl⟩:=hv;rw[h1]at h4;cases h4;obtain⟨u',h5,h6⟩:=nj (o0:=0) hsv h2 (fun j u hu=>by rw[Y8];exact h3 j u hu);exact⟨sv,b,o,u',h,rfl,by rwa [Y8]at h5,h6⟩
     . cases h
   . cases h
 . rename_i t x o;split at h
   . rename_i sv hsv;obtain⟨b,o0,rfl,es,h1,h2,h3⟩:=hv;obtain⟨u',h5,h6⟩:=nj (o0:=o0) (C:=C) hsv (en t h2) (fun j u hu=>hc.kn (hmem _ _ _ rfl) b (o0+j) u (by rw[h3 j (by rw[<- h1];exact (V4.1 hu).1)];exact hu));exact⟨sv,b,o0+o,u',h,rfl,h5,h6⟩
   . cases h
 . rename_i i c t j x o;split at h
   . rename_i q hq;cases hb:Y3 q.c c with
     |false=>rw[hb]at h;cases h
     | true =>
       rw[hb]at h;simp only[cond_true]at h;have hb:=Y0 hb;split at h
       . rename_i sv hsv;obtain⟨a,ha,hmem⟩:=bA hq;obtain rfl:=bP ha;obtain⟨ad,cap,cs,h1,h2,h3,h4⟩:=hc.row hmem;obtain⟨g,n',cap',l,cs',h5,h6,h7,rfl⟩:=hv;rw[h1]at h5;cases h5;rw[hb,h6]at h2;cases h2;obtain⟨hj0,hx,_⟩:=dY h7;obtain⟨es,h8,h9,h10⟩:=h3.get _ _ hx;obtain⟨u',h11,h12⟩:=nj (o0:=j.toNat*q.t.size) (C:=C) hsv (en q.t h9) (fun p u hu=>h4 g rfl _ u (by rw[h10 p (by rw[<- h8];exact (V4.1 hu).1)];exact hu));exact⟨sv,g,_,u',h,rfl,h11,h12⟩
       . cases h
   . cases h
 . rename_i i o j off;obtain⟨g,n',cap',h5,hj0,hjn,rfl⟩:=hv;split at h
   . rename_i q hq;replace h:=kz h;obtain⟨hb,h⟩:=h;have hb:=Y0 hb;replace h:=ob h;obtain⟨_,hcj,h⟩:=h;have hcj:=(kz hcj).1;have hcj:j=q.j:=of_decide_eq_true hcj;split at h
     . rename_i sv hsv;obtain⟨a,ha,hmem⟩:=bA hq;obtain rfl:=iC ha;obtain⟨g',cap,es,h1,h2,h3,h4⟩:=hc.hol hmem;rw[h1]at h5;cases h5;obtain⟨u',h11,h12⟩:=nj (o0:=q.j.toNat*q.o.tp.size) (C:=C) hsv h2 (fun p u hu=>h4 _ u hu);exact⟨sv,g,_,u',h,rfl,by rw[hcj,hb];exact h11,h12⟩
     . cases h
   . split at h
     . rename_i q hq;replace h:=kz h;obtain⟨hb,h⟩:=h;rw[Y1]at hb;obtain⟨hb,hs⟩:=hb;have hb:=Y0 hb;replace h:=ob h;obtain⟨x,hx,h⟩:=h;obtain⟨_,hx,_⟩:=dY hx;split at h
       . rename_i sv hsv;replace h:=kz h;obtain⟨hpl,h⟩:=h;obtain⟨a,ha,hmem⟩:=bA hq;obtain rfl:=jT ha;obtain⟨ad,cap,h1,h2,h3⟩:=hc.rows hmem;obtain⟨u,hu⟩:=Hv (m:=m) (K:=K) hpl;rw[h1]at h5;simp only[Z3,M.val.injEq,Value.slice.injEq]at h5;obtain⟨rfl,_,_⟩:=h5;exact⟨sv,g,_,u,h,rfl,by rw[hb];exact Ld.sc hs (h3 _ x hx _ sv u hsv hu g rfl),(hu u).2 rfl⟩
       . cases h
     . cases h
 . cases h
theorem KX{v v':SV}{u:Value}{d:Nat}(h:yy v d=some v')(hv:SV.rel m K v u):∃b o,u=.pointer (some ⟨b,o,none⟩)/\SV.rel m K v' (.pointer (some ⟨b,o+d,none⟩)):=by
 unfold yy at h;split at h
 . cases h;obtain⟨b,h1,rfl⟩:=hv;exact⟨b,_,rfl,b,h1,rfl⟩
 . cases h;obtain⟨b,o0,rfl,h2⟩:=hv;exact⟨b,_,rfl,b,o0,by rw[aG0],h2⟩
 . cases h;obtain⟨g,n',cap,l,cs,h1,h2,h3,rfl⟩:=hv;exact⟨g,_,rfl,g,n',cap,l,cs,h1,h2,h3,by rw[aG0]⟩
 . cases h;obtain⟨g,n',cap,h1,h2,h3,rfl⟩:=hv;exact⟨g,_,rfl,g,n',cap,h1,h2,h3,by rw[aG0]⟩
 . cases h
theorem IB{B:List HA}{v:SV}{u:Value}{z:Int}(h:lenOf B v=some z)(hB:∀a∈B,HA.ok m K a)(hs:∀s,v≠.str s)(hv:SV.rel m K v u):∃ad k cap,u=.slice ad k cap/\z=(k:Nat):=by
 unfold lenOf at h;split at h
 . cases h;simp only[SV.rel]at hv;subst hv;exact⟨none,0,0,rfl,rfl⟩
 . cases h;obtain⟨hv,rfl⟩:=hv;obtain⟨ad,cap,rfl⟩:=hv.slv;exact⟨ad,_,cap,rfl,rfl⟩
 . exact absurd rfl (hs _)
 . cases h;obtain⟨b,_,rfl⟩:=hv;exact⟨_,_,_,rfl,rfl⟩
 . cases h;obtain⟨b,_,rfl⟩:=hv;exact⟨_,_,_,rfl,rfl⟩
 . split at h
   . rename_i i q hq;cases h;obtain⟨a,ha,hmem⟩:=bA hq;obtain rfl:=bP ha;obtain⟨ad,cap,cs,h1,_⟩:=hB _ hmem;have h2:=hv.1;rw[h1]at h2;cases h2;exact⟨ad,_,cap,rfl,rfl⟩
   . split at h
     . rename_i i _ q hq;cases h;obtain⟨a,ha,hmem⟩:=bA hq;obtain rfl:=jT ha;obtain⟨v',K0,h1,_,_,ad,cap,rfl,_⟩:=hB _ hmem;have h2:=hv.1;rw[h1]at h2;cases h2;exact⟨ad,_,cap,rfl,rfl⟩
     . split at h
       . rename_i i _ _ q hq;cases h;obtain⟨a,ha,hmem⟩:=bA hq;obtain rfl:=iC ha;obtain⟨ad,cap,K0,es,h1,_⟩:=hB _ hmem;have h2:=hv.1;rw[h1]at h2;cases h2;exact⟨ad,_,cap,rfl,rfl⟩
       . cases h
 . cases h
def iF(m:List M)(K:Hp):List (Nat×SV)->List (Nat×Value)->Prop
 |[],qs=>qs=[]
 |p::ps,qs=>∃u r,qs=(p.1,u)::r/\SV.rel m K p.2 u/\iF m K ps r
theorem uU(hp:Pur fr σ m K ρ):∀(ps:List (Nat×Operand)),iF m K (ps.map fun p=>(p.1,σ.ev n p.2)) (ps.map fun p=>(p.1,ev n ρ p.2))
 |[]=>rfl
 |p::ps=>⟨_,_,rfl,hp.ev n p.2,uU hp ps⟩
theorem zt(hp:Pur fr σ m K ρ):∀(ps:List (Nat×Operand)),iF m K (ps.map fun p=>(p.1,σ.evr n p.2)) (ps.map fun p=>(p.1,ev n ρ p.2))
 |[]=>rfl
 |p::ps=>⟨_,_,rfl,hp.evr n p.2,zt hp ps⟩
theorem AF {place:Nat->Option (Nat×Nat)}:∀ {ps:List (Nat×SV)} {cs ds:List SV} {us:List Value} {qs:List (Nat×Value)},rW place cs ps=some ds->SV.relL m K cs us->iF m K ps qs ->
   ∃xs,br place us qs=some xs/\SV.relL m K ds xs
 | [],cs,ds,us,qs,h,hr,hq=>by
   cases h;obtain rfl:qs=[]:=hq;exact⟨us,rfl,hr⟩
 | (i, v) :: r, cs, ds, us, qs, h, hr, hq => by
     obtain⟨u,qs,rfl,hu,hq⟩:=hq;unfold rW at h;split at h
     . rename_i off size vs hp hvs;cases hb:(Y3 vs.length size&&aT0 (off+size) cs.length)with
       |false=>rw[hb]at h;cases h
       | true =>
         rw[hb]at h;simp only[cond_true]at h;rw[Y1]at hb;have h1:=Y0 hb.1;have h2:=W9 hb.2;have hc:=mR hvs hu;have hl:=cG hc;have hlu:=cG hr;have hset:dk us off u.cells.toList=us.take off++u.cells.toList++us.drop (off+size):=by
           have gen:∀(xs:List Value) (us:List Value) (off:Nat),off+xs.length<=us.length->dk us off xs=us.take off++xs++us.drop (off+xs.length):=by
             intro xs
             induction xs with
             |nil=>intro us off _;simp[dk]
             | cons x xs ih =>
               intro us off hle;simp only[V9]at hle;unfold dk;rw[ih _ _ (by rw[ax0];omega),List.take_set,List.drop_set];rw[if_pos (by omega)];have e:us.take (off+1)=us.take off++[us[off]]:=by rw[ay0 (by omega)]
               rw[e,bu0 _ _ (by rw[X4];omega),X4,an0 (by omega),bs0];simp[bh0,eW0]
           rw[gen _ _ _ (by omega),hl,h1]
         have hs:SV.relL m K (cs.take off++vs++cs.drop (off+size)) (us.take off++u.cells.toList++us.drop (off+size)):=fc (fc (eW _ hr) hc) (eX _ hr);obtain⟨xs,h3,h4⟩:=AF h hs hq;refine⟨xs,?_,h4⟩;unfold br;simp only[hp];rw[show (Y3 u.cells.toList.length size&&aT0 (off+u.cells.toList.length) us.length)=true by
           rw[hl,h1,hlu,bY0,cd0,et0 h2]]
         rw[hset];exact h3
     . cases h
end
end
section
section
variable {P:Program}{n:Nat}{C:World->Prop}{ρ:Sl0}{d:Option Nat}{t:TypeId}{pos:String}{af:Array Edge}{g:Option (Nat×Bool)}{x y:Operand}
theorem V.iadA{tx e:TypeId}{b o len:Nat}{i:Int}{k:IntKind}{sz:Nat}(ht:P.underlying tx=some (.array len e))(hz:(P.info? e).map (·.size)=some sz)(hx:ev n ρ x=.pointer (some ⟨b,o,none⟩))(hy:ev n ρ y=.int k i)(h0:0<=i)(h1:i<(len:Int)) :
   Val P n C ρ ⟨d,.indexAddr tx x y,t,pos,af,g⟩ (.pointer (some ⟨b,o+i.toNat*sz,none⟩)):=fun w _=>by
 cases hi:P.info? e with
 |none=>rw[hi]at hz;simp at hz
 | some i' =>
   rw[hi]at hz;simp at hz;simp[execOp,hx,hy,Instr.indexAt,Instr.sureAddr,asIntOf,run_underlying ht,h0,h1,sizeOf,typeInfo,hi,hz,bB]
theorem V.buildA{s e:TypeId}{z:Value}{sz bt len sz1:Nat}{parts:Array (Nat×Operand)}{cs:List Value}{v:Value}(hi:Inf P s z sz bt)(hs:P.underlying s=some (.array len e))(hz:(P.info? e).map (·.size)=some sz1)(hc:br (fun i=>some (i*sz1,sz1)) z.cells.toList (parts.toList.map fun (i,x)=>(i,ev n ρ x))=some cs)(hcs : .agg cs.toArray=v):Val P n C ρ ⟨d,.build s parts,t,pos,af,g⟩ v:=fun w _=>by
 subst hcs;obtain⟨i,h1,h2,_,_⟩:=hi.open;have hc':Instr.fill (fun i=>some (i*sz1,sz1)) z.cells (cE0 (fun x=>(x.1,ev n ρ x.2)) parts.toList)=some cs.toArray:=jZ hc;cases hi':P.info? e with
 |none=>rw[hi']at hz;simp at hz
 | some i' =>
   rw[hi']at hz;simp at hz;simp[execOp,Instr.build,zeroValue,typeInfo,h1,h2,run_underlying hs,sizeOf,hi',hz,hc']
end
end
section
variable [BldA]
section
variable {R:Type}{P:Program}{E:En}{n:Nat}{C:World->Prop}{mem:Bool}{A:List HA}{m:List M}{K:Hp}{fr:Frz}{σ:Zt}{ρ:Sl1}
def VOk(P:Program)(n:Nat)(C:World->Prop)(m:List M)(K:Hp)(σ:Zt)(ρ:Sl1)(op:Op)(k:Zt->SV->Option R)(r:R):Prop :=
 ∃σ' sv v,k σ' sv=some r/\Fine m K ρ σ σ'/\SV.rel m K sv v/\∀(d:Option Nat) (t:TypeId) (pos:String) (af:Array Edge) (g:Option (Nat×Bool)),Val P n C ρ ⟨d,op,t,pos,af,g⟩ v
theorem ak{α:Type}{c:Bool}{x:Option α}{r:α}(h:(bif c then x else none)=some r):c=true/\x=some r:=by
 cases c
 . cases h
 . exact⟨rfl,h⟩
theorem eK{α:Type}{c:Bool}{x:Option α}{r:α}(h:(bif c then none else x)=some r):c=false/\x=some r:=by
 cases c
 . exact⟨rfl,h⟩
 . cases h
theorem C4{x y:List SV}{b:Bool}{us vs:List Value}(h:eqI x y=some b)(hx:SV.relL m K x us)(hy:SV.relL m K y vs):∃k a c,us=[.int k a]/\vs=[.int k c]/\b=decide (a=c):=by
 unfold eqI at h;split at h
 . split at h
   . rename_i hk;subst hk;cases h;obtain⟨p,q,rfl,h1,h2⟩:=aM hx;obtain rfl:=aU h2;obtain⟨p',q',rfl,h1',h2'⟩:=aM hy;obtain rfl:=aU h2';simp only[SV.rel]at h1 h1';subst h1 h1';exact⟨_,_,_,rfl,rfl,rfl⟩
   . cases h
 . cases h
theorem Cy{x y:List SV}{b:Bool}{us vs:List Value}(h:eqB x y=some b)(hx:SV.relL m K x us)(hy:SV.relL m K y vs):∃a c,us=[.bool a]/\vs=[.bool c]/\b=(a==c):=by
 unfold eqB at h;split at h
 . cases h;obtain⟨p,q,rfl,h1,h2⟩:=aM hx;obtain rfl:=aU h2;obtain⟨p',q',rfl,h1',h2'⟩:=aM hy;obtain rfl:=aU h2';simp only[SV.rel]at h1 h1';subst h1 h1';exact⟨_,_,rfl,rfl,rfl⟩
 . cases h
theorem CY{x y:List SV}{b:Bool}{us vs:List Value}(h:eqT x y=some b)(hx:SV.relL m K x us)(hy:SV.relL m K y vs):∃a c:List UInt8,us=[.string ⟨a.toArray⟩]/\vs=[.string ⟨c.toArray⟩]/\b=decide (a=c):=by
 unfold eqT at h;split at h
 . cases h;obtain⟨p,q,rfl,h1,h2⟩:=aM hx;obtain rfl:=aU h2;obtain⟨p',q',rfl,h1',h2'⟩:=aM hy;obtain rfl:=aU h2';simp only[SV.rel]at h1 h1';subst h1 h1';exact⟨_,_,rfl,rfl,rfl⟩
 . cases h
def AggT(P:Program)(t:TypeId):Prop:=(∃fs,P.underlying t=some (.struct fs))\/∃n e,P.underlying t=some (.array n e)
theorem AggT.no{t:TypeId}{d:TypeDesc}(hu:P.underlying t=some d)(h1:∀fs,d≠.struct fs)(h2:∀n e,d≠.array n e):¬ AggT P t:=fun h=>by
 rcases h with⟨fs,h⟩|⟨n,e,h⟩
 . rw[hu]at h;cases h;exact h1 _ rfl
 . rw[hu]at h;cases h;exact h2 _ _ rfl
theorem rn : ∀ (f : Nat) {t : TypeId} {x y : List SV} {b : Bool} {us vs : List Value} {d : Nat}, eqS P f t x y = some b -> f <= d -> SV.relL m K x us -> SV.relL m K y vs ->
   ∀{u v:Value},(us=[u]/\¬ AggT P t\/u=.agg us.toArray/\AggT P t)->(vs=[v]/\¬ AggT P t\/v=.agg vs.toArray/\AggT P t)->EqIn P d t u v b
 |0,t,x,y,b,us,vs,d,h,_,_,_,_,_,_,_=>by cases h
 | f + 1, t, x, y, b, us, vs, d, h, hd, hx, hy, u, v, hu, hv => by
   obtain⟨d,rfl⟩:∃d',d=d'+1:=⟨d-1,by omega⟩
   have leaf:¬ AggT P t->us=[u]/\vs=[v]:=fun hn=>by
     rcases hu with⟨hu,_⟩|⟨_,hf⟩
     . rcases hv with⟨hv,_⟩|⟨_,hf⟩
       . exact⟨hu,hv⟩
       . exact absurd hf hn
     . exact absurd hf hn
   have one:∀(g:TypeId) (o:Nat) (b:Bool),(match bx P g with|some z=>eqS P f g ((x.drop o).take z) ((y.drop o).take z)|none=>none)=some b ->
       ∃p q,(∀w,(part g us.toArray o).run P w=.ok p w)/\(∀w,(part g vs.toArray o).run P w=.ok q w)/\EqIn P d g p q b:=by
     intro g o b hg;split at hg
     . rename_i z hz;have rx:SV.relL m K ((x.drop o).take z) ((us.drop o).take z):=eW _ (eX _ hx);have ry:SV.relL m K ((y.drop o).take z) ((vs.drop o).take z):=eW _ (eX _ hy);by_cases hst:AggT P g
       . have hl:∀ws:List Value,∀w,(part g ws.toArray o).run P w=.ok (.agg ((ws.drop o).take z).toArray) w:=fun ws=>by
           rcases hst with⟨fs',hst⟩|⟨n',e',hst⟩
           . exact Ld0.agg hst hz (by rw[cL0];simp[ci0])
           . exact Ld0.arr hst hz (by rw[cL0];simp[ci0])
         exact⟨.agg ((us.drop o).take z).toArray,.agg ((vs.drop o).take z).toArray,hl us,hl vs,rn f hg (by omega) rx ry (.inr ⟨rfl,hst⟩) (.inr ⟨rfl,hst⟩)⟩
       . have key:∃p q,(us.drop o).take z=[p]/\(vs.drop o).take z=[q]/\cV P g=true:=by
           have:=hg;cases f with
           |zero=>cases this
           | succ f =>
             unfold eqS at this;split at this
             . rename_i ht';obtain⟨_,_,_,h1,h2,_⟩:=C4 this rx ry;exact⟨_,_,h1,h2,by unfold cV;rw[ht']⟩
             . rename_i ht';obtain⟨_,_,h1,h2,_⟩:=Cy this rx ry;exact⟨_,_,h1,h2,by unfold cV;rw[ht']⟩
             . rename_i ht';obtain⟨_,_,h1,h2,_⟩:=CY this rx ry;exact⟨_,_,h1,h2,by unfold cV;rw[ht']⟩
             . rename_i ht';exact absurd (.inl ⟨_,ht'⟩) hst
             . rename_i ht';exact absurd (.inr ⟨_,_,ht'⟩) hst
             . cases this
         obtain⟨p,q,e1,e2,hsc⟩:=key;have g1:us[o]?=some p:=by
           have:((us.drop o).take z)[0]?=some p:=by rw[e1];rfl
           rw[aM0]at this;split at this
           . rw[bf0]at this;simpa using this
           . cases this
         have g2:vs[o]?=some q:=by
           have:((vs.drop o).take z)[0]?=some q:=by rw[e2];rfl
           rw[aM0]at this;split at this
           . rw[bf0]at this;simpa using this
           . cases this
         exact⟨p,q,Ld0.sc hsc (by simpa using g1),Ld0.sc hsc (by simpa using g2),rn f hg (by omega) rx ry (.inl ⟨e1,hst⟩) (.inl ⟨e2,hst⟩)⟩
     . cases hg
   unfold eqS at h;split at h
   . rename_i k0 ht;obtain⟨e1,e2⟩:=leaf (AggT.no ht (by intro _ h;cases h) (by intro _ _ h;cases h));obtain⟨k,a,c,h1,h2,rfl⟩:=C4 h hx hy;rw[e1]at h1;rw[e2]at h2;cases h1;cases h2;exact EqIn.int rfl ht
   . rename_i ht;obtain⟨e1,e2⟩:=leaf (AggT.no ht (by intro _ h;cases h) (by intro _ _ h;cases h));obtain⟨a,c,h1,h2,rfl⟩:=Cy h hx hy;rw[e1]at h1;rw[e2]at h2;cases h1;cases h2;exact EqIn.bool rfl ht
   . rename_i ht;obtain⟨e1,e2⟩:=leaf (AggT.no ht (by intro _ h;cases h) (by intro _ _ h;cases h));obtain⟨a,c,h1,h2,rfl⟩:=CY h hx hy;rw[e1]at h1;rw[e2]at h2;cases h1;cases h2;exact EqIn.str rfl ht
   . rename_i fs ht;replace h:=eK h;obtain⟨h0,h⟩:=h
     rcases hu with⟨_,hu⟩|⟨rfl,_⟩
     . exact absurd (.inl ⟨_,ht⟩) hu
     rcases hv with⟨_,hv⟩|⟨rfl,_⟩
     . exact absurd (.inl ⟨_,ht⟩) hv
     refine EqIn.st rfl ht h0 ?_;have gen:∀(fs:List Field) (b:Bool),eqS.go P (fun g a b=>eqS P f g a b) fs x y=some b->EqFs P d us.toArray vs.toArray fs b:=by
       intro fs
       induction fs with
       |nil=>intro b hb;cases hb;exact EqFs.nil
       | cons g gs ih =>
         intro b hb;cases gs with
         | nil =>
           unfold eqS.go at hb;obtain⟨hn,hb⟩:=eK hb;obtain⟨p,q,h1,h2,h3⟩:=one g.type g.offset b hb;exact EqFs.last (by simpa using hn) h1 h2 h3
         | cons g2 gs =>
           unfold eqS.go at hb;obtain⟨hn,hb⟩:=eK hb;split at hb
           . rename_i z hz;split at hb
             . rename_i b1 b2 e1 e2;cases hb;obtain⟨p,q,h1,h2,h3⟩:=one g.type g.offset b1 (by rw[hz];exact e1);exact EqFs.cons (by simpa using hn) h1 h2 h3 (ih _ e2)
             . cases hb
           . cases hb
     exact gen _ _ h
   . rename_i len e ht;split at h
     . rename_i z hz
       rcases hu with⟨_,hu⟩|⟨rfl,_⟩
       . exact absurd (.inr ⟨_,_,ht⟩) hu
       rcases hv with⟨_,hv⟩|⟨rfl,_⟩
       . exact absurd (.inr ⟨_,_,ht⟩) hv
       refine EqIn.arr rfl ht hz ?_;rw[List.range_eq_range'];have gen:∀(n i:Nat) (b:Bool),eqA (fun a b=>eqS P f e a b) z x y n i=some b->EqIs P d e z us.toArray vs.toArray (List.range' i n) b:=by
         intro n
         induction n with
         |zero=>intro i b hb;cases hb;exact EqIs.nil
         | succ n ih =>
           intro i b hb;cases n with
           | zero =>
             obtain⟨p,q,h1,h2,h3⟩:=one e (i*z) b (by rw[hz];exact hb);have:=EqIs.cons (is:=[]) h1 h2 h3 EqIs.nil;rw[en0]at this;exact this
           | succ n =>
             unfold eqA at hb;split at hb
             . rename_i b1 b2 e1 e2;cases hb;obtain⟨p,q,h1,h2,h3⟩:=one e (i*z) b1 (by rw[hz];exact e1);exact EqIs.cons h1 h2 h3 (ih _ _ e2)
             . cases hb
       exact gen _ _ _ h
     . cases h
   . cases h
def Bok(P:Program)(n:Nat)(C:World->Prop)(m:List M)(K:Hp)(σ:Zt)(ρ:Sl1)(op:BinOp)(t:TypeId)(x y:Operand)(k:Zt->SV->Option R)(r:R):Prop :=
 ∃sv v,k σ sv=some r/\SV.rel m K sv v/\∀(yt:TypeId) (d:Option Nat) (t':TypeId) (pos:String) (af:Array Edge) (g:Option (Nat×Bool)),Val P n C ρ ⟨d,.binOp op t x y yt,t',pos,af,g⟩ v
section
variable {op:BinOp}{t:TypeId}{x y:Operand}{k:Zt->SV->Option R}{r:R}
theorem Jd{q:IntKind}{a b:Int}{sv:SV}(h:xw op q a b=some sv)(hx:ev n ρ x=.int q a)(hy:ev n ρ y=.int q b):∃v,SV.rel m K sv v/\∀(yt:TypeId) (d:Option Nat) (t':TypeId) (pos:String) (af:Array Edge) (g:Option (Nat×Bool)),Val P n C ρ ⟨d,.binOp op t x y yt,t',pos,af,g⟩ v:=by
 unfold xw at h;split at h <;> first|(cases h;done)|skip
 all_goals cases h
 . exact⟨_,rfl,fun _ _ _ _ _ _=>V.add hx hy⟩
 . exact⟨_,rfl,fun _ _ _ _ _ _=>V.sub hx hy⟩
 . exact⟨_,rfl,fun _ _ _ _ _ _=>V.mul hx hy⟩
 . exact⟨_,rfl,fun _ _ _ _ _ _=>V.and hx hy⟩
 . exact⟨_,rfl,fun _ _ _ _ _ _=>V.or hx hy⟩
 . exact⟨_,rfl,fun _ _ _ _ _ _=>V.xor hx hy⟩
 . exact⟨_,rfl,fun _ _ _ _ _ _=>V.andNot hx hy⟩
 . exact⟨_,rfl,fun _ _ _ _ _ _=>V.lss hx hy⟩
 . exact⟨_,rfl,fun _ _ _ _ _ _=>V.leq hx hy⟩
 . exact⟨_,rfl,fun _ _ _ _ _ _=>V.gtr hx hy⟩
 . exact⟨_,rfl,fun _ _ _ _ _ _=>V.geq hx hy⟩
 . exact⟨_,rfl,fun _ _ _ _ _ _=>V.eql hx hy⟩
 . exact⟨_,rfl,fun _ _ _ _ _ _=>V.neq hx hy⟩
theorem JE{q q':IntKind}{a b:Int}(h:yk σ op q a q' b k=some r)(hx:ev n ρ x=.int q a)(hy:ev n ρ y=.int q' b):Bok P n C m K σ ρ op t x y k r:=by
 unfold yk at h;split at h
 . replace h:=ob h;obtain⟨_,hu,h⟩:=h;exact⟨_,_,h,rfl,fun _ _ _ _ _ _=>V.shl hx hy (AV hu)⟩
 . replace h:=ob h;obtain⟨_,hu,h⟩:=h;exact⟨_,_,h,rfl,fun _ _ _ _ _ _=>V.shr hx hy (AV hu)⟩
 . split at h
   . rename_i hq;subst hq;replace h:=ob h;obtain⟨_,hu,h⟩:=h;exact⟨_,_,h,rfl,fun _ _ _ _ _ _=>V.quo hx hy (Cc hu)⟩
   . cases h
 . split at h
   . rename_i hq;subst hq;replace h:=ob h;obtain⟨_,hu,h⟩:=h;exact⟨_,_,h,rfl,fun _ _ _ _ _ _=>V.rem hx hy (Cc hu)⟩
   . cases h
 . split at h
   . rename_i hq;subst hq;split at h
     . rename_i v hv;obtain⟨u,h1,h2⟩:=Jd (P:=P) (C:=C) (m:=m) (K:=K) (t:=t) hv hx hy;exact⟨_,u,h,h1,h2⟩
     . cases h
   . cases h
theorem KY{a b:Bool}(h:yD P σ op t a b k=some r)(hx:ev n ρ x=.bool a)(hy:ev n ρ y=.bool b):Bok P n C m K σ ρ op t x y k r:=by
 unfold yD at h;split at h
 . rename_i ht;split at h
   . exact⟨_,_,h,rfl,fun _ _ _ _ _ _=>V.eqb ht hx hy⟩
   . exact⟨_,_,h,rfl,fun _ _ _ _ _ _=>V.neb ht hx hy⟩
   . cases h
 . cases h
theorem JI{a b:List UInt8}(h:yi σ op a b k=some r)(hx:ev n ρ x=.string ⟨a.toArray⟩)(hy:ev n ρ y=.string ⟨b.toArray⟩):Bok P n C m K σ ρ op t x y k r:=by
 unfold yi at h;split at h
 . exact⟨_,_,h,rfl,fun _ _ _ _ _ _=>V.eqs hx hy⟩
 . exact⟨_,_,h,rfl,fun _ _ _ _ _ _=>V.nes hx hy⟩
 . replace h:=ob h;obtain⟨z,hz,h⟩:=h;exact⟨_,_,h,rfl,fun _ _ _ _ _ _=>V.cat hx hy hz⟩
 . cases h
theorem Jz{a b:List SV}{us vs:List Value}(h:yp P σ op t a b k=some r)(ha:SV.relL m K a us)(hb:SV.relL m K b vs)(hx:ev n ρ x=.agg us.toArray)(hy:ev n ρ y=.agg vs.toArray):Bok P n C m K σ ρ op t x y k r:=by
 unfold yp at h;replace h:=eK h;obtain⟨hg,h⟩:=h;split at h
 . rename_i fs e ht he;have hst:AggT P t:=.inl ⟨fs,ht⟩;have hq:EqIn P 10000 t (.agg us.toArray) (.agg vs.toArray) e:=rn 10 he (by decide) ha hb (.inr ⟨rfl,hst⟩) (.inr ⟨rfl,hst⟩);split at h
   . exact⟨_,_,h,rfl,fun _ _ _ _ _ _=>V.eqst hg hq hx hy⟩
   . exact⟨_,_,h,rfl,fun _ _ _ _ _ _=>V.nest hg hq hx hy⟩
   . cases h
 . rename_i len ee e ht he;have hst:AggT P t:=.inr ⟨len,ee,ht⟩;have hq:EqIn P 10000 t (.agg us.toArray) (.agg vs.toArray) e:=rn 10 he (by decide) ha hb (.inr ⟨rfl,hst⟩) (.inr ⟨rfl,hst⟩);split at h
   . exact⟨_,_,h,rfl,fun _ _ _ _ _ _=>V.eqst hg hq hx hy⟩
   . exact⟨_,_,h,rfl,fun _ _ _ _ _ _=>V.nest hg hq hx hy⟩
   . cases h
 . cases h
theorem HH{B:List HA}{v:SV}{b:Bool}{u:Value}(h:xm B v=some b)(hB:∀a∈B,HA.ok m K a)(hv:SV.rel m K v u):∃p,u=.pointer p/\b=p.isNone:=by
 unfold xm at h;split at h
 . split at h
   . rename_i q hq;cases h;obtain⟨a,ha,hmem⟩:=bA hq;obtain rfl:=BX ha;obtain⟨v,K0,h1,_,_,h5⟩:=hB _ hmem;have h2:=hv.1;rw[h1]at h2;cases h2
     rcases h5 with⟨e,rfl⟩|⟨y,b,e,rfl⟩
     . exact⟨_,rfl,by rw[e];rfl⟩
     . exact⟨_,rfl,by rw[e];rfl⟩
   . cases h
 . cases h;obtain⟨g,_,_,_,_,_,rfl⟩:=hv;exact⟨_,rfl,rfl⟩
 . cases h;simp only[SV.rel]at hv;exact⟨_,hv,rfl⟩
 . cases h;obtain⟨b,_,rfl⟩:=hv;exact⟨_,rfl,rfl⟩
 . cases h;obtain⟨b,o,rfl,_⟩:=hv;exact⟨_,rfl,rfl⟩
 . rename_i t x;cases h;cases x with
   |none=>exact⟨_,Is.ptr0 hv,rfl⟩
   |some y=>obtain⟨b,o,rfl,_⟩:=Is.ptr hv;exact⟨_,rfl,rfl⟩
 . cases h
theorem Kh{v:SV}(h:yz P σ op t v k=some r)(hB:∀a∈σ.H++σ.Hf,HA.ok m K a)(hx:SV.rel m K v (ev n ρ x))(hy:ev n ρ y=.pointer none):Bok P n C m K σ ρ op t x y k r:=by
 unfold yz at h;split at h
 . rename_i e b ht hb;obtain⟨p,hp,rfl⟩:=HH hb hB hx;split at h
   . exact⟨_,_,h,rfl,fun _ _ _ _ _ _=>V.pn_eql ht hp hy⟩
   . exact⟨_,_,h,rfl,fun _ _ _ _ _ _=>V.pn_neq ht hp hy⟩
   . cases h
 . cases h
theorem JJ{f:Fn}{u v:Array Value}(h:xR P σ op t k=some r)(hx:ev n ρ x=.func f u v)(hy:ev n ρ y=.nilFunc):Bok P n C m K σ ρ op t x y k r:=by
 unfold xR at h;split at h
 . rename_i a b c ht;split at h
   . exact⟨_,_,h,rfl,fun _ _ _ _ _ _=>V.fn_eql ht hx hy⟩
   . exact⟨_,_,h,rfl,fun _ _ _ _ _ _=>V.fn_neq ht hx hy⟩
   . cases h
 . cases h
theorem V.ifc_eql{ms:Array (String×TypeId)}{u:TypeId}{v:Value}{a b:Operand}{T:TypeId}(ht:P.underlying t=some (.interface ms))(hx:ev n ρ a=.iface u v)(hy:ev n ρ b=.nilIface){C:World->Prop}{d:Option Nat}{ty:TypeId}{pos:String}{af:Array Edge}{g:Option (Nat×Bool)}:Val P n C ρ ⟨d,.binOp .eql t a b T,ty,pos,af,g⟩ (.bool false):=fun w _=>by
 have h:(Op.equal t (.iface u v) .nilIface).run P w=.ok false w:=by
   unfold Op.equal;rw[show Op.maxDepth=9999+1 from rfl,Op.equalIn];simp only[Sem.run_bind,run_underlying ht,Result.andThen];rfl
 simp[execOp,eqGuard,hx,hy,binOp,h]
theorem V.ifc_neq{ms:Array (String×TypeId)}{u:TypeId}{v:Value}{a b:Operand}{T:TypeId}(ht:P.underlying t=some (.interface ms))(hx:ev n ρ a=.iface u v)(hy:ev n ρ b=.nilIface){C:World->Prop}{d:Option Nat}{ty:TypeId}{pos:String}{af:Array Edge}{g:Option (Nat×Bool)}:Val P n C ρ ⟨d,.binOp .neq t a b T,ty,pos,af,g⟩ (.bool true):=fun w _=>by
 have h:(Op.equal t (.iface u v) .nilIface).run P w=.ok false w:=by
   unfold Op.equal;rw[show Op.maxDepth=9999+1 from rfl,Op.equalIn];simp only[Sem.run_bind,run_underlying ht,Result.andThen];rfl
 simp[execOp,eqGuard,hx,hy,binOp,h]
theorem Js{u:TypeId}{v:Value}(h:xX P σ op t k=some r)(hx:ev n ρ x=.iface u v)(hy:ev n ρ y=.nilIface):Bok P n C m K σ ρ op t x y k r:=by
 unfold xX at h;split at h
 . rename_i ms ht;split at h
   . exact⟨_,_,h,rfl,fun _ _ _ _ _ _=>V.ifc_eql ht hx hy⟩
   . exact⟨_,_,h,rfl,fun _ _ _ _ _ _=>V.ifc_neq ht hx hy⟩
   . cases h
 . cases h
theorem zU {v sv:SV} {neg:Bool} {u:Value} (h:rF σ neg v=some sv) (hB:∀ a∈σ.H++σ.Hf,HA.ok m K a) (hv:SV.rel m K v u):∃ p l c,u = .slice p l c/\SV.rel m K sv (.bool (p.isNone ^^ neg)):=by
 unfold rF at h;split at h
 . cases h;simp only[SV.rel]at hv;subst hv;exact⟨none,0,0,rfl,by cases neg <;> rfl⟩
 . rename_i t l k;cases h;obtain⟨hi,rfl⟩:=hv;obtain⟨ad,cap,rfl⟩:=hi.slv;refine⟨ad,_,cap,rfl,ad.isNone,rfl,fun hn=>?_⟩;cases ad with
   |none=>exact hi.nil_of
   |some a=>cases hn
 . split at h
   . rename_i i q hq;cases h;obtain⟨a,ha,hmem⟩:=bA hq;obtain rfl:=bP ha;obtain⟨ad,cap,cs,h1,_,_,_,_,_,h2⟩:=hB _ hmem;have h3:=hv.1;rw[h1]at h3;cases h3;refine⟨ad,_,cap,rfl,ad.isNone,rfl,fun hn=>?_⟩;cases ad with
     |none=>exact C1 h2
     |some a=>cases hn
   . split at h
     . rename_i q hq;cases h;obtain⟨a,ha,hmem⟩:=bA hq;obtain rfl:=jT ha;obtain⟨v',K0,h1,_,_,ad,cap,rfl,h2⟩:=hB _ hmem;have h3:=hv.1;rw[h1]at h3;cases h3;refine⟨ad,_,cap,rfl,ad.isNone,rfl,fun hn=>?_⟩;cases ad with
       | none =>
         cases hl:q.l with
         |nil=>rfl
         | cons y ys =>
           obtain⟨g,hg⟩:=h2 (by rw[hl];exact Nat.succ_ne_zero _);cases hg
       |some a=>cases hn
     . cases h
 . cases h
theorem JF{v:SV}(h:ye P σ op t v k=some r)(hB:∀a∈σ.H++σ.Hf,HA.ok m K a)(hx:SV.rel m K v (ev n ρ x))(hy:ev n ρ y=.slice none 0 0):Bok P n C m K σ ρ op t x y k r:=by
 unfold ye at h;split at h
 . rename_i e ht;split at h
   . split at h
     . rename_i sv hsv;obtain⟨p,l,c,hp,hr⟩:=zU hsv hB hx;rw[dY0]at hr;exact⟨_,_,h,hr,fun _ _ _ _ _ _=>V.sn_eql ht hp hy⟩
     . cases h
   . split at h
     . rename_i sv hsv;obtain⟨p,l,c,hp,hr⟩:=zU hsv hB hx;rw[em0]at hr;exact⟨_,_,h,hr,fun _ _ _ _ _ _=>V.sn_neq ht hp hy⟩
     . cases h
   . cases h
 . cases h
theorem Mj(h:bin P σ op t (σ.ev n x) (σ.ev n y) k=some r)(hp:Pur fr σ m K ρ):Bok P n C m K σ ρ op t x y k r:=by
 have hx:=hp.ev n x;have hy:=hp.ev n y;unfold bin at h;split at h
 . rename_i e1 e2;rw[e1]at hx;rw[e2]at hy;exact JE h hx hy
 . rename_i e1 e2;rw[e1]at hx;rw[e2]at hy;exact KY h hx hy
 . rename_i e1 e2;rw[e1]at hx;rw[e2]at hy;exact JI h hx hy
 . rename_i e1 e2;rw[e1]at hx;rw[e2]at hy;obtain⟨us,hx,h1⟩:=hx;obtain⟨vs,hy,h2⟩:=hy;exact Jz h h1 h2 hx hy
 . rename_i e1 e2;rw[e1]at hx;rw[e2]at hy;obtain⟨us,hx,h1⟩:=hx;exact JJ h hx hy
 . rename_i e1 e2;rw[e1]at hx;rw[e2]at hy;obtain⟨us,hx,h1⟩:=hx;exact Js h hx hy
 . rename_i e2;rw[e2]at hy;exact Kh h hp.all hx hy
 . rename_i e2;rw[e2]at hy;exact JF h hp.all hx hy
 . cases h
end
section
variable {k:Zt->SV->Option R}{r:R}
theorem m6{lo hi:Option Operand}{len l h:Int}(hh:iU σ n lo hi len=some (l,h))(hp:Pur fr σ m K ρ):(∀q,lo=some q->∃k,ev n ρ q=.int k l)/\(lo=none->l=0)/\(∀q,hi=some q->∃k,ev n ρ q=.int k h)/\(hi=none->h=len):=by
 unfold iU at hh;split at hh
 . rename_i l' h' h1 h2;cases hh;refine⟨fun q hq=>?_,fun hq=>?_,fun q hq=>?_,fun hq=>?_⟩
   . subst hq;simp only at h1;split at h1
     . rename_i kk z hz;cases h1;have:=hp.ev n q;rw[hz]at this;exact⟨_,this⟩
     . cases h1
   . subst hq;cases h1;rfl
   . subst hq;simp only at h2;split at h2
     . rename_i kk z hz;cases h2;have:=hp.ev n q;rw[hz]at this;exact⟨_,this⟩
     . cases h2
   . subst hq;cases h2;rfl
 . cases hh
theorem LD{op:UnOp}{t:TypeId}{x:Operand}(h:vun σ op (σ.ev n x) k=some r)(hp:Pur fr σ m K ρ):VOk P n C m K σ ρ (.unOp op t x) k r:=by
 have hx:=hp.ev n x;unfold vun at h;split at h
 . rename_i e;rw[e]at hx;exact⟨_,_,_,h,.inl rfl,rfl,fun _ _ _ _ _=>V.not hx⟩
 . rename_i e;rw[e]at hx;exact⟨_,_,_,h,.inl rfl,rfl,fun _ _ _ _ _=>V.neg hx⟩
 . cases h
theorem Im{s d:TypeId}{x:Operand}(h:xO P mem A σ s d (σ.ev n x) k=some r)(hp:Pur fr σ m K ρ)(hc:Cls E C mem A m K):VOk P n C m K σ ρ (.convert s d x) k r:=by
 have hx:=hp.ev n x;unfold xO at h;split at h
 . rename_i k1 k2 k3 a hs hd e;rw[e]at hx;split at h
   . rename_i hk;subst hk;exact⟨_,_,_,h,.inl rfl,rfl,fun _ _ _ _ _=>V.conv hs hd hx⟩
   . cases h
 . rename_i e hs hd;split at h
   . rename_i he ev0;rw[ev0]at hx;refine⟨_,_,.string ⟨(fB []).toArray⟩,h,.inl rfl,rfl,fun _ _ _ _ _=>fun w hw=>?_⟩;have:=wm (P:=P) (w:=w) (cp:=0) (m:=0) (ad:=none) (xs:=[]) hs he hd rfl (fun b hb=>by cases hb) (fun _=>rfl);simp only[SV.rel]at hx;simp[execOp,hx,this]
   . rename_i l nn he ev0;rw[ev0]at hx;replace h:=ak h;obtain⟨hm,h⟩:=h;obtain⟨hi,rfl⟩:=hx;obtain⟨ad,cp,hv⟩:=hi.slv;rw[hv]at hi;refine⟨_,_,.string ⟨(fB l).toArray⟩,h,.inl rfl,rfl,fun _ _ _ _ _=>fun w hw=>?_⟩;have hcell:∀b,ad=some b->∀j u,(l.map (Value.int .u8))[j]?=some u->w.cell? (b.add j)=some u:=by
       intro b hb j u hj;subst hb;simp only[Is]at hi;obtain⟨ad',cap',h0,_,_,h4⟩:=hi;simp only[aQ0,Value.slice.injEq,and_true]at h0;obtain⟨rfl,_,rfl⟩:=h0;rw[cB0,aW0]at hj;obtain⟨z,hz,rfl⟩:=hj;obtain⟨b',o',hb,h5⟩:=h4 (fun e=>by rw[e]at hz;simp at hz);cases hb;obtain⟨es,e1,e2,e3⟩:=h5 j z hz;replace e2:es=[.int .u8 z]:=e2;subst e2;have:=e3 0 (by decide);simp only[Tp.size,ba0,aD0]at this;rw[bB];exact hc.kn hm _ _ _ this w hw
     have:=wm (P:=P) (w:=w) (cp:=cp) (ad:=ad) (xs:=l) hs he hd rfl hcell (fun e=>by subst e;exact hi.nil_of);simp[execOp,hv,this]
   . rename_i i he ev0;rw[ev0]at hx;split at h
     . rename_i c e' l nn hq;obtain⟨a,ha,hmem⟩:=bA hq;obtain rfl:=bP ha;have hok:=(hc.rd _ hmem).1;obtain⟨ad,cap,cs,h1,h2,h3,h4⟩:=hc.row hmem;obtain⟨ad',cap',cs',g1,g2,g3,g4,_,_,g5⟩:=hok;rw[h1]at g1;cases g1;dsimp only at h1 h2 h3 g4 g5;have hv:=hx.1;rw[h1]at hv;have hv:ev n ρ x=.slice ad nn cap:=by simp only[Z3,M.val.injEq]at hv;exact hv.symm
       obtain rfl:=CQ h3;refine⟨_,_,.string ⟨(fB l).toArray⟩,h,.inl rfl,rfl,fun _ _ _ _ _=>fun w hw=>?_⟩;have hne:ad=none->l=[]:=fun e=>by subst e;exact C1 g5
       have hcell:∀b,ad=some b->∀j u,(l.map (Value.int .u8))[j]?=some u->w.cell? (b.add j)=some u:=by
         intro b hb j u hj;obtain⟨g,hg⟩:=g5 (fun e=>by rw[e]at hj;simp at hj);rw[hb]at hg;cases hg;rw[bB,Y8];exact h4 g hb j u hj w hw
       have:=wm (P:=P) (w:=w) (cp:=cap) (ad:=ad) (xs:=l) hs he hd g4.symm hcell hne;simp[execOp,hv,this]
     . cases h
   . cases h
 . cases h
theorem AS{c:Call}(h:sD P n σ c k=some r)(hp:Pur fr σ m K ρ):VOk P n C m K σ ρ (.call c) k r:=by
 obtain⟨cal,args,ats⟩:=c;unfold sD at h;split at h
 . rename_i x t e0 e1 e2;simp only at e0 e1 e2;subst e0;obtain rfl:args = #[x]:=by simpa using congrArg aN0 e1
   obtain rfl:ats = #[t]:=by simpa using congrArg aN0 e2
   have hx:=hp.ev n x;split at h
   . rename_i ht;split at h
     . rename_i s es;rw[es]at hx;exact⟨_,_,_,h,.inl rfl,rfl,fun _ _ _ _ _=>V.lens ht hx⟩
     . cases h
   . rename_i e ht;split at h
     . cases h
     . rename_i hns;split at h
       . rename_i z hz;obtain⟨ad,kk,cap,hv,rfl⟩:=IB hz hp.all (fun s hs=>hns s hs) hx;exact⟨_,_,_,h,.inl rfl,rfl,fun _ _ _ _ _=>V.len ht hv⟩
       . cases h
   . cases h
 . rename_i x y e0 e1;simp only at e0 e1;subst e0;obtain rfl:args = #[x,y]:=by simpa using congrArg aN0 e1
   have hx:=hp.ev n x;have hy:=hp.ev n y;split at h
   . rename_i e3 e4;rw[e3]at hx;rw[e4]at hy;split at h
     . rename_i hq;subst hq;exact⟨_,_,_,h,.inl rfl,rfl,fun _ _ _ _ _=>V.max hx hy⟩
     . cases h
   . cases h
 . rename_i x y e0 e1;simp only at e0 e1;subst e0;obtain rfl:args = #[x,y]:=by simpa using congrArg aN0 e1
   have hx:=hp.ev n x;have hy:=hp.ev n y;split at h
   . rename_i e3 e4;rw[e3]at hx;rw[e4]at hy;split at h
     . rename_i hq;subst hq;exact⟨_,_,_,h,.inl rfl,rfl,fun _ _ _ _ _=>V.min hx hy⟩
     . cases h
   . cases h
 . cases h
theorem LL{i:Nat}{a:HA}{q:ChR}(h:a.chR i=some q):(∃c,a=.od i c (.obj 1 (.cons (.int .i64) (.one (.sl q.t)))) q.x)\/∃c o x,a=.od i c (.chn o) x/\q=⟨o.tp,x⟩:=by
 unfold HA.chR at h;split at h
 . rename_i j c t x;replace h:=ak h;obtain⟨hb,h⟩:=h;obtain rfl:=Y0 hb;cases h;exact .inl ⟨c,rfl⟩
 . rename_i j c t x;replace h:=ak h;obtain⟨hb,h⟩:=h;obtain rfl:=Y0 hb;cases h;exact .inr ⟨c,_,_,rfl,rfl⟩
 . cases h
theorem Ju{i:Nat}{a:HA}{q:ChR}{E:En}{K':Hp}{L:List ah}{w:World}(hq:a.chR i=some q):∀(y:Int×List q.t.den),q.x=some y->HA.ok m K a->Sep E K' (HA.conc m a::L) w ->
   ∃rr buf sent rcvd,m[i]?=some (.val (.chan (some rr)))/\w.heap[rr]?=some (.chan (Z5 y.1) buf false sent rcvd false)/\(0:Int)<=y.1/\(buf.size:Int)=((y.2.length:Nat):Int):=by
 rcases LL hq with⟨c,rfl⟩|⟨c,o,x1,rfl,rfl⟩
 . rintro y hqx ⟨v,K0,g0,g1,_,hf⟩ hs;simp only[HA.conc,g0,g1,hqx]at hs;obtain⟨h0,⟨rr,o,e1,⟨buf,sent,rcvd,rfl,h5,h6⟩,rfl⟩,hd,hs⟩:=hs;exact⟨rr,buf,sent,rcvd,by rw[g0];simpa[fq]using e1,hs.sub rr (.chan (Z5 y.1) buf false sent rcvd false) (Hp.join_right (by simp[one]) (hd rr (.chan (Z5 y.1) buf false sent rcvd false) (by simp[one]))),h5,by rw[<- Y5,h6,Y6]⟩
 . intro (y:Int×List o.tp.den) (hqx:x1=(some y:Option (Int×List o.tp.den))) ⟨v,K0,g0,g1,_,hf⟩ hs;subst hqx;simp only[HA.conc,g0,g1]at hs;obtain⟨h0,⟨rr,buf,sent,rcvd,e1,h5,h6,hst⟩,hd,hs⟩:=hs;have hs:=Sep.split ⟨h0,hst,hd,hs⟩;have hb:=hs.swap.fact (fun h k=>EEls.len (k:=1) (fun es x h k=>by rw[OT.own_len o k,h6]) k);obtain⟨h1,rfl,hd,hs⟩:=hs;exact⟨rr,buf,sent,rcvd,by rw[g0];simpa using e1,hs.sub rr (.chan (Z5 y.1) buf false sent rcvd false) (Hp.join_right (by simp[one]) (hd rr (.chan (Z5 y.1) buf false sent rcvd false) (by simp[one]))),h5,by rw[<- Y5,hb,ba0]⟩
theorem IL{ats:Array TypeId}{t:TypeId}{e:TypeId}{dir:ChanDir}{tx:TypeId}(ht:P.underlying t=some (.chan dir e)){w:World}{rr cp:Nat}{buf:Array Value}{s rc:Nat}(hw:w.heap[rr]?=some (.chan cp buf false s rc false)) :
   (Builtin.len_ #[t] tx #[.chan (some rr)]).run P w=.ok (goInt (buf.size:Int)) w/\(Builtin.cap_ #[t] tx #[.chan (some rr)]).run P w=.ok (goInt (cp:Int)) w:=by
 constructor
 . simp[Builtin.len_,run_underlying ht,getObj,hw,Sem.run]
 . simp[Builtin.cap_,run_underlying ht,getObj,hw,Sem.run]
theorem CI{t e tx:TypeId}{dir:ChanDir}{cap:Bool}{x:Operand}(ht:P.underlying t=some (.chan dir e))(h:chS n A σ cap x k=some r)(hp:Pur fr σ m K ρ)(hc:Cls E C mem A m K) :
   VOk P n C m K σ ρ (.call ⟨.builtin (bif cap then .cap else .len),#[x],#[t]⟩) k r:=by
 have hx:=hp.ev n x;unfold chS at h;split at h
 . rename_i i ei;rw[ei]at hx;split at h
   . rename_i q hq;obtain⟨a,ha,hmem⟩:=bA hq;cases hqx:q.x with
     |none=>rw[hqx]at h;cases h
     | some y =>
       rw[hqx]at h;replace h:k σ (.int .i64 (bif cap then y.1 else ((y.2.length:Nat):Int)))=some r:=h;obtain⟨hok,hrd⟩:=hc.rd _ hmem;refine⟨_,_,_,h,.inl rfl,rfl,fun d t' pos af g w hw=>?_⟩;obtain⟨K',L',hs⟩:=hrd w hw;obtain⟨rr,buf,sent,rcvd,g0,hob,h5,hl⟩:=Ju ha y hqx hok hs;have hvv:ev n ρ x=.chan (some rr):=by have hv:=hx.1;rw[g0]at hv;simpa using hv.symm
       obtain⟨k1,k2⟩:=IL (ats:=#[]) (tx:=t') ht hob;cases cap with
       | true =>
         simp only[cond_true];have e9:goInt ((Z5 y.1:Nat):Int)=Value.int .i64 y.1:=by rw[bn0 h5];rfl
         rw[e9]at k2;simp[execOp,resolve,invoke,builtin,hvv,k2]
       | false =>
         simp only[cond_false];have e9:goInt (buf.size:Int)=Value.int .i64 ((y.2.length:Nat):Int):=by rw[hl];rfl
         rw[e9]at k1;simp[execOp,resolve,invoke,builtin,hvv,k1]
   . cases h
 . cases h
theorem Cp{i:Nat}{a:HA}{x:Option (List (Int×Int))}(h:a.mapR i=some x):∃c,a=.od i c (.obj 0 (.sl (.cons (.int .i64) (.one (.int .i64))))) x:=by
 unfold HA.mapR at h;split at h
 . rename_i j c x';replace h:=ak h;obtain⟨hb,h⟩:=h;obtain rfl:=Y0 hb;cases h;exact⟨c,rfl⟩
 . cases h
theorem CD{t:TypeId}(h:P.underlying t=some (.int .i64)):KeyNow P t (.int .i64):=⟨⟨_,h,fun a b=>by
 show some ((a:Int)==b)=some (decide ((b:Int)=a));by_cases hb:(b:Int)=a
 . subst hb;simp
 . have hb':¬ (a:Int)=b:=fun e=>hb e.symm
   simp[hb,hb'],fun e n a w=>by
 unfold Instr.checkKey;simp only[Sem.run_bind,run_underlying h,Result.andThen,ay];rfl,fun n a=>by simp[Instr.sameBits,ay]⟩⟩
theorem Bi{mt:TypeId}(h:rT P mt=true):∃t et,P.underlying mt=some (.map t et)/\P.underlying t=some (.int .i64)/\∀w,(zeroValue et).run P w=.ok (.int .i64 0) w:=by
 unfold rT at h;split at h
 . rename_i t et hm;split at h
   . rename_i i ht hi;split at h
     . rename_i hz;refine⟨t,et,hm,ht,fun w=>?_⟩;unfold zeroValue;simp[Sem.run_bind,typeInfo,hi,hz,Result.andThen]
     . cases h
   . cases h
 . cases h
theorem IP{mt:TypeId}{x y:Operand}{ok:Bool}(h:xP P n A σ mt x y ok k=some r)(hp:Pur fr σ m K ρ)(hc:Cls E C mem A m K):VOk P n C m K σ ρ (.lookup mt x y ok) k r:=by
 have hx:=hp.ev n x;have hy:=hp.ev n y;unfold xP at h;replace h:=ak h;obtain⟨hm,h⟩:=h;obtain⟨kt,et,m1,m2,m3⟩:=Bi hm;split at h
 . rename_i i c ei ec;rw[ei]at hx;rw[ec]at hy;replace hy:ev n ρ y=.int .i64 c:=hy;split at h
   . rename_i q hq;obtain⟨a,ha,hmem⟩:=bA hq;obtain⟨c0,rfl⟩:=Cp ha;cases q with
     |none=>cases h
     | some l =>
       simp only[V0]at h;obtain⟨⟨v,K0,g0,g1,_,hf⟩,hrd⟩:=hc.rd _ hmem;have hv:=hx.1;rw[g0]at hv;simp only[Z3,M.val.injEq]at hv;have key:∀w,C w->∃rr es cl,ev n ρ x=.map (some rr)/\w.heap[rr]?=some (.map es cl)/\es.toList.map (fun e=>(e.key,e.val))=l.map (fun p=>(ay (.int .i64) p.1,Value.int .i64 p.2)):=fun w hw=>by
         obtain⟨K',L',hs⟩:=hrd w hw;simp only[HA.conc,g0,g1]at hs;obtain⟨h0,⟨rr,o,e1,⟨es,cl,rfl,h5,h6⟩,rfl⟩,hd,hs⟩:=hs;have hob:w.heap[rr]?=some (.map es cl):=hs.sub rr (.map es cl) (Hp.join_right (by simp[one]) (hd rr (.map es cl) (by simp[one])));exact⟨rr,es,cl,by rw[<- hv];simpa[fq]using e1,hob,h5⟩
       haveI:=CD m2
       cases ok with
       | true =>
         simp only[cond_true]at h;refine⟨_,_,.tuple #[.int .i64 (aJ c l),.bool (aN c l 0).isSome],h,.inl rfl,⟨[_,_],rfl,_,_,rfl,rfl,_,_,rfl,rfl,rfl⟩,fun d t' pos af g w hw=>?_⟩;obtain⟨rr,es,cl,e1,e2,e3⟩:=key w hw;have hl:=Ft (P:=P) (kt:=.int .i64) (mt:=mt) m1 m3 c e2 e3;simp only[ay]at hl;simp[execOp,e1,hy,hl]
       | false =>
         simp only[cond_false]at h;refine⟨_,_,.int .i64 (aJ c l),h,.inl rfl,rfl,fun d t' pos af g w hw=>?_⟩;obtain⟨rr,es,cl,e1,e2,e3⟩:=key w hw;have hl:=pA (P:=P) (kt:=.int .i64) (mt:=mt) m1 m3 c e2 e3;simp only[ay]at hl;simp[execOp,e1,hy,hl]
   . cases h
 . cases h
theorem G9{c:Call}(h:xo P n A σ c k=some r)(hp:Pur fr σ m K ρ)(hc:Cls E C mem A m K):VOk P n C m K σ ρ (.call c) k r:=by
 unfold xo at h;split at h
 . rename_i x t e0 e1 e2;split at h
   . rename_i d e ht;obtain⟨cal,args,ats⟩:=c;simp only at e0 e1 e2;subst e0;obtain rfl:args = #[x]:=by simpa using congrArg aN0 e1
     obtain rfl:ats = #[t]:=by simpa using congrArg aN0 e2
     exact CI (tx:=t) (cap:=false) ht h hp hc
   . exact AS h hp
 . rename_i x t e0 e1 e2;split at h
   . rename_i d e ht;obtain⟨cal,args,ats⟩:=c;simp only at e0 e1 e2;subst e0;obtain rfl:args = #[x]:=by simpa using congrArg aN0 e1
     obtain rfl:ats = #[t]:=by simpa using congrArg aN0 e2
     exact CI (tx:=t) (cap:=true) ht h hp hc
   . rename_i ht;obtain⟨cal,args,ats⟩:=c;simp only at e0 e1 e2;subst e0;obtain rfl:args = #[x]:=by simpa using congrArg aN0 e1
     obtain rfl:ats = #[t]:=by simpa using congrArg aN0 e2
     have hx:=hp.ev n x;split at h
     . rename_i e4;rw[e4]at hx;exact⟨_,_,_,h,.inl rfl,rfl,fun _ _ _ _ _=>V.cap ht hx⟩
     . cases h
   . cases h
 . exact AS h hp
theorem vF{α:Type}{r:α}:∀(n j:Nat) (i:Int) (f:Nat->Option α),ixa n j i f=some r->∃q,q<n/\i=((j+q:Nat):Int)/\f (j+q)=some r
 |0,j,i,f,h=>by cases h
 | n + 1,j,i,f,h=>by
   unfold ixa at h;by_cases hi:i=((j:Nat):Int)
   . rw[decide_eq_true hi]at h;exact⟨0,by omega,hi,h⟩
   . rw[decide_eq_false hi]at h;obtain⟨q,h1,h2,h3⟩:=vF n (j+1) i f h;exact⟨q+1,by omega,by rw[h2];congr 1;omega,by rw[show j+(q+1)=j+1+q by omega];exact h3⟩
theorem K4 {t:TypeId} {x y:Operand} (h:yf P σ t (σ.ev n x) (σ.ev n y) k=some r) (hp:Pur fr σ m K ρ):VOk P n C m K σ ρ (.indexAddr t x y) k r:=by
 have hx:=hp.ev n x;have hy:=hp.ev n y;unfold yf at h;split at h
 . rename_i e ht;split at h
   . rename_i z tp l nn kk i hz e1 e2;rw[e1]at hx;rw[e2]at hy;replace h:=ak h;obtain⟨hb,h⟩:=h;obtain rfl:=Y0 hb;replace h:=ob h;obtain⟨x0,hx0,h⟩:=h;obtain⟨p1,p2,p3⟩:=dY hx0;obtain⟨hi,hl⟩:=hx;obtain⟨ad,cap,hv⟩:=hi.slv;rw[hv]at hi;obtain⟨b,o,rfl,hat⟩:=hi.at p2;exact⟨_,_,_,h,.inl rfl,⟨b,_,by rw[aD0],hat⟩,fun _ _ _ _ _=>V.iad ht hz hv rfl hy p1 p3⟩
   . rename_i z rr kk i hz e1 e2;rw[e1]at hx;rw[e2]at hy;split at h
     . rename_i q hq;replace h:=ak h;obtain⟨hb,h⟩:=h;have hb:=Y0 hb;replace h:=ob h;obtain⟨x0,hx0,h⟩:=h;obtain⟨p1,p2,p3⟩:=dY hx0;obtain⟨a,ha,hmem⟩:=bA hq;obtain rfl:=bP ha;obtain⟨ad,cap,cs,h1,h2,h3,h4,h5,h6,h7⟩:=hp.all _ hmem;have hv:=hx.1;rw[h1]at hv;have hv:ev n ρ x=.slice ad q.n cap:=by simp only[Z3,M.val.injEq]at hv;exact hv.symm
       obtain⟨g,rfl⟩:=h7 (fun e=>by rw[e]at p2;simp at p2);subst hb;exact⟨_,_,.pointer (some ⟨g,0+i.toNat*q.t.size,none⟩),h,.inl rfl,⟨g,q.n,cap,q.l,cs,h1,h2,hx0,by rw[aD0,Y8]⟩,fun _ _ _ _ _=>V.iad ht hz hv rfl hy p1 (by rw[<- h4];exact p3)⟩
     . split at h
       . rename_i q hq;replace h:=ak h;obtain⟨hb,h⟩:=h;have hb:=Y0 hb;replace h:=ob h;obtain⟨x0,hx0,h⟩:=h;obtain⟨p1,p2,p3⟩:=dY hx0;obtain⟨a,ha,hmem⟩:=bA hq;obtain rfl:=jT ha;obtain⟨v',K0,h1,_,_,ad,cap,rfl,h7⟩:=hp.all _ hmem;have hv:=hx.1;rw[h1]at hv;have hv:ev n ρ x=.slice ad q.l.length cap:=by simp only[Z3,M.val.injEq]at hv;exact hv.symm
         have hlt:i.toNat<q.l.length:=(V4.1 p2).1;obtain⟨g,rfl⟩:=h7 (by show q.l.length≠0;omega);subst hb;exact⟨_,_,.pointer (some ⟨g,0+i.toNat*q.o.tp.size,none⟩),h,.inl rfl,⟨g,_,cap,h1,p1,hlt,by rw[aD0,Y8]⟩,fun _ _ _ _ _=>V.iad ht hz hv rfl hy p1 p3⟩
       . split at h
         . rename_i q hq;replace h:=ak h;obtain⟨hb,h⟩:=h;have hb:=Y0 hb;replace h:=ob h;obtain⟨x0,hx0,h⟩:=h;obtain⟨p1,p2,p3⟩:=dY hx0;obtain⟨a,ha,hmem⟩:=bA hq;obtain rfl:=iC ha;obtain⟨ad,cap,K0,es,h1,_,_,_,_,_,_,g,rfl⟩:=hp.all _ hmem;have hv:=hx.1;rw[h1]at hv;have hv:ev n ρ x=.slice (some ⟨g,0,none⟩) q.l.length cap:=by simp only[Z3,M.val.injEq]at hv;exact hv.symm
           have hlt:i.toNat<q.l.length:=(V4.1 p2).1;subst hb;exact⟨_,_,.pointer (some ⟨g,0+i.toNat*q.o.tp.size,none⟩),h,.inl rfl,⟨g,_,cap,h1,p1,hlt,by rw[aD0,Y8]⟩,fun _ _ _ _ _=>V.iad ht hz hv rfl hy p1 p3⟩
         . cases h
   . rename_i z b mm kk i hz e1 e2;rw[e1]at hx;rw[e2]at hy;split at h
     . rename_i j;replace h:=ak h;obtain⟨hb,h⟩:=h;rw[bj0]at hb;obtain⟨bb,h1,hv⟩:=hx;exact⟨_,_,.pointer (some ⟨bb,0+(ey0 j).toNat*z,none⟩),h,.inl rfl,⟨bb,h1,by simp⟩,fun _ _ _ _ _=>V.iad ht hz hv rfl hy (aj0 j) (bL0.2 hb)⟩
     . cases h
   . rename_i z b o mm cp kk i hz e1 e2;rw[e1]at hx;rw[e2]at hy;obtain⟨q,hq,rfl,h'⟩:=vF _ _ _ _ h;rw[Y8]at h' hy;obtain⟨bb,h1,hv⟩:=hx;exact⟨_,_,.pointer (some ⟨bb,o+((q:Nat):Int).toNat*z,none⟩),h',.inl rfl,⟨bb,h1,rfl⟩,fun _ _ _ _ _=>V.iad ht hz hv rfl hy (aj0 q) (bL0.2 hq)⟩
   . cases h
 . rename_i len e ht;split at h
   . rename_i z b o kk i hz e1 e2;rw[e1]at hx;rw[e2]at hy;obtain⟨q,hq,rfl,h'⟩:=vF _ _ _ _ h;rw[Y8]at h' hy;obtain⟨bb,h1,hv⟩:=hx;exact⟨_,_,.pointer (some ⟨bb,o+((q:Nat):Int).toNat*z,none⟩),h',.inl rfl,⟨bb,h1,rfl⟩,fun _ _ _ _ _=>V.iadA ht hz hv hy (aj0 q) (bL0.2 hq)⟩
   . cases h
 . cases h
theorem V.subP{tx e:TypeId}{sz m cp:Nat}{ad:Option Addr}{a b:Int}{x:Operand}{lo hi:Option Operand}(ht:P.underlying tx=some (.slice e))(hz:bx P e=some sz)(hx:ev n ρ x=.slice ad m cp)(hcp:m<=cp)(a1:0<=a)(a2:a<=b)(a3:b<=(m:Int))
   (hl:∀q,lo=some q->∃k,ev n ρ q=.int k a) (hl0:lo=none->a=0) (hh:∀q,hi=some q->∃k,ev n ρ q=.int k b) (hh0:hi=none->b=(m:Int)) :
   ∃ad',(∀g,a<b->ad=some ⟨g,0,none⟩->ad'=some ⟨g,a.toNat*sz,none⟩)/\∀{C:World->Prop} {d:Option Nat} {t:TypeId} {pos:String} {af:Array Edge} {g:Option (Nat×Bool)},Val P n C ρ ⟨d,.slice tx x lo hi none,t,pos,af,g⟩ (.slice ad' (b.toNat-a.toNat) (cp-a.toNat)):=by
 obtain⟨l,rfl⟩:=W6 a1;obtain⟨h,rfl⟩:=W6 (show 0<=b by omega);simp only[W2];have b1:l<=h:=by omega
 have b2:h<=m:=by omega
 refine⟨if cp-l=0 then ad else ad.map (·.add (l*sz)),fun g hlt e=>by rw[if_neg (by omega),e];simp only[dl0,bB,Y8],fun {C d t pos af g} w _=>?_⟩;unfold bx at hz;cases hi':P.info? e with
 |none=>rw[hi']at hz;simp at hz
 | some i' =>
   rw[hi']at hz;simp at hz;cases lo with
   | none =>
     have hl1:=hl0 rfl;obtain rfl:l=0:=by omega
     cases hi with
     | none =>
       have:=hh0 rfl;obtain rfl:h=m:=by omega
       simp[execOp,hx,Instr.sliceAt,run_underlying ht,Instr.slice,Instr.sliceBounds,sizeOf,typeInfo,hi',hcp]
     | some q =>
       obtain⟨k,hq⟩:=hh q rfl;simp[execOp,hx,hq,Instr.sliceAt,run_underlying ht,Instr.slice,Instr.sliceBounds,Instr.sliceBound,asIntOf,sizeOf,typeInfo,hi',show h<=cp by omega]
   | some ql =>
     obtain⟨k1,hq1⟩:=hl ql rfl;cases hi with
     | none =>
       have:=hh0 rfl;obtain rfl:h=m:=by omega
       simp[execOp,hx,hq1,Instr.sliceAt,run_underlying ht,Instr.slice,Instr.sliceBounds,Instr.sliceBound,asIntOf,sizeOf,typeInfo,hi',b1,show h<=cp by omega,hz];split <;> simp_all <;> (intro h9;omega)
     | some q =>
       obtain⟨k,hq⟩:=hh q rfl;simp[execOp,hx,hq,hq1,Instr.sliceAt,run_underlying ht,Instr.slice,Instr.sliceBounds,Instr.sliceBound,asIntOf,sizeOf,typeInfo,hi',b1,show h<=cp by omega,hz];split <;> simp_all <;> (intro h9;omega)
theorem V.subN{tx e:TypeId}{sz:Nat}{x:Operand}{lo hi:Option Operand}(ht:P.underlying tx=some (.slice e))(hz:bx P e=some sz)(hx:ev n ρ x=.slice none 0 0)
   (hl:∀q,lo=some q->∃k,ev n ρ q=.int k 0) (hh:∀q,hi=some q->∃k,ev n ρ q=.int k 0) {C:World->Prop} {d:Option Nat} {t:TypeId} {pos:String} {af:Array Edge} {g:Option (Nat×Bool)} :
   Val P n C ρ ⟨d,.slice tx x lo hi none,t,pos,af,g⟩ (.slice none 0 0):=fun w _=>by
 unfold bx at hz;cases hi':P.info? e with
 |none=>rw[hi']at hz;simp at hz
 | some i' =>
   rw[hi']at hz;simp at hz;cases lo with
   | none =>
     cases hi with
     |none=>simp[execOp,hx,Instr.sliceAt,run_underlying ht,Instr.slice,Instr.sliceBounds,sizeOf,typeInfo,hi']
     | some q =>
       obtain⟨k,hq⟩:=hh q rfl;simp[execOp,hx,hq,Instr.sliceAt,run_underlying ht,Instr.slice,Instr.sliceBounds,Instr.sliceBound,asIntOf,sizeOf,typeInfo,hi']
   | some ql =>
     obtain⟨k1,hq1⟩:=hl ql rfl;cases hi with
     |none=>simp[execOp,hx,hq1,Instr.sliceAt,run_underlying ht,Instr.slice,Instr.sliceBounds,Instr.sliceBound,asIntOf,sizeOf,typeInfo,hi']
     | some q =>
       obtain⟨k,hq⟩:=hh q rfl;simp[execOp,hx,hq,hq1,Instr.sliceAt,run_underlying ht,Instr.slice,Instr.sliceBounds,Instr.sliceBound,asIntOf,sizeOf,typeInfo,hi']
theorem V.subF{tx e:TypeId}{sz len b o l h:Nat}{x:Operand}{lo hi:Option Operand}(ht:P.underlying tx=some (.array len e))(hz:bx P e=some sz)(hx:ev n ρ x=.pointer (some ⟨b,o,none⟩))(a2:l<=h)(a3:h<=len)(a4:l<len)
   (hl:∀q,lo=some q->∃k,ev n ρ q=.int k ((l:Nat):Int)) (hl0:lo=none->((l:Nat):Int)=0) (hh:∀q,hi=some q->∃k,ev n ρ q=.int k ((h:Nat):Int)) (hh0:hi=none->((h:Nat):Int)=((len:Nat):Int)) {C:World->Prop} {d:Option Nat} {t:TypeId} {pos:String} {af:Array Edge} {g:Option (Nat×Bool)} :
   Val P n C ρ ⟨d,.slice tx x lo hi none,t,pos,af,g⟩ (.slice (some ⟨b,o+l*sz,none⟩) (h-l) (len-l)):=by
 intro w _;have hne:len≠l:=by omega
 unfold bx at hz;cases hi':P.info? e with
 |none=>rw[hi']at hz;simp at hz
 | some i' =>
   rw[hi']at hz;simp at hz;cases lo with
   | none =>
     have:=hl0 rfl;obtain rfl:l=0:=by omega
     cases hi with
     | none =>
       have:=hh0 rfl;obtain rfl:h=len:=by omega
       simp[execOp,hx,Instr.sliceAt,run_underlying ht,Instr.sureAddr,Instr.sliceBounds,sizeOf,typeInfo,hi',hz,bB,hne]
     | some q =>
       obtain⟨k,hq⟩:=hh q rfl;simp[execOp,hx,hq,Instr.sliceAt,run_underlying ht,Instr.sureAddr,Instr.sliceBounds,Instr.sliceBound,asIntOf,a3,sizeOf,typeInfo,hi',hz,bB,hne]
   | some ql =>
     obtain⟨k1,hq1⟩:=hl ql rfl;cases hi with
     | none =>
       have:=hh0 rfl;obtain rfl:h=len:=by omega
       simp[execOp,hx,hq1,Instr.sliceAt,run_underlying ht,Instr.sureAddr,Instr.sliceBounds,Instr.sliceBound,asIntOf,a2,sizeOf,typeInfo,hi',hz,bB,hne]
     | some q =>
       obtain⟨k2,hq2⟩:=hh q rfl;simp[execOp,hx,hq1,hq2,Instr.sliceAt,run_underlying ht,Instr.sureAddr,Instr.sliceBounds,Instr.sliceBound,asIntOf,a2,a3,sizeOf,typeInfo,hi',hz,bB,hne]
theorem JS{t:TypeId}{x:Operand}{lo hi:Option Operand}(h:yx P n σ t (σ.ev n x) lo hi k=some r)(hp:Pur fr σ m K ρ):VOk P n C m K σ ρ (.slice t x lo hi none) k r:=by
 have hx:=hp.ev n x;unfold yx at h;split at h
 . rename_i s ht e1;rw[e1]at hx;split at h
   . rename_i l hh hlh;replace h:=ob h;obtain⟨y,hy,h⟩:=h;obtain⟨q1,q2,q3,q4⟩:=m6 hlh hp;exact⟨_,_,_,h,.inl rfl,rfl,fun _ _ _ _ _=>V.subs ht hx q1 q2 q3 q4 hy⟩
   . cases h
 . rename_i e i ht e1;rw[e1]at hx;split at h
   . rename_i q hq;split at h
     . rename_i hz;split at h
       . rename_i a b hlh;replace h:=ob h;obtain⟨y,hy,h⟩:=h;obtain⟨q1,q2,q3,q4⟩:=m6 hlh hp;obtain⟨at1,ha,hmem⟩:=bA hq;obtain rfl:=bP ha;obtain⟨ad,cap,cs,h1,h2,h3,h4,h5,h6,h7⟩:=hp.all _ hmem;have hv:=hx.1;rw[h1]at hv;have hv:ev n ρ x=.slice ad q.n cap:=by simp only[Z3,M.val.injEq]at hv;exact hv.symm
         obtain⟨s1,s2,s3,_⟩:=jJ hy;rw[h4]at s3;obtain⟨o,ho,hval⟩:=V.subP (P:=P) (n:=n) (ρ:=ρ) (x:=x) (lo:=lo) (hi:=hi) (a:=a) (b:=b) ht hz hv h5 s1 s2 s3 q1 q2 q3 q4;exact⟨_,_,_,h,.inl rfl,⟨ad,q.n,cap,o,h1,s1,s2,by omega,ho,rfl⟩,fun _ _ _ _ _=>hval⟩
       . cases h
     . cases h
   . cases h
 . rename_i e ht e1;rw[e1]at hx;split at h
   . rename_i hz;split at h
     . rename_i a b hlh;replace h:=ob h;obtain⟨y,hy,h⟩:=h;obtain⟨q1,q2,q3,q4⟩:=m6 hlh hp;obtain⟨s1,s2,s3,_⟩:=jJ hy;obtain⟨z,hz⟩:=eb0.1 hz;have ea:a=0:=by simp at s3;omega
       have eb:b=0:=by simp at s3;omega
       subst ea eb;exact⟨_,_,_,h,.inl rfl,rfl,fun _ _ _ _ _=>V.subN ht hz hx q1 q3⟩
     . cases h
   . cases h
 . rename_i e tp l z ht e1;rw[e1]at hx;split at h
   . rename_i hz;split at h
     . rename_i a b hlh;replace h:=ob h;obtain⟨y,hy,h⟩:=h;obtain⟨q1,q2,q3,q4⟩:=m6 hlh hp;obtain⟨hi',rfl⟩:=hx;obtain⟨ad,cap,hv⟩:=hi'.slv;rw[hv]at hi';obtain⟨ad',cp',hval,hf⟩:=V.subI (P:=P) ht hz hi' hy;exact⟨_,_,_,h,.inl rfl,⟨hf,rfl⟩,fun _ _ _ _ _=>hval hv q1 q2 q3 q4⟩
     . cases h
   . cases h
 . rename_i len e b o ht e1;rw[e1]at hx;split at h
   . rename_i z a hh hz hlh;replace h:=ak h;obtain⟨hb,h⟩:=h;simp only[Y1,bj0]at hb;obtain⟨⟨b1,b2⟩,b3⟩:=hb;obtain⟨q1,q2,q3,q4⟩:=m6 hlh hp;obtain⟨bb,h1,hv⟩:=hx;exact⟨_,_,_,h,.inl rfl,⟨bb,h1,rfl⟩,fun _ _ _ _ _=>V.subF ht hz hv (W9 b1) (W9 b2) b3 q1 q2 q3 q4⟩
   . cases h
 . cases h
theorem De(hp:Pur fr σ m K ρ):∀xs:List Operand,SV.relL m K (xs.map (σ.ev n)) (xs.map (ev n ρ))
 |[]=>rfl
 |x::xs=>⟨_,_,rfl,hp.ev n x,De hp xs⟩
theorem zJ{s:TypeId}{i:Nat}{f:Field}(h:fieldAt P s i=some f):∃fs,P.underlying s=some (.struct fs)/\fs[i]?=some f:=by
 unfold fieldAt at h;split at h
 . exact⟨_,by assumption,h⟩
 . cases h
theorem gf{t:TypeId}{zs:List SV}(h:eC P t=some zs):∃z sz bt,Inf P t z sz bt/\SV.relL m K zs z.cells.toList:=by
 unfold eC at h;split at h
 . rename_i i hi;split at h
   . rename_i z hz;exact⟨z,i.size,i.bytes,by unfold Inf;rw[hi];simp[hz],mR h (Cw z)⟩
   . cases h
 . cases h
theorem Ig{s:TypeId}{pl:List (Nat×Nat)}{z v:Value}{sz bt:Nat}{parts:Array (Nat×Operand)}{cs:List Value}(h:vX P s=some pl)(hi:Inf P s z sz bt)(hc:br (fun i=>pl[i]?) z.cells.toList (parts.toList.map fun (i,x)=>(i,ev n ρ x))=some cs)(hcs : .agg cs.toArray=v){d:Option Nat}{t:TypeId}{pos:String}{af:Array Edge}{g:Option (Nat×Bool)}:Val P n C ρ ⟨d,.build s parts,t,pos,af,g⟩ v:=by
 unfold vX at h;split at h
 . rename_i fs hu;exact V.build hi ⟨fs,hu,h⟩ hc hcs
 . rename_i len e hu;cases he:P.info? e with
   |none=>rw[he]at h;cases h
   | some i =>
     rw[he]at h;cases h;refine V.buildA hi hu (sz1:=i.size) (by rw[he];rfl) (zN ?_ hc) hcs;intro j p hj;rw[cB0]at hj;cases hq:(Z1 len)[j]? with
     |none=>rw[hq]at hj;cases hj
     | some q =>
       rw[hq]at hj;obtain⟨hlt,rfl⟩:=V4.1 hq;simpa using hj
 . cases h
theorem wV{o:Op}(h:vop P n mem A σ o k=some r)(hp:Pur fr σ m K ρ)(hc:Cls E C mem A m K):VOk P n C m K σ ρ o k r:=by
 cases o with
 |move x=>exact⟨_,_,_,h,.inl rfl,hp.evr n x,fun _ _ _ _ _=>V.mv rfl⟩
 |assign x=>exact⟨_,_,_,h,.inl rfl,hp.evr n x,fun _ _ _ _ _=>V.as rfl⟩
 | pick c x y =>
   have hcc:=hp.ev n c;dsimp only[vop]at h;split at h
   . rename_i t e;rw[e]at hcc;cases t with
     |true=>exact⟨_,_,_,h,.inl rfl,hp.ev n x,fun _ _ _ _ _=>V.pickT hcc rfl rfl⟩
     |false=>exact⟨_,_,_,h,.inl rfl,hp.ev n y,fun _ _ _ _ _=>V.pickF hcc rfl rfl⟩
   . cases h
 | binOp op t x y yt =>
   obtain⟨sv,v,h1,h2,h3⟩:=Mj (C:=C) h hp;exact⟨σ,sv,v,h1,.inl rfl,h2,fun d t' pos af g=>h3 yt d t' pos af g⟩
 |unOp op t x=>exact LD h hp
 |convert s d x=>exact Im h hp hc
 | extract x i =>
   have hx:=hp.ev n x;dsimp only[vop]at h;split at h
   . rename_i vs e;rw[e]at hx;obtain⟨us,hv,hr⟩:=hx;split at h
     . rename_i v hvi;obtain⟨u,hu,hr⟩:=iy hr hvi;exact⟨_,_,u,h,.inl rfl,hr,fun _ _ _ _ _=>V.ext hv (by simpa using hu)⟩
     . cases h
   . cases h
 |call c=>exact G9 h hp hc
 |lookup t x y ok=>exact IP h hp hc
 | fieldAddr s x i =>
   dsimp only[vop]at h;split at h
   . rename_i f hf;obtain⟨fs,h1,h2⟩:=zJ hf;replace h:=eK h;obtain⟨hz,h⟩:=h;have hz:P.cellsOf f.type≠0:=fun e=>by rw[e]at hz;cases hz
     obtain⟨σ',v',h,hfine,hr⟩:=rO h hp;split at h
     . rename_i v2 hv2;obtain⟨b,o,hb,hr2⟩:=KX hv2 hr;exact⟨σ',v2,_,h,hfine,hr2,fun _ _ _ _ _=>V.fad h1 h2 hz hb⟩
     . cases h
   . cases h
 | field s x i =>
   have hx:=hp.ev n x;dsimp only[vop]at h;split at h
   . rename_i f cs hf e;rw[e]at hx;obtain⟨us,hv,hr⟩:=hx;obtain⟨fs,h1,h2⟩:=zJ hf;split at h
     . rename_i v hv2;obtain⟨u,h3,h4⟩:=Mi hv2 hr;exact⟨_,_,u,h,.inl rfl,h4,fun _ _ _ _ _=>V.fld (ft:=0) h1 h2 h3 hv⟩
     . cases h
   . cases h
 | build s ps =>
   dsimp only[vop]at h;split at h
   . rename_i z pl hz hpl;obtain⟨zv,sz,bt,h1,h2⟩:=gf (m:=m) (K:=K) hz;split at h
     . rename_i cs hcs;obtain⟨xs,h3,h4⟩:=AF hcs h2 (zt hp ps.toList);exact⟨_,_,.agg xs.toArray,h,.inl rfl,⟨xs,rfl,h4⟩,fun _ _ _ _ _=>Ig hpl h1 h3 rfl⟩
     . cases h
   . cases h
 |indexAddr t x y=>exact K4 h hp
 | index t x y =>
   have hx:=hp.ev n x;have hy:=hp.ev n y;dsimp only[vop]at h;split at h
   . rename_i s kk i ht e1 e2;rw[e1]at hx;rw[e2]at hy;replace h:=ob h;obtain⟨q,hq,h⟩:=h;obtain⟨p1,p2,p3⟩:=dY hq;exact⟨_,_,_,h,.inl rfl,rfl,fun _ _ _ _ _=>V.ixs ht hx hy p1 p2⟩
   . cases h
 | load s x =>
   dsimp only[vop]at h;obtain⟨σ',v',h,hfine,hr⟩:=rO h hp;split at h
   . replace h:=ak h;obtain⟨hm,h⟩:=h;obtain⟨sv,b,o,u',h1,h2,h3,h4⟩:=vZ h (fun _ _ _ _=>hm) hc hr;exact⟨σ',sv,u',h1,hfine,h4,fun _ _ _ _ _=>V.ld h2 h3⟩
   . rename_i hn;obtain⟨sv,b,o,u',h1,h2,h3,h4⟩:=vZ h (fun t x o e=>absurd e (hn t x o)) hc hr;exact⟨σ',sv,u',h1,hfine,h4,fun _ _ _ _ _=>V.ld h2 h3⟩
 | slice t x lo hi mx =>
   cases mx with
   |none=>exact JS h hp
   |some _=>cases h
 | nilCheck x =>
   dsimp only[vop]at h;obtain⟨σ',v',h,hfine,hr⟩:=rO h hp;split at h
   . obtain⟨b,h1,h2⟩:=hr;exact⟨σ',_,_,h,hfine,⟨b,h1,rfl⟩,fun _ _ _ _ _=>V.nck h2⟩
   . obtain⟨b,o,h1,h2⟩:=hr;exact⟨σ',_,_,h,hfine,⟨b,o,rfl,h2⟩,fun _ _ _ _ _=>V.nck h1⟩
   . obtain⟨g,nn,cap,l,cs,h1,h2,h3,h4⟩:=hr;exact⟨σ',_,_,h,hfine,⟨g,nn,cap,l,cs,h1,h2,h3,rfl⟩,fun _ _ _ _ _=>V.nck h4⟩
   . obtain⟨g,nn,cap,h1,h2,h3,h4⟩:=hr;exact⟨σ',_,_,h,hfine,⟨g,nn,cap,h1,h2,h3,rfl⟩,fun _ _ _ _ _=>V.nck h4⟩
   . cases h
 | makeInterface t0 x =>
   dsimp only[vop]at h;split at h
   . cases h
   . rename_i d hne hd;exact⟨_,_,_,h,.inl rfl,⟨_,rfl,hp.ev n x⟩,fun _ _ _ _ _ w _=>by
       simp only[execOp,Instr.makeInterface,Sem.run_bind,run_underlying hd,Result.andThen];cases d <;> first |rfl|(exact absurd rfl (hne _))⟩
   . cases h
 | typeAssert x t0 t1 ok =>
   cases ok with
   |false=>cases h
   | true =>
     have hx:=hp.ev n x;dsimp only[vop]at h;split at h
     . rename_i u v d e hd;rw[e]at hx;obtain⟨w0,hv,hr⟩:=hx;replace h:=ak h;obtain⟨h1,h⟩:=h;rw[Y1]at h1;obtain rfl:=Y0 h1.1;exact⟨_,_,.tuple #[w0,.bool true],h,.inl rfl,⟨[w0,.bool true],rfl,w0,_,rfl,hr,_,_,rfl,rfl,rfl⟩,fun _ _ _ _ _ w _=>by
         simp only[execOp,Instr.typeAssert,hv,Sem.run_bind,run_underlying hd,Result.andThen];cases d <;> first|(simp at h1;done)|simp⟩
     . cases h
 | makeFunc f fs xs =>
   dsimp only[vop]at h;split at h
   . rename_i ff;replace h:=ak h;obtain⟨he,h⟩:=h;obtain rfl:fs = #[]:=by simpa using he
     exact⟨_,_,.func (.func ff) #[] (xs.toList.map (ev n ρ)).toArray,h,.inl rfl,⟨_,rfl,De hp xs.toList⟩,fun _ _ _ _ _=>V.mkf (by simp)⟩
   . cases h
 |_=>cases h
end
end
end
section
variable [BldA]
section
variable {R:Type}{P:Program}{E:En}{n:Nat}{m m':List M}{K K':Hp}{fr:Frz}{σ:Zt}{ρ:Sl1}{w w':World}
theorem bw{o:Oper}{X:Act->World->Prop}{Q:Exit->Act->World->Prop}(h:o.wp P (act n ρ.f) w (fun a w'=>X ⟨a.tmps,a.defers++ρ.ds⟩ w') (fun e a w'=>Q e ⟨a.tmps,a.defers++ρ.ds⟩ w')):o.wp P (act1 n ρ) w X Q:=by
 unfold Oper.wp at h ⊢;rw[eval_act]at h;rw[cg];have hp:∀v,(⟨((act n ρ.f).put o.dst v).tmps,((act n ρ.f).put o.dst v).defers++ρ.ds⟩:Act)=(act1 n ρ).put o.dst v:=fun v=>by
   cases o.dst <;> rfl
 cases hr:(execOp (ev n ρ.f) o).run P w with
 | ok nx w' =>
   rw[hr]at h;cases nx with
   |value v=>have h':X ⟨((act n ρ.f).put o.dst v).tmps,((act n ρ.f).put o.dst v).defers++ρ.ds⟩ w':=h;rw[hp]at h';exact h'
   |skip=>have h':X ⟨((act n ρ.f).put o.dst undef).tmps,((act n ρ.f).put o.dst undef).defers++ρ.ds⟩ w':=h;rw[hp]at h';exact h'
   | defer d =>
     cases hd:o.dst <;> simpa[Oper.upon,Act.put,act,act1,hd]using h
   | enter f args =>
     refine Calls.mono h (fun e w'' he=>?_);cases e with
     |returned v=>have h':X ⟨((act n ρ.f).put o.dst v).tmps,((act n ρ.f).put o.dst v).defers++ρ.ds⟩ w'':=he;rw[hp]at h';exact h'
     |panicked c=>exact he
     |outgrown=>obtain⟨a,w0,h0⟩:=he;exact⟨_,_,h0⟩
   |row r args=>refine Rows.mono h (fun v w'' he=>?_);have h':X ⟨((act n ρ.f).put o.dst v).tmps,((act n ρ.f).put o.dst v).defers++ρ.ds⟩ w'':=he;rw[hp]at h';exact h'
   |_=>exact h.elim
 | halt x w' =>
   rw[hr]at h;cases x with
   |panic v=>exact h
   |_=>exact h.elim
theorem Pur.next(h:Pur fr σ m K ρ)(hm:m <+: m')(hK:K.le K'){H':List HA}{nx:Nat}{kq:Bool}(hkq:kq=true->σ.kq=true/\K'=K)(hn:m'.length=nx)(hH:∀a∈H',HA.ok m' K' a):Pur fr ⟨σ.base,σ.top,H',σ.Hf,nx,kq⟩ m' K' ρ where
 hm:=h.hm.trans hm
 hK:=h.hK.trans hK
 nx:=hn
 kq:=fun e=>by obtain⟨e1,e2⟩:=hkq e;rw[e2];exact h.kq e1
 base:=h.base
 dead:=h.dead
 old:=h.old
 top:=fun i sv hi=>SV.mono (fun _ _ k=>aq hm k) hK _ (h.top i sv hi)
 okH:=hH
 okF:=h.okF
 mks:=h.mks.mono hK
theorem Pur.fz'(h:Pur fr σ m K ρ):σ.Hf.map (HA.conc m)=σ.Hf.map (HA.conc fr.m):=dz (K:=fr.K) h.mono h.okF
theorem Pur.okH'(h:Pur fr σ m K ρ)(hm:m <+: m')(hK:K.le K'):∀a∈σ.H,HA.ok m' K' a:=fun a ha=>HA.ok_mono (fun _ _ k=>aq hm k) hK (h.okH a ha)
theorem Pur.conc(h:Pur fr σ m K ρ)(hm:m <+: m'){H:List HA}(hH:∀a∈H,a∈σ.H):H.map (HA.conc m')=H.map (HA.conc m):=dz (K:=K) (fun _ _ k=>aq hm k) (fun a ha=>h.okH a (hH a ha))
theorem Rel.cls(h:Rel E fr σ m K ρ w):Cls E (Hold E K (σ.atoms fr m)) true (σ.H++σ.Hf) m K where
 rd:=fun a ha=>⟨h.toPur.all a ha,fun w' ⟨K',L',h1,h2⟩=>by
   have hmem:HA.conc m a∈σ.atoms fr m:=by
     unfold Zt.atoms
     rcases V3.1 ha with ha|ha
     . exact af0 _ (dC0 ha)
     . refine ae0 _ (af0 _ ?_);rw[HA.conc_mono h.toPur.mono (h.okF a ha)];exact dC0 ha
   obtain⟨i,hi,he⟩:=Z8 hmem;have hg:(σ.atoms fr m++L')[i]?=some (HA.conc m a):=by
     rw[V6 hi,Z0 hi,he]
   exact⟨K',_,h2.front i hg⟩⟩
 kn:=fun _ b o v hv=>Rd.k hv (Hp.le_refl K)
theorem Rel.hold(h:Rel E fr σ m K ρ w):Hold E K (σ.atoms fr m) w:=Hold.of_sep h.sep
def Same(σ σ':Zt):Prop:=0=0/\σ'.Hf=σ.Hf
theorem Same.rfl':Same σ σ:=⟨rfl,rfl⟩
theorem Same.trans{σ1 σ2 σ3:Zt}(h:Same σ1 σ2)(k:Same σ2 σ3):Same σ1 σ3:=⟨rfl,k.2.trans h.2⟩
theorem Fine.same{σ':Zt}(f:Fine m K ρ σ σ'):Same σ σ':=by
 rcases f with rfl|⟨d,sv,rfl,_⟩|⟨j,v,u,rfl,_⟩
 . exact Same.rfl'
 . exact⟨rfl,iL.2⟩
 . exact⟨rfl,rfl⟩
theorem Rel.toSep(h:Rel E fr σ m K ρ w):Sep E K (σ.H.map (HA.conc m)++σ.fz fr) w:=h.sep
theorem ax(m ms:List M):m <+: m++ms:=⟨ms,rfl⟩
theorem d9{m ms:List M}{k nx:Nat}(h:m.length=nx):(m++ms)[nx+k]?=ms[k]?:=by
 subst h;rw[V5 (by omega)];congr 1;omega
theorem aR{m ms:List M}{nx:Nat}(h:m.length=nx):(m++ms)[nx]?=ms[0]?:=d9 (k:=0) h
theorem Rel.newB(h:Rel E fr σ m K ρ w){d b:Nat}{e:TypeId}{cs:List SV}{us:List Value}(hr:SV.relL m K cs us)(hs:Sep E K (Cl b e us::σ.atoms fr m) w') :
   Rel E fr ⟨σ.base,(d,.ptr σ.nx 0)::σ.top,.blk σ.nx (σ.nx+1) e cs::σ.H,σ.Hf,σ.nx+2,σ.kq⟩ (m++[.val (.pointer (some ⟨b,0,none⟩)),.cells us]) K (aY ρ d (.pointer (some ⟨b,0,none⟩))) w':=by
 have hp:=ax m [.val (.pointer (some ⟨b,0,none⟩)),.cells us];have g0:(m++[.val (.pointer (some ⟨b,0,none⟩)),.cells us])[σ.nx]?=some (.val (.pointer (some ⟨b,0,none⟩))):=aR h.nx;have g1:(m++[.val (.pointer (some ⟨b,0,none⟩)),.cells us])[σ.nx+1]?=some (.cells us):=d9 (k:=1) h.nx;have q:Pur fr ⟨σ.base,σ.top,.blk σ.nx (σ.nx+1) e cs::σ.H,σ.Hf,σ.nx+2,σ.kq⟩ (m++[.val (.pointer (some ⟨b,0,none⟩)),.cells us]) K ρ:=by
   refine Pur.next h.toPur hp (Hp.le_refl K) (fun e=>⟨e,rfl⟩) (by simp[h.nx]) ?_;intro a ha
   rcases Y4.1 ha with rfl|ha
   . exact⟨b,us,g0,g1,SV.monoL (fun _ _ k=>aq hp k) (Hp.le_refl K) _ hr⟩
   . exact h.toPur.okH' hp (Hp.le_refl K) a ha
 refine⟨q.set (d:=d) (sv:=.ptr σ.nx 0) (v:=.pointer (some ⟨b,0,none⟩)) ⟨b,g0,rfl⟩,?_⟩
 . show Sep E K ((HA.conc _ _::σ.H.map (HA.conc _))++σ.fz fr) w';rw[h.toPur.conc hp (fun a ha=>ha)];simp only[HA.conc,g0,g1];exact hs
theorem Rel.newR(h:Rel E fr σ m K ρ w){d:Nat}{H:List HA}(hH:∀a∈H,a∈σ.H){e:TypeId}{t:Tp}{l:List t.den}{v:Value}{K0:Hp}(hK0:K0.le K)(hs:Sep E K (Row K0 e t v l::(H.map (HA.conc m)++σ.fz fr)) w') :
   ∃m',Rel E fr ⟨σ.base,(d,.own σ.nx)::σ.top,.row σ.nx (σ.nx+1) e t l l.length::H,σ.Hf,σ.nx+2,σ.kq⟩ m' K (aY ρ d v) w':=by
 obtain⟨h0,⟨cs,h1,h2⟩,h3,h4⟩:=hs;obtain⟨ad,cap,rfl,f1,f2,f3⟩:=Row.form h0 ⟨cs,h1,h2⟩;refine⟨m++[.val (.slice ad l.length cap),.cont t l cs],?_⟩;have hp:=ax m [.val (.slice ad l.length cap),.cont t l cs];have g0:(m++[.val (.slice ad l.length cap),.cont t l cs])[σ.nx]?=some (.val (.slice ad l.length cap)):=aR h.nx;have g1:(m++[.val (.slice ad l.length cap),.cont t l cs])[σ.nx+1]?=some (.cont t l cs):=d9 (k:=1) h.nx;have q:Pur fr ⟨σ.base,σ.top,.row σ.nx (σ.nx+1) e t l l.length::H,σ.Hf,σ.nx+2,σ.kq⟩ (m++[.val (.slice ad l.length cap),.cont t l cs]) K ρ:=by
   refine Pur.next h.toPur hp (Hp.le_refl K) (fun e=>⟨e,rfl⟩) (by simp[h.nx]) ?_;intro a ha
   rcases Y4.1 ha with rfl|ha
   . exact⟨ad,cap,cs,g0,g1,h1.mono hK0,rfl,f1,f2,f3⟩
   . exact h.toPur.okH' hp (Hp.le_refl K) a (hH a ha)
 refine⟨q.set (d:=d) (sv:=.own σ.nx) (v:=.slice ad l.length cap) ⟨g0,rfl⟩,?_⟩
 . show Sep E K ((HA.conc _ _::H.map (HA.conc _))++σ.fz fr) w';rw[h.toPur.conc hp hH];simp only[HA.conc,g0,g1];exact⟨h0,h2,h3,h4⟩
theorem Rel.take(h:Rel E fr σ m K ρ w){β:Type}{f:HA->Option β}{q:β}{H:List HA}(hq:pick f σ.H=some (q,H)):∃a,f a=some q/\a∈σ.H/\(∀x∈H,x∈σ.H)/\Sep E K (HA.conc m a::(H.map (HA.conc m)++σ.fz fr)) w:=by
 obtain⟨a,h1,h2,h3⟩:=bJ hq;exact⟨a,h1,h2,fun x hx=>h3.symm.subset (W5 _ hx),Sep.perm (((h3.map (HA.conc m)).append_right _)) h.toSep⟩
theorem Row.of_rw{e:TypeId}{t:Tp}{l:List t.den}{cs:List Value}{v:Value}(h:Els K t cs l):∀h0,Rw e t.size v l.length cs h0->Row K e t v l h0:=fun h0 hr=>⟨cs,h,hr⟩
theorem HA.ok_row{i c:Nat}{e:TypeId}{t:Tp}{l:List t.den}{k:Nat}(h:HA.ok m K (.row i c e t l k)):∃ad cap cs,m[i]?=some (.val (.slice ad k cap))/\m[c]?=some (.cont t l cs)/\Els K t cs l/\l.length=k/\(l≠[]->∃g,ad=some ⟨g,0,none⟩)/\HA.conc m (.row i c e t l k)=Rw e t.size (.slice ad k cap) k cs:=by
 obtain⟨ad,cap,cs,h1,h2,h3,h4,_,_,h5⟩:=h;exact⟨ad,cap,cs,h1,h2,h3,h4,h5,by simp only[HA.conc,h1,h2]⟩
theorem HA.ok_blk{i c:Nat}{e:TypeId}{cs:List SV}(h:HA.ok m K (.blk i c e cs)):∃b vs,m[i]?=some (.val (.pointer (some ⟨b,0,none⟩)))/\m[c]?=some (.cells vs)/\SV.relL m K cs vs/\HA.conc m (.blk i c e cs)=Cl b e vs:=by
 obtain⟨b,vs,h1,h2,h3⟩:=h;exact⟨b,vs,h1,h2,h3,by simp only[HA.conc,h1,h2]⟩
end
end
section
variable [BldA]
section
variable {R:Type}{P:Program}{E:En}{n:Nat}{m m':List M}{K K':Hp}{fr:Frz}{σ:Zt}{ρ:Sl1}{w w':World}
def OpOk(P:Program)(E:En)(n:Nat)(fr:Frz)(σ:Zt)(ρ:Sl1)(w:World)(o:Oper)(Ψ:Zt->Prop):Prop :=
 ∀(X:Act->World->Prop) (Q:Exit->Act->World->Prop),(∀σ' m' K' ρ' w',Rel E fr σ' m' K' ρ' w'->Same σ σ'->Ψ σ'->X (act1 n ρ') w')->o.wp P (act1 n ρ) w X Q
variable {k:Zt->Option R}{r:R}{d:Nat}{op:Op}{t:TypeId}{pos:String}{af:Array Edge}
theorem OpOk.mono{o:Oper}{Ψ Ψ':Zt->Prop}(h:OpOk P E n fr σ ρ w o Ψ)(k:∀σ',Ψ σ'->Ψ' σ'):OpOk P E n fr σ ρ w o Ψ':=fun X Q hX=>h X Q (fun σ' m' K' ρ' w' h1 h2 h3=>hX σ' m' K' ρ' w' h1 h2 (k σ' h3))
theorem Ic{h0:Hn P}{k:Hn P->Zt->Option R}(h:kv n ⟨some d,op,t,pos,af,none⟩ h0 σ k=some r)(hr:Rel E fr σ m K ρ w):OpOk P E n fr σ ρ w ⟨some d,op,t,pos,af,none⟩ (fun σ'=>k h0 σ'=some r):=fun X Q hX=>by
 obtain⟨σ',sv,v,h1,h2,h3,h4⟩:=wV (show vop P n true (σ.H++σ.Hf) σ op (fun σ v=>k h0 (σ.set d v))=some r from h) hr.toPur hr.cls;unfold Oper.wp;rw[cg,h4 _ _ _ _ _ w hr.hold,Oper.upon_value,bT];have h5:=(h2.rel hr).set (d:=d) h3;exact hX _ _ _ _ _ h5 (h2.same.trans ⟨rfl,rfl⟩) h1
theorem F9 {e:TypeId} (h:qL P σ (some d) e k=some r) (hr:Rel E fr σ m K ρ w):OpOk P E n fr σ ρ w ⟨some d,.alloc e,t,pos,af,none⟩ (fun σ'=>k σ'=some r):=fun X Q hX=>by
 unfold qL at h;cases hb:Y3 e BldA.t with
 | true =>
   rw [hb] at h;simp only [cond_true] at h;replace h:=ak h; obtain ⟨h1,h⟩:=h;obtain rfl:=Y0 hb;have hz : ∃ sz bt, Inf P BldA.t (.agg #[.pointer none, .slice none 0 0]) sz bt := by
     unfold DO at h1;split at h1
     . rename_i i hi;split at h1
       . rename_i cs hz;split at h1
         . rename_i hcs;obtain rfl:cs = #[.pointer none,.slice none 0 0]:=by simpa using congrArg aN0 hcs
           exact⟨i.size,i.bytes,by unfold Inf;rw[hi];simp[hz]⟩
         . cases h1
       . cases h1
     . cases h1
   obtain⟨sz,bt,hz⟩:=hz;refine bw ((A.alloc (cs:=[.pointer none,.slice none 0 0]) hz rfl).go w hr.toSep _ _ ?_);rintro ρ' K' L' w' ⟨b,rfl,rfl,rfl⟩ hs;have hs:=BldA.fresh hs;have hp:=ax m [.val (.pointer (some ⟨b,0,none⟩))];have g0:(m++[.val (.pointer (some ⟨b,0,none⟩))])[σ.nx]?=some (.val (.pointer (some ⟨b,0,none⟩))):=aR hr.nx;have q:Pur fr ⟨σ.base,σ.top,.bld σ.nx []::σ.H,σ.Hf,σ.nx+1,σ.kq⟩ (m++[.val (.pointer (some ⟨b,0,none⟩))]) K ρ:=by
     refine Pur.next hr.toPur hp (Hp.le_refl K) (fun e=>⟨e,rfl⟩) (by simp[hr.nx]) ?_;intro a ha
     rcases Y4.1 ha with rfl|ha
     . exact⟨b,g0⟩
     . exact hr.toPur.okH' hp (Hp.le_refl K) a ha
   refine hX _ _ _ _ _ ⟨q.set (d:=d) (sv:=.ptr σ.nx 0) (v:=.pointer (some ⟨b,0,none⟩)) ⟨b,g0,rfl⟩,?_⟩ ⟨rfl,rfl⟩ h;show Sep E K ((HA.conc _ _::σ.H.map (HA.conc _))++σ.fz fr) w';rw[hr.toPur.conc hp (fun a ha=>ha)];simp only[HA.conc,g0];exact hs
 | false =>
   rw[hb]at h;simp only[cond_false]at h;split at h
   . rename_i cs hcs;obtain⟨z,sz,bt,h1,h2⟩:=gf (m:=m) (K:=K) hcs;refine bw ((A.alloc h1 rfl).go w hr.toSep _ _ ?_);rintro ρ' K' L' w' ⟨b,rfl,rfl,rfl⟩ hs;exact hX _ _ _ _ _ (hr.newB h2 hs) ⟨rfl,rfl⟩ h
   . cases h
theorem Iw{e:TypeId}{x:Operand}{cs:List SV}(hc:(σ.evr n x).cells=some cs)(h:newB σ (some d) e cs k=some r)(hr:Rel E fr σ m K ρ w):OpOk P E n fr σ ρ w ⟨some d,.box e x,t,pos,af,none⟩ (fun σ'=>k σ'=some r):=fun X Q hX=>by
 have h2:=mR hc (hr.toPur.evr n x);refine bw ((A.box rfl rfl).go w hr.toSep _ _ ?_);rintro ρ' K' L' w' ⟨b,rfl,rfl,rfl⟩ hs;exact hX _ _ _ _ _ (hr.newB h2 hs) ⟨rfl,rfl⟩ h
theorem Aj:∀{vs:List SV} {us:List Value},vs.all SV.leaf=true->SV.relL m K vs us->us.all (fun u=>u.oneCell')=true
 |[],us,h,hr=>by obtain rfl:=aU hr;rfl
 | v :: vs,us,h,hr=>by
   obtain⟨u,q,rfl,h1,h2⟩:=aM hr;simp only[dg0,Y1]at h ⊢;exact⟨vA _ h.1 h1,Aj h.2 h2⟩
theorem Gz{t:Tp}{x:t.den}{es:List Value}{vs:List SV}{us:List Value}{o:Nat}{y:t.den}(hd:dt t (splice (SV.lv t x) o vs)=some (y,[]))(hi:Is K t es x)(hr:SV.relL m K vs us):Is K t (es.take o++us++es.drop (o+us.length)) y:=by
 obtain⟨c1,c2,h1,h2,h3⟩:=cL t hd (uO o (en (m:=m) t hi) hr);obtain rfl:=aU h3;rw[Z6]at h1;rw[h1];exact h2
theorem Els.splice{t:Tp}:∀{xs:List t.den} {cs:List Value},Els K t cs xs->∀(i:Nat) (x y:t.den),xs[i]?=some x->∀(o:Nat) (us:List Value),o+us.length<=t.size->(∀es,Is K t es x->Is K t (es.take o++us++es.drop (o+us.length)) y) ->
   Els K t (cs.take (i*t.size+o)++us++cs.drop (i*t.size+o+us.length)) (xs.set i y)
 |[],cs,h,i,x,y,hx,_,_,_,_=>by simp at hx
 | z :: xs,cs,h,0,x,y,hx,o,us,ho,hs=>by
   obtain⟨es,q,rfl,h1,h2⟩:=h;simp at hx;subst hx;have hl:=h1.len;refine⟨es.take o++us++es.drop (o+us.length),q,?_,hs es h1,h2⟩;rw[bO0,Y8,au0 (by omega),cK0 (by omega)];simp
 | z :: xs,cs,h,i + 1,x,y,hx,o,us,ho,hs=>by
   obtain⟨es,q,rfl,h1,h2⟩:=h;have hl:=h1.len;refine⟨es,_,?_,h1,Els.splice h2 i x y (by simpa using hx) o us ho hs⟩;have e:(i+1)*t.size+o=es.length+(i*t.size+o):=by rw[hl,aC0];omega
   rw[e,bD0,aG0 es.length,cO0];simp
theorem A.storeRw{s e:TypeId}{b mm cap sz kk nn o:Nat}{cs ds:List Value}{L:List ah}{x y:Operand}{v:Value}{g:Option (Nat×Bool)}(hz:(P.info? s).map (·.size)=some sz)(hx:ev n ρ x=.pointer (some ⟨b,o,none⟩))(hy:ev n ρ y=v)(hl:v.cells.toList=ds)(h1':ds.all (fun u=>u.oneCell')=true)
   (hsz:ds.length=sz) (ho:o+ds.length<=cs.length) :
   Ao P E n ⟨none,.store s x y,t,pos,af,g⟩ ρ K (Rw e kk (.slice (some ⟨b,0,none⟩) mm cap) nn cs::L) (fun ρ' K' L'=>ρ=ρ'/\K=K'/\L'=Rw e kk (.slice (some ⟨b,0,none⟩) mm cap) nn (cs.take o++ds++cs.drop (o+ds.length))::L) :=
 Ao.ofU rfl (fun w hsep=>by
   have h1:∀u∈ds,u.oneCell'=true:=aF0.1 h1'
   obtain⟨h,⟨hlen,h3⟩,hd0,hs2⟩:=hsep
   rcases h3 with⟨h3,_⟩|⟨gb,cp,cur,h3,rfl,h4,h5,h6,h7⟩
   . cases h3
   simp only[Value.slice.injEq,Z3,Addr.mk.injEq,and_true]at h3;obtain⟨rfl,hm,rfl⟩:=h3;have hblk:w.heap[b]?=some (.cells cur e (0,0)):=hs2.sub b _ (Hp.join_right (bn b _) (hd0 b _ (bn b _)));have hcz:cur.toList.length=cap*kk:=by rw[Y5];exact h6
   have hle:nn*kk<=cap*kk:=aI0 _ h4;have L1:(cur.toList.take o).length=o:=by rw[X4,hcz];omega
   have L2:(cs.take o).length=o:=by rw[X4];omega
   have hvs:v.cells.size=ds.length:=by rw[<- hl,Y5]
   subst hsz;cases hi:P.info? s with
   |none=>rw[hi]at hz;simp at hz
   | some i' =>
     rw[hi]at hz;simp at hz;have h8:=run_storeCells_at P b o e ds 0 cur w hblk (by rw[<- Y5,hcz];omega) h1;simp only[aD0]at h8;refine⟨w.setRow b (cur.toList.take o++ds++cur.toList.drop (o+ds.length)).toArray,K,_,?_,?_,rfl,rfl,rfl⟩
     . simp[execOp,hx,hy,Instr.storeAt,Instr.sureAddr,storeVar,sizeOf,typeInfo,hi,hz,hvs,hl];rw[h8];simp
     . refine Sep.turn (A:=fun h=>h=one b (.cells cur e (0,0))) ⟨_,rfl,hd0,hs2⟩ (fun e=>e) (fun h0 ha _=>?_);obtain rfl:h0=_:=ha;refine⟨one b (.cells (cur.toList.take o++ds++cur.toList.drop (o+ds.length)).toArray e (0,0)),⟨?_,.inr ⟨b,cap,_,by rw[hm],rfl,h4,h5,?_,?_⟩⟩,fun n o' e'=>?_,fun n o' e' h1=>?_⟩
       . rw[W3,W3,L2,W8];omega
       . rw[aV0,W3,W3,L1,W8,hcz];omega
       . rw[<- h7];rw[bq0,an0 (by omega),X1,bU0,bU0,L1,bq0,cJ0 (by omega),V8 (l:=ds) (by omega),dv0,X1,eG0]
       . obtain⟨rfl,rfl⟩:=cv e';exact⟨setRow_heap w n _ _ e (0,0) hblk,fun h=>by rw[bn]at h;cases h⟩
       . have hn:n≠b:=fun e=>by subst e;rw[bn]at h1;cases h1
         rw[setRow_other w b n _ hn];exact e')
theorem b7{α:Type}{a b:Bool}{x:Option α}{r:α}(h:(bif a&&b then x else none)=some r):a=true/\b=true/\x=some r:=by
 cases a <;> cases b <;> first|(cases h;done)|exact⟨rfl,rfl,h⟩
theorem LT {s:TypeId} {x y:Operand} {p:SV} (h:sto P σ s p (σ.evr n y) k=some r) (hr:Rel E fr σ m K ρ w) (hx:SV.rel m K p (ev n ρ x)):OpOk P E n fr σ ρ w ⟨none,.store s x y,t,pos,af,none⟩ (fun σ'=>k σ'=some r):=fun X Q hX=>by
 have hy:=hr.toPur.evr n y;unfold sto at h;split at h
 . rename_i vs z hvs hz;replace h:=b7 h;obtain⟨h1,h2,h⟩:=h;have h1:=Y0 h1;have hc:=mR hvs hy;have hlen:=cG hc;have hone:=Aj h2 hc;split at h
   . rename_i i o;split at h
     . rename_i q H hq;replace h:=ak h;obtain⟨hb,h⟩:=h;have hb':=W9 hb;obtain⟨a,ha,hmem,hsub,hs⟩:=hr.take hq;obtain rfl:=cH ha;obtain⟨b,us,g1,g2,g3,g4⟩:=HA.ok_blk (hr.okH _ hmem);rw[g4]at hs;obtain⟨b',g5,hx⟩:=hx;rw[g1]at g5;cases g5;have hul:=cG g3;refine bw ((A.store (v:=ev n ρ y) hz hx rfl (by rw[<- Y5,hlen,h1]) (by rw[hul];exact hb) hone rfl).go w hs _ _ ?_);rintro ρ' K' L' w' ⟨rfl,rfl,rfl⟩ hs';have hp:=ax m [.cells (us.take o++(ev n ρ y).cells.toList++us.drop (o+z))];have gn:(m++[.cells (us.take o++(ev n ρ y).cells.toList++us.drop (o+z))])[σ.nx]?=some (.cells (us.take o++(ev n ρ y).cells.toList++us.drop (o+z))):=aR hr.nx;refine hX ⟨σ.base,σ.top,.blk i σ.nx q.e (splice q.cs o vs)::H,σ.Hf,σ.nx+1,σ.kq⟩ (m++[.cells (us.take o++(ev n ρ y).cells.toList++us.drop (o+z))]) K _ _ ⟨Pur.next hr.toPur hp (Hp.le_refl K) (fun e=>⟨e,rfl⟩) (by simp[hr.nx]) ?_,?_⟩ ⟨rfl,rfl⟩ h
       . intro a ha
         rcases Y4.1 ha with rfl|ha
         . refine⟨b,_,aq hp g1,gn,?_⟩;have:=uO o g3 hc;rw[hlen,h1]at this;exact SV.monoL (fun _ _ k=>aq hp k) (Hp.le_refl K) _ this
         . exact hr.toPur.okH' hp (Hp.le_refl K) a (hsub a ha)
       . show Sep E K ((HA.conc _ _::H.map (HA.conc _))++σ.fz fr) w';rw[hr.toPur.conc hp hsub];simp only[HA.conc,aq hp g1,gn];exact hs'
     . cases h
   . rename_i i c tp j x0 o;split at h
     . rename_i q H hq;replace h:=b7 h;obtain⟨hb1,hb,h⟩:=h;have hb1:=Y0 hb1;have hb':=W9 hb;split at h
       . rename_i hsm y0 hsm' hd;obtain⟨hsm⟩:=hsm;obtain⟨a,ha,hmem,hsub,hs⟩:=hr.take hq;obtain rfl:=bP ha;obtain⟨c0,e0,t0,l0,n0⟩:=q;dsimp only at *;subst hsm;subst hb1;obtain⟨ad,cap,cs,g1,g2,g3,g4,g5,g6⟩:=HA.ok_row (hr.okH _ hmem);rw[g6]at hs;obtain⟨g,nn,cap',l',cs',q1,q2,q3,hx⟩:=hx;rw[g1]at q1;simp only[Z3,M.val.injEq,Value.slice.injEq]at q1;obtain⟨rfl,rfl,rfl⟩:=q1;rw[g2]at q2;simp only[Z3,M.cont.injEq,heq_eq_eq,true_and]at q2;obtain⟨rfl,rfl⟩:=q2;obtain⟨p1,p2,p3⟩:=dY q3;have hcl:=g3.len;have hjl:=(V4.1 p2).1;have hle:(j.toNat+1)*t0.size<=l0.length*t0.size:=aI0 _ (by omega);rw[aC0]at hle;obtain⟨zs,hzs,h⟩:=ob h;cases hzs;have hel:=Els.splice g3 j.toNat x0 y0 p2 o (ev n ρ y).cells.toList (by rw[hlen,h1];exact hb') (fun es hes=>Gz (m:=m) hd hes (ef _ hc));refine bw ((A.storeRw (nn:=n0) hz hx rfl rfl hone (by rw[hlen,h1]) (by rw[hlen,h1,hcl];have hb2:o+z<=t0.size:=hb';show j.toNat*t0.size+o+z<=l0.length*t0.size;omega)).go w hs _ _ ?_);rintro ρ' K' L' w' ⟨rfl,rfl,rfl⟩ hs';have hp:=ax m [.cont t0 (l0.set j.toNat y0) (cs.take (j.toNat*t0.size+o)++(ev n ρ y).cells.toList++cs.drop (j.toNat*t0.size+o+(ev n ρ y).cells.toList.length))];have gn:(m++[.cont t0 (l0.set j.toNat y0) (cs.take (j.toNat*t0.size+o)++(ev n ρ y).cells.toList++cs.drop (j.toNat*t0.size+o+(ev n ρ y).cells.toList.length))])[σ.nx]?=some (.cont t0 (l0.set j.toNat y0) (cs.take (j.toNat*t0.size+o)++(ev n ρ y).cells.toList++cs.drop (j.toNat*t0.size+o+(ev n ρ y).cells.toList.length))):=aR hr.nx;obtain⟨_,_,_,k1,_,_,_,k5,k6,_⟩:=hr.okH _ hmem;refine hX ⟨σ.base,σ.top,.row i σ.nx e0 t0 (l0.set j.toNat y0) n0::H,σ.Hf,σ.nx+1,σ.kq⟩ _ K _ _ ⟨Pur.next hr.toPur hp (Hp.le_refl K) (fun e=>⟨e,rfl⟩) (by simp[hr.nx]) ?_,?_⟩ ⟨rfl,rfl⟩ h
         . intro a ha
           rcases Y4.1 ha with rfl|ha
           . rw[g1]at k1;simp only[Z3,M.val.injEq,Value.slice.injEq]at k1;obtain⟨rfl,_,rfl⟩:=k1;exact⟨_,_,_,aq hp g1,gn,hel,by rw[ax0];exact g4,k5,k6,fun _=>⟨_,rfl⟩⟩
           . exact hr.toPur.okH' hp (Hp.le_refl K) a (hsub a ha)
         . show Sep E K ((HA.conc _ _::H.map (HA.conc _))++σ.fz fr) w';rw[hr.toPur.conc hp hsub];simp only[HA.conc,aq hp g1,gn];exact hs'
       . cases h
     . cases h
   . rename_i i o j off;split at h
     . rename_i q H hq;replace h:=ob h;obtain⟨_,hcj,h⟩:=h;have hcj:j=q.j:=of_decide_eq_true (ak hcj).1;replace h:=b7 h;obtain⟨hb1,hb,h⟩:=h;have hb1:off+z<=q.cs.length:=W9 hb1;have hb:=Y0 hb;obtain⟨a,ha,hmem,hsub,hs⟩:=hr.take hq;obtain rfl:=iC ha;obtain⟨ad,cap,K0,es,g1,g2,g3,g4,g5,g6,g7,g,rfl⟩:=hr.okH _ hmem;simp only[HA.conc,g1,g2]at hs;obtain⟨h0,⟨c1,c2,hl,hst⟩,hd,hs⟩:=hs;have hs:=Sep.split ⟨h0,hst,hd,hs⟩;obtain⟨g',nn,cap',q1,q2,q3,hx⟩:=hx;rw[g1]at q1;simp only[Z3,M.val.injEq,Value.slice.injEq,Addr.mk.injEq,and_true]at q1;obtain⟨rfl,rfl,rfl⟩:=q1;have hesl:=cG g4;subst hcj;rw[hb]at hx;refine bw ((A.storeRw (nn:=q.l.length) hz hx rfl rfl hone (by rw[hlen,h1]) (by rw[hlen,h1,W3,W3,hl];omega)).go w hs _ _ ?_);rintro ρ' K' L' w' ⟨rfl,rfl,rfl⟩ hs';have hp:=ax m [.hol K0 (es.take off++(ev n ρ y).cells.toList++es.drop (off+z))];have gn:(m++[.hol K0 (es.take off++(ev n ρ y).cells.toList++es.drop (off+z))])[σ.nx]?=some (.hol K0 (es.take off++(ev n ρ y).cells.toList++es.drop (off+z))):=aR hr.nx;have hcat:(c1++(es++c2)).take (q.j.toNat*q.o.tp.size+off)++(ev n ρ y).cells.toList++(c1++(es++c2)).drop (q.j.toNat*q.o.tp.size+off+(ev n ρ y).cells.toList.length)=c1++((es.take off++(ev n ρ y).cells.toList++es.drop (off+z))++c2):=by
         rw[hlen,h1,<- hl,bD0,aG0 c1.length,cO0,au0 (by omega),cK0 (by omega)];simp
       rw[hcat]at hs';refine hX ⟨σ.base,σ.top,.hole i σ.nx q.e q.o q.l q.j (splice q.cs off vs)::H,σ.Hf,σ.nx+1,σ.kq⟩ (m++[.hol K0 (es.take off++(ev n ρ y).cells.toList++es.drop (off+z))]) K _ _ ⟨Pur.next hr.toPur hp (Hp.le_refl K) (fun e=>⟨e,rfl⟩) (by simp[hr.nx]) ?_,?_⟩ ⟨rfl,rfl⟩ h
       . intro a ha
         rcases Y4.1 ha with rfl|ha
         . refine⟨_,_,K0,_,aq hp g1,gn,g3,?_,g5,g6,?_,_,rfl⟩
           . have:=uO off g4 hc;rw[hlen,h1]at this;exact SV.monoL (fun _ _ k=>aq hp k) (Hp.le_refl K) _ this
           . rw[W3,W3,X4,W8,hlen,h1];omega
         . exact hr.toPur.okH' hp (Hp.le_refl K) a (hsub a ha)
       . show Sep E K ((HA.conc _ _::H.map (HA.conc _))++σ.fz fr) w';rw[hr.toPur.conc hp hsub];simp only[HA.conc,aq hp g1,gn];exact (Sep.join hs').mono (fun h k=>⟨c1,c2,hl,k⟩)
     . cases h
   . cases h
 . cases h
end
end
section
variable [BldA]
section
variable {R:Type}{P:Program}{E:En}{n:Nat}{m m':List M}{K K':Hp}{fr:Frz}{σ:Zt}{ρ:Sl1}{w w':World}{d:Option Nat}{t:TypeId}{pos:String}{af:Array Edge}
theorem Els.take1{K:Hp}{ty:Tp}(h1:ty.size=1):∀{xs:List ty.den} {cs:List Value} (k:Nat),Els K ty cs xs->Els K ty (cs.take k) (xs.take k)
 | [],cs,k,h=>by
   obtain rfl:cs=[]:=h;simp[Els]
 |x::xs,cs,0,h=>by simp[Els]
 | x :: xs,cs,k + 1,h=>by
   obtain⟨es,r,rfl,h2,h3⟩:=h;have hl:=h2.len;rw[h1]at hl;rw[bU0,hl,cq0,V8 (by omega)];exact⟨es,_,rfl,h2,Els.take1 h1 k h3⟩
theorem Els.drop1{K:Hp}{ty:Tp}(h1:ty.size=1):∀{xs:List ty.den} {cs:List Value} (k:Nat),Els K ty cs xs->Els K ty (cs.drop k) (xs.drop k)
 | [],cs,k,h=>by
   obtain rfl:cs=[]:=h;simp[Els]
 |x::xs,cs,0,h=>h
 | x :: xs,cs,k + 1,h=>by
   obtain⟨es,r,rfl,h2,h3⟩:=h;have hl:=h2.len;rw[h1]at hl;rw[fp0,hl,cq0,eq0 (by omega),aH0];exact Els.drop1 h1 k h3
theorem A.copyRw{s s2 e:TypeId}{lo dl dc m cap sl sc:Nat}{cs ds:List Value}{ad adr adx:Option Addr}{L:List ah}{x y:Operand}(hs:P.underlying s=some (.slice e))(hi:(P.info? e).map (·.size)=some 1)
   (hx:ev n ρ x=.slice adx dl dc) (ho:dl=0\/∃b,adr=some ⟨b,0,none⟩/\adx=some ⟨b,lo,none⟩) (hlo:lo+dl<=m) (hy:ev n ρ y=.slice ad sl sc) (hsl:sl=ds.length) (h1:∀v∈ds,v.oneCell'=true)
   (hld:∀w,Sep E K (Rw e 1 (.slice adr m cap) m cs::L) w->∀a,ad=some a->∀j u,ds[j]?=some u->w.cell? (a.add j)=some u) (hnil:ad=none->ds=[]) :
   Ao P E n ⟨d,.call ⟨.builtin .copy,#[x,y],#[s,s2]⟩,t,pos,af,none⟩ ρ.f K (Rw e 1 (.slice adr m cap) m cs::L)
     (fun ρ' K' L'=>ρ'=(match d with|some d=>upd ρ.f d (.int .i64 ((min ds.length dl:Nat):Int))|none=>ρ.f)/\K=K'/\L'=Rw e 1 (.slice adr m cap) m (cs.take lo++(ds.take dl++cs.drop (lo+(ds.take dl).length)))::L):=by
 refine⟨fun w hsep X Q hX=>?_⟩;have hsep':=hsep;have hT:(ds.take dl).length=min ds.length dl:=by rw[X4,Nat.min_comm]
 subst hsl;have hrun:∃w',(Builtin.copy_ #[s,s2] t #[.slice adx dl dc,.slice ad ds.length sc]).run P w=.ok (goInt ((min ds.length dl:Nat):Int)) w'/\Sep E K (Rw e 1 (.slice adr m cap) m (cs.take lo++(ds.take dl++cs.drop (lo+(ds.take dl).length)))::L) w':=by
   by_cases h0:min ds.length dl=0
   . refine⟨w,?_,?_⟩
     . rw[run_copy_none w s s2 t e _ _ _ _ _ _ hs hi h0,h0];rfl
     . have e1:ds.take dl=[]:=Z4.1 (by rw[hT,h0]);rw[e1,aH0,do0,aD0,as0];exact hsep'
   . obtain⟨b,rfl,rfl⟩:=ho.resolve_left (by omega);obtain⟨h,⟨hlen,h3⟩,hd0,hs2⟩:=hsep
     rcases h3 with⟨h3,_⟩|⟨gb,cp,cur,h3,rfl,h4,h5,h6,h7⟩
     . cases h3
     simp only[Value.slice.injEq,Z3,Addr.mk.injEq,and_true,true_and]at h3;obtain⟨rfl,rfl⟩:=h3;rw[ba0]at h6 h7 hlen;have hblk:w.heap[b]?=some (.cells cur e (0,0)):=hs2.sub b _ (Hp.join_right (bn b _) (hd0 b _ (bn b _)));have hcz:cur.toList.length=cap:=by rw[Y5];exact h6
     cases ad with
     |none=>rw[hnil rfl]at h0;simp at h0
     | some a =>
       have hr:=run_copy_row (P:=P) w s s2 t e b lo dl dc a ds.length sc cur e (ds.take dl) hs hi hblk hT (fun j u hj=>hld w hsep' a rfl j u (by
         rw[aM0]at hj;split at hj
         . exact hj
         . cases hj)) (by rw[<- Y5,hcz,hT];omega) (fun v hv=>h1 v (bg0 hv))
       rw[hT]at hr;refine⟨_,hr,?_⟩;have L1:(cur.toList.take lo).length=lo:=by rw[X4,hcz];omega
       have L2:(cs.take lo).length=lo:=by rw[X4];omega
       rw[<- hT];generalize hds:ds.take dl=es at *;have hes:lo+es.length<=cs.length:=by rw[hT,hlen];omega
       refine Sep.turn (A:=fun h=>h=one b (.cells cur e (0,0))) ⟨_,rfl,hd0,hs2⟩ (fun e=>e) (fun h0 ha _=>?_);obtain rfl:h0=_:=ha;refine⟨one b (.cells (cur.toList.take lo++es++cur.toList.drop (lo+es.length)).toArray e (0,0)),⟨?_,.inr ⟨b,cap,_,rfl,rfl,h4,h5,?_,?_⟩⟩,fun n o' e'=>?_,fun n o' e' h1=>?_⟩
       . rw[W3,W3,L2,W8];omega
       . rw[aV0,W3,W3,L1,W8,hcz];omega
       . rw[<- h7,ba0];rw[bq0,an0 (by omega),X1,bU0,bU0,L1,bq0,cJ0 (by omega),V8 (l:=es) (by omega),dv0,eG0]
       . obtain⟨rfl,rfl⟩:=cv e';exact⟨setRow_heap w n _ _ e (0,0) hblk,fun h=>by rw[bn]at h;cases h⟩
       . have hn:n≠b:=fun e=>by subst e;rw[bn]at h1;cases h1
         rw[setRow_other w b n _ hn];exact e'
 obtain⟨w',hr,hsw⟩:=hrun;unfold Oper.wp;have he:(execOp (ev n ρ) ⟨d,.call ⟨.builtin .copy,#[x,y],#[s,s2]⟩,t,pos,af,none⟩).run P w=.ok (.value (goInt ((min ds.length dl:Nat):Int))) w':=by
   simp[execOp,resolve,invoke,builtin,hx,hy]at hr ⊢;rw[hr];rfl
 rw[eval_act,he,Oper.upon_value];cases d with
 |none=>exact hX ρ.f K _ w' ⟨rfl,rfl,rfl⟩ hsw
 |some d=>rw[put_act];exact hX _ K _ w' ⟨rfl,rfl,rfl⟩ hsw
theorem F7{e:TypeId}{z:Nat}(h:cj P e z=true):(P.info? e).map (·.size)=some z:=by
 unfold cj at h;split at h
 . rename_i i hi;simp only[Y1]at h;rw[hi];have:=Y0 h.1.1.1;simp[this]
 . cases h
theorem Bb{ty:Tp}{i:Nat}{ys:List ty.den}{C:World->Prop}(h:sB ty i (σ.H++σ.Hf)=some ys)(hc:Cls E C true (σ.H++σ.Hf) m K)(h1:ty.size=1) :
   ∃ad cap cs,m[i]?=some (.val (.slice ad ys.length cap))/\Els K ty cs ys/\cs.length=ys.length/\(∀w',C w'->∀a,ad=some a->∀j u,cs[j]?=some u->w'.cell? (a.add j)=some u)/\(ys≠[]->∃g,ad=some ⟨g,0,none⟩):=by
 unfold sB at h;split at h
 . rename_i q hq;split at h
   . rename_i hsm hsm';obtain⟨hsm⟩:=hsm;cases h;obtain⟨at1,ha,hmem⟩:=bA hq;obtain rfl:=bP ha;obtain⟨c0,e0,t0,l0,n0⟩:=q;dsimp only at hsm hmem ⊢;subst hsm;obtain⟨hok,hrd⟩:=hc.rd _ hmem;obtain⟨ad,cap,cs,g1,g2,g3,g4,g5,g6⟩:=HA.ok_row hok;have hcl:cs.length=l0.length:=by rw[g3.len,h1,ba0]
     refine⟨ad,cap,cs,by rw[show (eJ ⟨rfl⟩ l0).length=n0 from g4];exact g1,g3,hcl,fun w' hw' a hae j u hj=>?_,g5⟩;obtain⟨K',L',hs⟩:=hrd w' hw';rw[g6]at hs;obtain⟨h0,hR,hd,hs2⟩:=hs;have hle:h0.le (Hp.of w'):=fun n o e=>hs2.sub n o (Hp.join_right e (hd n o e))
     obtain⟨g,cap',hv,hcc⟩:=Rw.cells hR j u hj;simp only[Value.slice.injEq]at hv;rw[hae]at hv;have:=ap0 hv.1;rw[this,bB,Y8];exact dX hle hcc
   . cases h
 . cases h
theorem HI{ty:Tp}{sv:SV}{v:Value}{ys:List ty.den}{C:World->Prop}(h:rD ty (σ.H++σ.Hf) sv=some ys)(hv:SV.rel m K sv v)(hc:Cls E C true (σ.H++σ.Hf) m K)(hK:∀w',C w'->K.le (Hp.of w'))(h1:ty.size=1) :
   ∃ad sc ds,v=.slice ad ds.length sc/\Els K ty ds ys/\ds.length=ys.length/\(∀w',C w'->∀a,ad=some a->∀j u,ds[j]?=some u->w'.cell? (a.add j)=some u)/\(ad=none->ds=[]):=by
 cases sv with
 | nils =>
   cases h;exact⟨none,0,[],hv,rfl,rfl,fun _ _ a e=>(by cases e),fun _=>rfl⟩
 | row u l z =>
   dsimp only[rD]at h;split at h
   . rename_i hsm hsm';obtain⟨hsm⟩:=hsm;cases h;subst hsm;obtain⟨hi,hl⟩:=hv;obtain⟨ad,cap,hv⟩:=hi.slv;rw[hv]at hi;cases ad with
     | none =>
       obtain⟨e1,e2⟩:=hi.nil_len;have e1:l=[]:=e1;subst e1;exact⟨none,cap,[],hv,rfl,rfl,fun _ _ a e=>(by cases e),fun _=>rfl⟩
     | some b =>
       obtain⟨ds,h5,h6,h7⟩:=hi.cells (by omega);have hdl:ds.length=l.length:=by rw[h5.len,h1,ba0]
       exact⟨some b,cap,ds,by rw[hv,hdl],h5,hdl,fun w' hw' a e=>by cases e;exact h7 w' (hK w' hw'),fun e=>by cases e⟩
   . cases h
 | own i =>
   obtain⟨ad,cap,cs,g1,g2,g3,g4,g5⟩:=Bb h hc h1;have hx:=hv.1;rw[g1]at hx;have hx:v=.slice ad ys.length cap:=by simp only[Z3,M.val.injEq]at hx;exact hx.symm
   refine⟨ad,cap,cs,by rw[hx,g3],g2,g3,g4,fun e=>?_⟩;have:ys=[]:=by
     by_cases q:ys=[]
     . exact q
     . obtain⟨g,hg⟩:=g5 q;rw[e]at hg;cases hg
   exact Z4.1 (by rw[g3,this];rfl)
 | prt i z lo hi =>
   unfold rD at h;replace h:=eK h;obtain⟨hz,h⟩:=h;have hz:z=1:=by simpa using hz
   subst hz;split at h
   . rename_i l hl;cases h;obtain⟨ad,cap,cs,g1,g2,g3,g4,g5⟩:=Bb hl hc h1;obtain⟨ad0,nn,cap',ad1,q1,q2,q3,q4,q5,hx⟩:=hv;rw[g1]at q1;simp only[Z3,M.val.injEq,Value.slice.injEq]at q1;obtain⟨rfl,rfl,rfl⟩:=q1;have hcl:((cs.take hi.toNat).drop lo.toNat).length=hi.toNat-lo.toNat:=by rw[W8,X4,g3];omega
     refine⟨ad1,cap-lo.toNat,(cs.take hi.toNat).drop lo.toNat,by rw[hx,hcl],Els.drop1 h1 _ (Els.take1 h1 _ g2),?_,fun w' hw' a e j u hj=>?_,fun e=>?_⟩
     . rw[hcl,W8,X4];omega
     . rw[bf0]at hj;have hlt:lo.toNat+j<hi.toNat:=by
         by_cases c:lo.toNat+j<hi.toNat
         . exact c
         . rw[aM0,if_neg c]at hj;cases hj
       rw[aM0,if_pos hlt]at hj;obtain⟨g,eg⟩:=g5 (fun e=>by rw[e]at q4;simp at q4;omega);have h9:=g4 w' hw' _ eg (lo.toNat+j) u hj;rw[bB,Y8]at h9;rw[q5 g (by omega) eg,ba0]at e;cases e;rw[bB];exact h9
     . apply Z4.1;rw[hcl];by_cases c:lo<hi
       . exfalso;obtain⟨g,eg⟩:=g5 (fun e=>by rw[e]at q4;simp at q4;omega);rw[q5 g c eg]at e;cases e
       . omega
   . cases h
 |_=>cases h
theorem HL {s s2:TypeId} {x y:Operand} {k:Zt->Option R} {r:R} (h:xp P σ d s (σ.ev n x) (σ.ev n y) k=some r) (hr:Rel E fr σ m K ρ w):OpOk P E n fr σ ρ w ⟨d,.call ⟨.builtin .copy,#[x,y],#[s,s2]⟩,t,pos,af,none⟩ (fun σ'=>k σ'=some r):=fun X Q hX=>by
 have hx:=hr.toPur.ev n x;have hy:=hr.toPur.ev n y;unfold xp at h;split at h
 . rename_i e i lo hi hs hto;split at h
   . rename_i q H hq;replace h:=b7 h;obtain⟨hb,hb2,h⟩:=h;rw[Y1]at hb2;have hb:=Y0 hb;have h1:=Y0 hb2.2;split at h
     . rename_i ys hys;obtain⟨zs,hzs,h⟩:=ob h;cases hzs;obtain⟨at1,hat,hperm⟩:=bJ hq;have hsep0:=hr.take hq;obtain⟨a,ha,hmem,hsub,hsep⟩:=hsep0;obtain rfl:=bP ha;obtain rfl:=bP hat;obtain⟨c0,e0,t0,l0,n0⟩:=q;change e0=e at hb;subst hb;change HA.row i c0 e0 t0 l0 n0∈σ.H at hmem;obtain⟨ad,cap,cs,g1,g2,g3,g4,g5,g6⟩:=HA.ok_row (hr.okH _ hmem);obtain⟨_,_,_,k1,_,_,_,k5,k6,_⟩:=hr.okH _ hmem;rw[g1]at k1;simp only[Z3,M.val.injEq,Value.slice.injEq,true_and]at k1;obtain⟨_,rfl⟩:=k1;dsimp only at h1 hys h
       -- the worlds in which it is read
       have hC:∀w',Sep E K (HA.conc m (.row i c0 e0 t0 l0 n0)::(H.map (HA.conc m)++σ.fz fr)) w'->Hold E K (σ.atoms fr m) w':=fun w' h' =>
         Hold.of_sep (Sep.perm ((hperm.2.map (HA.conc m)).append_right _).symm h')
       obtain⟨ad2,sc,ds,v1,v2,v3,v4,v5⟩:=HI hys hy hr.cls (fun w' ⟨K',L',hk,h'⟩=>hk.trans h'.sub) h1;have hdst:∃adx dl dc,ev n ρ x=.slice adx dl dc/\(dl=0\/∃b,ad=some ⟨b,0,none⟩/\adx=some ⟨b,lo.toNat,none⟩)/\lo.toNat+dl<=n0/\dl=bv n0 hi-lo.toNat:=by
         generalize hsv:σ.ev n x=sv at hto hx;cases sv with
         | own i' =>
           simp only[sN,Z3,bQ0]at hto;obtain⟨rfl,rfl,rfl⟩:=hto;have hv:=hx.1;rw[g1]at hv;simp only[Z3,M.val.injEq]at hv;refine⟨ad,n0,cap,hv.symm,?_,by simp,by simp[bv]⟩;by_cases c:n0=0
           . exact .inl c
           . obtain⟨g,eg⟩:=g5 (fun e=>c (by rw[<- show l0.length=n0 from g4,show l0=_ from e];rfl));exact .inr ⟨g,eg,eg⟩
         | prt i' z lo' hi' =>
           simp only[sN]at hto;replace hto:=ak hto;obtain⟨hz,hto⟩:=hto;have hz:=Y0 hz;subst hz;simp only[Z3,bQ0]at hto;obtain⟨rfl,rfl,rfl⟩:=hto;obtain⟨ad0,nn,cap',ad1,q1,q2,q3,q4,q5,hv⟩:=hx;rw[g1]at q1;simp only[Z3,M.val.injEq,Value.slice.injEq]at q1;obtain⟨rfl,rfl,rfl⟩:=q1;refine⟨ad1,_,_,hv,?_,by omega,rfl⟩;by_cases c:lo'<hi'
           . obtain⟨g,eg⟩:=g5 (fun e=>by have g4:l0.length=n0:=g4;rw[show l0=_ from e]at g4;simp at g4;omega);exact .inr ⟨g,eg,by rw[q5 g c eg,ba0]⟩
           . exact .inl (by omega)
         |_=>simp[sN]at hto
       obtain⟨adx,dl,dc,d1,d2,d3,d4⟩:=hdst;rw[g6,h1]at hsep;rw[g6,h1]at hC;refine bw ((A.copyRw (t:=t) (pos:=pos) (af:=af) (d:=d) (s2:=s2) (cs:=cs) hs (F7 hb2.1) d1 d2 d3 v1 rfl v2.one' (fun w' hw'=>v4 w' (hC w' hw')) v5).go w hsep _ _ ?_);rintro ρ' K' L' w' ⟨e,rfl,rfl⟩ hs';have hdle:dl=bv n0 hi-lo.toNat:=d4;generalize hcn:cs.take lo.toNat++(ds.take dl++cs.drop (lo.toNat+(ds.take dl).length))=cn at hs';have hp:=ax m [.cont t0 (cpy l0 lo.toNat (ys.take (bv n0 hi-lo.toNat))) cn];have gn:(m++[.cont t0 (cpy l0 lo.toNat (ys.take (bv n0 hi-lo.toNat))) cn])[σ.nx]?=some (.cont t0 (cpy l0 lo.toNat (ys.take (bv n0 hi-lo.toNat))) cn):=aR hr.nx;have hcl:cs.length=l0.length:=by rw[g3.len,h1,ba0]
       have hln:l0.length=n0:=g4;have hcut:(ys.take dl).length=(ds.take dl).length:=by rw[X4,X4,v3]
       have hel:Els K t0 cn (cpy l0 lo.toNat (ys.take (bv n0 hi-lo.toNat))):=by
         rw[<- hcn,<- hdle];unfold cpy;rw[hcut];exact (Els.take1 h1 _ g3).app ((Els.take1 h1 _ v2).app (Els.drop1 h1 _ g3))
       have hnl:(cpy l0 lo.toNat (ys.take (bv n0 hi-lo.toNat))).length=n0:=by
         rw[<- hdle];unfold cpy;rw[W3,W3,X4,W8,X4,hln];omega
       have hmin:min ys.length (bv n0 hi-lo.toNat)=min ds.length dl:=by rw[v3,hdle]
       rw[hmin]at h;have hat:∀a∈(HA.row i σ.nx e0 t0 (cpy l0 lo.toNat (ys.take (bv n0 hi-lo.toNat))) n0::H),a.ok (m++[.cont t0 (cpy l0 lo.toNat (ys.take (bv n0 hi-lo.toNat))) cn]) K:=by
         intro a ha
         rcases Y4.1 ha with rfl|ha
         . refine⟨_,_,_,aq hp g1,gn,hel,hnl,k5,k6,fun hne=>g5 (fun e=>hne (Z4.1 ?_))⟩;rw[hnl,<- hln,show l0=_ from e];rfl
         . exact hr.toPur.okH' hp (Hp.le_refl K) a (hsub a ha)
       have hsp:Sep E K ((HA.conc (m++[.cont t0 (cpy l0 lo.toNat (ys.take (bv n0 hi-lo.toNat))) cn]) (.row i σ.nx e0 t0 (cpy l0 lo.toNat (ys.take (bv n0 hi-lo.toNat))) n0)::H.map (HA.conc (m++[.cont t0 (cpy l0 lo.toNat (ys.take (bv n0 hi-lo.toNat))) cn])))++σ.fz fr) w':=by
         rw[hr.toPur.conc hp hsub];simp only[HA.conc,aq hp g1,gn];rw[h1];exact hs'
       have hbs:Rel E fr ⟨σ.base,σ.top,.row i σ.nx e0 t0 (cpy l0 lo.toNat (ys.take (bv n0 hi-lo.toNat))) n0::H,σ.Hf,σ.nx+1,σ.kq⟩ (m++[.cont t0 (cpy l0 lo.toNat (ys.take (bv n0 hi-lo.toNat))) cn]) K ρ w':=⟨Pur.next hr.toPur hp (Hp.le_refl K) (fun e=>⟨e,rfl⟩) (by simp[hr.nx]) hat,hsp⟩;cases d with
       | none =>
         subst e;exact hX ⟨σ.base,[]++σ.top,.row i σ.nx e0 t0 (cpy l0 lo.toNat (ys.take (bv n0 hi-lo.toNat))) n0::H,σ.Hf,σ.nx+1,σ.kq⟩ (m++[.cont t0 (cpy l0 lo.toNat (ys.take (bv n0 hi-lo.toNat))) cn]) K _ w' hbs ⟨rfl,rfl⟩ h
       | some d =>
         subst e;have hs2:=hbs.set (d:=d) (sv:=.int .i64 ((min ds.length dl:Nat):Int)) (v:=.int .i64 ((min ds.length dl:Nat):Int)) rfl;have h:k ((⟨σ.base,σ.top,.row i σ.nx e0 t0 (cpy l0 lo.toNat (ys.take (bv n0 hi-lo.toNat))) n0::H,σ.Hf,σ.nx+1,σ.kq⟩:Zt).set d (.int .i64 ((min ds.length dl:Nat):Int)))=some r:=h;show X (act1 n (aY ρ d (.int .i64 ((min ds.length dl:Nat):Int)))) w';exact hX ((⟨σ.base,σ.top,.row i σ.nx e0 t0 (cpy l0 lo.toNat (ys.take (bv n0 hi-lo.toNat))) n0::H,σ.Hf,σ.nx+1,σ.kq⟩:Zt).set d (.int .i64 ((min ds.length dl:Nat):Int))) (m++[.cont t0 (cpy l0 lo.toNat (ys.take (bv n0 hi-lo.toNat))) cn]) K _ w' hs2 ⟨rfl,rfl⟩ h
     . cases h
   . cases h
 . cases h
end
end
end
end Go.Proofs.YtpnmnbfbcgkcjaaGreatDoor

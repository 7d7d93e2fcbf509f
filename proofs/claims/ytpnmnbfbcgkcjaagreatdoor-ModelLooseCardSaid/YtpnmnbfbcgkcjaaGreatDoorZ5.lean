/- A part of the proof: what lies ahead of the law. Nothing is claimed here. -/
import Derived.Test.YtpnmnbfbcgkcjaaGreatDoorZ4
import Derived.Test.YtpnmnbfbcgkcjaaGreatDoorRows
open BitVec renaming ofInt→X0
open Int renaming fdiv→X8,tdiv→bc0,tmod→bK0,toNat→Z5
open List renaming drop→cu0,take→cF0
open Go.IntKind renaming wrap→M0
open Go.IntKind renaming bits→O0
namespace Go.Proofs.YtpnmnbfbcgkcjaaGreatDoor
noncomputable section
set_option linter.unusedVariables false
set_option maxRecDepth 100000
set_option maxHeartbeats 4000000
section
open Go.RowKit _root_.Go.Proofs.Tryz
abbrev bkO(i:Nat)(o:OT):Bk:=⟨some i,0,[],false,false,some o,false⟩
abbrev bkC(i:Nat)(e:TypeId)(ks:List Kd):Bk:=⟨some i,e,ks,false,false,none,false⟩
abbrev bkN(e:TypeId)(ks:List Kd):Bk:=⟨none,e,ks,false,false,none,false⟩
abbrev bkU(i:Nat):Bk:=⟨some i,0,[],false,true,none,false⟩
abbrev bkM:Bk:=⟨none,0,[],false,true,none,false⟩
abbrev kdI(i:Nat):Nat×Kd:=(i,.dat (.int .i64))
abbrev kdB(i:Nat):Nat×Kd:=(i,.dat .bool)
abbrev Yq1:Tp:=(.int .i64)
abbrev Tq1:Type:=(Int×Int×(List (Int×Int))×(List (List (Int×Bool)))×(List (Int×Bool))×(List (Int×(List (Int×Int))×(List (List (Int×Bool)))×(List (Int×Bool))))×(List ((List (Int×Int×Int×Int×Bool))×(Int×Int×Int×(List Int)×(List Int)×(List Int)))))
abbrev Yq2:Tp:=(.cons Yq1 (.cons Yq1 (.cons (.sl (.cons Yq1 (.one Yq1))) (.cons (.sl (.one (.sl (.cons Yq1 (.one .bool))))) (.cons (.one (.sl (.cons Yq1 (.one .bool)))) (.cons (.sl (.cons Yq1 (.cons (.sl (.cons Yq1 (.one Yq1))) (.cons (.sl (.one (.sl (.cons Yq1 (.one .bool))))) (.one (.one (.sl (.cons Yq1 (.one .bool))))))))) (.one (.sl (.cons (.sl (.cons Yq1 (.cons Yq1 (.cons Yq1 (.cons Yq1 (.one .bool)))))) (.one (.cons Yq1 (.cons Yq1 (.cons Yq1 (.cons (.sl Yq1) (.cons (.sl Yq1) (.one (.sl Yq1)))))))))))))))))
abbrev Tq2:Type:=(Int×(Option (List Int))×(Option (Int×(List Int))))
abbrev Tq3:Type:=(Int×(List (Int×Int))×((List Int)×(List Int))×((List Int)×(List Int)))
abbrev Tq4:Type:=(List (Int×Bool))
abbrev Tq5:Type:=(Int×Int×Int×Int×Bool)
abbrev Yq3:Tp:=(.cons Yq1 (.cons (.sl (.cons Yq1 (.one Yq1))) (.cons (.cons (.sl Yq1) (.one (.sl Yq1))) (.one (.cons (.sl Yq1) (.one (.sl Yq1)))))))
abbrev Tq6:Type:=(List (Int×Int))
abbrev Yq4:Tp:=(.cons Yq1 (.one .bool))
abbrev Tq7:Type:=(List (List Int))
abbrev Tq8:Type:=(Int×(List Int))
abbrev Tq9:Type:=((List Int)×(List Int)×(List Int)×(List Int)×Int×(List Int)×(List Int)×Tq7)
abbrev aO:Type:=(List ((List Int)×(List Int)))
abbrev cO:Type:=((List Int)×(List Int)×(List Int)×(List Int)×(List Int)×(List Int)×Tq7)
abbrev Yq5:Tp:=(.cons Yq1 (.one Yq1))
abbrev aK:Type:=(List (Option Tq2))
abbrev Yq6:Tp:=(.ptr (.cons Yq1 (.one (.sl (.int .u64)))))
abbrev cA:Type:=(List ((List Int)×(List Int)×Int×Bool))
abbrev Yq7:Tp:=(.cons Yq1 (.cons Yq1 (.cons Yq1 Yq4)))
abbrev cC:Type:=(Int×Int×Int×(List Int)×(List Int)×(List Int))
abbrev aQ:Type:=(Option (List Int))
abbrev Yq8:Tp:=(.cons (.sl Yq1) (.one (.sl Yq1)))
abbrev gP:Type:=((List Int)×(List Int)×Int×Int×(Option Tq6))
abbrev aS:Type:=((List Int)×Int)
abbrev gS:Type:=(Int×(List Int)×(List Int)×Int×Int×(Option Tq6))
abbrev bX:Type:=(Int×Tq6×(List Tq4)×Tq4)
abbrev eR:Type:=(Int×(List Int)×Int×Int×(Option Tq6))
abbrev eI:Type:=((List Int)×Int×Int×(Option Tq6))
abbrev Yq9:Tp:=(.int .u64)
abbrev aP:Tp:=(.one (.sl Yq4))
abbrev aE:Type:=(Option Tq8)
abbrev dR:Tp:=(.ptr (.cons Yq1 (.cons (.ptr (.one (.sl Yq1))) (.one Yq6))))
abbrev sO:Tp:=(.cons (.sl (.sl Yq1)) (.cons (.sl Yq1) (.cons (.sl Yq1) (.cons (.sl Yq1) (.cons (.sl Yq1) (.cons Yq1 (.cons (.one (.sl Yq1)) (.cons (.one (.sl Yq1)) (.one (.sl (.sl Yq1)))))))))))
abbrev ba:Type:=((List Tq5)×Int)
abbrev dw:Tp:=(.ptr (.cons (.sl Yq1) (.one (.sl (.sl Yq1)))))
abbrev ca:Type:=(Option ((List Int)×Tq7))
abbrev cP:Type:=(Int×Int×Int×Int)
abbrev xS:Type:=((List Int)×(List Int)×(List Int)×(List Int)×(List Int)×(List Int)×(List Int)×Tq7)
abbrev gL:Tp:=(.cons Yq1 (.cons (.sl Yq5) (.cons (.sl aP) (.one aP))))
abbrev da:Tp:=(.ptr (.cons (.sl Yq1) (.one Yq1)))
abbrev gQ:Tp:=(.cons Yq1 (.cons Yq1 (.cons Yq1 (.cons (.sl Yq1) Yq8))))
abbrev ya:Type:=((List Int)×(List Int)×(List Int)×(List Int)×(List Int)×(List Int)×(List Int))
abbrev s9:Type:=(Tq7×(List Int)×(List Int)×(List Int)×(List Int)×Int×(List Int)×(List Int)×Tq7)
abbrev bf:Type:=(Int×Int)
abbrev bW:Type:=(Int×Int×Tq5)
abbrev dQ:Type:=((List Int)×(List Int))
abbrev kN:Tp:=(.one (.sl (.cons (.sl Yq1) (.cons (.sl Yq1) Yq4))))
abbrev kE:Type:=((List Int)×Int×(List Int))
abbrev aZ:Type:=(Option Tq3)
abbrev kS:Type:=(Int×Int×(List Tq4)×Tq4×(List bX))
abbrev gH:Tp:=(.cons Yq1 (.cons Yq1 (.one Yq7)))
abbrev kJ:Type:=(Int×aK×aQ×aE)
abbrev gJ:Type:=(Int×(List aE))
instance nob:BldA:=⟨1000000000,fun b _=>Cl b 1000000000 [.pointer none,.slice none 0 0],fun h=>h,tzGk,tzGk.mono⟩
def Ph:OkSpec Tryz.prog:=⟨xy,Qe (fun _ h=>h),call164⟩

def iq(xa:Tq4)(xb:Int):Option Bool :=
 some (decide ((xa.length:Int)<=xb))
def oQ0:=re ⟨14,⟨[(0,.dat aP),kdI 1],[]⟩,[⟨[kdB 0],[]⟩],fun x=>iq x.1 x.2⟩ func14 call14 .nil
def yN(xa:bX):Int->Option (Int⊕(Unit⊕Bool)):=fun i1=>cond (decide (i1<(xa.2.2.1.length:Int))) ((aa xa.2.2.1 i1).bind fun x2=>(iq x2 20).bind fun t3=>cond (!t3) (some (.inr ((.inr (false))))) (some (.inl (M0 .i64 (i1+1))))) (some (.inr ((.inl ()))))
def fT(xa:bX):Option Bool :=
 (cond ((decide (20<(xa.2.1.length:Int)))||(decide (20<(xa.2.2.1.length:Int)))) (some (true)) ((iq xa.2.2.2 20).bind fun t1=>some (!t1))).bind fun t2=>cond (t2) (some (false)) ((loop (yN xa) 0).bind fun o=>match o with | .inr r=>some r | .inl ()=>some (true))
def oQ1:=re ⟨15,⟨[(0,.dat gL)],[]⟩,[⟨[kdB 0],[]⟩],fun x=>fT x⟩ func15 call15 (.gp 4 (.wt 14 (.gj 4 ⟨[kdB 19],[]⟩ [] (.two 14 .nil (.cl oQ0 [] .nil)) (.tw 19 .nil (.jx [] ⟨[],[]⟩ [] (.lp ⟨[kdI 3],[]⟩ (.tw 24 (.cl oQ0 [] (.tw 33 .nil .nil)) .nil)) .nil)))))
def yL(xa:Tq1):Int->Option (Int⊕(Unit⊕Bool)):=fun i1=>cond (decide (i1<(xa.2.2.2.1.length:Int))) ((aa xa.2.2.2.1 i1).bind fun x2=>(iq x2 20).bind fun t3=>cond (!t3) (some (.inr ((.inr (false))))) (some (.inl (M0 .i64 (i1+1))))) (some (.inr ((.inl ()))))
def je(xa:Tq1):Int->Option (Int⊕(Unit⊕Bool)):=fun i1=>cond (decide (i1<(xa.2.2.2.2.2.1.length:Int))) ((aa xa.2.2.2.2.2.1 i1).bind fun x2=>(fT (x2.1,x2.2.1,x2.2.2.1,x2.2.2.2)).bind fun t3=>cond (!t3) (some (.inr ((.inr (false))))) (some (.inl (M0 .i64 (i1+1))))) (some (.inr ((.inl ()))))
def ig(xa:Tq1):bf->Option (bf⊕(Int⊕Bool)):=fun (i1,i2)=>cond (decide (i2<(xa.2.2.2.2.2.2.length:Int))) ((aa xa.2.2.2.2.2.2 i2).bind fun x3=>(aa xa.2.2.2.2.2.2 i2).bind fun x4=>cond (((decide (20<(x3.2.2.2.2.1.length:Int)))||(decide (20<(x3.2.2.2.2.2.1.length:Int))))||(decide (20<(x3.2.2.2.2.2.2.length:Int)))) (some (.inr ((.inr (false))))) (some (.inl ((M0 .i64 (i1+(x4.1.length:Int)),M0 .i64 (i2+1)))))) (some (.inr (.inl i1)))
def im(xa:Tq1):Option Bool :=
 (cond ((((decide (20<(xa.2.2.1.length:Int)))||(decide (10<(xa.2.2.2.1.length:Int))))||(decide (4<(xa.2.2.2.2.2.1.length:Int))))||(decide (8<(xa.2.2.2.2.2.2.length:Int)))) (some (true)) ((iq xa.2.2.2.2.1 20).bind fun t1=>some (!t1))).bind fun t2=>cond (t2) (some (false)) ((loop (yL xa) 0).bind fun o=>match o with | .inr r=>some r | .inl ()=>(loop (je xa) 0).bind fun o=>match o with | .inr r=>some r | .inl ()=>(loop (ig xa) (0,0)).bind fun o=>match o with | .inr r=>some r | .inl i3=>some (decide (i3<=24)))
def hQ2:Hn Tryz.prog:=.gp 4 (.wt 18 (.gp 4 (.wt 24 (.gp 4 (.wt 30 (.gj 4 ⟨[kdB 35],[]⟩ [] (.two 30 .nil (.cl oQ0 [] .nil)) (.tw 35 .nil (.jx [] ⟨[],[]⟩ [] (.lp ⟨[kdI 3],[]⟩ (.tw 40 (.cl oQ0 [] (.tw 49 .nil .nil)) .nil)) (.jx [] ⟨[],[]⟩ [] (.lp ⟨[kdI 4],[]⟩ (.tw 54 (.cl oQ1 [] (.tw 63 .nil .nil)) .nil)) (.jx [] ⟨[kdI 5],[]⟩ [] (.lp ⟨[kdI 5,kdI 6],[]⟩ (.tw 68 (.wt 90 (.gp 4 (.wt 96 (.gp 4 (.tw 101 .nil .nil))))) .nil)) .nil))))))))))
def sQ2:Spec:=⟨4,⟨[(0,.dat Yq2)],[]⟩,[⟨[kdB 0],[]⟩],fun x=>im x⟩
def oQ2:OkSpec Tryz.prog:=⟨sQ2,ab func4 hQ2 (by kernel_rfl) (by kernel_rfl),call4⟩

def tD(xa:Tq6):Option (Tq6) :=
 dS xa (some ([])) ((app (([]:List bf)) xa).bind fun z21=>some (z21))
def oQ3:=re ⟨61,⟨[(0,.dat (.sl Yq5))],[]⟩,[⟨[(0,.own 82 Yq5)],[]⟩],fun x=>tD x⟩ func61 call61 (.two 4 .nil .nil)

def uw(xa:bf):Option Int :=
 some (xa.1)
def oQ4:=re ⟨63,⟨[(0,.dat Yq5)],[]⟩,[⟨[kdI 0],[]⟩],fun x=>uw x⟩ func63 call63 .nil

def bz(xa:(List Int)):Option (List Int) :=
 dS xa (some ([])) ((app ([]:List Int) xa).bind fun z21=>some (z21))
def oQ5:=re ⟨50,⟨[(0,.dat (.sl Yq1))],[]⟩,[⟨[(0,.own 3 Yq1)],[]⟩],fun x=>bz x⟩ func50 call50 (.two 4 .nil .nil)
def EC(xb:Tq6):Tq8->Option (Tq8⊕(List Int)):=fun (i1,l2)=>cond (decide (i1<(xb.length:Int))) ((aa xb i1).bind fun x3=>(uw (x3.1,x3.2)).bind fun i4=>(aa l2 (M0 .i64 (i4+1))).bind fun x5=>(aa l2 (M0 .i64 (i4+1))).bind fun x6=>(some (l2.set (M0 .i64 (i4+1)).toNat (M0 .i64 (x5+1)))).bind fun z7=>some (.inl ((M0 .i64 (i1+1),z7)))) (some (.inr (l2)))
def EB(xa:Int):Tq8->Option (Tq8⊕(List Int)):=fun (i1,l2)=>cond (decide (i1<xa)) ((aa l2 (M0 .i64 (i1+1))).bind fun x3=>(aa l2 i1).bind fun x4=>(aa l2 (M0 .i64 (i1+1))).bind fun x5=>(some (l2.set (M0 .i64 (i1+1)).toNat (M0 .i64 (x3+x4)))).bind fun z6=>some (.inl ((M0 .i64 (i1+1),z6)))) (some (.inr (l2)))
def Ey(xb:Tq6):kE->Option (kE⊕(List Int)):=fun (l1,i2,l3)=>cond (decide (i2<(xb.length:Int))) ((aa xb i2).bind fun x4=>(uw (x4.1,x4.2)).bind fun i5=>(aa l1 i5).bind fun x6=>(aa l3 x6).bind fun x7=>(some (l3.set x6.toNat i2)).bind fun z8=>(aa l1 i5).bind fun x9=>(aa l1 i5).bind fun x10=>(some (l1.set i5.toNat (M0 .i64 (x9+1)))).bind fun z11=>some (.inl ((z11,M0 .i64 (i2+1),z8)))) (some (.inr (l3)))
def nZ(xa:Int)(xb:Tq6):Option (dQ) :=
 (((mk (M0 .i64 (xa+1)) (M0 .i64 (xa+1)) 0:Option (List Int)).bind fun z1=>((mk (xb.length:Int) (xb.length:Int) 0:Option (List Int)).bind fun z2=>some ((z1,z2))).bind fun x3=>((mk (xb.length:Int) (xb.length:Int) 0:Option (List Int)).bind fun z4=>some ((z1,z4))).bind fun y5=>agr x3 y5 (some x3)).bind fun x6=>(((mk (xb.length:Int) (xb.length:Int) 0:Option (List Int)).bind fun z7=>((mk (M0 .i64 (xa+1)) (M0 .i64 (xa+1)) 0:Option (List Int)).bind fun z8=>some ((z8,z7))).bind fun x9=>((mk (M0 .i64 (xa+1)) (M0 .i64 (xa+1)) 0:Option (List Int)).bind fun z10=>some ((z10,z7))).bind fun y11=>agr x9 y11 (some x9)).bind fun x12=>(((mk (M0 .i64 (xa+1)) (M0 .i64 (xa+1)) 0:Option (List Int)).bind fun z13=>(mk (xb.length:Int) (xb.length:Int) 0:Option (List Int)).bind fun z14=>some ((z13,z14))).bind fun x15=>((mk (xb.length:Int) (xb.length:Int) 0:Option (List Int)).bind fun z16=>(mk (M0 .i64 (xa+1)) (M0 .i64 (xa+1)) 0:Option (List Int)).bind fun z17=>some ((z17,z16))).bind fun y18=>agr x15 y18 (some x15)).bind fun y19=>agr x12 y19 (some x12)).bind fun y20=>agr x6 y20 (some x6):Option (dQ)).bind fun (l21,l22)=>(loop (EC xb) (0,l21)).bind fun l23=>(loop (EB xa) (0,l23)).bind fun l24=>(bz l24).bind fun l25=>(loop (Ey xb) (l25,0,l22)).bind fun l26=>some ((l24,l26))
def oQ6:=re ⟨62,⟨[kdI 0,(1,.dat (.sl Yq5)),(2,.fn 63 [])],[]⟩,[⟨[(0,.agg [.dat (.sl Yq1),.own 3 Yq1])],[]⟩],fun x=>nZ x.1 x.2⟩ func62 call62 (.tr (.still [0,1,3,4] (.alt 2 (.alt 5 (.still [6] (.alt 7 (.alt 8 (.leaf []) .done) .done)) (.alt 7 (.alt 5 (.still [6] (.alt 8 (.leaf []) .done)) .done) .done)) (.alt 5 (.alt 2 (.still [6] (.alt 7 (.alt 8 (.leaf []) .done) .done)) (.alt 7 (.alt 2 (.still [6] (.alt 8 (.leaf []) .done)) .done) .done)) (.alt 7 (.alt 2 (.alt 5 (.still [6] (.alt 8 (.leaf []) .done)) .done) (.alt 5 (.alt 2 (.still [6] (.alt 8 (.leaf []) .done)) .done) .done)) .done)))) ⟨[(7,.ptr 0 0)],[bkN 123 [.own 3 Yq1,.own 3 Yq1]]⟩ [] (.two 0 (.two 0 .nil .nil) (.two 0 (.two 0 .nil .nil) (.two 0 .nil .nil))) (.jn [(2,1)] ⟨[],[bkC 2 123 [.own 3 Yq1,.is 1 (.any)],bkU 8]⟩ [2,3] (.lp ⟨[kdI 24],[bkC 2 123 [.own 3 Yq1,.is 1 (.any)],bkU 8]⟩ (.tw 25 (.mix [([0,1,2,3],4)] [5,6,7,8,9] [10] [] (.cl oQ4 [] .nil)) .nil)) (.jn [] ⟨[],[bkC 2 123 [.own 3 Yq1,.is 1 (.any)],bkU 8]⟩ [2,9] (.lp ⟨[kdI 40],[bkC 2 123 [.own 3 Yq1,.is 1 (.any)],bkU 8]⟩ (.tw 41 (.mix [] [0,1,2,3,4,5,6,7,8,9,10,11,12] [13] [] .nil) .nil)) (.per 12 13 (.cl oQ5 [] (.jn [(2,0)] ⟨[(59,.any),(11,.any)],[bkC 2 123 [.is 1 (.any),.own 3 Yq1],bkU 17]⟩ [15,2,5] (.lp ⟨[(11,.own 3 Yq1),kdI 62],[bkC 2 123 [.is 1 (.any),.own 3 Yq1],bkU 17]⟩ (.tw 63 (.cl oQ4 [] (.mix [] [0,1,2,3,4,5,6,7] [8] [] .nil)) .nil)) .nil))))))

def uv(xa:bf):Option Int :=
 some (xa.2)
def oQ7:=re ⟨64,⟨[(0,.dat Yq5)],[]⟩,[⟨[kdI 0],[]⟩],fun x=>uv x⟩ func64 call64 .nil
def Ez(xb:Tq6):Tq8->Option (Tq8⊕(List Int)):=fun (i1,l2)=>cond (decide (i1<(xb.length:Int))) ((aa xb i1).bind fun x3=>(uv (x3.1,x3.2)).bind fun i4=>(aa l2 (M0 .i64 (i4+1))).bind fun x5=>(aa l2 (M0 .i64 (i4+1))).bind fun x6=>(some (l2.set (M0 .i64 (i4+1)).toNat (M0 .i64 (x5+1)))).bind fun z7=>some (.inl ((M0 .i64 (i1+1),z7)))) (some (.inr (l2)))
def EA(xa:Int):Tq8->Option (Tq8⊕(List Int)):=fun (i1,l2)=>cond (decide (i1<xa)) ((aa l2 (M0 .i64 (i1+1))).bind fun x3=>(aa l2 i1).bind fun x4=>(aa l2 (M0 .i64 (i1+1))).bind fun x5=>(some (l2.set (M0 .i64 (i1+1)).toNat (M0 .i64 (x3+x4)))).bind fun z6=>some (.inl ((M0 .i64 (i1+1),z6)))) (some (.inr (l2)))
def Ex(xb:Tq6):kE->Option (kE⊕(List Int)):=fun (l1,i2,l3)=>cond (decide (i2<(xb.length:Int))) ((aa xb i2).bind fun x4=>(uv (x4.1,x4.2)).bind fun i5=>(aa l1 i5).bind fun x6=>(aa l3 x6).bind fun x7=>(some (l3.set x6.toNat i2)).bind fun z8=>(aa l1 i5).bind fun x9=>(aa l1 i5).bind fun x10=>(some (l1.set i5.toNat (M0 .i64 (x9+1)))).bind fun z11=>some (.inl ((z11,M0 .i64 (i2+1),z8)))) (some (.inr (l3)))
def nY(xa:Int)(xb:Tq6):Option (dQ) :=
 (((mk (M0 .i64 (xa+1)) (M0 .i64 (xa+1)) 0:Option (List Int)).bind fun z1=>((mk (xb.length:Int) (xb.length:Int) 0:Option (List Int)).bind fun z2=>some ((z1,z2))).bind fun x3=>((mk (xb.length:Int) (xb.length:Int) 0:Option (List Int)).bind fun z4=>some ((z1,z4))).bind fun y5=>agr x3 y5 (some x3)).bind fun x6=>(((mk (xb.length:Int) (xb.length:Int) 0:Option (List Int)).bind fun z7=>((mk (M0 .i64 (xa+1)) (M0 .i64 (xa+1)) 0:Option (List Int)).bind fun z8=>some ((z8,z7))).bind fun x9=>((mk (M0 .i64 (xa+1)) (M0 .i64 (xa+1)) 0:Option (List Int)).bind fun z10=>some ((z10,z7))).bind fun y11=>agr x9 y11 (some x9)).bind fun x12=>(((mk (M0 .i64 (xa+1)) (M0 .i64 (xa+1)) 0:Option (List Int)).bind fun z13=>(mk (xb.length:Int) (xb.length:Int) 0:Option (List Int)).bind fun z14=>some ((z13,z14))).bind fun x15=>((mk (xb.length:Int) (xb.length:Int) 0:Option (List Int)).bind fun z16=>(mk (M0 .i64 (xa+1)) (M0 .i64 (xa+1)) 0:Option (List Int)).bind fun z17=>some ((z17,z16))).bind fun y18=>agr x15 y18 (some x15)).bind fun y19=>agr x12 y19 (some x12)).bind fun y20=>agr x6 y20 (some x6):Option (dQ)).bind fun (l21,l22)=>(loop (Ez xb) (0,l21)).bind fun l23=>(loop (EA xa) (0,l23)).bind fun l24=>(bz l24).bind fun l25=>(loop (Ex xb) (l25,0,l22)).bind fun l26=>some ((l24,l26))
def oQ8:=re ⟨62,⟨[kdI 0,(1,.dat (.sl Yq5)),(2,.fn 64 [])],[]⟩,[⟨[(0,.agg [.dat (.sl Yq1),.own 3 Yq1])],[]⟩],fun x=>nY x.1 x.2⟩ func62 call62 (.tr (.still [0,1,3,4] (.alt 2 (.alt 5 (.still [6] (.alt 7 (.alt 8 (.leaf []) .done) .done)) (.alt 7 (.alt 5 (.still [6] (.alt 8 (.leaf []) .done)) .done) .done)) (.alt 5 (.alt 2 (.still [6] (.alt 7 (.alt 8 (.leaf []) .done) .done)) (.alt 7 (.alt 2 (.still [6] (.alt 8 (.leaf []) .done)) .done) .done)) (.alt 7 (.alt 2 (.alt 5 (.still [6] (.alt 8 (.leaf []) .done)) .done) (.alt 5 (.alt 2 (.still [6] (.alt 8 (.leaf []) .done)) .done) .done)) .done)))) ⟨[(7,.ptr 0 0)],[bkN 123 [.own 3 Yq1,.own 3 Yq1]]⟩ [] (.two 0 (.two 0 .nil .nil) (.two 0 (.two 0 .nil .nil) (.two 0 .nil .nil))) (.jn [(2,1)] ⟨[],[bkC 2 123 [.own 3 Yq1,.is 1 (.any)],bkU 8]⟩ [2,3] (.lp ⟨[kdI 24],[bkC 2 123 [.own 3 Yq1,.is 1 (.any)],bkU 8]⟩ (.tw 25 (.mix [([0,1,2,3],4)] [5,6,7,8,9] [10] [] (.cl oQ7 [] .nil)) .nil)) (.jn [] ⟨[],[bkC 2 123 [.own 3 Yq1,.is 1 (.any)],bkU 8]⟩ [2,9] (.lp ⟨[kdI 40],[bkC 2 123 [.own 3 Yq1,.is 1 (.any)],bkU 8]⟩ (.tw 41 (.mix [] [0,1,2,3,4,5,6,7,8,9,10,11,12] [13] [] .nil) .nil)) (.per 12 13 (.cl oQ5 [] (.jn [(2,0)] ⟨[(59,.any),(11,.any)],[bkC 2 123 [.is 1 (.any),.own 3 Yq1],bkU 17]⟩ [15,2,5] (.lp ⟨[(11,.own 3 Yq1),kdI 62],[bkC 2 123 [.is 1 (.any),.own 3 Yq1],bkU 17]⟩ (.tw 63 (.cl oQ7 [] (.mix [] [0,1,2,3,4,5,6,7] [8] [] .nil)) .nil)) .nil))))))
def pw(xa:Int)(xb:Tq6):Int->Option (Int⊕(Unit⊕(aZ×Int))):=fun i1=>cond (decide (i1<(xb.length:Int))) ((aa xb i1).bind fun x2=>cond ((((decide (x2.1<0))||(decide (xa<=x2.1)))||(decide (x2.2<0)))||(decide (xa<=x2.2))) (some (.inr ((.inr ((none,7)))))) (some (.inl (M0 .i64 (i1+1))))) (some (.inr ((.inl ()))))
def aV(xa:Int)(xb:Tq6):Option ((aZ×Int)) :=
 cond (decide (xa<0)) (some ((none,2))) (cond ((decide (1048576<xa))||(decide (67108864<(xb.length:Int)))) (some ((none,5))) ((loop (pw xa xb) 0).bind fun o=>match o with | .inr r=>some r | .inl ()=>(tD xb).bind fun l1=>(nZ xa l1).bind fun (l2,l3)=>(nY xa l1).bind fun (l4,l5)=>some (((some ((xa,l1,(l2,l3),(l4,l5)))),0))))
def oQ9:=re ⟨34,⟨[kdI 0,(1,.dat (.sl Yq5))],[]⟩,[⟨[(0,.tup [.dat (.ptr Yq3),.dat Yq1])],[]⟩],fun x=>aV x.1 x.2⟩ func34 call34 (.tw 10 .nil (.wt 13 (.gp 3 (.tw 17 .nil (.jx [] ⟨[],[]⟩ [] (.lp ⟨[kdI 20],[]⟩ (.tw 21 (.wt 27 (.gp 4 (.wt 33 (.gp 3 (.wt 38 (.gp 4 (.tw 43 .nil .nil))))))) .nil)) (.cl oQ3 [] (.per 0 1 (.cl oQ6 [] (.cl oQ8 [] (.per 4 5 (.per 7 8 (.perb 2 9 Yq3 .nil))))))))))))
def lS(xb:(List bW)):(Tq6×Int)->Option ((Tq6×Int)⊕Tq6):=fun (l1,i2)=>cond (decide (i2<(xb.length:Int))) ((aa xb i2).bind fun x3=>(aa l1 i2).bind fun x4=>(some (l1.set i2.toNat (x3.1,x3.2.1))).bind fun z5=>some (.inl ((z5,M0 .i64 (i2+1))))) (some (.inr (l1)))
def cS(xa:Tq1)(xb:(List bW)):Option (aZ) :=
 (mk (xb.length:Int) (xb.length:Int) (0,0):Option Tq6).bind fun z1=>(loop (lS xb) (z1,0)).bind fun l2=>(aV xa.2.1 l2).bind fun (p3,i4)=>some (p3)
def yw:=re ⟨17,⟨[(0,.dat Yq2),(1,.dat (.sl gH))],[]⟩,[⟨[(0,.dat (.ptr Yq3))],[]⟩],fun x=>cS x.1 x.2⟩ func17 call17 (.jn [] ⟨[(5,.own 82 Yq5),(12,.any)],[]⟩ [2] (.lp ⟨[(5,.own 82 Yq5),kdI 15],[]⟩ (.tw 16 .nil .nil)) (.per 4 5 (.cl oQ9 [] .nil)))

def fJ(xa:aZ):Option Int :=
 cond (xa.isNone) (some (0)) (xa.bind fun y11=>some (y11.1))
def nF:=re ⟨28,⟨[(0,.dat (.ptr Yq3))],[]⟩,[⟨[kdI 0],[]⟩],fun x=>fJ x⟩ func28 call28 (.tw 4 .nil .nil)

def hY(xa:aZ)(xb:Int):Option Bool :=
 (cond (decide (0<=xb)) ((fJ xa).bind fun i28=>some (decide (xb<i28))) (some (false))).bind fun t24=>some (t24)
def yo:=re ⟨56,⟨[(0,.dat (.ptr Yq3)),kdI 1],[]⟩,[⟨[kdB 0],[]⟩],fun x=>hY x.1 x.2⟩ func56 call56 (.gj 4 ⟨[kdB 12],[]⟩ [] (.two 7 (.cl nF [] .nil) .nil) .nil)

def ji(xa:dQ)(xb:Int):Option (List Int) :=
 (aa xa.1 xb).bind fun x1=>(aa xa.1 (M0 .i64 (xb+1))).bind fun x2=>(subL xa.2 x1 x2).bind fun y3=>some (y3)
def yg:=re ⟨57,⟨[(0,.dat Yq8),kdI 1],[]⟩,[⟨[(0,.dat (.sl Yq1))],[]⟩],fun x=>ji x.1 x.2⟩ func57 call57 (.mix [] [0,1,2,3,4,5,6,7,8,9,10,11,12,13,14] [] [] .nil)

def jd(xa:aZ)(xb:Int):Option (List Int) :=
 (hY xa xb).bind fun t48=>cond (!t48) (some ([])) (xa.bind fun y54=>(ji (y54.2.2.1.1,y54.2.2.1.2) xb).bind fun l70=>(bz l70).bind fun l79=>some (l79))
def yB:=re ⟨29,⟨[(0,.dat (.ptr Yq3)),kdI 1],[]⟩,[⟨[(0,.own 3 Yq1)],[]⟩],fun x=>jd x.1 x.2⟩ func29 call29 (.cl yo [] (.tw 8 .nil (.cl yg [] (.cl oQ5 [] .nil))))
def lb(y1:Tq3)(l2:(List Int)):((List Bool)×(List Int)×Int)->Option (((List Bool)×(List Int)×Int)⊕((List Bool)×(List Int))):=fun (l3,l4,i5)=>cond (decide (i5<(l2.length:Int))) ((aa l2 i5).bind fun x6=>(aa y1.2.1 x6).bind fun x7=>(aa l3 x7.2).bind fun x8=>cond (!x8) ((aa l3 x7.2).bind fun x9=>(some (l3.set x7.2.toNat true)).bind fun z10=>(app l4 ([x7.2]:List Int)).bind fun z11=>some (.inl ((z10,z11,M0 .i64 (i5+1))))) (some (.inl ((l3,l4,M0 .i64 (i5+1)))))) (some (.inr (((l3,l4)))))
def lf(y1:Tq3):((List Bool)×(List Int)×Int)->Option (((List Bool)×(List Int)×Int)⊕(List Int)):=fun (l2,l3,i4)=>cond (decide (i4<(l3.length:Int))) ((aa l3 i4).bind fun x5=>(ji (y1.2.2.1.1,y1.2.2.1.2) x5).bind fun l6=>(loop (lb y1 l6) (l2,l3,0)).bind fun (l7,l8)=>some (.inl ((l7,l8,M0 .i64 (i4+1))))) (some (.inr (l3)))
def oA(xa:aZ)(xb:Int):Option (List Int) :=
 (hY xa xb).bind fun t1=>cond (!t1) (some ([])) (xa.bind fun y2=>(mk y2.1 y2.1 false:Option (List Bool)).bind fun z3=>(aa z3 xb).bind fun x4=>(some (z3.set xb.toNat true)).bind fun z5=>(loop (lf y2) ((z5,([xb]:List Int),0))).bind fun l6=>(srt l6).bind fun l7=>some (l7))
def SC:=re ⟨33,⟨[(0,.dat (.ptr Yq3)),kdI 1],[]⟩,[⟨[(0,.own 3 Yq1)],[]⟩],fun x=>oA x.1 x.2⟩ func33 call33 (.ms 0 (.cl yo [] (.tw 14 .nil (.jn [] ⟨[(6,.own 3 Yq1),(19,.any),(5,.any),(20,.any),(24,.any)],[]⟩ [4,1] (.lp ⟨[(5,.own 4 .bool),(6,.own 3 Yq1),kdI 7],[]⟩ (.tw 28 (.mix [([0,1,2,3,4,5,6,7,10],8)] [9] [] [] (.cl yg [] (.jn [] ⟨[(5,.own 4 .bool),(6,.own 3 Yq1),(26,.any),(35,.any)],[]⟩ [6,8] (.lp ⟨[(5,.own 4 .bool),(6,.own 3 Yq1),kdI 41],[]⟩ (.tw 42 (.tw 57 .nil .nil) .nil)) .nil))) .nil)) (.cl iE [] .nil)))))
def lk(xa:Tq1)(i1:Int)(i2:Int)(l3:(List Int)):(Tq6×Int)->Option ((Tq6×Int)⊕Tq6):=fun (l4,i5)=>cond (decide (i5<(l3.length:Int))) ((aa l3 i5).bind fun x6=>cond ((!decide (x6=i2))&&(decide (x6<(if i1<xa.1 then i1 else xa.1)))) ((app l4 (([(i2,x6)]:List bf))).bind fun z7=>some (.inl ((z7,M0 .i64 (i5+1))))) (some (.inl ((l4,M0 .i64 (i5+1)))))) (some (.inr (l4)))
def dy(xa:Tq1)(p1:aZ)(i2:Int):(Tq6×Int)->Option ((Tq6×Int)⊕Tq6):=fun (l3,i4)=>cond (decide (i4<(if i2<xa.1 then i2 else xa.1))) ((jd p1 i4).bind fun l5=>cond (decide ((l5.length:Int)=0)) (some (.inl ((l3,M0 .i64 (i4+1))))) ((oA p1 i4).bind fun l6=>(loop (lk xa i2 i4 l6) (l3,0)).bind fun l7=>some (.inl ((l7,M0 .i64 (i4+1)))))) (some (.inr (l3)))
def bO(xa:Tq1)(xb:(List bW)):Option (Tq6) :=
 (cS xa xb).bind fun p1=>(fJ p1).bind fun i2=>(loop (dy xa p1 i2) ([],0)).bind fun l3=>some (l3)
def sG:=re ⟨13,⟨[(0,.dat Yq2),(1,.dat (.sl gH))],[]⟩,[⟨[(0,.own 51 Yq5)],[]⟩],fun x=>bO x.1 x.2⟩ func13 call13 (.cl yw [] (.mix [([0,1,2],3)] [] [4,5] [] (.cl nF [] (.jn [] ⟨[(7,.own 51 Yq5)],[]⟩ [0] (.lp ⟨[(7,.own 51 Yq5),kdI 20],[]⟩ (.tw 21 (.cl yB [] (.tw 27 .nil (.cl SC [] (.jn [] ⟨[(7,.own 51 Yq5),(25,.any)],[]⟩ [4,2] (.lp ⟨[(7,.own 51 Yq5),kdI 32],[]⟩ (.tw 33 (.wt 39 (.gp 3 (.tw 43 .nil .nil))) .nil)) .nil)))) .nil)) .nil))))
def oO(xa:Tq6)(xb:Tq6):Int->Option (Int⊕(Unit⊕Bool)):=fun i1=>cond (decide (i1<(xa.length:Int))) ((aa xa i1).bind fun x2=>(aa xb i1).bind fun x3=>cond (!((decide (x2.1=x3.1))&&((decide (x2.2=x3.2))))) (some (.inr ((.inr (false))))) (some (.inl (M0 .i64 (i1+1))))) (some (.inr ((.inl ()))))
def pi(xa:Tq6)(xb:Tq6):Option Bool :=
 cond (!decide ((xa.length:Int)=(xb.length:Int))) (some (false)) ((loop (oO xa xb) 0).bind fun o=>match o with|.inr r=>some r|.inl ()=>some (true))
def Tl:=re ⟨16,⟨[(0,.dat (.sl Yq5)),(1,.dat (.sl Yq5))],[]⟩,[⟨[kdB 0],[]⟩],fun x=>pi x.1 x.2⟩ func16 call16 (.tw 10 .nil (.jx [] ⟨[],[]⟩ [] (.lp ⟨[kdI 5],[]⟩ (.tw 14 (.mix [] [0,1,2,3,4,5,6,7,8] [] [] (.tw 25 .nil .nil)) .nil)) .nil))

def lN(xa:aZ)(xb:Int):Option (List Int) :=
 (hY xa xb).bind fun t48=>cond (!t48) (some ([])) (xa.bind fun y54=>(ji (y54.2.2.2.1,y54.2.2.2.2) xb).bind fun l70=>(bz l70).bind fun l79=>some (l79))
def D0:=re ⟨30,⟨[(0,.dat (.ptr Yq3)),kdI 1],[]⟩,[⟨[(0,.own 3 Yq1)],[]⟩],fun x=>lN x.1 x.2⟩ func30 call30 (.cl yo [] (.tw 8 .nil (.cl yg [] (.cl oQ5 [] .nil))))
def fP(p1:aZ)(i2:Int):aS->Option (aS⊕(List Int)):=fun (l3,i4)=>cond (decide (i4<i2)) ((jd p1 i4).bind fun l5=>(lN p1 i4).bind fun l6=>cond (decide ((M0 .i64 ((l5.length:Int)+(l6.length:Int)))=0)) ((app l3 ([i4]:List Int)).bind fun z7=>some (.inl ((z7,M0 .i64 (i4+1))))) (some (.inl ((l3,M0 .i64 (i4+1)))))) (some (.inr (l3)))
def cR(xa:Tq1)(xb:(List bW)):Option (List Int) :=
 (cS xa xb).bind fun p1=>(fJ p1).bind fun i2=>(loop (fP p1 i2) ([],0)).bind fun l3=>some (l3)
def Eo:=re ⟨7,⟨[(0,.dat Yq2),(1,.dat (.sl gH))],[]⟩,[⟨[(0,.own 3 Yq1)],[]⟩],fun x=>cR x.1 x.2⟩ func7 call7 (.cl yw [] (.cl nF [] (.jn [] ⟨[(6,.own 3 Yq1)],[]⟩ [0] (.lp ⟨[(6,.own 3 Yq1),kdI 13],[]⟩ (.tw 14 (.cl yB [] (.cl D0 [] (.tw 25 .nil .nil))) .nil)) .nil)))
def o9(xa:(List Int))(xb:(List Int)):Int->Option (Int⊕(Unit⊕Bool)):=fun i1=>cond (decide (i1<(xa.length:Int))) ((aa xa i1).bind fun x2=>(aa xb i1).bind fun x3=>cond (!decide (x2=x3)) (some (.inr ((.inr (false))))) (some (.inl (M0 .i64 (i1+1))))) (some (.inr ((.inl ()))))
def my(xa:(List Int))(xb:(List Int)):Option Bool :=
 cond (!decide ((xa.length:Int)=(xb.length:Int))) (some (false)) ((loop (o9 xa xb) 0).bind fun o=>match o with|.inr r=>some r|.inl ()=>some (true))
def D6:=re ⟨9,⟨[(0,.dat (.sl Yq1)),(1,.dat (.sl Yq1))],[]⟩,[⟨[kdB 0],[]⟩],fun x=>my x.1 x.2⟩ func9 call9 (.tw 10 .nil (.jx [] ⟨[],[]⟩ [] (.lp ⟨[kdI 5],[]⟩ (.tw 14 (.mix [] [0,1,2,3,4,5,6,7,8] [] [] (.tw 25 .nil .nil)) .nil)) .nil))

def jt  : Option Bool :=
 (bO (2,3,[],[],[],[],[]) (([(0,2,(0,0,0,0,false)),(2,1,(0,0,0,0,false))]:List bW))).bind fun l1=>(pi l1 (([(0,1)]:List bf))).bind fun t2=>cond (t2) ((cR (0,2,[],[],[],[],[]) (([(1,1,(0,0,0,0,false))]:List bW))).bind fun l3=>(my l3 ([0]:List Int)).bind fun t4=>some (t4)) (some (false))
def Fk:Hn Tryz.prog:=.per 0 1 (.cl sG [] (.cl Tl [2,4] (.two 11 (.per 6 7 (.cl Eo [] (.cl D6 [8,10] .nil))) .nil)))
def yO:Spec:=⟨5,⟨[],[]⟩,[⟨[kdB 0],[]⟩],fun x=>jt⟩
theorem Fe:dj Tryz.prog yO:=ab func5 Fk (by kernel_rfl) (by kernel_rfl)
def uu:OkSpec Tryz.prog:=⟨yO,Fe,call5⟩

def a8(xb:Int)(xc:Int):Option Unit :=
 some (())
def c9:=re ⟨21,⟨[(0,.nilp),kdI 1,kdI 2],[]⟩,[⟨[],[]⟩],fun x=>a8 x.1 x.2⟩ func21 call21 .nil

def lX(xa:Tq1):Option cP :=
 cond ((decide (xa.1<1))||(decide (xa.2.1<xa.1))) (some ((7,0,0,0))) (cond (decide (65536<xa.2.1)) (some ((6,0,0,0))) (some ((0,0,0,0))))
def R0:=re ⟨166,⟨[(0,.dat Yq2),(1,.nilp)],[]⟩,[⟨[(0,.agg [.dat Yq1,.dat Yq1,.dat Yq1,.dat Yq1])],[]⟩],fun x=>lX x⟩ func166 call166 (.gp 5 (.tw 7 .nil (.tw 19 .nil .nil)))

def n7(xa:Int)(qa0:Int)(qa1:Int)(qa2:Tq6)(qa3:(List Tq4))(qa4:Tq4)(qa5:(List bX))(qa6:(List ((List Tq5)×cC))):Option Bool :=
 some ((decide (0<=xa))&&(decide (xa<qa0)))
def D3:=re ⟨174,⟨[kdI 0,(1,.ptr 0 0)],[bkN 30 [.is 1 (.dat Yq1),.is 2 (.dat Yq1),.is 3 (.dat (.sl Yq5)),.is 4 (.dat (.sl aP)),.is 5 (.dat (.sl Yq4)),.is 6 (.dat (.sl gL)),.is 7 (.dat (.sl (.cons (.sl Yq7) (.one gQ))))],bkM,bkM,bkM,bkM,bkM,bkM,bkM]⟩,[⟨[kdB 0],[bkC 0 30 [.is 1 (.any),.is 2 (.any),.is 3 (.any),.is 4 (.any),.is 5 (.any),.is 6 (.any),.is 7 (.any)],bkU 1,bkU 2,bkU 3,bkU 4,bkU 5,bkU 6,bkU 7]⟩],fun x=>n7 x.1 x.2.1 x.2.2.1 x.2.2.2.1 x.2.2.2.2.1 x.2.2.2.2.2.1 x.2.2.2.2.2.2.1 x.2.2.2.2.2.2.2⟩ func174 call174 (.gp 4 .nil)
def ou(xa:Tq1):Int->Option (Int⊕(Unit⊕cP)):=fun i1=>cond (decide (i1<(xa.2.2.1.length:Int))) ((aa xa.2.2.1 i1).bind fun x2=>(a8 1 1).bind fun _=>(n7 x2.1 xa.1 xa.2.1 xa.2.2.1 xa.2.2.2.1 xa.2.2.2.2.1 xa.2.2.2.2.2.1 xa.2.2.2.2.2.2).bind fun t3=>(cond (!t3) (some (true)) ((n7 x2.2 xa.1 xa.2.1 xa.2.2.1 xa.2.2.2.1 xa.2.2.2.2.1 xa.2.2.2.2.2.1 xa.2.2.2.2.2.2).bind fun t4=>some (!t4))).bind fun t5=>cond (t5) (some (.inr ((.inr ((7,1,i1,0)))))) (some (.inl (M0 .i64 (i1+1))))) (some (.inr ((.inl ()))))
def lB(xa:Tq1):Option cP :=
 cond (decide (65536<(xa.2.2.1.length:Int))) (some ((6,1,0,0))) ((loop (ou xa) 0).bind fun o=>match o with|.inr r=>some r|.inl ()=>some ((0,0,0,0)))
def Tu:=re ⟨167,⟨[(0,.dat Yq2),(1,.nilp)],[]⟩,[⟨[(0,.agg [.dat Yq1,.dat Yq1,.dat Yq1,.dat Yq1])],[]⟩],fun x=>lB x⟩ func167 call167 (.tw 11 .nil (.jx [] ⟨[],[bkC 2 232 [.lit (.int .i64 0),.lit (.int .i64 0),.lit (.int .i64 0),.lit (.int .i64 0)]]⟩ [2,0] (.mc 0 0 1 (.mc 0 1 1 (.mc 0 2 1 (.mc 0 3 1 (.mc 0 4 1 (.mc 0 5 1 (.mc 0 6 1 (.lp ⟨[kdI 17],[bkC 2 232 [.lit (.int .i64 0),.lit (.int .i64 0),.lit (.int .i64 0),.lit (.int .i64 0)],bkC 0 30 [.is 2 (.any),.is 3 (.any),.is 4 (.any),.is 5 (.any),.is 6 (.any),.is 7 (.any),.is 8 (.any)],bkU 4,bkU 5,bkU 6,bkU 7,bkU 8,bkU 9,bkU 10]⟩ (.tw 18 (.cl c9 [] (.cl D3 [] (.gj 5 ⟨[kdB 35],[bkC 0 30 [.is 1 (.any),.is 2 (.any),.is 3 (.any),.is 4 (.any),.is 5 (.any),.is 6 (.any),.is 7 (.any)],bkU 4,bkU 5,bkU 6,bkU 7,bkU 8,bkU 9,bkU 10]⟩ [0] (.two 29 .nil (.cl D3 [] .nil)) (.tw 35 .nil .nil)))) .nil))))))))) .nil))

def tR(xa:(Int×Bool))(qa0:Int):Option Bool :=
 some ((decide (xa.1<0))||(decide (qa0<=xa.1)))
def R5:=re ⟨187,⟨[(0,.dat Yq4),(1,.ptr 0 0)],[bkN 3 [.is 1 (.dat Yq1)],bkM]⟩,[⟨[kdB 0],[bkC 0 3 [.is 1 (.any)],bkU 1]⟩],fun x=>tR x.1 x.2⟩ func187 call187 (.gp 4 .nil)
def nP(xa:Tq4)(qa0:Int):Int->Option (Int⊕(Unit⊕Int)):=fun i1=>cond (decide (i1<(xa.length:Int))) ((aa xa i1).bind fun x2=>(tR (x2.1,x2.2) qa0).bind fun t3=>cond (t3) (some (.inr ((.inr (i1))))) (some (.inl (M0 .i64 (i1+1))))) (some (.inr ((.inl ()))))
def tj(xa:Tq4)(qa0:Int):Option Int :=
 (loop (nP xa qa0) 0).bind fun o=>match o with|.inr r=>some r|.inl ()=>some ((-1))
def SZ:=re ⟨196,⟨[(0,.dat (.sl Yq4)),(1,.fn 187 [.ptr 0 0])],[bkN 3 [.is 1 (.dat Yq1)],bkM]⟩,[⟨[kdI 0],[bkC 0 3 [.is 1 (.any)],bkU 1]⟩],fun x=>tj x.1 x.2⟩ func196 call196 (.jx [] ⟨[],[bkC 0 3 [.is 1 (.any)],bkU 1]⟩ [0] (.lp ⟨[kdI 8],[bkC 0 3 [.is 1 (.any)],bkU 1]⟩ (.tw 9 (.cl R5 [] (.tw 16 .nil .nil)) .nil)) .nil)

def th(xa:Tq4)(qa0:Int):Option Bool :=
 (tj xa qa0).bind fun i10=>some (decide (0<=i10))
def TS:=re ⟨186,⟨[(0,.dat (.sl Yq4)),(1,.fn 187 [.ptr 0 0])],[bkN 3 [.is 1 (.dat Yq1)],bkM]⟩,[⟨[kdB 0],[bkC 0 3 [.is 1 (.any)],bkU 1]⟩],fun x=>th x.1 x.2⟩ func186 call186 (.cl SZ [] .nil)

def mA(xa:Tq4)(xb:Int):Option Bool :=
 (th xa xb).bind fun t14=>some (!t14)
def Ea:=re ⟨180,⟨[(0,.dat aP),kdI 1],[]⟩,[⟨[kdB 0],[]⟩],fun x=>mA x.1 x.2⟩ func180 call180 (.mc 2 0 3 (.cl TS [] .nil))

def fV(xa:Tq4)(xb:Int):Option Int :=
 cond (decide (16<(xa.length:Int))) (some (6)) ((mA xa xb).bind fun t15=>cond (!t15) (some (7)) (some (0)))
def sH:=re ⟨175,⟨[(0,.dat aP),kdI 1],[]⟩,[⟨[kdI 0],[]⟩],fun x=>fV x.1 x.2⟩ func175 call175 (.tw 8 .nil (.cl Ea [] (.tw 12 .nil .nil)))
def ow(xa:Tq1):Int->Option (Int⊕(Unit⊕cP)):=fun i1=>cond (decide (i1<(xa.2.2.2.1.length:Int))) ((aa xa.2.2.2.1 i1).bind fun x2=>(a8 1 1).bind fun _=>(fV x2 xa.2.1).bind fun i3=>cond (!decide (i3=0)) (some (.inr ((.inr ((i3,2,i1,0)))))) (some (.inl (M0 .i64 (i1+1))))) (some (.inr ((.inl ()))))
def lC(xa:Tq1):Option cP :=
 cond (decide ((xa.2.2.2.1.length:Int)=0)) (some ((14,2,0,0))) (cond (decide (65536<(xa.2.2.2.1.length:Int))) (some ((6,2,0,0))) ((loop (ow xa) 0).bind fun o=>match o with|.inr r=>some r|.inl ()=>some ((0,0,0,0))))
def Ub:=re ⟨168,⟨[(0,.dat Yq2),(1,.nilp)],[]⟩,[⟨[(0,.agg [.dat Yq1,.dat Yq1,.dat Yq1,.dat Yq1])],[]⟩],fun x=>lC x⟩ func168 call168 (.tw 11 .nil (.tw 16 .nil (.jx [] ⟨[],[bkC 2 232 [.lit (.int .i64 0),.lit (.int .i64 0),.lit (.int .i64 0),.lit (.int .i64 0)]]⟩ [2] (.lp ⟨[kdI 21],[bkC 2 232 [.lit (.int .i64 0),.lit (.int .i64 0),.lit (.int .i64 0),.lit (.int .i64 0)]]⟩ (.tw 22 (.cl c9 [] (.cl sH [] (.tw 33 .nil .nil))) .nil)) .nil)))

def um(xa:(Int×Bool))(xb:(Int×Bool)):Option Bool :=
 some (xa.2==xb.2)
def T6:=re ⟨182,⟨[(0,.dat Yq4),(1,.dat Yq4)],[]⟩,[⟨[kdB 0],[]⟩],fun x=>um x.1 x.2⟩ func182 call182 .nil
def tc(xa:Tq4)(xb:Tq4):Int->Option (Int⊕(Unit⊕Bool)):=fun i1=>cond (decide (i1<(xa.length:Int))) ((aa xa i1).bind fun x2=>(aa xb i1).bind fun x3=>(um (x2.1,x2.2) (x3.1,x3.2)).bind fun t4=>cond (!t4) (some (.inr ((.inr (false))))) (some (.inl (M0 .i64 (i1+1))))) (some (.inr ((.inl ()))))
def nO(xa:Tq4)(xb:Tq4):Option Bool :=
 cond (!decide ((xa.length:Int)=(xb.length:Int))) (some (false)) ((loop (tc xa xb) 0).bind fun o=>match o with|.inr r=>some r|.inl ()=>some (true))
def Tq:=re ⟨181,⟨[(0,.dat (.sl Yq4)),(1,.dat (.sl Yq4)),(2,.fn 182 [])],[]⟩,[⟨[kdB 0],[]⟩],fun x=>nO x.1 x.2⟩ func181 call181 (.tw 14 .nil (.jx [] ⟨[],[]⟩ [] (.lp ⟨[kdI 17],[]⟩ (.tw 18 (.cl T6 [] (.tw 30 .nil .nil)) .nil)) .nil))

def dW(xa:Tq4)(xb:Tq4):Option Bool :=
 (nO xa xb).bind fun t14=>some (t14)
def kD:=re ⟨176,⟨[(0,.dat aP),(1,.dat aP)],[]⟩,[⟨[kdB 0],[]⟩],fun x=>dW x.1 x.2⟩ func176 call176 (.cl Tq [] .nil)

def mg(xa:Tq1):Option cP :=
 (fV xa.2.2.2.2.1 xa.1).bind fun i81=>cond (decide (i81=0)) ((aa xa.2.2.2.1 0).bind fun x1=>(dW xa.2.2.2.2.1 x1).bind fun t2=>cond (!t2) (some ((8,3,0,0))) (some ((i81,3,0,0)))) (some ((i81,3,0,0)))
def RU:=re ⟨169,⟨[(0,.dat Yq2),(1,.nilp)],[]⟩,[⟨[(0,.agg [.dat Yq1,.dat Yq1,.dat Yq1,.dat Yq1])],[]⟩],fun x=>mg x⟩ func169 call169 (.cl sH [] (.mix [] [0,1,2,3,4,5,6,7,8,9] [10,11,12] [] (.two 15 (.cl kD [] (.tw 24 .nil .nil)) .nil)))

def oh(xa:Int)(qa0:Int)(qa1:Tq6)(qa2:(List Tq4))(qa3:Tq4):Option Bool :=
 some ((decide (0<=xa))&&(decide (xa<qa0)))
def Eh:=re ⟨183,⟨[kdI 0,(1,.ptr 0 0)],[bkN 56 [.is 1 (.dat Yq1),.is 2 (.dat (.sl Yq5)),.is 3 (.dat (.sl aP)),.is 4 (.dat (.sl Yq4))],bkM,bkM,bkM,bkM]⟩,[⟨[kdB 0],[bkC 0 56 [.is 1 (.any),.is 2 (.any),.is 3 (.any),.is 4 (.any)],bkU 1,bkU 2,bkU 3,bkU 4]⟩],fun x=>oh x.1 x.2.1 x.2.2.1 x.2.2.2.1 x.2.2.2.2⟩ func183 call183 (.gp 4 .nil)
def pv(xa:bX):Int->Option (Int⊕(Unit⊕Int)):=fun i1=>cond (decide (i1<(xa.2.1.length:Int))) ((aa xa.2.1 i1).bind fun x2=>(oh x2.1 xa.1 xa.2.1 xa.2.2.1 xa.2.2.2).bind fun t3=>(cond (!t3) (some (true)) ((oh x2.2 xa.1 xa.2.1 xa.2.2.1 xa.2.2.2).bind fun t4=>some (!t4))).bind fun t5=>cond (t5) (some (.inr ((.inr (7))))) (some (.inl (M0 .i64 (i1+1))))) (some (.inr ((.inl ()))))
def pm(xa:bX):Int->Option (Int⊕(Unit⊕Int)):=fun i1=>cond (decide (i1<(xa.2.2.1.length:Int))) ((aa xa.2.2.1 i1).bind fun x2=>(fV x2 xa.1).bind fun i3=>cond (!decide (i3=0)) (some (.inr ((.inr (i3))))) (some (.inl (M0 .i64 (i1+1))))) (some (.inr ((.inl ()))))
def fW(xa:bX):Option Int :=
 cond (decide (xa.1<0)) (some (7)) (cond (((decide (16<xa.1))||(decide (16<(xa.2.1.length:Int))))||(decide (16<(xa.2.2.1.length:Int)))) (some (6)) ((loop (pv xa) 0).bind fun o=>match o with | .inr r=>some r | .inl ()=>(loop (pm xa) 0).bind fun o=>match o with | .inr r=>some r | .inl ()=>(fV xa.2.2.2 xa.1).bind fun i1=>some (i1)))
def D5:=re ⟨177,⟨[(0,.dat gL)],[]⟩,[⟨[kdI 0],[]⟩],fun x=>fW x⟩ func177 call177 (.tw 11 .nil (.wt 15 (.gp 4 (.wt 21 (.gp 4 (.tw 26 .nil (.jx [(0,0),(0,1),(0,2),(0,3)] ⟨[],[bkC 0 56 [.is 1 (.any),.is 2 (.any),.is 3 (.any),.is 4 (.any)],bkU 2,bkU 3,bkU 4,bkU 5]⟩ [0] (.lp ⟨[kdI 31],[bkC 0 56 [.is 1 (.any),.is 2 (.any),.is 3 (.any),.is 4 (.any)],bkU 2,bkU 3,bkU 4,bkU 5]⟩ (.tw 32 (.cl Eh [] (.gj 5 ⟨[kdB 46],[bkC 0 56 [.is 1 (.any),.is 2 (.any),.is 3 (.any),.is 4 (.any)],bkU 2,bkU 3,bkU 4,bkU 5]⟩ [0] (.two 40 .nil (.cl Eh [] .nil)) (.tw 46 .nil .nil))) .nil)) (.jx [] ⟨[],[]⟩ [] (.lp ⟨[kdI 51],[]⟩ (.tw 52 (.cl sH [] (.tw 60 .nil .nil)) .nil)) (.cl sH [] .nil)))))))))
def oF(xa:Tq1):Int->Option (Int⊕(Unit⊕cP)):=fun i1=>cond (decide (i1<(xa.2.2.2.2.2.1.length:Int))) ((aa xa.2.2.2.2.2.1 i1).bind fun x2=>(a8 1 1).bind fun _=>(fW (x2.1,x2.2.1,x2.2.2.1,x2.2.2.2)).bind fun i3=>cond (!decide (i3=0)) (some (.inr ((.inr ((i3,4,i1,0)))))) (some (.inl (M0 .i64 (i1+1))))) (some (.inr ((.inl ()))))
def lW(xa:Tq1):Option cP :=
 cond (decide (65536<(xa.2.2.2.2.2.1.length:Int))) (some ((6,4,0,0))) ((loop (oF xa) 0).bind fun o=>match o with|.inr r=>some r|.inl ()=>some ((0,0,0,0)))
def T4:=re ⟨170,⟨[(0,.dat Yq2),(1,.nilp)],[]⟩,[⟨[(0,.agg [.dat Yq1,.dat Yq1,.dat Yq1,.dat Yq1])],[]⟩],fun x=>lW x⟩ func170 call170 (.tw 11 .nil (.jx [] ⟨[],[bkC 2 232 [.lit (.int .i64 0),.lit (.int .i64 0),.lit (.int .i64 0),.lit (.int .i64 0)]]⟩ [2,0] (.lp ⟨[kdI 16],[bkC 2 232 [.lit (.int .i64 0),.lit (.int .i64 0),.lit (.int .i64 0),.lit (.int .i64 0)]]⟩ (.tw 17 (.cl c9 [] (.cl D5 [] (.tw 26 .nil .nil))) .nil)) .nil))
def lh(xa:Tq1):bf->Option (bf⊕(Unit⊕cP)):=fun (i1,i2)=>cond (decide (i2<(xa.2.2.2.2.2.2.length:Int))) ((aa xa.2.2.2.2.2.2 i2).bind fun x3=>(a8 1 1).bind fun _=>cond (decide (65536<(M0 .i64 (i1+(x3.1.length:Int))))) (some (.inr ((.inr ((6,5,i2,0)))))) (some (.inl ((M0 .i64 (i1+(x3.1.length:Int)),M0 .i64 (i2+1)))))) (some (.inr ((.inl ()))))
def lA(xa:Tq1):Option cP :=
 cond (decide ((xa.2.2.2.2.2.2.length:Int)=0)) (some ((14,5,0,0))) (cond (decide (65536<(xa.2.2.2.2.2.2.length:Int))) (some ((6,5,0,0))) ((loop (lh xa) (0,0)).bind fun o=>match o with|.inr r=>some r|.inl ()=>some ((0,0,0,0))))
def TP:=re ⟨171,⟨[(0,.dat Yq2),(1,.nilp)],[]⟩,[⟨[(0,.agg [.dat Yq1,.dat Yq1,.dat Yq1,.dat Yq1])],[]⟩],fun x=>lA x⟩ func171 call171 (.tw 11 .nil (.tw 16 .nil (.jx [] ⟨[],[bkC 2 232 [.lit (.int .i64 0),.lit (.int .i64 0),.lit (.int .i64 0),.lit (.int .i64 0)]]⟩ [2,0] (.lp ⟨[kdI 5,kdI 21],[bkC 2 232 [.lit (.int .i64 0),.lit (.int .i64 0),.lit (.int .i64 0),.lit (.int .i64 0)]]⟩ (.tw 22 (.cl c9 [] (.tw 34 .nil .nil)) .nil)) .nil)))

def pf(xa:Int):Option (Bool×Bool×Bool×Bool) :=
 cond (decide (xa=0)) (some ((false,false,false,true))) (cond (decide (xa=1)) (some ((true,true,false,true))) ((cond (decide (xa=2)) (some (decide (xa=2))) (some (decide (xa=3))):Option Bool).bind fun t18=>cond (t18) (some ((true,true,true,true))) (cond (decide (xa=4)) (some ((false,true,false,true))) (cond (decide (xa=5)) (some ((true,false,false,true))) (some ((false,false,false,false)))))))
def SR:=re ⟨197,⟨[kdI 0],[]⟩,[⟨[(0,.tup [.agg [.dat .bool,.dat .bool,.dat .bool],.dat .bool])],[]⟩],fun x=>pf x⟩ func197 call197 (.tw 5 .nil (.tw 8 .nil (.sq [] ⟨[kdB 11],[]⟩ [] (.tw 11 .nil .nil) (.tw 11 .nil (.tw 15 .nil (.tw 18 .nil .nil))))))

def pU(xa:Tq5)(xb:(Bool×Bool×Bool)):Option Tq5 :=
 (cond (xb.1) (some (xa.2.1)) (some (0)):Option Int).bind fun i22=>(cond (xb.2.1) (some (xa.2.2.1)) (some (0)):Option Int).bind fun i25=>cond (xb.2.2) (some ((xa.1,i22,i25,xa.2.2.2.1,xa.2.2.2.2))) (some ((xa.1,i22,i25,0,false)))
def Ud:=re ⟨198,⟨[(0,.dat Yq7),(1,.dat (.cons .bool (.cons .bool (.one .bool))))],[]⟩,[⟨[(0,.agg [.dat Yq1,.dat Yq1,.dat Yq1,.dat Yq1,.dat .bool])],[]⟩],fun x=>pU x.1 x.2⟩ func198 call198 (.pl (.pl (.sq [(6,0)] ⟨[],[bkC 6 175 [.is 1 (.any),.dat Yq1,.lit (.int .i64 0),.lit (.int .i64 0),.lit (.bool false)],bkU 9]⟩ [6] (.tw 10 .nil .nil) (.sq [(6,1)] ⟨[],[bkC 6 175 [.is 1 (.any),.is 2 (.any),.dat Yq1,.lit (.int .i64 0),.lit (.bool false)],bkU 9,bkU 11]⟩ [6] (.tw 15 .nil .nil) (.tw 20 (.mix [([0,1,2,3,4],5)] [6] [7] [6] .nil) .nil)))))

def pS(xa:Tq5):Option (Bool×Bool×Bool×Int) :=
 (pf xa.1).bind fun (t67,t68,t69,t70)=>cond (!t70) (some ((false,false,false,3))) ((pU (xa.1,xa.2.1,xa.2.2.1,xa.2.2.2.1,xa.2.2.2.2) (t67,t68,t69)).bind fun (i1,i2,i3,i4,t5)=>cond (!((decide (xa.1=i1))&&((decide (xa.2.1=i2))&&((decide (xa.2.2.1=i3))&&((decide (xa.2.2.2.1=i4))&&(xa.2.2.2.2==t5)))))) (some ((false,false,false,3))) (some ((t67,t68,t69,0))))
def TU:=re ⟨188,⟨[(0,.dat Yq7)],[]⟩,[⟨[(0,.tup [.agg [.dat .bool,.dat .bool,.dat .bool],.dat Yq1])],[]⟩],fun x=>pS x⟩ func188 call188 (.cl SR [] (.mix [([0,1,2,3,4,5],6)] [7,8] [] [] (.two 14 .nil (.cl Ud [] (.tw 20 .nil .nil)))))

def ov(xa:Int)(qa0:(List Tq4)):Option Bool :=
 some ((decide (0<=xa))&&(decide (xa<(qa0.length:Int))))
def Eb:=re ⟨189,⟨[kdI 0,(1,.ptr 0 0)],[bkN 23 [.is 1 (.dat (.sl aP))],bkM]⟩,[⟨[kdB 0],[bkC 0 23 [.is 1 (.any)],bkU 1]⟩],fun x=>ov x.1 x.2⟩ func189 call189 (.gp 4 .nil)
def EH(xa:Tq4)(xb:Tq4)(xc:Int)(xd:Int):ba->Option (ba⊕(List Tq5)):=fun (l1,i2)=>cond (decide (i2<(xa.length:Int))) ((aa xa i2).bind fun x3=>(aa xb i2).bind fun x4=>(app l1 (([(x3.1,x4.1,xc,M0 .i64 (xd+i2),false)]:List Tq5))).bind fun z5=>(aa xb i2).bind fun x6=>cond (x6.2) ((aa xb i2).bind fun x7=>(aa xa i2).bind fun x8=>(app z5 (([(x7.1,x8.1,xc,M0 .i64 (xd+i2),true)]:List Tq5))).bind fun z9=>some (.inl ((z9,M0 .i64 (i2+1))))) (some (.inl ((z5,M0 .i64 (i2+1)))))) (some (.inr (l1)))
def lL(xa:Tq4)(xb:Tq4)(xc:Int)(xd:Int):Option ((List Tq5)) :=
 (loop (EH xa xb xc xd) ([],0)).bind fun l1=>some (l1)
def yA:=re ⟨199,⟨[(0,.dat (.sl Yq4)),(1,.dat (.sl Yq4)),kdI 2,kdI 3],[]⟩,[⟨[(0,.own 271 Yq7)],[]⟩],fun x=>lL x.1 x.2.1 x.2.2.1 x.2.2.2⟩ func199 call199 (.jn [] ⟨[(9,.own 271 Yq7)],[]⟩ [] (.lp ⟨[(9,.own 271 Yq7),kdI 13],[]⟩ (.tw 14 (.mix [([0,1,2,3,4,5,6,7,8,9,10,11,12,13,14,15],16)] [] [17,18] [] (.tw 38 (.mix [([0,1,2,3,4,5,6,7,8,9,10,11,12,13,14,15],16)] [] [17,18] [] .nil) .nil)) .nil)) .nil)

def ik(xa:Tq4)(xb:Tq4)(xc:Int)(xd:Int):Option (ba) :=
 (dW xa xb).bind fun t30=>cond (!t30) (some (([],8))) ((lL xa xb xc xd).bind fun l38=>some ((l38,0)))
def sX:=re ⟨190,⟨[(0,.dat aP),(1,.dat aP),kdI 2,kdI 3],[]⟩,[⟨[(0,.tup [.own 271 Yq7,.dat Yq1])],[]⟩],fun x=>ik x.1 x.2.1 x.2.2.1 x.2.2.2⟩ func190 call190 (.cl kD [] (.tw 13 .nil (.cl yA [] .nil)))
def yP(xa:Tq4)(xc:Bool):(Tq4×Int)->Option ((Tq4×Int)⊕Tq4):=fun (l1,i2)=>cond (decide (i2<(xa.length:Int))) ((aa xa i2).bind fun x3=>(app l1 (([(x3.1,x3.2||xc)]:List (Int×Bool)))).bind fun z4=>some (.inl ((z4,M0 .i64 (i2+1))))) (some (.inr (l1)))
def qf(xa:Tq4)(xb:Int)(xc:Bool):Option (Tq4) :=
 (loop (yP xa xc) ((([(xb,false)]:List (Int×Bool)),0))).bind fun l1=>some (l1)
def Rv:=re ⟨200,⟨[(0,.dat aP),kdI 1,kdB 2],[]⟩,[⟨[(0,.agg [.own 148 Yq4])],[]⟩],fun x=>qf x.1 x.2.1 x.2.2⟩ func200 call200 (.jn [] ⟨[(7,.own 148 Yq4),(12,.any)],[]⟩ [4,0] (.lp ⟨[(7,.own 148 Yq4),kdI 16],[]⟩ (.tw 17 (.wt 25 (.gp 1 .nil)) .nil)) .nil)

def py(xa:Tq4)(xb:Tq4)(xc:Int)(xd:Bool):Option (ba) :=
 (qf xa xc xd).bind fun l1=>(dW xb l1).bind fun t2=>cond (!t2) (some (([],8))) ((aa xb 0).bind fun x3=>(subL xb 1 (xb.length:Int)).bind fun y4=>(lL xa y4 1 1).bind fun l5=>(app (([(xc,x3.1,2,0,false)]:List Tq5)) l5).bind fun z6=>some ((z6,0)))
def SS:=re ⟨191,⟨[(0,.dat aP),(1,.dat aP),kdI 2,kdB 3],[]⟩,[⟨[(0,.tup [.own 271 Yq7,.dat Yq1])],[]⟩],fun x=>py x.1 x.2.1 x.2.2.1 x.2.2.2⟩ func191 call191 (.mix [([0,1,2,3],4)] [] [5,6] [] (.cl Rv [] (.cl kD [4] (.tw 17 .nil (.mix [([0,1,2,3,4,5],6)] [] [7,8,9] [] (.cl yA [] .nil))))))

def tP(xa:(Int×Bool)):Option Bool :=
 some (!xa.2)
def Sd:=re ⟨207,⟨[(0,.dat Yq4)],[]⟩,[⟨[kdB 0],[]⟩],fun x=>tP x⟩ func207 call207 .nil
def tf(xa:Tq4):Int->Option (Int⊕(Unit⊕Int)):=fun i1=>cond (decide (i1<(xa.length:Int))) ((aa xa i1).bind fun x2=>(tP (x2.1,x2.2)).bind fun t3=>cond (t3) (some (.inr ((.inr (i1))))) (some (.inl (M0 .i64 (i1+1))))) (some (.inr ((.inl ()))))
def tg(xa:Tq4):Option Int :=
 (loop (tf xa) 0).bind fun o=>match o with|.inr r=>some r|.inl ()=>some ((-1))
def SA:=re ⟨196,⟨[(0,.dat (.sl Yq4)),(1,.fn 207 [])],[]⟩,[⟨[kdI 0],[]⟩],fun x=>tg x⟩ func196 call196 (.jx [] ⟨[],[]⟩ [] (.lp ⟨[kdI 8],[]⟩ (.tw 9 (.cl Sd [] (.tw 16 .nil .nil)) .nil)) .nil)

def td(xa:Tq4):Option Bool :=
 (tg xa).bind fun i10=>some (decide (0<=i10))
def SY:=re ⟨186,⟨[(0,.dat (.sl Yq4)),(1,.fn 207 [])],[]⟩,[⟨[kdB 0],[]⟩],fun x=>td x⟩ func186 call186 (.cl SA [] .nil)

def oe(xa:Tq4)(xb:Tq4)(xc:Bool):Option Bool :=
 (cond (decide ((xa.length:Int)=0)) (some (true)) ((aa xa 0).bind fun x70=>some (x70.2))).bind fun t68=>(cond (t68) (some (true)) ((dW xa xb).bind fun t90=>some (!t90))).bind fun t86=>cond (t86) (some (false)) ((subL xa 1 (xa.length:Int)).bind fun y95=>(td y95).bind fun t1=>some ((!xc)||(!t1)))
def U9:=re ⟨201,⟨[(0,.dat aP),(1,.dat aP),kdB 2],[]⟩,[⟨[kdB 0],[]⟩],fun x=>oe x.1 x.2.1 x.2.2⟩ func201 call201 (.gj 5 ⟨[kdB 18],[]⟩ [] (.two 12 .nil .nil) (.wt 19 (.gj 4 ⟨[kdB 24],[]⟩ [] (.two 19 .nil (.cl kD [] .nil)) (.tw 24 .nil (.cl SY [] (.gp 2 .nil))))))

def pn(xa:Tq4)(xb:Tq4)(xc:Int)(xd:Bool):Option (ba) :=
 (oe xa xb xd).bind fun t1=>cond (!t1) (some (([],8))) ((aa xa 0).bind fun x2=>(aa xb 0).bind fun x3=>(subL xa 1 (xa.length:Int)).bind fun y4=>(subL xb 1 (xb.length:Int)).bind fun y5=>(lL y4 y5 1 1).bind fun l6=>(app (([(x2.1,xc,3,0,false),(xc,x3.1,2,0,false)]:List Tq5)) l6).bind fun z7=>some ((z7,0)))
def Re:=re ⟨192,⟨[(0,.dat aP),(1,.dat aP),kdI 2,kdB 3],[]⟩,[⟨[(0,.tup [.own 271 Yq7,.dat Yq1])],[]⟩],fun x=>pn x.1 x.2.1 x.2.2.1 x.2.2.2⟩ func192 call192 (.cl U9 [] (.tw 15 .nil (.mix [([0,1,2,3,4,5,6,7,8,9,10,11,12,13],14)] [15] [] [] (.mix [([0,1,2,3,4,5,6],7)] [] [8,9,10] [] (.cl yA [] .nil)))))

def jz(xa:Tq5)(xb:(List Tq4))(xc:Int):Option (ba) :=
 (pS (xa.1,xa.2.1,xa.2.2.1,xa.2.2.2.1,xa.2.2.2.2)).bind fun (t1,t2,t3,i4)=>cond (!decide (i4=0)) (some (([],i4))) ((cond (t1) ((ov xa.2.1 xb).bind fun t5=>some (!t5)) (some (false))).bind fun t6=>(cond (t6) (some (true)) ((cond (t2) ((ov xa.2.2.1 xb).bind fun t7=>some (!t7)) (some (false))).bind fun t8=>some (t8))).bind fun t9=>cond (t9||(t3&&((decide (xa.2.2.2.1<0))||(decide (xc<=xa.2.2.2.1))))) (some (([],7))) (cond (decide (xa.1=1)) ((aa xb xa.2.2.1).bind fun x10=>(aa xb xa.2.1).bind fun x11=>(ik x10 x11 1 0).bind fun (l12,i13)=>some ((l12,i13))) (cond (decide (xa.1=2)) ((aa xb xa.2.2.1).bind fun x14=>(aa xb xa.2.1).bind fun x15=>(py x14 x15 xa.2.2.2.1 xa.2.2.2.2).bind fun (l16,i17)=>some ((l16,i17))) (cond (decide (xa.1=3)) ((aa xb xa.2.2.1).bind fun x18=>(aa xb xa.2.1).bind fun x19=>(pn x18 x19 xa.2.2.2.1 xa.2.2.2.2).bind fun (l20,i21)=>some ((l20,i21))) (some (([],0)))))))
def UJ:=re ⟨184,⟨[(0,.dat Yq7),(1,.dat (.sl aP)),kdI 2],[]⟩,[⟨[(0,.tup [.own 271 Yq7,.dat Yq1])],[]⟩],fun x=>jz x.1 x.2.1 x.2.2⟩ func184 call184 (.cl TU [] (.tw 17 .nil (.wt 22 (.mc 2 0 3 (.gj 5 ⟨[kdB 28],[bkC 2 23 [.is 1 (.any)],bkU 7]⟩ [2] (.two 22 (.cl Eb [] .nil) .nil) (.wt 29 (.gj 9 ⟨[kdB 39],[bkC 2 23 [.is 1 (.any)],bkU 7]⟩ [2] (.two 29 .nil (.wt 32 (.gj 5 ⟨[kdB 38],[bkC 2 23 [.is 1 (.any)],bkU 7]⟩ [2] (.two 32 (.cl Eb [] .nil) .nil) .nil))) (.wt 40 (.gp 13 (.tw 54 .nil (.tw 57 (.mix [([0,1,2,3,4,5,6,7,8,9],10)] [11,12,13,14] [] [] (.cl sX [] .nil)) (.tw 72 (.mix [([0,1,2,3,4,5,6,7,8,9,10,11,12,13],14)] [15,16,17,18] [] [] (.cl SS [] .nil)) (.tw 91 (.mix [([0,1,2,3,4,5,6,7,8,9,10,11,12,13],14)] [15,16,17,18] [] [] (.cl Re [] .nil)) .nil)))))))))))))

def ux(xa:Tq5)(xb:(List Tq4))(xc:Int):Option Int :=
 (jz (xa.1,xa.2.1,xa.2.2.1,xa.2.2.2.1,xa.2.2.2.2) xb xc).bind fun (l17,i18)=>some (i18)
def TV:=re ⟨178,⟨[(0,.dat Yq7),(1,.dat (.sl aP)),kdI 2],[]⟩,[⟨[kdI 0],[]⟩],fun x=>ux x.1 x.2.1 x.2.2⟩ func178 call178 (.cl UJ [] .nil)

def jA(xa:cC):Option Bool :=
 some (((!decide (xa.2.1=0))||(!decide (xa.2.2.1=0)))||(decide (0<(xa.2.2.2.2.2.length:Int))))
def yj:=re ⟨202,⟨[(0,.dat gQ)],[]⟩,[⟨[kdB 0],[]⟩],fun x=>jA x⟩ func202 call202 (.gp 3 (.wt 11 (.gp 4 .nil)))

def mE(xa:cC):Option Int :=
 (cond (decide (xa.1=1)) ((cond ((decide ((xa.2.2.2.1.length:Int)=1))&&(decide ((xa.2.2.2.2.1.length:Int)=0))) ((jA (xa.1,xa.2.1,xa.2.2.1,xa.2.2.2.1,xa.2.2.2.2.1,xa.2.2.2.2.2)).bind fun t1=>some (!t1)) (some (false))).bind fun t2=>some (t2)) (cond (decide (xa.1=2)) ((cond (decide (0<(xa.2.2.2.1.length:Int))) ((jA (xa.1,xa.2.1,xa.2.2.1,xa.2.2.2.1,xa.2.2.2.2.1,xa.2.2.2.2.2)).bind fun t3=>some (!t3)) (some (false))).bind fun t4=>some (t4)) (cond (decide (xa.1=3)) ((cond ((decide ((xa.2.2.2.1.length:Int)=0))&&(decide ((xa.2.2.2.2.1.length:Int)=0))) ((jA (xa.1,xa.2.1,xa.2.2.1,xa.2.2.2.1,xa.2.2.2.2.1,xa.2.2.2.2.2)).bind fun t5=>some (!t5)) (some (false))).bind fun t6=>some (t6)) (cond (decide (xa.1=4)) (some (decide ((xa.2.2.2.1.length:Int)=1))) (some (false))))):Option Bool).bind fun t7=>cond (!t7) (some (3)) (cond (((decide (16<(xa.2.2.2.1.length:Int)))||(decide (16<(xa.2.2.2.2.1.length:Int))))||(decide (16<(xa.2.2.2.2.2.length:Int)))) (some (6)) (some (0)))
def UC:=re ⟨193,⟨[(0,.dat gQ)],[]⟩,[⟨[kdI 0],[]⟩],fun x=>mE x⟩ func193 call193 (.pl (.pl (.sq [] ⟨[kdB 3],[]⟩ [] (.tw 6 (.wt 12 (.gp 4 (.wt 18 (.gj 3 ⟨[kdB 22],[]⟩ [] (.two 18 (.cl yj [] .nil) .nil) .nil)))) (.tw 23 (.wt 29 (.gj 3 ⟨[kdB 33],[]⟩ [] (.two 29 (.cl yj [] .nil) .nil) .nil)) (.tw 34 (.wt 40 (.gp 4 (.wt 46 (.gj 3 ⟨[kdB 50],[]⟩ [] (.two 46 (.cl yj [] .nil) .nil) .nil)))) (.tw 51 .nil .nil)))) (.tw 58 .nil (.wt 63 (.gp 4 (.wt 69 (.gp 4 (.tw 74 .nil .nil)))))))))

def jr(xa:Int):Option Int :=
 some (xa)
def sK:=re ⟨203,⟨[kdI 0],[]⟩,[⟨[(0,.fn 208 [.ptr 0 0])],[bkN 3 [.dat Yq1]]⟩],fun x=>jr x⟩ func203 call203 .nil

def iZ(xa:Int)(qa0:Int):Option Bool :=
 some ((decide (xa<0))||(decide (qa0<=xa)))
def yb:=re ⟨208,⟨[kdI 0,(1,.ptr 0 0)],[bkN 3 [.is 1 (.dat Yq1)],bkM]⟩,[⟨[kdB 0],[bkC 0 3 [.is 1 (.any)],bkU 1]⟩],fun x=>iZ x.1 x.2⟩ func208 call208 (.gp 3 .nil)
def nQ(xa:(List Int))(qa0:Int):Int->Option (Int⊕(Unit⊕Int)):=fun i1=>cond (decide (i1<(xa.length:Int))) ((aa xa i1).bind fun x2=>(iZ x2 qa0).bind fun t3=>cond (t3) (some (.inr ((.inr (i1))))) (some (.inl (M0 .i64 (i1+1))))) (some (.inr ((.inl ()))))
def tq(xa:(List Int))(qa0:Int):Option Int :=
 (loop (nQ xa qa0) 0).bind fun o=>match o with|.inr r=>some r|.inl ()=>some ((-1))
def Ua:=re ⟨209,⟨[(0,.dat (.sl Yq1)),(1,.fn 208 [.ptr 0 0])],[bkN 3 [.is 1 (.dat Yq1)],bkM]⟩,[⟨[kdI 0],[bkC 0 3 [.is 1 (.any)],bkU 1]⟩],fun x=>tq x.1 x.2⟩ func209 call209 (.jx [] ⟨[],[bkC 0 3 [.is 1 (.any)],bkU 1]⟩ [0] (.lp ⟨[kdI 8],[bkC 0 3 [.is 1 (.any)],bkU 1]⟩ (.tw 9 (.cl yb [] (.tw 16 .nil .nil)) .nil)) .nil)

def iV(xa:(List Int))(qa0:Int):Option Bool :=
 (tq xa qa0).bind fun i10=>some (decide (0<=i10))
def ym:=re ⟨204,⟨[(0,.dat (.sl Yq1)),(1,.fn 208 [.ptr 0 0])],[bkN 3 [.is 1 (.dat Yq1)],bkM]⟩,[⟨[kdB 0],[bkC 0 3 [.is 1 (.any)],bkU 1]⟩],fun x=>iV x.1 x.2⟩ func204 call204 (.cl Ua [] .nil)

def pH(xa:cC)(xb:kS):Option Bool :=
 (jr (xb.2.2.1.length:Int)).bind fun i1=>(jr xb.1).bind fun i2=>(iV xa.2.2.2.1 i2).bind fun t3=>cond (t3) (some (false)) ((iV xa.2.2.2.2.1 i1).bind fun t4=>cond (t4) (some (false)) ((jr xb.2.1).bind fun i5=>(iV xa.2.2.2.2.2 i5).bind fun t6=>cond (t6) (some (false)) (cond (!decide (xa.1=4)) (some (true)) ((iZ xa.2.2.1 i1).bind fun t7=>cond (!t7) ((jr (xb.2.2.2.2.length:Int)).bind fun i8=>(iZ xa.2.1 i8).bind fun t9=>some (!t9)) (some (false))))))
def Uv:=re ⟨194,⟨[(0,.dat gQ),(1,.dat (.cons Yq1 (.cons Yq1 (.cons (.sl aP) (.cons aP (.one (.sl gL)))))))],[]⟩,[⟨[kdB 0],[]⟩],fun x=>pH x.1 x.2⟩ func194 call194 (.cl sK [] (.mix [([0,1,2,3],4),([],5),([6,7,8,9],10),([11,12,13,14,15,16],17)] [] [18,19] [4] (.cl sK [] (.mc 6 0 7 (.cl ym [] (.two 16 .nil (.wt 1000011 (.mc 4 0 5 (.cl ym [] (.two 22 .nil (.cl sK [] (.mc 14 0 15 (.cl ym [] (.tw 29 .nil (.mix [([0,1,2,3,4,5,6],7),([8,9,10,11,12,14,15],13)] [] [16,17,18,19,20] [4] (.two 33 .nil (.cl yb [] (.two 39 (.cl sK [] (.mc 21 0 22 (.cl yb [] .nil))) .nil))))))))))))))))))
def oL(xa:bX)(xc:(List Tq4)):Int->Option (Int⊕(Unit⊕Int)):=fun i1=>cond (decide (i1<(xa.2.2.1.length:Int))) ((aa xa.2.2.1 i1).bind fun x2=>(aa xc i1).bind fun x3=>(dW x3 x2).bind fun t4=>cond (!t4) (some (.inr ((.inr (8))))) (some (.inl (M0 .i64 (i1+1))))) (some (.inr ((.inl ()))))
def uk(xa:bX)(xb:(List Int))(xc:(List Tq4))(xd:Tq4):Option Int :=
 (fW (xa.1,xa.2.1,xa.2.2.1,xa.2.2.2)).bind fun i1=>cond (!decide (i1=0)) (some (i1)) (cond ((!decide ((xb.length:Int)=xa.1))||(!decide ((xc.length:Int)=(xa.2.2.1.length:Int)))) (some (2)) ((loop (oL xa xc) 0).bind fun o=>match o with | .inr r=>some r | .inl ()=>(dW xd xa.2.2.2).bind fun t2=>cond (!t2) (some (8)) (some (0))))
def R9:=re ⟨205,⟨[(0,.dat gL),(1,.dat (.sl Yq1)),(2,.dat (.sl aP)),(3,.dat aP)],[]⟩,[⟨[kdI 0],[]⟩],fun x=>uk x.1 x.2.1 x.2.2.1 x.2.2.2⟩ func205 call205 (.cl D5 [] (.tw 15 .nil (.wt 22 (.gp 6 (.tw 29 .nil (.jx [] ⟨[],[]⟩ [] (.lp ⟨[kdI 33],[]⟩ (.tw 34 (.mix [] [0,1,2,3,4] [5,6] [] (.cl kD [] (.tw 44 .nil .nil))) .nil)) (.cl kD [] (.tw 50 .nil .nil))))))))

def tH(xa:Tq4):Option (Tq4) :=
 dS xa (some ([])) ((app (([]:List (Int×Bool))) xa).bind fun z21=>some (z21))
def Q9:=re ⟨211,⟨[(0,.dat (.sl Yq4))],[]⟩,[⟨[(0,.own 148 Yq4)],[]⟩],fun x=>tH x⟩ func211 call211 (.two 4 .nil .nil)

def pQ(xa:Tq4):Option (Tq4) :=
 (tH xa).bind fun l22=>some (l22)
def QY:=re ⟨210,⟨[(0,.dat aP)],[]⟩,[⟨[(0,.agg [.own 148 Yq4])],[]⟩],fun x=>pQ x⟩ func210 call210 (.cl Q9 [] .nil)
def lZ(xb:(List Int))(l1:Tq4):(Tq4×Int)->Option ((Tq4×Int)⊕Tq4):=fun (l2,i3)=>cond (decide (i3<(l1.length:Int))) ((aa l2 i3).bind fun x4=>(aa xb x4.1).bind fun x5=>(aa l2 i3).bind fun x6=>(some (l2.set i3.toNat (x5,x6.2))).bind fun z7=>some (.inl ((z7,M0 .i64 (i3+1))))) (some (.inr (l2)))
def mD(xa:Tq4)(xb:(List Int)):Option ((Tq4×Int)) :=
 (mA xa (xb.length:Int)).bind fun t1=>cond (!t1) (some (([],7))) ((pQ xa).bind fun l2=>(loop (lZ xb l2) (l2,0)).bind fun l3=>some ((l3,0)))
def Ek:=re ⟨206,⟨[(0,.dat aP),(1,.dat (.sl Yq1))],[]⟩,[⟨[(0,.tup [.agg [.own 148 Yq4],.dat Yq1])],[]⟩],fun x=>mD x.1 x.2⟩ func206 call206 (.cl Ea [] (.tw 13 .nil (.cl QY [] (.jn [] ⟨[(16,.any),(18,.any)],[bkC 6 26 [.own 148 Yq4]]⟩ [6,4,0] (.lp ⟨[(18,.own 148 Yq4),kdI 20],[bkC 6 26 [.al 0]]⟩ (.tw 21 (.mix [] [0,1,2,3,4,5,6,7,8,9] [10] [] .nil) .nil)) .nil))))
def pE(xa:bX)(xb:(List Int)):ba->Option (ba⊕(List Tq5)):=fun (l1,i2)=>cond (decide (i2<(xa.2.1.length:Int))) ((aa xa.2.1 i2).bind fun x3=>(aa xb x3.1).bind fun x4=>(aa xb x3.2).bind fun x5=>(app l1 (([(x4,x5,4,i2,false)]:List Tq5))).bind fun z6=>some (.inl ((z6,M0 .i64 (i2+1))))) (some (.inr (l1)))
def mr(xa:bX)(xb:(List Int))(xc:(List Tq4)):ba->Option (ba⊕(List Tq5)):=fun (l1,i2)=>cond (decide (i2<(xa.2.2.1.length:Int))) ((aa xa.2.2.1 i2).bind fun x3=>(mD x3 xb).bind fun (l4,i5)=>(aa xc i2).bind fun x6=>(ik x6 l4 5 (M0 .i64 (16*i2))).bind fun (l7,i8)=>(app l1 l7).bind fun z9=>some (.inl ((z9,M0 .i64 (i2+1))))) (some (.inr (l1)))
def mI(xa:bX)(xb:(List Int))(xc:(List Tq4))(xd:Tq4):Option (ba) :=
 (uk (xa.1,xa.2.1,xa.2.2.1,xa.2.2.2) xb xc xd).bind fun i1=>cond (!decide (i1=0)) (some (([],i1))) ((loop (pE xa xb) ([],0)).bind fun l2=>(loop (mr xa xb xc) (l2,0)).bind fun l3=>(mD xa.2.2.2 xb).bind fun (l4,i5)=>(ik l4 xd 6 0).bind fun (l6,i7)=>(app l3 l6).bind fun z8=>some ((z8,0)))
def Q5:=re ⟨195,⟨[(0,.dat gL),(1,.dat (.sl Yq1)),(2,.dat (.sl aP)),(3,.dat aP)],[]⟩,[⟨[(0,.tup [.own 271 Yq7,.dat Yq1])],[]⟩],fun x=>mI x.1 x.2.1 x.2.2.1 x.2.2.2⟩ func195 call195 (.cl R9 [] (.tw 30 .nil (.jn [] ⟨[(11,.own 271 Yq7)],[]⟩ [] (.lp ⟨[(11,.own 271 Yq7),kdI 35],[]⟩ (.tw 36 (.mix [([0,1,2,3,4,5,6,7,8,9,10,11,12],13)] [] [14,15] [] .nil) .nil)) (.jn [] ⟨[(11,.own 271 Yq7)],[]⟩ [4] (.lp ⟨[(11,.own 271 Yq7),kdI 59],[]⟩ (.tw 60 (.cl Ek [] (.per 11 12 (.mix [([0,1,2,3,4,5,6],7)] [8,9,10,11,12] [] [] (.cl sX [] .nil)))) .nil)) (.cl Ek [] (.per 8 9 (.cl sX [] .nil)))))))
def jq(xa:cC)(xb:kS):((List Tq4)×Int)->Option (((List Tq4)×Int)⊕(List Tq4)):=fun (l1,i2)=>cond (decide (i2<(xa.2.2.2.2.1.length:Int))) ((aa xa.2.2.2.2.1 i2).bind fun x3=>(aa xb.2.2.1 x3).bind fun x4=>(app l1 (([x4]:List Tq4))).bind fun z5=>some (.inl ((z5,M0 .i64 (i2+1))))) (some (.inr (l1)))
def jw(xa:cC)(xb:kS):Option (ba) :=
 (mE (xa.1,xa.2.1,xa.2.2.1,xa.2.2.2.1,xa.2.2.2.2.1,xa.2.2.2.2.2)).bind fun i1=>cond (!decide (i1=0)) (some (([],i1))) ((pH (xa.1,xa.2.1,xa.2.2.1,xa.2.2.2.1,xa.2.2.2.2.1,xa.2.2.2.2.2) (xb.1,xb.2.1,xb.2.2.1,xb.2.2.2.1,xb.2.2.2.2)).bind fun t2=>cond (!t2) (some (([],7))) (cond (decide (xa.1=3)) (cond (decide ((xb.2.2.1.length:Int)=0)) (some (([],14))) ((aa xb.2.2.1 0).bind fun x3=>(ik x3 xb.2.2.2.1 7 0).bind fun (l4,i5)=>some ((l4,i5)))) (cond (decide (xa.1=4)) ((loop (jq xa xb) ([],0)).bind fun l6=>(aa xb.2.2.2.2 xa.2.1).bind fun x7=>(aa xb.2.2.1 xa.2.2.1).bind fun x8=>(mI (x7.1,x7.2.1,x7.2.2.1,x7.2.2.2) xa.2.2.2.2.2 l6 x8).bind fun (l9,i10)=>some ((l9,i10))) (some (([],0))))))
def Q4:=re ⟨185,⟨[(0,.dat gQ),(1,.dat (.cons Yq1 (.cons Yq1 (.cons (.sl aP) (.cons aP (.one (.sl gL)))))))],[]⟩,[⟨[(0,.tup [.own 271 Yq7,.dat Yq1])],[]⟩],fun x=>jw x.1 x.2⟩ func185 call185 (.cl UC [] (.tw 13 .nil (.cl Uv [] (.tw 18 .nil (.tw 21 (.tw 26 .nil (.mix [([0,1,2,3,4,5],6)] [7,8,9,10] [] [] (.cl sX [] .nil))) (.tw 36 (.jn [] ⟨[(7,.own 26 aP)],[]⟩ [] (.lp ⟨[(7,.own 26 aP),kdI 41],[]⟩ (.tw 42 .nil .nil)) (.mix [([0,1,2,3,4,5,6,7,8,9,10,11,12,13,14],15)] [16,17,18,19] [] [4] (.per 4 5 (.cl Q5 [] .nil)))) .nil))))))

def uy(xa:cC)(xb:kS):Option Int :=
 (jw (xa.1,xa.2.1,xa.2.2.1,xa.2.2.2.1,xa.2.2.2.2.1,xa.2.2.2.2.2) (xb.1,xb.2.1,xb.2.2.1,xb.2.2.2.1,xb.2.2.2.2)).bind fun (l19,i20)=>some (i20)
def Ur:=re ⟨179,⟨[(0,.dat gQ),(1,.dat (.cons Yq1 (.cons Yq1 (.cons (.sl aP) (.cons aP (.one (.sl gL)))))))],[]⟩,[⟨[kdI 0],[]⟩],fun x=>uy x.1 x.2⟩ func179 call179 (.cl Q4 [] .nil)
def oE(xa:Tq1)(i1:Int)(x2:((List Tq5)×cC)):Int->Option (Int⊕(Unit⊕(Int⊕(Unit⊕cP)))):=fun i3=>cond (decide (i3<(x2.1.length:Int))) ((aa x2.1 i3).bind fun x4=>(a8 1 1).bind fun _=>(ux (x4.1,x4.2.1,x4.2.2.1,x4.2.2.2.1,x4.2.2.2.2) xa.2.2.2.1 xa.2.1).bind fun i5=>cond (!decide (i5=0)) (some (.inr ((.inr (.inr ((.inr ((i5,6,i1,i3))))))))) (some (.inl (M0 .i64 (i3+1))))) (some (.inr ((.inl ()))))
def oJ(xa:Tq1):Int->Option (Int⊕(Unit⊕cP)):=fun i1=>cond (decide (i1<(xa.2.2.2.2.2.2.length:Int))) ((aa xa.2.2.2.2.2.2 i1).bind fun x2=>(loop (oE xa i1 x2) 0).bind fun o=>match o with|.inr r=>some r|.inl ()=>(a8 1 1).bind fun _=>(uy (x2.2.1,x2.2.2.1,x2.2.2.2.1,x2.2.2.2.2.1,x2.2.2.2.2.2.1,x2.2.2.2.2.2.2) (((xa.2.2.2.2.2.2.length:Int),xa.2.1,xa.2.2.2.1,xa.2.2.2.2.1,xa.2.2.2.2.2.1))).bind fun i3=>cond (!decide (i3=0)) (some (.inr ((.inr ((i3,7,i1,0)))))) (some (.inl (M0 .i64 (i1+1))))) (some (.inr ((.inl ()))))
def lT(xa:Tq1):Option cP :=
 (loop (oJ xa) 0).bind fun o=>match o with|.inr r=>some r|.inl ()=>some ((0,0,0,0))
def Tn:=re ⟨172,⟨[(0,.dat Yq2),(1,.nilp)],[]⟩,[⟨[(0,.agg [.dat Yq1,.dat Yq1,.dat Yq1,.dat Yq1])],[]⟩],fun x=>lT x⟩ func172 call172 (.jx [] ⟨[],[bkC 2 232 [.lit (.int .i64 0),.lit (.int .i64 0),.lit (.int .i64 0),.lit (.int .i64 0)]]⟩ [2] (.lp ⟨[kdI 27],[bkC 2 232 [.lit (.int .i64 0),.lit (.int .i64 0),.lit (.int .i64 0),.lit (.int .i64 0)]]⟩ (.tw 28 (.pl (.pl (.jx [] ⟨[],[bkC 2 232 [.lit (.int .i64 0),.lit (.int .i64 0),.lit (.int .i64 0),.lit (.int .i64 0)]]⟩ [2] (.lp ⟨[kdI 35],[bkC 2 232 [.lit (.int .i64 0),.lit (.int .i64 0),.lit (.int .i64 0),.lit (.int .i64 0)]]⟩ (.tw 36 (.cl c9 [] (.cl TV [] (.tw 49 .nil .nil))) .nil)) (.cl c9 [] (.cl Ur [] (.tw 62 .nil .nil)))))) .nil)) .nil)

def lG(xa:Tq1):Option cP :=
 (a8 1 1).bind fun _=>(lX xa).bind fun (i1,i2,i3,i4)=>cond (!decide (i1=0)) (some ((i1,i2,i3,i4))) ((lB xa).bind fun (i5,i6,i7,i8)=>cond (!decide (i5=0)) (some ((i5,i6,i7,i8))) ((lC xa).bind fun (i9,i10,i11,i12)=>cond (!decide (i9=0)) (some ((i9,i10,i11,i12))) ((mg xa).bind fun (i13,i14,i15,i16)=>cond (!decide (i13=0)) (some ((i13,i14,i15,i16))) ((lW xa).bind fun (i17,i18,i19,i20)=>cond (!decide (i17=0)) (some ((i17,i18,i19,i20))) ((lA xa).bind fun (i21,i22,i23,i24)=>cond (!decide (i21=0)) (some ((i21,i22,i23,i24))) ((lT xa).bind fun (i25,i26,i27,i28)=>cond (!decide (i25=0)) (some ((i25,i26,i27,i28))) (some ((0,0,0,0)))))))))
def Rx:=re ⟨159,⟨[(0,.dat Yq2),(1,.nilp)],[]⟩,[⟨[(0,.agg [.dat Yq1,.dat Yq1,.dat Yq1,.dat Yq1])],[]⟩],fun x=>lG x⟩ func159 call159 (.cl c9 [] (.un 64 (.cl R0 [] (.tw 24 .nil (.cl Tu [] (.tw 24 .nil (.cl Ub [] (.tw 24 .nil (.cl RU [] (.tw 24 .nil (.cl T4 [] (.tw 24 .nil (.cl TP [] (.tw 24 .nil (.cl Tn [] (.tw 24 .nil .nil))))))))))))))))

def uK(xa:Tq1):Option Bool :=
 (lG xa).bind fun (i15,i17,i18,i19)=>some (decide (i15=0))
def Ry:=re ⟨136,⟨[(0,.dat Yq2)],[]⟩,[⟨[kdB 0],[]⟩],fun x=>uK x⟩ func136 call136 (.cl Rx [] .nil)
def ma(xa:Tq1):(Int×(List Int)×Int)->Option ((Int×(List Int)×Int)⊕aS):=fun (i1,l2,i3)=>cond (decide (i1<(xa.2.2.2.2.2.2.length:Int))) ((aa xa.2.2.2.2.2.2 i1).bind fun x4=>(app l2 ([i3]:List Int)).bind fun z5=>some (.inl ((M0 .i64 (i1+1),z5,M0 .i64 (i3+(M0 .i64 ((x4.1.length:Int)+1))))))) (some (.inr (((l2,i3)))))
def ip(xa:Tq1):Option ((Option aS)) :=
 (uK xa).bind fun t1=>cond (!t1) (some ((some ([],0)))) ((loop (ma xa) (0,[],0)).bind fun (l2,i3)=>some ((some (l2,i3))))
def D8:=re ⟨97,⟨[(0,.dat Yq2)],[]⟩,[⟨[(0,.dat da)],[]⟩],fun x=>ip x⟩ func97 call97 (.cl Ry [] (.tw 10 (.perb 2 3 (.cons (.sl Yq1) (.one Yq1)) .nil) (.jn [] ⟨[],[bkC 2 218 [.own 3 Yq1,.dat Yq1]]⟩ [2,0] (.lp ⟨[kdI 15],[bkC 2 218 [.own 3 Yq1,.dat Yq1]]⟩ (.tw 16 (.mix [([0,1,2,3,4,5,6,7,8],9),([],10)] [11,12] [13] [4] (.mix [] [0,1,2,3,4,5,6,7,8,9,10] [11] [] .nil)) .nil)) (.per 4 5 (.perb 2 6 (.cons (.sl Yq1) (.one Yq1)) .nil)))))

def fL(xa:(Option aS)):Option Int :=
 cond (xa.isNone) (some (0)) (xa.bind fun y11=>some (y11.2))
def ta:=re ⟨98,⟨[(0,.dat da)],[]⟩,[⟨[kdI 0],[]⟩],fun x=>fL x⟩ func98 call98 (.tw 4 .nil .nil)

def ph(xa:Tq5):Option (dQ) :=
 (cond (decide (xa.1=1)) (some (decide (xa.1=1))) (cond (decide (xa.1=2)) (some (decide (xa.1=2))) (some (decide (xa.1=3)))):Option Bool).bind fun t37=>cond (t37) (some ((([xa.2.2.1]:List Int),([xa.2.1]:List Int)))) (cond (decide (xa.1=4)) (some ((([xa.2.2.1]:List Int),[]))) (cond (decide (xa.1=5)) (some (([],([xa.2.1]:List Int)))) (some (([],[])))))
def Vf:=re ⟨100,⟨[(0,.dat Yq7)],[]⟩,[⟨[(0,.agg [.own 3 Yq1,.own 3 Yq1])],[]⟩],fun x=>ph x⟩ func100 call100 (.pl (.pl (.pl (.sq [] ⟨[kdB 5],[]⟩ [] (.tw 5 .nil (.tw 5 .nil .nil)) (.tw 5 .nil (.tw 16 .nil (.tw 22 .nil .nil)))))))
def fn_touch_Touches_add_p0arr_nod_l1(l1:List Int):(Int×aO)->Option ((Int×aO)⊕aO):=fun (i2,l3)=>cond (decide (i2<(l1.length:Int))) ((aa l1 i2).bind fun x4=>(aa l3 x4).bind fun x5=>(aa l3 x4).bind fun _=>(az x4 x4).bind fun _=>(app x5.1 ([0]:List Int)).bind fun z6=>(aa l3 x4).bind fun _=>(az x4 x4).bind fun _=>some (.inl ((M0 .i64 (i2+1),l3.set x4.toNat (z6,x5.2))))) (some (.inr (l3)))
def kX(qa0:aO)(l1:List Int):(Int×aO)->Option ((Int×aO)⊕aO):=fun (i2,l3)=>cond (decide (i2<(l1.length:Int))) ((aa l1 i2).bind fun x4=>(aa l3 x4).bind fun x5=>(aa l3 x4).bind fun _=>(az x4 x4).bind fun _=>(app x5.1 (([(qa0.length:Int)]:List Int))).bind fun z6=>(aa l3 x4).bind fun _=>(az x4 x4).bind fun _=>some (.inl ((M0 .i64 (i2+1),l3.set x4.toNat (z6,x5.2))))) (some (.inr (l3)))
def kY(qxb_1:(List Int))(qa0:aO):(Int×aO)->Option ((Int×aO)⊕aO):=fun (i1,l2)=>cond (decide (i1<(qxb_1.length:Int))) ((aa qxb_1 i1).bind fun x3=>(aa l2 x3).bind fun x4=>(aa l2 x3).bind fun _=>(az x3 x3).bind fun _=>(app x4.2 (([(qa0.length:Int)]:List Int))).bind fun z5=>(aa l2 x3).bind fun _=>(az x3 x3).bind fun _=>some (.inl ((M0 .i64 (i1+1),l2.set x3.toNat (x4.1,z5))))) (some (.inr (l2)))
def iY(qxb_0:(List Int))(qxb_1:(List Int))(qa0:aO)(qa1:aO):Option ((aO×aO)) :=
 (srt qxb_0).bind fun l2=>(eM l2).bind fun l3=>(app qa0 (([(l3,qxb_1)]:List dQ))).bind fun z4=>(loop (kX qa0 l3) (0,qa1)).bind fun l5=>(loop (kY qxb_1 qa0) (0,l5)).bind fun l6=>some ((z4,l6))
def Em:=re ⟨99,⟨[(0,.ptr 0 0),(1,.agg [.own 3 Yq1,.own 3 Yq1])],[bkN 171 [.own 178 Yq8,.od (.row 187 (.cons (.row 3 (.dat Yq1)) (.one (.row 3 (.dat Yq1)))))]]⟩,[⟨[],[bkC 0 171 [.own 178 Yq8,.od (.row 187 (.cons (.row 3 (.dat Yq1)) (.one (.row 3 (.dat Yq1)))))]]⟩],fun x=>iY x.1 x.2.1 x.2.2.1 x.2.2.2⟩ func99 call99 (.cl iE [] (.cl mO [] (.per 16 17 (.per 3 4 (.mix [([0,1,2,3,4,5],6),([],7)] [8,9] [10] [5] (.jn [] ⟨[],[bkO 7 (.row 187 (.cons (.row 3 (.dat Yq1)) (.one (.row 3 (.dat Yq1)))))]⟩ [7] (.lp ⟨[kdI 34],[bkO 7 (.row 187 (.cons (.row 3 (.dat Yq1)) (.one (.row 3 (.dat Yq1)))))]⟩ (.tw 35 (.opp [9] 7 47 (.mix [([0,1,2,3,4,5,6,7,8,9,10,11,12,13],14),([],15)] [16,17] [18] [26] (.cls 7 34 .nil))) .nil)) (.jn [] ⟨[],[bkO 7 (.row 187 (.cons (.row 3 (.dat Yq1)) (.one (.row 3 (.dat Yq1)))))]⟩ [10,7] (.lp ⟨[kdI 60],[bkO 7 (.row 187 (.cons (.row 3 (.dat Yq1)) (.one (.row 3 (.dat Yq1)))))]⟩ (.tw 61 (.opp [9] 7 73 (.mix [([0,1,2,3,4,5,6,7,8,9,10,11,12,13],14),([],15)] [16,17] [18] [29] (.cls 7 35 .nil))) .nil)) .nil)))))))

def px(xa:cC):Option (dQ) :=
 cond (decide (xa.1=2)) ((bz xa.2.2.2.2.1).bind fun l1=>some ((l1,[]))) (cond (decide (xa.1=4)) ((((bz xa.2.2.2.2.1).bind fun l2=>some ((l2,([xa.2.2.1]:List Int)))).bind fun x3=>((bz xa.2.2.2.2.1).bind fun l4=>some ((l4,([xa.2.2.1]:List Int)))).bind fun y5=>agr x3 y5 (some x3):Option (dQ)).bind fun (l6,l7)=>some ((l6,l7))) (cond (decide (xa.1=3)) (some ((([0]:List Int),[]))) (some (([],[])))))
def Um:=re ⟨101,⟨[(0,.dat gQ)],[]⟩,[⟨[(0,.agg [.own 3 Yq1,.own 3 Yq1])],[]⟩],fun x=>px x⟩ func101 call101 (.tw 5 (.cl oQ5 [] .nil) (.tw 11 (.tr (.still [0,1,3,4] (.alt 2 (.alt 5 (.still [6] (.alt 7 (.leaf []) .done)) .done) (.alt 5 (.alt 2 (.still [6] (.alt 7 (.leaf []) .done)) .done) .done))) ⟨[],[bkC 2 178 [.own 3 Yq1,.own 3 Yq1]]⟩ [2] (.two 0 (.cl oQ5 [] .nil) (.cl oQ5 [] .nil)) .nil) (.tw 20 .nil .nil)))
def me(x1:((List Tq5)×cC)):(Int×aO×aO)->Option ((Int×aO×aO)⊕(aO×aO)):=fun (i2,l3,l4)=>cond (decide (i2<(x1.1.length:Int))) ((aa x1.1 i2).bind fun x5=>(ph (x5.1,x5.2.1,x5.2.2.1,x5.2.2.2.1,x5.2.2.2.2)).bind fun (l6,l7)=>(iY l6 l7 l3 l4).bind fun (l8,l9)=>some (.inl ((M0 .i64 (i2+1),l8,l9)))) (some (.inr (((l3,l4)))))
def mh(xa:Tq1):(Int×aO×aO)->Option ((Int×aO×aO)⊕(aO×aO)):=fun (i1,l2,l3)=>cond (decide (i1<(xa.2.2.2.2.2.2.length:Int))) ((aa xa.2.2.2.2.2.2 i1).bind fun x4=>(loop (me x4) (0,l2,l3)).bind fun (l5,l6)=>(px (x4.2.1,x4.2.2.1,x4.2.2.2.1,x4.2.2.2.2.1,x4.2.2.2.2.2.1,x4.2.2.2.2.2.2)).bind fun (l7,l8)=>(iY l7 l8 l5 l6).bind fun (l9,l10)=>some (.inl ((M0 .i64 (i1+1),l9,l10)))) (some (.inr (((l2,l3)))))
def mG(xa:Tq1):Option ((Option (aO×aO))) :=
 (ip xa).bind fun p1=>(fL p1).bind fun i2=>cond (decide (i2=0)) (some ((some ([],[])))) ((mk (xa.2.2.2.1.length:Int) (xa.2.2.2.1.length:Int) ([],[]):Option aO).bind fun z3=>(loop (mh xa) (0,[],z3)).bind fun (l4,l5)=>some ((some (l4,l5))))
def Ri:=re ⟨65,⟨[(0,.dat Yq2)],[]⟩,[⟨[(0,.dat (.ptr (.cons (.sl Yq8) (.one (.sl Yq8)))))],[]⟩],fun x=>mG x⟩ func65 call65 (.cl D8 [] (.cl ta [] (.tw 13 (.perb 2 3 (.cons (.sl Yq8) (.one (.sl Yq8))) .nil) (.ot (.cons (.row 3 (.dat Yq1)) (.one (.row 3 (.dat Yq1)))) (.jn [] ⟨[],[bkC 2 171 [.own 178 Yq8,.od (.row 187 (.cons (.row 3 (.dat Yq1)) (.one (.row 3 (.dat Yq1)))))]]⟩ [2,4,0] (.lp ⟨[kdI 25],[bkC 2 171 [.own 178 Yq8,.od (.row 187 (.cons (.row 3 (.dat Yq1)) (.one (.row 3 (.dat Yq1)))))]]⟩ (.tw 26 (.pl (.pl (.jn [] ⟨[],[bkC 2 171 [.own 178 Yq8,.od (.row 187 (.cons (.row 3 (.dat Yq1)) (.one (.row 3 (.dat Yq1)))))]]⟩ [2,7,9] (.lp ⟨[kdI 32],[bkC 2 171 [.own 178 Yq8,.od (.row 187 (.cons (.row 3 (.dat Yq1)) (.one (.row 3 (.dat Yq1)))))]]⟩ (.tw 33 (.cl Vf [] (.cl Em [] .nil)) .nil)) (.cl Um [] (.cl Em [] .nil))))) .nil)) (.per 7 8 (.per 9 10 (.perb 2 11 (.cons (.sl Yq8) (.one (.sl Yq8))) .nil))))))))

def tU(xa:(Option (aO×aO))):Option Int :=
 cond (xa.isNone) (some (0)) (xa.bind fun y14=>some (y14.1.length:Int))
def Uj:=re ⟨66,⟨[(0,.dat (.ptr (.cons (.sl Yq8) (.one (.sl Yq8)))))],[]⟩,[⟨[kdI 0],[]⟩],fun x=>tU x⟩ func66 call66 (.tw 4 .nil .nil)

def oo(xa:(Option aS)):Option (List Int) :=
 cond (xa.isNone) (some ([])) (xa.bind fun y29=>(bz y29.1).bind fun l41=>some (l41))
def RP:=re ⟨103,⟨[(0,.dat da)],[]⟩,[⟨[(0,.own 3 Yq1)],[]⟩],fun x=>oo x⟩ func103 call103 (.tw 4 .nil (.cl oQ5 [] .nil))

def tL(xa:Int)(qa0:(Option aS))(qb0:Int):Option Bool :=
 qa0.bind fun y1=>(aa y1.1 xa).bind fun x2=>some (decide (qb0<x2))
def T7:=re ⟨140,⟨[kdI 0,(1,.ptr 0 0),(2,.ptr 1 0)],[bkN 172 [.is 2 (.dat da)],bkN 3 [.is 3 (.dat Yq1)],bkM,bkM]⟩,[⟨[kdB 0],[bkC 0 172 [.is 2 (.any)],bkC 1 3 [.is 3 (.any)],bkU 2,bkU 3]⟩],fun x=>tL x.1 x.2.1 x.2.2⟩ func140 call140 (.mix [] [0,1,2,3,4,5,6,7,8,9] [] [] .nil)
def tv(qa0:(Option aS))(qb0:Int):bf->Option (bf⊕Int):=fun (i1,i2)=>cond (decide (i1<i2)) ((tL (M0 .i64 (X8 (M0 .u64 (M0 .i64 (i1+i2))) (2 ^ (min (Z5 1) (O0 .u64))))) qa0 qb0).bind fun t3=>cond (!t3) (some (.inl ((M0 .i64 ((M0 .i64 (X8 (M0 .u64 (M0 .i64 (i1+i2))) (2 ^ (min (Z5 1) (O0 .u64)))))+1),i2)))) (some (.inl ((i1,M0 .i64 (X8 (M0 .u64 (M0 .i64 (i1+i2))) (2 ^ (min (Z5 1) (O0 .u64))))))))) (some (.inr (i1)))
def nR(xa:Int)(qa0:(Option aS))(qb0:Int):Option Int :=
 (loop (tv qa0 qb0) (0,xa)).bind fun i97=>some (i97)
def UO:=re ⟨139,⟨[kdI 0,(1,.fn 140 [.ptr 0 0,.ptr 1 0])],[bkN 172 [.is 2 (.dat da)],bkN 3 [.is 3 (.dat Yq1)],bkM,bkM]⟩,[⟨[kdI 0],[bkC 0 172 [.is 2 (.any)],bkC 1 3 [.is 3 (.any)],bkU 2,bkU 3]⟩],fun x=>nR x.1 x.2.1 x.2.2⟩ func139 call139 (.jn [] ⟨[kdI 5],[bkC 0 172 [.is 2 (.any)],bkC 1 3 [.is 3 (.any)],bkU 2,bkU 3]⟩ [0,1] (.lp ⟨[kdI 5,kdI 6],[bkC 0 172 [.is 2 (.any)],bkC 1 3 [.is 3 (.any)],bkU 2,bkU 3]⟩ (.tw 11 (.cl T7 [] (.tw 21 .nil .nil)) .nil)) .nil)

def lx(xa:(Option aS))(xb:Int):Option (Int×Int×Bool) :=
 cond (decide (xb<0)) (some ((0,0,false))) ((fL xa).bind fun i1=>cond (decide (i1<=xb)) (some ((0,0,false))) (xa.bind fun y2=>(nR (y2.1.length:Int) (some y2) xb).bind fun i3=>(aa y2.1 (M0 .i64 (i3-1))).bind fun x4=>some ((M0 .i64 (i3-1),M0 .i64 (xb-x4),true))))
def D9:=re ⟨104,⟨[(0,.dat da),kdI 1],[]⟩,[⟨[(0,.tup [.dat Yq1,.dat Yq1,.dat .bool])],[]⟩],fun x=>lx x.1 x.2⟩ func104 call104 (.mix [([0,1,2,3,4],5)] [6,7] [] [] (.two 10 .nil (.cl ta [] (.tw 15 .nil (.wt 1000004 (.mc 0 0 1 (.mc 2 0 3 (.cl UO [] (.mix [] [0,1,2,3,4,5,6,7,8,9,10,11,12] [] [] .nil)))))))))

def oG(xa:(Option aS))(xb:Int):Option Int :=
 xa.bind fun y26=>cond (decide ((M0 .i64 (xb+1))<(y26.1.length:Int))) ((aa y26.1 (M0 .i64 (xb+1))).bind fun x41=>some (x41)) (some (y26.2))
def UU:=re ⟨141,⟨[(0,.dat da),kdI 1],[]⟩,[⟨[kdI 0],[]⟩],fun x=>oG x.1 x.2⟩ func141 call141 (.ms 0 (.tw 12 .nil .nil))

def oy(xa:(Option aS))(xb:Int):Option Bool :=
 (lx xa xb).bind fun (i27,i28,t29)=>(cond (t29) ((oG xa i27).bind fun i44=>some (decide ((M0 .i64 (xb+1))=i44))) (some (false))).bind fun t40=>some (t40)
def R6:=re ⟨105,⟨[(0,.dat da),kdI 1],[]⟩,[⟨[kdB 0],[]⟩],fun x=>oy x.1 x.2⟩ func105 call105 (.cl D9 [] (.gj 6 ⟨[kdB 23],[]⟩ [] (.two 16 (.cl UU [] .nil) .nil) .nil))
def pd(xa:cC)(xb:(List Int)):aS->Option (aS⊕(List Int)):=fun (l1,i2)=>cond (decide (i2<(xa.2.2.2.1.length:Int))) ((aa xa.2.2.2.1 i2).bind fun x3=>(aa xb x3).bind fun x4=>(app l1 ([x4]:List Int)).bind fun z5=>some (.inl ((z5,M0 .i64 (i2+1))))) (some (.inr (l1)))
def mC(xa:cC)(xb:(List Int)):Option (List Int) :=
 (loop (pd xa xb) ([],0)).bind fun l1=>(srt l1).bind fun l2=>(eM l2).bind fun l3=>some (l3)
def R8:=re ⟨106,⟨[(0,.dat gQ),(1,.dat (.sl Yq1))],[]⟩,[⟨[(0,.own 3 Yq1)],[]⟩],fun x=>mC x.1 x.2⟩ func106 call106 (.jn [] ⟨[(5,.own 3 Yq1)],[]⟩ [0] (.lp ⟨[(5,.own 3 Yq1),kdI 11],[]⟩ (.tw 12 .nil .nil)) (.cl iE [] (.cl mO [] .nil)))
def pI(i1:Int)(l2:(List Int)):(Tq6×Int)->Option ((Tq6×Int)⊕Tq6):=fun (l3,i4)=>cond (decide (i4<(l2.length:Int))) ((aa l2 i4).bind fun x5=>(app l3 (([(i1,x5)]:List bf))).bind fun z6=>some (.inl ((z6,M0 .i64 (i4+1))))) (some (.inr (l3)))
def ml(xa:Tq1)(p1:(Option aS))(l2:(List Int))(i3:Int):(Tq6×Int)->Option ((Tq6×Int)⊕Tq6):=fun (l4,i5)=>cond (decide (i5<i3)) ((lx p1 i5).bind fun (i6,i7,t8)=>((oy p1 i5).bind fun t9=>cond (t9) ((aa xa.2.2.2.2.2.2 i6).bind fun x10=>(mC (x10.2.1,x10.2.2.1,x10.2.2.2.1,x10.2.2.2.2.1,x10.2.2.2.2.2.1,x10.2.2.2.2.2.2) l2).bind fun l11=>some (l11)) (some (([M0 .i64 (i5+1)]:List Int))):Option (List Int)).bind fun l12=>(loop (pI i5 l12) (l4,0)).bind fun l13=>some (.inl ((l13,M0 .i64 (i5+1))))) (some (.inr (l4)))
def mJ(xa:Tq1):Option ((Option ((Option aS)×aZ))) :=
 (ip xa).bind fun p1=>(oo p1).bind fun l2=>(fL p1).bind fun i3=>(loop (ml xa p1 l2 i3) ([],0)).bind fun l4=>(fL p1).bind fun i5=>(aV i5 l4).bind fun (p6,i7)=>some ((some (p1,p6)))
def RX:=re ⟨68,⟨[(0,.dat Yq2)],[]⟩,[⟨[(0,.dat (.ptr (.cons da (.one (.ptr Yq3)))))],[]⟩],fun x=>mJ x⟩ func68 call68 (.cl D8 [] (.cl RP [] (.cl ta [] (.per 2 3 (.jn [] ⟨[(5,.own 82 Yq5)],[]⟩ [] (.lp ⟨[(5,.own 82 Yq5),kdI 21],[]⟩ (.tw 22 (.cl D9 [] (.pl (.sq [] ⟨[(10,.own 3 Yq1)],[]⟩ [6] (.cl R6 [] (.tw 36 (.cl R8 [] .nil) .nil)) (.jn [] ⟨[(5,.own 82 Yq5)],[]⟩ [4] (.lp ⟨[(5,.own 82 Yq5),kdI 47],[]⟩ (.tw 48 .nil .nil)) .nil)))) .nil)) (.cl ta [] (.per 4 5 (.cl oQ9 [] (.perb 6 7 (.cons da (.one (.ptr Yq3))) .nil)))))))))

def tY(xa:(Option ((Option aS)×aZ))):Option (aZ) :=
 cond (xa.isNone) (some (none)) (xa.bind fun y15=>some (y15.2))
def RH:=re ⟨137,⟨[(0,.dat (.ptr (.cons da (.one (.ptr Yq3)))))],[]⟩,[⟨[(0,.dat (.ptr Yq3))],[]⟩],fun x=>tY x⟩ func137 call137 (.tw 4 .nil .nil)

def oD(xa:aZ):Option Int :=
 cond (xa.isNone) (some (0)) (xa.bind fun y14=>some (y14.2.1.length:Int))
def Ep:=re ⟨42,⟨[(0,.dat (.ptr Yq3))],[]⟩,[⟨[kdI 0],[]⟩],fun x=>oD x⟩ func42 call42 (.tw 4 .nil .nil)

def lD(xa:aZ)(xb:Int):Option (Int×Int×Bool) :=
 (cond (decide (xb<0)) (some (true)) ((oD xa).bind fun i52=>some (decide (i52<=xb)))).bind fun t48=>cond (t48) (some ((0,0,false))) (xa.bind fun y57=>(aa y57.2.1 xb).bind fun x67=>some ((x67.1,x67.2,true)))
def TN:=re ⟨138,⟨[(0,.dat (.ptr Yq3)),kdI 1],[]⟩,[⟨[(0,.tup [.agg [.dat Yq1,.dat Yq1],.dat .bool])],[]⟩],fun x=>lD x.1 x.2⟩ func138 call138 (.gj 4 ⟨[kdB 13],[]⟩ [] (.two 8 .nil (.cl Ep [] .nil)) (.tw 13 .nil .nil))
def oz(xa:(Option ((Option aS)×aZ)))(l1:(List Int)):aS->Option (aS⊕(List Int)):=fun (l2,i3)=>cond (decide (i3<(l1.length:Int))) ((aa l2 i3).bind fun x4=>xa.bind fun y5=>(lD y5.2 x4).bind fun (i6,i7,t8)=>(aa l2 i3).bind fun x9=>(some (l2.set i3.toNat i6)).bind fun z10=>some (.inl ((z10,M0 .i64 (i3+1))))) (some (.inr (l2)))
def oQ(xa:(Option ((Option aS)×aZ)))(xb:Int):Option (List Int) :=
 (tY xa).bind fun p1=>(lN p1 xb).bind fun l2=>(loop (oz xa l2) (l2,0)).bind fun l3=>some (l3)
def Ti:=re ⟨102,⟨[(0,.dat (.ptr (.cons da (.one (.ptr Yq3))))),kdI 1],[]⟩,[⟨[(0,.own 3 Yq1)],[]⟩],fun x=>oQ x.1 x.2⟩ func102 call102 (.cl RH [] (.cl D0 [] (.jn [] ⟨[(5,.own 3 Yq1),(13,.any),(14,.any)],[]⟩ [0] (.lp ⟨[(5,.own 3 Yq1),(14,.al 0),kdI 16],[]⟩ (.tw 17 (.cl TN [] .nil) .nil)) .nil)))
def pa(xa:(Option ((Option aS)×aZ)))(z1:List (List Int)):(Tq7×Int)->Option ((Tq7×Int)⊕Tq7):=fun (l2,i3)=>cond (decide (i3<(z1.length:Int))) ((oQ xa i3).bind fun l4=>(aa l2 i3).bind fun x5=>(some (l2.set i3.toNat l4)).bind fun z6=>some (.inl ((z6,M0 .i64 (i3+1))))) (some (.inr (l2)))
def pO(xa:(Option ((Option aS)×aZ)))(xb:Int):Option (Tq7) :=
 (mk xb xb ([]):Option Tq7).bind fun z1=>(loop (pa xa z1) (z1,0)).bind fun l2=>some (l2)
def Us:=re ⟨67,⟨[(0,.dat (.ptr (.cons da (.one (.ptr Yq3))))),kdI 1],[]⟩,[⟨[(0,.own 40 (.sl Yq1))],[]⟩],fun x=>pO x.1 x.2⟩ func67 call67 (.jn [] ⟨[(5,.own 40 (.sl Yq1)),(8,.any),(9,.any)],[]⟩ [0] (.lp ⟨[(5,.own 40 (.sl Yq1)),kdI 11],[]⟩ (.tw 12 (.cl Ti [] (.per 4 5 .nil)) .nil)) .nil)

def oC(xa:(Option (aO×aO)))(xb:Int):Option (dQ) :=
 (cond (xa.isNone||(decide (xb<0))) (some (true)) (xa.bind fun y1=>some (decide ((y1.2.length:Int)<=xb)))).bind fun t2=>cond (t2) (some (([],[]))) (xa.bind fun y3=>(aa y3.2 xb).bind fun x4=>(bz x4.1).bind fun l5=>(bz x4.2).bind fun l6=>some ((l5,l6)))
def Q8:=re ⟨69,⟨[(0,.dat (.ptr (.cons (.sl Yq8) (.one (.sl Yq8))))),kdI 1],[]⟩,[⟨[(0,.tup [.own 3 Yq1,.own 3 Yq1])],[]⟩],fun x=>oC x.1 x.2⟩ func69 call69 (.gp 2 (.wt 13 (.gj 7 ⟨[kdB 21],[]⟩ [] (.two 13 .nil .nil) (.tw 21 .nil (.mix [([0,1,3,4],2)] [] [5,6,7] [] (.cl oQ5 [] (.cl oQ5 [] .nil)))))))

def fX(xa:Int):Option ((Int⊕(Int×Int×(List Int)))) :=
 cond (decide (xa<0)) (some (.inl 2)) (cond (decide (1048576<xa)) (some (.inl 5)) ((mk (M0 .i64 (bc0 (M0 .i64 ((M0 .i64 (xa+64))-1)) 64)) (M0 .i64 (bc0 (M0 .i64 ((M0 .i64 (xa+64))-1)) 64)) 0:Option (List Int)).bind fun z20=>some (.inr (0,xa,z20))))
def sL:=re ⟨89,⟨[kdI 0],[]⟩,[⟨[(0,.tup [.nilp,.dat Yq1])],[]⟩,⟨[(0,.tup [.ptr 0 0,.dat Yq1])],[bkN 162 [.dat Yq1,.own 163 Yq9]]⟩],fun x=>fX x⟩ func89 call89 (.tw 5 .nil (.tw 7 .nil (.pl (.pl .nil))))

def oP(xa:aE):Option Int :=
 cond (xa.isNone) (some (0)) (xa.bind fun y11=>some (y11.1))
def TZ:=re ⟨147,⟨[(0,.dat Yq6)],[]⟩,[⟨[kdI 0],[]⟩],fun x=>oP x⟩ func147 call147 (.tw 4 .nil .nil)

def fI(xa:aE)(xb:Int):Option Bool :=
 (cond (decide (0<=xb)) ((oP xa).bind fun i28=>some (decide (xb<i28))) (some (false))).bind fun t24=>some (t24)
def sP:=re ⟨113,⟨[(0,.dat Yq6),kdI 1],[]⟩,[⟨[kdB 0],[]⟩],fun x=>fI x.1 x.2⟩ func113 call113 (.gj 4 ⟨[kdB 12],[]⟩ [] (.two 7 (.cl TZ [] .nil) .nil) .nil)

def cE(xa:aE)(xb:Int):Option Bool :=
 (fI xa xb).bind fun t1=>cond (t1) (xa.bind fun y2=>(aa y2.2 (M0 .i64 (bc0 xb 64))).bind fun x3=>(ge0 (bK0 xb 64)).bind fun u4=>some (!decide ((M0 .u64 ((X0 (O0 .u64) x3 &&& X0 (O0 .u64) (M0 .u64 (1*2 ^ (min (Z5 (bK0 xb 64)) (O0 .u64))))).toNat:Int))=0))) (some (false))
def kQ:=re ⟨110,⟨[(0,.dat Yq6),kdI 1],[]⟩,[⟨[kdB 0],[]⟩],fun x=>cE x.1 x.2⟩ func110 call110 (.mix [([0,1],2)] [3,4,5,6,7,8,9,10,11,12,13,14,15,16,17,18] [] [] (.cl sP [] (.two 8 .nil .nil)))

def ic(xb:Int):Option Bool :=
 (fI ((none:aE)) xb).bind fun t26=>(cond (!t26) (some (true)) ((cE ((none:aE)) xb).bind fun t41=>some (t41))).bind fun t37=>cond (t37) (some (false)) (none)
def kL:=re ⟨74,⟨[(0,.nilp),kdI 1],[]⟩,[⟨[kdB 0],[]⟩],fun x=>ic x⟩ func74 call74 (.cl sP [] (.gj 3 ⟨[kdB 13],[]⟩ [] (.two 9 .nil (.cl kQ [] .nil)) (.tw 13 .nil (.mix [] [0,1,2,3,4,5,6,7,8,9,10,11,12] [13] [] .nil))))

def nX(qa0:(List Int))(qa1:Int)(qa2:Int)(qa3:(Option Tq6)):Option (((List Int)×(Option Tq6))) :=
 (mk (M0 .i64 ((M0 .i64 (2*(qa0.length:Int)))+1)) (M0 .i64 ((M0 .i64 (2*(qa0.length:Int)))+1)) 0:Option (List Int)).bind fun z31=>(subL qa0 qa1 (qa0.length:Int)).bind fun _=>(some (cpy z31 ((0:Int).toNat) ((cu0 (qa1:Int).toNat (cF0 ((qa0.length:Int):Int).toNat qa0)).take (z31.length-(0:Int).toNat)))).bind fun z38=>(subL z38 (((min (cu0 (qa1:Int).toNat (cF0 ((qa0.length:Int):Int).toNat qa0)).length (z31.length-(0:Int).toNat):Nat):Int)) (z31.length:Int)).bind fun _=>(subL qa0 0 qa1).bind fun _=>(some (cpy z38 ((((min (cu0 (qa1:Int).toNat (cF0 ((qa0.length:Int):Int).toNat qa0)).length (z31.length-(0:Int).toNat):Nat):Int):Int).toNat) ((cu0 (0:Int).toNat (cF0 (qa1:Int).toNat qa0)).take ((((z31.length:Int):Int).toNat)-(((min (cu0 (qa1:Int).toNat (cF0 ((qa0.length:Int):Int).toNat qa0)).length (z31.length-(0:Int).toNat):Nat):Int):Int).toNat)))).bind fun z42=>some ((z42,qa3))
def T1:=re ⟨161,⟨[(0,.ptr 0 0)],[bkN 192 [.own 3 Yq1,.dat Yq1,.is 1 (.dat Yq1),.od (.obj 0 (.sl Yq5))],bkM]⟩,[⟨[],[bkC 0 192 [.own 3 Yq1,.lit (.int .i64 0),.is 1 (.any),.od (.obj 0 (.sl Yq5))],bkU 1]⟩],fun x=>nX x.1 x.2.1 x.2.2.1 x.2.2.2⟩ func161 call161 (.mix [] [0,1,2,3,4,5,6,7,8,9] [10,11] [] (.mix [] [0,1,2,3,4,5,6,7,8,9,10,11] [12] [] .nil))
def iW(xb:(List Int)):eR->Option (eR⊕eI):=fun (i1,l2,i3,i4,l5)=>cond (decide (i1<(xb.length:Int))) ((aa xb i1).bind fun x6=>(cond (decide (i4=(l2.length:Int))) ((nX l2 i3 i4 l5).bind fun (l7,l8)=>some ((l7,0,l8))) (some ((l2,i3,l5))):Option (((List Int)×Int×(Option Tq6)))).bind fun (l9,i10,l11)=>(nz (l9.length:Int)).bind fun u12=>(aa l9 (bK0 (M0 .i64 (i10+i4)) (l9.length:Int))).bind fun x13=>(some (l9.set (bK0 (M0 .i64 (i10+i4)) (l9.length:Int)).toNat x6)).bind fun z14=>some (.inl ((M0 .i64 (i1+1),z14,i10,M0 .i64 (i4+1),l11)))) (some (.inr (((l2,i3,i4,l5)))))
def nV(xb:(List Int))(qa0:(List Int))(qa1:Int)(qa2:Int)(qa3:(Option Tq6)):Option (eI) :=
 (loop (iW xb) (0,qa0,qa1,qa2,qa3)).bind fun (l4,i5,i6,l7)=>some ((l4,i5,i6,l7))
def Ve:=re ⟨143,⟨[(0,.ptr 0 0),(1,.dat (.sl Yq1))],[bkN 192 [.own 3 Yq1,.dat Yq1,.dat Yq1,.od (.obj 0 (.sl Yq5))]]⟩,[⟨[],[bkC 0 192 [.own 3 Yq1,.dat Yq1,.dat Yq1,.od (.obj 0 (.sl Yq5))]]⟩],fun x=>nV x.1 x.2.1 x.2.2.1 x.2.2.2.1 x.2.2.2.2⟩ func143 call143 (.jn [] ⟨[],[bkC 0 192 [.own 3 Yq1,.dat Yq1,.dat Yq1,.od (.obj 0 (.sl Yq5))]]⟩ [1,0,3] (.lp ⟨[kdI 10],[bkC 0 192 [.own 3 Yq1,.dat Yq1,.dat Yq1,.od (.obj 0 (.sl Yq5))]]⟩ (.tw 11 (.pl (.pl (.sq [(0,2)] ⟨[],[bkC 0 192 [.own 3 Yq1,.dat Yq1,.is 1 (.any),.od (.obj 0 (.sl Yq5))],bkU 11]⟩ [0,6,8] (.mix [] [0,1,2,3,4,5,6,7,8,9] [] [] (.tw 23 (.cl T1 [] .nil) .nil)) (.mix [] [0,1,2,3,4,5,6,7,8,9,10,11,12,13,14,15,16,17,18,19,20] [21] [] .nil)))) .nil)) .nil)

def db(xb:Int)(qa0:(List Int))(qa1:Int)(qa2:Int)(qa3:(Option Tq6)):Option ((Bool×(List Int)×Int×Int×(Option Tq6))) :=
 (u9 xb qa0 qa1 qa2 qa3).bind fun r69=>cond (!r69.1) (some ((false,r69.2.1,r69.2.2.1,r69.2.2.2.1,r69.2.2.2.2))) ((nV ([xb]:List Int) r69.2.1 r69.2.2.1 r69.2.2.2.1 r69.2.2.2.2).bind fun (l4,i5,i6,l7)=>some ((true,l4,i5,i6,l7)))
def gT:=re ⟨107,⟨[(0,.ptr 0 0),kdI 1],[bkN 192 [.own 3 Yq1,.dat Yq1,.dat Yq1,.od (.obj 0 (.sl Yq5))]]⟩,[⟨[kdB 0],[bkC 0 192 [.own 3 Yq1,.dat Yq1,.dat Yq1,.od (.obj 0 (.sl Yq5))]]⟩],fun x=>db x.1 x.2.1 x.2.2.1 x.2.2.2.1 x.2.2.2.2⟩ func107 call107 (.cl FY [] (.tw 12 .nil (.cl Ve [16] .nil)))

def kZ(qa0:(List Int))(qa1:Int)(qa2:Int)(qa3:(Option Tq6)):Option ((Int×(List Int)×(Option Tq6))) :=
 some ((qa2,qa0,qa3))
def Dp:=re ⟨144,⟨[(0,.ptr 0 0)],[bkN 192 [.own 3 Yq1,.is 1 (.dat Yq1),.is 2 (.dat Yq1),.od (.obj 0 (.sl Yq5))],bkM,bkM]⟩,[⟨[kdI 0],[bkC 0 192 [.own 3 Yq1,.is 1 (.any),.is 2 (.any),.od (.obj 0 (.sl Yq5))],bkU 1,bkU 2]⟩],fun x=>kZ x.1 x.2.1 x.2.2.1 x.2.2.2⟩ func144 call144 .nil

def gX(qa0:(List Int))(qa1:Int)(qa2:Int)(qa3:(Option Tq6)):Option ((Int×(List Int)×(Option Tq6))) :=
 (kZ qa0 qa1 qa2 qa3).bind fun (i53,l54,l55)=>some ((i53,l54,l55))
def rZ:=re ⟨108,⟨[(0,.ptr 0 0)],[bkN 192 [.own 3 Yq1,.is 1 (.dat Yq1),.is 2 (.dat Yq1),.od (.obj 0 (.sl Yq5))],bkM,bkM]⟩,[⟨[kdI 0],[bkC 0 192 [.own 3 Yq1,.is 1 (.any),.is 2 (.any),.od (.obj 0 (.sl Yq5))],bkU 1,bkU 2]⟩],fun x=>gX x.1 x.2.1 x.2.2.1 x.2.2.2⟩ func108 call108 (.cl Dp [] .nil)

def n4(qa0:(List Int))(qa1:Int)(qa2:Int)(qa3:(Option Tq6)):Option ((Int×Bool×(List Int)×Int×Int×(Option Tq6))) :=
 (kZ qa0 qa1 qa2 qa3).bind fun (i4,l5,l6)=>cond (decide (i4=0)) (some ((0,false,l5,qa1,qa2,l6))) ((aa l5 qa1).bind fun x7=>(aa l5 qa1).bind fun x8=>(some (l5.set qa1.toNat 0)).bind fun z9=>(nz (l5.length:Int)).bind fun u10=>some ((x7,true,z9,bK0 (M0 .i64 (qa1+1)) (l5.length:Int),M0 .i64 (qa2-1),l6)))
def QB:=re ⟨145,⟨[(0,.ptr 0 0)],[bkN 192 [.own 3 Yq1,.dat Yq1,.dat Yq1,.od (.obj 0 (.sl Yq5))]]⟩,[⟨[(0,.tup [.dat Yq1,.dat .bool])],[bkC 0 192 [.own 3 Yq1,.dat Yq1,.dat Yq1,.od (.obj 0 (.sl Yq5))]]⟩],fun x=>n4 x.1 x.2.1 x.2.2.1 x.2.2.2⟩ func145 call145 (.mc 0 1 5 (.mc 0 2 5 (.cl Dp [] (.tw 8 .nil (.mix [] [0,1,2,3,4,5,6,7,8,9,10] [] [] (.mix [] [0,1,2,3,4,5,6,7,8,9] [10] [] (.mix [] [0,1,2,3,4,5,6,7,8,9,10,11,12,13] [14] [] .nil)))))))

def gV(qa0:(List Int))(qa1:Int)(qa2:Int)(qa3:(Option Tq6)):Option ((Int×Bool×(List Int)×Int×Int×(Option Tq6))) :=
 (n4 qa0 qa1 qa2 qa3).bind fun (i76,t77,l78,i79,i80,l81)=>cond (t77) ((zi i76 l78 i79 i80 l81).bind fun r97=>some ((i76,t77,r97.1,r97.2.1,r97.2.2.1,r97.2.2.2))) (some ((i76,t77,l78,i79,i80,l81)))
def rX:=re ⟨109,⟨[(0,.ptr 0 0)],[bkN 192 [.own 3 Yq1,.dat Yq1,.dat Yq1,.od (.obj 0 (.sl Yq5))]]⟩,[⟨[(0,.tup [.dat Yq1,.dat .bool])],[bkC 0 192 [.own 3 Yq1,.dat Yq1,.dat Yq1,.od (.obj 0 (.sl Yq5))]]⟩],fun x=>gV x.1 x.2.1 x.2.2.1 x.2.2.2⟩ func109 call109 (.cl QB [] (.tw 17 (.cl Fu [] .nil) .nil))

def dx(xb:Int)(qa0:Int)(qa1:(List Int)):Option ((Bool×(List Int))) :=
 (fI (some (qa0,qa1)) xb).bind fun t2=>(cond (!t2) (some (true)) ((cE (some (qa0,qa1)) xb).bind fun t3=>some (t3))).bind fun t4=>cond (t4) (some ((false,qa1))) ((aa qa1 (M0 .i64 (bc0 xb 64))).bind fun x5=>(ge0 (bK0 xb 64)).bind fun u6=>(aa qa1 (M0 .i64 (bc0 xb 64))).bind fun x7=>(some (qa1.set (M0 .i64 (bc0 xb 64)).toNat (M0 .u64 ((X0 (O0 .u64) x5 ||| X0 (O0 .u64) (M0 .u64 (1*2 ^ (min (Z5 (bK0 xb 64)) (O0 .u64))))).toNat:Int)))).bind fun z8=>some ((true,z8)))
def iO:=re ⟨74,⟨[(0,.ptr 0 0),kdI 1],[bkN 162 [.is 1 (.dat Yq1),.own 163 Yq9],bkM]⟩,[⟨[kdB 0],[bkC 0 162 [.is 1 (.any),.own 163 Yq9],bkU 1]⟩],fun x=>dx x.1 x.2.1 x.2.2⟩ func74 call74 (.cl sP [2,0] (.gj 3 ⟨[kdB 13],[]⟩ [] (.two 9 .nil (.cl kQ [2,0] .nil)) (.tw 13 .nil (.mix [] [0,1,2,3,4,5,6,7,8,9,10,11,12] [13] [] .nil))))
def ER(xc:(List Int)):Int->Option (Int⊕Unit):=fun i1=>cond (decide (i1<(xc.length:Int))) ((aa xc i1).bind fun x2=>(ic x2).bind fun t3=>some (.inl (M0 .i64 (i1+1)))) (some (.inr ((()))))
def EN(xb:(List Int)):eR->Option (eR⊕eI):=fun (i1,l2,i3,i4,l5)=>cond (decide (i1<(xb.length:Int))) ((aa xb i1).bind fun x6=>(ic x6).bind fun t7=>(db x6 l2 i3 i4 l5).bind fun (t8,l9,i10,i11,l12)=>some (.inl ((M0 .i64 (i1+1),l9,i10,i11,l12)))) (some (.inr (((l2,i3,i4,l5)))))
def EO(x1:(List Int)):eR->Option (eR⊕eI):=fun (i2,l3,i4,i5,l6)=>cond (decide (i2<(x1.length:Int))) ((aa x1 i2).bind fun x7=>(cE ((none:aE)) x7).bind fun t8=>(cond (!t8) ((ic x7).bind fun t9=>some (t9)) (some (false))).bind fun t10=>cond (t10) ((db x7 l3 i4 i5 l6).bind fun (t11,l12,i13,i14,l15)=>some (.inl ((M0 .i64 (i2+1),l12,i13,i14,l15)))) (some (.inl ((M0 .i64 (i2+1),l3,i4,i5,l6))))) (some (.inr (((l3,i4,i5,l6)))))
def EU(xa:Tq7):eI->Option (eI⊕Unit):=fun (l1,i2,i3,l4)=>(gX l1 i2 i3 l4).bind fun (i5,l6,l7)=>cond (decide (0<i5)) ((gV l6 i2 i3 l7).bind fun (i8,t9,l10,i11,i12,l13)=>(aa xa i8).bind fun x14=>(loop (EO x14) (0,l10,i11,i12,l13)).bind fun (l15,i16,i17,l18)=>some (.inl (l15,i16,i17,l18))) (some (.inr ((()))))
def EP(xb:(List Int))(i1:Int):gS->Option (gS⊕gP):=fun (i2,l3,l4,i5,i6,l7)=>cond (decide (i2<(xb.length:Int))) ((aa xb i2).bind fun x8=>(dx x8 i1 l3).bind fun (t9,l10)=>(db x8 l4 i5 i6 l7).bind fun (t11,l12,i13,i14,l15)=>some (.inl ((M0 .i64 (i2+1),l10,l12,i13,i14,l15)))) (some (.inr (((l3,l4,i5,i6,l7)))))
def ES(i1:Int)(x2:(List Int)):gS->Option (gS⊕gP):=fun (i3,l4,l5,i6,i7,l8)=>cond (decide (i3<(x2.length:Int))) ((aa x2 i3).bind fun x9=>(cE ((none:aE)) x9).bind fun t10=>cond (!t10) ((dx x9 i1 l4).bind fun (t11,l12)=>cond (t11) ((db x9 l5 i6 i7 l8).bind fun (t13,l14,i15,i16,l17)=>some (.inl ((M0 .i64 (i3+1),l12,l14,i15,i16,l17)))) (some (.inl ((M0 .i64 (i3+1),l12,l5,i6,i7,l8))))) (some (.inl ((M0 .i64 (i3+1),l4,l5,i6,i7,l8))))) (some (.inr (((l4,l5,i6,i7,l8)))))
def EQ(xa:Tq7)(i1:Int):gP->Option (gP⊕(List Int)):=fun (l2,l3,i4,i5,l6)=>(gX l3 i4 i5 l6).bind fun (i7,l8,l9)=>cond (decide (0<i7)) ((gV l8 i4 i5 l9).bind fun (i10,t11,l12,i13,i14,l15)=>(aa xa i10).bind fun x16=>(loop (ES i1 x16) (0,l2,l12,i13,i14,l15)).bind fun (l17,l18,i19,i20,l21)=>some (.inl (l17,l18,i19,i20,l21))) (some (.inr (l2)))
def lH(xc:(List Int))(i1:Int):Tq8->Option (Tq8⊕(List Int)):=fun (i2,l3)=>cond (decide (i2<(xc.length:Int))) ((aa xc i2).bind fun x4=>(dx x4 i1 l3).bind fun (t5,l6)=>some (.inl ((M0 .i64 (i2+1),l6)))) (some (.inr (l3)))
def EV(xb:(List Int)):eR->Option (eR⊕eI):=fun (i1,l2,i3,i4,l5)=>cond (decide (i1<(xb.length:Int))) ((aa xb i1).bind fun x6=>(ic x6).bind fun t7=>(db x6 l2 i3 i4 l5).bind fun (t8,l9,i10,i11,l12)=>some (.inl ((M0 .i64 (i1+1),l9,i10,i11,l12)))) (some (.inr (((l2,i3,i4,l5)))))
def EK(i1:Int)(l2:(List Int))(x3:(List Int)):eR->Option (eR⊕eI):=fun (i4,l5,i6,i7,l8)=>cond (decide (i4<(x3.length:Int))) ((aa x3 i4).bind fun x9=>(cE (some (i1,l2)) x9).bind fun t10=>(cond (!t10) ((ic x9).bind fun t11=>some (t11)) (some (false))).bind fun t12=>cond (t12) ((db x9 l5 i6 i7 l8).bind fun (t13,l14,i15,i16,l17)=>some (.inl ((M0 .i64 (i4+1),l14,i15,i16,l17)))) (some (.inl ((M0 .i64 (i4+1),l5,i6,i7,l8))))) (some (.inr (((l5,i6,i7,l8)))))
def EL(xa:Tq7)(i1:Int)(l2:(List Int)):eI->Option (eI⊕Unit):=fun (l3,i4,i5,l6)=>(gX l3 i4 i5 l6).bind fun (i7,l8,l9)=>cond (decide (0<i7)) ((gV l8 i4 i5 l9).bind fun (i10,t11,l12,i13,i14,l15)=>(aa xa i10).bind fun x16=>(loop (EK i1 l2 x16) (0,l12,i13,i14,l15)).bind fun (l17,i18,i19,l20)=>some (.inl (l17,i18,i19,l20))) (some (.inr ((()))))
def lE(xb:(List Int))(i1:Int):gS->Option (gS⊕gP):=fun (i2,l3,l4,i5,i6,l7)=>cond (decide (i2<(xb.length:Int))) ((aa xb i2).bind fun x8=>(dx x8 i1 l3).bind fun (t9,l10)=>(db x8 l4 i5 i6 l7).bind fun (t11,l12,i13,i14,l15)=>some (.inl ((M0 .i64 (i2+1),l10,l12,i13,i14,l15)))) (some (.inr (((l3,l4,i5,i6,l7)))))
def ie(i1:Int)(l2:(List Int))(i3:Int)(x4:(List Int)):gS->Option (gS⊕gP):=fun (i5,l6,l7,i8,i9,l10)=>cond (decide (i5<(x4.length:Int))) ((aa x4 i5).bind fun x11=>(cE (some (i1,l2)) x11).bind fun t12=>cond (!t12) ((dx x11 i3 l6).bind fun (t13,l14)=>cond (t13) ((db x11 l7 i8 i9 l10).bind fun (t15,l16,i17,i18,l19)=>some (.inl ((M0 .i64 (i5+1),l14,l16,i17,i18,l19)))) (some (.inl ((M0 .i64 (i5+1),l14,l7,i8,i9,l10))))) (some (.inl ((M0 .i64 (i5+1),l6,l7,i8,i9,l10))))) (some (.inr (((l6,l7,i8,i9,l10)))))
def oK(xa:Tq7)(i1:Int)(l2:(List Int))(i3:Int):gP->Option (gP⊕(List Int)):=fun (l4,l5,i6,i7,l8)=>(gX l5 i6 i7 l8).bind fun (i9,l10,l11)=>cond (decide (0<i9)) ((gV l10 i6 i7 l11).bind fun (i12,t13,l14,i15,i16,l17)=>(aa xa i12).bind fun x18=>(loop (ie i1 l2 i3 x18) (0,l4,l14,i15,i16,l17)).bind fun (l19,l20,i21,i22,l23)=>some (.inl (l19,l20,i21,i22,l23))) (some (.inr (l4)))
def pF(xa:Tq7)(xb:(List Int))(xc:(List Int)):Option ((Unit⊕Tq8)) :=
 (fX (xa.length:Int)).bind fun o=>match o with|.inl i1=>((loop (ER xc) 0).bind fun ()=>(fX (xa.length:Int)).bind fun o=>match o with|.inl i2=>(loop (EN xb) (0,[],0,0,none)).bind fun (l3,i4,i5,l6)=>(loop (EU xa) (l3,i4,i5,l6)).bind fun ()=>some (.inl ())|.inr (i7,i8,l9)=>(loop (EP xb i8) (0,l9,[],0,0,none)).bind fun (l10,l11,i12,i13,l14)=>(loop (EQ xa i8) (l10,l11,i12,i13,l14)).bind fun l15=>some (.inr (i8,l15)))|.inr (i16,i17,l18)=>(loop (lH xc i17) (0,l18)).bind fun l19=>(fX (xa.length:Int)).bind fun o=>match o with|.inl i20=>(loop (EV xb) (0,[],0,0,none)).bind fun (l21,i22,i23,l24)=>(loop (EL xa i17 l19) (l21,i22,i23,l24)).bind fun ()=>some (.inl ())|.inr (i25,i26,l27)=>(loop (lE xb i26) (0,l27,[],0,0,none)).bind fun (l28,l29,i30,i31,l32)=>(loop (oK xa i17 l19 i26) (l28,l29,i30,i31,l32)).bind fun l33=>some (.inr (i26,l33))
def Ni:=re ⟨70,⟨[(0,.dat (.sl (.sl Yq1))),(1,.dat (.sl Yq1)),(2,.dat (.sl Yq1))],[]⟩,[⟨[(0,.nilp)],[]⟩,⟨[(0,.ptr 0 0)],[bkN 162 [.dat Yq1,.own 163 Yq9]]⟩],fun x=>pF x.1 x.2.1 x.2.2⟩ func70 call70 (.c2 sL [] (.jn [] ⟨[],[]⟩ [] (.lp ⟨[kdI 28],[]⟩ (.tw 29 (.cl kL [] .nil) .nil)) (.c2 sL [] (.jn [] ⟨[],[bkC 0 192 [.own 3 Yq1,.dat Yq1,.dat Yq1,.od (.obj 0 (.sl Yq5))]]⟩ [0] (.lp ⟨[kdI 44],[bkC 0 192 [.own 3 Yq1,.dat Yq1,.dat Yq1,.od (.obj 0 (.sl Yq5))]]⟩ (.tw 45 (.cl kL [] (.cl gT [] .nil)) .nil)) (.jn [] ⟨[],[]⟩ [0,2,4] (.lp ⟨[],[bkC 0 192 [.own 3 Yq1,.dat Yq1,.dat Yq1,.od (.obj 0 (.sl Yq5))]]⟩ (.mc 0 1 11 (.mc 0 2 11 (.cl rZ [] (.tw 55 (.cl rX [] (.jn [] ⟨[],[bkC 0 192 [.own 3 Yq1,.dat Yq1,.dat Yq1,.od (.obj 0 (.sl Yq5))]]⟩ [29,0,31] (.lp ⟨[kdI 65],[bkC 0 192 [.own 3 Yq1,.dat Yq1,.dat Yq1,.od (.obj 0 (.sl Yq5))]]⟩ (.tw 66 (.cl kQ [] (.gj 3 ⟨[kdB 77],[]⟩ [] (.two 73 (.cl kL [] .nil) .nil) (.tw 77 (.cl gT [] .nil) .nil))) .nil)) .nil)) .nil))))) .nil)) (.jn [(0,0)] ⟨[],[bkC 0 162 [.is 2 (.any),.own 163 Yq9],bkC 4 192 [.own 3 Yq1,.dat Yq1,.dat Yq1,.od (.obj 0 (.sl Yq5))],bkU 6]⟩ [4,1,0] (.lp ⟨[kdI 44],[bkC 0 162 [.is 2 (.any),.own 163 Yq9],bkC 4 192 [.own 3 Yq1,.dat Yq1,.dat Yq1,.od (.obj 0 (.sl Yq5))],bkU 6]⟩ (.tw 45 (.cl iO [] (.cl gT [] .nil)) .nil)) (.jn [] ⟨[],[bkC 0 162 [.is 1 (.any),.own 163 Yq9],bkU 6]⟩ [0,4,7,10,12] (.lp ⟨[],[bkC 0 162 [.is 2 (.any),.own 163 Yq9],bkC 4 192 [.own 3 Yq1,.dat Yq1,.dat Yq1,.od (.obj 0 (.sl Yq5))],bkU 6]⟩ (.mc 4 1 22 (.mc 4 2 22 (.cl rZ [] (.tw 55 (.cl rX [] (.jn [] ⟨[],[bkC 0 162 [.is 2 (.any),.own 163 Yq9],bkC 4 192 [.own 3 Yq1,.dat Yq1,.dat Yq1,.od (.obj 0 (.sl Yq5))],bkU 6]⟩ [40,4,42,0,15] (.lp ⟨[kdI 65],[bkC 0 162 [.is 2 (.any),.own 163 Yq9],bkC 4 192 [.own 3 Yq1,.dat Yq1,.dat Yq1,.od (.obj 0 (.sl Yq5))],bkU 6]⟩ (.tw 66 (.cl kQ [] (.two 73 (.cl iO [] (.tw 77 (.cl gT [] .nil) .nil)) .nil)) .nil)) .nil)) .nil))))) (.pl (.pl .nil)))))) (.jn [(0,0)] ⟨[],[bkC 0 162 [.is 1 (.any),.own 163 Yq9],bkU 4]⟩ [1,0] (.lp ⟨[kdI 28],[bkC 0 162 [.is 1 (.any),.own 163 Yq9],bkU 4]⟩ (.tw 29 (.cl iO [] .nil) .nil)) (.c2 sL [] (.jn [] ⟨[],[bkC 8 192 [.own 3 Yq1,.dat Yq1,.dat Yq1,.od (.obj 0 (.sl Yq5))]]⟩ [8] (.lp ⟨[kdI 44],[bkC 8 192 [.own 3 Yq1,.dat Yq1,.dat Yq1,.od (.obj 0 (.sl Yq5))]]⟩ (.tw 45 (.cl kL [] (.cl gT [] .nil)) .nil)) (.jn [] ⟨[],[]⟩ [8,10,12] (.lp ⟨[],[bkC 8 192 [.own 3 Yq1,.dat Yq1,.dat Yq1,.od (.obj 0 (.sl Yq5))]]⟩ (.mc 8 1 19 (.mc 8 2 19 (.cl rZ [] (.tw 55 (.cl rX [] (.jn [] ⟨[],[bkC 8 192 [.own 3 Yq1,.dat Yq1,.dat Yq1,.od (.obj 0 (.sl Yq5))]]⟩ [37,8,39] (.lp ⟨[kdI 65],[bkC 8 192 [.own 3 Yq1,.dat Yq1,.dat Yq1,.od (.obj 0 (.sl Yq5))]]⟩ (.tw 66 (.cl kQ [5,0] (.gj 3 ⟨[kdB 77],[]⟩ [] (.two 73 (.cl kL [] .nil) .nil) (.tw 77 (.cl gT [] .nil) .nil))) .nil)) .nil)) .nil))))) .nil)) (.jn [(8,0)] ⟨[],[bkC 8 162 [.is 2 (.any),.own 163 Yq9],bkC 12 192 [.own 3 Yq1,.dat Yq1,.dat Yq1,.od (.obj 0 (.sl Yq5))],bkU 14]⟩ [12,9,8] (.lp ⟨[kdI 44],[bkC 8 162 [.is 2 (.any),.own 163 Yq9],bkC 12 192 [.own 3 Yq1,.dat Yq1,.dat Yq1,.od (.obj 0 (.sl Yq5))],bkU 14]⟩ (.tw 45 (.cl iO [] (.cl gT [] .nil)) .nil)) (.jn [] ⟨[],[bkC 8 162 [.is 1 (.any),.own 163 Yq9],bkU 14]⟩ [8,12,15,18,20] (.lp ⟨[],[bkC 8 162 [.is 2 (.any),.own 163 Yq9],bkC 12 192 [.own 3 Yq1,.dat Yq1,.dat Yq1,.od (.obj 0 (.sl Yq5))],bkU 14]⟩ (.mc 12 1 30 (.mc 12 2 30 (.cl rZ [] (.tw 55 (.cl rX [] (.jn [] ⟨[],[bkC 8 162 [.is 2 (.any),.own 163 Yq9],bkC 12 192 [.own 3 Yq1,.dat Yq1,.dat Yq1,.od (.obj 0 (.sl Yq5))],bkU 14]⟩ [48,12,50,8,23] (.lp ⟨[kdI 65],[bkC 8 162 [.is 2 (.any),.own 163 Yq9],bkC 12 192 [.own 3 Yq1,.dat Yq1,.dat Yq1,.od (.obj 0 (.sl Yq5))],bkU 14]⟩ (.tw 66 (.cl kQ [5,0] (.two 73 (.cl iO [] (.tw 77 (.cl gT [] .nil) .nil)) .nil)) .nil)) .nil)) .nil))))) (.pl (.pl .nil)))))))

def oc(xa:Int):Option Int :=
 some (M0 .i64 ((X0 (O0 .i64) (M0 .i64 (M0 .u64 ((M0 .u64 ((M0 .u64 ((M0 .u64 ((X0 (O0 .u64) (M0 .u64 ((X8 (M0 .u64 ((M0 .u64 ((X0 (O0 .u64) (X8 (M0 .u64 ((M0 .u64 ((X0 (O0 .u64) (X8 xa (2 ^ (min (Z5 1) (O0 .u64)))) &&& X0 (O0 .u64) 6148914691236517205).toNat:Int))+(M0 .u64 ((X0 (O0 .u64) xa &&& X0 (O0 .u64) 6148914691236517205).toNat:Int)))) (2 ^ (min (Z5 2) (O0 .u64)))) &&& X0 (O0 .u64) 3689348814741910323).toNat:Int))+(M0 .u64 ((X0 (O0 .u64) (M0 .u64 ((M0 .u64 ((X0 (O0 .u64) (X8 xa (2 ^ (min (Z5 1) (O0 .u64)))) &&& X0 (O0 .u64) 6148914691236517205).toNat:Int))+(M0 .u64 ((X0 (O0 .u64) xa &&& X0 (O0 .u64) 6148914691236517205).toNat:Int)))) &&& X0 (O0 .u64) 3689348814741910323).toNat:Int)))) (2 ^ (min (Z5 4) (O0 .u64))))+(M0 .u64 ((M0 .u64 ((X0 (O0 .u64) (X8 (M0 .u64 ((M0 .u64 ((X0 (O0 .u64) (X8 xa (2 ^ (min (Z5 1) (O0 .u64)))) &&& X0 (O0 .u64) 6148914691236517205).toNat:Int))+(M0 .u64 ((X0 (O0 .u64) xa &&& X0 (O0 .u64) 6148914691236517205).toNat:Int)))) (2 ^ (min (Z5 2) (O0 .u64)))) &&& X0 (O0 .u64) 3689348814741910323).toNat:Int))+(M0 .u64 ((X0 (O0 .u64) (M0 .u64 ((M0 .u64 ((X0 (O0 .u64) (X8 xa (2 ^ (min (Z5 1) (O0 .u64)))) &&& X0 (O0 .u64) 6148914691236517205).toNat:Int))+(M0 .u64 ((X0 (O0 .u64) xa &&& X0 (O0 .u64) 6148914691236517205).toNat:Int)))) &&& X0 (O0 .u64) 3689348814741910323).toNat:Int)))))) &&& X0 (O0 .u64) 1085102592571150095).toNat:Int))+(X8 (M0 .u64 ((X0 (O0 .u64) (M0 .u64 ((X8 (M0 .u64 ((M0 .u64 ((X0 (O0 .u64) (X8 (M0 .u64 ((M0 .u64 ((X0 (O0 .u64) (X8 xa (2 ^ (min (Z5 1) (O0 .u64)))) &&& X0 (O0 .u64) 6148914691236517205).toNat:Int))+(M0 .u64 ((X0 (O0 .u64) xa &&& X0 (O0 .u64) 6148914691236517205).toNat:Int)))) (2 ^ (min (Z5 2) (O0 .u64)))) &&& X0 (O0 .u64) 3689348814741910323).toNat:Int))+(M0 .u64 ((X0 (O0 .u64) (M0 .u64 ((M0 .u64 ((X0 (O0 .u64) (X8 xa (2 ^ (min (Z5 1) (O0 .u64)))) &&& X0 (O0 .u64) 6148914691236517205).toNat:Int))+(M0 .u64 ((X0 (O0 .u64) xa &&& X0 (O0 .u64) 6148914691236517205).toNat:Int)))) &&& X0 (O0 .u64) 3689348814741910323).toNat:Int)))) (2 ^ (min (Z5 4) (O0 .u64))))+(M0 .u64 ((M0 .u64 ((X0 (O0 .u64) (X8 (M0 .u64 ((M0 .u64 ((X0 (O0 .u64) (X8 xa (2 ^ (min (Z5 1) (O0 .u64)))) &&& X0 (O0 .u64) 6148914691236517205).toNat:Int))+(M0 .u64 ((X0 (O0 .u64) xa &&& X0 (O0 .u64) 6148914691236517205).toNat:Int)))) (2 ^ (min (Z5 2) (O0 .u64)))) &&& X0 (O0 .u64) 3689348814741910323).toNat:Int))+(M0 .u64 ((X0 (O0 .u64) (M0 .u64 ((M0 .u64 ((X0 (O0 .u64) (X8 xa (2 ^ (min (Z5 1) (O0 .u64)))) &&& X0 (O0 .u64) 6148914691236517205).toNat:Int))+(M0 .u64 ((X0 (O0 .u64) xa &&& X0 (O0 .u64) 6148914691236517205).toNat:Int)))) &&& X0 (O0 .u64) 3689348814741910323).toNat:Int)))))) &&& X0 (O0 .u64) 1085102592571150095).toNat:Int)) (2 ^ (min (Z5 8) (O0 .u64))))))+(X8 (M0 .u64 ((M0 .u64 ((X0 (O0 .u64) (M0 .u64 ((X8 (M0 .u64 ((M0 .u64 ((X0 (O0 .u64) (X8 (M0 .u64 ((M0 .u64 ((X0 (O0 .u64) (X8 xa (2 ^ (min (Z5 1) (O0 .u64)))) &&& X0 (O0 .u64) 6148914691236517205).toNat:Int))+(M0 .u64 ((X0 (O0 .u64) xa &&& X0 (O0 .u64) 6148914691236517205).toNat:Int)))) (2 ^ (min (Z5 2) (O0 .u64)))) &&& X0 (O0 .u64) 3689348814741910323).toNat:Int))+(M0 .u64 ((X0 (O0 .u64) (M0 .u64 ((M0 .u64 ((X0 (O0 .u64) (X8 xa (2 ^ (min (Z5 1) (O0 .u64)))) &&& X0 (O0 .u64) 6148914691236517205).toNat:Int))+(M0 .u64 ((X0 (O0 .u64) xa &&& X0 (O0 .u64) 6148914691236517205).toNat:Int)))) &&& X0 (O0 .u64) 3689348814741910323).toNat:Int)))) (2 ^ (min (Z5 4) (O0 .u64))))+(M0 .u64 ((M0 .u64 ((X0 (O0 .u64) (X8 (M0 .u64 ((M0 .u64 ((X0 (O0 .u64) (X8 xa (2 ^ (min (Z5 1) (O0 .u64)))) &&& X0 (O0 .u64) 6148914691236517205).toNat:Int))+(M0 .u64 ((X0 (O0 .u64) xa &&& X0 (O0 .u64) 6148914691236517205).toNat:Int)))) (2 ^ (min (Z5 2) (O0 .u64)))) &&& X0 (O0 .u64) 3689348814741910323).toNat:Int))+(M0 .u64 ((X0 (O0 .u64) (M0 .u64 ((M0 .u64 ((X0 (O0 .u64) (X8 xa (2 ^ (min (Z5 1) (O0 .u64)))) &&& X0 (O0 .u64) 6148914691236517205).toNat:Int))+(M0 .u64 ((X0 (O0 .u64) xa &&& X0 (O0 .u64) 6148914691236517205).toNat:Int)))) &&& X0 (O0 .u64) 3689348814741910323).toNat:Int)))))) &&& X0 (O0 .u64) 1085102592571150095).toNat:Int))+(X8 (M0 .u64 ((X0 (O0 .u64) (M0 .u64 ((X8 (M0 .u64 ((M0 .u64 ((X0 (O0 .u64) (X8 (M0 .u64 ((M0 .u64 ((X0 (O0 .u64) (X8 xa (2 ^ (min (Z5 1) (O0 .u64)))) &&& X0 (O0 .u64) 6148914691236517205).toNat:Int))+(M0 .u64 ((X0 (O0 .u64) xa &&& X0 (O0 .u64) 6148914691236517205).toNat:Int)))) (2 ^ (min (Z5 2) (O0 .u64)))) &&& X0 (O0 .u64) 3689348814741910323).toNat:Int))+(M0 .u64 ((X0 (O0 .u64) (M0 .u64 ((M0 .u64 ((X0 (O0 .u64) (X8 xa (2 ^ (min (Z5 1) (O0 .u64)))) &&& X0 (O0 .u64) 6148914691236517205).toNat:Int))+(M0 .u64 ((X0 (O0 .u64) xa &&& X0 (O0 .u64) 6148914691236517205).toNat:Int)))) &&& X0 (O0 .u64) 3689348814741910323).toNat:Int)))) (2 ^ (min (Z5 4) (O0 .u64))))+(M0 .u64 ((M0 .u64 ((X0 (O0 .u64) (X8 (M0 .u64 ((M0 .u64 ((X0 (O0 .u64) (X8 xa (2 ^ (min (Z5 1) (O0 .u64)))) &&& X0 (O0 .u64) 6148914691236517205).toNat:Int))+(M0 .u64 ((X0 (O0 .u64) xa &&& X0 (O0 .u64) 6148914691236517205).toNat:Int)))) (2 ^ (min (Z5 2) (O0 .u64)))) &&& X0 (O0 .u64) 3689348814741910323).toNat:Int))+(M0 .u64 ((X0 (O0 .u64) (M0 .u64 ((M0 .u64 ((X0 (O0 .u64) (X8 xa (2 ^ (min (Z5 1) (O0 .u64)))) &&& X0 (O0 .u64) 6148914691236517205).toNat:Int))+(M0 .u64 ((X0 (O0 .u64) xa &&& X0 (O0 .u64) 6148914691236517205).toNat:Int)))) &&& X0 (O0 .u64) 3689348814741910323).toNat:Int)))))) &&& X0 (O0 .u64) 1085102592571150095).toNat:Int)) (2 ^ (min (Z5 8) (O0 .u64)))))) (2 ^ (min (Z5 16) (O0 .u64))))))+(X8 (M0 .u64 ((M0 .u64 ((M0 .u64 ((X0 (O0 .u64) (M0 .u64 ((X8 (M0 .u64 ((M0 .u64 ((X0 (O0 .u64) (X8 (M0 .u64 ((M0 .u64 ((X0 (O0 .u64) (X8 xa (2 ^ (min (Z5 1) (O0 .u64)))) &&& X0 (O0 .u64) 6148914691236517205).toNat:Int))+(M0 .u64 ((X0 (O0 .u64) xa &&& X0 (O0 .u64) 6148914691236517205).toNat:Int)))) (2 ^ (min (Z5 2) (O0 .u64)))) &&& X0 (O0 .u64) 3689348814741910323).toNat:Int))+(M0 .u64 ((X0 (O0 .u64) (M0 .u64 ((M0 .u64 ((X0 (O0 .u64) (X8 xa (2 ^ (min (Z5 1) (O0 .u64)))) &&& X0 (O0 .u64) 6148914691236517205).toNat:Int))+(M0 .u64 ((X0 (O0 .u64) xa &&& X0 (O0 .u64) 6148914691236517205).toNat:Int)))) &&& X0 (O0 .u64) 3689348814741910323).toNat:Int)))) (2 ^ (min (Z5 4) (O0 .u64))))+(M0 .u64 ((M0 .u64 ((X0 (O0 .u64) (X8 (M0 .u64 ((M0 .u64 ((X0 (O0 .u64) (X8 xa (2 ^ (min (Z5 1) (O0 .u64)))) &&& X0 (O0 .u64) 6148914691236517205).toNat:Int))+(M0 .u64 ((X0 (O0 .u64) xa &&& X0 (O0 .u64) 6148914691236517205).toNat:Int)))) (2 ^ (min (Z5 2) (O0 .u64)))) &&& X0 (O0 .u64) 3689348814741910323).toNat:Int))+(M0 .u64 ((X0 (O0 .u64) (M0 .u64 ((M0 .u64 ((X0 (O0 .u64) (X8 xa (2 ^ (min (Z5 1) (O0 .u64)))) &&& X0 (O0 .u64) 6148914691236517205).toNat:Int))+(M0 .u64 ((X0 (O0 .u64) xa &&& X0 (O0 .u64) 6148914691236517205).toNat:Int)))) &&& X0 (O0 .u64) 3689348814741910323).toNat:Int)))))) &&& X0 (O0 .u64) 1085102592571150095).toNat:Int))+(X8 (M0 .u64 ((X0 (O0 .u64) (M0 .u64 ((X8 (M0 .u64 ((M0 .u64 ((X0 (O0 .u64) (X8 (M0 .u64 ((M0 .u64 ((X0 (O0 .u64) (X8 xa (2 ^ (min (Z5 1) (O0 .u64)))) &&& X0 (O0 .u64) 6148914691236517205).toNat:Int))+(M0 .u64 ((X0 (O0 .u64) xa &&& X0 (O0 .u64) 6148914691236517205).toNat:Int)))) (2 ^ (min (Z5 2) (O0 .u64)))) &&& X0 (O0 .u64) 3689348814741910323).toNat:Int))+(M0 .u64 ((X0 (O0 .u64) (M0 .u64 ((M0 .u64 ((X0 (O0 .u64) (X8 xa (2 ^ (min (Z5 1) (O0 .u64)))) &&& X0 (O0 .u64) 6148914691236517205).toNat:Int))+(M0 .u64 ((X0 (O0 .u64) xa &&& X0 (O0 .u64) 6148914691236517205).toNat:Int)))) &&& X0 (O0 .u64) 3689348814741910323).toNat:Int)))) (2 ^ (min (Z5 4) (O0 .u64))))+(M0 .u64 ((M0 .u64 ((X0 (O0 .u64) (X8 (M0 .u64 ((M0 .u64 ((X0 (O0 .u64) (X8 xa (2 ^ (min (Z5 1) (O0 .u64)))) &&& X0 (O0 .u64) 6148914691236517205).toNat:Int))+(M0 .u64 ((X0 (O0 .u64) xa &&& X0 (O0 .u64) 6148914691236517205).toNat:Int)))) (2 ^ (min (Z5 2) (O0 .u64)))) &&& X0 (O0 .u64) 3689348814741910323).toNat:Int))+(M0 .u64 ((X0 (O0 .u64) (M0 .u64 ((M0 .u64 ((X0 (O0 .u64) (X8 xa (2 ^ (min (Z5 1) (O0 .u64)))) &&& X0 (O0 .u64) 6148914691236517205).toNat:Int))+(M0 .u64 ((X0 (O0 .u64) xa &&& X0 (O0 .u64) 6148914691236517205).toNat:Int)))) &&& X0 (O0 .u64) 3689348814741910323).toNat:Int)))))) &&& X0 (O0 .u64) 1085102592571150095).toNat:Int)) (2 ^ (min (Z5 8) (O0 .u64))))))+(X8 (M0 .u64 ((M0 .u64 ((X0 (O0 .u64) (M0 .u64 ((X8 (M0 .u64 ((M0 .u64 ((X0 (O0 .u64) (X8 (M0 .u64 ((M0 .u64 ((X0 (O0 .u64) (X8 xa (2 ^ (min (Z5 1) (O0 .u64)))) &&& X0 (O0 .u64) 6148914691236517205).toNat:Int))+(M0 .u64 ((X0 (O0 .u64) xa &&& X0 (O0 .u64) 6148914691236517205).toNat:Int)))) (2 ^ (min (Z5 2) (O0 .u64)))) &&& X0 (O0 .u64) 3689348814741910323).toNat:Int))+(M0 .u64 ((X0 (O0 .u64) (M0 .u64 ((M0 .u64 ((X0 (O0 .u64) (X8 xa (2 ^ (min (Z5 1) (O0 .u64)))) &&& X0 (O0 .u64) 6148914691236517205).toNat:Int))+(M0 .u64 ((X0 (O0 .u64) xa &&& X0 (O0 .u64) 6148914691236517205).toNat:Int)))) &&& X0 (O0 .u64) 3689348814741910323).toNat:Int)))) (2 ^ (min (Z5 4) (O0 .u64))))+(M0 .u64 ((M0 .u64 ((X0 (O0 .u64) (X8 (M0 .u64 ((M0 .u64 ((X0 (O0 .u64) (X8 xa (2 ^ (min (Z5 1) (O0 .u64)))) &&& X0 (O0 .u64) 6148914691236517205).toNat:Int))+(M0 .u64 ((X0 (O0 .u64) xa &&& X0 (O0 .u64) 6148914691236517205).toNat:Int)))) (2 ^ (min (Z5 2) (O0 .u64)))) &&& X0 (O0 .u64) 3689348814741910323).toNat:Int))+(M0 .u64 ((X0 (O0 .u64) (M0 .u64 ((M0 .u64 ((X0 (O0 .u64) (X8 xa (2 ^ (min (Z5 1) (O0 .u64)))) &&& X0 (O0 .u64) 6148914691236517205).toNat:Int))+(M0 .u64 ((X0 (O0 .u64) xa &&& X0 (O0 .u64) 6148914691236517205).toNat:Int)))) &&& X0 (O0 .u64) 3689348814741910323).toNat:Int)))))) &&& X0 (O0 .u64) 1085102592571150095).toNat:Int))+(X8 (M0 .u64 ((X0 (O0 .u64) (M0 .u64 ((X8 (M0 .u64 ((M0 .u64 ((X0 (O0 .u64) (X8 (M0 .u64 ((M0 .u64 ((X0 (O0 .u64) (X8 xa (2 ^ (min (Z5 1) (O0 .u64)))) &&& X0 (O0 .u64) 6148914691236517205).toNat:Int))+(M0 .u64 ((X0 (O0 .u64) xa &&& X0 (O0 .u64) 6148914691236517205).toNat:Int)))) (2 ^ (min (Z5 2) (O0 .u64)))) &&& X0 (O0 .u64) 3689348814741910323).toNat:Int))+(M0 .u64 ((X0 (O0 .u64) (M0 .u64 ((M0 .u64 ((X0 (O0 .u64) (X8 xa (2 ^ (min (Z5 1) (O0 .u64)))) &&& X0 (O0 .u64) 6148914691236517205).toNat:Int))+(M0 .u64 ((X0 (O0 .u64) xa &&& X0 (O0 .u64) 6148914691236517205).toNat:Int)))) &&& X0 (O0 .u64) 3689348814741910323).toNat:Int)))) (2 ^ (min (Z5 4) (O0 .u64))))+(M0 .u64 ((M0 .u64 ((X0 (O0 .u64) (X8 (M0 .u64 ((M0 .u64 ((X0 (O0 .u64) (X8 xa (2 ^ (min (Z5 1) (O0 .u64)))) &&& X0 (O0 .u64) 6148914691236517205).toNat:Int))+(M0 .u64 ((X0 (O0 .u64) xa &&& X0 (O0 .u64) 6148914691236517205).toNat:Int)))) (2 ^ (min (Z5 2) (O0 .u64)))) &&& X0 (O0 .u64) 3689348814741910323).toNat:Int))+(M0 .u64 ((X0 (O0 .u64) (M0 .u64 ((M0 .u64 ((X0 (O0 .u64) (X8 xa (2 ^ (min (Z5 1) (O0 .u64)))) &&& X0 (O0 .u64) 6148914691236517205).toNat:Int))+(M0 .u64 ((X0 (O0 .u64) xa &&& X0 (O0 .u64) 6148914691236517205).toNat:Int)))) &&& X0 (O0 .u64) 3689348814741910323).toNat:Int)))))) &&& X0 (O0 .u64) 1085102592571150095).toNat:Int)) (2 ^ (min (Z5 8) (O0 .u64)))))) (2 ^ (min (Z5 16) (O0 .u64)))))) (2 ^ (min (Z5 32) (O0 .u64))))))) &&& X0 (O0 .i64) 127).toNat:Int))
def OG:=re ⟨111,⟨[(0,.dat Yq9)],[]⟩,[⟨[kdI 0],[]⟩],fun x=>oc x⟩ func111 call111 .nil
def lg(y1:Tq8):bf->Option (bf⊕Int):=fun (i2,i3)=>cond (decide (i3<(y1.2.length:Int))) ((aa y1.2 i3).bind fun x4=>(oc x4).bind fun i5=>some (.inl ((M0 .i64 (i2+i5),M0 .i64 (i3+1))))) (some (.inr (i2)))
def lz(xa:aE):Option Int :=
 cond (xa.isNone) (some (0)) (xa.bind fun y1=>(loop (lg y1) (0,0)).bind fun i2=>some (i2))
def Do:=re ⟨71,⟨[(0,.dat Yq6)],[]⟩,[⟨[kdI 0],[]⟩],fun x=>lz x⟩ func71 call71 (.tw 7 .nil (.jn [] ⟨[kdI 3],[]⟩ [] (.lp ⟨[kdI 3,kdI 13],[]⟩ (.tw 14 (.cl OG [] .nil) .nil)) .nil))
def lP(p1:(Option (aO×aO)))(l2:Tq7)(z3:List aE):gJ->Option (gJ⊕(List aE)):=fun (i4,l5)=>cond (decide (i4<(z3.length:Int))) ((oC p1 i4).bind fun (l6,l7)=>cond (decide (0<(l6.length:Int))) ((aa l5 i4).bind fun x8=>(pF l2 l6 l7).bind fun o=>match o with|.inl _=>(aa l5 i4).bind fun _=>(az i4 i4).bind fun _=>(aa (l5.set i4.toNat none) i4).bind fun x9=>(aa (l5.set i4.toNat none) i4).bind fun _=>(az i4 i4).bind fun _=>(lz x9).bind fun i10=>(a8 2 i10).bind fun _=>some (.inl ((M0 .i64 (i4+1),(l5.set i4.toNat none).set i4.toNat x9)))|.inr (i11,l12)=>(aa l5 i4).bind fun _=>(az i4 i4).bind fun _=>(aa (l5.set i4.toNat (some (i11,l12))) i4).bind fun x13=>(aa (l5.set i4.toNat (some (i11,l12))) i4).bind fun _=>(az i4 i4).bind fun _=>(lz x13).bind fun i14=>(a8 2 i14).bind fun _=>some (.inl ((M0 .i64 (i4+1),(l5.set i4.toNat (some (i11,l12))).set i4.toNat x13)))) (some (.inl ((M0 .i64 (i4+1),l5))))) (some (.inr (l5)))
def mz(xa:Tq1):Option ((Option gJ)) :=
 (mG xa).bind fun p1=>(tU p1).bind fun i2=>cond (decide (i2=0)) (some ((some (i2,[])))) ((a8 2 i2).bind fun _=>(mJ xa).bind fun p3=>(pO p3 i2).bind fun l4=>(mk (xa.2.2.2.1.length:Int) (xa.2.2.2.1.length:Int) none:Option (List aE)).bind fun z5=>(loop (lP p1 l4 z5) (0,z5)).bind fun l6=>some ((some (i2,l6))))
def Ou:=re ⟨35,⟨[(0,.dat Yq2),(1,.nilp)],[]⟩,[⟨[(0,.dat (.ptr (.cons Yq1 (.one (.sl Yq6)))))],[]⟩],fun x=>mz x⟩ func35 call35 (.cl Ri [] (.cl Uj [] (.tw 21 (.perb 2 3 (.cons Yq1 (.one (.sl Yq6))) .nil) (.cl c9 [] (.mix [([0,2,3,4,5],1)] [] [6,7] [] (.cl RX [] (.cl Us [] (.ot (.box 162 (.cons (.dat Yq1) (.one (.row 163 (.dat Yq9))))) (.per 4 5 (.jn [] ⟨[],[bkO 6 (.row 114 (.box 162 (.cons (.dat Yq1) (.one (.row 163 (.dat Yq9))))))]⟩ [6,0] (.lp ⟨[kdI 48],[bkO 6 (.row 114 (.box 162 (.cons (.dat Yq1) (.one (.row 163 (.dat Yq9))))))]⟩ (.tw 49 (.cl Q8 [] (.tw 59 (.opp [4] 6 64 (.mix [([0,1,2,3,4,5,6,7],8)] [9] [10] [12,10] (.per 10 11 (.per 12 13 (.c2 Ni [] (.cls 6 16 (.opn 6 75 (.cl Do [19] (.cl c9 [] (.cls 6 18 .nil))))) (.cls 6 20 (.opn 6 75 (.cl Do [23] (.cl c9 [] (.cls 6 22 .nil)))))))))) .nil)) .nil)) (.per 6 9 (.perb 2 8 (.cons Yq1 (.one (.sl Yq6))) .nil))))))))))))

def ui(xa:(Option gJ)):Option Int :=
 cond (xa.isNone) (some (0)) (xa.bind fun y11=>some (y11.1))
def P1:=re ⟨36,⟨[(0,.dat (.ptr (.cons Yq1 (.one (.sl Yq6)))))],[]⟩,[⟨[kdI 0],[]⟩],fun x=>ui x⟩ func36 call36 (.tw 4 .nil .nil)

def ij(xa:Int):Option Bool :=
 some ((decide (0<=xa))&&(decide (xa<=2147483647)))
def DF:=re ⟨114,⟨[kdI 0],[]⟩,[⟨[kdB 0],[]⟩],fun x=>ij x⟩ func114 call114 (.gp 2 .nil)
def mf(xa:(List Int)):Tq8->Option (Tq8⊕(List Int)):=fun (i1,l2)=>cond (decide (i1<(xa.length:Int))) ((aa xa i1).bind fun x3=>(ij x3).bind fun t4=>cond (t4) ((app l2 ([x3]:List Int)).bind fun z5=>some (.inl ((M0 .i64 (i1+1),z5)))) (some (.inl ((M0 .i64 (i1+1),l2))))) (some (.inr (l2)))
def jD(xa:(List Int)):Option (List Int) :=
 (loop (mf xa) (0,[])).bind fun l1=>(srt l1).bind fun l2=>(eM l2).bind fun l3=>some (l3)
def DA:=re ⟨112,⟨[(0,.dat (.sl Yq1))],[]⟩,[⟨[(0,.ptr 0 0)],[bkN 197 [.own 3 Yq1]]⟩],fun x=>jD x⟩ func112 call112 (.jn [] ⟨[],[bkC 0 197 [.own 3 Yq1]]⟩ [0] (.lp ⟨[kdI 10],[bkC 0 197 [.own 3 Yq1]]⟩ (.tw 11 (.cl DF [] (.tw 15 .nil .nil)) .nil)) (.cl iE [] (.cl mO [] .nil)))

def pR(xa:Int):Option ((Int⊕(Int×Int×aQ))) :=
 cond (decide (xa<0)) (some (.inl 2)) (cond (decide (1048576<xa)) (some (.inl 5)) ((jD ([])).bind fun l26=>some (.inr (0,xa,some l26))))
def Ob:=re ⟨72,⟨[kdI 0],[]⟩,[⟨[(0,.tup [.nilp,.dat Yq1])],[]⟩,⟨[(0,.tup [.ptr 0 0,.dat Yq1])],[bkN 116 [.dat Yq1,.od (.box 197 (.one (.row 3 (.dat Yq1)))),.nilp]]⟩],fun x=>pR x⟩ func72 call72 (.tw 5 .nil (.tw 7 .nil (.cl DA [] (.pl .nil))))

def fS(xa:Int):Option ((Unit⊕(Int×aQ))) :=
 (pR xa).bind fun o=>match o with|.inl i22=>some (.inl ())|.inr (i26,i27,l28)=>some (.inr (i27,l28))
def nB:=re ⟨37,⟨[kdI 0],[]⟩,[⟨[(0,.nilp)],[]⟩,⟨[(0,.ptr 0 0)],[bkN 116 [.dat Yq1,.od (.box 197 (.one (.row 3 (.dat Yq1)))),.nilp]]⟩],fun x=>fS x⟩ func37 call37 (.c2 Ob [] .nil (.pl (.pl .nil)))

def fQ(xa:(Option Tq2)):Option Int :=
 cond (xa.isNone) (some (0)) (xa.bind fun y11=>some (y11.1))
def sg:=re ⟨73,⟨[(0,.dat dR)],[]⟩,[⟨[kdI 0],[]⟩],fun x=>fQ x⟩ func73 call73 (.tw 4 .nil .nil)

def fO(xa:(Option Tq2)):Option Bool :=
 (cond (!xa.isNone) (xa.bind fun y36=>some (!y36.2.2.isNone)) (some (false))).bind fun t34=>some (t34)
def nt:=re ⟨51,⟨[(0,.dat dR)],[]⟩,[⟨[kdB 0],[]⟩],fun x=>fO x⟩ func51 call51 (.gj 5 ⟨[kdB 11],[]⟩ [] (.two 5 .nil .nil) .nil)

def oI(xb:Int):Option Bool :=
 (cond (decide (xb<0)) (some (true)) ((fQ ((none:(Option Tq2)))).bind fun i36=>some (decide (i36<=xb)))).bind fun t32=>cond (t32) (some (false)) ((fO ((none:(Option Tq2)))).bind fun t43=>cond (t43) (none) (none))
def xF:=re ⟨39,⟨[(0,.nilp),kdI 1],[]⟩,[⟨[kdB 0],[]⟩],fun x=>oI x⟩ func39 call39 (.gj 4 ⟨[kdB 13],[]⟩ [] (.two 8 .nil (.cl sg [] .nil)) (.tw 13 .nil (.cl nt [] (.tw 15 .nil .nil))))
def EF(xc:Int):Int->Option (Int⊕Unit):=fun i1=>(fQ ((none:(Option Tq2)))).bind fun i2=>cond (decide (i1<(if i2<xc then i2 else xc))) ((oI i1).bind fun t3=>some (.inl (M0 .i64 (i1+1)))) (some (.inr ((()))))
def yH(xb:Int)(xc:Int):Option Unit :=
 (loop (EF xc) (if xb<0 then 0 else xb)).bind fun ()=>some (())
def PH:=re ⟨38,⟨[(0,.nilp),kdI 1,kdI 2],[]⟩,[⟨[],[]⟩],fun x=>yH x.1 x.2⟩ func38 call38 (.jn [] ⟨[],[]⟩ [] (.lp ⟨[kdI 6],[]⟩ (.cl sg [] (.tw 14 (.cl xF [] .nil) .nil))) .nil)

def la(qa0:Int)(qa1:aQ)(qa2:aE):Option ((Bool×aQ×aE)) :=
 some ((false,qa1,qa2))
def sj:=re ⟨26,⟨[(0,.ptr 0 0),(1,.nilp)],[bkN 116 [.is 1 (.dat Yq1),.od (.box 197 (.one (.row 3 (.dat Yq1)))),.od (.box 162 (.cons (.dat Yq1) (.one (.row 163 (.dat Yq9)))))],bkM]⟩,[⟨[kdB 0],[bkC 0 116 [.is 1 (.any),.od (.box 197 (.one (.row 3 (.dat Yq1)))),.od (.box 162 (.cons (.dat Yq1) (.one (.row 163 (.dat Yq9)))))],bkU 1]⟩],fun x=>la x.1 x.2.1 x.2.2⟩ func26 call26 (.mix [] [0,1,2,3,4,5,6,7,8,9,10,11,12,13,14,15,16] [] [] .nil)

def pb(xa:Int):Option Bool :=
 some (!decide (xa=xa))
def DP:=re ⟨158,⟨[kdI 0],[]⟩,[⟨[kdB 0],[]⟩],fun x=>pb x⟩ func158 call158 .nil

def pu(xa:Int)(xb:Int):Option Bool :=
 (pb xa).bind fun t27=>(cond (t27) ((pb xb).bind fun t42=>some (!t42)) (some (false))).bind fun t38=>some (t38||(decide (xa<xb)))
def MU:=re ⟨131,⟨[kdI 0,kdI 1],[]⟩,[⟨[kdB 0],[]⟩],fun x=>pu x.1 x.2⟩ func131 call131 (.cl DP [] (.gj 3 ⟨[kdB 11],[]⟩ [] (.two 7 (.cl DP [] .nil) .nil) (.wt 12 (.gp 3 .nil))))

def oB(xa:Int):Option Bool :=
 some (!decide (xa=xa))
def DL:=re ⟨152,⟨[kdI 0],[]⟩,[⟨[kdB 0],[]⟩],fun x=>oB x⟩ func152 call152 .nil
def tG(xa:(List Int))(xb:Int):bf->Option (bf⊕Int):=fun (i1,i2)=>cond (decide (i1<i2)) ((aa xa (M0 .i64 (X8 (M0 .u64 (M0 .i64 (i1+i2))) (2 ^ (min (Z5 1) (O0 .u64)))))).bind fun x3=>(pu x3 xb).bind fun t4=>cond (t4) (some (.inl ((M0 .i64 ((M0 .i64 (X8 (M0 .u64 (M0 .i64 (i1+i2))) (2 ^ (min (Z5 1) (O0 .u64)))))+1),i2)))) (some (.inl ((i1,M0 .i64 (X8 (M0 .u64 (M0 .i64 (i1+i2))) (2 ^ (min (Z5 1) (O0 .u64))))))))) (some (.inr (i1)))
def n6(xa:(List Int))(xb:Int):Option (Int×Bool) :=
 (loop (tG xa xb) ((0,(xa.length:Int)))).bind fun i1=>(cond (decide (i1<(xa.length:Int))) ((aa xa i1).bind fun x2=>(cond (decide (x2=xb)) (some (true)) ((aa xa i1).bind fun x3=>(oB x3).bind fun t4=>(cond (t4) ((oB xb).bind fun t5=>some (t5)) (some (false))).bind fun t6=>some (t6))).bind fun t7=>some (t7)) (some (false))).bind fun t8=>some ((i1,t8))
def Ns:=re ⟨124,⟨[(0,.dat (.sl Yq1)),kdI 1],[]⟩,[⟨[(0,.tup [.dat Yq1,.dat .bool])],[]⟩],fun x=>n6 x.1 x.2⟩ func124 call124 (.jn [] ⟨[kdI 7],[]⟩ [] (.lp ⟨[kdI 7,kdI 8],[]⟩ (.tw 15 (.cl MU [] (.tw 27 .nil .nil)) .nil)) (.wt 35 (.gj 17 ⟨[kdB 53],[]⟩ [] (.two 35 (.wt 42 (.gj 9 ⟨[kdB 52],[]⟩ [] (.two 42 .nil (.cl DL [] (.wt 48 (.gj 2 ⟨[kdB 51],[]⟩ [] (.two 48 (.cl DL [] .nil) .nil) .nil)))) .nil)) .nil) .nil)))

def cd(xa:aQ)(xb:Int):Option Int :=
 cond (xa.isNone) (some (0)) (xa.bind fun y21=>(n6 y21 xb).bind fun (i33,t34)=>some (i33))
def dJ:=re ⟨92,⟨[(0,.dat (.ptr (.one (.sl Yq1)))),kdI 1],[]⟩,[⟨[kdI 0],[]⟩],fun x=>cd x.1 x.2⟩ func92 call92 (.tw 8 .nil (.cl Ns [] .nil))

def lJ(xa:aQ):Option Int :=
 cond (xa.isNone) (some (0)) (xa.bind fun y14=>some (y14.length:Int))
def DQ:=re ⟨76,⟨[(0,.dat (.ptr (.one (.sl Yq1))))],[]⟩,[⟨[kdI 0],[]⟩],fun x=>lJ x⟩ func76 call76 (.tw 4 .nil .nil)

def ce(xa:aQ)(xb:Int):Option (Int×Bool) :=
 (cond (decide (xb<0)) (some (true)) ((lJ xa).bind fun i49=>some (decide (i49<=xb)))).bind fun t45=>cond (t45) (some ((0,false))) (xa.bind fun y54=>(aa y54 xb).bind fun x64=>some ((x64,true)))
def eD:=re ⟨91,⟨[(0,.dat (.ptr (.one (.sl Yq1)))),kdI 1],[]⟩,[⟨[(0,.tup [.dat Yq1,.dat .bool])],[]⟩],fun x=>ce x.1 x.2⟩ func91 call91 (.gj 4 ⟨[kdB 13],[]⟩ [] (.two 8 .nil (.cl DQ [] .nil)) (.tw 13 .nil .nil))

def jg(xa:aQ)(xb:Int):Option Bool :=
 (cd xa xb).bind fun i19=>(ce xa i19).bind fun (i25,t26)=>some (t26&&(decide (i25=xb)))
def OX:=re ⟨115,⟨[(0,.dat (.ptr (.one (.sl Yq1)))),kdI 1],[]⟩,[⟨[kdB 0],[]⟩],fun x=>jg x.1 x.2⟩ func115 call115 (.cl dJ [] (.cl eD [] (.gp 3 .nil)))

def ol(xb:Int)(qa0:(List Int)):Option ((Bool×(List Int))) :=
 (ij xb).bind fun t1=>(cond (!t1) (some (true)) ((jg (some qa0) xb).bind fun t2=>some (t2))).bind fun t3=>cond (t3) (some ((false,qa0))) (((((cd (some qa0) xb).bind fun i4=>(dP qa0 i4 ([xb]:List Int)).bind fun l5=>some (l5)).bind fun x6=>((cd (some qa0) xb).bind fun i7=>(dP qa0 i7 ([xb]:List Int)).bind fun l8=>some (l8)).bind fun y9=>agr x6 y9 (some x6)).bind fun x10=>(((cd (some qa0) xb).bind fun i11=>((dP qa0 i11 ([xb]:List Int)).bind fun l12=>some (l12)).bind fun x13=>((dP qa0 i11 ([xb]:List Int)).bind fun l14=>some (l14)).bind fun y15=>agr x13 y15 (some x13)).bind fun x16=>(((cd (some qa0) xb).bind fun i17=>(dP qa0 i17 ([xb]:List Int)).bind fun l18=>some (l18)).bind fun x19=>((cd (some qa0) xb).bind fun i20=>(dP qa0 i20 ([xb]:List Int)).bind fun l21=>some (l21)).bind fun y22=>agr x19 y22 (some x19)).bind fun y23=>agr x16 y23 (some x16)).bind fun y24=>agr x10 y24 (some x10):Option (List Int)).bind fun l25=>some ((true,l25)))
def Mq:=re ⟨75,⟨[(0,.ptr 0 0),kdI 1],[bkN 197 [.own 3 Yq1]]⟩,[⟨[kdB 0],[bkC 0 197 [.own 3 Yq1]]⟩],fun x=>ol x.1 x.2⟩ func75 call75 (.cl DF [] (.wt 12 (.gj 3 ⟨[kdB 16],[]⟩ [] (.two 12 .nil (.cl OX [1,0] .nil)) (.tw 16 .nil (.tr (.still [0,1,2,3,5,6,8] (.alt 4 (.alt 7 (.alt 9 (.alt 10 (.still [11,12] (.alt 13 (.leaf []) .done)) .done) .done) (.alt 9 (.alt 7 (.alt 10 (.still [11,12] (.alt 13 (.leaf []) .done)) .done) .done) .done)) (.alt 7 (.alt 4 (.alt 9 (.alt 10 (.still [11,12] (.alt 13 (.leaf []) .done)) .done) .done) (.alt 9 (.alt 4 (.alt 10 (.still [11,12] (.alt 13 (.leaf []) .done)) .done) .done) .done)) (.alt 9 (.alt 4 (.alt 7 (.alt 10 (.still [11,12] (.alt 13 (.leaf []) .done)) .done) .done) (.alt 7 (.alt 4 (.alt 10 (.still [11,12] (.alt 13 (.leaf []) .done)) .done) .done) .done)) .done)))) ⟨[],[bkC 0 197 [.own 3 Yq1]]⟩ [1,0] (.two 0 (.two 0 (.cl dJ [1,0] (.cl jK [] .nil)) (.cl dJ [1,0] (.cl jK [] .nil))) (.two 0 (.cl dJ [1,0] (.two 0 (.cl jK [] .nil) (.cl jK [] .nil))) (.two 0 (.cl dJ [1,0] (.cl jK [] .nil)) (.cl dJ [1,0] (.cl jK [] .nil))))) .nil)))))
end
end
end Go.Proofs.YtpnmnbfbcgkcjaaGreatDoor

/- A part of the proof: what lies ahead of the law. Nothing is claimed here. -/
import Derived.Test.YtbheedkpbbmlcaaGreatDoorZ4
import Derived.Test.YtbheedkpbbmlcaaGreatDoorRows
import Derived.Lib.SplitLaws
import Derived.Lib.IndexMore
import Derived.Lib.Join
namespace Go.Proofs.YtbheedkpbbmlcaaGreatDoor
noncomputable section
set_option linter.unusedVariables false
set_option maxRecDepth 100000
set_option maxHeartbeats 4000000
section
open Go.RowKit _root_.Go.Proofs.Tryz
abbrev bkO (i:Nat) (o:OT):Bk:=⟨some i,0,[],false,false,some o,false⟩
abbrev bkC (i:Nat) (e:TypeId) (ks:List Kd):Bk:=⟨some i,e,ks,false,false,none,false⟩
abbrev bkN (e:TypeId) (ks:List Kd):Bk:=⟨none,e,ks,false,false,none,false⟩
abbrev bkU (i:Nat):Bk:=⟨some i,0,[],false,true,none,false⟩
abbrev bkM:Bk:=⟨none,0,[],false,true,none,false⟩
abbrev kdI (i:Nat):Nat×Kd:=(i,.dat (.int .i64))
abbrev kdB (i:Nat):Nat×Kd:=(i,.dat .bool)
abbrev Tq1:Type:=(Int×Int×(List (Int×Int))×(List (List (Int×Bool)))×(List (Int×Bool))×(List (Int×(List (Int×Int))×(List (List (Int×Bool)))×(List (Int×Bool))))×(List ((List (Int×Int×Int×Int×Bool))×(Int×Int×Int×(List Int)×(List Int)×(List Int)))))
abbrev Yq1:Tp:=(.cons (.int .i64) (.cons (.int .i64) (.cons (.sl (.cons (.int .i64) (.one (.int .i64)))) (.cons (.sl (.one (.sl (.cons (.int .i64) (.one .bool))))) (.cons (.one (.sl (.cons (.int .i64) (.one .bool)))) (.cons (.sl (.cons (.int .i64) (.cons (.sl (.cons (.int .i64) (.one (.int .i64)))) (.cons (.sl (.one (.sl (.cons (.int .i64) (.one .bool))))) (.one (.one (.sl (.cons (.int .i64) (.one .bool))))))))) (.one (.sl (.cons (.sl (.cons (.int .i64) (.cons (.int .i64) (.cons (.int .i64) (.cons (.int .i64) (.one .bool)))))) (.one (.cons (.int .i64) (.cons (.int .i64) (.cons (.int .i64) (.cons (.sl (.int .i64)) (.cons (.sl (.int .i64)) (.one (.sl (.int .i64))))))))))))))))))
abbrev Yq2:Tp:=(.int .i64)
abbrev Tq2:Type:=((List (Int×Int×Int×Int×Bool))×(Int×Int×Int×(List Int)×(List Int)×(List Int)))
abbrev Tq3:Type:=(Int×(List (Int×Int))×(List (List (Int×Bool)))×(List (Int×Bool)))
abbrev Yq3:Tp:=(.cons Yq2 (.one .bool))
abbrev Yq4:Tp:=(.cons Yq2 (.cons Yq2 (.cons Yq2 (.cons (.sl Yq2) (.cons (.sl Yq2) (.one (.sl Yq2)))))))
abbrev Tq4:Type:=(List (Int×Bool))
abbrev Tq5:Type:=(List UInt8)
abbrev Yq5:Tp:=(.cons Yq2 (.one Yq2))
abbrev Yq6:Tp:=(.cons Yq2 (.cons Yq2 (.cons Yq2 Yq3)))
abbrev Tq6:Type:=(List (Int×(Int×Int×Int×Int)))
abbrev Yq7:Tp:=(.one (.sl Yq3))
abbrev Tq7:Type:=(Int×Int×Int×Int×Bool)
abbrev Tq8:Type:=(List (Int×Int))
abbrev Yq8:Tp:=(.cons Yq2 (.one (.cons Yq2 (.cons Yq2 Yq5))))
abbrev Tq9:Type:=(Int×Int×Tq8×(List Tq4)×Tq4×(List Tq3)×(List Tq2)×Int×Int×List UInt8)
abbrev cA:Type:=(Int×Int×Int×Int)
abbrev mS:Type:=(Int×Int×Tq8×(List Tq4)×Tq4×(List Tq3)×(List Tq2)×Int×Int)
abbrev b6:Type:=(List UInt8×Int)
abbrev ck:Type:=((List Tq5)×Int)
abbrev Yq9:Tp:=(.cons Yq2 (.cons (.sl Yq5) (.cons (.sl Yq7) (.one Yq7))))
abbrev gS:Type:=(Int×Int×Int×(List Int)×(List Int)×(List Int))
abbrev aT:Type:=(Int×Int)
abbrev qR:Type:=((Int×Int×Tq8×(List Tq4)×Tq4×(List Tq3)×(List Tq2)×Int×(List Tq5)×Int))
abbrev dH:Type:=((List Tq7)×Int)
abbrev iI:Type:=(Int×Int×Int×Int×Int)
abbrev uL:Type:=(Int×Int×Int×Tq8×(List Tq4)×Tq4×(List Tq3)×(List Tq2)×Int×Bool)
abbrev uK:Type:=(Int×Int×Tq8×(List Tq4)×Tq4×(List Tq3)×(List Tq2)×Tq6×Int×Int)
abbrev kb:Type:=((List Tq5)×Int×Int)
instance nob:BldA:=⟨105,Bld,fun h=>Bld.fresh h,Gk,Gk.monoC⟩
def Fp:OkSpec Tryz.prog:=⟨tK,FT (fun _ h=>h),call85⟩
def io:OkSpec Tryz.prog:=⟨sy,Ea (fun _ h=>h),call20⟩
def Dz:OkSpec Tryz.prog:=⟨sP,Dr (fun _ h=>h),call89⟩
def BK:OkSpec Tryz.prog:=⟨rO,BE (fun _ _=>rfl),call155⟩
def vu:OkSpec Tryz.prog:=⟨rI,Bh (fun _ _=>rfl),call60⟩
def Ca:OkSpec Tryz.prog:=⟨rZ,Cj (fun _ _=>rfl),call61⟩

def ie (xa:Tq4) (xb:Int):Option Bool :=
 some (decide ((xa.length:Int)≤xb))
def hQ0:Hn Tryz.prog := .nil
def sQ0:Spec:=⟨69,⟨[(0,.dat Yq7),kdI 1],[]⟩,[⟨[kdB 0],[]⟩],fun x=>ie x.1 x.2⟩
def oQ0:OkSpec Tryz.prog:=⟨sQ0,ah func69 hQ0 (by kernel_rfl) (by kernel_rfl),call69⟩
def vq (xa:Tq3):Int→Option (Int⊕(Unit⊕Bool)):=fun i1=>cond (decide (i1 < (xa.2.2.1.length:Int))) ((aa xa.2.2.1 i1).bind fun x2=>(ie x2 20).bind fun t3=>cond (!t3) (some (.inr ((.inr (false))))) (some (.inl (IntKind.wrap .i64 (i1 + 1))))) (some (.inr ((.inl ()))))
def ge (xa:Tq3):Option Bool :=
 (cond ((decide (20 < (xa.2.1.length:Int)))||(decide (20 < (xa.2.2.1.length:Int)))) (some (true)) ((ie xa.2.2.2 20).bind fun t1=>some (!t1))).bind fun t2=>cond (t2) (some (false)) ((loop (vq xa) 0).bind fun o=>match o with | .inr r=>some r | .inl ()=>some (true))
def hQ1:Hn Tryz.prog := .gp 4 (.wt 14 (.gj 4 ⟨[kdB 19],[]⟩ [] (.two 14 .nil (.cl oQ0 [] .nil)) (.tw 19 .nil (.jx [] ⟨[],[]⟩ [] (.lp ⟨[kdI 3],[]⟩ (.tw 24 (.cl oQ0 [] (.tw 33 .nil .nil)) .nil)) .nil))))
def sQ1:Spec:=⟨70,⟨[(0,.dat Yq9)],[]⟩,[⟨[kdB 0],[]⟩],fun x=>ge x⟩
def oQ1:OkSpec Tryz.prog:=⟨sQ1,ah func70 hQ1 (by kernel_rfl) (by kernel_rfl),call70⟩
def vo (xa:Tq1):Int→Option (Int⊕(Unit⊕Bool)):=fun i1=>cond (decide (i1 < (xa.2.2.2.1.length:Int))) ((aa xa.2.2.2.1 i1).bind fun x2=>(ie x2 20).bind fun t3=>cond (!t3) (some (.inr ((.inr (false))))) (some (.inl (IntKind.wrap .i64 (i1 + 1))))) (some (.inr ((.inl ()))))
def iR (xa:Tq1):Int→Option (Int⊕(Unit⊕Bool)):=fun i1=>cond (decide (i1 < (xa.2.2.2.2.2.1.length:Int))) ((aa xa.2.2.2.2.2.1 i1).bind fun x2=>(ge (x2.1,x2.2.1,x2.2.2.1,x2.2.2.2)).bind fun t3=>cond (!t3) (some (.inr ((.inr (false))))) (some (.inl (IntKind.wrap .i64 (i1 + 1))))) (some (.inr ((.inl ()))))
def gZ (xa:Tq1):aT→Option (aT⊕(Int⊕Bool)):=fun (i1,i2)=>cond (decide (i2 < (xa.2.2.2.2.2.2.length:Int))) ((aa xa.2.2.2.2.2.2 i2).bind fun x3=>(aa xa.2.2.2.2.2.2 i2).bind fun x4=>cond (((decide (20 < (x3.2.2.2.2.1.length:Int)))||(decide (20 < (x3.2.2.2.2.2.1.length:Int))))||(decide (20 < (x3.2.2.2.2.2.2.length:Int)))) (some (.inr ((.inr (false))))) (some (.inl ((IntKind.wrap .i64 (i1 + (x4.1.length:Int)),IntKind.wrap .i64 (i2 + 1)))))) (some (.inr (.inl i1)))
def iZ (xa:Tq1):Option Bool :=
 (cond ((((decide (20 < (xa.2.2.1.length:Int)))||(decide (10 < (xa.2.2.2.1.length:Int))))||(decide (4 < (xa.2.2.2.2.2.1.length:Int))))||(decide (8 < (xa.2.2.2.2.2.2.length:Int)))) (some (true)) ((ie xa.2.2.2.2.1 20).bind fun t1=>some (!t1))).bind fun t2=>cond (t2) (some (false)) ((loop (vo xa) 0).bind fun o=>match o with | .inr r=>some r | .inl ()=>(loop (iR xa) 0).bind fun o=>match o with | .inr r=>some r | .inl ()=>(loop (gZ xa) (0,0)).bind fun o=>match o with | .inr r=>some r | .inl i3=>some (decide (i3≤24)))
def hQ2:Hn Tryz.prog := .gp 4 (.wt 18 (.gp 4 (.wt 24 (.gp 4 (.wt 30 (.gj 4 ⟨[kdB 35],[]⟩ [] (.two 30 .nil (.cl oQ0 [] .nil)) (.tw 35 .nil (.jx [] ⟨[],[]⟩ [] (.lp ⟨[kdI 3],[]⟩ (.tw 40 (.cl oQ0 [] (.tw 49 .nil .nil)) .nil)) (.jx [] ⟨[],[]⟩ [] (.lp ⟨[kdI 4],[]⟩ (.tw 54 (.cl oQ1 [] (.tw 63 .nil .nil)) .nil)) (.jx [] ⟨[kdI 5],[]⟩ [] (.lp ⟨[kdI 5,kdI 6],[]⟩ (.tw 68 (.gp 4 (.wt 96 (.gp 4 (.tw 101 .nil .nil)))) .nil)) .nil))))))))))
def sQ2:Spec:=⟨32,⟨[(0,.dat Yq1)],[]⟩,[⟨[kdB 0],[]⟩],fun x=>iZ x⟩
def oQ2:OkSpec Tryz.prog:=⟨sQ2,ah func32 hQ2 (by kernel_rfl) (by kernel_rfl),call32⟩

def rK (xa:(Tq1×Tq6)):Option Bool :=
 (iZ xa.1).bind fun t14=>some (t14&&(decide ((xa.2.length:Int)≤12)))
def hQ3:Hn Tryz.prog := .cl oQ2 [] (.gp 4 .nil)
def sQ3:Spec:=⟨10,⟨[(0,.dat (.cons Yq1 (.one (.sl Yq8))))],[]⟩,[⟨[kdB 0],[]⟩],fun x=>rK x⟩
def oQ3:OkSpec Tryz.prog:=⟨sQ3,ah func10 hQ3 (by kernel_rfl) (by kernel_rfl),call10⟩

def kQ  : Option ((List Tq5)) :=
 some (([([99,104,101,99,107]:List UInt8),([99,111,110,115]:List UInt8),([108,105,118,101]:List UInt8),([118,97,108,117,101]:List UInt8),([119,104,121]:List UInt8),([115,117,103,103,101,115,116]:List UInt8),([116,114,105,109]:List UInt8),([101,100,105,116]:List UInt8),([112,114,111,118,101]:List UInt8),([112,114,105,110,116]:List UInt8)]:List Tq5))
def hQ4:Hn Tryz.prog := .nil
def sQ4:Spec:=⟨42,⟨[],[]⟩,[⟨[(0,.own 9 .str)],[]⟩],fun x=>kQ⟩
def oQ4:OkSpec Tryz.prog:=⟨sQ4,ah func42 hQ4 (by kernel_rfl) (by kernel_rfl),call42⟩

def qZ (xa:Tq5) (qa0:(List Tq5)):Option Bool :=
 (aa qa0 0).bind fun x11=>some (decide (xa=x11))
def hQ5:Hn Tryz.prog := .nil
def sQ5:Spec:=⟨43,⟨[(0,.dat .str),(1,.ptr 0 0)],[bkN 55 [.is 1 (.dat (.sl .str))],bkM]⟩,[⟨[kdB 0],[bkC 0 55 [.is 1 (.any)],bkU 1]⟩],fun x=>qZ x.1 x.2⟩
def oQ5:OkSpec Tryz.prog:=⟨sQ5,ah func43 hQ5 (by kernel_rfl) (by kernel_rfl),call43⟩
def qS (xa:(List Tq5)) (qa0:(List Tq5)):Int→Option (Int⊕(Unit⊕Int)):=fun i1=>cond (decide (i1 < (xa.length:Int))) ((aa xa i1).bind fun x2=>(qZ x2 qa0).bind fun t3=>cond (t3) (some (.inr ((.inr (i1))))) (some (.inl (IntKind.wrap .i64 (i1 + 1))))) (some (.inr ((.inl ()))))
def m6 (xa:(List Tq5)) (qa0:(List Tq5)):Option Int :=
 (loop (qS xa qa0) 0).bind fun o=>match o with | .inr r=>some r | .inl ()=>some ((-1))
def hQ6:Hn Tryz.prog := .jx [] ⟨[],[bkC 0 55 [.is 1 (.any)],bkU 1]⟩ [0] (.lp ⟨[kdI 8],[bkC 0 55 [.is 1 (.any)],bkU 1]⟩ (.tw 9 (.cl oQ5 [] (.tw 16 .nil .nil)) .nil)) .nil
def sQ6:Spec:=⟨21,⟨[(0,.dat (.sl .str)),(1,.fn 43 [.ptr 0 0])],[bkN 55 [.is 1 (.dat (.sl .str))],bkM]⟩,[⟨[kdI 0],[bkC 0 55 [.is 1 (.any)],bkU 1]⟩],fun x=>m6 x.1 x.2⟩
def oQ6:OkSpec Tryz.prog:=⟨sQ6,ah func21 hQ6 (by kernel_rfl) (by kernel_rfl),call21⟩

def n5 (xa:Int):Option Int :=
 cond (decide (xa=2)) (some (2)) (cond (decide (xa=3)) (some (2)) (cond (decide (xa=4)) (some (2)) (cond (decide (xa=7)) (some (5)) (some (1)))))
def hQ7:Hn Tryz.prog := .two 4 .nil (.two 4 .nil (.tw 4 .nil (.tw 8 .nil .nil)))
def sQ7:Spec:=⟨44,⟨[kdI 0],[]⟩,[⟨[kdI 0],[]⟩],fun x=>n5 x⟩
def oQ7:OkSpec Tryz.prog:=⟨sQ7,ah func44 hQ7 (by kernel_rfl) (by kernel_rfl),call44⟩
def vi (xa:Tq5):Int→Option (Int⊕(Unit⊕Bool)):=fun i1=>cond (decide (i1 < (xa.length:Int))) ((aa xa i1).bind fun x2=>(cond (decide ((((x2.toNat:Nat):Int)) < 48)) (some (true)) ((aa xa i1).bind fun x3=>some (decide (57 < (((x3.toNat:Nat):Int)))))).bind fun t4=>cond (t4) (some (.inr ((.inr (false))))) (some (.inl (IntKind.wrap .i64 (i1 + 1))))) (some (.inr ((.inl ()))))
def nB (xa:Tq5):Option Bool :=
 (cond (decide (xa=([]:List UInt8))) (some (true)) ((cond (decide (1 < (xa.length:Int))) ((aa xa 0).bind fun x1=>some (decide ((((x1.toNat:Nat):Int))=48))) (some (false))).bind fun t2=>some (t2))).bind fun t3=>cond (t3) (some (false)) ((loop (vi xa) 0).bind fun o=>match o with | .inr r=>some r | .inl ()=>some (true))
def hQ8:Hn Tryz.prog := .gj 8 ⟨[kdB 15],[]⟩ [] (.two 6 .nil (.wt 10 (.gj 3 ⟨[kdB 14],[]⟩ [] (.two 10 .nil .nil) .nil))) (.tw 15 .nil (.jx [] ⟨[],[]⟩ [] (.lp ⟨[kdI 3],[]⟩ (.tw 19 (.gj 4 ⟨[kdB 31],[]⟩ [] (.two 26 .nil .nil) (.tw 31 .nil .nil)) .nil)) .nil))
def sQ8:Spec:=⟨113,⟨[(0,.dat .str)],[]⟩,[⟨[kdB 0],[]⟩],fun x=>nB x⟩
def oQ8:OkSpec Tryz.prog:=⟨sQ8,ah func113 hQ8 (by kernel_rfl) (by kernel_rfl),call113⟩
def fj (xa:Tq5) (xb:Int):aT→Option (aT⊕(Int⊕aT)):=fun (i1,i2)=>cond (decide (i2 < (xa.length:Int))) ((aa xa i2).bind fun x3=>cond ((decide (xb < (IntKind.wrap .i64 (IntKind.wrap .u8 ((((x3.toNat:Nat):Int)) - 48)))))||(decide ((IntKind.wrap .i64 (Int.tdiv (IntKind.wrap .i64 (xb - (IntKind.wrap .i64 (IntKind.wrap .u8 ((((x3.toNat:Nat):Int)) - 48))))) 10)) < i1))) (some (.inr ((.inr ((0,5)))))) (some (.inl ((IntKind.wrap .i64 ((IntKind.wrap .i64 (i1 * 10)) + (IntKind.wrap .i64 (IntKind.wrap .u8 ((((x3.toNat:Nat):Int)) - 48)))),IntKind.wrap .i64 (i2 + 1)))))) (some (.inr (.inl i1)))
def fp (xa:Tq5) (xb:Int):Option aT :=
 (nB xa).bind fun t88=>cond (!t88) (some ((0,3))) ((loop (fj xa xb) (0,0)).bind fun o=>match o with | .inr r=>some r | .inl i1=>some ((i1,0)))
def hQ9:Hn Tryz.prog := .cl oQ8 [] (.tw 11 .nil (.jx [] ⟨[kdI 6],[]⟩ [] (.lp ⟨[kdI 6,kdI 7],[]⟩ (.tw 15 (.gp 6 (.tw 33 .nil .nil)) .nil)) .nil))
def sQ9:Spec:=⟨84,⟨[(0,.dat .str),kdI 1],[]⟩,[⟨[(0,.tup [.dat Yq2,.dat Yq2])],[]⟩],fun x=>fp x.1 x.2⟩
def oQ9:OkSpec Tryz.prog:=⟨sQ9,ah func84 hQ9 (by kernel_rfl) (by kernel_rfl),call84⟩

def dm (xa:Tq5):Option aT :=
 (fp xa 1048576).bind fun (i13,i14)=>some ((i13,i14))
def JH:Hn Tryz.prog := .cl oQ9 [] .nil
def Le:Spec:=⟨45,⟨[(0,.dat .str)],[]⟩,[⟨[(0,.tup [.dat Yq2,.dat Yq2])],[]⟩],fun x=>dm x⟩
def Aq:OkSpec Tryz.prog:=⟨Le,ah func45 JH (by kernel_rfl) (by kernel_rfl),call45⟩

def gY (xa:Tq5) (xb:Int):Option (Int×Int×Int) :=
 (m4 xa ([58]:List UInt8)).bind fun (s33,s34,t35)=>cond (!t35) (some ((0,0,3))) ((fp s33 xb).bind fun (i42,i43)=>cond (!decide (i43=0)) (some ((0,0,i43))) ((fp s34 xb).bind fun (i50,i51)=>cond (!decide (i51=0)) (some ((0,0,i51))) (some ((i42,i50,0)))))
def JN:Hn Tryz.prog := .cl Fp [] (.tw 19 .nil (.cl oQ9 [] (.tw 28 .nil (.cl oQ9 [] (.tw 38 .nil .nil)))))
def Lt:Spec:=⟨46,⟨[(0,.dat .str),kdI 1],[]⟩,[⟨[(0,.tup [.agg [.dat Yq2,.dat Yq2],.dat Yq2])],[]⟩],fun x=>gY x.1 x.2⟩
def AG:OkSpec Tryz.prog:=⟨Lt,ah func46 JN (by kernel_rfl) (by kernel_rfl),call46⟩

def lG (xa:Int):Option Tq5 :=
 cond (decide (xa=1)) (some (([98,108,97,110,107]:List UInt8))) (cond (decide (xa=2)) (some (([100,114,111,112]:List UInt8))) (cond (decide (xa=3)) (some (([116,119,105,99,101]:List UInt8))) (cond (decide (xa=4)) (some (([115,119,97,112]:List UInt8))) (cond (decide (xa=5)) (some (([114,101,103,105,111,110]:List UInt8))) (cond (decide (xa=6)) (some (([108,111,110,101]:List UInt8))) (cond (decide (xa=7)) (some (([100,101,99,108,97,114,101]:List UInt8))) (cond (decide (xa=8)) (some (([117,110,100,101,99,108,97,114,101]:List UInt8))) (some (([63]:List UInt8))))))))))
def Ku:Hn Tryz.prog := .tw 4 .nil (.tw 6 .nil (.tw 8 .nil (.tw 10 .nil (.tw 12 .nil (.tw 14 .nil (.tw 16 .nil (.tw 18 .nil .nil)))))))
def Mp:Spec:=⟨50,⟨[kdI 0],[]⟩,[⟨[(0,.dat .str)],[]⟩],fun x=>lG x⟩
def Ap:OkSpec Tryz.prog:=⟨Mp,ah func50 Ku (by kernel_rfl) (by kernel_rfl),call50⟩
def kT (xa:Tq5):Int→Option (Int⊕(Unit⊕(Int×Bool))):=fun i96=>cond (decide (i96≤8)) ((lG i96).bind fun s1=>cond (decide (s1=xa)) (some (.inr ((.inr ((i96,true)))))) (some (.inl (IntKind.wrap .i64 (i96 + 1))))) (some (.inr ((.inl ()))))
def ou (xa:Tq5):Option (Int×Bool) :=
 (loop (kT xa) 1).bind fun o=>match o with | .inr r=>some r | .inl ()=>some ((0,false))
def IQ:Hn Tryz.prog := .jx [] ⟨[],[]⟩ [] (.lp ⟨[kdI 4],[]⟩ (.tw 6 (.cl Ap [] (.tw 12 .nil .nil)) .nil)) .nil
def Jo:Spec:=⟨86,⟨[(0,.dat .str)],[]⟩,[⟨[(0,.tup [.dat Yq2,.dat .bool])],[]⟩],fun x=>ou x⟩
def Jv:OkSpec Tryz.prog:=⟨Jo,ah func86 IQ (by kernel_rfl) (by kernel_rfl),call86⟩
def vl (y1:List Tq5):iI→Option (iI⊕(cA⊕iI)):=fun (i2,i3,i4,i5,i6)=>cond (decide (i2 < (y1.length:Int))) ((aa y1 i2).bind fun x7=>(dm x7).bind fun (i9,i10)=>cond (!decide (i10=0)) (some (.inr ((.inr ((i3,i4,i5,i6,i10)))))) (cond (decide (IntKind.wrap .i64 (i2 + 1)=((0:Nat):Int))) (some (.inl ((IntKind.wrap .i64 (i2 + 1),i9,i4,i5,i6)))) (cond (decide (IntKind.wrap .i64 (i2 + 1)=((1:Nat):Int))) (some (.inl ((IntKind.wrap .i64 (i2 + 1),i3,i9,i5,i6)))) (cond (decide (IntKind.wrap .i64 (i2 + 1)=((2:Nat):Int))) (some (.inl ((IntKind.wrap .i64 (i2 + 1),i3,i4,i9,i6)))) (cond (decide (IntKind.wrap .i64 (i2 + 1)=((3:Nat):Int))) (some (.inl ((IntKind.wrap .i64 (i2 + 1),i3,i4,i5,i9)))) (none)))))) (some (.inr ((.inl (i3,i4,i5,i6)))))
def iU (xa:(List Tq5)):Option iI :=
 (aa xa 0).bind fun x1=>(ou x1).bind fun (i2,t3)=>cond (!t3) (some ((0,0,0,0,3))) ((subL xa 1 (xa.length:Int)).bind fun y4=>(loop (vl y4) (0,i2,0,0,0)).bind fun o=>match o with | .inr r=>some r | .inl (i5,i6,i7,i9)=>some ((i5,i6,i7,i9,0)))
def IW:Hn Tryz.prog := .cl Jv [] (.tw 19 .nil (.jx [] ⟨[],[bkC 0 50 [.lit (.int .i64 0),.lit (.int .i64 0),.lit (.int .i64 0),.lit (.int .i64 0)],bkC 2 50 [.dat Yq2,.dat Yq2,.dat Yq2,.dat Yq2]]⟩ [2,0] (.lp ⟨[kdI 26],[bkC 0 50 [.lit (.int .i64 0),.lit (.int .i64 0),.lit (.int .i64 0),.lit (.int .i64 0)],bkC 2 50 [.dat Yq2,.dat Yq2,.dat Yq2,.dat Yq2]]⟩ (.tw 27 (.cl Aq [] (.tw 37 .nil .nil)) .nil)) .nil))
def KW:Spec:=⟨47,⟨[(0,.dat (.sl .str))],[]⟩,[⟨[(0,.tup [.agg [.dat Yq2,.dat Yq2,.dat Yq2,.dat Yq2],.dat Yq2])],[]⟩],fun x=>iU x⟩
def IZ:OkSpec Tryz.prog:=⟨KW,ah func47 IW (by kernel_rfl) (by kernel_rfl),call47⟩

def iT (xa:(List Tq5)):Option (Int×Int×Int×Int×Int×Int) :=
 cond (decide ((xa.length:Int)=0)) (some ((0,0,0,0,0,3))) ((kQ).bind fun l1=>(m6 l1 xa).bind fun i2=>cond (decide (i2 < 0)) (some ((0,0,0,0,0,3))) ((n5 i2).bind fun i3=>cond (!decide ((xa.length:Int)=i3)) (some ((0,0,0,0,0,3))) (((cond (decide (i2=2)) (some (decide (i2=2))) (some (decide (i2=3))):Option Bool).bind fun t4=>cond (t4) ((aa xa 1).bind fun x5=>(dm x5).bind fun (i6,i7)=>some ((i7,i6,0,0,0))) (cond (decide (i2=4)) ((aa xa 1).bind fun x9=>(gY x9 1048576).bind fun (i10,i11,i12)=>some ((i12,i10,i11,0,0))) (cond (decide (i2=7)) ((subL xa 1 (xa.length:Int)).bind fun y13=>(iU y13).bind fun (i14,i15,i16,i17,i18)=>some ((i18,i14,i15,i16,i17))) (some ((0,0,0,0,0))))):Option iI).bind fun (i19,i20,i21,i22,i23)=>cond (!decide (i19=0)) (some ((0,0,0,0,0,i19))) (some ((i2,i20,i21,i22,i23,0))))))
def Ik:Hn Tryz.prog := .tw 9 .nil (.cl oQ4 [] (.wt 1000006 (.mc 0 0 1 (.cl oQ6 [4] (.mix [([0,1,2,3,4,5,6,7],8)] [9,10] [] [] (.two 18 .nil (.cl oQ7 [] (.tw 25 .nil (.pl (.sq [(9,0)] ⟨[kdI 5],[bkC 9 59 [.is 1 (.any),.dat Yq2,.dat Yq2,.dat Yq2,.dat Yq2],bkU 12]⟩ [9] (.pl (.sq [] ⟨[kdB 29],[]⟩ [] (.tw 29 .nil .nil) (.tw 29 (.cl Aq [] .nil) (.tw 41 (.cl AG [] (.mix [([0,1,2,3,4,5,7],6)] [8] [9] [9] .nil)) (.tw 58 (.cl IZ [] .nil) .nil))))) (.tw 68 .nil .nil)))))))))))
def LI:Spec:=⟨18,⟨[(0,.dat (.sl .str))],[]⟩,[⟨[(0,.tup [.agg [.dat Yq2,.dat Yq2,.dat Yq2,.dat Yq2,.dat Yq2],.dat Yq2])],[]⟩],fun x=>iT x⟩
def u6:OkSpec Tryz.prog:=⟨LI,ah func18 Ik (by kernel_rfl) (by kernel_rfl),call18⟩

def iX (xa:aT):Option Tq5 :=
 cond ((decide (xa.1 < 0))||(decide (xa.2 < 0))) (some (([]:List UInt8))) ((bH xa.1).bind fun s1=>(app s1 ([58]:List UInt8)).bind fun z2=>(bH xa.2).bind fun s3=>(app z2 s3).bind fun z4=>some (z4))
def LB:Hn Tryz.prog := .gp 3 (.tw 10 .nil (.mix [([0,1,4,5],2),([3],6)] [7,8] [] [] (.cl cu [] (.cl cu [] .nil))))
def Ju:Spec:=⟨49,⟨[(0,.dat Yq5)],[]⟩,[⟨[(0,.dat .str)],[]⟩],fun x=>iX x⟩
def AS:OkSpec Tryz.prog:=⟨Ju,ah func49 LB (by kernel_rfl) (by kernel_rfl),call49⟩

def iY (xa:(Int×cA)):Option Tq5 :=
 (kQ).bind fun l1=>cond ((decide (xa.1 < 0))||(decide ((l1.length:Int)≤xa.1))) (some (([63]:List UInt8))) ((aa l1 xa.1).bind fun x2=>(cond (decide (xa.1=2)) (some (decide (xa.1=2))) (some (decide (xa.1=3))):Option Bool).bind fun t3=>cond (t3) ((bH xa.2.1).bind fun s4=>(app (([x2]:List Tq5)) (([s4]:List Tq5))).bind fun z5=>(cO z5 ([32]:List UInt8)).bind fun s6=>some (s6)) (cond (decide (xa.1=4)) ((iX (xa.2.1,xa.2.2.1)).bind fun s7=>(app (([x2]:List Tq5)) (([s7]:List Tq5))).bind fun z9=>(cO z9 ([32]:List UInt8)).bind fun s10=>some (s10)) (cond (decide (xa.1=7)) ((lG xa.2.1).bind fun s11=>(app (([x2]:List Tq5)) (([s11]:List Tq5))).bind fun z12=>(bH xa.2.2.1).bind fun s13=>(app z12 (([s13]:List Tq5))).bind fun z14=>(bH xa.2.2.2.1).bind fun s15=>(app z14 (([s15]:List Tq5))).bind fun z16=>(bH xa.2.2.2.2).bind fun s17=>(app z16 (([s17]:List Tq5))).bind fun z18=>(cO z18 ([32]:List UInt8)).bind fun s19=>some (s19)) ((cO (([x2]:List Tq5)) ([32]:List UInt8)).bind fun s20=>some (s20)))))
def Mi:Hn Tryz.prog := .cl oQ4 [] (.gp 5 (.tw 17 .nil (.pl (.pl (.pl (.sq [] ⟨[kdB 26],[]⟩ [] (.tw 26 .nil .nil) (.tw 26 (.cl cu [] (.cl fJ [8] .nil)) (.tw 36 (.cl AS [] (.cl fJ [8] .nil)) (.tw 49 (.cl Ap [] (.un 64 (.cl cu [] (.cl cu [] (.cl cu [] (.cl fJ [20] .nil)))))) (.cl fJ [4] .nil))))))))))
def IH:Spec:=⟨19,⟨[(0,.dat Yq8)],[]⟩,[⟨[(0,.dat .str)],[]⟩],fun x=>iY x⟩
def AJ:OkSpec Tryz.prog:=⟨IH,ah func19 Mi (by kernel_rfl) (by kernel_rfl),call19⟩

def la  : Option Bool :=
 (iT (([([119,104,121]:List UInt8),([49,58,50]:List UInt8)]:List Tq5))).bind fun (i69,i70,i71,i72,i73,i74)=>(iT (([([101,100,105,116]:List UInt8),([100,114,111,112]:List UInt8),([48]:List UInt8),([49]:List UInt8),([48]:List UInt8)]:List Tq5))).bind fun (i87,i88,i89,i90,i91,i92)=>(cond ((((decide (i74=0))&&(decide (i92=0)))&&((decide (i69=4))&&(((decide (i70=1))&&((decide (i71=2))&&((decide (i72=0))&&((decide (i73=0)))))))))&&((decide (i87=7))&&(((decide (i88=2))&&((decide (i89=0))&&((decide (i90=1))&&((decide (i91=0))))))))) ((iY ((i87,(i88,i89,i90,i91)))).bind fun s1=>some (decide (s1=([101,100,105,116,32,100,114,111,112,32,48,32,49,32,48]:List UInt8)))) (some (false))).bind fun t2=>some (t2)
def Bl:Hn Tryz.prog := .cl u6 [0] (.cl u6 [5] (.gp 2 (.wt 21 (.gp 4 (.wt 27 (.gp 4 (.wt 33 (.gj 3 ⟨[kdB 37],[]⟩ [] (.two 33 (.cl AJ [] .nil) .nil) .nil))))))))
def vv:Spec:=⟨5,⟨[],[]⟩,[⟨[kdB 0],[]⟩],fun x=>la⟩
theorem Bc:cw Tryz.prog vv:=ah func5 Bl (by kernel_rfl) (by kernel_rfl)
def vw:OkSpec Tryz.prog:=⟨vv,Bc,call5⟩
def kP (xa:(Tq1×Tq6)):(Int×Tq6)→Option ((Int×Tq6)⊕Tq6):=fun (i1,l2)=>cond (decide (i1 < (xa.2.length:Int))) ((aa xa.2 i1).bind fun x3=>(aa xa.2 i1).bind fun x4=>(app l2 (([(x3.1,(x4.2.1,x4.2.2.1,x4.2.2.2.1,x4.2.2.2.2))]:List (Int×cA)))).bind fun z5=>some (.inl ((IntKind.wrap .i64 (i1 + 1),z5)))) (some (.inr (l2)))
def om (xa:(Tq1×Tq6)):Option ((Int×Int×Tq8×(List Tq4)×Tq4×(List Tq3)×(List Tq2)×Tq6)) :=
 (loop (kP xa) (0,[])).bind fun l1=>some ((xa.1.1,xa.1.2.1,xa.1.2.2.1,xa.1.2.2.2.1,xa.1.2.2.2.2.1,xa.1.2.2.2.2.2.1,xa.1.2.2.2.2.2.2,l1))
def BI:Hn Tryz.prog := .jn [(4,0),(4,1),(4,2),(4,3),(4,4),(4,5),(4,6)] ⟨[],[bkC 4 34 [.is 1 (.any),.is 2 (.any),.is 3 (.any),.is 4 (.any),.is 5 (.any),.is 6 (.any),.is 7 (.any),.own 59 Yq8],bkU 7,bkU 8,bkU 9,bkU 10,bkU 11,bkU 12,bkU 13]⟩ [4] (.lp ⟨[kdI 4],[bkC 4 34 [.is 1 (.any),.is 2 (.any),.is 3 (.any),.is 4 (.any),.is 5 (.any),.is 6 (.any),.is 7 (.any),.own 59 Yq8],bkU 7,bkU 8,bkU 9,bkU 10,bkU 11,bkU 12,bkU 13]⟩ (.tw 12 (.mix [([0,1,2,3,4,5,6,7,8,9,10,11,12,13,14],15)] [] [16,17,18] [] .nil) .nil)) .nil
def vD:Spec:=⟨12,⟨[(0,.dat (.cons Yq1 (.one (.sl Yq8))))],[]⟩,[⟨[(0,.agg [.dat Yq2,.dat Yq2,.dat (.sl Yq5),.dat (.sl Yq7),.dat (.sl Yq3),.dat (.sl Yq9),.dat (.sl (.cons (.sl Yq6) (.one Yq4))),.own 59 Yq8])],[]⟩],fun x=>om x⟩
theorem Bx:cw Tryz.prog vD:=ah func12 BI (by kernel_rfl) (by kernel_rfl)
def Bp:OkSpec Tryz.prog:=⟨vD,Bx,call12⟩

def bC (xa:(List Tq5)):Option Tq5 :=
 (cO xa ([32]:List UInt8)).bind fun s10=>some (s10)
def Kl:Hn Tryz.prog := .cl fJ [] .nil
def Ir:Spec:=⟨71,⟨[(0,.dat (.sl .str))],[]⟩,[⟨[(0,.dat .str)],[]⟩],fun x=>bC x⟩
def dE:OkSpec Tryz.prog:=⟨Ir,ah func71 Kl (by kernel_rfl) (by kernel_rfl),call71⟩
def ru (xb:Tq8):ck→Option (ck⊕(List Tq5)):=fun (l1,i2)=>cond (decide (i2 < (xb.length:Int))) ((aa xb i2).bind fun x3=>(iX (x3.1,x3.2)).bind fun s4=>(app l1 (([s4]:List Tq5))).bind fun z5=>some (.inl ((z5,IntKind.wrap .i64 (i2 + 1))))) (some (.inr (l1)))
def lj (xa:Tq5) (xb:Tq8):Option Tq5 :=
 (loop (ru xb) ((([xa]:List Tq5),0))).bind fun l1=>(bC l1).bind fun s2=>some (s2)
def JK:Hn Tryz.prog := .jn [] ⟨[(5,.own 9 .str),(9,.any)],[]⟩ [0] (.lp ⟨[(5,.own 9 .str),kdI 12],[]⟩ (.tw 13 (.cl AS [] .nil) .nil)) (.cl dE [2] .nil)
def Jw:Spec:=⟨72,⟨[(0,.dat .str),(1,.dat (.sl Yq5))],[]⟩,[⟨[(0,.dat .str)],[]⟩],fun x=>lj x.1 x.2⟩
def Am:OkSpec Tryz.prog:=⟨Jw,ah func72 JK (by kernel_rfl) (by kernel_rfl),call72⟩
def kU (xa:Tq4):ck→Option (ck⊕(List Tq5)):=fun (l1,i2)=>cond (decide (i2 < (xa.length:Int))) ((aa xa i2).bind fun x3=>(bH x3.1).bind fun s4=>(cond (x3.2) ((app s4 ([33]:List UInt8)).bind fun z5=>some (z5)) (some (s4)):Option Tq5).bind fun s6=>(app l1 (([s6]:List Tq5))).bind fun z7=>some (.inl ((z7,IntKind.wrap .i64 (i2 + 1))))) (some (.inr (l1)))
def ib (xa:Tq4):Option Tq5 :=
 cond (decide ((xa.length:Int)=0)) (some (([45]:List UInt8))) ((loop (kU xa) ([],0)).bind fun l1=>(cO l1 ([47]:List UInt8)).bind fun s2=>some (s2))
def J0:Hn Tryz.prog := .tw 10 .nil (.jn [] ⟨[(3,.own 9 .str)],[]⟩ [0] (.lp ⟨[(3,.own 9 .str),kdI 14],[]⟩ (.tw 15 (.cl cu [] (.sq [] ⟨[(6,.dat .str)],[]⟩ [] (.tw 22 .nil .nil) .nil)) .nil)) (.cl fJ [2] .nil))
def Iz:Spec:=⟨73,⟨[(0,.dat Yq7)],[]⟩,[⟨[(0,.dat .str)],[]⟩],fun x=>ib x⟩
def qP:OkSpec Tryz.prog:=⟨Iz,ah func73 J0 (by kernel_rfl) (by kernel_rfl),call73⟩

def ic (xa:Tq5) (xb:Tq7):Option Tq5 :=
 (bH xb.2.1).bind fun s1=>(bH xb.2.2.1).bind fun s2=>(bH xb.2.2.2.1).bind fun s3=>cond (xb.2.2.2.2) ((app (([xa,s1,s2,s3]:List Tq5)) (([([109,117,116]:List UInt8)]:List Tq5))).bind fun z4=>(bC z4).bind fun s5=>some (s5)) ((bC (([xa,s1,s2,s3]:List Tq5))).bind fun s6=>some (s6))
def J9:Hn Tryz.prog := .mix [([0,1,2,4,5,7,8],3),([],6),([],9),([],10)] [11] [] [] (.cl cu [] (.cl cu [] (.cl cu [] (.tw 18 (.cl dE [6] .nil) (.cl dE [2] .nil)))))
def JW:Spec:=⟨106,⟨[(0,.dat .str),(1,.dat Yq6)],[]⟩,[⟨[(0,.dat .str)],[]⟩],fun x=>ic x.1 x.2⟩
def AL:OkSpec Tryz.prog:=⟨JW,ah func106 J9 (by kernel_rfl) (by kernel_rfl),call106⟩

def lE (xa:Tq7):Option Tq5 :=
 (bH xa.2.1).bind fun s1=>(bH xa.2.2.1).bind fun s2=>cond (decide (xa.1=0)) (some (([110,111,112]:List UInt8))) (cond (decide (xa.1=1)) ((bC (([([97,115,115,105,103,110]:List UInt8),s1,s2]:List Tq5))).bind fun s3=>some (s3)) (cond (decide (xa.1=2)) ((ic ([98,111,114,114,111,119]:List UInt8) (xa.1,xa.2.1,xa.2.2.1,xa.2.2.2.1,xa.2.2.2.2)).bind fun s4=>some (s4)) (cond (decide (xa.1=3)) ((ic ([114,101,98,111,114,114,111,119]:List UInt8) (xa.1,xa.2.1,xa.2.2.1,xa.2.2.2.1,xa.2.2.2.2)).bind fun s5=>some (s5)) (cond (decide (xa.1=4)) ((bC (([([117,115,101]:List UInt8),s2]:List Tq5))).bind fun s6=>some (s6)) (cond (decide (xa.1=5)) ((bC (([([100,101,97,100]:List UInt8),s1]:List Tq5))).bind fun s7=>some (s7)) (some (([63]:List UInt8))))))))
def KE:Hn Tryz.prog := .mix [([0,1,3,4],2)] [] [5,6,7] [] (.cl cu [] (.cl cu [] (.tw 13 .nil (.tw 15 (.cl dE [2] .nil) (.tw 21 (.cl AL [] .nil) (.tw 25 (.cl AL [] .nil) (.tw 29 (.cl dE [2] .nil) (.tw 34 (.cl dE [2] .nil) .nil))))))))
def I3:Spec:=⟨74,⟨[(0,.dat Yq6)],[]⟩,[⟨[(0,.dat .str)],[]⟩],fun x=>lE x⟩
def JG:OkSpec Tryz.prog:=⟨I3,ah func74 KE (by kernel_rfl) (by kernel_rfl),call74⟩
def kA (xa:(List Int)):(Int×List UInt8)→Option ((Int×List UInt8)⊕List UInt8):=fun (i1,s2)=>cond (decide (i1 < (xa.length:Int))) ((aa xa i1).bind fun x3=>cond (decide (0 < i1)) ((wrB s2 44).bind fun z4=>(bH x3).bind fun s5=>(wrS z4 s5).bind fun z6=>some (.inl ((IntKind.wrap .i64 (i1 + 1),z6)))) ((bH x3).bind fun s7=>(wrS s2 s7).bind fun z9=>some (.inl ((IntKind.wrap .i64 (i1 + 1),z9))))) (some (.inr (s2)))
def kR (xa:(List Int)):Option Tq5 :=
 (loop (kA xa) ((0,([]:List UInt8)))).bind fun s1=>(some s1).bind fun s2=>some (s2)
def KO:Hn Tryz.prog := .jn [] ⟨[],[⟨(some 0),0,[],true,false,none,false⟩]⟩ [0] (.lp ⟨[kdI 8],[⟨(some 0),0,[],true,false,none,false⟩]⟩ (.tw 9 (.tw 14 (.cl BK [] (.cl cu [] (.cl vu [] .nil))) (.cl cu [] (.cl vu [] .nil))) .nil)) (.cl Ca [] .nil)
def IV:Spec:=⟨129,⟨[(0,.dat (.sl Yq2))],[]⟩,[⟨[(0,.dat .str)],[]⟩],fun x=>kR x⟩
def I9:OkSpec Tryz.prog:=⟨IV,ah func129 KO (by kernel_rfl) (by kernel_rfl),call129⟩

def fv (xa:(List Int)):Option Tq5 :=
 cond (decide ((xa.length:Int)=0)) (some (([45]:List UInt8))) ((kR xa).bind fun s12=>some (s12))
def II:Hn Tryz.prog := .tw 5 .nil (.cl I9 [] .nil)
def I8:Spec:=⟨107,⟨[(0,.dat (.sl Yq2))],[]⟩,[⟨[(0,.dat .str)],[]⟩],fun x=>fv x⟩
def kl:OkSpec Tryz.prog:=⟨I8,ah func107 II (by kernel_rfl) (by kernel_rfl),call107⟩

def lH (xa:gS):Option Tq5 :=
 cond (decide (xa.1=1)) ((fv xa.2.2.2.1).bind fun s1=>(bC (([([103,111,116,111]:List UInt8),s1]:List Tq5))).bind fun s2=>some (s2)) (cond (decide (xa.1=2)) ((fv xa.2.2.2.1).bind fun s3=>(fv xa.2.2.2.2.1).bind fun s4=>(bC (([([115,119,105,116,99,104]:List UInt8),s3,s4]:List Tq5))).bind fun s5=>some (s5)) (cond (decide (xa.1=3)) (some (([114,101,116,117,114,110]:List UInt8))) (cond (decide (xa.1=4)) ((bH xa.2.1).bind fun s6=>(bH xa.2.2.1).bind fun s7=>(fv xa.2.2.2.1).bind fun s9=>(fv xa.2.2.2.2.2).bind fun s10=>(fv xa.2.2.2.2.1).bind fun s11=>(bC (([([99,97,108,108]:List UInt8),s6,s7,s9,s10,s11]:List Tq5))).bind fun s12=>some (s12)) (some (([63]:List UInt8))))))
def Lc:Hn Tryz.prog := .tw 5 (.cl kl [] (.cl dE [2] .nil)) (.tw 12 (.mix [([0,1,3,4],2)] [] [5,6,7,8] [] (.cl kl [] (.cl kl [] (.cl dE [2] .nil)))) (.tw 22 .nil (.tw 24 (.mix [([0,1,3,4,6,7,9,10,12,13],2),([],5),([],8),([],11)] [] [14,15,16,17] [] (.cl cu [] (.cl cu [] (.cl kl [] (.cl kl [] (.cl kl [] (.cl dE [2] .nil))))))) .nil)))
def L5:Spec:=⟨75,⟨[(0,.dat Yq4)],[]⟩,[⟨[(0,.dat .str)],[]⟩],fun x=>lH x⟩
def L9:OkSpec Tryz.prog:=⟨L5,ah func75 Lc (by kernel_rfl) (by kernel_rfl),call75⟩
def rE (xa:Tq1):ck→Option (ck⊕(List Tq5)):=fun (l1,i2)=>cond (decide (i2 < (xa.2.2.2.1.length:Int))) ((aa xa.2.2.2.1 i2).bind fun x3=>(ib x3).bind fun s4=>(bC (([([108,111,99,97,108]:List UInt8),s4]:List Tq5))).bind fun s5=>(app l1 (([s5]:List Tq5))).bind fun z6=>some (.inl ((z6,IntKind.wrap .i64 (i2 + 1))))) (some (.inr (l1)))
def nR (x1:Tq3):ck→Option (ck⊕(List Tq5)):=fun (l2,i3)=>cond (decide (i3 < (x1.2.2.1.length:Int))) ((aa x1.2.2.1 i3).bind fun x4=>(ib x4).bind fun s5=>(bC (([([97,114,103]:List UInt8),s5]:List Tq5))).bind fun s6=>(app l2 (([s6]:List Tq5))).bind fun z7=>some (.inl ((z7,IntKind.wrap .i64 (i3 + 1))))) (some (.inr (l2)))
def rD (xa:Tq1):ck→Option (ck⊕(List Tq5)):=fun (l1,i2)=>cond (decide (i2 < (xa.2.2.2.2.2.1.length:Int))) ((aa xa.2.2.2.2.2.1 i2).bind fun x3=>(bH x3.1).bind fun s4=>(ib x3.2.2.2).bind fun s5=>(bC (([([115,105,103]:List UInt8),s4,s5]:List Tq5))).bind fun s6=>(lj ([110,101,101,100,115]:List UInt8) x3.2.1).bind fun s7=>(app l1 (([s6,s7]:List Tq5))).bind fun z9=>(loop (nR x3) (z9,0)).bind fun l10=>some (.inl ((l10,IntKind.wrap .i64 (i2 + 1))))) (some (.inr (l1)))
def rB (x1:Tq2):ck→Option (ck⊕(List Tq5)):=fun (l2,i3)=>cond (decide (i3 < (x1.1.length:Int))) ((aa x1.1 i3).bind fun x4=>(lE (x4.1,x4.2.1,x4.2.2.1,x4.2.2.2.1,x4.2.2.2.2)).bind fun s5=>(app l2 (([s5]:List Tq5))).bind fun z6=>some (.inl ((z6,IntKind.wrap .i64 (i3 + 1))))) (some (.inr (l2)))
def rF (xa:Tq1):ck→Option (ck⊕(List Tq5)):=fun (l1,i2)=>cond (decide (i2 < (xa.2.2.2.2.2.2.length:Int))) ((aa xa.2.2.2.2.2.2 i2).bind fun x3=>(app l1 (([([98,108,111,99,107]:List UInt8)]:List Tq5))).bind fun z4=>(loop (rB x3) (z4,0)).bind fun l5=>(lH (x3.2.1,x3.2.2.1,x3.2.2.2.1,x3.2.2.2.2.1,x3.2.2.2.2.2.1,x3.2.2.2.2.2.2)).bind fun s6=>(app l5 (([s6]:List Tq5))).bind fun z7=>some (.inl ((z7,IntKind.wrap .i64 (i2 + 1))))) (some (.inr (l1)))
def lz (xa:Tq1):Option Tq5 :=
 (bH xa.1).bind fun s1=>(bH xa.2.1).bind fun s2=>(bC (([([114,101,103,105,111,110,115]:List UInt8),s1,s2]:List Tq5))).bind fun s3=>(lj ([98,111,117,110,100,115]:List UInt8) xa.2.2.1).bind fun s4=>(loop (rE xa) ((([s3,s4]:List Tq5),0))).bind fun l5=>(ib xa.2.2.2.2.1).bind fun s6=>(bC (([([103,105,118,101,115]:List UInt8),s6]:List Tq5))).bind fun s7=>(app l5 (([s7]:List Tq5))).bind fun z9=>(loop (rD xa) (z9,0)).bind fun l10=>(loop (rF xa) (l10,0)).bind fun l11=>(cO l11 ([10]:List UInt8)).bind fun s12=>(app s12 ([10]:List UInt8)).bind fun z13=>some (z13)
def LX:Hn Tryz.prog := .mix [([0,1,3,4,8,9],2),([],5),([],6),([],7)] [] [10,11,12] [] (.cl cu [] (.cl cu [] (.cl dE [2] (.cl Am [] (.jn [] ⟨[(3,.own 9 .str),(20,.any),(25,.any)],[]⟩ [4,2] (.lp ⟨[(3,.own 9 .str),kdI 29],[]⟩ (.tw 30 (.cl qP [] (.cl dE [11] .nil)) .nil)) (.cl qP [] (.cl dE [8] (.jn [] ⟨[(3,.own 9 .str),(41,.any),(45,.any),(48,.any)],[]⟩ [12,8] (.lp ⟨[(3,.own 9 .str),kdI 52],[]⟩ (.tw 53 (.mix [([0,1,2,4,5,9,10],3),([],6),([],7),([],8),([],11),([],12)] [] [13,14] [] (.cl cu [] (.cl qP [] (.cl dE [19] (.cl Am [] (.jn [] ⟨[(3,.own 9 .str),(56,.any),(63,.any),(69,.any)],[]⟩ [23,19,16] (.lp ⟨[(3,.own 9 .str),kdI 73],[]⟩ (.tw 74 (.cl qP [] (.cl dE [30] .nil)) .nil)) .nil)))))) .nil)) (.jn [] ⟨[(3,.own 9 .str)],[]⟩ [0,14] (.lp ⟨[(3,.own 9 .str),kdI 89],[]⟩ (.tw 90 (.pl (.pl (.jn [] ⟨[(3,.own 9 .str),(93,.any),(95,.any)],[]⟩ [23] (.lp ⟨[(3,.own 9 .str),kdI 99],[]⟩ (.tw 100 (.cl JG [] .nil) .nil)) (.cl L9 [] .nil)))) .nil)) (.cl fJ [16] .nil))))))))))
def Kx:Spec:=⟨33,⟨[(0,.dat Yq1)],[]⟩,[⟨[(0,.dat .str)],[]⟩],fun x=>lz x⟩
def LG:OkSpec Tryz.prog:=⟨Kx,ah func33 LX (by kernel_rfl) (by kernel_rfl),call33⟩
def kE (xa:(Tq1×Tq6)):ck→Option (ck⊕(List Tq5)):=fun (l1,i2)=>cond (decide (i2 < (xa.2.length:Int))) ((aa xa.2 i2).bind fun x3=>(iY ((x3.1,(x3.2.1,x3.2.2.1,x3.2.2.2.1,x3.2.2.2.2)))).bind fun s4=>(app l1 (([s4]:List Tq5))).bind fun z5=>some (.inl ((z5,IntKind.wrap .i64 (i2 + 1))))) (some (.inr (l1)))
def nZ (xa:(Tq1×Tq6)):Option Tq5 :=
 (loop (kE xa) ((([([116,104,101,110]:List UInt8)]:List Tq5),0))).bind fun l1=>(lz xa.1).bind fun s2=>(cO l1 ([10]:List UInt8)).bind fun s3=>(app s2 s3).bind fun z4=>(app z4 ([10]:List UInt8)).bind fun z5=>some (z5)
def Mq:Hn Tryz.prog := .jn [] ⟨[(3,.own 9 .str),(6,.any)],[]⟩ [2] (.lp ⟨[(3,.own 9 .str),kdI 10],[]⟩ (.tw 11 (.cl AJ [] .nil) .nil)) (.cl LG [] (.cl fJ [4] .nil))
def K4:Spec:=⟨11,⟨[(0,.dat (.cons Yq1 (.one (.sl Yq8))))],[]⟩,[⟨[(0,.dat .str)],[]⟩],fun x=>nZ x⟩
def Lp:OkSpec Tryz.prog:=⟨K4,ah func11 Mq (by kernel_rfl) (by kernel_rfl),call11⟩

def jd (xa:aT):Option Tq5 :=
 cond ((decide (xa.1 < 0))||(decide (xa.2 < 0))) (some (([]:List UInt8))) ((bI xa.1).bind fun s1=>(app s1 ([58]:List UInt8)).bind fun z2=>(bI xa.2).bind fun s3=>(app z2 s3).bind fun z4=>some (z4))
def JD:Hn Tryz.prog := .gp 3 (.tw 10 .nil (.mix [([0,1,4,5],2),([3],6)] [7,8] [] [] (.cl dn [] (.cl dn [] .nil))))
def L7:Spec:=⟨40,⟨[(0,.dat Yq5)],[]⟩,[⟨[(0,.dat .str)],[]⟩],fun x=>jd x⟩
def Al:OkSpec Tryz.prog:=⟨L7,ah func40 JD (by kernel_rfl) (by kernel_rfl),call40⟩
def rh (xb:Tq8):b6→Option (b6⊕List UInt8):=fun (s1,i2)=>cond (decide (i2 < (xb.length:Int))) ((app s1 ([32]:List UInt8)).bind fun z3=>(aa xb i2).bind fun x4=>(jd (x4.1,x4.2)).bind fun s5=>(app z3 s5).bind fun z6=>some (.inl ((z6,IntKind.wrap .i64 (i2 + 1))))) (some (.inr (s1)))
def k8 (xa:Tq5) (xb:Tq8):Option Tq5 :=
 (loop (rh xb) (xa,0)).bind fun s1=>some (s1)
def KH:Hn Tryz.prog := .jn [] ⟨[(0,.dat .str)],[]⟩ [] (.lp ⟨[(0,.dat .str),kdI 5],[]⟩ (.tw 9 (.cl Al [] .nil) .nil)) .nil
def IP:Spec:=⟨76,⟨[(0,.dat .str),(1,.dat (.sl Yq5))],[]⟩,[⟨[(0,.dat .str)],[]⟩],fun x=>k8 x.1 x.2⟩
def Ak:OkSpec Tryz.prog:=⟨IP,ah func76 KH (by kernel_rfl) (by kernel_rfl),call76⟩
def kN (xa:Tq4):b6→Option (b6⊕List UInt8):=fun (s1,i2)=>cond (decide (i2 < (xa.length:Int))) ((cond (decide (0 < i2)) ((app s1 ([47]:List UInt8)).bind fun z3=>some (z3)) (some (s1)):Option Tq5).bind fun s4=>(aa xa i2).bind fun x5=>(bI x5.1).bind fun s6=>(app s4 s6).bind fun z7=>(aa xa i2).bind fun x9=>cond (x9.2) ((app z7 ([33]:List UInt8)).bind fun z10=>some (.inl ((z10,IntKind.wrap .i64 (i2 + 1))))) (some (.inl ((z7,IntKind.wrap .i64 (i2 + 1)))))) (some (.inr (s1)))
def hU (xa:Tq4):Option Tq5 :=
 cond (decide ((xa.length:Int)=0)) (some (([45]:List UInt8))) ((loop (kN xa) ((([]:List UInt8),0))).bind fun s1=>some (s1))
def Ms:Hn Tryz.prog := .tw 8 .nil (.jn [] ⟨[(3,.dat .str)],[]⟩ [] (.lp ⟨[(3,.dat .str),kdI 4],[]⟩ (.tw 13 (.pl (.sq [] ⟨[(3,.dat .str)],[]⟩ [] (.tw 17 .nil .nil) (.cl dn [] (.tw 34 .nil .nil)))) .nil)) .nil)
def LC:Spec:=⟨77,⟨[(0,.dat Yq7)],[]⟩,[⟨[(0,.dat .str)],[]⟩],fun x=>hU x⟩
def qL:OkSpec Tryz.prog:=⟨LC,ah func77 Ms (by kernel_rfl) (by kernel_rfl),call77⟩

def lw (xa:Tq7):Option Tq5 :=
 (bI xa.2.1).bind fun s1=>(bI xa.2.2.1).bind fun s2=>(bI xa.2.2.2.1).bind fun s3=>(cond (xa.2.2.2.2) (some (([32,109,117,116]:List UInt8))) (some (([]:List UInt8))):Option Tq5).bind fun s4=>cond (decide (xa.1=0)) (some (([110,111,112]:List UInt8))) (cond (decide (xa.1=1)) ((app ([97,115,115,105,103,110,32]:List UInt8) s1).bind fun z5=>(app z5 ([32]:List UInt8)).bind fun z6=>(app z6 s2).bind fun z7=>some (z7)) (cond (decide (xa.1=2)) ((app ([98,111,114,114,111,119,32]:List UInt8) s1).bind fun z9=>(app z9 ([32]:List UInt8)).bind fun z10=>(app z10 s2).bind fun z11=>(app z11 ([32]:List UInt8)).bind fun z12=>(app z12 s3).bind fun z13=>(app z13 s4).bind fun z14=>some (z14)) (cond (decide (xa.1=3)) ((app ([114,101,98,111,114,114,111,119,32]:List UInt8) s1).bind fun z15=>(app z15 ([32]:List UInt8)).bind fun z16=>(app z16 s2).bind fun z17=>(app z17 ([32]:List UInt8)).bind fun z18=>(app z18 s3).bind fun z19=>(app z19 s4).bind fun z20=>some (z20)) (cond (decide (xa.1=4)) ((app ([117,115,101,32]:List UInt8) s2).bind fun z21=>some (z21)) (cond (decide (xa.1=5)) ((app ([100,101,97,100,32]:List UInt8) s1).bind fun z22=>some (z22)) (some (([63]:List UInt8))))))))
def Jz:Hn Tryz.prog := .mix [([0,1,3,4,6,7],2),([],5)] [] [8,9,10,11] [] (.cl dn [] (.cl dn [] (.cl dn [] (.pl (.sq [] ⟨[(6,.dat .str)],[]⟩ [] (.tw 17 .nil .nil) (.tw 20 .nil (.tw 22 .nil (.tw 29 .nil (.tw 41 .nil (.tw 53 .nil (.tw 57 .nil .nil)))))))))))
def Iq:Spec:=⟨78,⟨[(0,.dat Yq6)],[]⟩,[⟨[(0,.dat .str)],[]⟩],fun x=>lw x⟩
def I1:OkSpec Tryz.prog:=⟨Iq,ah func78 Jz (by kernel_rfl) (by kernel_rfl),call78⟩
def kM (xa:(List Int)):b6→Option (b6⊕List UInt8):=fun (s1,i2)=>cond (decide (i2 < (xa.length:Int))) ((cond (decide (0 < i2)) ((app s1 ([44]:List UInt8)).bind fun z3=>some (z3)) (some (s1)):Option Tq5).bind fun s4=>(aa xa i2).bind fun x5=>(bI x5).bind fun s6=>(app s4 s6).bind fun z7=>some (.inl ((z7,IntKind.wrap .i64 (i2 + 1))))) (some (.inr (s1)))
def oa (xa:(List Int)):Option Tq5 :=
 (loop (kM xa) ((([]:List UInt8),0))).bind fun s1=>some (s1)
def JL:Hn Tryz.prog := .jn [] ⟨[(3,.dat .str)],[]⟩ [] (.lp ⟨[(3,.dat .str),kdI 4],[]⟩ (.tw 8 (.pl (.sq [] ⟨[(3,.dat .str)],[]⟩ [] (.tw 12 .nil .nil) (.cl dn [] .nil))) .nil)) .nil
def Mc:Spec:=⟨130,⟨[(0,.dat (.sl Yq2))],[]⟩,[⟨[(0,.dat .str)],[]⟩],fun x=>oa x⟩
def JI:OkSpec Tryz.prog:=⟨Mc,ah func130 JL (by kernel_rfl) (by kernel_rfl),call130⟩

def fu (xa:(List Int)):Option Tq5 :=
 cond (decide ((xa.length:Int)=0)) (some (([45]:List UInt8))) ((oa xa).bind fun s12=>some (s12))
def IR:Hn Tryz.prog := .tw 5 .nil (.cl JI [] .nil)
def Mj:Spec:=⟨108,⟨[(0,.dat (.sl Yq2))],[]⟩,[⟨[(0,.dat .str)],[]⟩],fun x=>fu x⟩
def j7:OkSpec Tryz.prog:=⟨Mj,ah func108 IR (by kernel_rfl) (by kernel_rfl),call108⟩

def ly (xa:gS):Option Tq5 :=
 cond (decide (xa.1=1)) ((fu xa.2.2.2.1).bind fun s1=>(app ([103,111,116,111,32]:List UInt8) s1).bind fun z2=>some (z2)) (cond (decide (xa.1=2)) ((fu xa.2.2.2.1).bind fun s3=>(app ([115,119,105,116,99,104,32]:List UInt8) s3).bind fun z4=>(app z4 ([32]:List UInt8)).bind fun z5=>(fu xa.2.2.2.2.1).bind fun s6=>(app z5 s6).bind fun z7=>some (z7)) (cond (decide (xa.1=3)) (some (([114,101,116,117,114,110]:List UInt8))) (cond (decide (xa.1=4)) ((bI xa.2.1).bind fun s9=>(app ([99,97,108,108,32]:List UInt8) s9).bind fun z10=>(app z10 ([32]:List UInt8)).bind fun z11=>(bI xa.2.2.1).bind fun s12=>(app z11 s12).bind fun z13=>(app z13 ([32]:List UInt8)).bind fun z14=>(fu xa.2.2.2.1).bind fun s15=>(app z14 s15).bind fun z16=>(app z16 ([32]:List UInt8)).bind fun z17=>(fu xa.2.2.2.2.2).bind fun s18=>(app z17 s18).bind fun z19=>(app z19 ([32]:List UInt8)).bind fun z20=>(fu xa.2.2.2.2.1).bind fun s21=>(app z20 s21).bind fun z22=>some (z22)) (some (([63]:List UInt8))))))
def Ii:Hn Tryz.prog := .tw 5 (.cl j7 [] .nil) (.tw 11 (.mix [([0,1,5,6],2),([3,4],7)] [8,9] [] [] (.cl j7 [] (.cl j7 [] .nil))) (.tw 22 .nil (.tw 24 (.mix [([0,1,5,6,10,11,15,16,20,21],2),([3,4],7),([8,9],12),([13,14],17),([18,19],22)] [23,24] [] [] (.cl dn [] (.cl dn [] (.cl j7 [] (.cl j7 [] (.cl j7 [] .nil)))))) .nil)))
def KF:Spec:=⟨79,⟨[(0,.dat Yq4)],[]⟩,[⟨[(0,.dat .str)],[]⟩],fun x=>ly x⟩
def Lb:OkSpec Tryz.prog:=⟨KF,ah func79 Ii (by kernel_rfl) (by kernel_rfl),call79⟩
def rm (xa:Tq1):b6→Option (b6⊕List UInt8):=fun (s1,i2)=>cond (decide (i2 < (xa.2.2.2.1.length:Int))) ((app s1 ([108,111,99,97,108,32]:List UInt8)).bind fun z3=>(aa xa.2.2.2.1 i2).bind fun x4=>(hU x4).bind fun s5=>(app z3 s5).bind fun z6=>(app z6 ([10]:List UInt8)).bind fun z7=>some (.inl ((z7,IntKind.wrap .i64 (i2 + 1))))) (some (.inr (s1)))
def nL (x1:Tq3):b6→Option (b6⊕List UInt8):=fun (s2,i3)=>cond (decide (i3 < (x1.2.2.1.length:Int))) ((app s2 ([97,114,103,32]:List UInt8)).bind fun z4=>(aa x1.2.2.1 i3).bind fun x5=>(hU x5).bind fun s6=>(app z4 s6).bind fun z7=>(app z7 ([10]:List UInt8)).bind fun z9=>some (.inl ((z9,IntKind.wrap .i64 (i3 + 1))))) (some (.inr (s2)))
def rq (xa:Tq1):b6→Option (b6⊕List UInt8):=fun (s1,i2)=>cond (decide (i2 < (xa.2.2.2.2.2.1.length:Int))) ((aa xa.2.2.2.2.2.1 i2).bind fun x3=>(app s1 ([115,105,103,32]:List UInt8)).bind fun z4=>(bI x3.1).bind fun s5=>(app z4 s5).bind fun z6=>(app z6 ([32]:List UInt8)).bind fun z7=>(hU x3.2.2.2).bind fun s9=>(app z7 s9).bind fun z10=>(app z10 ([10]:List UInt8)).bind fun z11=>(k8 ([110,101,101,100,115]:List UInt8) x3.2.1).bind fun s12=>(app z11 s12).bind fun z13=>(app z13 ([10]:List UInt8)).bind fun z14=>(loop (nL x3) (z14,0)).bind fun s15=>some (.inl ((s15,IntKind.wrap .i64 (i2 + 1))))) (some (.inr (s1)))
def rz (xa:Tq1) (i1:Int):b6→Option (b6⊕List UInt8):=fun (s2,i3)=>(aa xa.2.2.2.2.2.2 i1).bind fun x4=>cond (decide (i3 < (x4.1.length:Int))) ((aa xa.2.2.2.2.2.2 i1).bind fun x5=>(aa x5.1 i3).bind fun x6=>(lw (x6.1,x6.2.1,x6.2.2.1,x6.2.2.2.1,x6.2.2.2.2)).bind fun s7=>(app s2 s7).bind fun z9=>(app z9 ([10]:List UInt8)).bind fun z10=>some (.inl ((z10,IntKind.wrap .i64 (i3 + 1))))) (some (.inr (s2)))
def rk (xa:Tq1):b6→Option (b6⊕List UInt8):=fun (s1,i2)=>cond (decide (i2 < (xa.2.2.2.2.2.2.length:Int))) ((app s1 ([98,108,111,99,107,10]:List UInt8)).bind fun z3=>(loop (rz xa i2) (z3,0)).bind fun s4=>(aa xa.2.2.2.2.2.2 i2).bind fun x5=>(ly (x5.2.1,x5.2.2.1,x5.2.2.2.1,x5.2.2.2.2.1,x5.2.2.2.2.2.1,x5.2.2.2.2.2.2)).bind fun s6=>(app s4 s6).bind fun z7=>(app z7 ([10]:List UInt8)).bind fun z9=>some (.inl ((z9,IntKind.wrap .i64 (i2 + 1))))) (some (.inr (s1)))
def lb (xa:Tq1):Option Tq5 :=
 (bI xa.1).bind fun s1=>(app ([114,101,103,105,111,110,115,32]:List UInt8) s1).bind fun z2=>(app z2 ([32]:List UInt8)).bind fun z3=>(bI xa.2.1).bind fun s4=>(app z3 s4).bind fun z5=>(app z5 ([10]:List UInt8)).bind fun z6=>(k8 ([98,111,117,110,100,115]:List UInt8) xa.2.2.1).bind fun s7=>(app z6 s7).bind fun z9=>(app z9 ([10]:List UInt8)).bind fun z10=>(loop (rm xa) (z10,0)).bind fun s11=>(app s11 ([103,105,118,101,115,32]:List UInt8)).bind fun z12=>(hU xa.2.2.2.2.1).bind fun s13=>(app z12 s13).bind fun z14=>(app z14 ([10]:List UInt8)).bind fun z15=>(loop (rq xa) (z15,0)).bind fun s16=>(loop (rk xa) (s16,0)).bind fun s17=>some (s17)
def J1:Hn Tryz.prog := .mix [([0,1,5,6,10,11],2),([3,4],7),([8,9],12)] [13,14,15] [] [] (.cl dn [] (.cl dn [] (.cl Ak [] (.jn [] ⟨[(3,.dat .str)],[]⟩ [] (.lp ⟨[(3,.dat .str),kdI 4],[]⟩ (.tw 29 (.cl qL [] .nil) .nil)) (.cl qL [] (.jn [] ⟨[(3,.dat .str)],[]⟩ [] (.lp ⟨[(3,.dat .str),kdI 5],[]⟩ (.tw 53 (.mix [([0,1,2,3,7,8,12,13],4),([5,6],9),([10,11],14)] [15,16,17] [] [] (.cl dn [] (.cl qL [] (.cl Ak [] (.jn [] ⟨[(3,.dat .str)],[]⟩ [] (.lp ⟨[(3,.dat .str),kdI 7],[]⟩ (.tw 82 (.cl qL [] .nil) .nil)) .nil))))) .nil)) (.jn [] ⟨[(3,.dat .str)],[]⟩ [] (.lp ⟨[(3,.dat .str),kdI 8],[]⟩ (.tw 99 (.pl (.pl (.jn [] ⟨[(3,.dat .str)],[]⟩ [] (.lp ⟨[(3,.dat .str),kdI 9],[]⟩ (.tw 112 (.cl I1 [] .nil) .nil)) (.cl Lb [] .nil)))) .nil)) .nil)))))))
def IY:Spec:=⟨34,⟨[(0,.dat Yq1)],[]⟩,[⟨[(0,.dat .str)],[]⟩],fun x=>lb x⟩
def LA:OkSpec Tryz.prog:=⟨IY,ah func34 J1 (by kernel_rfl) (by kernel_rfl),call34⟩

def k9  : Option ((List Tq5)) :=
 some (([([99,104,101,99,107]:List UInt8),([99,111,110,115]:List UInt8),([108,105,118,101]:List UInt8),([118,97,108,117,101]:List UInt8),([119,104,121]:List UInt8),([115,117,103,103,101,115,116]:List UInt8),([116,114,105,109]:List UInt8),([101,100,105,116]:List UInt8),([112,114,111,118,101]:List UInt8),([112,114,105,110,116]:List UInt8)]:List Tq5))
def Js:Hn Tryz.prog := .nil
def K5:Spec:=⟨35,⟨[],[]⟩,[⟨[(0,.own 9 .str)],[]⟩],fun x=>k9⟩
def AQ:OkSpec Tryz.prog:=⟨K5,ah func35 Js (by kernel_rfl) (by kernel_rfl),call35⟩

def lq (xa:Int):Option Tq5 :=
 cond ((decide (xa < 1))||(decide (8 < xa))) (some (([63]:List UInt8))) ((aa (([([98,108,97,110,107]:List UInt8),([100,114,111,112]:List UInt8),([116,119,105,99,101]:List UInt8),([115,119,97,112]:List UInt8),([114,101,103,105,111,110]:List UInt8),([108,111,110,101]:List UInt8),([100,101,99,108,97,114,101]:List UInt8),([117,110,100,101,99,108,97,114,101]:List UInt8)]:List Tq5)) (IntKind.wrap .i64 (xa - 1))).bind fun x21=>some (x21))
def KS:Hn Tryz.prog := .gp 2 (.tw 8 .nil .nil)
def Lr:Spec:=⟨37,⟨[kdI 0],[]⟩,[⟨[(0,.dat .str)],[]⟩],fun x=>lq x⟩
def AC:OkSpec Tryz.prog:=⟨Lr,ah func37 KS (by kernel_rfl) (by kernel_rfl),call37⟩
def kJ (xa:(Int×cA)):b6→Option (b6⊕List UInt8):=fun (s1,i2)=>cond (decide (i2 < 4)) ((app s1 ([32]:List UInt8)).bind fun z3=>cond (decide (i2=((0:Nat):Int))) ((bI xa.2.1).bind fun s4=>(app z3 s4).bind fun z5=>some (.inl ((z5,IntKind.wrap .i64 (i2 + 1))))) (cond (decide (i2=((1:Nat):Int))) ((bI xa.2.2.1).bind fun s6=>(app z3 s6).bind fun z7=>some (.inl ((z7,IntKind.wrap .i64 (i2 + 1))))) (cond (decide (i2=((2:Nat):Int))) ((bI xa.2.2.2.1).bind fun s9=>(app z3 s9).bind fun z10=>some (.inl ((z10,IntKind.wrap .i64 (i2 + 1))))) (cond (decide (i2=((3:Nat):Int))) ((bI xa.2.2.2.2).bind fun s11=>(app z3 s11).bind fun z12=>some (.inl ((z12,IntKind.wrap .i64 (i2 + 1))))) (none))))) (some (.inr (s1)))
def ia (xa:(Int×cA)):Option Tq5 :=
 cond ((decide (xa.1 < 0))||(decide (9 < xa.1))) (some (([63]:List UInt8))) ((k9).bind fun l1=>(aa l1 xa.1).bind fun x2=>cond ((decide (xa.1=2))||(decide (xa.1=3))) ((app x2 ([32]:List UInt8)).bind fun z3=>(bI xa.2.1).bind fun s4=>(app z3 s4).bind fun z5=>some (z5)) (cond (decide (xa.1=4)) ((app x2 ([32]:List UInt8)).bind fun z6=>(jd (xa.2.1,xa.2.2.1)).bind fun s7=>(app z6 s7).bind fun z9=>some (z9)) (cond (decide (xa.1=7)) ((app x2 ([32]:List UInt8)).bind fun z10=>(lq xa.2.1).bind fun s11=>(app z10 s11).bind fun z12=>(loop (kJ xa) (z12,1)).bind fun s13=>some (s13)) (some (x2)))))
def I6:Hn Tryz.prog := .gp 3 (.tw 12 .nil (.mix [([1,2],0),([3],4)] [5] [] [] (.cl AQ [] (.gp 3 (.tw 25 (.cl dn [] .nil) (.tw 35 (.cl Al [] .nil) (.tw 49 (.cl AC [] (.jn [] ⟨[(3,.dat .str)],[]⟩ [2] (.lp ⟨[(3,.dat .str),kdI 4],[]⟩ (.tw 58 (.cl dn [] .nil) .nil)) .nil)) .nil)))))))
def Mm:Spec:=⟨16,⟨[(0,.dat Yq8)],[]⟩,[⟨[(0,.dat .str)],[]⟩],fun x=>ia x⟩
def AA:OkSpec Tryz.prog:=⟨Mm,ah func16 I6 (by kernel_rfl) (by kernel_rfl),call16⟩
def nS (xa:(Tq1×Tq6)):b6→Option (b6⊕List UInt8):=fun (s1,i2)=>cond (decide (i2 < (xa.2.length:Int))) ((aa xa.2 i2).bind fun x3=>(ia ((x3.1,(x3.2.1,x3.2.2.1,x3.2.2.2.1,x3.2.2.2.2)))).bind fun s4=>(app s1 s4).bind fun z5=>(app z5 ([10]:List UInt8)).bind fun z6=>some (.inl ((z6,IntKind.wrap .i64 (i2 + 1))))) (some (.inr (s1)))
def n9 (xa:(Tq1×Tq6)):Option Tq5 :=
 (lb xa.1).bind fun s1=>(app s1 ([116,104,101,110,10]:List UInt8)).bind fun z2=>(loop (nS xa) (z2,0)).bind fun s3=>some (s3)
def JV:Hn Tryz.prog := .cl LA [] (.jn [] ⟨[(3,.dat .str)],[]⟩ [] (.lp ⟨[(3,.dat .str),kdI 4],[]⟩ (.tw 13 (.cl AA [] .nil) .nil)) .nil)
def Jb:Spec:=⟨13,⟨[(0,.dat (.cons Yq1 (.one (.sl Yq8))))],[]⟩,[⟨[(0,.dat .str)],[]⟩],fun x=>n9 x⟩
def Lu:OkSpec Tryz.prog:=⟨Jb,ah func13 JV (by kernel_rfl) (by kernel_rfl),call13⟩
def iW (xa:Tq5) (xb:Int):kb→Option (kb⊕(List Tq5)):=fun (l1,i2,i3)=>cond (decide (i3≤(xa.length:Int))) ((cond (decide (i3=(xa.length:Int))) (some (true)) ((aa xa i3).bind fun x4=>some (decide ((((x4.toNat:Nat):Int))=xb)))).bind fun t5=>cond (t5) ((subL xa i2 i3).bind fun y6=>(app l1 (([y6]:List Tq5))).bind fun z7=>some (.inl ((z7,IntKind.wrap .i64 (i3 + 1),IntKind.wrap .i64 (i3 + 1))))) (some (.inl ((l1,i2,IntKind.wrap .i64 (i3 + 1)))))) (some (.inr (l1)))
def eo (xa:Tq5) (xb:Int):Option ((List Tq5)) :=
 (loop (iW xa xb) ((([]:List Tq5),0,0))).bind fun l1=>some (l1)
def IE:Hn Tryz.prog := .jn [] ⟨[(5,.own 9 .str),(8,.any)],[]⟩ [0] (.lp ⟨[(5,.own 9 .str),kdI 6,kdI 7],[]⟩ (.tw 12 (.gj 5 ⟨[kdB 25],[]⟩ [] (.two 19 .nil .nil) (.tw 25 .nil .nil)) .nil)) .nil
def L4:Spec:=⟨28,⟨[(0,.dat .str),(1,.dat (.int .u8))],[]⟩,[⟨[(0,.own 9 .str)],[]⟩],fun x=>eo x.1 x.2⟩
def qJ:OkSpec Tryz.prog:=⟨L4,ah func28 IE (by kernel_rfl) (by kernel_rfl),call28⟩
def kG (l1:(List Tq5)):ck→Option (ck⊕(List Tq5)):=fun (l2,i3)=>cond (decide (i3 < (l1.length:Int))) ((aa l1 i3).bind fun x4=>cond (!decide (x4=([]:List UInt8))) ((aa l1 i3).bind fun x5=>(app l2 (([x5]:List Tq5))).bind fun z6=>some (.inl ((z6,IntKind.wrap .i64 (i3 + 1))))) (some (.inl ((l2,IntKind.wrap .i64 (i3 + 1)))))) (some (.inr (l2)))
def f9 (xa:Tq5):Option ((List Tq5)) :=
 (eo xa 32).bind fun l1=>(loop (kG l1) ((([]:List Tq5),0))).bind fun l2=>some (l2)
def JS:Hn Tryz.prog := .cl qJ [] (.jn [] ⟨[(3,.own 9 .str),(6,.any)],[]⟩ [0] (.lp ⟨[(3,.own 9 .str),kdI 5],[]⟩ (.tw 12 (.tw 19 .nil .nil) .nil)) .nil)
def Io:Spec:=⟨15,⟨[(0,.dat .str)],[]⟩,[⟨[(0,.own 9 .str)],[]⟩],fun x=>f9 x⟩
def qM:OkSpec Tryz.prog:=⟨Io,ah func15 JS (by kernel_rfl) (by kernel_rfl),call15⟩
def vp (xa:Tq5):Int→Option (Int⊕(Unit⊕Bool)):=fun i1=>cond (decide (i1 < (xa.length:Int))) ((aa xa i1).bind fun x2=>(cond (decide ((((x2.toNat:Nat):Int)) < 48)) (some (true)) ((aa xa i1).bind fun x3=>some (decide (57 < (((x3.toNat:Nat):Int)))))).bind fun t4=>cond (t4) (some (.inr ((.inr (false))))) (some (.inl (IntKind.wrap .i64 (i1 + 1))))) (some (.inr ((.inl ()))))
def n8 (xa:Tq5):Option Bool :=
 (loop (vp xa) 0).bind fun o=>match o with | .inr r=>some r | .inl ()=>(cond (decide ((xa.length:Int)=1)) (some (true)) ((cond (decide (1 < (xa.length:Int))) ((aa xa 0).bind fun x1=>some (!decide ((((x1.toNat:Nat):Int))=48))) (some (false))).bind fun t2=>some (t2))).bind fun t3=>some (t3)
def Ka:Hn Tryz.prog := .jx [] ⟨[],[]⟩ [] (.lp ⟨[kdI 3],[]⟩ (.tw 7 (.gj 4 ⟨[kdB 19],[]⟩ [] (.two 14 .nil .nil) (.tw 19 .nil .nil)) .nil)) (.gj 8 ⟨[kdB 32],[]⟩ [] (.two 23 .nil (.wt 27 (.gj 3 ⟨[kdB 31],[]⟩ [] (.two 27 .nil .nil) .nil))) .nil)
def Mo:Spec:=⟨80,⟨[(0,.dat .str)],[]⟩,[⟨[kdB 0],[]⟩],fun x=>n8 x⟩
def KG:OkSpec Tryz.prog:=⟨Mo,ah func80 Ka (by kernel_rfl) (by kernel_rfl),call80⟩
def f7 (xa:Tq5):aT→Option (aT⊕(Int⊕aT)):=fun (i1,i2)=>cond (decide (i2 < (xa.length:Int))) ((aa xa i2).bind fun x3=>cond ((decide (922337203685477580 < i1))||((decide (i1=922337203685477580))&&(decide (7 < (IntKind.wrap .i64 (IntKind.wrap .u8 ((((x3.toNat:Nat):Int)) - 48))))))) (some (.inr ((.inr ((0,5)))))) (some (.inl ((IntKind.wrap .i64 ((IntKind.wrap .i64 (i1 * 10)) + (IntKind.wrap .i64 (IntKind.wrap .u8 ((((x3.toNat:Nat):Int)) - 48)))),IntKind.wrap .i64 (i2 + 1)))))) (some (.inr (.inl i1)))
def cI (xa:Tq5) (xb:Int):Option aT :=
 (n8 xa).bind fun t1=>cond (!t1) (some ((0,3))) ((loop (f7 xa) (0,0)).bind fun o=>match o with | .inr r=>some r | .inl i2=>cond (decide (xb < i2)) (some ((0,5))) (some ((i2,0))))
def K8:Hn Tryz.prog := .cl KG [] (.tw 11 .nil (.jx [] ⟨[kdI 6],[]⟩ [] (.lp ⟨[kdI 6,kdI 7],[]⟩ (.tw 15 (.gp 6 (.tw 32 .nil .nil)) .nil)) (.tw 39 .nil .nil)))
def Mr:Spec:=⟨38,⟨[(0,.dat .str),kdI 1],[]⟩,[⟨[(0,.tup [.dat Yq2,.dat Yq2])],[]⟩],fun x=>cI x.1 x.2⟩
def j9:OkSpec Tryz.prog:=⟨Mr,ah func38 K8 (by kernel_rfl) (by kernel_rfl),call38⟩
def nw (xa:Tq5) (xb:Int):Int→Option (Int⊕(Unit⊕(Int×Int×Int))):=fun i1=>cond (decide (i1 < (xa.length:Int))) ((aa xa i1).bind fun x2=>cond (!decide ((((x2.toNat:Nat):Int))=58)) (some (.inl (IntKind.wrap .i64 (i1 + 1)))) ((subL xa 0 i1).bind fun y3=>(cI y3 xb).bind fun (i4,i5)=>cond (!decide (i5=0)) (some (.inr ((.inr ((0,0,i5)))))) ((subL xa (IntKind.wrap .i64 (i1 + 1)) (xa.length:Int)).bind fun y6=>(cI y6 xb).bind fun (i7,i9)=>cond (!decide (i9=0)) (some (.inr ((.inr ((0,0,i9)))))) (some (.inr ((.inr ((i4,i7,0))))))))) (some (.inr ((.inl ()))))
def iO (xa:Tq5) (xb:Int):Option (Int×Int×Int) :=
 (loop (nw xa xb) 0).bind fun o=>match o with | .inr r=>some r | .inl ()=>some ((0,0,3))
def Lg:Hn Tryz.prog := .jx [] ⟨[],[bkC 0 78 [.lit (.int .i64 0),.lit (.int .i64 0)]]⟩ [0] (.lp ⟨[kdI 6],[bkC 0 78 [.lit (.int .i64 0),.lit (.int .i64 0)]]⟩ (.tw 14 (.tw 20 .nil (.cl j9 [] (.tw 30 .nil (.cl j9 [] (.tw 43 .nil .nil))))) .nil)) .nil
def Ky:Spec:=⟨36,⟨[(0,.dat .str),kdI 1],[]⟩,[⟨[(0,.tup [.agg [.dat Yq2,.dat Yq2],.dat Yq2])],[]⟩],fun x=>iO x.1 x.2⟩
def AP:OkSpec Tryz.prog:=⟨Ky,ah func36 Lg (by kernel_rfl) (by kernel_rfl),call36⟩
def nC (xa:(List Tq5)):aT→Option (aT⊕Int):=fun (i1,i2)=>cond (decide (i2 < 10)) ((aa xa 0).bind fun x3=>(k9).bind fun l4=>(aa l4 i2).bind fun x5=>cond (decide (x5=x3)) (some (.inl ((i2,IntKind.wrap .i64 (i2 + 1))))) (some (.inl ((i1,IntKind.wrap .i64 (i2 + 1)))))) (some (.inr (i1)))
def kz (xa:(List Tq5)):aT→Option (aT⊕Int):=fun (i1,i2)=>cond (decide (i1≤8)) ((aa xa 1).bind fun x3=>(lq i1).bind fun s4=>cond (decide (s4=x3)) (some (.inl ((IntKind.wrap .i64 (i1 + 1),i1)))) (some (.inl ((IntKind.wrap .i64 (i1 + 1),i2))))) (some (.inr (i2)))
def fi (xa:(List Tq5)) (i1:Int):iI→Option (iI⊕(cA⊕(Int×Int×Int×Int×Int×Int))):=fun (i2,i3,i4,i5,i6)=>cond (decide (i2 < i1)) ((aa xa i2).bind fun x7=>(cI x7 1048576).bind fun (i9,i10)=>cond (!decide (i10=0)) (some (.inr ((.inr ((0,0,0,0,0,i10)))))) (cond (decide (IntKind.wrap .i64 (i2 - 1)=((0:Nat):Int))) (some (.inl ((IntKind.wrap .i64 (i2 + 1),i9,i4,i5,i6)))) (cond (decide (IntKind.wrap .i64 (i2 - 1)=((1:Nat):Int))) (some (.inl ((IntKind.wrap .i64 (i2 + 1),i3,i9,i5,i6)))) (cond (decide (IntKind.wrap .i64 (i2 - 1)=((2:Nat):Int))) (some (.inl ((IntKind.wrap .i64 (i2 + 1),i3,i4,i9,i6)))) (cond (decide (IntKind.wrap .i64 (i2 - 1)=((3:Nat):Int))) (some (.inl ((IntKind.wrap .i64 (i2 + 1),i3,i4,i5,i9)))) (none)))))) (some (.inr ((.inl (i3,i4,i5,i6)))))
def kL (xa:(List Tq5)):Option (Int×Int×Int×Int×Int×Int) :=
 cond (decide ((xa.length:Int)=0)) (some ((0,0,0,0,0,3))) ((loop (nC xa) (((-1),0))).bind fun i1=>(cond ((decide (2≤i1))&&(decide (i1≤4))) (some (2)) (some (1)):Option Int).bind fun i2=>(cond (decide (i1=7)) (some (5)) (some (i2)):Option Int).bind fun i3=>cond ((decide (i1 < 0))||(!decide ((xa.length:Int)=i3))) (some ((0,0,0,0,0,3))) (cond (decide (i1=4)) ((aa xa 1).bind fun x4=>(iO x4 1048576).bind fun (i5,i6,i7)=>cond (!decide (i7=0)) (some ((0,0,0,0,0,i7))) (some ((i1,i5,i6,0,0,0)))) ((cond (decide (i1=7)) ((loop (kz xa) (1,0)).bind fun i9=>cond (decide (i9=0)) (some (.inr ((0,0,0,0,0,3)))) (some (.inl (2,i9)))) (some (.inl (1,0))):Option (aT⊕(Int×Int×Int×Int×Int×Int))).bind fun o=>match o with | .inr r=>some r | .inl (i10,i11)=>(loop (fi xa i3) (i10,i11,0,0,0)).bind fun o=>match o with | .inr r=>some r | .inl (i12,i13,i14,i15)=>some ((i1,i12,i13,i14,i15,0)))))
def J2:Hn Tryz.prog := .tw 17 .nil (.jn [] ⟨[kdI 4],[]⟩ [] (.lp ⟨[kdI 4,kdI 5],[]⟩ (.tw 20 (.mix [([1,4,5,6],0),([2],3)] [7] [] [] (.cl AQ [] (.tw 30 .nil .nil))) .nil)) (.pl (.sq [] ⟨[kdI 6],[]⟩ [] (.gp 2 (.tw 37 .nil .nil)) (.sq [] ⟨[kdI 6],[]⟩ [] (.tw 39 .nil .nil) (.gp 4 (.tw 47 .nil (.tw 52 (.cl AP [] (.tw 69 .nil .nil)) (.pl (.sx [(2,0)] ⟨[kdI 10],[bkC 0 52 [.lit (.int .i64 0),.lit (.int .i64 0),.lit (.int .i64 0),.lit (.int .i64 0),.lit (.int .i64 0)],bkC 2 52 [.is 2 (.any),.dat Yq2,.lit (.int .i64 0),.lit (.int .i64 0),.lit (.int .i64 0)],bkU 5]⟩ [2,0] (.tw 74 (.jn [] ⟨[],[bkC 2 52 [.is 1 (.any),.dat Yq2,.lit (.int .i64 0),.lit (.int .i64 0),.lit (.int .i64 0)],bkU 5]⟩ [2] (.lp ⟨[kdI 11],[bkC 2 52 [.is 1 (.any),.dat Yq2,.lit (.int .i64 0),.lit (.int .i64 0),.lit (.int .i64 0)],bkU 5]⟩ (.tw 76 (.mix [([0,2,3,4],1)] [5] [] [] (.cl AC [] (.tw 84 .nil .nil))) .nil)) (.tw 91 .nil .nil)) .nil) (.jx [] ⟨[],[bkC 0 52 [.lit (.int .i64 0),.lit (.int .i64 0),.lit (.int .i64 0),.lit (.int .i64 0),.lit (.int .i64 0)],bkC 2 52 [.is 2 (.any),.dat Yq2,.dat Yq2,.dat Yq2,.dat Yq2],bkU 5]⟩ [0,2] (.lp ⟨[kdI 12],[bkC 0 52 [.lit (.int .i64 0),.lit (.int .i64 0),.lit (.int .i64 0),.lit (.int .i64 0),.lit (.int .i64 0)],bkC 2 52 [.is 2 (.any),.dat Yq2,.dat Yq2,.dat Yq2,.dat Yq2],bkU 5]⟩ (.tw 96 (.cl j9 [] (.tw 108 .nil .nil)) .nil)) .nil))))))))))
def IL:Spec:=⟨14,⟨[(0,.dat (.sl .str))],[]⟩,[⟨[(0,.tup [.agg [.dat Yq2,.dat Yq2,.dat Yq2,.dat Yq2,.dat Yq2],.dat Yq2])],[]⟩],fun x=>kL x⟩
def Af:OkSpec Tryz.prog:=⟨IL,ah func14 J2 (by kernel_rfl) (by kernel_rfl),call14⟩

def kF (xa:Tq5):Option Bool :=
 some (decide (xa=([]:List UInt8)))
def Jy:Hn Tryz.prog := .nil
def Mf:Spec:=⟨53,⟨[(0,.dat .str)],[]⟩,[⟨[kdB 0],[]⟩],fun x=>kF x⟩
def Ae:OkSpec Tryz.prog:=⟨Mf,ah func53 Jy (by kernel_rfl) (by kernel_rfl),call53⟩
def m8 (xa:(List Tq5)):Int→Option (Int⊕(Unit⊕Int)):=fun i1=>cond (decide (i1 < (xa.length:Int))) ((aa xa i1).bind fun x2=>(kF x2).bind fun t3=>cond (t3) (some (.inr ((.inr (i1))))) (some (.inl (IntKind.wrap .i64 (i1 + 1))))) (some (.inr ((.inl ()))))
def nf (xa:(List Tq5)):Option Int :=
 (loop (m8 xa) 0).bind fun o=>match o with | .inr r=>some r | .inl ()=>some ((-1))
def Ji:Hn Tryz.prog := .jx [] ⟨[],[]⟩ [] (.lp ⟨[kdI 8],[]⟩ (.tw 9 (.cl Ae [] (.tw 16 .nil .nil)) .nil)) .nil
def Kw:Spec:=⟨21,⟨[(0,.dat (.sl .str)),(1,.fn 53 [])],[]⟩,[⟨[kdI 0],[]⟩],fun x=>nf x⟩
def Mb:OkSpec Tryz.prog:=⟨Kw,ah func21 Ji (by kernel_rfl) (by kernel_rfl),call21⟩
def qT  : kb→Option (kb⊕ck):=fun (l1,i2,i3)=>cond (decide (i3 < (l1.length:Int))) ((aa l1 i3).bind fun x4=>(kF x4).bind fun t5=>cond (!t5) ((aa l1 i2).bind fun x6=>(some (l1.set i2.toNat x4)).bind fun z7=>some (.inl ((z7,IntKind.wrap .i64 (i2 + 1),IntKind.wrap .i64 (i3 + 1))))) (some (.inl ((l1,i2,IntKind.wrap .i64 (i3 + 1)))))) (some (.inr (((l1,i2)))))
def m9 (qxa:(List Tq5)):Option ((List Tq5)) :=
 (nf qxa).bind fun i1=>cond (decide (i1=(-1))) (some (qxa)) ((loop (qT) ((qxa,i1,IntKind.wrap .i64 (i1 + 1)))).bind fun (l2,i3)=>(subL l2 i3 (l2.length:Int)).bind fun _=>(some (cpy l2 (i3:Int).toNat (List.replicate (((l2.length:Int):Int).toNat - (i3:Int).toNat) ([]:List UInt8)))).bind fun z4=>(subL z4 0 i3).bind fun y5=>some (y5))
def KU:Hn Tryz.prog := .cl Mb [0] (.tw 12 (.per 0 1 .nil) (.jn [] ⟨[(0,.own 9 .str),kdI 5,(8,.any)],[]⟩ [0] (.lp ⟨[(0,.own 9 .str),kdI 5,kdI 6],[]⟩ (.tw 19 (.cl Ae [] (.tw 29 .nil .nil)) .nil)) (.per 2 4 .nil)))
def KB:Spec:=⟨52,⟨[(0,.own 9 .str),(1,.fn 53 [])],[]⟩,[⟨[(0,.dat (.sl .str))],[]⟩],fun x=>m9 x⟩
def KR:OkSpec Tryz.prog:=⟨KB,ah func52 KU (by kernel_rfl) (by kernel_rfl),call52⟩

def kX (xa:Tq5):Option ((List Tq5)) :=
 (dF xa ([32]:List UInt8)).bind fun l19=>(m9 l19).bind fun l25=>some (l25)
def Me:Hn Tryz.prog := .cl io [] (.cl KR [] .nil)
def Ls:Spec:=⟨24,⟨[(0,.dat .str)],[]⟩,[⟨[(0,.dat (.sl .str))],[]⟩],fun x=>kX x⟩
def AI:OkSpec Tryz.prog:=⟨Ls,ah func24 Me (by kernel_rfl) (by kernel_rfl),call24⟩
def nt (xa:(List Tq5)) (xb:(List Tq5)):Int→Option (Int⊕(Unit⊕Bool)):=fun i1=>cond (decide (i1 < (xa.length:Int))) ((aa xa i1).bind fun x2=>(aa xb i1).bind fun x3=>cond (!decide (x2=x3)) (some (.inr ((.inr (false))))) (some (.inl (IntKind.wrap .i64 (i1 + 1))))) (some (.inr ((.inl ()))))
def kr (xa:(List Tq5)) (xb:(List Tq5)):Option Bool :=
 cond (!decide ((xa.length:Int)=(xb.length:Int))) (some (false)) ((loop (nt xa xb) 0).bind fun o=>match o with | .inr r=>some r | .inl ()=>some (true))
def Jd:Hn Tryz.prog := .tw 10 .nil (.jx [] ⟨[],[]⟩ [] (.lp ⟨[kdI 13],[]⟩ (.tw 14 (.mix [] [0,1,2,3,4,5,6,7,8] [] [] (.tw 24 .nil .nil)) .nil)) .nil)
def Lx:Spec:=⟨23,⟨[(0,.dat (.sl .str)),(1,.dat (.sl .str))],[]⟩,[⟨[kdB 0],[]⟩],fun x=>kr x.1 x.2⟩
def KP:OkSpec Tryz.prog:=⟨Lx,ah func23 Jd (by kernel_rfl) (by kernel_rfl),call23⟩

def nI (xa:Tq5):Option Bool :=
 (kX xa).bind fun l25=>(kr l25 (([([116,104,101,110]:List UInt8)]:List Tq5))).bind fun t40=>some (t40)
def La:Hn Tryz.prog := .cl AI [] (.cl KP [0] .nil)
def J8:Spec:=⟨22,⟨[(0,.dat .str)],[]⟩,[⟨[kdB 0],[]⟩],fun x=>nI x⟩
def Kf:OkSpec Tryz.prog:=⟨J8,ah func22 La (by kernel_rfl) (by kernel_rfl),call22⟩
def m7 (xa:(List Tq5)):Int→Option (Int⊕(Unit⊕Int)):=fun i1=>cond (decide (i1 < (xa.length:Int))) ((aa xa i1).bind fun x2=>(nI x2).bind fun t3=>cond (t3) (some (.inr ((.inr (i1))))) (some (.inl (IntKind.wrap .i64 (i1 + 1))))) (some (.inr ((.inl ()))))
def nd (xa:(List Tq5)):Option Int :=
 (loop (m7 xa) 0).bind fun o=>match o with | .inr r=>some r | .inl ()=>some ((-1))
def KL:Hn Tryz.prog := .jx [] ⟨[],[]⟩ [] (.lp ⟨[kdI 8],[]⟩ (.tw 9 (.cl Kf [] (.tw 16 .nil .nil)) .nil)) .nil
def Jr:Spec:=⟨21,⟨[(0,.dat (.sl .str)),(1,.fn 22 [])],[]⟩,[⟨[kdI 0],[]⟩],fun x=>nd x⟩
def Iw:OkSpec Tryz.prog:=⟨Jr,ah func21 KL (by kernel_rfl) (by kernel_rfl),call21⟩

def vk (xa:Tq5) (xb:Tq5) (xc:Int):Option (List UInt8×List UInt8×Int) :=
 some ((xb,xa,xc))
def Ll:Hn Tryz.prog := .nil
def Iu:Spec:=⟨90,⟨[(0,.dat .str),(1,.dat .str),kdI 2],[]⟩,[⟨[(0,.fn 119 [.ptr 0 0,.ptr 1 0,.ptr 2 0])],[bkN 9 [.dat .str],bkN 9 [.dat .str],bkN 3 [.dat Yq2]]⟩],fun x=>vk x.1 x.2.1 x.2.2⟩
def KC:OkSpec Tryz.prog:=⟨Iu,ah func90 Ll (by kernel_rfl) (by kernel_rfl),call90⟩

def rf (xa:Tq5) (xb:Tq5):Option (List UInt8×List UInt8×Int) :=
 (vk xa xb 0).bind fun (s20,s21,i22)=>some ((s20,s21,i22))
def Mk:Hn Tryz.prog := .cl KC [] .nil
def Lz:Spec:=⟨54,⟨[(0,.dat .str),(1,.dat .str)],[]⟩,[⟨[(0,.fn 119 [.ptr 0 0,.ptr 1 0,.ptr 2 0])],[bkN 9 [.dat .str],bkN 9 [.dat .str],bkN 3 [.dat Yq2]]⟩],fun x=>rf x.1 x.2⟩
def KM:OkSpec Tryz.prog:=⟨Lz,ah func54 Mk (by kernel_rfl) (by kernel_rfl),call54⟩
def AW (xa:List UInt8):Option aT:=none
def Lk:Spec:=⟨116,⟨[(0,.dat .str)],[]⟩,[⟨[(0,.tup [.dat (.int .i32),.dat Yq2])],[]⟩],fun _=>none⟩
def LM:OkSpec Tryz.prog:=⟨Lk,fun _ _ h=>(by cases h),call116⟩

def kV (xa:Tq5):Option Bool :=
 some (decide (xa=([]:List UInt8)))
def IO:Hn Tryz.prog := .nil
def JY:Spec:=⟨55,⟨[(0,.dat .str)],[]⟩,[⟨[kdB 0],[]⟩],fun x=>kV x⟩
def Ah:OkSpec Tryz.prog:=⟨JY,ah func55 IO (by kernel_rfl) (by kernel_rfl),call55⟩
def nc (xa:(List Tq5)):Int→Option (Int⊕(Unit⊕Int)):=fun i1=>cond (decide (i1 < (xa.length:Int))) ((aa xa i1).bind fun x2=>(kV x2).bind fun t3=>cond (t3) (some (.inr ((.inr (i1))))) (some (.inl (IntKind.wrap .i64 (i1 + 1))))) (some (.inr ((.inl ()))))
def ni (xa:(List Tq5)):Option Int :=
 (loop (nc xa) 0).bind fun o=>match o with | .inr r=>some r | .inl ()=>some ((-1))
def J7:Hn Tryz.prog := .jx [] ⟨[],[]⟩ [] (.lp ⟨[kdI 8],[]⟩ (.tw 9 (.cl Ah [] (.tw 16 .nil .nil)) .nil)) .nil
def Lm:Spec:=⟨21,⟨[(0,.dat (.sl .str)),(1,.fn 55 [])],[]⟩,[⟨[kdI 0],[]⟩],fun x=>ni x⟩
def Mg:OkSpec Tryz.prog:=⟨Lm,ah func21 J7 (by kernel_rfl) (by kernel_rfl),call21⟩
def qU  : kb→Option (kb⊕ck):=fun (l1,i2,i3)=>cond (decide (i3 < (l1.length:Int))) ((aa l1 i3).bind fun x4=>(kV x4).bind fun t5=>cond (!t5) ((aa l1 i2).bind fun x6=>(some (l1.set i2.toNat x4)).bind fun z7=>some (.inl ((z7,IntKind.wrap .i64 (i2 + 1),IntKind.wrap .i64 (i3 + 1))))) (some (.inl ((l1,i2,IntKind.wrap .i64 (i3 + 1)))))) (some (.inr (((l1,i2)))))
def iL (qxa:(List Tq5)):Option ((List Tq5)) :=
 (ni qxa).bind fun i1=>cond (decide (i1=(-1))) (some (qxa)) ((loop (qU) ((qxa,i1,IntKind.wrap .i64 (i1 + 1)))).bind fun (l2,i3)=>(subL l2 i3 (l2.length:Int)).bind fun _=>(some (cpy l2 (i3:Int).toNat (List.replicate (((l2.length:Int):Int).toNat - (i3:Int).toNat) ([]:List UInt8)))).bind fun z4=>(subL z4 0 i3).bind fun y5=>some (y5))
def J4:Hn Tryz.prog := .cl Mg [0] (.tw 12 (.per 0 1 .nil) (.jn [] ⟨[(0,.own 9 .str),kdI 5,(8,.any)],[]⟩ [0] (.lp ⟨[(0,.own 9 .str),kdI 5,kdI 6],[]⟩ (.tw 19 (.cl Ah [] (.tw 29 .nil .nil)) .nil)) (.per 2 4 .nil)))
def I4:Spec:=⟨52,⟨[(0,.own 9 .str),(1,.fn 55 [])],[]⟩,[⟨[(0,.dat (.sl .str))],[]⟩],fun x=>iL x⟩
def uU:OkSpec Tryz.prog:=⟨I4,ah func52 J4 (by kernel_rfl) (by kernel_rfl),call52⟩

def qW (xa:Tq5) (xb:Tq5):Option Bool :=
 (cond (decide ((xb.length:Int)≤(xa.length:Int))) ((subL xa 0 (xb.length:Int)).bind fun y14=>some (decide (y14=xb))) (some (false))).bind fun t12=>some (t12)
def IS:Hn Tryz.prog := .gj 6 ⟨[kdB 17],[]⟩ [] (.two 10 .nil .nil) .nil
def I2:Spec:=⟨91,⟨[(0,.dat .str),(1,.dat .str)],[]⟩,[⟨[kdB 0],[]⟩],fun x=>qW x.1 x.2⟩
def Ko:OkSpec Tryz.prog:=⟨I2,ah func91 IS (by kernel_rfl) (by kernel_rfl),call91⟩

def fh (xa:Tq5) (xb:Tq5):Option Bool :=
 (qW xa xb).bind fun t10=>some (t10)
def JJ:Hn Tryz.prog := .cl Ko [] .nil
def JU:Spec:=⟨56,⟨[(0,.dat .str),(1,.dat .str)],[]⟩,[⟨[kdB 0],[]⟩],fun x=>fh x.1 x.2⟩
def qE:OkSpec Tryz.prog:=⟨JU,ah func56 JJ (by kernel_rfl) (by kernel_rfl),call56⟩

def bf (xa:Tq5):Option aT :=
 (cond (decide (xa=([98,111,117,110,100,115]:List UInt8))) (some (decide (xa=([98,111,117,110,100,115]:List UInt8)))) (some (decide (xa=([110,101,101,100,115]:List UInt8)))):Option Bool).bind fun t36=>cond (t36) (some ((1,9223372036854775807))) ((cond (decide (xa=([98,108,111,99,107]:List UInt8))) (some (decide (xa=([98,108,111,99,107]:List UInt8)))) (cond (decide (xa=([110,111,112]:List UInt8))) (some (decide (xa=([110,111,112]:List UInt8)))) (some (decide (xa=([114,101,116,117,114,110]:List UInt8))))):Option Bool).bind fun t41=>cond (t41) (some ((1,1))) ((cond (decide (xa=([108,111,99,97,108]:List UInt8))) (some (decide (xa=([108,111,99,97,108]:List UInt8)))) (cond (decide (xa=([103,105,118,101,115]:List UInt8))) (some (decide (xa=([103,105,118,101,115]:List UInt8)))) (cond (decide (xa=([97,114,103]:List UInt8))) (some (decide (xa=([97,114,103]:List UInt8)))) (cond (decide (xa=([117,115,101]:List UInt8))) (some (decide (xa=([117,115,101]:List UInt8)))) (cond (decide (xa=([100,101,97,100]:List UInt8))) (some (decide (xa=([100,101,97,100]:List UInt8)))) (some (decide (xa=([103,111,116,111]:List UInt8)))))))):Option Bool).bind fun t50=>cond (t50) (some ((2,2))) ((cond (decide (xa=([114,101,103,105,111,110,115]:List UInt8))) (some (decide (xa=([114,101,103,105,111,110,115]:List UInt8)))) (cond (decide (xa=([115,105,103]:List UInt8))) (some (decide (xa=([115,105,103]:List UInt8)))) (cond (decide (xa=([97,115,115,105,103,110]:List UInt8))) (some (decide (xa=([97,115,115,105,103,110]:List UInt8)))) (some (decide (xa=([115,119,105,116,99,104]:List UInt8)))))):Option Bool).bind fun t60=>cond (t60) (some ((3,3))) (cond (decide (xa=([98,111,114,114,111,119]:List UInt8))) (some ((4,5))) (cond (decide (xa=([114,101,98,111,114,114,111,119]:List UInt8))) (some ((4,5))) (some ((6,6))))))))
def Iy:Hn Tryz.prog := .pl (.pl (.pl (.sq [] ⟨[kdB 5],[]⟩ [] (.tw 5 .nil .nil) (.tw 5 .nil (.sq [] ⟨[kdB 8],[]⟩ [] (.tw 8 .nil (.tw 8 .nil .nil)) (.tw 8 .nil (.sq [] ⟨[kdB 12],[]⟩ [] (.tw 12 .nil (.tw 12 .nil (.tw 12 .nil (.tw 12 .nil (.tw 12 .nil .nil))))) (.tw 12 .nil (.sq [] ⟨[kdB 19],[]⟩ [] (.tw 19 .nil (.tw 19 .nil (.tw 19 .nil .nil))) (.tw 19 .nil (.two 24 .nil (.tw 24 .nil .nil))))))))))))
def IC:Spec:=⟨92,⟨[(0,.dat .str)],[]⟩,[⟨[(0,.tup [.dat Yq2,.dat Yq2])],[]⟩],fun x=>bf x⟩
def Kt:OkSpec Tryz.prog:=⟨IC,ah func92 Iy (by kernel_rfl) (by kernel_rfl),call92⟩
def nr (xa:(List Tq5)) (xb:Tq5):Int→Option (Int⊕(Unit⊕Int)):=fun i1=>cond (decide (i1 < (xa.length:Int))) ((aa xa i1).bind fun x2=>cond (decide (xb=x2)) (some (.inr ((.inr (i1))))) (some (.inl (IntKind.wrap .i64 (i1 + 1))))) (some (.inr ((.inl ()))))
def qY (xa:(List Tq5)) (xb:Tq5):Option Int :=
 (loop (nr xa xb) 0).bind fun o=>match o with | .inr r=>some r | .inl ()=>some ((-1))
def Kb:Hn Tryz.prog := .jx [] ⟨[],[]⟩ [] (.lp ⟨[kdI 8],[]⟩ (.tw 9 (.tw 16 .nil .nil) .nil)) .nil
def Lf:Spec:=⟨146,⟨[(0,.dat (.sl .str)),(1,.dat .str)],[]⟩,[⟨[kdI 0],[]⟩],fun x=>qY x.1 x.2⟩
def Ke:OkSpec Tryz.prog:=⟨Lf,ah func146 Kb (by kernel_rfl) (by kernel_rfl),call146⟩

def bX (xa:(List Tq5)) (xb:Tq5):Option Bool :=
 (qY xa xb).bind fun i10=>some (decide (0≤i10))
def Ly:Hn Tryz.prog := .cl Ke [] .nil
def Jj:Spec:=⟨120,⟨[(0,.dat (.sl .str)),(1,.dat .str)],[]⟩,[⟨[kdB 0],[]⟩],fun x=>bX x.1 x.2⟩
def fZ:OkSpec Tryz.prog:=⟨Jj,ah func120 Ly (by kernel_rfl) (by kernel_rfl),call120⟩

def AV (xb:Tq5) (qa0:Int) (qa1:Int) (qa2:Tq8) (qa4:Tq4) (qa5:(List Tq3)) (qa6:(List Tq2)) (qa7:Int):Option ((Bool×Tq8×Tq4×(List Tq3)×(List Tq2))) :=
 cond (decide (qa7=0)) ((bX (([([114,101,103,105,111,110,115]:List UInt8)]:List Tq5)) xb).bind fun t3=>some ((t3,qa2,qa4,qa5,qa6))) (cond (decide (qa7=1)) ((bX (([([98,111,117,110,100,115]:List UInt8)]:List Tq5)) xb).bind fun t9=>some ((t9,qa2,qa4,qa5,qa6))) (cond (decide (qa7=2)) ((bX (([([108,111,99,97,108]:List UInt8),([103,105,118,101,115]:List UInt8)]:List Tq5)) xb).bind fun t10=>some ((t10,qa2,qa4,qa5,qa6))) (cond (decide (qa7=3)) ((bX (([([115,105,103]:List UInt8),([98,108,111,99,107]:List UInt8)]:List Tq5)) xb).bind fun t11=>some ((t11,qa2,qa4,qa5,qa6))) (cond (decide (qa7=4)) ((bX (([([110,101,101,100,115]:List UInt8)]:List Tq5)) xb).bind fun t12=>some ((t12,qa2,qa4,qa5,qa6))) (cond (decide (qa7=5)) ((bX (([([97,114,103]:List UInt8),([115,105,103]:List UInt8),([98,108,111,99,107]:List UInt8)]:List Tq5)) xb).bind fun t13=>some ((t13,qa2,qa4,qa5,qa6))) (cond (decide (qa7=6)) ((bX (([([110,111,112]:List UInt8),([97,115,115,105,103,110]:List UInt8),([98,111,114,114,111,119]:List UInt8),([114,101,98,111,114,114,111,119]:List UInt8),([117,115,101]:List UInt8),([100,101,97,100]:List UInt8),([103,111,116,111]:List UInt8),([115,119,105,116,99,104]:List UInt8),([114,101,116,117,114,110]:List UInt8),([99,97,108,108]:List UInt8)]:List Tq5)) xb).bind fun t14=>some ((t14,qa2,qa4,qa5,qa6))) (cond (decide (qa7=7)) ((bX (([([98,108,111,99,107]:List UInt8)]:List Tq5)) xb).bind fun t15=>some ((t15,qa2,qa4,qa5,qa6))) ((bX ([]) xb).bind fun t16=>some ((t16,qa2,qa4,qa5,qa6))))))))))
def ku (xb:Int) (l1:List Tq5):((List Int)×Int)→Option (((List Int)×Int)⊕((List Int)⊕((List Int)×Int))):=fun (l2,i3)=>cond (decide (i3 < (l1.length:Int))) ((aa l1 i3).bind fun x4=>(fp x4 xb).bind fun (i5,i6)=>cond (!decide (i6=0)) (some (.inr ((.inr (([],i6)))))) ((app l2 ([i5]:List Int)).bind fun z7=>some (.inl ((z7,IntKind.wrap .i64 (i3 + 1)))))) (some (.inr (.inl l2)))
def kx (xa:Tq5) (xb:Int):Option (((List Int)×Int)) :=
 cond (decide (xa=([]:List UInt8))) (some (([],0))) ((dF xa ([44]:List UInt8)).bind fun l1=>(loop (ku xb l1) ([],0)).bind fun o=>match o with | .inr r=>some r | .inl l2=>some ((l2,0)))
def LY:Hn Tryz.prog := .tw 12 .nil (.cl io [] (.jx [] ⟨[(6,.own 3 Yq2)],[]⟩ [] (.lp ⟨[(6,.own 3 Yq2),kdI 16],[]⟩ (.tw 17 (.cl oQ9 [] (.tw 27 .nil .nil)) .nil)) .nil))
def I7:Spec:=⟨163,⟨[(0,.dat .str),kdI 1],[]⟩,[⟨[(0,.tup [.own 3 Yq2,.dat Yq2])],[]⟩],fun x=>kx x.1 x.2⟩
def KI:OkSpec Tryz.prog:=⟨I7,ah func163 LY (by kernel_rfl) (by kernel_rfl),call163⟩

def ra (xa:Tq5):Option (((List Int)×Int)) :=
 cond (decide (xa=([45]:List UInt8))) (some (([],0))) ((kx xa 1048576).bind fun (l23,i24)=>some ((l23,i24)))
def Lq:Hn Tryz.prog := .tw 5 .nil (.cl KI [] .nil)
def KY:Spec:=⟨162,⟨[(0,.dat .str)],[]⟩,[⟨[(0,.tup [.own 3 Yq2,.dat Yq2])],[]⟩],fun x=>ra x⟩
def Jx:OkSpec Tryz.prog:=⟨KY,ah func162 Lq (by kernel_rfl) (by kernel_rfl),call162⟩

def np (qa0:(List Tq5)) (qa1:Int):Option (((List Int)×(List Tq5)×Int)) :=
 cond (!decide (qa1=0)) (some (([],qa0,qa1))) ((aa qa0 0).bind fun x40=>(ra x40).bind fun (l51,i52)=>(subL qa0 1 (qa0.length:Int)).bind fun y60=>some ((l51,y60,i52)))
def Jp:Hn Tryz.prog := .tw 10 .nil (.cl Jx [] .nil)
def Jm:Spec:=⟨161,⟨[(0,.ptr 0 0),(1,.fn 162 [])],[bkN 150 [.dat (.sl .str),.dat Yq2]]⟩,[⟨[(0,.own 3 Yq2)],[bkC 0 150 [.dat (.sl .str),.dat Yq2]]⟩],fun x=>np x.1 x.2⟩
def Ma:OkSpec Tryz.prog:=⟨Jm,ah func161 Jp (by kernel_rfl) (by kernel_rfl),call161⟩

def eh (qa0:(List Tq5)) (qa1:Int):Option (((List Int)×(List Tq5)×Int)) :=
 (np qa0 qa1).bind fun (l28,l29,i30)=>some ((l28,l29,i30))
def JO:Hn Tryz.prog := .cl Ma [] .nil
def Je:Spec:=⟨147,⟨[(0,.ptr 0 0)],[bkN 150 [.dat (.sl .str),.dat Yq2]]⟩,[⟨[(0,.own 3 Yq2)],[bkC 0 150 [.dat (.sl .str),.dat Yq2]]⟩],fun x=>eh x.1 x.2⟩
def ki:OkSpec Tryz.prog:=⟨Je,ah func147 JO (by kernel_rfl) (by kernel_rfl),call147⟩

def q9 (xa:Tq5):Option aT :=
 (fp xa 1048576).bind fun (i13,i14)=>some ((i13,i14))
def LN:Hn Tryz.prog := .cl oQ9 [] .nil
def Ja:Spec:=⟨149,⟨[(0,.dat .str)],[]⟩,[⟨[(0,.tup [.dat Yq2,.dat Yq2])],[]⟩],fun x=>q9 x⟩
def JR:OkSpec Tryz.prog:=⟨Ja,ah func149 LN (by kernel_rfl) (by kernel_rfl),call149⟩

def nj (qa0:(List Tq5)) (qa1:Int):Option ((Int×(List Tq5)×Int)) :=
 cond (!decide (qa1=0)) (some ((0,qa0,qa1))) ((aa qa0 0).bind fun x31=>(q9 x31).bind fun (i42,i43)=>(subL qa0 1 (qa0.length:Int)).bind fun y47=>some ((i42,y47,i43)))
def Mh:Hn Tryz.prog := .tw 10 .nil (.cl JR [] .nil)
def JE:Spec:=⟨148,⟨[(0,.ptr 0 0),(1,.fn 149 [])],[bkN 150 [.dat (.sl .str),.dat Yq2]]⟩,[⟨[kdI 0],[bkC 0 150 [.dat (.sl .str),.dat Yq2]]⟩],fun x=>nj x.1 x.2⟩
def Lo:OkSpec Tryz.prog:=⟨JE,ah func148 Mh (by kernel_rfl) (by kernel_rfl),call148⟩

def b7 (qa0:(List Tq5)) (qa1:Int):Option ((Int×(List Tq5)×Int)) :=
 (nj qa0 qa1).bind fun (i21,l22,i23)=>some ((i21,l22,i23))
def Mn:Hn Tryz.prog := .cl Lo [] .nil
def Jn:Spec:=⟨123,⟨[(0,.ptr 0 0)],[bkN 150 [.dat (.sl .str),.dat Yq2]]⟩,[⟨[kdI 0],[bkC 0 150 [.dat (.sl .str),.dat Yq2]]⟩],fun x=>b7 x.1 x.2⟩
def d8:OkSpec Tryz.prog:=⟨Jn,ah func123 Mn (by kernel_rfl) (by kernel_rfl),call123⟩

def dk (xa:Tq5) (qa0:(List Tq5)) (qa1:Int):Option ((Int×Int×Int×(List Int)×(List Int)×(List Int)×Bool×(List Tq5)×Int)) :=
 cond (decide (xa=([103,111,116,111]:List UInt8))) ((eh qa0 qa1).bind fun (l2,l3,i4)=>some ((1,0,0,l2,[],[],true,l3,i4))) (cond (decide (xa=([115,119,105,116,99,104]:List UInt8))) ((eh qa0 qa1).bind fun (l5,l6,i7)=>(eh l6 i7).bind fun (l9,l10,i11)=>some ((2,0,0,l5,l9,[],true,l10,i11))) (cond (decide (xa=([114,101,116,117,114,110]:List UInt8))) (some ((3,0,0,[],[],[],true,qa0,qa1))) (cond (decide (xa=([99,97,108,108]:List UInt8))) ((b7 qa0 qa1).bind fun (i12,l13,i14)=>(b7 l13 i14).bind fun (i15,l16,i17)=>(eh l16 i17).bind fun (l18,l19,i20)=>(eh l19 i20).bind fun (l21,l22,i23)=>(eh l22 i23).bind fun (l24,l25,i26)=>some ((4,i12,i15,l18,l24,l21,true,l25,i26))) (some ((0,0,0,[],[],[],false,qa0,qa1))))))
def K6:Hn Tryz.prog := .tw 9 (.cl ki [] .nil) (.tw 15 (.cl ki [] (.cl ki [] .nil)) (.tw 24 .nil (.tw 27 (.cl d8 [] (.cl d8 [] (.cl ki [] (.cl ki [] (.cl ki [] .nil))))) .nil)))
def I0:Spec:=⟨121,⟨[(0,.dat .str),(1,.ptr 0 0)],[bkN 150 [.dat (.sl .str),.dat Yq2]]⟩,[⟨[(0,.tup [.agg [.dat Yq2,.dat Yq2,.dat Yq2,.own 3 Yq2,.own 3 Yq2,.own 3 Yq2],.dat .bool])],[bkC 0 150 [.dat (.sl .str),.dat Yq2]]⟩],fun x=>dk x.1 x.2.1 x.2.2⟩
def Kq:OkSpec Tryz.prog:=⟨I0,ah func121 K6 (by kernel_rfl) (by kernel_rfl),call121⟩

def cT (xa:(List Tq5)) (qa0:(List Tq5)) (qa1:Int):Option ((Int×Int×Int×Int×Bool×(List Tq5)×Int)) :=
 (aa xa 0).bind fun x2=>cond (decide (x2=([97,115,115,105,103,110]:List UInt8))) ((b7 qa0 qa1).bind fun (i3,l4,i5)=>(b7 l4 i5).bind fun (i6,l7,i9)=>some ((1,i3,i6,0,false,l7,i9))) ((cond (decide (x2=([98,111,114,114,111,119]:List UInt8))) (some (decide (x2=([98,111,114,114,111,119]:List UInt8)))) (some (decide (x2=([114,101,98,111,114,114,111,119]:List UInt8)))):Option Bool).bind fun t10=>cond (t10) (((aa xa 0).bind fun x11=>cond (decide (x11=([114,101,98,111,114,114,111,119]:List UInt8))) (some (3)) (some (2)):Option Int).bind fun i12=>((cond (decide ((xa.length:Int)=5)) ((aa xa 4).bind fun x13=>some (!decide (x13=([109,117,116]:List UInt8)))) (some (false))).bind fun t14=>cond (t14) (some (3)) (some (qa1)):Option Int).bind fun i15=>(b7 qa0 i15).bind fun (i16,l17,i18)=>(b7 l17 i18).bind fun (i19,l20,i21)=>(b7 l20 i21).bind fun (i22,l23,i24)=>some ((i12,i16,i19,i22,decide ((xa.length:Int)=5),l23,i24))) (cond (decide (x2=([117,115,101]:List UInt8))) ((b7 qa0 qa1).bind fun (i25,l26,i27)=>some ((4,0,i25,0,false,l26,i27))) (cond (decide (x2=([100,101,97,100]:List UInt8))) ((b7 qa0 qa1).bind fun (i28,l29,i30)=>some ((5,i28,0,0,false,l29,i30))) (some ((0,0,0,0,false,qa0,qa1))))))
def K7:Hn Tryz.prog := .tw 9 (.cl d8 [] (.cl d8 [] .nil)) (.sq [] ⟨[kdB 18],[]⟩ [] (.tw 18 .nil .nil) (.tw 18 (.pl (.sq [] ⟨[],[bkC 4 129 [.dat Yq2,.lit (.int .i64 0),.lit (.int .i64 0),.lit (.int .i64 0),.lit (.bool false)]]⟩ [4] (.tw 25 .nil .nil) (.pl (.sq [(0,0)] ⟨[],[bkC 0 150 [.is 1 (.any),.dat Yq2],bkU 9]⟩ [0] (.gj 4 ⟨[kdB 38],[]⟩ [] (.two 33 .nil .nil) (.tw 38 .nil .nil)) (.cl d8 [] (.cl d8 [] (.cl d8 [] .nil))))))) (.tw 51 (.cl d8 [] .nil) (.tw 57 (.cl d8 [] .nil) .nil))))
def KD:Spec:=⟨122,⟨[(0,.dat (.sl .str)),(1,.ptr 0 0)],[bkN 150 [.dat (.sl .str),.dat Yq2]]⟩,[⟨[(0,.agg [.dat Yq2,.dat Yq2,.dat Yq2,.dat Yq2,.dat .bool])],[bkC 0 150 [.dat (.sl .str),.dat Yq2]]⟩],fun x=>cT x.1 x.2.1 x.2.2⟩
def Ay:OkSpec Tryz.prog:=⟨KD,ah func122 K7 (by kernel_rfl) (by kernel_rfl),call122⟩

def AT (xb:(List Tq5)) (qa0:Int) (qa1:Int) (qa2:Tq8) (qa4:Tq4) (qa5:(List Tq3)) (qa6:(List Tq2)) (qa7:Int) (qb0:(List Tq5)) (qb1:Int):Option ((Tq8×Tq4×(List Tq3)×(List Tq2)×Int×(List Tq5)×Int)) :=
 (aa qa6 (IntKind.wrap .i64 ((qa6.length:Int) - 1))).bind fun _=>(aa xb 0).bind fun x3=>(dk x3 qb0 qb1).bind fun (i9,i10,i11,l12,l13,l14,t15,l16,i17)=>cond (t15) ((aa qa6 (IntKind.wrap .i64 ((qa6.length:Int) - 1))).bind fun x18=>(aF (IntKind.wrap .i64 ((qa6.length:Int) - 1)) (IntKind.wrap .i64 ((qa6.length:Int) - 1))).bind fun _=>some ((qa2,qa4,qa5,qa6.set (IntKind.wrap .i64 ((qa6.length:Int) - 1)).toNat ((x18.1,(i9,i10,i11,l12,l13,l14))),7,l16,i17))) ((((aa qa6 (IntKind.wrap .i64 ((qa6.length:Int) - 1))).bind fun x19=>(aF (IntKind.wrap .i64 ((qa6.length:Int) - 1)) (IntKind.wrap .i64 ((qa6.length:Int) - 1))).bind fun _=>(cT xb l16 i17).bind fun (i20,i21,i22,i23,t24,l25,i26)=>(app x19.1 (([(i20,i21,i22,i23,t24)]:List Tq7))).bind fun z27=>(aF (IntKind.wrap .i64 ((qa6.length:Int) - 1)) (IntKind.wrap .i64 ((qa6.length:Int) - 1))).bind fun _=>some ((l25,i26,qa6.set (IntKind.wrap .i64 ((qa6.length:Int) - 1)).toNat ((z27,(x19.2.1,x19.2.2.1,x19.2.2.2.1,x19.2.2.2.2.1,x19.2.2.2.2.2.1,x19.2.2.2.2.2.2)))))).bind fun x28=>((cT xb l16 i17).bind fun (i29,i30,i31,i32,t33,l34,i35)=>((aa qa6 (IntKind.wrap .i64 ((qa6.length:Int) - 1))).bind fun x36=>(aF (IntKind.wrap .i64 ((qa6.length:Int) - 1)) (IntKind.wrap .i64 ((qa6.length:Int) - 1))).bind fun _=>(app x36.1 (([(i29,i30,i31,i32,t33)]:List Tq7))).bind fun z37=>(aF (IntKind.wrap .i64 ((qa6.length:Int) - 1)) (IntKind.wrap .i64 ((qa6.length:Int) - 1))).bind fun _=>some ((l34,i35,qa6.set (IntKind.wrap .i64 ((qa6.length:Int) - 1)).toNat ((z37,(x36.2.1,x36.2.2.1,x36.2.2.2.1,x36.2.2.2.2.1,x36.2.2.2.2.2.1,x36.2.2.2.2.2.2)))))).bind fun x38=>((aa qa6 (IntKind.wrap .i64 ((qa6.length:Int) - 1))).bind fun x39=>(aF (IntKind.wrap .i64 ((qa6.length:Int) - 1)) (IntKind.wrap .i64 ((qa6.length:Int) - 1))).bind fun _=>(app x39.1 (([(i29,i30,i31,i32,t33)]:List Tq7))).bind fun z40=>(aF (IntKind.wrap .i64 ((qa6.length:Int) - 1)) (IntKind.wrap .i64 ((qa6.length:Int) - 1))).bind fun _=>some ((l34,i35,qa6.set (IntKind.wrap .i64 ((qa6.length:Int) - 1)).toNat ((z40,(x39.2.1,x39.2.2.1,x39.2.2.2.1,x39.2.2.2.2.1,x39.2.2.2.2.2.1,x39.2.2.2.2.2.2)))))).bind fun y41=>agr x38 y41 (some x38)).bind fun y42=>agr x28 y42 (some x28):Option (((List Tq5)×Int×(List Tq2)))).bind fun (l43,i44,l45)=>some ((qa2,qa4,qa5,l45,qa7,l43,i44)))
def q8 (xa:Tq5):Option (Int×Int×Int) :=
 (gY xa 1048576).bind fun (i17,i18,i19)=>some ((i17,i18,i19))
def Kh:Hn Tryz.prog := .cl AG [] .nil
def LK:Spec:=⟨151,⟨[(0,.dat .str)],[]⟩,[⟨[(0,.tup [.agg [.dat Yq2,.dat Yq2],.dat Yq2])],[]⟩],fun x=>q8 x⟩
def IB:OkSpec Tryz.prog:=⟨LK,ah func151 Kh (by kernel_rfl) (by kernel_rfl),call151⟩

def nh (qa0:(List Tq5)) (qa1:Int):Option ((Int×Int×(List Tq5)×Int)) :=
 cond (!decide (qa1=0)) (some ((0,0,qa0,qa1))) ((aa qa0 0).bind fun x38=>(q8 x38).bind fun (i49,i50,i51)=>(subL qa0 1 (qa0.length:Int)).bind fun y55=>some ((i49,i50,y55,i51)))
def L8:Hn Tryz.prog := .tw 10 .nil (.cl IB [] .nil)
def LF:Spec:=⟨150,⟨[(0,.ptr 0 0),(1,.fn 151 [])],[bkN 150 [.dat (.sl .str),.dat Yq2]]⟩,[⟨[(0,.agg [.dat Yq2,.dat Yq2])],[bkC 0 150 [.dat (.sl .str),.dat Yq2]]⟩],fun x=>nh x.1 x.2⟩
def J5:OkSpec Tryz.prog:=⟨LF,ah func150 L8 (by kernel_rfl) (by kernel_rfl),call150⟩
def fe  : (Tq8×(List Tq5)×Int)→Option ((Tq8×(List Tq5)×Int)⊕(Tq8×(List Tq5)×Int)):=fun (l1,l2,i3)=>cond ((decide (0 < (l2.length:Int)))&&(decide (i3=0))) ((nh l2 i3).bind fun (i4,i5,l6,i7)=>(app l1 (([(i4,i5)]:List aT))).bind fun z9=>some (.inl (z9,l6,i7))) (some (.inr (((l1,l2,i3)))))
def fg (qa0:(List Tq5)) (qa1:Int):Option ((Tq8×(List Tq5)×Int)) :=
 (loop (fe) ([],qa0,qa1)).bind fun (l2,l3,i4)=>some ((l2,l3,i4))
def IG:Hn Tryz.prog := .jn [] ⟨[(3,.own 78 Yq5)],[bkC 0 150 [.dat (.sl .str),.dat Yq2]]⟩ [0] (.lp ⟨[(3,.own 78 Yq5)],[bkC 0 150 [.dat (.sl .str),.dat Yq2]]⟩ (.gp 5 (.tw 16 (.cl J5 [] .nil) .nil))) .nil
def KQ:Spec:=⟨124,⟨[(0,.ptr 0 0)],[bkN 150 [.dat (.sl .str),.dat Yq2]]⟩,[⟨[(0,.own 78 Yq5)],[bkC 0 150 [.dat (.sl .str),.dat Yq2]]⟩],fun x=>fg x.1 x.2⟩
def AF:OkSpec Tryz.prog:=⟨KQ,ah func124 IG (by kernel_rfl) (by kernel_rfl),call124⟩

def qV (xa:Tq5) (xb:Tq5):Option Bool :=
 (cond (decide ((xb.length:Int)≤(xa.length:Int))) ((subL xa (IntKind.wrap .i64 ((xa.length:Int) - (xb.length:Int))) (xa.length:Int)).bind fun y14=>some (decide (y14=xb))) (some (false))).bind fun t12=>some (t12)
def KA:Hn Tryz.prog := .gj 9 ⟨[kdB 20],[]⟩ [] (.two 10 .nil .nil) .nil
def It:Spec:=⟨166,⟨[(0,.dat .str),(1,.dat .str)],[]⟩,[⟨[kdB 0],[]⟩],fun x=>qV x.1 x.2⟩
def Ks:OkSpec Tryz.prog:=⟨It,ah func166 KA (by kernel_rfl) (by kernel_rfl),call166⟩

def qX (xa:Tq5) (xb:Tq5):Option (List UInt8×Bool) :=
 (qV xa xb).bind fun t14=>cond (!t14) (some ((xa,false))) ((subL xa 0 (IntKind.wrap .i64 ((xa.length:Int) - (xb.length:Int)))).bind fun y19=>some ((y19,true)))
def Im:Hn Tryz.prog := .cl Ks [] (.tw 9 .nil .nil)
def JC:Spec:=⟨165,⟨[(0,.dat .str),(1,.dat .str)],[]⟩,[⟨[(0,.tup [.dat .str,.dat .bool])],[]⟩],fun x=>qX x.1 x.2⟩
def Lh:OkSpec Tryz.prog:=⟨JC,ah func165 Im (by kernel_rfl) (by kernel_rfl),call165⟩

def nA (xa:Tq5) (xb:Tq5):Option (List UInt8×Bool) :=
 (qX xa xb).bind fun (s12,t13)=>some ((s12,t13))
def Kj:Hn Tryz.prog := .cl Lh [] .nil
def K9:Spec:=⟨164,⟨[(0,.dat .str),(1,.dat .str)],[]⟩,[⟨[(0,.tup [.dat .str,.dat .bool])],[]⟩],fun x=>nA x.1 x.2⟩
def Kk:OkSpec Tryz.prog:=⟨K9,ah func164 Kj (by kernel_rfl) (by kernel_rfl),call164⟩
def ky (l1:List Tq5):(Int×Tq4)→Option ((Int×Tq4)⊕(Tq4⊕(Tq4×Int))):=fun (i2,l3)=>cond (decide (i2 < (l1.length:Int))) ((aa l1 i2).bind fun x4=>(nA x4 ([33]:List UInt8)).bind fun (s5,t6)=>(fp s5 1048576).bind fun (i7,i9)=>cond (!decide (i9=0)) (some (.inr ((.inr (([],i9)))))) ((app l3 (([(i7,t6)]:List (Int×Bool)))).bind fun z10=>some (.inl ((IntKind.wrap .i64 (i2 + 1),z10))))) (some (.inr (.inl l3)))
def nJ (xa:Tq5):Option ((Tq4×Int)) :=
 cond (decide (xa=([45]:List UInt8))) (some (([],0))) ((dF xa ([47]:List UInt8)).bind fun l1=>(loop (ky l1) (0,[])).bind fun o=>match o with | .inr r=>some r | .inl l2=>some ((l2,0)))
def IA:Hn Tryz.prog := .tw 12 .nil (.cl io [] (.jx [] ⟨[],[bkC 0 27 [.nils],bkC 2 27 [.own 165 Yq3]]⟩ [2,0] (.lp ⟨[kdI 17],[bkC 0 27 [.nils],bkC 2 27 [.own 165 Yq3]]⟩ (.tw 18 (.cl Kk [] (.cl oQ9 [] (.tw 32 .nil .nil))) .nil)) .nil))
def Lj:Spec:=⟨153,⟨[(0,.dat .str)],[]⟩,[⟨[(0,.tup [.agg [.own 165 Yq3],.dat Yq2])],[]⟩],fun x=>nJ x⟩
def Jk:OkSpec Tryz.prog:=⟨Lj,ah func153 IA (by kernel_rfl) (by kernel_rfl),call153⟩

def nk (qa0:(List Tq5)) (qa1:Int):Option ((Tq4×(List Tq5)×Int)) :=
 cond (!decide (qa1=0)) (some (([],qa0,qa1))) ((aa qa0 0).bind fun x45=>(nJ x45).bind fun (l56,i57)=>(subL qa0 1 (qa0.length:Int)).bind fun y65=>some ((l56,y65,i57)))
def LV:Hn Tryz.prog := .tw 10 .nil (.cl Jk [] .nil)
def LP:Spec:=⟨152,⟨[(0,.ptr 0 0),(1,.fn 153 [])],[bkN 150 [.dat (.sl .str),.dat Yq2]]⟩,[⟨[(0,.agg [.own 165 Yq3])],[bkC 0 150 [.dat (.sl .str),.dat Yq2]]⟩],fun x=>nk x.1 x.2⟩
def Jh:OkSpec Tryz.prog:=⟨LP,ah func152 LV (by kernel_rfl) (by kernel_rfl),call152⟩

def da (qa0:(List Tq5)) (qa1:Int):Option ((Tq4×(List Tq5)×Int)) :=
 (nk qa0 qa1).bind fun (l30,l31,i33)=>some ((l30,l31,i33))
def LS:Hn Tryz.prog := .cl Jh [] .nil
def IF:Spec:=⟨125,⟨[(0,.ptr 0 0)],[bkN 150 [.dat (.sl .str),.dat Yq2]]⟩,[⟨[(0,.agg [.own 165 Yq3])],[bkC 0 150 [.dat (.sl .str),.dat Yq2]]⟩],fun x=>da x.1 x.2⟩
def mZ:OkSpec Tryz.prog:=⟨IF,ah func125 LS (by kernel_rfl) (by kernel_rfl),call125⟩

def AU (xb:Tq5) (qa0:Int) (qa1:Int) (qa2:Tq8) (qa4:Tq4) (qa5:(List Tq3)) (qa6:(List Tq2)) (qa7:Int) (qb0:(List Tq5)) (qb1:Int):Option qR :=
 cond (decide (xb=([114,101,103,105,111,110,115]:List UInt8))) ((b7 qb0 qb1).bind fun (i3,l9,i10)=>(b7 l9 i10).bind fun (i11,l12,i13)=>some ((i3,i11,qa2,[],qa4,qa5,qa6,1,l12,i13))) (cond (decide (xb=([98,111,117,110,100,115]:List UInt8))) ((fg qb0 qb1).bind fun (l14,l15,i16)=>some ((qa0,qa1,l14,[],qa4,qa5,qa6,2,l15,i16))) (cond (decide (xb=([108,111,99,97,108]:List UInt8))) ((da qb0 qb1).bind fun (l17,l18,i19)=>(app (([]:List Tq4)) (([l17]:List Tq4))).bind fun z20=>some ((qa0,qa1,qa2,z20,qa4,qa5,qa6,qa7,l18,i19))) (cond (decide (xb=([103,105,118,101,115]:List UInt8))) ((da qb0 qb1).bind fun (l21,l22,i23)=>some ((qa0,qa1,qa2,[],l21,qa5,qa6,3,l22,i23))) (cond (decide (xb=([115,105,103]:List UInt8))) ((b7 qb0 qb1).bind fun (i24,l25,i26)=>(da l25 i26).bind fun (l27,l28,i29)=>(app (qa5:List Tq3) (([(i24,[],[],l27)]:List Tq3):List Tq3)).bind fun z30=>some ((qa0,qa1,qa2,[],qa4,z30,qa6,4,l28,i29))) (cond (decide (xb=([110,101,101,100,115]:List UInt8))) ((fg qb0 qb1).bind fun (l31,l32,i33)=>(aa qa5 (IntKind.wrap .i64 ((qa5.length:Int) - 1))).bind fun _=>(aa qa5 (IntKind.wrap .i64 ((qa5.length:Int) - 1))).bind fun x34=>(aF (IntKind.wrap .i64 ((qa5.length:Int) - 1)) (IntKind.wrap .i64 ((qa5.length:Int) - 1))).bind fun _=>some ((qa0,qa1,qa2,[],qa4,qa5.set (IntKind.wrap .i64 ((qa5.length:Int) - 1)).toNat (x34.1,l31,x34.2.2.1,x34.2.2.2),qa6,5,l32,i33))) (cond (decide (xb=([97,114,103]:List UInt8))) ((aa qa5 (IntKind.wrap .i64 ((qa5.length:Int) - 1))).bind fun _=>(((aa qa5 (IntKind.wrap .i64 ((qa5.length:Int) - 1))).bind fun x35=>(aF (IntKind.wrap .i64 ((qa5.length:Int) - 1)) (IntKind.wrap .i64 ((qa5.length:Int) - 1))).bind fun _=>(da qb0 qb1).bind fun (l36,l37,i38)=>(app x35.2.2.1 (([l36]:List Tq4))).bind fun z39=>(aF (IntKind.wrap .i64 ((qa5.length:Int) - 1)) (IntKind.wrap .i64 ((qa5.length:Int) - 1))).bind fun _=>some ((l37,i38,qa5.set (IntKind.wrap .i64 ((qa5.length:Int) - 1)).toNat (x35.1,x35.2.1,z39,x35.2.2.2)))).bind fun x40=>((da qb0 qb1).bind fun (l41,l42,i43)=>((aa qa5 (IntKind.wrap .i64 ((qa5.length:Int) - 1))).bind fun x44=>(aF (IntKind.wrap .i64 ((qa5.length:Int) - 1)) (IntKind.wrap .i64 ((qa5.length:Int) - 1))).bind fun _=>(app x44.2.2.1 (([l41]:List Tq4))).bind fun z45=>(aF (IntKind.wrap .i64 ((qa5.length:Int) - 1)) (IntKind.wrap .i64 ((qa5.length:Int) - 1))).bind fun _=>some ((l42,i43,qa5.set (IntKind.wrap .i64 ((qa5.length:Int) - 1)).toNat (x44.1,x44.2.1,z45,x44.2.2.2)))).bind fun x46=>((aa qa5 (IntKind.wrap .i64 ((qa5.length:Int) - 1))).bind fun x47=>(aF (IntKind.wrap .i64 ((qa5.length:Int) - 1)) (IntKind.wrap .i64 ((qa5.length:Int) - 1))).bind fun _=>(app x47.2.2.1 (([l41]:List Tq4))).bind fun z48=>(aF (IntKind.wrap .i64 ((qa5.length:Int) - 1)) (IntKind.wrap .i64 ((qa5.length:Int) - 1))).bind fun _=>some ((l42,i43,qa5.set (IntKind.wrap .i64 ((qa5.length:Int) - 1)).toNat (x47.1,x47.2.1,z48,x47.2.2.2)))).bind fun y49=>agr x46 y49 (some x46)).bind fun y50=>agr x40 y50 (some x40):Option (((List Tq5)×Int×(List Tq3)))).bind fun (l51,i52,l53)=>some ((qa0,qa1,qa2,[],qa4,l53,qa6,qa7,l51,i52))) (cond (decide (xb=([98,108,111,99,107]:List UInt8))) ((app (qa6:List Tq2) (([([],(0,0,0,[],[],[]))]:List Tq2):List Tq2)).bind fun z54=>some ((qa0,qa1,qa2,[],qa4,qa5,z54,6,qb0,qb1))) (some ((qa0,qa1,qa2,[],qa4,qa5,qa6,qa7,qb0,qb1))))))))))
def fn_text_parser_line_p0k_iirnrododi (xb:(List Tq5)) (qa0:Int) (qa1:Int) (qa2:Tq8) (qa4:Tq4) (qa5:(List Tq3)) (qa6:(List Tq2)) (qa7:Int):Option ((Int×Int×Int×Tq8×(List Tq4)×Tq4×(List Tq3)×(List Tq2)×Int)) :=
 (aa xb 0).bind fun x3=>(bf x3).bind fun (i9,i10)=>(aa xb 0).bind fun x11=>(AV x11 qa0 qa1 qa2 qa4 qa5 qa6 qa7).bind fun (t12,l13,l14,l15,l16)=>cond (((!t12)||(decide ((xb.length:Int) < i9)))||(decide (i10 < (xb.length:Int)))) (some ((3,qa0,qa1,l13,[],l14,l15,l16,qa7))) ((subL xb 1 (xb.length:Int)).bind fun y17=>(cond (decide (qa7=6)) ((AT xb qa0 qa1 l13 l14 l15 l16 qa7 y17 0).bind fun (l18,l19,l20,l21,i22,l23,i24)=>some ((qa0,qa1,l18,[],l19,l20,l21,i22,l23,i24))) ((aa xb 0).bind fun x25=>(AU x25 qa0 qa1 l13 l14 l15 l16 qa7 y17 0).bind fun (i26,i27,l28,l29,l30,l31,l32,i33,l34,i35)=>some ((i26,i27,l28,l29,l30,l31,l32,i33,l34,i35))):Option qR).bind fun (i36,i37,l38,l39,l40,l41,l42,i43,l44,i45)=>some ((i45,i36,i37,l38,l39,l40,l41,l42,i43)))
def nq (xb:Tq5) (qa0:Int) (qa1:Int) (qa2:Tq8) (qa3:(List Tq4)) (qa4:Tq4) (qa5:(List Tq3)) (qa6:(List Tq2)) (qa7:Int):Option ((Bool×Tq8×(List Tq4)×Tq4×(List Tq3)×(List Tq2))) :=
 cond (decide (qa7=0)) ((bX (([([114,101,103,105,111,110,115]:List UInt8)]:List Tq5)) xb).bind fun t9=>some ((t9,qa2,qa3,qa4,qa5,qa6))) (cond (decide (qa7=1)) ((bX (([([98,111,117,110,100,115]:List UInt8)]:List Tq5)) xb).bind fun t10=>some ((t10,qa2,qa3,qa4,qa5,qa6))) (cond (decide (qa7=2)) ((bX (([([108,111,99,97,108]:List UInt8),([103,105,118,101,115]:List UInt8)]:List Tq5)) xb).bind fun t11=>some ((t11,qa2,qa3,qa4,qa5,qa6))) (cond (decide (qa7=3)) ((bX (([([115,105,103]:List UInt8),([98,108,111,99,107]:List UInt8)]:List Tq5)) xb).bind fun t12=>some ((t12,qa2,qa3,qa4,qa5,qa6))) (cond (decide (qa7=4)) ((bX (([([110,101,101,100,115]:List UInt8)]:List Tq5)) xb).bind fun t13=>some ((t13,qa2,qa3,qa4,qa5,qa6))) (cond (decide (qa7=5)) ((bX (([([97,114,103]:List UInt8),([115,105,103]:List UInt8),([98,108,111,99,107]:List UInt8)]:List Tq5)) xb).bind fun t14=>some ((t14,qa2,qa3,qa4,qa5,qa6))) (cond (decide (qa7=6)) ((bX (([([110,111,112]:List UInt8),([97,115,115,105,103,110]:List UInt8),([98,111,114,114,111,119]:List UInt8),([114,101,98,111,114,114,111,119]:List UInt8),([117,115,101]:List UInt8),([100,101,97,100]:List UInt8),([103,111,116,111]:List UInt8),([115,119,105,116,99,104]:List UInt8),([114,101,116,117,114,110]:List UInt8),([99,97,108,108]:List UInt8)]:List Tq5)) xb).bind fun t15=>some ((t15,qa2,qa3,qa4,qa5,qa6))) (cond (decide (qa7=7)) ((bX (([([98,108,111,99,107]:List UInt8)]:List Tq5)) xb).bind fun t16=>some ((t16,qa2,qa3,qa4,qa5,qa6))) ((bX ([]) xb).bind fun t17=>some ((t17,qa2,qa3,qa4,qa5,qa6))))))))))
def J3:Hn Tryz.prog := .tw 10 (.cl fZ [15] .nil) (.tw 13 (.cl fZ [15] .nil) (.tw 16 (.cl fZ [15] .nil) (.tw 19 (.cl fZ [15] .nil) (.tw 22 (.cl fZ [15] .nil) (.tw 25 (.cl fZ [15] .nil) (.tw 28 (.cl fZ [15] .nil) (.tw 31 (.cl fZ [15] .nil) (.cl fZ [] .nil))))))))
def Jg:Spec:=⟨93,⟨[(0,.ptr 0 0),(1,.dat .str)],[bkN 96 [.is 1 (.dat Yq2),.is 2 (.dat Yq2),.own 78 Yq5,.own 27 Yq7,.own 165 Yq3,.od (.row 126 (.cons (.dat Yq2) (.cons (.dat (.sl Yq5)) (.cons (.row 27 (.dat Yq7)) (.one (.dat Yq7)))))),.od (.row 120 (.cons (.row 129 (.dat Yq6)) (.one (.dat Yq4)))),.is 3 (.dat Yq2)],bkM,bkM,bkM]⟩,[⟨[kdB 0],[bkC 0 96 [.is 1 (.any),.is 2 (.any),.own 78 Yq5,.own 27 Yq7,.own 165 Yq3,.od (.row 126 (.cons (.dat Yq2) (.cons (.dat (.sl Yq5)) (.cons (.row 27 (.dat Yq7)) (.one (.dat Yq7)))))),.od (.row 120 (.cons (.row 129 (.dat Yq6)) (.one (.dat Yq4)))),.is 3 (.any)],bkU 1,bkU 2,bkU 3]⟩],fun x=>nq x.1 x.2.1 x.2.2.1 x.2.2.2.1 x.2.2.2.2.1 x.2.2.2.2.2.1 x.2.2.2.2.2.2.1 x.2.2.2.2.2.2.2.1 x.2.2.2.2.2.2.2.2⟩
def LE:OkSpec Tryz.prog:=⟨Jg,ah func93 J3 (by kernel_rfl) (by kernel_rfl),call93⟩

def ef (xb:(List Tq5)) (qa0:Int) (qa1:Int) (qa2:Tq8) (qa3:(List Tq4)) (qa4:Tq4) (qa5:(List Tq3)) (qa6:(List Tq2)) (qa7:Int) (qb0:(List Tq5)) (qb1:Int):Option ((Tq8×(List Tq4)×Tq4×(List Tq3)×(List Tq2)×Int×(List Tq5)×Int)) :=
 (aa qa6 (IntKind.wrap .i64 ((qa6.length:Int) - 1))).bind fun _=>(aa xb 0).bind fun x9=>(dk x9 qb0 qb1).bind fun (i10,i11,i12,l13,l14,l15,t16,l17,i18)=>cond (t16) ((aa qa6 (IntKind.wrap .i64 ((qa6.length:Int) - 1))).bind fun x19=>(aF (IntKind.wrap .i64 ((qa6.length:Int) - 1)) (IntKind.wrap .i64 ((qa6.length:Int) - 1))).bind fun _=>some ((qa2,qa3,qa4,qa5,qa6.set (IntKind.wrap .i64 ((qa6.length:Int) - 1)).toNat ((x19.1,(i10,i11,i12,l13,l14,l15))),7,l17,i18))) ((((aa qa6 (IntKind.wrap .i64 ((qa6.length:Int) - 1))).bind fun x20=>(aF (IntKind.wrap .i64 ((qa6.length:Int) - 1)) (IntKind.wrap .i64 ((qa6.length:Int) - 1))).bind fun _=>(cT xb l17 i18).bind fun (i21,i22,i23,i24,t25,l26,i27)=>(app x20.1 (([(i21,i22,i23,i24,t25)]:List Tq7))).bind fun z28=>(aF (IntKind.wrap .i64 ((qa6.length:Int) - 1)) (IntKind.wrap .i64 ((qa6.length:Int) - 1))).bind fun _=>some ((l26,i27,qa6.set (IntKind.wrap .i64 ((qa6.length:Int) - 1)).toNat ((z28,(x20.2.1,x20.2.2.1,x20.2.2.2.1,x20.2.2.2.2.1,x20.2.2.2.2.2.1,x20.2.2.2.2.2.2)))))).bind fun x29=>((cT xb l17 i18).bind fun (i30,i31,i32,i33,t34,l35,i36)=>((aa qa6 (IntKind.wrap .i64 ((qa6.length:Int) - 1))).bind fun x37=>(aF (IntKind.wrap .i64 ((qa6.length:Int) - 1)) (IntKind.wrap .i64 ((qa6.length:Int) - 1))).bind fun _=>(app x37.1 (([(i30,i31,i32,i33,t34)]:List Tq7))).bind fun z38=>(aF (IntKind.wrap .i64 ((qa6.length:Int) - 1)) (IntKind.wrap .i64 ((qa6.length:Int) - 1))).bind fun _=>some ((l35,i36,qa6.set (IntKind.wrap .i64 ((qa6.length:Int) - 1)).toNat ((z38,(x37.2.1,x37.2.2.1,x37.2.2.2.1,x37.2.2.2.2.1,x37.2.2.2.2.2.1,x37.2.2.2.2.2.2)))))).bind fun x39=>((aa qa6 (IntKind.wrap .i64 ((qa6.length:Int) - 1))).bind fun x40=>(aF (IntKind.wrap .i64 ((qa6.length:Int) - 1)) (IntKind.wrap .i64 ((qa6.length:Int) - 1))).bind fun _=>(app x40.1 (([(i30,i31,i32,i33,t34)]:List Tq7))).bind fun z41=>(aF (IntKind.wrap .i64 ((qa6.length:Int) - 1)) (IntKind.wrap .i64 ((qa6.length:Int) - 1))).bind fun _=>some ((l35,i36,qa6.set (IntKind.wrap .i64 ((qa6.length:Int) - 1)).toNat ((z41,(x40.2.1,x40.2.2.1,x40.2.2.2.1,x40.2.2.2.2.1,x40.2.2.2.2.2.1,x40.2.2.2.2.2.2)))))).bind fun y42=>agr x39 y42 (some x39)).bind fun y43=>agr x29 y43 (some x29):Option (((List Tq5)×Int×(List Tq2)))).bind fun (l44,i45,l46)=>some ((qa2,qa3,qa4,qa5,l46,qa7,l44,i45)))
def Lv:Hn Tryz.prog := .mix [] [0,1,2,3,4,5,6,7,8,9,10,11,12,13] [] [] (.cl Kq [] (.tw 30 (.wt 34 (.opn 12 1000020 (.per 17 18 (.per 19 20 (.per 21 22 (.cls 12 30 .nil)))))) (.tr (.still [0,1,2,3,5,6] (.alt 4 (.alt 7 (.alt 8 (.alt 9 (.still [10,11] (.alt 12 (.leaf []) .done)) .done) .done) .done) (.alt 7 (.alt 4 (.alt 8 (.alt 9 (.still [10,11] (.alt 12 (.leaf []) .done)) .done) .done) (.alt 8 (.alt 4 (.alt 9 (.still [10,11] (.alt 12 (.leaf []) .done)) .done) .done) .done)) .done))) ⟨[],[bkC 1 150 [.dat (.sl .str),.dat Yq2],bkO 12 (.row 120 (.cons (.row 129 (.dat Yq6)) (.one (.dat Yq4))))]⟩ [1,12] (.two 0 (.wt 41 (.opn 12 1000020 (.cl Ay [] (.cls 12 36 .nil)))) (.cl Ay [] (.two 0 (.wt 41 (.opn 12 1000020 (.cls 12 36 .nil))) (.wt 41 (.opn 12 1000020 (.cls 12 36 .nil)))))) .nil)))
def IN:Spec:=⟨94,⟨[(0,.ptr 0 0),(1,.dat (.sl .str)),(2,.ptr 1 0)],[bkN 96 [.is 2 (.dat Yq2),.is 3 (.dat Yq2),.own 78 Yq5,.own 27 Yq7,.own 165 Yq3,.od (.row 126 (.cons (.dat Yq2) (.cons (.dat (.sl Yq5)) (.cons (.row 27 (.dat Yq7)) (.one (.dat Yq7)))))),.od (.row 120 (.cons (.row 129 (.dat Yq6)) (.one (.dat Yq4)))),.dat Yq2],bkN 150 [.dat (.sl .str),.dat Yq2],bkM,bkM]⟩,[⟨[],[bkC 0 96 [.is 2 (.any),.is 3 (.any),.own 78 Yq5,.own 27 Yq7,.own 165 Yq3,.od (.row 126 (.cons (.dat Yq2) (.cons (.dat (.sl Yq5)) (.cons (.row 27 (.dat Yq7)) (.one (.dat Yq7)))))),.od (.row 120 (.cons (.row 129 (.dat Yq6)) (.one (.dat Yq4)))),.dat Yq2],bkC 1 150 [.dat (.sl .str),.dat Yq2],bkU 2,bkU 3]⟩],fun x=>ef x.1 x.2.1 x.2.2.1 x.2.2.2.1 x.2.2.2.2.1 x.2.2.2.2.2.1 x.2.2.2.2.2.2.1 x.2.2.2.2.2.2.2.1 x.2.2.2.2.2.2.2.2.1 x.2.2.2.2.2.2.2.2.2.1 x.2.2.2.2.2.2.2.2.2.2⟩
def Ln:OkSpec Tryz.prog:=⟨IN,ah func94 Lv (by kernel_rfl) (by kernel_rfl),call94⟩

def be (xb:Tq5) (qa0:Int) (qa1:Int) (qa2:Tq8) (qa3:(List Tq4)) (qa4:Tq4) (qa5:(List Tq3)) (qa6:(List Tq2)) (qa7:Int) (qb0:(List Tq5)) (qb1:Int):Option qR :=
 cond (decide (xb=([114,101,103,105,111,110,115]:List UInt8))) ((b7 qb0 qb1).bind fun (i9,l10,i11)=>(b7 l10 i11).bind fun (i12,l13,i14)=>some ((i9,i12,qa2,qa3,qa4,qa5,qa6,1,l13,i14))) (cond (decide (xb=([98,111,117,110,100,115]:List UInt8))) ((fg qb0 qb1).bind fun (l15,l16,i17)=>some ((qa0,qa1,l15,qa3,qa4,qa5,qa6,2,l16,i17))) (cond (decide (xb=([108,111,99,97,108]:List UInt8))) ((da qb0 qb1).bind fun (l18,l19,i20)=>(app qa3 (([l18]:List Tq4))).bind fun z21=>some ((qa0,qa1,qa2,z21,qa4,qa5,qa6,qa7,l19,i20))) (cond (decide (xb=([103,105,118,101,115]:List UInt8))) ((da qb0 qb1).bind fun (l22,l23,i24)=>some ((qa0,qa1,qa2,qa3,l22,qa5,qa6,3,l23,i24))) (cond (decide (xb=([115,105,103]:List UInt8))) ((b7 qb0 qb1).bind fun (i25,l26,i27)=>(da l26 i27).bind fun (l28,l29,i30)=>(app (qa5:List Tq3) (([(i25,[],[],l28)]:List Tq3):List Tq3)).bind fun z31=>some ((qa0,qa1,qa2,qa3,qa4,z31,qa6,4,l29,i30))) (cond (decide (xb=([110,101,101,100,115]:List UInt8))) ((fg qb0 qb1).bind fun (l32,l33,i34)=>(aa qa5 (IntKind.wrap .i64 ((qa5.length:Int) - 1))).bind fun _=>(aa qa5 (IntKind.wrap .i64 ((qa5.length:Int) - 1))).bind fun x35=>(aF (IntKind.wrap .i64 ((qa5.length:Int) - 1)) (IntKind.wrap .i64 ((qa5.length:Int) - 1))).bind fun _=>some ((qa0,qa1,qa2,qa3,qa4,qa5.set (IntKind.wrap .i64 ((qa5.length:Int) - 1)).toNat (x35.1,l32,x35.2.2.1,x35.2.2.2),qa6,5,l33,i34))) (cond (decide (xb=([97,114,103]:List UInt8))) ((aa qa5 (IntKind.wrap .i64 ((qa5.length:Int) - 1))).bind fun _=>(((aa qa5 (IntKind.wrap .i64 ((qa5.length:Int) - 1))).bind fun x36=>(aF (IntKind.wrap .i64 ((qa5.length:Int) - 1)) (IntKind.wrap .i64 ((qa5.length:Int) - 1))).bind fun _=>(da qb0 qb1).bind fun (l37,l38,i39)=>(app x36.2.2.1 (([l37]:List Tq4))).bind fun z40=>(aF (IntKind.wrap .i64 ((qa5.length:Int) - 1)) (IntKind.wrap .i64 ((qa5.length:Int) - 1))).bind fun _=>some ((l38,i39,qa5.set (IntKind.wrap .i64 ((qa5.length:Int) - 1)).toNat (x36.1,x36.2.1,z40,x36.2.2.2)))).bind fun x41=>((da qb0 qb1).bind fun (l42,l43,i44)=>((aa qa5 (IntKind.wrap .i64 ((qa5.length:Int) - 1))).bind fun x45=>(aF (IntKind.wrap .i64 ((qa5.length:Int) - 1)) (IntKind.wrap .i64 ((qa5.length:Int) - 1))).bind fun _=>(app x45.2.2.1 (([l42]:List Tq4))).bind fun z46=>(aF (IntKind.wrap .i64 ((qa5.length:Int) - 1)) (IntKind.wrap .i64 ((qa5.length:Int) - 1))).bind fun _=>some ((l43,i44,qa5.set (IntKind.wrap .i64 ((qa5.length:Int) - 1)).toNat (x45.1,x45.2.1,z46,x45.2.2.2)))).bind fun x47=>((aa qa5 (IntKind.wrap .i64 ((qa5.length:Int) - 1))).bind fun x48=>(aF (IntKind.wrap .i64 ((qa5.length:Int) - 1)) (IntKind.wrap .i64 ((qa5.length:Int) - 1))).bind fun _=>(app x48.2.2.1 (([l42]:List Tq4))).bind fun z49=>(aF (IntKind.wrap .i64 ((qa5.length:Int) - 1)) (IntKind.wrap .i64 ((qa5.length:Int) - 1))).bind fun _=>some ((l43,i44,qa5.set (IntKind.wrap .i64 ((qa5.length:Int) - 1)).toNat (x48.1,x48.2.1,z49,x48.2.2.2)))).bind fun y50=>agr x47 y50 (some x47)).bind fun y51=>agr x41 y51 (some x41):Option (((List Tq5)×Int×(List Tq3)))).bind fun (l52,i53,l54)=>some ((qa0,qa1,qa2,qa3,qa4,l54,qa6,qa7,l52,i53))) (cond (decide (xb=([98,108,111,99,107]:List UInt8))) ((app (qa6:List Tq2) (([([],(0,0,0,[],[],[]))]:List Tq2):List Tq2)).bind fun z55=>some ((qa0,qa1,qa2,qa3,qa4,qa5,z55,6,qb0,qb1))) (some ((qa0,qa1,qa2,qa3,qa4,qa5,qa6,qa7,qb0,qb1))))))))))
def LO:Hn Tryz.prog := .tw 13 (.cl d8 [] (.cl d8 [] .nil)) (.tw 28 (.cl AF [] .nil) (.tw 38 (.mix [([0,1,2,3,4,5],6),([],7),([],8)] [9,10] [11] [4,1] (.cl mZ [] (.per 15 16 .nil))) (.tw 51 (.cl mZ [] .nil) (.tw 61 (.cl d8 [] (.cl mZ [] (.per 20 21 (.mix [([0,1,2,3,4,5],6),([],7)] [8,9] [10] [8] (.ot (.cons (.dat Yq2) (.cons (.dat (.sl Yq5)) (.cons (.row 27 (.dat Yq7)) (.one (.dat Yq7))))) (.ot (.cons (.dat Yq2) (.cons (.dat (.sl Yq5)) (.cons (.row 27 (.dat Yq7)) (.one (.dat Yq7))))) .nil)))))) (.tw 82 (.mix [([0,1,2,3,4,5,6,7,8,9,10],11)] [12,13] [14] [1] (.cl AF [] (.wt 97 (.opn 8 1000093 (.per 15 16 (.cls 8 21 .nil)))))) (.tw 101 (.mix [] [0,1,2,3,4,5,6,7,8,9,10,11] [] [] (.tr (.still [0,1,2,3,5] (.alt 4 (.alt 6 (.alt 7 (.alt 8 (.still [9,10] (.alt 11 (.leaf []) .done)) .done) .done) .done) (.alt 6 (.alt 4 (.alt 7 (.alt 8 (.still [9,10] (.alt 11 (.leaf []) .done)) .done) .done) (.alt 7 (.alt 4 (.alt 8 (.still [9,10] (.alt 11 (.leaf []) .done)) .done) .done) .done)) .done))) ⟨[],[bkC 1 150 [.dat (.sl .str),.dat Yq2],bkO 8 (.row 126 (.cons (.dat Yq2) (.cons (.dat (.sl Yq5)) (.cons (.row 27 (.dat Yq7)) (.one (.dat Yq7))))))]⟩ [1,8] (.two 0 (.wt 117 (.opn 8 1000112 (.cl mZ [] (.per 18 19 (.cls 8 25 .nil))))) (.cl mZ [] (.two 0 (.wt 117 (.opn 8 1000112 (.per 15 16 (.cls 8 25 .nil)))) (.per 15 16 (.wt 117 (.opn 8 1000112 (.cls 8 25 .nil))))))) .nil)) (.tw 125 (.ot (.cons (.row 129 (.dat Yq6)) (.one (.dat Yq4))) (.ot (.cons (.row 129 (.dat Yq6)) (.one (.dat Yq4))) .nil)) .nil)))))))
def Ml:Spec:=⟨95,⟨[(0,.ptr 0 0),(1,.dat .str),(2,.ptr 1 0)],[bkN 96 [.dat Yq2,.dat Yq2,.own 78 Yq5,.own 27 Yq7,.own 165 Yq3,.od (.row 126 (.cons (.dat Yq2) (.cons (.dat (.sl Yq5)) (.cons (.row 27 (.dat Yq7)) (.one (.dat Yq7)))))),.od (.row 120 (.cons (.row 129 (.dat Yq6)) (.one (.dat Yq4)))),.dat Yq2],bkN 150 [.dat (.sl .str),.dat Yq2]]⟩,[⟨[],[bkC 0 96 [.dat Yq2,.dat Yq2,.own 78 Yq5,.own 27 Yq7,.own 165 Yq3,.od (.row 126 (.cons (.dat Yq2) (.cons (.dat (.sl Yq5)) (.cons (.row 27 (.dat Yq7)) (.one (.dat Yq7)))))),.od (.row 120 (.cons (.row 129 (.dat Yq6)) (.one (.dat Yq4)))),.dat Yq2],bkC 1 150 [.dat (.sl .str),.dat Yq2]]⟩],fun x=>be x.1 x.2.1 x.2.2.1 x.2.2.2.1 x.2.2.2.2.1 x.2.2.2.2.2.1 x.2.2.2.2.2.2.1 x.2.2.2.2.2.2.2.1 x.2.2.2.2.2.2.2.2.1 x.2.2.2.2.2.2.2.2.2.1 x.2.2.2.2.2.2.2.2.2.2⟩
def JX:OkSpec Tryz.prog:=⟨Ml,ah func95 LO (by kernel_rfl) (by kernel_rfl),call95⟩

def eF (xb:(List Tq5)) (qa0:Int) (qa1:Int) (qa2:Tq8) (qa3:(List Tq4)) (qa4:Tq4) (qa5:(List Tq3)) (qa6:(List Tq2)) (qa7:Int):Option ((Int×Int×Int×Tq8×(List Tq4)×Tq4×(List Tq3)×(List Tq2)×Int)) :=
 (aa xb 0).bind fun x9=>(bf x9).bind fun (i10,i11)=>(aa xb 0).bind fun x12=>(nq x12 qa0 qa1 qa2 qa3 qa4 qa5 qa6 qa7).bind fun (t13,l14,l15,l16,l17,l18)=>cond (((!t13)||(decide ((xb.length:Int) < i10)))||(decide (i11 < (xb.length:Int)))) (some ((3,qa0,qa1,l14,l15,l16,l17,l18,qa7))) ((subL xb 1 (xb.length:Int)).bind fun y19=>(cond (decide (qa7=6)) ((ef xb qa0 qa1 l14 l15 l16 l17 l18 qa7 y19 0).bind fun (l20,l21,l22,l23,l24,i25,l26,i27)=>some ((qa0,qa1,l20,l21,l22,l23,l24,i25,l26,i27))) ((aa xb 0).bind fun x28=>(be x28 qa0 qa1 l14 l15 l16 l17 l18 qa7 y19 0).bind fun (i29,i30,l31,l32,l33,l34,l35,i36,l37,i38)=>some ((i29,i30,l31,l32,l33,l34,l35,i36,l37,i38))):Option qR).bind fun (i39,i40,l41,l42,l43,l44,l45,i46,l47,i48)=>some ((i48,i39,i40,l41,l42,l43,l44,l45,i46)))
def Jt:Hn Tryz.prog := .cl Kt [] (.mc 0 0 11 (.mc 0 1 11 (.mc 0 7 11 (.cl LE [] (.gp 4 (.wt 27 (.gp 4 (.tw 32 .nil (.pl (.sq [] ⟨[],[bkC 0 96 [.dat Yq2,.dat Yq2,.own 78 Yq5,.own 27 Yq7,.own 165 Yq3,.od (.row 126 (.cons (.dat Yq2) (.cons (.dat (.sl Yq5)) (.cons (.row 27 (.dat Yq7)) (.one (.dat Yq7)))))),.od (.row 120 (.cons (.row 129 (.dat Yq6)) (.one (.dat Yq4)))),.dat Yq2],bkC 37 150 [.dat (.sl .str),.dat Yq2]]⟩ [37,30,28,26,0,32,34] (.tw 41 (.cl Ln [] .nil) (.cl JX [] .nil)) .nil))))))))))
def KX:Spec:=⟨57,⟨[(0,.ptr 0 0),(1,.dat (.sl .str))],[bkN 96 [.dat Yq2,.dat Yq2,.own 78 Yq5,.own 27 Yq7,.own 165 Yq3,.od (.row 126 (.cons (.dat Yq2) (.cons (.dat (.sl Yq5)) (.cons (.row 27 (.dat Yq7)) (.one (.dat Yq7)))))),.od (.row 120 (.cons (.row 129 (.dat Yq6)) (.one (.dat Yq4)))),.dat Yq2]]⟩,[⟨[kdI 0],[bkC 0 96 [.dat Yq2,.dat Yq2,.own 78 Yq5,.own 27 Yq7,.own 165 Yq3,.od (.row 126 (.cons (.dat Yq2) (.cons (.dat (.sl Yq5)) (.cons (.row 27 (.dat Yq7)) (.one (.dat Yq7)))))),.od (.row 120 (.cons (.row 129 (.dat Yq6)) (.one (.dat Yq4)))),.dat Yq2]]⟩],fun x=>eF x.1 x.2.1 x.2.2.1 x.2.2.2.1 x.2.2.2.2.1 x.2.2.2.2.2.1 x.2.2.2.2.2.2.1 x.2.2.2.2.2.2.2.1 x.2.2.2.2.2.2.2.2⟩
def uW:OkSpec Tryz.prog:=⟨KX,ah func57 Jt (by kernel_rfl) (by kernel_rfl),call57⟩

def iM (qa0:Int) (qa1:Int) (qa2:Tq8) (qa3:(List Tq4)) (qa4:Tq4) (qa5:(List Tq3)) (qa6:(List Tq2)) (qa7:Int):Option ((Bool×Tq8×(List Tq4)×Tq4×(List Tq3)×(List Tq2))) :=
 some ((((decide (qa7=3))||(decide (qa7=5)))||(decide (qa7=7)),qa2,qa3,qa4,qa5,qa6))
def KN:Hn Tryz.prog := .gp 5 (.wt 15 (.gp 5 .nil))
def Jc:Spec:=⟨58,⟨[(0,.ptr 0 0)],[bkN 96 [.is 1 (.dat Yq2),.is 2 (.dat Yq2),.own 78 Yq5,.own 27 Yq7,.own 165 Yq3,.od (.row 126 (.cons (.dat Yq2) (.cons (.dat (.sl Yq5)) (.cons (.row 27 (.dat Yq7)) (.one (.dat Yq7)))))),.od (.row 120 (.cons (.row 129 (.dat Yq6)) (.one (.dat Yq4)))),.is 3 (.dat Yq2)],bkM,bkM,bkM]⟩,[⟨[kdB 0],[bkC 0 96 [.is 1 (.any),.is 2 (.any),.own 78 Yq5,.own 27 Yq7,.own 165 Yq3,.od (.row 126 (.cons (.dat Yq2) (.cons (.dat (.sl Yq5)) (.cons (.row 27 (.dat Yq7)) (.one (.dat Yq7)))))),.od (.row 120 (.cons (.row 129 (.dat Yq6)) (.one (.dat Yq4)))),.is 3 (.any)],bkU 1,bkU 2,bkU 3]⟩],fun x=>iM x.1 x.2.1 x.2.2.1 x.2.2.2.1 x.2.2.2.2.1 x.2.2.2.2.2.1 x.2.2.2.2.2.2.1 x.2.2.2.2.2.2.2⟩
def vf:OkSpec Tryz.prog:=⟨Jc,ah func58 KN (by kernel_rfl) (by kernel_rfl),call58⟩
def A1  : Tq9→Option (Tq9⊕(Tq9⊕mS)):=fun (i1,i2,l3,l4,l5,l6,l7,i9,i10,s11)=>cond (decide (0 < (s11.length:Int))) ((AW s11).bind fun (v12,v13)=>(subL s11 0 v13).bind fun y14=>(dF y14 ([32]:List UInt8)).bind fun l15=>(iL l15).bind fun l16=>(cond (decide ((l16.length:Int)=0)) (some (true)) ((aa l16 0).bind fun x17=>(fh x17 ([35]:List UInt8)).bind fun t18=>some (t18))).bind fun t19=>cond (t19) ((subL s11 v13 (s11.length:Int)).bind fun y20=>some (.inl ((i1,i2,l3,l4,l5,l6,l7,i9,IntKind.wrap .i64 (i10 + 1),y20)))) ((eF l16 i1 i2 l3 l4 l5 l6 l7 i9).bind fun (i21,i22,i23,l24,l25,l26,l27,l28,i29)=>cond (!decide (i21=0)) (some (.inr ((.inr ((0,0,[],[],[],[],[],IntKind.wrap .i64 (i10 + 1),i21)))))) ((subL s11 v13 (s11.length:Int)).bind fun y30=>some (.inl ((i22,i23,l24,l25,l26,l27,l28,i29,IntKind.wrap .i64 (i10 + 1),y30)))))) (some (.inr ((.inl (i1,i2,l3,l4,l5,l6,l7,i9,i10,s11)))))
def g8 (s1:List UInt8) (i2:Int):Tq9→Option (Tq9⊕(Tq9⊕mS)):=fun (i3,i4,l5,l6,l7,l9,l10,i11,i12,s13)=>(j5 s13 s1).bind fun i14=>cond (decide (i14 < 0)) (some (.inr ((.inl (i3,i4,l5,l6,l7,l9,l10,i11,i12,s13))))) ((subL s13 0 (IntKind.wrap .i64 (i14 + i2))).bind fun y15=>(dF y15 ([32]:List UInt8)).bind fun l16=>(iL l16).bind fun l17=>(cond (decide ((l17.length:Int)=0)) (some (true)) ((aa l17 0).bind fun x18=>(fh x18 ([35]:List UInt8)).bind fun t19=>some (t19))).bind fun t20=>cond (t20) ((subL s13 (IntKind.wrap .i64 (i14 + (s1.length:Int))) (s13.length:Int)).bind fun y21=>some (.inl ((i3,i4,l5,l6,l7,l9,l10,i11,IntKind.wrap .i64 (i12 + 1),y21)))) ((eF l17 i3 i4 l5 l6 l7 l9 l10 i11).bind fun (i22,i23,i24,l25,l26,l27,l28,l29,i30)=>cond (!decide (i22=0)) (some (.inr ((.inr ((0,0,[],[],[],[],[],IntKind.wrap .i64 (i12 + 1),i22)))))) ((subL s13 (IntKind.wrap .i64 (i14 + (s1.length:Int))) (s13.length:Int)).bind fun y31=>some (.inl ((i23,i24,l25,l26,l27,l28,l29,i30,IntKind.wrap .i64 (i12 + 1),y31))))))
def lB (xa:Tq5):Option (mS) :=
 cond (decide (1048576 < (xa.length:Int))) (some ((0,0,[],[],[],[],[],0,5))) ((rf xa ([10]:List UInt8)).bind fun (s1,s2,i3)=>cond (decide ((s1.length:Int)=0)) ((loop (A1) (0,0,[],[],[],[],[],0,0,s2)).bind fun o=>match o with | .inr r=>some r | .inl (i4,i5,l6,l7,l9,l10,l11,i12,i13,s14)=>(iM i4 i5 l6 l7 l9 l10 l11 i12).bind fun (t15,l16,l17,l18,l19,l20)=>cond (!t15) (some ((0,0,[],[],[],[],[],0,14))) (some ((i4,i5,l16,l17,l18,l19,l20,0,0)))) ((loop (g8 s1 i3) (0,0,[],[],[],[],[],0,0,s2)).bind fun o=>match o with | .inr r=>some r | .inl (i21,i22,l23,l24,l25,l26,l27,i28,i29,s30)=>(dF s30 ([32]:List UInt8)).bind fun l31=>(iL l31).bind fun l32=>(cond (decide ((l32.length:Int)=0)) (some (true)) ((aa l32 0).bind fun x33=>(fh x33 ([35]:List UInt8)).bind fun t34=>some (t34))).bind fun t35=>cond (t35) ((iM i21 i22 l23 l24 l25 l26 l27 i28).bind fun (t36,l37,l38,l39,l40,l41)=>cond (!t36) (some ((0,0,[],[],[],[],[],0,14))) (some ((i21,i22,l37,l38,l39,l40,l41,0,0)))) ((eF l32 i21 i22 l23 l24 l25 l26 l27 i28).bind fun (i42,i43,i44,l45,l46,l47,l48,l49,i50)=>cond (!decide (i42=0)) (some ((0,0,[],[],[],[],[],IntKind.wrap .i64 (i29 + 1),i42))) ((iM i43 i44 l45 l46 l47 l48 l49 i50).bind fun (t51,l52,l53,l54,l55,l56)=>cond (!t51) (some ((0,0,[],[],[],[],[],0,14))) (some ((i43,i44,l52,l53,l54,l55,l56,0,0)))))))
def IM:Hn Tryz.prog := .tw 12 .nil (.cl KM [] (.rg ⟨119,_,func119,call119⟩ (.tw 11 (.jx [] ⟨[],[bkC 0 31 [.lit (.int .i64 0),.lit (.int .i64 0),.nils,.nils,.nils,.nils,.nils],bkC 2 3 [.lit (.int .i64 0)],bkC 4 35 [.lit (.int .i64 0)],bkC 6 96 [.dat Yq2,.dat Yq2,.own 78 Yq5,.own 27 Yq7,.own 165 Yq3,.od (.row 126 (.cons (.dat Yq2) (.cons (.dat (.sl Yq5)) (.cons (.row 27 (.dat Yq7)) (.one (.dat Yq7)))))),.od (.row 120 (.cons (.row 129 (.dat Yq6)) (.one (.dat Yq4)))),.dat Yq2],bkC 9 3 [.dat Yq2],bkC 13 9 [.dat .str],⟨(some 18),0,[],false,false,none,true⟩]⟩ [18,13,9,6,4,2,0] (.lp ⟨[],[bkC 0 31 [.lit (.int .i64 0),.lit (.int .i64 0),.nils,.nils,.nils,.nils,.nils],bkC 2 3 [.lit (.int .i64 0)],bkC 4 35 [.lit (.int .i64 0)],bkC 6 96 [.dat Yq2,.dat Yq2,.own 78 Yq5,.own 27 Yq7,.own 165 Yq3,.od (.row 126 (.cons (.dat Yq2) (.cons (.dat (.sl Yq5)) (.cons (.row 27 (.dat Yq7)) (.one (.dat Yq7)))))),.od (.row 120 (.cons (.row 129 (.dat Yq6)) (.one (.dat Yq4)))),.dat Yq2],bkC 9 3 [.dat Yq2],bkC 13 9 [.dat .str],⟨(some 18),0,[],false,false,none,true⟩]⟩ (.tw 14 (.cl LM [] (.yl 4 (.cl io [] (.cl uU [] (.gj 4 ⟨[kdB 31],[]⟩ [] (.two 26 .nil (.cl qE [] .nil)) (.tw 31 .nil (.cl uW [] (.tw 35 (.mix [([0,1,2],3),([],4)] [] [5] [0,2] .nil) .nil)))))))) .nil)) (.wt 1000035 (.mc 6 0 32 (.mc 6 1 32 (.mc 6 7 32 (.cl vf [] (.tw 40 .nil .nil))))))) (.jx [] ⟨[],[bkC 0 31 [.lit (.int .i64 0),.lit (.int .i64 0),.nils,.nils,.nils,.nils,.nils],bkC 2 3 [.lit (.int .i64 0)],bkC 4 35 [.lit (.int .i64 0)],bkC 6 96 [.dat Yq2,.dat Yq2,.own 78 Yq5,.own 27 Yq7,.own 165 Yq3,.od (.row 126 (.cons (.dat Yq2) (.cons (.dat (.sl Yq5)) (.cons (.row 27 (.dat Yq7)) (.one (.dat Yq7)))))),.od (.row 120 (.cons (.row 129 (.dat Yq6)) (.one (.dat Yq4)))),.dat Yq2],bkC 9 3 [.dat Yq2],bkC 13 9 [.dat .str],⟨(some 18),0,[],false,false,none,true⟩]⟩ [18,13,9,6,4,2,0] (.lp ⟨[],[bkC 0 31 [.lit (.int .i64 0),.lit (.int .i64 0),.nils,.nils,.nils,.nils,.nils],bkC 2 3 [.lit (.int .i64 0)],bkC 4 35 [.lit (.int .i64 0)],bkC 6 96 [.dat Yq2,.dat Yq2,.own 78 Yq5,.own 27 Yq7,.own 165 Yq3,.od (.row 126 (.cons (.dat Yq2) (.cons (.dat (.sl Yq5)) (.cons (.row 27 (.dat Yq7)) (.one (.dat Yq7)))))),.od (.row 120 (.cons (.row 129 (.dat Yq6)) (.one (.dat Yq4)))),.dat Yq2],bkC 9 3 [.dat Yq2],bkC 13 9 [.dat .str],⟨(some 18),0,[],false,false,none,true⟩]⟩ (.cl Dz [] (.tw 33 .nil (.wt 8 (.yl 2 (.cl io [] (.cl uU [] (.gj 4 ⟨[kdB 31],[]⟩ [] (.two 26 .nil (.cl qE [] .nil)) (.tw 31 .nil (.cl uW [] (.tw 35 (.mix [([0,1,2],3),([],4)] [] [5] [0,2] .nil) .nil))))))))))) (.yl 2 (.cl io [] (.cl uU [] (.gj 4 ⟨[kdB 31],[]⟩ [] (.two 26 .nil (.cl qE [] .nil)) (.tw 31 (.wt 1000040 (.mc 6 0 32 (.mc 6 1 32 (.mc 6 7 32 (.cl vf [] (.tw 40 .nil .nil)))))) (.cl uW [] (.tw 35 (.mix [([0,1,2],3),([],4)] [] [5] [0,2] .nil) (.mc 6 0 61 (.mc 6 1 61 (.mc 6 7 61 (.cl vf [] (.tw 40 .nil .nil))))))))))))))))
def LW:Spec:=⟨25,⟨[(0,.dat .str)],[]⟩,[⟨[(0,.tup [.agg [.dat Yq2,.dat Yq2,.own 78 Yq5,.own 27 Yq7,.own 165 Yq3,.od (.row 126 (.cons (.dat Yq2) (.cons (.dat (.sl Yq5)) (.cons (.row 27 (.dat Yq7)) (.one (.dat Yq7)))))),.od (.row 120 (.cons (.row 129 (.dat Yq6)) (.one (.dat Yq4))))],.dat Yq2,.dat Yq2])],[]⟩],fun x=>lB x⟩
def ID:OkSpec Tryz.prog:=⟨LW,ah func25 IM (by kernel_rfl) (by kernel_rfl),call25⟩
def gX (xa:(List Tq5)):(Tq6×Int)→Option ((Tq6×Int)⊕(Tq6⊕(Tq6×Int×Int))):=fun (l1,i2)=>cond (decide (i2 < (xa.length:Int))) ((aa xa i2).bind fun x3=>(kX x3).bind fun l4=>(cond (decide ((l4.length:Int)=0)) (some (true)) ((aa l4 0).bind fun x5=>(fh x5 ([35]:List UInt8)).bind fun t6=>some (t6))).bind fun t7=>cond (t7) (some (.inl ((l1,IntKind.wrap .i64 (i2 + 1))))) ((iT l4).bind fun (i9,i10,i11,i12,i13,i14)=>(cond ((decide (i14=0))&&(decide ((l1.length:Int)=400))) (some (10)) (some (i14)):Option Int).bind fun i15=>cond (!decide (i15=0)) (some (.inr ((.inr (([],IntKind.wrap .i64 (i2 + 1),i15)))))) ((app l1 (([(i9,(i10,i11,i12,i13))]:List (Int×cA)))).bind fun z16=>some (.inl ((z16,IntKind.wrap .i64 (i2 + 1))))))) (some (.inr (.inl l1)))
def nG (xa:(List Tq5)):Option ((Tq6×Int×Int)) :=
 (loop (gX xa) ([],0)).bind fun o=>match o with | .inr r=>some r | .inl l1=>some ((l1,0,0))
def LQ:Hn Tryz.prog := .jx [] ⟨[(5,.own 59 Yq8)],[]⟩ [] (.lp ⟨[(5,.own 59 Yq8),kdI 13],[]⟩ (.tw 14 (.cl AI [] (.gj 4 ⟨[kdB 28],[]⟩ [] (.two 23 .nil (.cl qE [] .nil)) (.tw 28 .nil (.cl u6 [] (.sq [] ⟨[kdI 10],[]⟩ [] (.gp 3 (.tw 40 .nil .nil)) (.tw 42 .nil .nil)))))) .nil)) .nil
def Kc:Spec:=⟨27,⟨[(0,.dat (.sl .str))],[]⟩,[⟨[(0,.tup [.own 59 Yq8,.dat Yq2,.dat Yq2])],[]⟩],fun x=>nG x⟩
def JF:OkSpec Tryz.prog:=⟨Kc,ah func27 LQ (by kernel_rfl) (by kernel_rfl),call27⟩

def nY (xa:Tq5):Option (uK) :=
 cond (decide (1048576 < (xa.length:Int))) (some ((0,0,[],[],[],[],[],[],0,5))) ((dF xa ([10]:List UInt8)).bind fun l1=>(nd l1).bind fun i2=>(cond (decide (0≤i2)) ((subL l1 0 i2).bind fun y3=>some (y3)) (some (l1)):Option ((List Tq5))).bind fun l4=>(cO l4 ([10]:List UInt8)).bind fun s5=>(lB s5).bind fun (i6,i7,l9,l10,l11,l12,l13,i14,i15)=>cond (!decide (i15=0)) (some ((0,0,[],[],[],[],[],[],i14,i15))) (cond (decide (i2 < 0)) (some ((0,0,[],[],[],[],[],[],0,14))) ((subL l1 (IntKind.wrap .i64 (i2 + 1)) (l1.length:Int)).bind fun y16=>(nG y16).bind fun (l17,i18,i19)=>cond (!decide (i19=0)) (some ((0,0,[],[],[],[],[],[],IntKind.wrap .i64 ((IntKind.wrap .i64 (i2 + 1)) + i18),i19))) (some ((i6,i7,l9,l10,l11,l12,l13,l17,0,0))))))
def Il:Hn Tryz.prog := .tw 14 .nil (.cl io [] (.cl Iw [2] (.pl (.per 2 3 (.sq [] ⟨[(7,.dat (.sl .str))],[]⟩ [] (.tw 22 .nil .nil) (.cl fJ [] (.cl ID [] (.tw 34 .nil (.tw 39 .nil (.cl JF [] (.tw 51 .nil .nil)))))))))))
def Kv:Spec:=⟨6,⟨[(0,.dat .str)],[]⟩,[⟨[(0,.tup [.agg [.dat Yq2,.dat Yq2,.own 78 Yq5,.own 27 Yq7,.own 165 Yq3,.od (.row 126 (.cons (.dat Yq2) (.cons (.dat (.sl Yq5)) (.cons (.row 27 (.dat Yq7)) (.one (.dat Yq7)))))),.od (.row 120 (.cons (.row 129 (.dat Yq6)) (.one (.dat Yq4)))),.own 59 Yq8],.dat Yq2,.dat Yq2])],[]⟩],fun x=>nY x⟩
def Jl:OkSpec Tryz.prog:=⟨Kv,ah func6 Il (by kernel_rfl) (by kernel_rfl),call6⟩
def iV (xa:(List Tq5)):b6→Option (b6⊕(List UInt8⊕(List UInt8×Int×Bool))):=fun (s1,i2)=>cond (decide (i2 < (xa.length:Int))) ((aa xa i2).bind fun x3=>(f9 x3).bind fun l4=>(cond (decide ((l4.length:Int)=1)) ((aa l4 0).bind fun x5=>some (decide (x5=([116,104,101,110]:List UInt8)))) (some (false))).bind fun t6=>cond (t6) (some (.inr ((.inr ((s1,i2,true)))))) ((aa xa i2).bind fun x7=>(app s1 x7).bind fun z9=>(app z9 ([10]:List UInt8)).bind fun z10=>some (.inl ((z10,IntKind.wrap .i64 (i2 + 1)))))) (some (.inr (.inl s1)))
def oe (xa:(List Tq5)):Option (List UInt8×Int×Bool) :=
 (loop (iV xa) ((([]:List UInt8),0))).bind fun o=>match o with | .inr r=>some r | .inl s1=>some ((s1,0,false))
def J6:Hn Tryz.prog := .jx [] ⟨[(5,.dat .str)],[]⟩ [] (.lp ⟨[(5,.dat .str),kdI 6],[]⟩ (.tw 11 (.cl qM [] (.gj 4 ⟨[kdB 27],[]⟩ [] (.two 22 .nil .nil) (.tw 27 .nil .nil))) .nil)) .nil
def IX:Spec:=⟨29,⟨[(0,.dat (.sl .str))],[]⟩,[⟨[(0,.tup [.dat .str,.dat Yq2,.dat .bool])],[]⟩],fun x=>oe x⟩
def I5:OkSpec Tryz.prog:=⟨IX,ah func29 J6 (by kernel_rfl) (by kernel_rfl),call29⟩

def dp (xa:Tq5) (xb:Int):Option aT :=
 (cI xa 1048576).bind fun (i13,i14)=>cond (!decide (xb=0)) (some ((0,xb))) (some ((i13,i14)))
def IU:Hn Tryz.prog := .cl j9 [] (.tw 14 .nil .nil)
def Ip:Spec:=⟨100,⟨[(0,.dat .str),kdI 1],[]⟩,[⟨[(0,.tup [.dat Yq2,.dat Yq2])],[]⟩],fun x=>dp x.1 x.2⟩
def gW:OkSpec Tryz.prog:=⟨Ip,ah func100 IU (by kernel_rfl) (by kernel_rfl),call100⟩
def iQ (xa:(List Tq5)):(Tq8×Int)→Option ((Tq8×Int)⊕(Tq8⊕(Tq8×Int))):=fun (l1,i2)=>cond (decide (i2 < (xa.length:Int))) ((aa xa i2).bind fun x3=>(iO x3 1048576).bind fun (i4,i5,i6)=>cond (!decide (i6=0)) (some (.inr ((.inr (([],i6)))))) ((app l1 (([(i4,i5)]:List aT))).bind fun z7=>some (.inl ((z7,IntKind.wrap .i64 (i2 + 1)))))) (some (.inr (.inl l1)))
def lh (xa:(List Tq5)):Option ((Tq8×Int)) :=
 (loop (iQ xa) ((([]:List aT),1))).bind fun o=>match o with | .inr r=>some r | .inl l1=>some ((l1,0))
def IJ:Hn Tryz.prog := .jx [] ⟨[(4,.own 78 Yq5),(8,.any)],[]⟩ [0] (.lp ⟨[(4,.own 78 Yq5),kdI 5],[]⟩ (.tw 12 (.cl AP [] (.tw 24 .nil .nil)) .nil)) .nil
def KK:Spec:=⟨101,⟨[(0,.dat (.sl .str))],[]⟩,[⟨[(0,.tup [.own 78 Yq5,.dat Yq2])],[]⟩],fun x=>lh x⟩
def AD:OkSpec Tryz.prog:=⟨KK,ah func101 IJ (by kernel_rfl) (by kernel_rfl),call101⟩
def kw (l1:(List Tq5)):(Tq4×Int)→Option ((Tq4×Int)⊕(Tq4⊕(Tq4×Int))):=fun (l2,i3)=>cond (decide (i3 < (l1.length:Int))) ((aa l1 i3).bind fun x4=>(cond (decide (0 < (x4.length:Int))) ((aa x4 (IntKind.wrap .i64 ((x4.length:Int) - 1))).bind fun x5=>some (decide ((((x5.toNat:Nat):Int))=33))) (some (false))).bind fun t6=>(cond (t6) ((subL x4 0 (IntKind.wrap .i64 ((x4.length:Int) - 1))).bind fun y7=>some (y7)) (some (x4)):Option Tq5).bind fun s9=>(cI s9 1048576).bind fun (i10,i11)=>cond (!decide (i11=0)) (some (.inr ((.inr (([],i11)))))) ((app l2 (([(i10,t6)]:List (Int×Bool)))).bind fun z12=>some (.inl ((z12,IntKind.wrap .i64 (i3 + 1)))))) (some (.inr (.inl l2)))
def kD (xa:Tq5):Option ((Tq4×Int)) :=
 cond (decide (xa=([45]:List UInt8))) (some (([],0))) ((eo xa 47).bind fun l1=>(loop (kw l1) ((([]:List (Int×Bool)),0))).bind fun o=>match o with | .inr r=>some r | .inl l2=>some ((l2,0)))
def JZ:Hn Tryz.prog := .tw 12 .nil (.cl qJ [] (.jx [] ⟨[(4,.own 165 Yq3),(14,.any)],[bkC 0 27 [.nils]]⟩ [2,0] (.lp ⟨[(4,.own 165 Yq3),kdI 6],[bkC 0 27 [.nils]]⟩ (.tw 20 (.gj 6 ⟨[kdB 37],[]⟩ [] (.two 30 .nil .nil) (.sq [] ⟨[(7,.dat .str)],[]⟩ [] (.tw 38 .nil .nil) (.cl j9 [] (.tw 50 .nil .nil)))) .nil)) .nil))
def Mt:Spec:=⟨103,⟨[(0,.dat .str)],[]⟩,[⟨[(0,.tup [.agg [.own 165 Yq3],.dat Yq2])],[]⟩],fun x=>kD x⟩
def Ax:OkSpec Tryz.prog:=⟨Mt,ah func103 JZ (by kernel_rfl) (by kernel_rfl),call103⟩

def fw (xa:(List Tq5)):Option ((Tq4×Int)) :=
 cond (!decide ((xa.length:Int)=2)) (some (([],3))) ((aa xa 1).bind fun x32=>(kD x32).bind fun (l43,i44)=>some ((l43,i44)))
def Lw:Hn Tryz.prog := .tw 6 .nil (.cl Ax [] .nil)
def LD:Spec:=⟨102,⟨[(0,.dat (.sl .str))],[]⟩,[⟨[(0,.tup [.agg [.own 165 Yq3],.dat Yq2])],[]⟩],fun x=>fw x⟩
def uI:OkSpec Tryz.prog:=⟨LD,ah func102 Lw (by kernel_rfl) (by kernel_rfl),call102⟩

def nV (xa:(List Tq5)):aT→Option (aT⊕Int):=fun (i1,i2)=>cond (decide (i2 < 6)) ((aa (([([110,111,112]:List UInt8),([97,115,115,105,103,110]:List UInt8),([98,111,114,114,111,119]:List UInt8),([114,101,98,111,114,114,111,119]:List UInt8),([117,115,101]:List UInt8),([100,101,97,100]:List UInt8)]:List Tq5)) i2).bind fun x3=>(aa xa 0).bind fun x4=>cond (decide (x3=x4)) (some (.inl ((i2,IntKind.wrap .i64 (i2 + 1))))) (some (.inl ((i1,IntKind.wrap .i64 (i2 + 1)))))) (some (.inr (i1)))
def oh (xa:(List Tq5)):Option (Int×Int×Int×Int×Bool×Bool×Int) :=
 (loop (nV xa) (((-1),0))).bind fun i1=>cond (decide (i1 < 0)) (some ((0,0,0,0,false,false,0))) (((cond (((decide (i1=2))||(decide (i1=3)))&&(decide ((xa.length:Int)=5))) ((aa xa 4).bind fun x2=>some (decide (x2=([109,117,116]:List UInt8)))) (some (false))).bind fun t3=>cond (t3) ((subL xa 0 4).bind fun y4=>some ((y4,true))) (some ((xa,false))):Option (((List Tq5)×Bool))).bind fun (l5,t6)=>(aa ([1,3,4,4,2,2]:List Int) i1).bind fun x7=>cond (!decide ((l5.length:Int)=x7)) (some ((0,0,0,0,false,true,3))) ((cond ((((decide (i1=1))||(decide (i1=2)))||(decide (i1=3)))||(decide (i1=5))) ((aa l5 1).bind fun x9=>(dp x9 0).bind fun (i10,i11)=>some ((i11,IntKind.wrap .i64 (1 + 1),i10))) (some ((0,1,0))):Option (Int×Int×Int)).bind fun (i12,i13,i14)=>(cond ((decide (1≤i1))&&(decide (i1≤4))) ((aa l5 i13).bind fun x15=>(dp x15 i12).bind fun (i16,i17)=>some ((i17,IntKind.wrap .i64 (i13 + 1),i16))) (some ((i12,i13,0))):Option (Int×Int×Int)).bind fun (i18,i19,i20)=>(cond ((decide (i1=2))||(decide (i1=3))) ((aa l5 i19).bind fun x21=>(dp x21 i18).bind fun (i22,i23)=>some ((i23,i22))) (some ((i18,0))):Option aT).bind fun (i24,i25)=>some ((i1,i14,i20,i25,t6,true,i24))))
def KZ:Hn Tryz.prog := .jn [] ⟨[kdI 5],[]⟩ [] (.lp ⟨[kdI 5,kdI 8],[]⟩ (.tw 15 (.mix [] [0,1,2,3,4,5,6,7] [] [] (.tw 25 .nil .nil)) .nil)) (.tw 28 .nil (.pl (.sq [(6,0)] ⟨[(0,.dat (.sl .str))],[bkC 6 129 [.is 1 (.any),.lit (.int .i64 0),.lit (.int .i64 0),.lit (.int .i64 0),.dat .bool],bkU 9]⟩ [6] (.gp 2 (.wt 38 (.gp 3 (.wt 43 (.gj 4 ⟨[kdB 48],[]⟩ [] (.two 43 .nil .nil) (.tw 48 .nil .nil)))))) (.tw 58 .nil (.pl (.pl (.sq [(6,4)] ⟨[kdI 10,kdI 11],[bkC 6 129 [.is 1 (.any),.dat Yq2,.lit (.int .i64 0),.lit (.int .i64 0),.is 2 (.any)],bkU 9,bkU 11]⟩ [6] (.gp 2 (.wt 66 (.gp 2 (.wt 70 (.gp 2 (.tw 73 (.cl gW [] .nil) .nil)))))) (.sq [(6,1)] ⟨[kdI 10,kdI 11],[bkC 6 129 [.is 1 (.any),.is 2 (.any),.dat Yq2,.lit (.int .i64 0),.is 3 (.any)],bkU 9,bkU 13,bkU 11]⟩ [6] (.gp 2 (.tw 91 (.cl gW [] .nil) .nil)) (.sq [(6,2)] ⟨[kdI 10],[bkC 6 129 [.is 1 (.any),.is 2 (.any),.is 3 (.any),.dat Yq2,.is 4 (.any)],bkU 9,bkU 13,bkU 15,bkU 11]⟩ [6] (.gp 2 (.tw 109 (.cl gW [] .nil) .nil)) .nil)))))))))
def KT:Spec:=⟨98,⟨[(0,.dat (.sl .str))],[]⟩,[⟨[(0,.tup [.agg [.dat Yq2,.dat Yq2,.dat Yq2,.dat Yq2,.dat .bool],.dat .bool,.dat Yq2])],[]⟩],fun x=>oh x⟩
def LT:OkSpec Tryz.prog:=⟨KT,ah func98 KZ (by kernel_rfl) (by kernel_rfl),call98⟩
def ek (xa:Tq5) (xb:Int):((List Int)×Int×Int)→Option (((List Int)×Int×Int)⊕((List Int)⊕((List Int)×Int))):=fun (l1,i2,i3)=>cond ((decide (i3≤(xa.length:Int)))&&(!decide (xa=([]:List UInt8)))) ((cond (decide (i3 < (xa.length:Int))) ((aa xa i3).bind fun x4=>some (!decide ((((x4.toNat:Nat):Int))=44))) (some (false))).bind fun t5=>cond (t5) (some (.inl ((l1,i2,IntKind.wrap .i64 (i3 + 1))))) ((subL xa i2 i3).bind fun y6=>(cI y6 xb).bind fun (i7,i9)=>cond (!decide (i9=0)) (some (.inr ((.inr (([],i9)))))) (cond (decide (i3=(IntKind.wrap .i64 ((xa.length:Int) - 1)))) (some (.inr ((.inr (([],3)))))) ((app l1 ([i7]:List Int)).bind fun z10=>some (.inl ((z10,IntKind.wrap .i64 (i3 + 1),IntKind.wrap .i64 (i3 + 1)))))))) (some (.inr (.inl l1)))
def nH (xa:Tq5) (xb:Int):Option (((List Int)×Int)) :=
 (loop (ek xa xb) ((([]:List Int),0,0))).bind fun o=>match o with | .inr r=>some r | .inl l1=>some ((l1,0))
def KJ:Hn Tryz.prog := .jx [] ⟨[(6,.own 3 Yq2),(11,.any)],[]⟩ [0] (.lp ⟨[(6,.own 3 Yq2),kdI 7,kdI 8],[]⟩ (.gp 2 (.tw 19 (.gj 4 ⟨[kdB 31],[]⟩ [] (.two 26 .nil .nil) (.tw 31 .nil (.cl j9 [] (.tw 42 .nil (.tw 48 .nil .nil))))) .nil))) .nil
def KV:Spec:=⟨154,⟨[(0,.dat .str),kdI 1],[]⟩,[⟨[(0,.tup [.own 3 Yq2,.dat Yq2])],[]⟩],fun x=>nH x.1 x.2⟩
def JP:OkSpec Tryz.prog:=⟨KV,ah func154 KJ (by kernel_rfl) (by kernel_rfl),call154⟩

def ga (xa:Tq5) (xb:Int):Option (((List Int)×Int)) :=
 cond ((!decide (xb=0))||(decide (xa=([45]:List UInt8)))) (some (([],xb))) ((nH xa 1048576).bind fun (l27,i28)=>some ((l27,i28)))
def L3:Hn Tryz.prog := .gp 2 (.tw 13 .nil (.cl JP [] .nil))
def Md:Spec:=⟨128,⟨[(0,.dat .str),kdI 1],[]⟩,[⟨[(0,.tup [.own 3 Yq2,.dat Yq2])],[]⟩],fun x=>ga x.1 x.2⟩
def mU:OkSpec Tryz.prog:=⟨Md,ah func128 L3 (by kernel_rfl) (by kernel_rfl),call128⟩
def nU (xa:(List Tq5)):aT→Option (aT⊕Int):=fun (i1,i2)=>cond (decide (i2 < 5)) ((aa (([([]:List UInt8),([103,111,116,111]:List UInt8),([115,119,105,116,99,104]:List UInt8),([114,101,116,117,114,110]:List UInt8),([99,97,108,108]:List UInt8)]:List Tq5)) i2).bind fun x3=>(aa xa 0).bind fun x4=>cond (decide (x3=x4)) (some (.inl ((i2,IntKind.wrap .i64 (i2 + 1))))) (some (.inl ((i1,IntKind.wrap .i64 (i2 + 1)))))) (some (.inr (i1)))
def eH (xa:(List Tq5)):Option ((Int×Int×Int×(List Int)×(List Int)×(List Int)×Bool×Int)) :=
 (loop (nU xa) (0,1)).bind fun i1=>(cond (decide (i1=0)) (some (true)) ((aa ([0,2,3,1,6]:List Int) i1).bind fun x2=>some (!decide ((xa.length:Int)=x2)))).bind fun t3=>cond (t3) (some ((0,0,0,[],[],[],decide (0 < i1),3))) ((cond (decide (i1=4)) ((aa xa 1).bind fun x4=>(dp x4 0).bind fun (i5,i6)=>(aa xa 2).bind fun x7=>(dp x7 i6).bind fun (i9,i10)=>(aa xa 3).bind fun x11=>(ga x11 i10).bind fun (l12,i13)=>(aa xa 4).bind fun x14=>(ga x14 i13).bind fun (l15,i16)=>(aa xa 5).bind fun x17=>(ga x17 i16).bind fun (l18,i19)=>some ((i19,i5,i9,l12,l18,l15))) (some ((0,0,0,[],[],[]))):Option (gS)).bind fun (i20,i21,i22,l23,l24,l25)=>(cond ((decide (i1=1))||(decide (i1=2))) ((aa xa 1).bind fun x26=>(ga x26 i20).bind fun (l27,i28)=>some ((i28,l27))) (some ((i20,l23))):Option ((Int×(List Int)))).bind fun (i29,l30)=>(cond (decide (i1=2)) ((aa xa 2).bind fun x31=>(ga x31 i29).bind fun (l32,i33)=>some ((i33,l32))) (some ((i29,l24))):Option ((Int×(List Int)))).bind fun (i34,l35)=>some ((i1,i21,i22,l30,l35,l25,true,i34)))
def LH:Hn Tryz.prog := .jn [] ⟨[kdI 7],[]⟩ [] (.lp ⟨[kdI 7,kdI 8],[]⟩ (.tw 14 (.mix [] [0,1,2,3,4,5,6,7] [] [] (.tw 24 .nil .nil)) .nil)) (.gj 7 ⟨[kdB 38],[]⟩ [] (.two 30 .nil .nil) (.tw 38 .nil (.pl (.sq [(6,0)] ⟨[kdI 10],[bkC 6 118 [.is 1 (.any),.dat Yq2,.dat Yq2,.own 3 Yq2,.own 3 Yq2,.own 3 Yq2],bkU 9]⟩ [6] (.tw 43 (.cl gW [] (.cl gW [] (.cl mU [] (.cl mU [] (.cl mU [] .nil))))) .nil) (.sq [(6,1),(6,2),(6,4),(6,5)] ⟨[kdI 10],[bkC 6 118 [.is 1 (.any),.is 2 (.any),.is 3 (.any),.own 3 Yq2,.is 4 (.any),.is 5 (.any)],bkU 9,bkU 17,bkU 18,bkU 19,bkU 20]⟩ [6,10] (.gp 2 (.tw 94 (.cl mU [] .nil) .nil)) (.sq [(6,3)] ⟨[kdI 10],[bkC 6 118 [.is 1 (.any),.is 2 (.any),.is 3 (.any),.is 4 (.any),.own 3 Yq2,.is 5 (.any)],bkU 9,bkU 17,bkU 18,bkU 24,bkU 20]⟩ [6,12] (.tw 105 (.cl mU [] .nil) .nil) .nil))))))
def Ix:Spec:=⟨99,⟨[(0,.dat (.sl .str))],[]⟩,[⟨[(0,.tup [.agg [.dat Yq2,.dat Yq2,.dat Yq2,.own 3 Yq2,.own 3 Yq2,.own 3 Yq2],.dat .bool,.dat Yq2])],[]⟩],fun x=>eH x⟩
def LJ:OkSpec Tryz.prog:=⟨Ix,ah func99 LH (by kernel_rfl) (by kernel_rfl),call99⟩

def kW (xb:(List Tq5)) (qxa_0:Int) (qxa_1:Int) (qxa_2:Tq8) (qxa_3:(List Tq4)) (qxa_4:Tq4) (qxa_5:(List Tq3)) (qxa_6:(List Tq2)) (qxa_7:Int) (qxa_8:Bool):Option ((Int×Int×Tq8×(List Tq4)×Tq4×(List Tq3)×(List Tq2)×Int×Bool×Int)) :=
 (oh xb).bind fun (i1,i2,i3,i4,t5,t6,i7)=>cond (t6) (((aa qxa_6 (IntKind.wrap .i64 ((qxa_6.length:Int) - 1))).bind fun _=>((aa qxa_6 (IntKind.wrap .i64 ((qxa_6.length:Int) - 1))).bind fun x9=>(aF (IntKind.wrap .i64 ((qxa_6.length:Int) - 1)) (IntKind.wrap .i64 ((qxa_6.length:Int) - 1))).bind fun _=>(app x9.1 (([(i1,i2,i3,i4,t5)]:List Tq7))).bind fun z10=>(aa qxa_6 (IntKind.wrap .i64 ((qxa_6.length:Int) - 1))).bind fun _=>(aF (IntKind.wrap .i64 ((qxa_6.length:Int) - 1)) (IntKind.wrap .i64 ((qxa_6.length:Int) - 1))).bind fun _=>some (qxa_6.set (IntKind.wrap .i64 ((qxa_6.length:Int) - 1)).toNat ((z10,(x9.2.1,x9.2.2.1,x9.2.2.2.1,x9.2.2.2.2.1,x9.2.2.2.2.2.1,x9.2.2.2.2.2.2))))).bind fun x11=>((aa qxa_6 (IntKind.wrap .i64 ((qxa_6.length:Int) - 1))).bind fun x12=>(aF (IntKind.wrap .i64 ((qxa_6.length:Int) - 1)) (IntKind.wrap .i64 ((qxa_6.length:Int) - 1))).bind fun _=>(app x12.1 (([(i1,i2,i3,i4,t5)]:List Tq7))).bind fun z13=>(aa qxa_6 (IntKind.wrap .i64 ((qxa_6.length:Int) - 1))).bind fun _=>(aF (IntKind.wrap .i64 ((qxa_6.length:Int) - 1)) (IntKind.wrap .i64 ((qxa_6.length:Int) - 1))).bind fun _=>some (qxa_6.set (IntKind.wrap .i64 ((qxa_6.length:Int) - 1)).toNat ((z13,(x12.2.1,x12.2.2.1,x12.2.2.2.1,x12.2.2.2.2.1,x12.2.2.2.2.2.1,x12.2.2.2.2.2.2))))).bind fun y14=>agr x11 y14 (some x11):Option ((List Tq2))).bind fun l15=>some ((qxa_0,qxa_1,qxa_2,qxa_3,qxa_4,qxa_5,l15,qxa_7,qxa_8,i7))) ((eH xb).bind fun (i16,i17,i18,l19,l20,l21,t22,i23)=>(aa qxa_6 (IntKind.wrap .i64 ((qxa_6.length:Int) - 1))).bind fun _=>(aa qxa_6 (IntKind.wrap .i64 ((qxa_6.length:Int) - 1))).bind fun x24=>(aF (IntKind.wrap .i64 ((qxa_6.length:Int) - 1)) (IntKind.wrap .i64 ((qxa_6.length:Int) - 1))).bind fun _=>some ((qxa_0,qxa_1,qxa_2,qxa_3,qxa_4,qxa_5,qxa_6.set (IntKind.wrap .i64 ((qxa_6.length:Int) - 1)).toNat ((x24.1,(i16,i17,i18,l19,l20,l21))),qxa_7,false,i23)))
def Jf:Hn Tryz.prog := .cl LT [] (.tw 24 (.tr (.still [0,1,2,3,4,5,6,7,8,9,11] (.alt 10 (.alt 12 (.alt 13 (.still [14,15] (.alt 16 (.leaf []) .done)) .done) .done) (.alt 12 (.alt 10 (.alt 13 (.still [14,15] (.alt 16 (.leaf []) .done)) .done) .done) .done))) ⟨[],[bkO 8 (.row 120 (.cons (.row 129 (.dat Yq6)) (.one (.dat Yq4))))]⟩ [8] (.two 0 (.wt 34 (.opn 8 1000006 (.cls 8 24 .nil))) (.wt 34 (.opn 8 1000006 (.cls 8 24 .nil)))) .nil) (.cl LJ [] (.wt 55 (.opn 8 1000006 (.per 17 18 (.per 19 20 (.per 21 22 (.cls 8 29 .nil))))))))
def LU:Spec:=⟨62,⟨[(0,.agg [.dat Yq2,.dat Yq2,.own 78 Yq5,.own 27 Yq7,.own 165 Yq3,.od (.row 126 (.cons (.dat Yq2) (.cons (.dat (.sl Yq5)) (.cons (.row 27 (.dat Yq7)) (.one (.dat Yq7)))))),.od (.row 120 (.cons (.row 129 (.dat Yq6)) (.one (.dat Yq4)))),.dat Yq2,.dat .bool]),(1,.dat (.sl .str))],[]⟩,[⟨[(0,.tup [.agg [.dat Yq2,.dat Yq2,.own 78 Yq5,.own 27 Yq7,.own 165 Yq3,.od (.row 126 (.cons (.dat Yq2) (.cons (.dat (.sl Yq5)) (.cons (.row 27 (.dat Yq7)) (.one (.dat Yq7)))))),.od (.row 120 (.cons (.row 129 (.dat Yq6)) (.one (.dat Yq4)))),.dat Yq2,.dat .bool],.dat Yq2])],[]⟩],fun x=>kW x.2.2.2.2.2.2.2.2.2 x.1 x.2.1 x.2.2.1 x.2.2.2.1 x.2.2.2.2.1 x.2.2.2.2.2.1 x.2.2.2.2.2.2.1 x.2.2.2.2.2.2.2.1 x.2.2.2.2.2.2.2.2.1⟩
def Jq:OkSpec Tryz.prog:=⟨LU,ah func62 Jf (by kernel_rfl) (by kernel_rfl),call62⟩
end
section
open Go.RowKit _root_.Go.Proofs.Tryz

def cq (xb:(List Tq5)) (qxa_0:Int) (qxa_1:Int) (qxa_2:Tq8) (qxa_3:(List Tq4)) (qxa_4:Tq4) (qxa_5:(List Tq3)) (qxa_6:(List Tq2)) (qxa_7:Int) (qxa_8:Bool):Option ((Int×Int×Tq8×(List Tq4)×Tq4×(List Tq3)×(List Tq2)×Int×Bool×Int)) :=
 (aa xb 0).bind fun x1=>cond (((decide (x1=([114,101,103,105,111,110,115]:List UInt8)))&&(decide (qxa_7=0)))&&(decide ((xb.length:Int)=3))) ((aa xb 1).bind fun x2=>(dp x2 0).bind fun (i3,i4)=>(aa xb 2).bind fun x5=>(dp x5 i4).bind fun (i6,i7)=>some ((i3,i6,qxa_2,qxa_3,qxa_4,qxa_5,qxa_6,1,qxa_8,i7))) ((aa xb 0).bind fun x9=>cond ((decide (x9=([98,111,117,110,100,115]:List UInt8)))&&(decide (qxa_7=1))) ((lh xb).bind fun (l10,i11)=>some ((qxa_0,qxa_1,l10,qxa_3,qxa_4,qxa_5,qxa_6,2,qxa_8,i11))) ((aa xb 0).bind fun x12=>cond ((decide (x12=([108,111,99,97,108]:List UInt8)))&&(decide (qxa_7=2))) ((fw xb).bind fun (l13,i14)=>(app qxa_3 (([l13]:List Tq4))).bind fun z15=>some ((qxa_0,qxa_1,qxa_2,z15,qxa_4,qxa_5,qxa_6,qxa_7,qxa_8,i14))) ((aa xb 0).bind fun x16=>cond ((decide (x16=([103,105,118,101,115]:List UInt8)))&&(decide (qxa_7=2))) ((fw xb).bind fun (l17,i18)=>some ((qxa_0,qxa_1,qxa_2,qxa_3,l17,qxa_5,qxa_6,3,qxa_8,i18))) ((aa xb 0).bind fun x19=>cond (((decide (x19=([115,105,103]:List UInt8)))&&(decide (qxa_7=3)))&&(decide ((xb.length:Int)=3))) ((aa xb 1).bind fun x20=>(dp x20 0).bind fun (i21,i22)=>(aa xb 2).bind fun x23=>(kD x23).bind fun (l24,i25)=>(cond (decide (i22=0)) (some (i25)) (some (i22)):Option Int).bind fun i26=>(app (qxa_5:List Tq3) (([(i21,[],[],l24)]:List Tq3):List Tq3)).bind fun z27=>some ((qxa_0,qxa_1,qxa_2,qxa_3,qxa_4,z27,qxa_6,4,qxa_8,i26))) ((aa xb 0).bind fun x28=>cond ((decide (x28=([110,101,101,100,115]:List UInt8)))&&(decide (qxa_7=4))) ((lh xb).bind fun (l29,i30)=>(aa qxa_5 (IntKind.wrap .i64 ((qxa_5.length:Int) - 1))).bind fun _=>(aa qxa_5 (IntKind.wrap .i64 ((qxa_5.length:Int) - 1))).bind fun x31=>(aF (IntKind.wrap .i64 ((qxa_5.length:Int) - 1)) (IntKind.wrap .i64 ((qxa_5.length:Int) - 1))).bind fun _=>some ((qxa_0,qxa_1,qxa_2,qxa_3,qxa_4,qxa_5.set (IntKind.wrap .i64 ((qxa_5.length:Int) - 1)).toNat (x31.1,l29,x31.2.2.1,x31.2.2.2),qxa_6,3,qxa_8,i30))) ((aa xb 0).bind fun x32=>cond (((decide (x32=([97,114,103]:List UInt8)))&&(decide (qxa_7=3)))&&(decide (0≤(IntKind.wrap .i64 ((qxa_5.length:Int) - 1))))) ((fw xb).bind fun (l33,i34)=>((aa qxa_5 (IntKind.wrap .i64 ((qxa_5.length:Int) - 1))).bind fun _=>((aa qxa_5 (IntKind.wrap .i64 ((qxa_5.length:Int) - 1))).bind fun x35=>(aF (IntKind.wrap .i64 ((qxa_5.length:Int) - 1)) (IntKind.wrap .i64 ((qxa_5.length:Int) - 1))).bind fun _=>(app x35.2.2.1 (([l33]:List Tq4))).bind fun z36=>(aa qxa_5 (IntKind.wrap .i64 ((qxa_5.length:Int) - 1))).bind fun _=>(aF (IntKind.wrap .i64 ((qxa_5.length:Int) - 1)) (IntKind.wrap .i64 ((qxa_5.length:Int) - 1))).bind fun _=>some (qxa_5.set (IntKind.wrap .i64 ((qxa_5.length:Int) - 1)).toNat (x35.1,x35.2.1,z36,x35.2.2.2))).bind fun x37=>((aa qxa_5 (IntKind.wrap .i64 ((qxa_5.length:Int) - 1))).bind fun x38=>(aF (IntKind.wrap .i64 ((qxa_5.length:Int) - 1)) (IntKind.wrap .i64 ((qxa_5.length:Int) - 1))).bind fun _=>(app x38.2.2.1 (([l33]:List Tq4))).bind fun z39=>(aa qxa_5 (IntKind.wrap .i64 ((qxa_5.length:Int) - 1))).bind fun _=>(aF (IntKind.wrap .i64 ((qxa_5.length:Int) - 1)) (IntKind.wrap .i64 ((qxa_5.length:Int) - 1))).bind fun _=>some (qxa_5.set (IntKind.wrap .i64 ((qxa_5.length:Int) - 1)).toNat (x38.1,x38.2.1,z39,x38.2.2.2))).bind fun y40=>agr x37 y40 (some x37):Option ((List Tq3))).bind fun l41=>some ((qxa_0,qxa_1,qxa_2,qxa_3,qxa_4,l41,qxa_6,qxa_7,qxa_8,i34))) (some ((qxa_0,qxa_1,qxa_2,qxa_3,qxa_4,qxa_5,qxa_6,qxa_7,qxa_8,3)))))))))
def GD:Hn Tryz.prog := .gp 3 (.wt 30 (.gp 3 (.tw 34 (.cl gW [] (.cl gW [] .nil)) (.gp 3 (.tw 65 (.cl AD [] .nil) (.gp 3 (.tw 84 (.cl uI [] (.per 14 15 .nil)) (.gp 3 (.tw 108 (.cl uI [] .nil) (.gp 3 (.wt 128 (.gp 3 (.tw 132 (.cl gW [] (.cl Ax [] (.sq [] ⟨[kdI 11],[]⟩ [] (.tw 148 .nil .nil) (.per 14 15 (.ot (.cons (.dat Yq2) (.cons (.dat (.sl Yq5)) (.cons (.row 27 (.dat Yq7)) (.one (.dat Yq7))))) (.ot (.cons (.dat Yq2) (.cons (.dat (.sl Yq5)) (.cons (.row 27 (.dat Yq7)) (.one (.dat Yq7))))) .nil)))))) (.gp 3 (.tw 171 (.mix [([0,1,2,3,4],5),([6,7,8,9,10],11)] [12] [] [6] (.cl AD [] (.wt 182 (.opn 6 1000006 (.per 14 15 (.cls 6 19 .nil)))))) (.gp 3 (.wt 195 (.gp 2 (.tw 198 (.cl uI [] (.tr (.still [0,1,2,3,4,5,6,7,8,9,11] (.alt 10 (.alt 12 (.alt 13 (.still [14,15] (.alt 16 (.leaf []) .done)) .done) .done) (.alt 12 (.alt 10 (.alt 13 (.still [14,15] (.alt 16 (.leaf []) .done)) .done) .done) .done))) ⟨[(201,.any),(199,.any),(202,.any)],[bkO 6 (.row 126 (.cons (.dat Yq2) (.cons (.dat (.sl Yq5)) (.cons (.row 27 (.dat Yq7)) (.one (.dat Yq7))))))]⟩ [14,6] (.two 0 (.wt 213 (.opn 6 1000006 (.per 14 15 (.cls 6 26 .nil)))) (.per 14 15 (.wt 213 (.opn 6 1000006 (.cls 6 26 .nil))))) .nil)) .nil)))))))))))))))))))
def GH:Spec:=⟨63,⟨[(0,.agg [.dat Yq2,.dat Yq2,.own 78 Yq5,.own 27 Yq7,.own 165 Yq3,.od (.row 126 (.cons (.dat Yq2) (.cons (.dat (.sl Yq5)) (.cons (.row 27 (.dat Yq7)) (.one (.dat Yq7)))))),.od (.row 120 (.cons (.row 129 (.dat Yq6)) (.one (.dat Yq4)))),.dat Yq2,.dat .bool]),(1,.dat (.sl .str))],[]⟩,[⟨[(0,.tup [.agg [.dat Yq2,.dat Yq2,.own 78 Yq5,.own 27 Yq7,.own 165 Yq3,.od (.row 126 (.cons (.dat Yq2) (.cons (.dat (.sl Yq5)) (.cons (.row 27 (.dat Yq7)) (.one (.dat Yq7)))))),.od (.row 120 (.cons (.row 129 (.dat Yq6)) (.one (.dat Yq4)))),.dat Yq2,.dat .bool],.dat Yq2])],[]⟩],fun x=>cq x.2.2.2.2.2.2.2.2.2 x.1 x.2.1 x.2.2.1 x.2.2.2.1 x.2.2.2.2.1 x.2.2.2.2.2.1 x.2.2.2.2.2.2.1 x.2.2.2.2.2.2.2.1 x.2.2.2.2.2.2.2.2.1⟩
def GA:OkSpec Tryz.prog:=⟨GH,ah func63 GD (by kernel_rfl) (by kernel_rfl),call63⟩
def f6 (l1:(List Tq5)):uL→Option (uL⊕((Int×Int×Tq8×(List Tq4)×Tq4×(List Tq3)×(List Tq2)×Int×Bool)⊕mS)):=fun (i2,i3,i4,l5,l6,l7,l9,l10,i11,t12)=>cond (decide (i2 < (l1.length:Int))) ((aa l1 i2).bind fun x13=>(f9 x13).bind fun l14=>(cond (decide ((l14.length:Int)=0)) (some (true)) ((aa l14 0).bind fun x15=>(aa x15 0).bind fun x16=>some (decide ((((x16.toNat:Nat):Int))=35)))).bind fun t17=>cond (t17) (some (.inl ((IntKind.wrap .i64 (i2 + 1),i3,i4,l5,l6,l7,l9,l10,i11,t12)))) ((cond (t12) ((kW l14 i3 i4 l5 l6 l7 l9 l10 i11 t12).bind fun (i18,i19,l20,l21,l22,l23,l24,i25,t26,i27)=>some ((i27,i18,i19,l20,l21,l22,l23,l24,i25,t26))) ((cond (decide ((l14.length:Int)=1)) ((aa l14 0).bind fun x28=>some (decide (x28=([98,108,111,99,107]:List UInt8)))) (some (false))).bind fun t29=>cond (t29&&(decide (i11=3))) ((app (l10:List Tq2) (([([],(0,0,0,[],[],[]))]:List Tq2):List Tq2)).bind fun z30=>some ((0,i3,i4,l5,l6,l7,l9,z30,i11,true))) (cond (decide (0 < (l10.length:Int))) (some ((3,i3,i4,l5,l6,l7,l9,l10,i11,t12))) ((cq l14 i3 i4 l5 l6 l7 l9 l10 i11 t12).bind fun (i31,i32,l33,l34,l35,l36,l37,i38,t39,i40)=>some ((i40,i31,i32,l33,l34,l35,l36,l37,i38,t39))))):Option (uL)).bind fun (i41,i42,i43,l44,l45,l46,l47,l48,i49,t50)=>cond (!decide (i41=0)) (some (.inr ((.inr ((0,0,[],[],[],[],[],IntKind.wrap .i64 (i2 + 1),i41)))))) (some (.inl ((IntKind.wrap .i64 (i2 + 1),i42,i43,l44,l45,l46,l47,l48,i49,t50)))))) (some (.inr ((.inl (i3,i4,l5,l6,l7,l9,l10,i11,t12)))))
def ll (xa:Tq5):Option (mS) :=
 cond (decide (1048576 < (xa.length:Int))) (some ((0,0,[],[],[],[],[],0,5))) ((eo xa 10).bind fun l1=>(loop (f6 l1) (0,0,0,[],[],[],[],[],0,false)).bind fun o=>match o with | .inr r=>some r | .inl (i2,i3,l4,l5,l6,l7,l9,i10,t11)=>cond (t11||(!decide (i10=3))) (some ((0,0,[],[],[],[],[],0,14))) (some ((i2,i3,l4,l5,l6,l7,l9,0,0))))
def Ic:Hn Tryz.prog := .tw 12 .nil (.cl qJ [] (.jx [] ⟨[],[bkC 0 31 [.lit (.int .i64 0),.lit (.int .i64 0),.nils,.nils,.nils,.nils,.nils],bkC 2 113 [.dat Yq2,.dat Yq2,.own 78 Yq5,.own 27 Yq7,.own 165 Yq3,.od (.row 126 (.cons (.dat Yq2) (.cons (.dat (.sl Yq5)) (.cons (.row 27 (.dat Yq7)) (.one (.dat Yq7)))))),.od (.row 120 (.cons (.row 129 (.dat Yq6)) (.one (.dat Yq4)))),.dat Yq2,.dat .bool]]⟩ [2,0] (.lp ⟨[kdI 7],[bkC 0 31 [.lit (.int .i64 0),.lit (.int .i64 0),.nils,.nils,.nils,.nils,.nils],bkC 2 113 [.dat Yq2,.dat Yq2,.own 78 Yq5,.own 27 Yq7,.own 165 Yq3,.od (.row 126 (.cons (.dat Yq2) (.cons (.dat (.sl Yq5)) (.cons (.row 27 (.dat Yq7)) (.one (.dat Yq7)))))),.od (.row 120 (.cons (.row 129 (.dat Yq6)) (.one (.dat Yq4)))),.dat Yq2,.dat .bool]]⟩ (.tw 20 (.cl qM [] (.gj 5 ⟨[kdB 37],[]⟩ [] (.two 31 .nil .nil) (.per 19 20 (.tw 37 .nil (.sq [] ⟨[kdI 9],[bkC 2 113 [.dat Yq2,.dat Yq2,.own 78 Yq5,.own 27 Yq7,.own 165 Yq3,.od (.row 126 (.cons (.dat Yq2) (.cons (.dat (.sl Yq5)) (.cons (.row 27 (.dat Yq7)) (.one (.dat Yq7)))))),.od (.row 120 (.cons (.row 129 (.dat Yq6)) (.one (.dat Yq4)))),.dat Yq2,.dat .bool]]⟩ [2,8,10,12,14,16] (.tw 39 (.cl Jq [] .nil) (.gj 4 ⟨[kdB 54],[]⟩ [] (.two 49 .nil .nil) (.wt 55 (.gp 3 (.tw 59 (.ot (.cons (.row 129 (.dat Yq6)) (.one (.dat Yq4))) (.ot (.cons (.row 129 (.dat Yq6)) (.one (.dat Yq4))) .nil)) (.tw 73 .nil (.cl GA [] .nil))))))) (.tw 81 .nil .nil)))))) .nil)) (.gp 3 (.tw 92 .nil .nil))))
def HJ:Spec:=⟨30,⟨[(0,.dat .str)],[]⟩,[⟨[(0,.tup [.agg [.dat Yq2,.dat Yq2,.own 78 Yq5,.own 27 Yq7,.own 165 Yq3,.od (.row 126 (.cons (.dat Yq2) (.cons (.dat (.sl Yq5)) (.cons (.row 27 (.dat Yq7)) (.one (.dat Yq7)))))),.od (.row 120 (.cons (.row 129 (.dat Yq6)) (.one (.dat Yq4))))],.dat Yq2,.dat Yq2])],[]⟩],fun x=>ll x⟩
def GZ:OkSpec Tryz.prog:=⟨HJ,ah func30 Ic (by kernel_rfl) (by kernel_rfl),call30⟩
def iP (l1:(List Tq5)):(Int×Tq6)→Option ((Int×Tq6)⊕(Tq6⊕uK)):=fun (i2,l3)=>cond (decide (i2 < (l1.length:Int))) ((aa l1 i2).bind fun x4=>(f9 x4).bind fun l5=>(cond (decide ((l5.length:Int)=0)) (some (true)) ((aa l5 0).bind fun x6=>(aa x6 0).bind fun x7=>some (decide ((((x7.toNat:Nat):Int))=35)))).bind fun t9=>cond (t9) (some (.inl ((IntKind.wrap .i64 (i2 + 1),l3)))) ((kL l5).bind fun (i10,i11,i12,i13,i14,i15)=>(cond ((decide (i15=0))&&(decide (400≤(l3.length:Int)))) (some (10)) (some (i15)):Option Int).bind fun i16=>cond (!decide (i16=0)) (some (.inr ((.inr ((0,0,[],[],[],[],[],[],IntKind.wrap .i64 (i2 + 1),i16)))))) ((app l3 (([(i10,(i11,i12,i13,i14))]:List (Int×cA)))).bind fun z17=>some (.inl ((IntKind.wrap .i64 (i2 + 1),z17)))))) (some (.inr (.inl l3)))
def n7 (xa:Tq5):Option (uK) :=
 cond (decide (1048576 < (xa.length:Int))) (some ((0,0,[],[],[],[],[],[],0,5))) ((eo xa 10).bind fun l1=>(oe l1).bind fun (s2,i3,t4)=>(ll s2).bind fun (i5,i6,l7,l9,l10,l11,l12,i13,i14)=>cond (!decide (i14=0)) (some ((0,0,[],[],[],[],[],[],i13,i14))) (cond (!t4) (some ((0,0,[],[],[],[],[],[],0,14))) ((loop (iP l1) ((IntKind.wrap .i64 (i3 + 1),[]))).bind fun o=>match o with | .inr r=>some r | .inl l15=>some ((i5,i6,l7,l9,l10,l11,l12,l15,0,0)))))
def HT:Hn Tryz.prog := .tw 19 .nil (.cl qJ [] (.cl I5 [2] (.cl GZ [] (.per 10 11 (.per 12 13 (.tw 36 .nil (.tw 41 .nil (.jx [(17,0),(17,1),(17,2),(17,3),(17,4),(17,5),(17,6)] ⟨[],[bkC 0 40 [.lit (.int .i64 0),.lit (.int .i64 0),.nils,.nils,.nils,.nils,.nils,.nils],bkC 17 40 [.is 2 (.any),.is 3 (.any),.is 4 (.any),.is 5 (.any),.is 6 (.any),.is 7 (.any),.is 8 (.any),.own 52 Yq8],bkU 20,bkU 21,bkU 22,bkU 23,bkU 24,bkU 25,bkU 26]⟩ [17,14,0] (.lp ⟨[kdI 13],[bkC 0 40 [.lit (.int .i64 0),.lit (.int .i64 0),.nils,.nils,.nils,.nils,.nils,.nils],bkC 17 40 [.is 2 (.any),.is 3 (.any),.is 4 (.any),.is 5 (.any),.is 6 (.any),.is 7 (.any),.is 8 (.any),.own 52 Yq8],bkU 20,bkU 21,bkU 22,bkU 23,bkU 24,bkU 25,bkU 26]⟩ (.tw 50 (.cl qM [] (.gj 5 ⟨[kdB 67],[]⟩ [] (.two 61 .nil .nil) (.tw 67 .nil (.cl Af [31] (.sq [] ⟨[kdI 16],[]⟩ [] (.gp 4 (.tw 80 .nil .nil)) (.tw 82 .nil .nil)))))) .nil)) .nil))))))))
def HX:Spec:=⟨7,⟨[(0,.dat .str)],[]⟩,[⟨[(0,.tup [.agg [.dat Yq2,.dat Yq2,.own 78 Yq5,.own 27 Yq7,.own 165 Yq3,.dat (.sl Yq9),.dat (.sl (.cons (.sl Yq6) (.one Yq4))),.own 52 Yq8],.dat Yq2,.dat Yq2])],[]⟩],fun x=>n7 x⟩
def GQ:OkSpec Tryz.prog:=⟨HX,ah func7 HT (by kernel_rfl) (by kernel_rfl),call7⟩
def kS (xa:(Tq1×Tq6)):(Int×Tq6)→Option ((Int×Tq6)⊕Tq6):=fun (i1,l2)=>cond (decide (i1 < (xa.2.length:Int))) ((aa xa.2 i1).bind fun x3=>(aa xa.2 i1).bind fun x4=>(app l2 (([(x3.1,(x4.2.1,x4.2.2.1,x4.2.2.2.1,x4.2.2.2.2))]:List (Int×cA)))).bind fun z5=>some (.inl ((IntKind.wrap .i64 (i1 + 1),z5)))) (some (.inr (l2)))
def oq (xa:(Tq1×Tq6)):Option ((Int×Int×Tq8×(List Tq4)×Tq4×(List Tq3)×(List Tq2)×Tq6)) :=
 (loop (kS xa) (0,[])).bind fun l1=>some ((xa.1.1,xa.1.2.1,xa.1.2.2.1,xa.1.2.2.2.1,xa.1.2.2.2.2.1,xa.1.2.2.2.2.2.1,xa.1.2.2.2.2.2.2,l1))
def BX:Hn Tryz.prog := .jn [(4,0),(4,1),(4,2),(4,3),(4,4),(4,5),(4,6)] ⟨[],[bkC 4 40 [.is 1 (.any),.is 2 (.any),.is 3 (.any),.is 4 (.any),.is 5 (.any),.is 6 (.any),.is 7 (.any),.own 52 Yq8],bkU 7,bkU 8,bkU 9,bkU 10,bkU 11,bkU 12,bkU 13]⟩ [4] (.lp ⟨[kdI 4],[bkC 4 40 [.is 1 (.any),.is 2 (.any),.is 3 (.any),.is 4 (.any),.is 5 (.any),.is 6 (.any),.is 7 (.any),.own 52 Yq8],bkU 7,bkU 8,bkU 9,bkU 10,bkU 11,bkU 12,bkU 13]⟩ (.tw 12 (.mix [([0,1,2,3,4,5,6,7,8,9,10,11,12,13,14],15)] [] [16,17,18] [] .nil) .nil)) .nil
def vI:Spec:=⟨9,⟨[(0,.dat (.cons Yq1 (.one (.sl Yq8))))],[]⟩,[⟨[(0,.agg [.dat Yq2,.dat Yq2,.dat (.sl Yq5),.dat (.sl Yq7),.dat (.sl Yq3),.dat (.sl Yq9),.dat (.sl (.cons (.sl Yq6) (.one Yq4))),.own 52 Yq8])],[]⟩],fun x=>oq x⟩
theorem BD:cw Tryz.prog vI:=ah func9 BX (by kernel_rfl) (by kernel_rfl)
def BC:OkSpec Tryz.prog:=⟨vI,BD,call9⟩
def ri (xa:Tq8) (xb:Tq8):Int→Option (Int⊕(Unit⊕Bool)):=fun i1=>cond (decide (i1 < (xa.length:Int))) ((aa xa i1).bind fun x2=>(aa xb i1).bind fun x3=>cond (!((decide (x2.1=x3.1))&&((decide (x2.2=x3.2))))) (some (.inr ((.inr (false))))) (some (.inl (IntKind.wrap .i64 (i1 + 1))))) (some (.inr ((.inl ()))))
def kZ (xa:Tq8) (xb:Tq8):Option Bool :=
 cond (!decide ((xa.length:Int)=(xb.length:Int))) (some (false)) ((loop (ri xa xb) 0).bind fun o=>match o with | .inr r=>some r | .inl ()=>some (true))
def HM:Hn Tryz.prog := .tw 10 .nil (.jx [] ⟨[],[]⟩ [] (.lp ⟨[kdI 5],[]⟩ (.tw 14 (.mix [] [0,1,2,3,4,5,6,7,8] [] [] (.tw 25 .nil .nil)) .nil)) .nil)
def H7:Spec:=⟨64,⟨[(0,.dat (.sl Yq5)),(1,.dat (.sl Yq5))],[]⟩,[⟨[kdB 0],[]⟩],fun x=>kZ x.1 x.2⟩
def zM:OkSpec Tryz.prog:=⟨H7,ah func64 HM (by kernel_rfl) (by kernel_rfl),call64⟩
def ro (xa:Tq4) (xb:Tq4):Int→Option (Int⊕(Unit⊕Bool)):=fun i1=>cond (decide (i1 < (xa.length:Int))) ((aa xa i1).bind fun x2=>(aa xb i1).bind fun x3=>cond (!(x2.2 == x3.2)) (some (.inr ((.inr (false))))) (some (.inl (IntKind.wrap .i64 (i1 + 1))))) (some (.inr ((.inl ()))))
def f8 (xa:Tq4) (xb:Tq4):Option Bool :=
 cond (!decide ((xa.length:Int)=(xb.length:Int))) (some (false)) ((loop (ro xa xb) 0).bind fun o=>match o with | .inr r=>some r | .inl ()=>some (true))
def GI:Hn Tryz.prog := .tw 12 .nil (.jx [] ⟨[],[]⟩ [] (.lp ⟨[kdI 5],[]⟩ (.tw 17 (.mix [] [0,1,2,3,4,5,6,7,8,9,10,11,12] [] [] (.tw 32 .nil .nil)) .nil)) .nil)
def Hq:Spec:=⟨104,⟨[(0,.dat Yq7),(1,.dat Yq7)],[]⟩,[⟨[kdB 0],[]⟩],fun x=>f8 x.1 x.2⟩
def mH:OkSpec Tryz.prog:=⟨Hq,ah func104 GI (by kernel_rfl) (by kernel_rfl),call104⟩
def nT (xa:Tq4) (xb:Tq4):Int→Option (Int⊕(Unit⊕Bool)):=fun i1=>cond (decide (i1 < (xa.length:Int))) ((aa xa i1).bind fun x2=>(aa xb i1).bind fun x3=>cond (!decide (x2.1=x3.1)) (some (.inr ((.inr (false))))) (some (.inl (IntKind.wrap .i64 (i1 + 1))))) (some (.inr ((.inl ()))))
def jb (xa:Tq4) (xb:Tq4):Option Bool :=
 (f8 xa xb).bind fun t1=>cond (!t1) (some (false)) ((loop (nT xa xb) 0).bind fun o=>match o with | .inr r=>some r | .inl ()=>some (true))
def Ht:Hn Tryz.prog := .cl mH [] (.tw 9 .nil (.jx [] ⟨[],[]⟩ [] (.lp ⟨[kdI 5],[]⟩ (.tw 14 (.mix [] [0,1,2,3,4,5,6,7,8,9,10,11,12] [] [] (.tw 29 .nil .nil)) .nil)) .nil))
def Ha:Spec:=⟨66,⟨[(0,.dat Yq7),(1,.dat Yq7)],[]⟩,[⟨[kdB 0],[]⟩],fun x=>jb x.1 x.2⟩
def uv:OkSpec Tryz.prog:=⟨Ha,ah func66 Ht (by kernel_rfl) (by kernel_rfl),call66⟩
def rj (xa:(List Tq4)) (xb:(List Tq4)):Int→Option (Int⊕(Unit⊕Bool)):=fun i1=>cond (decide (i1 < (xa.length:Int))) ((aa xa i1).bind fun x2=>(aa xb i1).bind fun x3=>(jb x2 x3).bind fun t4=>cond (!t4) (some (.inr ((.inr (false))))) (some (.inl (IntKind.wrap .i64 (i1 + 1))))) (some (.inr ((.inl ()))))
def li (xa:(List Tq4)) (xb:(List Tq4)):Option Bool :=
 cond (!decide ((xa.length:Int)=(xb.length:Int))) (some (false)) ((loop (rj xa xb) 0).bind fun o=>match o with | .inr r=>some r | .inl ()=>some (true))
def F8:Hn Tryz.prog := .tw 10 .nil (.jx [] ⟨[],[]⟩ [] (.lp ⟨[kdI 5],[]⟩ (.tw 14 (.mix [] [0,1,2,3,4,5,6,7] [8,9] [] (.cl uv [] (.tw 26 .nil .nil))) .nil)) .nil)
def Hc:Spec:=⟨65,⟨[(0,.dat (.sl Yq7)),(1,.dat (.sl Yq7))],[]⟩,[⟨[kdB 0],[]⟩],fun x=>li x.1 x.2⟩
def zJ:OkSpec Tryz.prog:=⟨Hc,ah func65 F8 (by kernel_rfl) (by kernel_rfl),call65⟩

def rN (xa:Tq3) (xb:Tq3):Option Bool :=
 (cond (decide (xa.1=xb.1)) ((kZ xa.2.1 xb.2.1).bind fun t62=>some (t62)) (some (false))).bind fun t58=>(cond (t58) ((li xa.2.2.1 xb.2.2.1).bind fun t77=>some (t77)) (some (false))).bind fun t73=>(cond (t73) ((jb xa.2.2.2 xb.2.2.2).bind fun t92=>some (t92)) (some (false))).bind fun t88=>some (t88)
def G3:Hn Tryz.prog := .gj 5 ⟨[kdB 16],[]⟩ [] (.two 10 (.cl zM [] .nil) .nil) (.wt 17 (.gj 5 ⟨[kdB 23],[]⟩ [] (.two 17 (.cl zJ [] .nil) .nil) (.wt 24 (.gj 5 ⟨[kdB 30],[]⟩ [] (.two 24 (.cl uv [] .nil) .nil) .nil))))
def GE:Spec:=⟨67,⟨[(0,.dat Yq9),(1,.dat Yq9)],[]⟩,[⟨[kdB 0],[]⟩],fun x=>rN x.1 x.2⟩
def Gb:OkSpec Tryz.prog:=⟨GE,ah func67 G3 (by kernel_rfl) (by kernel_rfl),call67⟩
def nX (xa:(List Int)) (xb:(List Int)):Int→Option (Int⊕(Unit⊕Bool)):=fun i1=>cond (decide (i1 < (xa.length:Int))) ((aa xa i1).bind fun x2=>(aa xb i1).bind fun x3=>cond (!decide (x2=x3)) (some (.inr ((.inr (false))))) (some (.inl (IntKind.wrap .i64 (i1 + 1))))) (some (.inr ((.inl ()))))
def hZ (xa:(List Int)) (xb:(List Int)):Option Bool :=
 cond (!decide ((xa.length:Int)=(xb.length:Int))) (some (false)) ((loop (nX xa xb) 0).bind fun o=>match o with | .inr r=>some r | .inl ()=>some (true))
def HN:Hn Tryz.prog := .tw 10 .nil (.jx [] ⟨[],[]⟩ [] (.lp ⟨[kdI 5],[]⟩ (.tw 14 (.mix [] [0,1,2,3,4,5,6,7,8] [] [] (.tw 25 .nil .nil)) .nil)) .nil)
def H6:Spec:=⟨105,⟨[(0,.dat (.sl Yq2)),(1,.dat (.sl Yq2))],[]⟩,[⟨[kdB 0],[]⟩],fun x=>hZ x.1 x.2⟩
def uk:OkSpec Tryz.prog:=⟨H6,ah func105 HN (by kernel_rfl) (by kernel_rfl),call105⟩

def rM (xa:gS) (xb:gS):Option Bool :=
 (cond (((decide (xa.1=xb.1))&&(decide (xa.2.1=xb.2.1)))&&(decide (xa.2.2.1=xb.2.2.1))) ((hZ xa.2.2.2.1 xb.2.2.2.1).bind fun t70=>some (t70)) (some (false))).bind fun t66=>(cond (t66) ((hZ xa.2.2.2.2.1 xb.2.2.2.2.1).bind fun t85=>some (t85)) (some (false))).bind fun t81=>(cond (t81) ((hZ xa.2.2.2.2.2 xb.2.2.2.2.2).bind fun t1=>some (t1)) (some (false))).bind fun t96=>some (t96)
def HP:Hn Tryz.prog := .gp 5 (.wt 17 (.gp 5 (.wt 24 (.gj 5 ⟨[kdB 30],[]⟩ [] (.two 24 (.cl uk [] .nil) .nil) (.wt 31 (.gj 5 ⟨[kdB 37],[]⟩ [] (.two 31 (.cl uk [] .nil) .nil) (.wt 38 (.gj 5 ⟨[kdB 44],[]⟩ [] (.two 38 (.cl uk [] .nil) .nil) .nil))))))))
def H8:Spec:=⟨68,⟨[(0,.dat Yq4),(1,.dat Yq4)],[]⟩,[⟨[kdB 0],[]⟩],fun x=>rM x.1 x.2⟩
def HV:OkSpec Tryz.prog:=⟨H8,ah func68 HP (by kernel_rfl) (by kernel_rfl),call68⟩
def rA (xa:Tq1) (xb:Tq1):Int→Option (Int⊕(Unit⊕Bool)):=fun i1=>cond (decide (i1 < (xa.2.2.2.2.2.1.length:Int))) ((aa xa.2.2.2.2.2.1 i1).bind fun x2=>(aa xb.2.2.2.2.2.1 i1).bind fun x3=>(rN (x2.1,x2.2.1,x2.2.2.1,x2.2.2.2) (x3.1,x3.2.1,x3.2.2.1,x3.2.2.2)).bind fun t4=>cond (!t4) (some (.inr ((.inr (false))))) (some (.inl (IntKind.wrap .i64 (i1 + 1))))) (some (.inr ((.inl ()))))
def rC (x1:Tq2) (x2:Tq2):Int→Option (Int⊕(Unit⊕(Int⊕(Unit⊕Bool)))):=fun i3=>cond (decide (i3 < (x1.1.length:Int))) ((aa x1.1 i3).bind fun x4=>(aa x2.1 i3).bind fun x5=>cond (!((decide (x4.1=x5.1))&&((decide (x4.2.1=x5.2.1))&&((decide (x4.2.2.1=x5.2.2.1))&&((decide (x4.2.2.2.1=x5.2.2.2.1))&&(x4.2.2.2.2 == x5.2.2.2.2)))))) (some (.inr ((.inr (.inr ((.inr (false)))))))) (some (.inl (IntKind.wrap .i64 (i3 + 1))))) (some (.inr ((.inl ()))))
def rG (xa:Tq1) (xb:Tq1):Int→Option (Int⊕(Unit⊕Bool)):=fun i1=>cond (decide (i1 < (xa.2.2.2.2.2.2.length:Int))) ((aa xa.2.2.2.2.2.2 i1).bind fun x2=>(aa xb.2.2.2.2.2.2 i1).bind fun x3=>cond (!decide ((x2.1.length:Int)=(x3.1.length:Int))) (some (.inr ((.inr (false))))) ((aa xa.2.2.2.2.2.2 i1).bind fun x4=>(aa xb.2.2.2.2.2.2 i1).bind fun x5=>(rM (x4.2.1,x4.2.2.1,x4.2.2.2.1,x4.2.2.2.2.1,x4.2.2.2.2.2.1,x4.2.2.2.2.2.2) (x5.2.1,x5.2.2.1,x5.2.2.2.1,x5.2.2.2.2.1,x5.2.2.2.2.2.1,x5.2.2.2.2.2.2)).bind fun t6=>cond (!t6) (some (.inr ((.inr (false))))) ((loop (rC x2 x3) 0).bind fun o=>match o with | .inr r=>some r | .inl ()=>some (.inl (IntKind.wrap .i64 (i1 + 1)))))) (some (.inr ((.inl ()))))
def lC (xa:Tq1) (xb:Tq1):Option Bool :=
 (cond ((!decide (xa.1=xb.1))||(!decide (xa.2.1=xb.2.1))) (some (true)) ((kZ xa.2.2.1 xb.2.2.1).bind fun t1=>some (!t1))).bind fun t2=>(cond (t2) (some (true)) ((li xa.2.2.2.1 xb.2.2.2.1).bind fun t3=>some (!t3))).bind fun t4=>(cond (t4) (some (true)) ((jb xa.2.2.2.2.1 xb.2.2.2.2.1).bind fun t5=>some (!t5))).bind fun t6=>cond ((t6||(!decide ((xa.2.2.2.2.2.1.length:Int)=(xb.2.2.2.2.2.1.length:Int))))||(!decide ((xa.2.2.2.2.2.2.length:Int)=(xb.2.2.2.2.2.2.length:Int)))) (some (false)) ((loop (rA xa xb) 0).bind fun o=>match o with | .inr r=>some r | .inl ()=>(loop (rG xa xb) 0).bind fun o=>match o with | .inr r=>some r | .inl ()=>some (true))
def GG:Hn Tryz.prog := .gp 5 (.wt 22 (.gj 6 ⟨[kdB 29],[]⟩ [] (.two 22 .nil (.cl zM [] .nil)) (.wt 30 (.gj 6 ⟨[kdB 37],[]⟩ [] (.two 30 .nil (.cl zJ [] .nil)) (.wt 38 (.gj 6 ⟨[kdB 45],[]⟩ [] (.two 38 .nil (.cl uv [] .nil)) (.wt 46 (.gp 7 (.wt 55 (.gp 7 (.tw 63 .nil (.jx [] ⟨[],[]⟩ [] (.lp ⟨[kdI 5],[]⟩ (.tw 68 (.mix [] [0,1,2,3,4,5,6,7,8,9] [10,11] [] (.cl Gb [] (.tw 82 .nil .nil))) .nil)) (.jx [] ⟨[],[]⟩ [] (.lp ⟨[kdI 6],[]⟩ (.tw 87 (.mix [] [0,1,2,3,4,5,6,7,8,9,10,11,12,13] [] [] (.mix [] [0,1,2,3,4,5,6,7,8,9,10,11,12,13,14,15,16,17] [18,19,20] [] (.two 107 .nil (.cl HV [] (.tw 122 .nil (.jx [] ⟨[],[]⟩ [] (.lp ⟨[kdI 9],[]⟩ (.tw 126 (.mix [] [0,1,2,3,4,5,6,7,8] [] [] (.tw 137 .nil .nil)) .nil)) .nil)))))) .nil)) .nil)))))))))))))
def Ig:Spec:=⟨31,⟨[(0,.dat Yq1),(1,.dat Yq1)],[]⟩,[⟨[kdB 0],[]⟩],fun x=>lC x.1 x.2⟩
def GT:OkSpec Tryz.prog:=⟨Ig,ah func31 GG (by kernel_rfl) (by kernel_rfl),call31⟩
def kK (xa:(Tq1×Tq6)) (xb:(Tq1×Tq6)):Int→Option (Int⊕(Unit⊕Bool)):=fun i1=>cond (decide (i1 < (xa.2.length:Int))) ((aa xa.2 i1).bind fun x2=>(aa xb.2 i1).bind fun x3=>cond (!((decide (x2.1=x3.1))&&(((decide (x2.2.1=x3.2.1))&&((decide (x2.2.2.1=x3.2.2.1))&&((decide (x2.2.2.2.1=x3.2.2.2.1))&&((decide (x2.2.2.2.2=x3.2.2.2.2))))))))) (some (.inr ((.inr (false))))) (some (.inl (IntKind.wrap .i64 (i1 + 1))))) (some (.inr ((.inl ()))))
def jc (xa:(Tq1×Tq6)) (xb:(Tq1×Tq6)):Option Bool :=
 (lC xa.1 xb.1).bind fun t1=>cond ((!t1)||(!decide ((xa.2.length:Int)=(xb.2.length:Int)))) (some (false)) ((loop (kK xa xb) 0).bind fun o=>match o with | .inr r=>some r | .inl ()=>some (true))
def G9:Hn Tryz.prog := .cl GT [] (.gp 7 (.tw 20 .nil (.jx [] ⟨[],[]⟩ [] (.lp ⟨[kdI 5],[]⟩ (.tw 25 (.mix [] [0,1,2,3,4,5,6,7,8,9,10] [] [] (.tw 38 .nil .nil)) .nil)) .nil)))
def H0:Spec:=⟨8,⟨[(0,.dat (.cons Yq1 (.one (.sl Yq8)))),(1,.dat (.cons Yq1 (.one (.sl Yq8))))],[]⟩,[⟨[kdB 0],[]⟩],fun x=>jc x.1 x.2⟩
def Ad:OkSpec Tryz.prog:=⟨H0,ah func8 G9 (by kernel_rfl) (by kernel_rfl),call8⟩
def nW (xa:Tq1):Int→Option (Int⊕(Unit⊕cA)):=fun i1=>cond (decide (i1 < (xa.2.2.1.length:Int))) ((aa xa.2.2.1 i1).bind fun x2=>cond ((((decide (x2.1 < 0))||(decide (xa.1≤x2.1)))||(decide (x2.2 < 0)))||(decide (xa.1≤x2.2))) (some (.inr ((.inr ((7,1,i1,0)))))) (some (.inl (IntKind.wrap .i64 (i1 + 1))))) (some (.inr ((.inl ()))))
def lr (xa:Tq1):Option cA :=
 cond ((decide (xa.1 < 1))||(decide (xa.2.1 < xa.1))) (some ((7,0,0,0))) (cond (decide (65536 < xa.2.1)) (some ((6,0,0,0))) (cond (decide (65536 < (xa.2.2.1.length:Int))) (some ((6,1,0,0))) ((loop (nW xa) 0).bind fun o=>match o with | .inr r=>some r | .inl ()=>some ((0,0,0,0)))))
def Gs:Hn Tryz.prog := .gp 5 (.tw 14 .nil (.tw 18 .nil (.tw 23 .nil (.jx [] ⟨[],[bkC 2 86 [.lit (.int .i64 0),.lit (.int .i64 0),.lit (.int .i64 0),.lit (.int .i64 0)]]⟩ [2] (.lp ⟨[kdI 3],[bkC 2 86 [.lit (.int .i64 0),.lit (.int .i64 0),.lit (.int .i64 0),.lit (.int .i64 0)]]⟩ (.tw 29 (.gp 5 (.wt 47 (.gp 3 (.wt 52 (.gp 5 (.tw 58 .nil .nil)))))) .nil)) .nil))))
def HS:Spec:=⟨81,⟨[(0,.dat Yq1)],[]⟩,[⟨[(0,.agg [.dat Yq2,.dat Yq2,.dat Yq2,.dat Yq2])],[]⟩],fun x=>lr x⟩
def Gd:OkSpec Tryz.prog:=⟨HS,ah func81 Gs (by kernel_rfl) (by kernel_rfl),call81⟩
def nK (xa:Tq4) (xb:Int):Int→Option (Int⊕(Unit⊕Int)):=fun i1=>cond (decide (i1 < (xa.length:Int))) ((aa xa i1).bind fun x2=>(cond (decide (x2.1 < 0)) (some (true)) ((aa xa i1).bind fun x3=>some (decide (xb≤x3.1)))).bind fun t4=>cond (t4) (some (.inr ((.inr (7))))) (some (.inl (IntKind.wrap .i64 (i1 + 1))))) (some (.inr ((.inl ()))))
def hG (xa:Tq4) (xb:Int):Option Int :=
 cond (decide (16 < (xa.length:Int))) (some (6)) ((loop (nK xa xb) 0).bind fun o=>match o with | .inr r=>some r | .inl ()=>some (0))
def Hv:Hn Tryz.prog := .tw 9 .nil (.jx [] ⟨[],[]⟩ [] (.lp ⟨[kdI 5],[]⟩ (.tw 14 (.gj 8 ⟨[kdB 33],[]⟩ [] (.two 24 .nil .nil) (.tw 33 .nil .nil)) .nil)) .nil)
def GK:Spec:=⟨109,⟨[(0,.dat Yq7),kdI 1],[]⟩,[⟨[kdI 0],[]⟩],fun x=>hG x.1 x.2⟩
def qp:OkSpec Tryz.prog:=⟨GK,ah func109 Hv (by kernel_rfl) (by kernel_rfl),call109⟩
def nP (xa:Tq3):Int→Option (Int⊕(Unit⊕Int)):=fun i1=>cond (decide (i1 < (xa.2.1.length:Int))) ((aa xa.2.1 i1).bind fun x2=>cond ((((decide (x2.1 < 0))||(decide (xa.1≤x2.1)))||(decide (x2.2 < 0)))||(decide (xa.1≤x2.2))) (some (.inr ((.inr (7))))) (some (.inl (IntKind.wrap .i64 (i1 + 1))))) (some (.inr ((.inl ()))))
def nN (xa:Tq3):Int→Option (Int⊕(Unit⊕Int)):=fun i1=>cond (decide (i1 < (xa.2.2.1.length:Int))) ((aa xa.2.2.1 i1).bind fun x2=>(hG x2 xa.1).bind fun i3=>cond (!decide (i3=0)) (some (.inr ((.inr (i3))))) (some (.inl (IntKind.wrap .i64 (i1 + 1))))) (some (.inr ((.inl ()))))
def hI (xa:Tq3):Option Int :=
 cond (decide (xa.1 < 0)) (some (7)) (cond (((decide (16 < xa.1))||(decide (16 < (xa.2.1.length:Int))))||(decide (16 < (xa.2.2.1.length:Int)))) (some (6)) ((loop (nP xa) 0).bind fun o=>match o with | .inr r=>some r | .inl ()=>(loop (nN xa) 0).bind fun o=>match o with | .inr r=>some r | .inl ()=>(hG xa.2.2.2 xa.1).bind fun i1=>some (i1)))
def H5:Hn Tryz.prog := .tw 9 .nil (.gp 4 (.wt 19 (.gp 4 (.tw 24 .nil (.jx [] ⟨[],[]⟩ [] (.lp ⟨[kdI 3],[]⟩ (.tw 29 (.gp 5 (.wt 47 (.gp 3 (.wt 52 (.gp 5 (.tw 58 .nil .nil)))))) .nil)) (.jx [] ⟨[],[]⟩ [] (.lp ⟨[kdI 5],[]⟩ (.tw 63 (.mix [] [0,1,2,3,4,5,6] [7,8] [] (.cl qp [] (.tw 75 .nil .nil))) .nil)) (.cl qp [] .nil)))))))
def HU:Spec:=⟨110,⟨[(0,.dat Yq9)],[]⟩,[⟨[kdI 0],[]⟩],fun x=>hI x⟩
def Ab:OkSpec Tryz.prog:=⟨HU,ah func110 H5 (by kernel_rfl) (by kernel_rfl),call110⟩
def nO (xa:Tq1):Int→Option (Int⊕(Unit⊕cA)):=fun i1=>cond (decide (i1 < (xa.2.2.2.1.length:Int))) ((aa xa.2.2.2.1 i1).bind fun x2=>(hG x2 xa.2.1).bind fun i3=>cond (!decide (i3=0)) (some (.inr ((.inr ((i3,2,i1,0)))))) (some (.inl (IntKind.wrap .i64 (i1 + 1))))) (some (.inr ((.inl ()))))
def nM (xa:Tq1):Int→Option (Int⊕(Unit⊕cA)):=fun i1=>cond (decide (i1 < (xa.2.2.2.2.2.1.length:Int))) ((aa xa.2.2.2.2.2.1 i1).bind fun x2=>(hI (x2.1,x2.2.1,x2.2.2.1,x2.2.2.2)).bind fun i3=>cond (!decide (i3=0)) (some (.inr ((.inr ((i3,4,i1,0)))))) (some (.inl (IntKind.wrap .i64 (i1 + 1))))) (some (.inr ((.inl ()))))
def lf (xa:Tq1):Option cA :=
 cond (decide ((xa.2.2.2.1.length:Int)=0)) (some ((14,2,0,0))) (cond (decide (65536 < (xa.2.2.2.1.length:Int))) (some ((6,2,0,0))) ((loop (nO xa) 0).bind fun o=>match o with | .inr r=>some r | .inl ()=>(hG xa.2.2.2.2.1 xa.1).bind fun i1=>cond (!decide (i1=0)) (some ((i1,3,0,0))) ((aa xa.2.2.2.1 0).bind fun x2=>(f8 x2 xa.2.2.2.2.1).bind fun t3=>cond (!t3) (some ((8,3,0,0))) (cond (decide (65536 < (xa.2.2.2.2.2.1.length:Int))) (some ((6,4,0,0))) ((loop (nM xa) 0).bind fun o=>match o with | .inr r=>some r | .inl ()=>some ((0,0,0,0)))))))
def Hm:Hn Tryz.prog := .tw 11 .nil (.tw 16 .nil (.jx [] ⟨[],[bkC 2 86 [.lit (.int .i64 0),.lit (.int .i64 0),.lit (.int .i64 0),.lit (.int .i64 0)]]⟩ [2] (.lp ⟨[kdI 3],[bkC 2 86 [.lit (.int .i64 0),.lit (.int .i64 0),.lit (.int .i64 0),.lit (.int .i64 0)]]⟩ (.tw 22 (.mix [] [0,1,2,3,4,5,6] [7,8] [] (.cl qp [] (.tw 34 .nil .nil))) .nil)) (.cl qp [] (.tw 44 .nil (.mix [] [0,1,2,3,4,5] [6,7] [] (.cl mH [] (.tw 54 .nil (.tw 59 .nil (.jx [] ⟨[],[bkC 2 86 [.lit (.int .i64 0),.lit (.int .i64 0),.lit (.int .i64 0),.lit (.int .i64 0)]]⟩ [2] (.lp ⟨[kdI 6],[bkC 2 86 [.lit (.int .i64 0),.lit (.int .i64 0),.lit (.int .i64 0),.lit (.int .i64 0)]]⟩ (.tw 65 (.cl Ab [] (.tw 75 .nil .nil)) .nil)) .nil)))))))))
def Gu:Spec:=⟨82,⟨[(0,.dat Yq1)],[]⟩,[⟨[(0,.agg [.dat Yq2,.dat Yq2,.dat Yq2,.dat Yq2])],[]⟩],fun x=>lf x⟩
def G1:OkSpec Tryz.prog:=⟨Gu,ah func82 Hm (by kernel_rfl) (by kernel_rfl),call82⟩

def lD (xa:Int):Option Bool :=
 some ((((decide (xa=1))||(decide (xa=2)))||(decide (xa=3)))||(decide (xa=5)))
def Hb:Hn Tryz.prog := .gp 2 (.wt 9 (.gp 2 (.wt 13 (.gp 2 .nil))))
def GO:Spec:=⟨132,⟨[kdI 0],[]⟩,[⟨[kdB 0],[]⟩],fun x=>lD x⟩
def zK:OkSpec Tryz.prog:=⟨GO,ah func132 Hb (by kernel_rfl) (by kernel_rfl),call132⟩

def lF (xa:Int):Option Bool :=
 some ((decide (1≤xa))&&(decide (xa≤4)))
def HD:Hn Tryz.prog := .gp 2 .nil
def HY:Spec:=⟨133,⟨[kdI 0],[]⟩,[⟨[kdB 0],[]⟩],fun x=>lF x⟩
def zY:OkSpec Tryz.prog:=⟨HY,ah func133 HD (by kernel_rfl) (by kernel_rfl),call133⟩

def k7 (xa:Int):Option Bool :=
 some ((decide (xa=2))||(decide (xa=3)))
def Hz:Hn Tryz.prog := .gp 2 .nil
def GX:Spec:=⟨134,⟨[kdI 0],[]⟩,[⟨[kdB 0],[]⟩],fun x=>k7 x⟩
def zX:OkSpec Tryz.prog:=⟨GX,ah func134 Hz (by kernel_rfl) (by kernel_rfl),call134⟩

def ol (xa:Tq7):Option Bool :=
 (cond ((decide (0≤xa.1))&&(decide (xa.1≤5))) ((lD xa.1).bind fun t97=>some (t97||(decide (xa.2.1=0)))) (some (false))).bind fun t93=>(cond (t93) ((lF xa.1).bind fun t1=>some (t1||(decide (xa.2.2.1=0)))) (some (false))).bind fun t2=>(cond (t2) ((k7 xa.1).bind fun t3=>some (t3||((decide (xa.2.2.2.1=0))&&(!xa.2.2.2.2)))) (some (false))).bind fun t4=>some (t4)
def Gm:Hn Tryz.prog := .gp 3 (.wt 11 (.gj 8 ⟨[kdB 20],[]⟩ [] (.two 11 (.cl zK [] (.wt 15 (.gp 3 .nil))) .nil) (.wt 21 (.gj 8 ⟨[kdB 30],[]⟩ [] (.two 21 (.cl zY [] (.wt 25 (.gp 3 .nil))) .nil) (.wt 31 (.gj 13 ⟨[kdB 45],[]⟩ [] (.two 31 (.cl zX [] (.wt 35 (.gp 8 .nil))) .nil) .nil))))))
def H4:Spec:=⟨131,⟨[(0,.dat Yq6)],[]⟩,[⟨[kdB 0],[]⟩],fun x=>ol x⟩
def G4:OkSpec Tryz.prog:=⟨H4,ah func131 Gm (by kernel_rfl) (by kernel_rfl),call131⟩
def nv (xb:Tq4) (xc:Tq4) (xd:Int) (xe:Int):dH→Option (dH⊕(List Tq7)):=fun (l1,i2)=>cond (decide (i2 < (xb.length:Int))) ((aa xb i2).bind fun x3=>(aa xc i2).bind fun x4=>(app l1 (([(x3.1,x4.1,xd,IntKind.wrap .i64 (xe + i2),false)]:List Tq7))).bind fun z5=>(aa xc i2).bind fun x6=>cond (x6.2) ((aa xc i2).bind fun x7=>(aa xb i2).bind fun x8=>(app z5 (([(x7.1,x8.1,xd,IntKind.wrap .i64 (xe + i2),true)]:List Tq7))).bind fun z9=>some (.inl ((z9,IntKind.wrap .i64 (i2 + 1))))) (some (.inl ((z5,IntKind.wrap .i64 (i2 + 1)))))) (some (.inr (l1)))
def iN (xb:Tq4) (xc:Tq4) (xd:Int) (xe:Int) (qxa:(List Tq7)):Option ((List Tq7)) :=
 (loop (nv xb xc xd xe) (qxa,0)).bind fun l1=>some (l1)
def Gj:Hn Tryz.prog := .jn [] ⟨[(0,.own 215 Yq6)],[]⟩ [0] (.lp ⟨[(0,.own 215 Yq6),kdI 11],[]⟩ (.tw 15 (.mix [([0,1,2,3,4,5,6,7,8,9,10,11,12,13,14,15],16)] [] [17,18] [] (.tw 40 (.mix [([0,1,2,3,4,5,6,7,8,9,10,11,12,13,14,15],16)] [] [17,18] [] .nil) .nil)) .nil)) .nil
def Gy:Spec:=⟨156,⟨[(0,.own 215 Yq6),(1,.dat (.sl Yq3)),(2,.dat (.sl Yq3)),kdI 3,kdI 4],[]⟩,[⟨[(0,.own 215 Yq6)],[]⟩],fun x=>iN x.2.1 x.2.2.1 x.2.2.2.1 x.2.2.2.2 x.1⟩
def uE:OkSpec Tryz.prog:=⟨Gy,ah func156 Gj (by kernel_rfl) (by kernel_rfl),call156⟩

def hY (xa:Tq4) (xb:Tq4) (xc:Int) (xd:Int):Option (dH) :=
 (f8 xa xb).bind fun t34=>cond (!t34) (some (([],8))) ((iN xa xb xc xd (([]:List Tq7))).bind fun l45=>some ((l45,0)))
def H9:Hn Tryz.prog := .cl mH [] (.tw 13 .nil (.cl uE [] .nil))
def HO:Spec:=⟨135,⟨[(0,.dat Yq7),(1,.dat Yq7),kdI 2,kdI 3],[]⟩,[⟨[(0,.tup [.own 215 Yq6,.dat Yq2])],[]⟩],fun x=>hY x.1 x.2.1 x.2.2.1 x.2.2.2⟩
def pV:OkSpec Tryz.prog:=⟨HO,ah func135 H9 (by kernel_rfl) (by kernel_rfl),call135⟩
def rH (xa:Tq4) (xc:Bool):(Tq4×Int)→Option ((Tq4×Int)⊕Tq4):=fun (l1,i2)=>cond (decide (i2 < (xa.length:Int))) ((aa xa i2).bind fun x3=>(aa xa i2).bind fun x4=>cond (x4.2) ((app l1 (([(x3.1,true)]:List (Int×Bool)))).bind fun z5=>some (.inl ((z5,IntKind.wrap .i64 (i2 + 1))))) ((app l1 (([(x3.1,xc)]:List (Int×Bool)))).bind fun z6=>some (.inl ((z6,IntKind.wrap .i64 (i2 + 1)))))) (some (.inr (l1)))
def ov (xa:Tq4) (xb:Int) (xc:Bool):Option (Tq4) :=
 (loop (rH xa xc) ((([(xb,false)]:List (Int×Bool)),0))).bind fun l1=>some (l1)
def GL:Hn Tryz.prog := .jn [] ⟨[(7,.own 165 Yq3),(11,.any)],[]⟩ [4] (.lp ⟨[(7,.own 165 Yq3),kdI 8],[]⟩ (.tw 16 (.mix [([0,1,2,3,4,5,6,7,8,9,10,11,12,13,14,15,16],17)] [] [18,19] [] (.two 32 .nil .nil)) .nil)) .nil
def Hk:Spec:=⟨157,⟨[(0,.dat Yq7),kdI 1,kdB 2],[]⟩,[⟨[(0,.agg [.own 165 Yq3])],[]⟩],fun x=>ov x.1 x.2.1 x.2.2⟩
def GP:OkSpec Tryz.prog:=⟨Hk,ah func157 GL (by kernel_rfl) (by kernel_rfl),call157⟩

def oc (xa:Tq4) (xb:Tq4) (xc:Int) (xd:Bool):Option (dH) :=
 (ov xa xc xd).bind fun l1=>(f8 l1 xb).bind fun t2=>cond (!t2) (some (([],8))) ((aa xb 0).bind fun x3=>(subL xb 1 (xb.length:Int)).bind fun y4=>(iN xa y4 1 1 (([(xc,x3.1,2,0,false)]:List Tq7))).bind fun l5=>some ((l5,0)))
def Hg:Hn Tryz.prog := .mix [([0,1,2,4],3)] [] [5,6] [] (.cl GP [] (.cl mH [4] (.tw 17 .nil (.mix [] [0,1,2,3,4,5] [6,7,8] [] (.cl uE [] .nil)))))
def HC:Spec:=⟨136,⟨[(0,.dat Yq7),(1,.dat Yq7),kdI 2,kdB 3],[]⟩,[⟨[(0,.tup [.own 215 Yq6,.dat Yq2])],[]⟩],fun x=>oc x.1 x.2.1 x.2.2.1 x.2.2.2⟩
def HE:OkSpec Tryz.prog:=⟨HC,ah func136 Hg (by kernel_rfl) (by kernel_rfl),call136⟩
def iS (xa:Tq4) (xd:Bool):Int→Option (Int⊕(Unit⊕dH)):=fun i1=>cond (decide (i1 < (xa.length:Int))) ((cond (xd) ((aa xa i1).bind fun x2=>some (!x2.2)) (some (false))).bind fun t3=>cond (t3) (some (.inr ((.inr (([],8)))))) (some (.inl (IntKind.wrap .i64 (i1 + 1))))) (some (.inr ((.inl ()))))
def n6 (xa:Tq4) (xb:Tq4) (xc:Int) (xd:Bool):Option (dH) :=
 (cond (decide ((xa.length:Int)=0)) (some (true)) ((f8 xa xb).bind fun t1=>some (!t1))).bind fun t2=>(cond (t2) (some (true)) ((aa xa 0).bind fun x3=>some (x3.2))).bind fun t4=>cond (t4) (some (([],8))) ((loop (iS xa xd) 1).bind fun o=>match o with | .inr r=>some r | .inl ()=>(aa xa 0).bind fun x5=>(aa xb 0).bind fun x6=>(subL xa 1 (xa.length:Int)).bind fun y7=>(subL xb 1 (xb.length:Int)).bind fun y8=>(iN y7 y8 1 1 (([(x5.1,xc,3,0,false),(xc,x6.1,2,0,false)]:List Tq7))).bind fun l9=>some ((l9,0)))
def Gc:Hn Tryz.prog := .gj 4 ⟨[kdB 21],[]⟩ [] (.two 16 .nil (.cl mH [] .nil)) (.wt 22 (.gj 5 ⟨[kdB 28],[]⟩ [] (.two 22 .nil .nil) (.tw 28 .nil (.jx [] ⟨[],[]⟩ [] (.lp ⟨[kdI 10],[]⟩ (.tw 33 (.gj 7 ⟨[kdB 45],[]⟩ [] (.two 37 .nil .nil) (.tw 45 .nil .nil)) .nil)) (.mix [([0,1,2,3,4,5,6,7,8,9,10,11,12,13],14)] [15] [] [] (.mix [] [0,1,2,3,4,5,6] [7,8,9] [] (.cl uE [] .nil)))))))
def HF:Spec:=⟨137,⟨[(0,.dat Yq7),(1,.dat Yq7),kdI 2,kdB 3],[]⟩,[⟨[(0,.tup [.own 215 Yq6,.dat Yq2])],[]⟩],fun x=>n6 x.1 x.2.1 x.2.2.1 x.2.2.2⟩
def GS:OkSpec Tryz.prog:=⟨HF,ah func137 Gc (by kernel_rfl) (by kernel_rfl),call137⟩

def hO (xa:Tq7) (xb:(List Tq4)) (xc:Int):Option (dH) :=
 (ol (xa.1,xa.2.1,xa.2.2.1,xa.2.2.2.1,xa.2.2.2.2)).bind fun t1=>cond (!t1) (some (([],3))) ((lD xa.1).bind fun t2=>(cond (t2&&((decide (xa.2.1 < 0))||(decide ((xb.length:Int)≤xa.2.1)))) (some (true)) ((lF xa.1).bind fun t3=>some (t3&&((decide (xa.2.2.1 < 0))||(decide ((xb.length:Int)≤xa.2.2.1)))))).bind fun t4=>(cond (t4) (some (true)) ((k7 xa.1).bind fun t5=>some (t5&&((decide (xa.2.2.2.1 < 0))||(decide (xc≤xa.2.2.2.1)))))).bind fun t6=>cond (t6) (some (([],7))) (cond (decide (xa.1=1)) ((aa xb xa.2.2.1).bind fun x7=>(aa xb xa.2.1).bind fun x8=>(hY x7 x8 1 0).bind fun (l9,i10)=>some ((l9,i10))) (cond (decide (xa.1=2)) ((aa xb xa.2.2.1).bind fun x11=>(aa xb xa.2.1).bind fun x12=>(oc x11 x12 xa.2.2.2.1 xa.2.2.2.2).bind fun (l13,i14)=>some ((l13,i14))) (cond (decide (xa.1=3)) ((aa xb xa.2.2.1).bind fun x15=>(aa xb xa.2.1).bind fun x16=>(n6 x15 x16 xa.2.2.2.1 xa.2.2.2.2).bind fun (l17,i18)=>some ((l17,i18))) (some (([],0)))))))
def HG:Hn Tryz.prog := .cl G4 [] (.tw 10 .nil (.cl zK [] (.gp 10 (.wt 26 (.gj 15 ⟨[kdB 42],[]⟩ [] (.two 26 .nil (.cl zY [] (.wt 30 (.gp 10 .nil)))) (.wt 43 (.gj 14 ⟨[kdB 58],[]⟩ [] (.two 43 .nil (.cl zX [] (.wt 47 (.gp 9 .nil)))) (.tw 58 .nil (.tw 61 (.mix [([0,1,2,3,4,5,6,7,8,9],10)] [11,12,13,14] [] [] (.cl pV [] .nil)) (.tw 77 (.mix [([0,1,2,3,4,5,6,7,8,9,10,11,12,13],14)] [15,16,17,18] [] [] (.cl HE [] .nil)) (.tw 97 (.mix [([0,1,2,3,4,5,6,7,8,9,10,11,12,13],14)] [15,16,17,18] [] [] (.cl GS [] .nil)) .nil)))))))))))
def GJ:Spec:=⟨111,⟨[(0,.dat Yq6),(1,.dat (.sl Yq7)),kdI 2],[]⟩,[⟨[(0,.tup [.own 215 Yq6,.dat Yq2])],[]⟩],fun x=>hO x.1 x.2.1 x.2.2⟩
def HR:OkSpec Tryz.prog:=⟨GJ,ah func111 HG (by kernel_rfl) (by kernel_rfl),call111⟩

def lu (xa:gS):Option Int :=
 cond ((decide (xa.1 < 1))||(decide (4 < xa.1))) (some (3)) (cond (((((decide (xa.1=1))||(decide (xa.1=4)))&&(!decide ((xa.2.2.2.1.length:Int)=1)))||((decide (xa.1=2))&&(decide ((xa.2.2.2.1.length:Int)=0))))||((decide (xa.1=3))&&(!decide ((xa.2.2.2.1.length:Int)=0)))) (some (3)) (cond ((!decide (xa.1=4))&&(((!decide (xa.2.1=0))||(!decide (xa.2.2.1=0)))||(!decide ((xa.2.2.2.2.2.length:Int)=0)))) (some (3)) (cond (((decide (xa.1=1))||(decide (xa.1=3)))&&(!decide ((xa.2.2.2.2.1.length:Int)=0))) (some (3)) (cond (((decide (16 < (xa.2.2.2.1.length:Int)))||(decide (16 < (xa.2.2.2.2.1.length:Int))))||(decide (16 < (xa.2.2.2.2.2.length:Int)))) (some (6)) (some (0))))))
def GR:Hn Tryz.prog := .gp 3 (.tw 10 .nil (.gp 3 (.wt 19 (.gp 4 (.wt 25 (.gp 9 (.wt 36 (.gp 9 (.tw 46 .nil (.gp 14 (.tw 65 .nil (.gp 3 (.wt 74 (.gp 4 (.tw 79 .nil (.gp 4 (.wt 90 (.gp 4 (.tw 95 .nil .nil)))))))))))))))))))
def G8:Spec:=⟨138,⟨[(0,.dat Yq4)],[]⟩,[⟨[kdI 0],[]⟩],fun x=>lu x⟩
def Hy:OkSpec Tryz.prog:=⟨G8,ah func138 GR (by kernel_rfl) (by kernel_rfl),call138⟩
def nD (xa:(List Int)) (xb:Int):Int→Option (Int⊕(Unit⊕Bool)):=fun i1=>cond (decide (i1 < (xa.length:Int))) ((aa xa i1).bind fun x2=>(cond (decide (x2 < 0)) (some (true)) ((aa xa i1).bind fun x3=>some (decide (xb≤x3)))).bind fun t4=>cond (t4) (some (.inr ((.inr (false))))) (some (.inl (IntKind.wrap .i64 (i1 + 1))))) (some (.inr ((.inl ()))))
def eG (xa:(List Int)) (xb:Int):Option Bool :=
 (loop (nD xa xb) 0).bind fun o=>match o with | .inr r=>some r | .inl ()=>some (true)
def F7:Hn Tryz.prog := .jx [] ⟨[],[]⟩ [] (.lp ⟨[kdI 5],[]⟩ (.tw 9 (.gj 6 ⟨[kdB 24],[]⟩ [] (.two 17 .nil .nil) (.tw 24 .nil .nil)) .nil)) .nil
def F9:Spec:=⟨139,⟨[(0,.dat (.sl Yq2)),kdI 1],[]⟩,[⟨[kdB 0],[]⟩],fun x=>eG x.1 x.2⟩
def mE:OkSpec Tryz.prog:=⟨F9,ah func139 F7 (by kernel_rfl) (by kernel_rfl),call139⟩
def kI (xa:Tq4) (xb:(List Int)):(Tq4×Int)→Option ((Tq4×Int)⊕(Tq4⊕(Tq4×Int))):=fun (l1,i2)=>cond (decide (i2 < (xa.length:Int))) ((aa xa i2).bind fun x3=>cond ((decide (x3.1 < 0))||(decide ((xb.length:Int)≤x3.1))) (some (.inr ((.inr (([],7)))))) ((aa xb x3.1).bind fun x4=>(aa xa i2).bind fun x5=>(app l1 (([(x4,x5.2)]:List (Int×Bool)))).bind fun z6=>some (.inl ((z6,IntKind.wrap .i64 (i2 + 1)))))) (some (.inr (.inl l1)))
def lk (xa:Tq4) (xb:(List Int)):Option ((Tq4×Int)) :=
 (loop (kI xa xb) ((([]:List (Int×Bool)),0))).bind fun o=>match o with | .inr r=>some r | .inl l1=>some ((l1,0))
def G5:Hn Tryz.prog := .jx [] ⟨[(6,.own 165 Yq3),(9,.any)],[bkC 2 27 [.nils]]⟩ [4,2] (.lp ⟨[(6,.own 165 Yq3),kdI 7],[bkC 2 27 [.nils]]⟩ (.tw 14 (.gp 4 (.tw 30 .nil (.mix [([0,1,2,3,4,5,6,7,8,9,10,11],12)] [] [13,14] [] .nil))) .nil)) .nil
def Ia:Spec:=⟨158,⟨[(0,.dat Yq7),(1,.dat (.sl Yq2))],[]⟩,[⟨[(0,.tup [.agg [.own 165 Yq3],.dat Yq2])],[]⟩],fun x=>lk x.1 x.2⟩
def zB:OkSpec Tryz.prog:=⟨Ia,ah func158 G5 (by kernel_rfl) (by kernel_rfl),call158⟩
def nQ (xa:Tq3) (xb:(List Int)):dH→Option (dH⊕(List Tq7)):=fun (l1,i2)=>cond (decide (i2 < (xa.2.1.length:Int))) ((aa xa.2.1 i2).bind fun x3=>(aa xb x3.1).bind fun x4=>(aa xa.2.1 i2).bind fun x5=>(aa xb x5.2).bind fun x6=>(app l1 (([(x4,x6,4,i2,false)]:List Tq7))).bind fun z7=>some (.inl ((z7,IntKind.wrap .i64 (i2 + 1))))) (some (.inr (l1)))
def kO (xa:Tq3) (xb:(List Int)) (xc:(List Tq4)):dH→Option (dH⊕((List Tq7)⊕dH)):=fun (l1,i2)=>cond (decide (i2 < (xa.2.2.1.length:Int))) ((aa xa.2.2.1 i2).bind fun x3=>(lk x3 xb).bind fun (l4,i5)=>(aa xc i2).bind fun x6=>(hY x6 l4 5 (IntKind.wrap .i64 (16 * i2))).bind fun (l7,i8)=>cond (!decide (i8=0)) (some (.inr ((.inr (([],i8)))))) ((app l1 l7).bind fun z9=>some (.inl ((z9,IntKind.wrap .i64 (i2 + 1)))))) (some (.inr (.inl l1)))
def lx (xa:Tq3) (xb:(List Int)) (xc:(List Tq4)) (xd:Tq4):Option (dH) :=
 (hI (xa.1,xa.2.1,xa.2.2.1,xa.2.2.2)).bind fun i1=>cond (!decide (i1=0)) (some (([],i1))) (cond ((!decide ((xb.length:Int)=xa.1))||(!decide ((xc.length:Int)=(xa.2.2.1.length:Int)))) (some (([],2))) ((loop (nQ xa xb) ((([]:List Tq7),0))).bind fun l2=>(loop (kO xa xb xc) (l2,0)).bind fun o=>match o with | .inr r=>some r | .inl l3=>(lk xa.2.2.2 xb).bind fun (l4,i5)=>(hY l4 xd 6 0).bind fun (l6,i7)=>cond (!decide (i7=0)) (some (([],i7))) ((app l3 l6).bind fun z8=>some ((z8,0)))))
def Ie:Hn Tryz.prog := .cl Ab [] (.tw 25 .nil (.gp 6 (.tw 39 .nil (.jn [] ⟨[(11,.own 215 Yq6),(40,.any)],[]⟩ [4] (.lp ⟨[(11,.own 215 Yq6),kdI 12],[]⟩ (.tw 45 (.mix [([0,1,2,3,4,5,6,7,8,9,10,11,12,13,14,15,16,17,18,19,20],21)] [] [22,23] [] .nil) .nil)) (.jx [] ⟨[(11,.own 215 Yq6)],[]⟩ [6] (.lp ⟨[(11,.own 215 Yq6),kdI 13],[]⟩ (.tw 75 (.cl zB [] (.per 10 11 (.mix [([0,1,2,3,4,5,6],7)] [8,9,10,11,12] [] [] (.cl pV [] (.tw 100 .nil .nil))))) .nil)) (.cl zB [] (.per 10 11 (.cl pV [] (.tw 119 .nil .nil)))))))))
def GN:Spec:=⟨140,⟨[(0,.dat Yq9),(1,.dat (.sl Yq2)),(2,.dat (.sl Yq7)),(3,.dat Yq7)],[]⟩,[⟨[(0,.tup [.own 215 Yq6,.dat Yq2])],[]⟩],fun x=>lx x.1 x.2.1 x.2.2.1 x.2.2.2⟩
def Hi:OkSpec Tryz.prog:=⟨GN,ah func140 Ie (by kernel_rfl) (by kernel_rfl),call140⟩
def kH (xa:gS) (xb:(Int×Int×(List Tq4)×Tq4×(List Tq3))):((List Tq4)×Int)→Option (((List Tq4)×Int)⊕(List Tq4)):=fun (l1,i2)=>cond (decide (i2 < (xa.2.2.2.2.1.length:Int))) ((aa xa.2.2.2.2.1 i2).bind fun x3=>(aa xb.2.2.1 x3).bind fun x4=>(app l1 (([x4]:List Tq4))).bind fun z5=>some (.inl ((z5,IntKind.wrap .i64 (i2 + 1))))) (some (.inr (l1)))
def g9 (xa:gS) (xb:(Int×Int×(List Tq4)×Tq4×(List Tq3))):Option (dH) :=
 (lu (xa.1,xa.2.1,xa.2.2.1,xa.2.2.2.1,xa.2.2.2.2.1,xa.2.2.2.2.2)).bind fun i1=>cond (!decide (i1=0)) (some (([],i1))) ((eG xa.2.2.2.1 xb.1).bind fun t2=>(cond (!t2) (some (true)) ((eG xa.2.2.2.2.1 (xb.2.2.1.length:Int)).bind fun t3=>some (!t3))).bind fun t4=>(cond (t4) (some (true)) ((eG xa.2.2.2.2.2 xb.2.1).bind fun t5=>some (!t5))).bind fun t6=>cond (t6) (some (([],7))) ((cond (decide (xa.1=4)) ((eG ([xa.2.2.1]:List Int) (xb.2.2.1.length:Int)).bind fun t7=>(cond (!t7) (some (true)) ((eG ([xa.2.1]:List Int) (xb.2.2.2.2.length:Int)).bind fun t8=>some (!t8))).bind fun t9=>some (t9)) (some (false))).bind fun t10=>cond (t10) (some (([],7))) (cond ((decide (xa.1=3))&&(decide ((xb.2.2.1.length:Int)=0))) (some (([],14))) (cond (decide (xa.1=3)) ((aa xb.2.2.1 0).bind fun x11=>(hY x11 xb.2.2.2.1 7 0).bind fun (l12,i13)=>some ((l12,i13))) (cond (decide (xa.1=4)) ((loop (kH xa xb) ((([]:List Tq4),0))).bind fun l14=>(aa xb.2.2.2.2 xa.2.1).bind fun x15=>(aa xb.2.2.1 xa.2.2.1).bind fun x16=>(lx (x15.1,x15.2.1,x15.2.2.1,x15.2.2.2) xa.2.2.2.2.2 l14 x16).bind fun (l17,i18)=>some ((l17,i18))) (some (([],0))))))))
def Gr:Hn Tryz.prog := .cl Hy [] (.tw 12 .nil (.cl mE [] (.gj 7 ⟨[kdB 28],[]⟩ [] (.two 20 .nil (.cl mE [] .nil)) (.wt 29 (.gj 6 ⟨[kdB 36],[]⟩ [] (.two 29 .nil (.cl mE [] .nil)) (.tw 36 .nil (.gj 18 ⟨[kdB 59],[]⟩ [] (.two 40 (.cl mE [4] (.wt 49 (.gj 8 ⟨[kdB 58],[]⟩ [] (.two 49 .nil (.cl mE [6] .nil)) .nil))) .nil) (.tw 59 .nil (.gp 4 (.tw 68 .nil (.tw 71 (.mix [([0,1,2,3,4,5],6)] [7,8,9,10] [] [] (.cl pV [] .nil)) (.tw 83 (.jn [] ⟨[(7,.own 27 Yq7),(84,.any)],[]⟩ [4] (.lp ⟨[(7,.own 27 Yq7),kdI 8],[]⟩ (.tw 89 (.mix [([0,1,2,3,4,5,6,7,8,9],10)] [] [11,12] [] .nil) .nil)) (.mix [([0,1,2,3,4,5,6,7,8,9,10,11,12,13,14],15)] [16,17,18,19] [] [6] (.per 6 7 (.cl Hi [] .nil)))) .nil))))))))))))
def HQ:Spec:=⟨112,⟨[(0,.dat Yq4),(1,.dat (.cons Yq2 (.cons Yq2 (.cons (.sl Yq7) (.cons Yq7 (.one (.sl Yq9)))))))],[]⟩,[⟨[(0,.tup [.own 215 Yq6,.dat Yq2])],[]⟩],fun x=>g9 x.1 x.2⟩
def Gn:OkSpec Tryz.prog:=⟨HQ,ah func112 Gr (by kernel_rfl) (by kernel_rfl),call112⟩
def kC (xa:Tq1):aT→Option (aT⊕(Unit⊕cA)):=fun (i1,i2)=>cond (decide (i2 < (xa.2.2.2.2.2.2.length:Int))) ((aa xa.2.2.2.2.2.2 i2).bind fun x3=>cond (decide (65536 < (IntKind.wrap .i64 (i1 + (x3.1.length:Int))))) (some (.inr ((.inr ((6,5,i2,0)))))) (some (.inl ((IntKind.wrap .i64 (i1 + (x3.1.length:Int)),IntKind.wrap .i64 (i2 + 1)))))) (some (.inr ((.inl ()))))
def nE (xa:Tq1) (i1:Int) (x2:Tq2):Int→Option (Int⊕(Unit⊕(Int⊕(Unit⊕cA)))):=fun i3=>cond (decide (i3 < (x2.1.length:Int))) ((aa x2.1 i3).bind fun x4=>(hO (x4.1,x4.2.1,x4.2.2.1,x4.2.2.2.1,x4.2.2.2.2) xa.2.2.2.1 xa.2.1).bind fun (l5,i6)=>cond (!decide (i6=0)) (some (.inr ((.inr (.inr ((.inr ((i6,6,i1,i3))))))))) (some (.inl (IntKind.wrap .i64 (i3 + 1))))) (some (.inr ((.inl ()))))
def nF (xa:Tq1):Int→Option (Int⊕(Unit⊕cA)):=fun i1=>cond (decide (i1 < (xa.2.2.2.2.2.2.length:Int))) ((aa xa.2.2.2.2.2.2 i1).bind fun x2=>(loop (nE xa i1 x2) 0).bind fun o=>match o with | .inr r=>some r | .inl ()=>(aa xa.2.2.2.2.2.2 i1).bind fun x3=>(g9 (x3.2.1,x3.2.2.1,x3.2.2.2.1,x3.2.2.2.2.1,x3.2.2.2.2.2.1,x3.2.2.2.2.2.2) (((xa.2.2.2.2.2.2.length:Int),xa.2.1,xa.2.2.2.1,xa.2.2.2.2.1,xa.2.2.2.2.2.1))).bind fun (l4,i5)=>cond (!decide (i5=0)) (some (.inr ((.inr ((i5,7,i1,0)))))) (some (.inl (IntKind.wrap .i64 (i1 + 1))))) (some (.inr ((.inl ()))))
def kY (xa:Tq1):Option cA :=
 cond (decide ((xa.2.2.2.2.2.2.length:Int)=0)) (some ((14,5,0,0))) (cond (decide (65536 < (xa.2.2.2.2.2.2.length:Int))) (some ((6,5,0,0))) ((loop (kC xa) (0,0)).bind fun o=>match o with | .inr r=>some r | .inl ()=>(loop (nF xa) 0).bind fun o=>match o with | .inr r=>some r | .inl ()=>some ((0,0,0,0))))
def H3:Hn Tryz.prog := .tw 16 .nil (.tw 21 .nil (.jx [] ⟨[],[bkC 2 86 [.lit (.int .i64 0),.lit (.int .i64 0),.lit (.int .i64 0),.lit (.int .i64 0)]]⟩ [2] (.lp ⟨[kdI 3,kdI 4],[bkC 2 86 [.lit (.int .i64 0),.lit (.int .i64 0),.lit (.int .i64 0),.lit (.int .i64 0)]]⟩ (.tw 27 (.tw 40 .nil .nil) .nil)) (.jx [] ⟨[],[bkC 2 86 [.lit (.int .i64 0),.lit (.int .i64 0),.lit (.int .i64 0),.lit (.int .i64 0)]]⟩ [2] (.lp ⟨[kdI 6],[bkC 2 86 [.lit (.int .i64 0),.lit (.int .i64 0),.lit (.int .i64 0),.lit (.int .i64 0)]]⟩ (.tw 59 (.pl (.pl (.jx [] ⟨[],[bkC 2 86 [.lit (.int .i64 0),.lit (.int .i64 0),.lit (.int .i64 0),.lit (.int .i64 0)]]⟩ [2] (.lp ⟨[kdI 8],[bkC 2 86 [.lit (.int .i64 0),.lit (.int .i64 0),.lit (.int .i64 0),.lit (.int .i64 0)]]⟩ (.tw 71 (.mix [([0,1,2,3,4,5,6,7],8)] [9,10,11,12,13] [] [] (.cl HR [] (.tw 87 .nil .nil))) .nil)) (.mix [([0,1,2,3,4,5,6],7)] [8,9,10,11,12] [] [] (.cl Gn [] (.tw 104 .nil .nil)))))) .nil)) .nil)))
def GF:Spec:=⟨83,⟨[(0,.dat Yq1)],[]⟩,[⟨[(0,.agg [.dat Yq2,.dat Yq2,.dat Yq2,.dat Yq2])],[]⟩],fun x=>kY x⟩
def Hr:OkSpec Tryz.prog:=⟨GF,ah func83 H3 (by kernel_rfl) (by kernel_rfl),call83⟩

def lg (xa:Tq1):Option cA :=
 (lr xa).bind fun (i42,i43,i44,i45)=>cond (!decide (i42=0)) (some ((i42,i43,i44,i45))) ((lf xa).bind fun (i53,i54,i55,i56)=>cond (!decide (i53=0)) (some ((i53,i54,i55,i56))) ((kY xa).bind fun (i63,i65,i66,i67)=>some ((i63,i65,i66,i67))))
def Hw:Hn Tryz.prog := .cl Gd [] (.tw 8 .nil (.cl G1 [] (.tw 14 .nil (.cl Hr [] .nil))))
def Gi:Spec:=⟨41,⟨[(0,.dat Yq1)],[]⟩,[⟨[(0,.agg [.dat Yq2,.dat Yq2,.dat Yq2,.dat Yq2])],[]⟩],fun x=>lg x⟩
def Gh:OkSpec Tryz.prog:=⟨Gi,ah func41 Hw (by kernel_rfl) (by kernel_rfl),call41⟩

def lI (xa:Tq1):Option Bool :=
 (lg xa).bind fun (i15,i17,i18,i19)=>some (decide (i15=0))
def HI:Hn Tryz.prog := .cl Gh [] .nil
def Gq:Spec:=⟨17,⟨[(0,.dat Yq1)],[]⟩,[⟨[kdB 0],[]⟩],fun x=>lI x⟩
def GV:OkSpec Tryz.prog:=⟨Gq,ah func17 HI (by kernel_rfl) (by kernel_rfl),call17⟩
def kv (xa:(Tq1×Tq6)):(Bool×Int)→Option ((Bool×Int)⊕Bool):=fun (t1,i2)=>cond (decide (i2 < (xa.2.length:Int))) ((aa xa.2 i2).bind fun x3=>(ia ((x3.1,(x3.2.1,x3.2.2.1,x3.2.2.2.1,x3.2.2.2.2)))).bind fun s4=>(f9 s4).bind fun l5=>(kL l5).bind fun (i6,i7,i8,i9,i10,i11)=>cond (t1) (cond (decide (i11=0)) ((aa xa.2 i2).bind fun x12=>some (.inl (((decide (i6=x12.1))&&(((decide (i7=x12.2.1))&&((decide (i8=x12.2.2.1))&&((decide (i9=x12.2.2.2.1))&&((decide (i10=x12.2.2.2.2))))))),IntKind.wrap .i64 (i2 + 1))))) (some (.inl ((false,IntKind.wrap .i64 (i2 + 1)))))) (some (.inl ((false,IntKind.wrap .i64 (i2 + 1)))))) (some (.inr (t1)))
def rb (xa:(Tq1×Tq6)):Option Bool :=
 (rK ((xa.1,xa.2))).bind fun t1=>cond (!t1) ((la).bind fun t2=>some (t2)) ((om ((xa.1,xa.2))).bind fun (i3,i4,l5,l6,l7,l8,l9,l10)=>(nZ (((i3,i4,l5,l6,l7,l8,l9),l10))).bind fun s11=>(n9 ((xa.1,xa.2))).bind fun s12=>cond (!decide (s11=s12)) (some (false)) ((loop (kv xa) (true,0)).bind fun t13=>(nY s11).bind fun (i14,i15,l16,l17,l18,l19,l20,l21,i22,i23)=>(n7 s11).bind fun (i24,i25,l26,l27,l28,l29,l30,l31,i32,i33)=>(oq (((i14,i15,l16,l17,l18,l19,l20),l21))).bind fun (i34,i35,l36,l37,l38,l39,l40,l41)=>(jc (((i34,i35,l36,l37,l38,l39,l40),l41)) (((i24,i25,l26,l27,l28,l29,l30),l31))).bind fun t42=>cond (!t42) (some (false)) (cond (!decide (i22=i32)) (some (false)) (cond (!decide (i23=i33)) (some (false)) ((cond (!t13) (some (true)) ((lI xa.1).bind fun t43=>some (!t43))).bind fun t44=>(cond (t44||(!decide (i23=0))) (some (true)) ((jc (((i24,i25,l26,l27,l28,l29,l30),l31)) ((xa.1,xa.2))).bind fun t45=>some (t45))).bind fun t46=>(cond (t46) ((la).bind fun t47=>some (t47)) (some (false))).bind fun t48=>some (t48))))))
def A0:Hn Tryz.prog := .cl oQ3 [] (.tw 16 (.cl vw [] .nil) (.cl Bp [] (.cl Lp [2] (.cl Lu [] (.tw 24 .nil (.jn [] ⟨[kdB 4,(19,.any)],[]⟩ [2] (.lp ⟨[kdB 4,kdI 5],[]⟩ (.tw 29 (.cl AA [] (.cl qM [] (.cl Af [4] (.mix [] [0,1,2,3,4,5,6,7,8,9,10,11,12,13,14] [] [] (.two 44 (.two 48 .nil .nil) .nil))))) .nil)) (.cl Jl [] (.per 10 11 (.per 12 13 (.cl GQ [] (.per 4 5 (.per 6 7 (.per 8 9 (.per 14 15 (.mix [([0,2],1),([],3)] [4,5,6,7,8,9,10,11,12,13,14] [] [] (.cl BC [] (.cl Ad [30,19,21,23,25] (.two 74 .nil (.two 79 .nil (.tw 83 .nil (.gj 4 ⟨[kdB 91],[]⟩ [] (.two 86 .nil (.cl GV [] .nil)) (.wt 92 (.gp 2 (.wt 96 (.gj 3 ⟨[kdB 100],[]⟩ [] (.two 96 .nil (.cl Ad [19,21,23,25] .nil)) (.wt 101 (.gj 1 ⟨[kdB 103],[]⟩ [] (.two 101 (.cl vw [] .nil) .nil) .nil)))))))))))))))))))))))))))
def vm:Spec:=⟨4,⟨[(0,.dat (.cons Yq1 (.one (.sl Yq8))))],[]⟩,[⟨[kdB 0],[]⟩],fun x=>rb x⟩
theorem AY:cw Tryz.prog vm:=ah func4 A0 (by kernel_rfl) (by kernel_rfl)
end
section
section
variable {σ β:Type} {body:σ→Option (σ⊕β)}
theorem cg (st:Nat→σ) (n:Nat) {b:β} (h:∀ k,k < n→body (st k)=some (.inl (st (k + 1)))) (he:body (st n)=some (.inr b)):loop body (st 0)=some b:=by
 have:∀ m k,k + m=n→loop body (st k)=some b:=by
   intro m
   induction m with
   | zero => intro k hk; have : k = n := by omega
             subst this; exact aB he
   | succ m ih=>intro k hk; rw [aQ (h k (by omega))]; exact ih (k + 1) (by omega)
 exact this n 0 (by omega)
theorem aS (p:Nat→Prop):∀ n,(∃ k,k < n∧p k∧∀ j,j < k→¬ p j)∨∀ j,j < n→¬ p j
 | 0 => .inr (fun j hj=>by omega)
 | n + 1=>by
   rcases aS p n with ⟨k,h1,h2,h3⟩ | h
   . exact .inl ⟨k,by omega,h2,h3⟩
   . by_cases hp:p n
     . exact .inl ⟨n,by omega,hp,h⟩
     . exact .inr (fun j hj=>if e:j=n then e ▸ hp else h j (by omega))
theorem gh (p:Nat→Prop) (st:Nat→σ) (n:Nat) (hit:Nat→β) (e:β) (hgo:∀ k,k < n→¬ p k→body (st k)=some (.inl (st (k + 1)))) (hhit:∀ k,k < n→p k→body (st k)=some (.inr (hit k))) (hend:body (st n)=some (.inr e)) :
   (∃ k,k < n∧p k∧(∀ j,j < k→¬ p j)∧loop body (st 0)=some (hit k))∨((∀ j,j < n→¬ p j)∧loop body (st 0)=some e):=by
 rcases aS p n with ⟨k,h1,h2,h3⟩ | h
 . exact .inl ⟨k,h1,h2,h3,cg st k (fun j hj=>hgo j (by omega) (h3 j hj)) (hhit k h1 h2)⟩
 . exact .inr ⟨h,cg st n (fun k hk=>hgo k hk (h k hk)) hend⟩
open Classical in
theorem DN (p:Nat→Prop) (st:Nat→σ) (n:Nat) (b e:β) (hgo:∀ k,k < n→¬ p k→body (st k)=some (.inl (st (k + 1)))) (hhit:∀ k,k < n→p k→body (st k)=some (.inr b)) (hend:body (st n)=some (.inr e)) :
   loop body (st 0)=some (if ∃ k,k < n∧p k then b else e):=by
 rcases gh p st n (fun _=>b) e hgo hhit hend with ⟨k,h1,h2,h3,h4⟩ | ⟨h1,h2⟩
 . rw [if_pos ⟨k,h1,h2⟩]; exact h4
 . rw [if_neg (fun ⟨k,h3,h4⟩=>h1 k h3 h4)]; exact h2
end
theorem w64 {x:Int} (h1 : -9223372036854775808≤x) (h2:x≤9223372036854775807):IntKind.wrap .i64 x=x:=by
 rw [IntWalk.i64_left,IntWalk.wrap64_in _ ⟨h1,h2⟩]
theorem an {k n:Nat} (h:k < n) (hn:n≤9223372036854775807):IntKind.wrap .i64 ((k:Int) + 1)=((k + 1:Nat):Int):=by
 rw [w64 (by omega) (by omega)]; rfl
theorem ai {α:Type} {l:List α} {k:Nat} (h:k < l.length):aa l (k:Int)=some l[k]:=yy rfl h
theorem Cy {α γ:Type} (xa:List α) (f:γ→α→γ) (c0:γ) (hn:xa.length≤9223372036854775807) {body:γ×Int→Option ((γ×Int)⊕γ)}
   (hb:∀ k x,xa[k]? = some x→body ((xa.take k).foldl f c0,(k:Int))=some (.inl (f ((xa.take k).foldl f c0) x,IntKind.wrap .i64 ((k:Int) + 1)))) (he:body (xa.foldl f c0,(xa.length:Int))=some (.inr (xa.foldl f c0))):loop body (c0,0)=some (xa.foldl f c0):=by
 have h:=cg (body:=body) (fun k:Nat=>((xa.take k).foldl f c0,(k:Int))) xa.length (b:=xa.foldl f c0) ?_ ?_
 . simpa using h
 . intro k hk
   rw [hb k xa[k] (by simp [hk]),an hk hn]
   congr 3
   rw [List.take_succ_eq_append_getElem hk,List.foldl_append]; rfl
 . simpa using he
theorem wj {α γ:Type} (g:α→γ) (xa:List α) (c:List γ):xa.foldl (fun c x=>c++[g x]) c=c++xa.map g:=by
 induction xa generalizing c with
 | nil=>simp
 | cons x xa ih=>simp [ih]
theorem DO {α γ:Type} (xa:List α) (g:α→γ) (c0:List γ) (hn:c0.length + xa.length≤1073741824) {body:List γ×Int→Option ((List γ×Int)⊕List γ)}
   (hb:∀ (c:List γ) (i:Int),body (c,i)=cond (decide (i < ((xa.length:Nat):Int))) ((aa xa i).bind fun x=>(app c [g x]).bind fun z=>some (.inl (z,IntKind.wrap .i64 (i + 1)))) (some (.inr c))):loop body (c0,0)=some (c0++xa.map g):=by
 rw [← wj]
 refine Cy xa (fun c x=>c++[g x]) c0 (by omega) (fun k x hx=>?_) ?_
 . have hk:=(List.getElem?_eq_some_iff.1 hx).1
   rw [hb,wj]
   have hx':xa[k]=x:=by rw [List.getElem?_eq_getElem hk] at hx; exact Option.some.inj hx
   have ha:=aj (a:=c0++(xa.take k).map g) (b:=[g x]) (by simp; omega)
   simp only [Option.bind_some,ai hk,hx',ha,Int.ofNat_lt.2 hk,decide_true,cond_true]
 . rw [hb]; simp
end
section
theorem qD {α:Type} {l:List α} {i:Int} (h0:0≤i) (h1:i < (l.length:Nat)):aa l i=some (l[i.toNat]'(by omega)):=by
 unfold aa; rw [if_pos h0]; simp
theorem zU {α:Type} {l:List α} {k:Nat} (h:k + 1 < l.length):aa l ((k:Int) + 1)=some l[k + 1]:=yy rfl h
theorem dlt {k n:Nat} (h:k < n):decide ((k:Int) < (n:Int))=true:=by simp; omega
theorem dge {k n:Nat} (h:¬ k < n):decide ((k:Int) < (n:Int))=false:=by simp; omega
theorem Er {α:Type} [DecidableEq α] (a b:α):(a == b)=decide (a=b):=Bool.beq_eq_decide_eq a b
section
variable {α β γ σ:Type}
theorem dq {body:Int→Option (Int⊕β)} (xa:List α) (t:α→Bool) (hit:Nat→β) (e:β) (hb:∀ (k:Nat) (h:k < xa.length),body (k:Int)=some (if t xa[k] then .inr (hit k) else .inl ((k + 1:Nat):Int))) (he:body (xa.length:Int)=some (.inr e)) :
   loop body 0=some (match xa.findIdx? t with | some k=>hit k | none=>e):=by
 rcases gh (fun k=>∃ h:k < xa.length,t xa[k]=true) (fun k:Nat=>(k:Int)) xa.length hit e (fun k hk hp=>by
     rw [hb k hk,if_neg (fun h=>hp ⟨hk,h⟩)]) (fun k hk ⟨_,hp⟩=>by rw [hb k hk,if_pos hp]) he with ⟨k,h1,⟨_,h2⟩,h3,h4⟩ | ⟨h1,h2⟩
 . rw [show ((0:Int))=((0:Nat):Int) from rfl,h4]
   have:xa.findIdx? t=some k:=by
     rw [List.findIdx?_eq_some_iff_getElem]
     exact ⟨h1,h2,fun j hj=>fun hc=>h3 j hj ⟨by omega,by simpa using hc⟩⟩
   rw [this]
 . rw [show ((0:Int))=((0:Nat):Int) from rfl,h2]
   have:xa.findIdx? t=none:=by
     rw [List.findIdx?_eq_none_iff]
     intro x hx
     obtain ⟨k,hk,rfl⟩:=List.getElem_of_mem hx
     cases hc:t xa[k] with
     | false=>rfl
     | true=>exact absurd ⟨hk,hc⟩ (h1 k hk)
   rw [this]
theorem lW {body:Int→Option (Int⊕β)} (xa:List α) (t:α→Bool) (hit e:β) (hb:∀ (k:Nat) (h:k < xa.length),body (k:Int)=some (if t xa[k] then .inr hit else .inl ((k + 1:Nat):Int))) (he:body (xa.length:Int)=some (.inr e)) :
   loop body 0=some (if xa.any t then hit else e):=by
 rw [dq xa t (fun _=>hit) e hb he]
 cases h:xa.findIdx? t with
 | none =>
   have:xa.any t=false:=by
     rw [List.any_eq_false]; intro x hx; have:=List.findIdx?_eq_none_iff.1 h x hx; simp [this]
   rw [this]; rfl
 | some k =>
   obtain ⟨hk,h1,_⟩:=List.findIdx?_eq_some_iff_getElem.1 h
   have:xa.any t=true:=List.any_eq_true.2 ⟨_,List.getElem_mem hk,h1⟩
   rw [this]; rfl
theorem gg {δ:Type} {body:(γ×Int)→Option ((γ×Int)⊕δ)} (xa:List α) (acc:Nat→γ) (out:δ) (hb:∀ (k:Nat) (h:k < xa.length),body (acc k,(k:Int))=some (.inl (acc (k + 1),((k + 1:Nat):Int)))) (he:body (acc xa.length,(xa.length:Int))=some (.inr out)) :
   loop body (acc 0,0)=some out:=cg (fun k=>(acc k,(k:Int))) xa.length hb he
theorem oB [DecidableEq α] {body:Int→Option (Int⊕β)} (xa xb:List α) (hit e:β) (hl:xa.length=xb.length) (hb:∀ (k:Nat) (h:k < xa.length),body (k:Int)=some (if xa[k]=(xb[k]'(by omega)) then .inl ((k + 1:Nat):Int) else .inr hit)) (he:body (xa.length:Int)=some (.inr e)) :
   loop body 0=some (if xa=xb then e else hit):=by
 rw [dq (List.range xa.length) (fun k=>decide (xa[k]?≠xb[k]?)) (fun _=>hit) e (fun k h=>by
     simp at h
     rw [hb k h]
     have h2:k < xb.length:=by omega
     by_cases hq:xa[k]=xb[k] <;> simp [h,h2,hq]) (by simpa using he)]
 by_cases hq:xa=xb
 . subst hq
   have:(List.range xa.length).findIdx? (fun k=>decide (xa[k]?≠xa[k]?))=none:=by rw [List.findIdx?_eq_none_iff]; simp
   rw [this]; simp
 . cases h:(List.range xa.length).findIdx? (fun k=>decide (xa[k]?≠xb[k]?)) with
   | some k=>simp [hq]
   | none =>
     exfalso; apply hq
     rw [List.findIdx?_eq_none_iff] at h
     apply List.ext_getElem?
     intro k
     by_cases hk:k < xa.length
     . simpa using h k (List.mem_range.2 hk)
     . rw [List.getElem?_eq_none (by omega),List.getElem?_eq_none (by omega)]
theorem bq {l:List α} {k:Nat} (h:k < l.length):l.take (k + 1)=l.take k++[l[k]]:=List.take_succ_eq_append_getElem h
theorem gN {a b:Nat} (h:a=b):(!decide ((a:Int)=(b:Int)))=false:=by simp [h]
theorem ux {a b:Nat} (h:¬ a=b):(!decide ((a:Int)=(b:Int)))=true:=by simp; omega
end
theorem bW {x:Int} (h:Tp.Ok (.int .i64) x) : -9223372036854775808≤x∧x≤9223372036854775807:=by
 have h':(Lit.int .i64 x).wf=true:=h
 simp only [Lit.wf,IntKind.min,IntKind.max,IntKind.signed,IntKind.bits,Bool.and_eq_true,decide_eq_true_eq] at h'
 simp at h'; omega
theorem jY {α:Type} {l:List α} (h:1≤l.length):subL l 1 ((l.length:Nat):Int)=some (l.drop 1):=by
 rw [b9 (by omega) (by omega) (by omega)]; simp
end
section
namespace Nu
set_option linter.unusedVariables false
set_option linter.unnecessarySimpa false
set_option linter.unusedSimpArgs false
theorem xy {α:Type} {l m:List α} (h:l≠[]):(l++m).head? = l.head?:=by cases l with
 | nil=>exact absurd rfl h
 | cons a l=>rfl
def ch (d:Nat):UInt8:=UInt8.ofNat (48 + d)
theorem tO {d:Nat} (h:d < 10):(ch d).toNat=48 + d:=by unfold ch; simp; omega
def dec (n:Nat):List UInt8:=if h:n < 10 then [ch n] else dec (n / 10)++[ch (n % 10)]
termination_by n
theorem dA {n:Nat} (h:n < 10):dec n=[ch n]:=by rw [dec,dif_pos h]
theorem fO {n:Nat} (h:¬ n < 10):dec n=dec (n / 10)++[ch (n % 10)]:=by rw [dec,dif_neg h]
def text (n:Int):List UInt8:=if n < 0 then [] else dec n.toNat
def bw (c:UInt8):Bool:=decide (48≤c.toNat)&&decide (c.toNat≤57)
def dig (c:UInt8):Nat:=c.toNat - 48
def val (s:List UInt8):Nat:=s.foldl (fun a c=>a * 10 + dig c) 0
theorem su (s:List UInt8) (c:UInt8):val (s++[c])=val s * 10 + dig c:=by simp [val]
def bY (s:List UInt8):Bool:=s.all bw&&(decide (s.length=1)||(decide (1 < s.length)&&!decide (s.head? = some 48)))
def aq (s:List UInt8) (most:Int):Int×Int:=if bY s=true then (if most < (val s:Int) then (0,5) else ((val s:Int),0)) else (0,3)
theorem xP {d:Nat} (h:d < 10):bw (ch d)=true:=by unfold bw; rw [tO h]; simp; omega
theorem zi {d:Nat} (h:d < 10):dig (ch d)=d:=by unfold dig; rw [tO h]; omega
theorem FA {c:UInt8} (h:bw c=true):ch (dig c)=c∧dig c < 10:=by
 unfold bw at h; simp only [Bool.and_eq_true,decide_eq_true_eq] at h
 refine ⟨?_,by unfold dig; omega⟩
 unfold ch dig
 rw [show 48 + (c.toNat - 48)=c.toNat by omega]; simp
theorem pF (n:Nat):dec n≠[]:=by
 by_cases h:n < 10
 . rw [dA h]; simp
 . rw [fO h]; simp
theorem yN (n:Nat):(dec n).all bw=true:=by
 induction n using Nat.strongRecOn with
 | _ n ih =>
   by_cases h:n < 10
   . rw [dA h]; simp [xP h]
   . rw [fO h,List.all_append,ih (n / 10) (by omega)]; simp [xP (show n % 10 < 10 by omega)]
theorem Ex (n:Nat):val (dec n)=n:=by
 induction n using Nat.strongRecOn with
 | _ n ih =>
   by_cases h:n < 10
   . rw [dA h]; simp [val,zi h]
   . rw [fO h,su,ih (n / 10) (by omega),zi (by omega)]; omega
theorem D7 (n:Nat) (h0:n≠0):(dec n).head?≠some 48:=by
 induction n using Nat.strongRecOn with
 | _ n ih =>
   by_cases h:n < 10
   . rw [dA h]
     intro hc
     have h1:=tO h
     simp only [List.head?_cons,Option.some.injEq] at hc
     rw [hc] at h1
     simp at h1; omega
   . rw [fO h,xy (pF _)]
     exact ih (n / 10) (by omega) (by omega)
theorem Cu (n:Nat):bY (dec n)=true:=by
 unfold bY
 rw [yN,Bool.true_and]
 by_cases h:n < 10
 . rw [dA h]; simp
 . have h1:=D7 n (by omega)
   have h2:1 < (dec n).length:=by
     rw [fO h,List.length_append]
     have:=List.length_pos_iff.2 (pF (n / 10))
     simp; omega
   simp [h1,h2]
theorem EZ {s:List UInt8} (hs:s≠[]) (ha:s.all bw=true) (hh:s.head?≠some 48):0 < val s:=by
 have key:∀ (l:List UInt8) (a:Nat),0 < a→0 < l.foldl (fun a c=>a * 10 + dig c) a:=by
   intro l
   induction l with
   | nil=>intro a h; exact h
   | cons c l ih=>intro a h; rw [List.foldl_cons]; exact ih _ (by show 0 < a * 10 + dig c; omega)
 cases s with
 | nil=>exact absurd rfl hs
 | cons c s =>
   unfold val
   rw [List.foldl_cons]
   refine key s _ ?_
   simp only [List.all_cons,Bool.and_eq_true] at ha
   have h1:c≠48:=fun e=>hh (by rw [e]; rfl)
   have h2:=ha.1
   unfold bw at h2; simp only [Bool.and_eq_true,decide_eq_true_eq] at h2
   have h3:c.toNat≠48:=fun e=>h1 (by apply UInt8.toNat_inj.1; rw [e]; rfl)
   unfold dig; omega
theorem E4:∀ (n:Nat) (s:List UInt8),s.length=n→bY s=true→dec (val s)=s:=by
 intro n
 induction n with
 | zero=>intro s hl h; obtain rfl:=List.length_eq_zero_iff.1 hl; simp [bY] at h
 | succ n ih =>
   intro s hl h
   rcases List.eq_nil_or_concat s with rfl | ⟨t,c,rfl⟩
   . simp at hl
   rw [List.concat_eq_append] at *
   unfold bY at h
   simp only [List.all_append,List.all_cons,List.all_nil,Bool.and_true,Bool.and_eq_true] at h
   obtain ⟨⟨h1,h2⟩,h3⟩:=h
   obtain ⟨h4,h5⟩:=FA h2
   rw [su]
   by_cases ht:t=[]
   . subst ht
     rw [show val []=0 from rfl,Nat.zero_mul,Nat.zero_add,dA h5,h4]; rfl
   . have hh:t.head?≠some 48:=by
       have:1 < (t++[c]).length:=by have:=List.length_pos_iff.2 ht; simp; omega
       have h6:¬ (t++[c]).length=1:=by omega
       simp only [h6,this,decide_false,decide_true,Bool.false_or,Bool.true_and,Bool.not_eq_true',decide_eq_false_iff_not] at h3
       rwa [xy ht] at h3
     have hv:=EZ ht h1 hh
     have hn:bY t=true:=by
       unfold bY; rw [h1,Bool.true_and]
       have:=List.length_pos_iff.2 ht
       by_cases h7:t.length=1
       . simp [h7]
       . have:1 < t.length:=by omega
         simp [this,hh]
     rw [fO (by omega),show (val t * 10 + dig c) / 10=val t by omega,show (val t * 10 + dig c) % 10=dig c by omega,ih t (by simpa using hl) hn,h4]
theorem DE {s:List UInt8} (h:bY s=true):text (val s:Int)=s:=by
 unfold text; rw [if_neg (by omega)]; exact E4 _ s rfl h
theorem oz {n:Int} (h:0≤n) (most:Int):aq (text n) most=if most < n then (0,5) else (n,0):=by
 have e:text n=dec n.toNat:=by unfold text; rw [if_neg (by omega)]
 rw [e]; unfold aq
 rw [if_pos (Cu _),Ex,Int.toNat_of_nonneg h]
theorem yc:∀ (k n:Nat),n < 10 ^ (k + 1)→(dec n).length≤k + 1:=by
 intro k
 induction k with
 | zero=>intro n h; rw [dA (by simpa using h)]; simp
 | succ k ih =>
   intro n h
   by_cases hn:n < 10
   . rw [dA hn]; simp
   . rw [fO hn,List.length_append]
     have:=ih (n / 10) (by rw [Nat.pow_succ] at h; omega)
     simp; omega
theorem av {n:Int} (h:n≤9223372036854775807):(text n).length≤19:=by
 unfold text; split
 . simp
 . exact yc 18 _ (by omega)
theorem vO (s:List UInt8) (k:Nat):val (s.take k)≤val s:=by
 have key:∀ (l:List UInt8) (a:Nat),a≤l.foldl (fun a c=>a * 10 + dig c) a:=by
   intro l
   induction l with
   | nil=>intro a; exact Nat.le_refl _
   | cons c l ih=>intro a; rw [List.foldl_cons]; exact Nat.le_trans (by show a≤a * 10 + dig c; omega) (ih _)
 conv=>rhs; rw [← List.take_append_drop k s]
 unfold val
 rw [List.foldl_append]
 exact key _ _
theorem eM {n:Int} {c:UInt8} (hc:bw c=false):c∉text n:=by
 unfold text; split
 . simp
 . intro h
   have:=List.all_eq_true.1 (yN n.toNat) c h
   rw [hc] at this; cases this
theorem oM (c:UInt8):∀ s:List UInt8,Lib.index s [c]=match s.findIdx? (fun x=>decide (x=c)) with | some k=>(k:Int) | none=>-1
 | []=>by simp [Lib.index]
 | b :: l=>by
   unfold Lib.index
   rw [oM c l,List.findIdx?_cons]
   by_cases h:b=c
   . subst h; simp
   . have:([c]:List UInt8).isPrefixOf (b :: l)=false:=by simp [List.isPrefixOf]; exact fun e=>h e.symm
     rw [this]
     simp only [Bool.false_eq_true,if_false,h,decide_false]
     cases hq:l.findIdx? (fun x=>decide (x=c)) with
     | none=>simp
     | some k =>
       have:((k:Int) == -1)=false:=by rw [beq_eq_false_iff_ne]; omega
       simp [this]
theorem E9 (c:UInt8) (s:List UInt8):Lib.cut s [c]=match s.findIdx? (fun x=>decide (x=c)) with | some k=>(s.take k,s.drop (k + 1),true) | none=>(s,[],false):=by
 unfold Lib.cut
 rw [oM]
 cases s.findIdx? (fun x=>decide (x=c)) with
 | none=>simp
 | some k=>simp
def hd (b:UInt8):List (List UInt8)→List (List UInt8)
 | p :: ps=>(b :: p) :: ps
 | []=>[[b]]
def ak (c:UInt8):List UInt8→List (List UInt8)
 | []=>[[]]
 | b :: l=>if b=c then [] :: ak c l else hd b (ak c l)
theorem gf (c b:UInt8) (l:List UInt8):ak c (b :: l)=if b=c then [] :: ak c l else hd b (ak c l):=rfl
theorem lU (c:UInt8):∀ s,ak c s≠[]
 | []=>by simp [ak]
 | b :: l=>by
   rw [gf]; split
   . simp
   . cases ak c l <;> simp [hd]
theorem oE (c:UInt8):∀ (s:List UInt8) (k:Nat),s.findIdx? (fun x=>decide (x=c))=some k→ak c s=s.take k :: ak c (s.drop (k + 1))
 | [],k,h=>by simp at h
 | b :: l,k,h=>by
   rw [List.findIdx?_cons] at h
   rw [gf]
   by_cases hb:b=c
   . subst hb; simp at h; subst h; simp
   . simp only [hb,decide_false,Bool.false_eq_true,if_false] at h ⊢
     cases hq:l.findIdx? (fun x=>decide (x=c)) with
     | none=>rw [hq] at h; simp at h
     | some j =>
       rw [hq] at h; simp at h; subst h
       rw [oE c l j hq]; simp [hd]
theorem lJ (c:UInt8):∀ (s:List UInt8),s.findIdx? (fun x=>decide (x=c))=none→ak c s=[s]
 | [],h=>rfl
 | b :: l,h=>by
   rw [List.findIdx?_cons] at h
   rw [gf]
   by_cases hb:b=c
   . subst hb; simp at h
   . simp only [hb,decide_false,Bool.false_eq_true,if_false] at h ⊢
     cases hq:l.findIdx? (fun x=>decide (x=c)) with
     | none=>rw [lJ c l hq]; rfl
     | some j=>rw [hq] at h; simp at h
theorem vx (c:UInt8):∀ (k:Nat) (s:List UInt8),s.count c=k→Lib.splitK [c] 0 k s=ak c s:=by
 intro k
 induction k with
 | zero =>
   intro s h
   have:s.findIdx? (fun x=>decide (x=c))=none:=by
     rw [List.findIdx?_eq_none_iff]
     intro x hx
     rw [List.count_eq_zero] at h
     simp only [decide_eq_false_iff_not]
     rintro rfl; exact h hx
   rw [lJ c s this]; rfl
 | succ k ih =>
   intro s h
   unfold Lib.splitK
   rw [oM]
   cases hq:s.findIdx? (fun x=>decide (x=c)) with
   | none =>
     rw [List.findIdx?_eq_none_iff] at hq
     have:c∈s:=by rw [← List.count_pos_iff]; omega
     have:=hq c this
     simp at this
   | some j =>
     have:((j:Int) == -1)=false:=by rw [beq_eq_false_iff_ne]; omega
     simp only [this,Bool.false_eq_true,if_false,Int.toNat_natCast,Nat.add_zero,List.length_cons,List.length_nil,Nat.zero_add]
     rw [oE c s j hq]
     have e:(s.drop (j + 1)).count c=k:=by
       obtain ⟨hj,h1,h2⟩:=List.findIdx?_eq_some_iff_getElem.1 hq
       have e1:s=s.take j++s[j] :: s.drop (j + 1):=by rw [List.getElem_cons_drop,List.take_append_drop]
       have e2:(s.take j).count c=0:=by
         rw [List.count_eq_zero]
         intro hm
         obtain ⟨i,hi,e⟩:=List.getElem_of_mem hm
         have hij:i < j:=by rw [List.length_take] at hi; omega
         have:=h2 i hij
         rw [List.getElem_take] at e
         simp [e] at this
       have e3:s[j]=c:=by simpa using h1
       have e4:=congrArg (List.count c) e1
       rw [List.count_append,e2,e3,List.count_cons_self] at e4
       omega
     rw [ih _ e]
theorem oA (c:UInt8):∀ (p s:List UInt8),c∉p→ak c (p++c :: s)=p :: ak c s
 | [],s,h=>by simp [ak]
 | b :: p,s,h=>by
   have hb:b≠c:=fun e=>h (by simp [e])
   rw [List.cons_append,gf,if_neg hb,oA c p s (fun e=>h (by simp [e]))]; rfl
theorem wc (c:UInt8) (p:List UInt8) (h:c∉p):ak c p=[p]:=by
 refine lJ c p ?_
 rw [List.findIdx?_eq_none_iff]
 intro x hx
 simp only [decide_eq_false_iff_not]
 rintro rfl; exact h hx
def ae (c:UInt8):List (List UInt8)→List UInt8
 | []=>[]
 | p :: ps=>p++ps.flatMap (c :: ·)
theorem w6 (c:UInt8) (l:List (List UInt8)) (x:List UInt8):ae c (l++[x])=if l=[] then x else ae c l++c :: x:=by
 cases l with
 | nil=>simp [ae]
 | cons p ps=>simp [ae]
theorem jh (c:UInt8) (p q:List UInt8) (ps:List (List UInt8)):ae c (p :: q :: ps)=p++c :: ae c (q :: ps):=by simp [ae]
theorem lK (c:UInt8):∀ (l:List (List UInt8)),l≠[]→(∀ p∈l,c∉p)→ak c (ae c l)=l
 | [],h,_=>absurd rfl h
 | [p],_,h=>by simp only [ae,List.flatMap_nil,List.append_nil]; exact wc c p (h p (by simp))
 | p :: q :: ps,_,h=>by
   rw [jh,oA c p _ (h p (by simp)),lK c (q :: ps) (by simp) (fun x hx=>h x (by simp at hx ⊢; exact .inr hx))]
theorem rX (c:UInt8):∀ (s:List UInt8),ae c (ak c s)=s
 | []=>rfl
 | b :: l=>by
   have ih:=rX c l
   rw [gf]
   by_cases hb:b=c
   . subst hb
     rw [if_pos rfl]
     cases hq:ak b l with
     | nil=>exact absurd hq (lU b l)
     | cons p ps=>rw [jh,← hq,ih]; rfl
   . rw [if_neg hb]
     cases hq:ak c l with
     | nil=>exact absurd hq (lU c l)
     | cons p ps =>
       rw [hq] at ih
       simp only [ae,hd] at ih ⊢
       rw [List.cons_append,ih]
theorem sb (c:UInt8):∀ (l:List (List UInt8)),Lib.join l [c]=ae c l
 | []=>by simp [Lib.join,ae]
 | [p]=>by simp [Lib.join,ae,List.intercalate]
 | p :: q :: ps=>by
   have ih:=sb c (q :: ps)
   rw [jh,← ih]
   simp [Lib.join,List.intercalate]
def lst (l:List Int):List UInt8:=ae 44 (l.map text)
end Nu
end
open Go.RowKit
theorem CH (xa xb:List Int) (hn:xa.length≤1073741824):hZ xa xb=some (decide (xa=xb)):=by
 unfold hZ
 by_cases hl:xa.length=xb.length
 . rw [gN hl,cond_false,oB (body:=nX xa xb) xa xb (.inr false) (.inl ()) hl ?_ ?_]
   . by_cases h:xa=xb <;> simp [h]
   . intro k h; unfold nX
     have h2:k < xb.length:=by omega
     by_cases q:xa[k]=xb[k] <;> simp [ai h,ai h2,h,q,an h (by omega)]
   . simp [nX]
 . rw [ux hl,cond_true]
   have:¬ xa=xb:=fun h=>hl (by rw [h])
   simp [this]
set_option linter.unnecessarySimpa false
set_option linter.unusedSimpArgs false
section
open Go.RowKit Nu
theorem zo (c:UInt8) (h:bw c=true):IntKind.wrap .i64 (IntKind.wrap .u8 (((c.toNat:Nat):Int) - 48))=(dig c:Int)∧dig c < 10:=by
 unfold bw at h; simp only [Bool.and_eq_true,decide_eq_true_eq] at h
 have e:IntKind.wrap .u8 (((c.toNat:Nat):Int) - 48)=(((c.toNat:Nat):Int) - 48) % 256:=IntKind.wrap_u8' _
 have e2:(((c.toNat:Nat):Int) - 48) % 256=((c.toNat:Nat):Int) - 48:=Int.emod_eq_of_lt (by omega) (by omega)
 rw [e,e2,w64 (by omega) (by omega)]
 unfold dig; omega
theorem yU {s:List UInt8} (h:bY s=true):s.all bw=true:=by unfold bY at h; rw [Bool.and_eq_true] at h; exact h.1
theorem Hl {s:List UInt8} (h:bY s=true):s≠[]:=by rintro rfl; simp [bY] at h
theorem xM {s:List UInt8} {k:Nat} (h:k < s.length):val (s.take (k + 1))=val (s.take k) * 10 + dig s[k]:=by rw [bq h,su]
theorem Ft (c:UInt8):(decide ((((c.toNat:Nat):Int)) < 48)||decide (57 < (((c.toNat:Nat):Int)))) = !bw c:=by
 unfold bw
 rw [Bool.eq_iff_iff]
 simp only [Bool.or_eq_true,decide_eq_true_eq,Bool.not_eq_true',Bool.and_eq_false_iff,decide_eq_false_iff_not]; omega
theorem yn {s:List UInt8} {β:Type} {body:Int→Option (Int⊕β)} (hit e:β) (hn:s.length≤1000000)
   (hb:∀ i:Int,body i=cond (decide (i < (((s.length:Nat):Int)))) ((aa s i).bind fun x=>(cond (decide ((((x.toNat:Nat):Int)) < 48)) (some (true)) ((aa s i).bind fun x=>some (decide (57 < (((x.toNat:Nat):Int)))))).bind fun t=>cond (t) (some (.inr hit)) (some (.inl (IntKind.wrap .i64 (i + 1))))) (some (.inr e))) :
   loop body 0=some (if s.all bw then e else hit):=by
 have h:=lW (body:=body) s (fun c=>!bw c) hit e (fun k hk=>by
   rw [hb,dlt hk,cond_true,ai hk,Option.bind_some,an hk (by omega)]
   rw [← Ft]
   by_cases h1:(((s[k].toNat:Nat):Int)) < 48
   . simp only [h1,decide_true,cond_true,Option.bind_some,Bool.true_or,if_true]
   . simp only [h1,decide_false,cond_false,Option.bind_some,Bool.false_or]
     by_cases h2:57 < (((s[k].toNat:Nat):Int)) <;> simp [h2]) (by rw [hb,dge (by omega),cond_false])
 rw [h]
 congr 1
 cases ha:s.all bw with
 | true =>
   have:s.any (fun c=>!bw c)=false:=by rw [List.any_eq_false]; intro x hx; simp [List.all_eq_true.1 ha x hx]
   rw [this]; rfl
 | false =>
   have:s.any (fun c=>!bw c)=true:=by
     rw [List.all_eq_false] at ha
     obtain ⟨x,hx,h⟩:=ha
     exact List.any_eq_true.2 ⟨x,hx,by simpa using h⟩
   rw [this]; rfl
theorem Au {s:List UInt8} (h:0 < s.length):aa s 0=some (s[0]'h):=ai (k:=0) h
theorem zu {s:List UInt8} (h:0 < s.length):decide ((((s[0]'h).toNat:Nat):Int)=48)=decide (s.head? = some 48):=by
 cases s with
 | nil=>simp at h
 | cons b l =>
   simp only [List.getElem_cons_zero,List.head?_cons,Option.some.injEq]
   by_cases hb:b=48
   . subst hb; rfl
   . have:¬ ((b.toNat:Nat):Int)=48:=fun e=>hb (by apply UInt8.toNat_inj.1; simpa using Int.ofNat.inj e)
     simp [hb,this]
theorem BV (s:List UInt8) (hn:s.length≤1000000):nB s=some (bY s):=by
 unfold nB
 by_cases h0:s=[]
 . subst h0; rfl
 have hp:0 < s.length:=List.length_pos_iff.2 h0
 have hl:=yn (s:=s) (body:=vi s) (.inr false) (.inl ()) hn (fun i=>rfl)
 have he:decide (s=([]:List UInt8))=false:=by simp [h0]
 rw [he,cond_false]
 by_cases h1:1 < s.length
 . have e1:decide (1 < (((s.length:Nat):Int)))=true:=by simp; omega
   rw [e1,cond_true,Au hp]
   simp only [Option.bind_some,zu hp]
   unfold bY
   have e2:¬ s.length=1:=by omega
   by_cases h2:s.head? = some 48
   . simp [h2,e2]
   . simp only [h2,decide_false,cond_false,hl,e2,h1,decide_true,Bool.false_or,Bool.true_and,Bool.not_false,Bool.and_true]
     cases s.all bw <;> simp
 . have e1:decide (1 < (((s.length:Nat):Int)))=false:=by simp; omega
   rw [e1,cond_false]
   simp only [Option.bind_some,cond_false,hl]
   unfold bY
   have e2:s.length=1:=by omega
   simp only [e2,decide_true,Bool.true_or,Bool.and_true]
   cases s.all bw <;> simp
theorem Et (s:List UInt8) (hn:s.length≤1000000):n8 s=some (bY s):=by
 unfold n8
 have hl:=yn (s:=s) (body:=vp s) (.inr false) (.inl ()) hn (fun i=>rfl)
 rw [hl]
 unfold bY
 cases ha:s.all bw with
 | false=>simp
 | true =>
   by_cases e2:s.length=1
   . simp [e2]
   . by_cases h1:1 < s.length
     . have hp:0 < s.length:=by omega
       have e1:decide (1 < (((s.length:Nat):Int)))=true:=by simp; omega
       have e3:decide ((((s.length:Nat):Int))=1)=false:=by simp; omega
       have:=zu hp
       simp only [e1,e3,e2,h1,Au hp,if_true,Option.bind_some,cond_true,cond_false,decide_true,decide_false,Bool.false_or,Bool.true_and,this]
     . have e1:decide (1 < (((s.length:Nat):Int)))=false:=by simp; omega
       have e3:decide ((((s.length:Nat):Int))=1)=false:=by simp; omega
       simp [e1,e3,e2,h1]
theorem jk (s:List UInt8) (most:Int) (hn:s.length≤1000000) (hm : -9223372036854775808≤most) (hm2:most≤9223372036854775807):fp s most=some (aq s most):=by
 unfold fp
 rw [BV s hn]
 unfold aq
 cases hs:bY s with
 | false=>simp
 | true =>
   have ha:=yU hs
   simp only [Option.bind_some,Bool.not_true,cond_false,if_true]
   have h:=gh (body:=fj s most) (fun k=>most < (val (s.take (k + 1)):Int)) (fun k:Nat=>(((val (s.take k):Nat):Int),(k:Int))) s.length (fun _ => .inr (0,5)) (.inl ((val s:Nat):Int))
   have step:∀ k,k < s.length→(∀ j,j < k→¬ most < (val (s.take (j + 1)):Int))→fj s most (((val (s.take k):Nat):Int),(k:Int))=if most < (val (s.take (k + 1)):Int) then some (.inr (.inr (0,5))) else some (.inl ((((val (s.take (k + 1)):Nat):Int),((k + 1:Nat):Int)))):=by
     intro k hk hprev
     obtain ⟨b1,b2⟩:=zo s[k] (List.all_eq_true.1 ha _ (List.getElem_mem hk))
     have hv:=xM hk
     have hpre:k=0∨((val (s.take k):Nat):Int)≤most:=by
       rcases Nat.eq_zero_or_pos k with h | h
       . exact .inl h
       . right
         have:=hprev (k - 1) (by omega)
         rw [show k - 1 + 1=k by omega] at this
         omega
     have hz:k=0→val (s.take k)=0:=fun e=>by subst e; rfl
     unfold fj
     simp only [dlt hk,cond_true,ai hk,Option.bind_some,b1]
     rw [hv]
     by_cases h1:most < (dig s[k]:Int)
     . have:most < ((val (s.take k) * 10 + dig s[k]:Nat):Int):=by omega
       rw [if_pos this]; simp [h1]
     . have e1:IntKind.wrap .i64 (most - (dig s[k]:Int))=most - (dig s[k]:Int):=w64 (by omega) (by omega)
       have e2:Int.tdiv (most - (dig s[k]:Int)) 10=(most - (dig s[k]:Int)) / 10:=Int.tdiv_eq_ediv_of_nonneg (by omega)
       have e3:IntKind.wrap .i64 ((most - (dig s[k]:Int)) / 10)=(most - (dig s[k]:Int)) / 10:=w64 (by omega) (by omega)
       rw [e1,e2,e3]
       by_cases h2:most < ((val (s.take k) * 10 + dig s[k]:Nat):Int)
       . have:(most - (dig s[k]:Int)) / 10 < ((val (s.take k):Nat):Int):=by omega
         rw [if_pos h2]; simp [this]
       . have:¬ (most - (dig s[k]:Int)) / 10 < ((val (s.take k):Nat):Int):=by omega
         rw [if_neg h2]
         have w1:IntKind.wrap .i64 (((val (s.take k):Nat):Int) * 10)=((val (s.take k):Nat):Int) * 10:=w64 (by omega) (by omega)
         have w2:IntKind.wrap .i64 (((val (s.take k):Nat):Int) * 10 + (dig s[k]:Int))=((val (s.take k) * 10 + dig s[k]:Nat):Int):=by rw [w64 (by omega) (by omega)]; omega
         simp only [decide_eq_false h1,decide_eq_false this,Bool.or_self,cond_false,w1,w2,an hk (by omega)]
   rcases aS (fun k=>most < (val (s.take (k + 1)):Int)) s.length with ⟨k,hk,hp,hmin⟩ | hall
   . have hl:loop (fj s most) (0,0)=some (.inr (0,5)):=by
       have:=cg (body:=fj s most) (fun k:Nat=>(((val (s.take k):Nat):Int),(k:Int))) k (b := .inr (0,5)) (fun j hj=>by rw [step j (by omega) (fun i hi=>hmin i (by omega)),if_neg (hmin j hj)]) (by rw [step k hk hmin,if_pos hp])
       exact this
     rw [hl]
     have h9:most < ((val s:Nat):Int):=by have:=vO s (k + 1); omega
     simp [h9]
   . have hl:loop (fj s most) (0,0)=some (.inl ((val s:Nat):Int)):=by
       have:=cg (body:=fj s most) (fun k:Nat=>(((val (s.take k):Nat):Int),(k:Int))) s.length (b := .inl ((val s:Nat):Int)) (fun j hj=>by rw [step j hj (fun i hi=>hall i (by omega)),if_neg (hall j hj)]) (by
         unfold fj
         simp only [dge (show ¬ s.length < s.length by omega),cond_false,List.take_length])
       exact this
     rw [hl]
     have h9:¬ most < ((val s:Nat):Int):=by
       have hp:0 < s.length:=List.length_pos_iff.2 (Hl hs)
       have:=hall (s.length - 1) (by omega)
       rw [show s.length - 1 + 1=s.length by omega,List.take_length] at this
       exact this
     simp [h9]
theorem ep (s:List UInt8) (most:Int) (hn:s.length≤1000000) (hm2:most≤9223372036854775807):cI s most=some (aq s most):=by
 unfold cI
 rw [Et s hn]
 unfold aq
 cases hs:bY s with
 | false=>simp
 | true =>
   have ha:=yU hs
   simp only [Option.bind_some,Bool.not_true,cond_false,if_true]
   have step:∀ k,k < s.length→((val (s.take k):Nat):Int)≤9223372036854775807→f7 s (((val (s.take k):Nat):Int),(k:Int))=if 9223372036854775807 < (val (s.take (k + 1)):Int) then some (.inr (.inr (0,5))) else some (.inl ((((val (s.take (k + 1)):Nat):Int),((k + 1:Nat):Int)))):=by
     intro k hk hprev
     obtain ⟨b1,b2⟩:=zo s[k] (List.all_eq_true.1 ha _ (List.getElem_mem hk))
     have hv:=xM hk
     unfold f7
     simp only [dlt hk,cond_true,ai hk,Option.bind_some,b1]
     rw [hv]
     by_cases h2:9223372036854775807 < ((val (s.take k) * 10 + dig s[k]:Nat):Int)
     . rw [if_pos h2]
       have:(decide (922337203685477580 < ((val (s.take k):Nat):Int))||(decide (((val (s.take k):Nat):Int)=922337203685477580)&&decide (7 < (dig s[k]:Int))))=true:=by
         simp only [Bool.or_eq_true,Bool.and_eq_true,decide_eq_true_eq]; omega
       rw [this]; rfl
     . rw [if_neg h2]
       have:(decide (922337203685477580 < ((val (s.take k):Nat):Int))||(decide (((val (s.take k):Nat):Int)=922337203685477580)&&decide (7 < (dig s[k]:Int))))=false:=by
         rw [Bool.eq_false_iff]; intro hc
         simp only [Bool.or_eq_true,Bool.and_eq_true,decide_eq_true_eq] at hc; omega
       rw [this,cond_false]
       have w1:IntKind.wrap .i64 (((val (s.take k):Nat):Int) * 10)=((val (s.take k):Nat):Int) * 10:=w64 (by omega) (by omega)
       have w2:IntKind.wrap .i64 (((val (s.take k):Nat):Int) * 10 + (dig s[k]:Int))=((val (s.take k) * 10 + dig s[k]:Nat):Int):=by rw [w64 (by omega) (by omega)]; omega
       rw [w1,w2,an hk (by omega)]
   have hpre:∀ k,(∀ j,j < k→¬ 9223372036854775807 < (val (s.take (j + 1)):Int))→((val (s.take k):Nat):Int)≤9223372036854775807:=fun k h=>by
     rcases Nat.eq_zero_or_pos k with h0 | h0
     . subst h0; show ((0:Nat):Int)≤_; omega
     . have:=h (k - 1) (by omega)
       rw [show k - 1 + 1=k by omega] at this; omega
   rcases aS (fun k=>9223372036854775807 < (val (s.take (k + 1)):Int)) s.length with ⟨k,hk,hp,hmin⟩ | hall
   . have hl:loop (f7 s) (0,0)=some (.inr (0,5)):=by
       have:=cg (body:=f7 s) (fun k:Nat=>(((val (s.take k):Nat):Int),(k:Int))) k (b := .inr (0,5)) (fun j hj=>by rw [step j (by omega) (hpre j (fun i hi=>hmin i (by omega))),if_neg (hmin j hj)]) (by rw [step k hk (hpre k hmin),if_pos hp])
       exact this
     rw [hl]
     have h9:most < ((val s:Nat):Int):=by have:=vO s (k + 1); omega
     simp [h9]
   . have hl:loop (f7 s) (0,0)=some (.inl ((val s:Nat):Int)):=by
       have:=cg (body:=f7 s) (fun k:Nat=>(((val (s.take k):Nat):Int),(k:Int))) s.length (b := .inl ((val s:Nat):Int)) (fun j hj=>by rw [step j hj (hpre j (fun i hi=>hall i (by omega))),if_neg (hall j hj)]) (by
         unfold f7
         simp only [dge (show ¬ s.length < s.length by omega),cond_false,List.take_length])
       exact this
     rw [hl]
     by_cases h9:most < ((val s:Nat):Int) <;> simp [h9]
theorem uc {d:Nat} (h:d < 10):IntKind.wrap .u8 (IntKind.wrap .i64 (48 + (d:Int)))=((48 + d:Nat):Int):=by
 rw [w64 (by omega) (by omega)]
 have e:IntKind.wrap .u8 (48 + (d:Int))=(48 + (d:Int)) % 256:=IntKind.wrap_u8' _
 rw [e,Int.emod_eq_of_lt (by omega) (by omega)]; omega
theorem CI:∀ (k n a:Nat) (l:List Int),n < 10 ^ (k + 1)→n≤9223372036854775807→k < a→a≤20→l.length=20→loop kB ((n:Int),l,(a:Int))=some (dec n++cz (l.drop a)):=by
 intro k
 induction k with
 | zero =>
   intro n a l hn hb ha ha2 hl
   have h10:n < 10:=by simpa using hn
   have e0:IntKind.wrap .i64 ((a:Int) - 1)=((a - 1:Nat):Int):=by rw [w64 (by omega) (by omega)]; omega
   have e1:Int.tmod (n:Int) 10=(n:Int):=by rw [Int.tmod_eq_emod_of_nonneg (by omega)]; omega
   have e2:Int.tdiv (n:Int) 10=0:=by rw [Int.tdiv_eq_ediv_of_nonneg (by omega)]; omega
   refine aB ?_
   unfold kB
   have hs:subL (l.set (a - 1) ((48 + n:Nat):Int)) ((a - 1:Nat):Int) (((20:Nat):Int))=some (((48 + n:Nat):Int) :: l.drop a):=by
     rw [b9 (by omega) (by omega) (by rw [List.length_set,hl]; omega)]
     simp only [Int.toNat_natCast]
     rw [List.take_of_length_le (by rw [List.length_set,hl]; omega),List.drop_eq_getElem_cons (by rw [List.length_set]; omega),List.getElem_set_self,List.drop_set_of_lt (by omega),show a - 1 + 1=a by omega]
   simp only [e0,ai (show a - 1 < l.length by omega),Option.bind_some,e1,uc h10,e2,Int.toNat_natCast,show IntKind.wrap .i64 0=0 from rfl,decide_true,cond_true,hs]
   rw [dA h10]
   simp only [cz,List.map_cons,Int.toNat_natCast]; rfl
 | succ k ih =>
   intro n a l hn hb ha ha2 hl
   by_cases h10:n < 10
   . have e0:IntKind.wrap .i64 ((a:Int) - 1)=((a - 1:Nat):Int):=by rw [w64 (by omega) (by omega)]; omega
     have e1:Int.tmod (n:Int) 10=(n:Int):=by rw [Int.tmod_eq_emod_of_nonneg (by omega)]; omega
     have e2:Int.tdiv (n:Int) 10=0:=by rw [Int.tdiv_eq_ediv_of_nonneg (by omega)]; omega
     refine aB ?_
     unfold kB
     have hs:subL (l.set (a - 1) ((48 + n:Nat):Int)) ((a - 1:Nat):Int) (((20:Nat):Int))=some (((48 + n:Nat):Int) :: l.drop a):=by
       rw [b9 (by omega) (by omega) (by rw [List.length_set,hl]; omega)]
       simp only [Int.toNat_natCast]
       rw [List.take_of_length_le (by rw [List.length_set,hl]; omega),List.drop_eq_getElem_cons (by rw [List.length_set]; omega),List.getElem_set_self,List.drop_set_of_lt (by omega),show a - 1 + 1=a by omega]
     simp only [e0,ai (show a - 1 < l.length by omega),Option.bind_some,e1,uc h10,e2,Int.toNat_natCast,show IntKind.wrap .i64 0=0 from rfl,decide_true,cond_true,hs]
     rw [dA h10]
     simp only [cz,List.map_cons,Int.toNat_natCast]; rfl
   . have e0:IntKind.wrap .i64 ((a:Int) - 1)=((a - 1:Nat):Int):=by rw [w64 (by omega) (by omega)]; omega
     have e1:Int.tmod (n:Int) 10=((n % 10:Nat):Int):=by rw [Int.tmod_eq_emod_of_nonneg (by omega)]; omega
     have e2:IntKind.wrap .i64 (Int.tdiv (n:Int) 10)=((n / 10:Nat):Int):=by rw [Int.tdiv_eq_ediv_of_nonneg (by omega),w64 (by omega) (by omega)]; omega
     have e3:decide (((n / 10:Nat):Int)=0)=false:=by simp; omega
     rw [aQ (s':=(((n / 10:Nat):Int),l.set (a - 1) ((48 + n % 10:Nat):Int),((a - 1:Nat):Int))),ih (n / 10) (a - 1) _ (by rw [Nat.pow_succ] at hn; omega) (by omega) (by omega) (by omega) (by rw [List.length_set,hl])]
     . rw [fO h10,List.drop_eq_getElem_cons (by rw [List.length_set]; omega),List.getElem_set_self,List.drop_set_of_lt (by omega),show a - 1 + 1=a by omega]
       simp only [cz,List.map_cons,Int.toNat_natCast,List.append_assoc]; rfl
     . unfold kB
       simp only [e0,ai (show a - 1 < l.length by omega),Option.bind_some,e1,uc (show n % 10 < 10 by omega),e2,e3,Int.toNat_natCast,cond_false]
theorem cC (n:Int) (h:n≤9223372036854775807):bH n=some (text n):=by
 unfold bH text
 by_cases h0:n < 0
 . simp [h0]
 . obtain ⟨m,rfl⟩:=Int.eq_ofNat_of_zero_le (show 0≤n by omega)
   rw [if_neg h0,decide_eq_false h0,cond_false]
   have:=CI 18 m 20 [0,0,0,0,0,0,0,0,0,0,0,0,0,0,0,0,0,0,0,0] (by omega) (by omega) (by omega) (by omega) rfl
   rw [show ((20:Nat):Int)=20 from rfl] at this
   rw [this]
   simp [cz]
theorem tT {d:Nat} (h:d < 10):subL ([48,49,50,51,52,53,54,55,56,57]:List UInt8) (d:Int) (IntKind.wrap .i64 ((d:Int) + 1))=some [ch d]:=by
 have:d=0∨d=1∨d=2∨d=3∨d=4∨d=5∨d=6∨d=7∨d=8∨d=9:=by omega
 rcases this with h | h | h | h | h | h | h | h | h | h <;> subst h <;> decide
theorem C0:∀ (k n fuel:Nat),n < 10 ^ (k + 1)→k < 19→n≤9223372036854775807→k < fuel→fq fuel (n:Int)=some (dec n):=by
 intro k
 induction k with
 | zero =>
   intro n fuel hn hk hb hf
   have h10:n < 10:=by simpa using hn
   cases fuel with
   | zero=>omega
   | succ fuel =>
     unfold fq
     have e1:decide ((n:Int) < 0)=false:=decide_eq_false (by omega)
     have e2:decide ((n:Int) < 10)=true:=by simp; omega
     simp only [e1,e2,cond_true,cond_false,tT h10,Option.bind_some]
     rw [dA h10]
 | succ k ih =>
   intro n fuel hn hk hb hf
   cases fuel with
   | zero=>omega
   | succ fuel =>
     unfold fq
     have e1:decide ((n:Int) < 0)=false:=decide_eq_false (by omega)
     by_cases h10:n < 10
     . have e2:decide ((n:Int) < 10)=true:=by simp; omega
       simp only [e1,e2,cond_true,cond_false,tT h10,Option.bind_some]
       rw [dA h10]
     . have e2:decide ((n:Int) < 10)=false:=by simp; omega
       have e3:Int.tmod (n:Int) 10=((n % 10:Nat):Int):=by rw [Int.tmod_eq_emod_of_nonneg (by omega)]; omega
       have e4:IntKind.wrap .i64 (Int.tdiv (n:Int) 10)=((n / 10:Nat):Int):=by rw [Int.tdiv_eq_ediv_of_nonneg (by omega),w64 (by omega) (by omega)]; omega
       have e5:=yc k (n / 10) (by rw [Nat.pow_succ] at hn; omega)
       simp only [e1,e2,e3,e4,cond_false,tT (show n % 10 < 10 by omega),Option.bind_some,ih (n / 10) fuel (by rw [Nat.pow_succ] at hn; omega) (by omega) (by omega) (by omega)]
       rw [aj (by simp; omega)]
       simp only [Option.bind_some]
       rw [fO h10]
theorem cV (n:Int) (h:n≤9223372036854775807):bI n=some (text n):=by
 unfold bI text
 by_cases h0:n < 0
 . refine ze 1 (fun m hm=>?_)
   cases m with
   | zero=>omega
   | succ m=>unfold fq; simp [h0]
 . obtain ⟨m,rfl⟩:=Int.eq_ofNat_of_zero_le (show 0≤n by omega)
   rw [if_neg h0]
   exact ze 19 (fun f hf=>C0 18 m f (by omega) (by omega) (by omega) (by omega))
def pair (b:Int×Int):List UInt8:=if b.1 < 0∨b.2 < 0 then [] else text b.1++58 :: text b.2
theorem xu (b:Int×Int) (h1:b.1≤9223372036854775807) (h2:b.2≤9223372036854775807):iX b=some (pair b):=by
 unfold iX pair
 by_cases h:b.1 < 0∨b.2 < 0
 . rw [if_pos h]
   have:(decide (b.1 < 0)||decide (b.2 < 0))=true:=by simpa using h
   rw [this]; rfl
 . rw [if_neg h]
   have:(decide (b.1 < 0)||decide (b.2 < 0))=false:=by simp; omega
   have l1:=av h1; have l2:=av h2
   rw [this,cond_false,cC _ h1,cC _ h2]
   simp only [Option.bind_some]
   rw [aj (by simp; omega)]
   simp only [Option.bind_some]
   rw [aj (by simp; omega)]
   simp
theorem xC (b:Int×Int) (h1:b.1≤9223372036854775807) (h2:b.2≤9223372036854775807):jd b=some (pair b):=by
 unfold jd pair
 by_cases h:b.1 < 0∨b.2 < 0
 . rw [if_pos h]
   have:(decide (b.1 < 0)||decide (b.2 < 0))=true:=by simpa using h
   rw [this]; rfl
 . rw [if_neg h]
   have:(decide (b.1 < 0)||decide (b.2 < 0))=false:=by simp; omega
   have l1:=av h1; have l2:=av h2
   rw [this,cond_false,cV _ h1,cV _ h2]
   simp only [Option.bind_some]
   rw [aj (by simp; omega)]
   simp only [Option.bind_some]
   rw [aj (by simp; omega)]
   simp
theorem sS {l:List Int} (h:∀ x∈l,x≤9223372036854775807):(lst l).length≤l.length * 20:=by
 have key:∀ l:List Int,(∀ x∈l,x≤9223372036854775807)→(l.map text).flatMap (44 :: ·)=l.flatMap (fun x=>44 :: text x)∧(l.flatMap (fun x=>44 :: text x)).length≤l.length * 20:=by
   intro l
   induction l with
   | nil=>intro _; simp
   | cons x l ih =>
     intro h
     obtain ⟨i1,i2⟩:=ih (fun y hy=>h y (by simp [hy]))
     have:=av (h x (by simp))
     refine ⟨by simp [List.flatMap_map],?_⟩
     simp only [List.flatMap_cons,List.length_append,List.length_cons]; omega
 unfold lst
 cases l with
 | nil=>simp [ae]
 | cons x l =>
   obtain ⟨i1,i2⟩:=key l (fun y hy=>h y (by simp [hy]))
   have:=av (h x (by simp))
   simp only [List.map_cons,ae,i1,List.length_append,List.length_cons]; omega
theorem xN (l:List Int) (x:Int):lst (l++[x])=if l=[] then text x else lst l++44 :: text x:=by
 unfold lst; rw [List.map_append,List.map_singleton,w6]; simp
theorem yX {a b:List UInt8} (h:a.length + b.length≤100000):wrS a b=some (a++b):=by unfold wrS; rw [aj (by omega)]
theorem CK (l:List Int) (hl:l.length≤1000) (h:∀ x∈l,x≤9223372036854775807):kR l=some (lst l):=by
 unfold kR
 have key:=cg (body:=kA l) (fun k:Nat=>((k:Int),lst (l.take k))) l.length (b:=lst l) ?_ ?_
 . have:loop (kA l) (0,([]:List UInt8))=some (lst l):=key
   rw [this]; rfl
 . intro k hk
   have hx:=h l[k] (List.getElem_mem hk)
   have hlen:=sS (l:=l.take k) (fun x hx=>h x (List.mem_of_mem_take hx))
   have hlt:(l.take k).length=k:=by rw [List.length_take]; omega
   have tl:=av hx
   unfold kA
   simp only [dlt hk,cond_true,ai hk,Option.bind_some,cC _ hx,an hk (by omega)]
   rw [bq hk,xN]
   by_cases h0:k=0
   . subst h0
     simp only [List.take_zero,if_true,show ((0:Nat):Int)=0 from rfl,show decide ((0:Int) < 0)=false from rfl,cond_false]
     have:lst []=[]:=rfl
     rw [this,yX (by simp; omega)]; rfl
   . have e1:decide ((0:Int) < (k:Int))=true:=by simp; omega
     have e2:¬ l.take k=[]:=by rw [← List.length_eq_zero_iff]; omega
     rw [e1,cond_true,if_neg e2]
     have e3:wrB (lst (l.take k)) 44=some (lst (l.take k)++[44]):=by unfold wrB; rw [if_pos (by omega),aj (by simp; omega)]; rfl
     rw [e3]
     simp only [Option.bind_some]
     rw [yX (by simp; omega)]
     simp
 . unfold kA
   simp only [dge (show ¬ l.length < l.length by omega),cond_false,List.take_length]
theorem DU (l:List Int) (hl:l.length≤100) (h:∀ x∈l,x≤9223372036854775807):kR l=some (lst l):=CK l (by omega) h
theorem Ds (l:List Int) (hl:l.length≤100) (h:∀ x∈l,x≤9223372036854775807):oa l=some (lst l):=by
 unfold oa
 have key:=cg (body:=kM l) (fun k:Nat=>(lst (l.take k),(k:Int))) l.length (b:=lst l) ?_ ?_
 . have:loop (kM l) (([]:List UInt8),0)=some (lst l):=key
   rw [this]; rfl
 . intro k hk
   have hx:=h l[k] (List.getElem_mem hk)
   have hlen:=sS (l:=l.take k) (fun x hx=>h x (List.mem_of_mem_take hx))
   have hlt:(l.take k).length=k:=by rw [List.length_take]; omega
   have tl:=av hx
   unfold kM
   simp only [dlt hk,cond_true,ai hk,Option.bind_some,cV _ hx,an hk (by omega)]
   rw [bq hk,xN]
   by_cases h0:k=0
   . subst h0
     simp only [List.take_zero,if_true,show ((0:Nat):Int)=0 from rfl,show decide ((0:Int) < 0)=false from rfl,cond_false,Option.bind_some]
     have:lst []=[]:=rfl
     rw [this,aj (by simp; omega)]; rfl
   . have e1:decide ((0:Int) < (k:Int))=true:=by simp; omega
     have e2:¬ l.take k=[]:=by rw [← List.length_eq_zero_iff]; omega
     rw [e1,cond_true,if_neg e2,aj (by simp; omega)]
     simp only [Option.bind_some]
     rw [aj (by simp; omega)]
     simp
 . unfold kM
   simp only [dge (show ¬ l.length < l.length by omega),cond_false,List.take_length]
end
end
end Go.Proofs.YtbheedkpbbmlcaaGreatDoor
